/- The walk of DiskRuns. -/
import Derived.Test.YtgcmejhgfdipkaaDkA
import Derived.Test.YtgcmejhgfdipkaaWf
namespace Go.Proofs.Ytgcmejhgfdipkaa.diskRuns
open Go.RowKit
open Dk Dkw

set_option maxRecDepth 100000 in
set_option maxHeartbeats 2000000 in
theorem walk (w : World) (room : Int) (w0 : (Lit.int .i64 room).wf = true) (A : Option Addr) (n c : Nat) (xs : List Ac) (hn : n = xs.length) (hl : n ≤ big) (hr : Acs w w.heap.size A xs) :
    Calls Try.prog 4 #[.int .i64 room, .slice A n c] w fun e w' => e = .returned (.bool true) ∧ Below w.heap.size w w' := by
  have H0 : Hid (I64 room) := Lib.hid (wf_i64 w0)
  have HN := Lib.hid hn; have HR := Lib.hid hr
  unfold big at hl
  clear hn hr w0
  go_enter Try.func4, Try.ntmps4
  go_wp2_with fail
  refine (alive_c _).mono ?_
  rintro e w2 ⟨rfl, hb⟩
  have HB := Lib.hid hb; clear hb
  go_wp2_with fail
  refine (new_c room H0.out _).mono ?_
  rintro e w3 ⟨p, F, rfl, hd, hF, hb⟩
  obtain ⟨a, rfl⟩ := hd.ptr
  have HD := Lib.hid hd; have HF : Hid (∀ k, F k → w.heap.size ≤ k) := Lib.hid (fun k hk => Nat.le_trans HB.out.size (hF k hk))
  have HB := Lib.hid (HB.out.trans (hb.mono HB.out.size))
  clear hd hF hb
  go_wp2_with fail
  refine (new_r room F _).mono ?_
  rintro e w4 ⟨v, rfl, ⟨A4, n4, c4, rfl, hn4, hc4, hr4⟩, hb⟩
  have HD := Lib.hid (HD.out.all hb)
  have HB := Lib.hid (HB.out.trans (hb.mono HB.out.size))
  have HN4 := Lib.hid hn4; have HC4 := Lib.hid hc4; have HR4 := Lib.hid hr4
  clear hb hn4 hc4 hr4
  unfold dv
  by_cases h200 : 200 < n
  · go_wp2
    go_ret
    exact ⟨rfl, bal HB.out (Nat.le_refl _) _⟩
  have hn2 : n ≤ 200 := by omega
  go_wp2
  have HRW : Hid (Rw (w4.alloc (.cells #[.slice A4 n4 c4, .int .i64 (newD room).safe, .int .i64 (newD room).room, .int .i64 (newD room).fuse, .bool (newD room).off] 30)) F w4.heap.size (newD room)) := Lib.hid ⟨A4, n4, c4, hat _ _ _ rfl, HN4.out, HC4.out, Rf.nil, fun h => by have := HD.out.lt _ h; omega⟩
  have HD := Lib.hid (HD.out.all (bal (Below.refl _ _) (Nat.le_refl _) (.cells #[.slice A4 n4 c4, .int .i64 (newD room).safe, .int .i64 (newD room).room, .int .i64 (newD room).fuse, .bool (newD room).off] 30)))
  have hgw : w.heap.size ≤ w4.heap.size := HB.out.size
  have HB := Lib.hid (bal HB.out (Nat.le_refl _) (.cells #[.slice A4 n4 c4, .int .i64 (newD room).safe, .int .i64 (newD room).room, .int .i64 (newD room).fuse, .bool (newD room).off] 30))
  generalize w4.alloc (.cells #[.slice A4 n4 c4, .int .i64 (newD room).safe, .int .i64 (newD room).room, .int .i64 (newD room).fuse, .bool (newD room).off] 30) = w5 at HRW HD HB ⊢
  generalize w4.heap.size = gw at HRW hgw ⊢
  clear HN4 HC4 HR4
  generalize (newD room) = d0 at HD HRW ⊢
  go_loopw [30] (fun i wr => ∃ (k : Nat) (d : D) (F : Nat → Prop), i = .int .i64 k ∧ k ≤ n ∧ Dd wr F (.pointer (some a)) d ∧ Rw wr F gw d ∧ (∀ k, F k → w.heap.size ≤ k) ∧ Below w.heap.size w wr) (fun i _ => n - (intOf i).toNat)
  case atStart => exact ⟨0, d0, F, rfl, Nat.zero_le _, HD.out, HRW.out, HF.out, HB.out⟩
  case round =>
    obtain ⟨k, d, F, rfl, hk, hd, hrw, hF, hb⟩ := hrel
    clear HD HF HB HRW
    have HD := Lib.hid hd; have HF := Lib.hid hF; have HB := Lib.hid hb; have HRW := Lib.hid hrw
    clear hd hF hb hrw
    by_cases h : k < n
    · obtain ⟨b, o, rfl, hbB, hcell⟩ := HR.out.1 (by rw [← HN.out]; omega)
      have hkl : k < xs.length := by rw [← HN.out]; exact h
      have hz : xs[k]? = some xs[k] := List.getElem?_eq_getElem hkl
      have hcu := (hcell k xs[k] hz).below HB.out hbB
      have HPO := Lib.hid (HR.out.2 xs[k] (List.getElem_mem hkl))
      generalize xs[k] = q at hcu HPO
      obtain ⟨ki, nu, pa, pn, pc, bs⟩ := q
      have HPO : Hid (I64 ki ∧ I64 nu ∧ pn = bs.length ∧ pn ≤ pc ∧ pn ≤ big ∧ Rd w w.heap.size pa (bs.map B8)) := HPO
      obtain ⟨q0, q1, q2⟩ := hcu
      have q0 : wr.cell? ⟨b, o + k * 3, none⟩ = some (.int .i64 ki) := q0
      have q1 : wr.cell? ⟨b, o + k * 3 + 1, none⟩ = some (.int .i64 nu) := q1
      have q2 : wr.cell? ⟨b, o + k * 3 + 2, none⟩ = some (.slice pa pn pc) := q2
      clear hz hkl hcell
      go_upto_region 11 with (fail)
      have VA := Lib.hid (Lc.new (o := (.cells #[.int .i64 ki, .int .i64 nu, .slice pa pn pc] 33)) HD.out.lt)
      have HD := Lib.hid (HD.out.all (bal (Below.refl _ _) (Nat.le_refl _) (.cells #[.int .i64 ki, .int .i64 nu, .slice pa pn pc] 33)))
      have HRW := Lib.hid (HRW.out.all (bal (Below.refl _ _) (Nat.le_refl _) (.cells #[.int .i64 ki, .int .i64 nu, .slice pa pn pc] 33)))
      have HB := Lib.hid (bal HB.out (Nat.le_refl _) (.cells #[.int .i64 ki, .int .i64 nu, .slice pa pn pc] 33))
      clear q0 q1 q2
      generalize wr.alloc (.cells #[.int .i64 ki, .int .i64 nu, .slice pa pn pc] 33) = w6 at VA HD HB HRW ⊢
      generalize wr.heap.size = ga at VA ⊢
      have v0 : w6.cell? ⟨ga, 0, none⟩ = some (.int .i64 ki) := by rw [cell_of_row _ _ _ _ _ _ VA.out.1]; rfl
      have u1 : w6.cell? ⟨ga, 1, none⟩ = some (.int .i64 nu) := by rw [cell_of_row _ _ _ _ _ _ VA.out.1]; rfl
      by_cases e0 : ki = 0
      · skip
        have z0 : (ki == 0) = true := by rw [beq_iff_eq]; exact e0
        clear e0
        have hw6 := HB.out.size
        have HIV := Lib.hid HD.out.iv
        have v2 : ∀ o, (w6.alloc o).cell? ⟨ga, 2, none⟩ = some (.slice pa pn pc) := fun o => by rw [cell_of_row _ _ _ _ _ _ (hbe VA.out.1)]; rfl
        go_wp2_with (at_builtin; refine wp_copy8 rfl (.tmp 38) (.tmp 40) rfl w6 rfl w.heap.size pa pn pc bs rfl HPO.out.2.2.1 (HPO.out.2.2.2.2.2.below HB.out) HB.out.size HPO.out.2.2.2.2.1 ?_; intro A7 c7 w7 how hb7)
        clear v0 u1 v2
        have hc7 := how.cap
        have HRF := Lib.hid (Rf.of_own how HD.out.lt)
        obtain ⟨O, hO⟩ : ∃ O : Nat → Prop, O = fun k => A7 = some ⟨k, 0, none⟩ := ⟨_, rfl⟩
        have HOB : Hid (∀ k, O k → w6.heap.size ≤ k ∧ k < w7.heap.size) := Lib.hid (by
          intro k hk
          rw [hO] at hk
          have hk : A7 = some ⟨k, 0, none⟩ := hk
          subst hk
          rcases how.2.2 with ⟨h0, _⟩ | ⟨g, cap, cur, hv, hg, _⟩
          · cases h0
          · injection hv with e1 e2 e3
            injection e1 with e1
            injection e1 with e1
            exact ⟨by omega, (how.2.lt k rfl).2⟩)
        have HOE : Hid (∀ k, A7 = some ⟨k, 0, none⟩ → O k) := Lib.hid (fun k hk => by rw [hO]; exact hk)
        clear hO
        have HRW := Lib.hid ((HRW.out.sup (F' := fun k => F k ∨ O k) (fun k h => h.elim Or.inl (fun h => Or.inr (HOB.out k h).1))).all hb7)
        have VA := Lib.hid (VA.out.all hb7)
        have HLT := Lib.hid HD.out.lt
        have HD := Lib.hid (HD.out.all hb7)
        have HB := Lib.hid (HB.out.trans (hb7.mono HB.out.size)); clear hb7
        have HOW := Lib.hid how; clear how
        refine (append_c _ _ A7 pn c7 bs HPO.out.2.2.1 hc7 HPO.out.2.2.2.2.1 F _ HD.out HRF.out).mono ?_
        rintro e w8 ⟨F8, rfl, hd, hg⟩
        have HOW : Hid (w8.ownsRow w6.heap.size 5 1 (.slice A7 pn c7) pn (bs.map B8)) := Lib.hid (by
          refine ⟨HOW.out.2.1, ?_⟩
          rcases HOW.out.2.2 with h0 | ⟨g, cap, cur, hv, hgb, hh, r⟩
          · exact .inl h0
          · refine .inr ⟨g, cap, cur, hv, hgb, ?_, r⟩
            injection hv with e1 e2 e3
            have hlt : g < w7.heap.size := (HOB.out g (HOE.out g e1)).2
            exact (hg.1.block g hlt (fun hf => by have := HLT.out g hf; omega)).trans hh)
        have HDJ : Hid (∀ k, F8 k → ¬ O k) := Lib.hid (fun k h ho => by
          have h1 := HOB.out k ho
          rcases hg.2 k h with h2 | h2
          · have := HLT.out k h2; omega
          · omega)
        have VA := Lib.hid (VA.out.keep hg)
        have HRW := Lib.hid (HRW.out.keep (F' := fun k => F8 k ∨ O k) ⟨hg.1.mono (fun _ h => Or.inl h), fun k h => h.elim (fun h => (hg.2 k h).elim (fun h => Or.inl (Or.inl h)) Or.inr) (fun h => Or.inl (Or.inr h))⟩)
        have hsz78 := hg.1.size
        have hg2 := hg.below HB.out.size HF.out
        have HD := Lib.hid hd; have HF := Lib.hid hg2.2; have HB := Lib.hid (HB.out.trans hg2.1)
        clear hd hg hg2
        clear HRF hc7
        obtain ⟨Aw, nw, cw, hxw, hnw, hcw, hrw, hfw⟩ := HRW.out
        have HVD : Hid (Ds w8 (fun k => (F8 k ∨ O k) ∨ k = gw) (dv Aw nw cw d) d) := Lib.hid ⟨Aw, nw, cw, rfl, hnw, hcw, hrw⟩
        have HGL : Hid (∀ k, ((F8 k ∨ O k) ∨ k = gw) → k < w8.heap.size) := Lib.hid (fun k h => h.elim (fun h => h.elim (HD.out.lt k) (fun h => by have := (HOB.out k h).2; omega)) (fun h => h ▸ hxw.lt))
        have x0 := hxw.c0; have x1 := hxw.c1; have x2 := hxw.c2; have x3 := hxw.c3; have x4 := hxw.c4
        have u2 : w8.cell? ⟨ga, 2, none⟩ = some (.slice pa pn pc) := by rw [cell_of_row _ _ _ _ _ _ VA.out.1]; rfl
        clear hxw hnw hcw hrw hfw
        go_wp2_with fail
        clear x0 x1 x2 x3 x4 u2
        refine (append_r (dv Aw nw cw d) d pa pn pc bs HPO.out.2.2.1 HPO.out.2.2.2.2.1 (fun k => (F8 k ∨ O k) ∨ k = gw) _ HGL.out HVD.out HIV.out ((HPO.out.2.2.2.2.2.below HB.out).more HB.out.size)).mono ?_
        rintro e w9 ⟨v, rfl, ⟨A9, n9, c9, rfl, hn9, hc9, hr9⟩, hb⟩
        have HOW := Lib.hid (own_below HOW.out hb (Nat.le_refl _))
        have HRW := Lib.hid (HRW.out.all hb); have HD := Lib.hid (HD.out.all hb); have HB := Lib.hid (HB.out.trans (hb.mono HB.out.size)); clear hb
        have HN8 := Lib.hid hn9; have HC8 := Lib.hid hc9; have HR8 := Lib.hid hr9
        clear hn9 hc9 hr9 HVD HGL HIV
        generalize appD d bs = d2 at HD HN8 HR8 ⊢
        generalize appE d bs = ae
        obtain ⟨_, _, _, hxw, _, _, _, hfw⟩ := HRW.out
        have x0 := hxw.c0; have x1 := hxw.c1; have x2 := hxw.c2; have x3 := hxw.c3; have x4 := hxw.c4
        have f0 := frozen_of_row w9 gw 0 _ _ hxw
        have f1 := frozen_of_row w9 gw 1 _ _ hxw
        have f2 := frozen_of_row w9 gw 2 _ _ hxw
        have f3 := frozen_of_row w9 gw 3 _ _ hxw
        have f4 := frozen_of_row w9 gw 4 _ _ hxw
        have HFW := Lib.hid hfw
        clear hxw hfw
        unfold dv
        go_upto_region 16 with (fail)
        clear x0 x1 x2 x3 x4 f0 f1 f2 f3 f4
        have HRW := Lib.hid (HRW.out.store HN8.out HC8.out HR8.out)
        have HD := Lib.hid (show Dd (((((w9.setCell ⟨gw, 0, none⟩ (.slice A9 n9 c9)).setCell ⟨gw, 1, none⟩ (.int .i64 d2.safe)).setCell ⟨gw, 2, none⟩ (.int .i64 d2.room)).setCell ⟨gw, 3, none⟩ (.int .i64 d2.fuse)).setCell ⟨gw, 4, none⟩ (.bool d2.off)) F8 _ d2 from ((((HD.out.setCell (fun h => HFW.out (Or.inl h)) _).setCell (fun h => HFW.out (Or.inl h)) _).setCell (fun h => HFW.out (Or.inl h)) _).setCell (fun h => HFW.out (Or.inl h)) _).setCell (fun h => HFW.out (Or.inl h)) _)
        have HB := Lib.hid (show Below w.heap.size w (((((w9.setCell ⟨gw, 0, none⟩ (.slice A9 n9 c9)).setCell ⟨gw, 1, none⟩ (.int .i64 d2.safe)).setCell ⟨gw, 2, none⟩ (.int .i64 d2.room)).setCell ⟨gw, 3, none⟩ (.int .i64 d2.fuse)).setCell ⟨gw, 4, none⟩ (.bool d2.off)) from ((((HB.out.setCell hgw _).setCell hgw _).setCell hgw _).setCell hgw _).setCell hgw _)
        have hng : ∀ k, A7 = some ⟨k, 0, none⟩ → k ≠ gw ∨ False := fun k h => Or.inl (fun e => HFW.out (Or.inr (HOE.out gw (by rw [← e]; exact h))))
        have HOW := Lib.hid (show (((((w9.setCell ⟨gw, 0, none⟩ (.slice A9 n9 c9)).setCell ⟨gw, 1, none⟩ (.int .i64 d2.safe)).setCell ⟨gw, 2, none⟩ (.int .i64 d2.room)).setCell ⟨gw, 3, none⟩ (.int .i64 d2.fuse)).setCell ⟨gw, 4, none⟩ (.bool d2.off)).ownsRow w6.heap.size 5 1 (.slice A7 pn c7) pn (bs.map B8) from (((((rows_set (g := gw) HOW.out hng 0 _) |> fun h => rows_set (g := gw) h hng 1 _) |> fun h => rows_set (g := gw) h hng 2 _) |> fun h => rows_set (g := gw) h hng 3 _) |> fun h => rows_set (g := gw) h hng 4 _))
        generalize ((((w9.setCell ⟨gw, 0, none⟩ (.slice A9 n9 c9)).setCell ⟨gw, 1, none⟩ (.int .i64 d2.safe)).setCell ⟨gw, 2, none⟩ (.int .i64 d2.room)).setCell ⟨gw, 3, none⟩ (.int .i64 d2.fuse)).setCell ⟨gw, 4, none⟩ (.bool d2.off) = wp at HRW HD HB HOW ⊢
        clear HN8 HC8 HR8 HFW hng
        have HKP : Hid (Kp O wp wp) := Lib.hid (Kp.refl _ _)
        have h47 : pn ≤ 140737488355328 := HPO.out.2.2.2.2.1
        go_wp2
        go_loopw [54] (fun i wv => ∃ (k2 : Nat) (vs : List Value), i = .int .i64 k2 ∧ k2 ≤ pn ∧ wv.ownsRow w6.heap.size 5 1 (.slice A7 pn c7) pn vs ∧ vs.length = pn ∧ (∀ v ∈ vs, ∃ x : Nat, x < 256 ∧ v = .int .u8 (x : Int)) ∧ Kp O wp wv) (fun i _ => pn - (intOf i).toNat)
        case atStart => exact ⟨0, bs.map B8, rfl, Nat.zero_le _, HOW.out, by rw [List.length_map]; exact HPO.out.2.2.1.symm, fun v hv => by obtain ⟨x, _, rfl⟩ := List.mem_map.1 hv; exact ⟨x.toNat, UInt8.toNat_lt x, rfl⟩, HKP.out⟩
        case round =>
          obtain ⟨k2, vs, rfl, hk2, hro, hvl, hvs, hkp⟩ := hrel
          have HRO := Lib.hid hro; have HVL := Lib.hid hvl; have HVS := Lib.hid hvs; have HKP2 := Lib.hid hkp
          clear hro hvl hvs hkp
          by_cases h2 : k2 < pn
          · obtain ⟨g, hA⟩ : ∃ g, A7 = some ⟨g, 0, none⟩ := by
              rcases HRO.out.2 with ⟨_, h0⟩ | ⟨g, cap, cur, hv, _⟩
              · omega
              · injection hv with e1 e2 e3
                exact ⟨g, e1⟩
            have HOG := Lib.hid (HOE.out g hA)
            subst hA
            have hc := HRO.out.cellAt k2 (by omega)
            have hf := HRO.out.frozenAt k2
            have hk3 : k2 < vs.length := by rw [HVL.out]; exact h2
            have hvk : vs[k2]? = some vs[k2] := List.getElem?_eq_getElem hk3
            rw [hvk] at hc
            obtain ⟨x, hx, hxe⟩ := HVS.out vs[k2] (List.getElem_mem _)
            rw [hxe] at hc
            clear hxe hvk hk3
            go_wp2
            refine ⟨⟨k2 + 1, vs.set k2 _, by go_num, by omega, (HRO.out.stored k2 _).1, by rw [List.length_set]; exact HVL.out, ?_, HKP2.out.setCell HOG.out _⟩, by simp [intOf]; omega⟩
            intro v hv
            rcases List.mem_or_eq_of_mem_set hv with h' | rfl
            · exact HVS.out v h'
            · exact ⟨(x + 1) % 256, Nat.mod_lt _ (by omega), by simp⟩
          · have HRW := Lib.hid ((HRW.out.keep (F' := fun k => F8 k ∨ O k) ⟨HKP2.out.mono (fun _ h => Or.inr h), fun _ h => Or.inl h⟩).sub (F := F8) (fun _ h => Or.inl h))
            have HD := Lib.hid (HD.out.keep HKP2.out.size (fun k hk => HKP2.out.block k (HD.out.lt k hk) (HDJ.out k hk)))
            have HB := Lib.hid (HB.out.trans (HKP2.out.below HB.out.size (fun k hk => Nat.le_trans hw6 (HOB.out k hk).1)))
            clear HRO HVL HVS HKP2 HOW HKP
            go_upto_region 36 with (fail)
            obtain ⟨Aq, nq, cq, hxq, hnq, hcq, hrq, hfq⟩ := HRW.out
            have HKQ : Hid (∀ W', Below wr.heap.size wr W' → (W'.cell? ⟨gw, 0, none⟩ = some (.slice Aq nq cq) ∧ W'.cell? ⟨gw, 1, none⟩ = some (.int .i64 d2.safe) ∧ W'.cell? ⟨gw, 4, none⟩ = some (.bool d2.off)) ∧ (convert 27 9 (.slice Aq nq cq)).run Try.prog W' = .ok (.string (str d2.data)) W') := Lib.hid (fun W' h => ⟨⟨(hxq.all h).c0, (hxq.all h).c1, (hxq.all h).c4⟩, str8' cq (hrq.rd.below h) hnq⟩)
            clear hxq hnq hcq hrq hfq
            have hsm := str_same d2.data
            refine wp_region_held_drew (S := fun W' => Below wr.heap.size wr W') (by kernel_rfl) (Below.refl _ _).drew (fun hHeld => ?_)
            generalize wr.drew = v1 at hHeld ⊢
            have HB1 : Hid (Below wr.heap.size wr v1) := hHeld
            clear hHeld
            refine take_in (i := 0) (oi := ⟨_, _, _, _, _, _⟩) (v := ?_) rfl (by kernel_rfl) (by kernel_rfl) (by kernel_rfl) (fun _ _ _ h => h) (by rfl) ?_ HB1.out ?_
            rotate_left
            · intro W hW; have hq := HKQ.out W hW; go_simp; with_reducible rfl
            simp only [Act.put, List.setIfInBounds_toArray, List.set_cons_zero, List.set_cons_succ]
            refine take_in (i := 1) (oi := ⟨_, _, _, _, _, _⟩) (v := ?_) rfl (by kernel_rfl) (by kernel_rfl) (by kernel_rfl) (fun _ _ _ h => h) (by rfl) ?_ HB1.out ?_
            rotate_left
            · intro W hW; have hq := HKQ.out W hW; go_simp; with_reducible rfl
            simp only [Act.put, List.setIfInBounds_toArray, List.set_cons_zero, List.set_cons_succ]
            refine take_in (i := 2) (oi := ⟨_, _, _, _, _, _⟩) (v := ?_) rfl (by kernel_rfl) (by kernel_rfl) (by kernel_rfl) (fun _ _ _ h => h) (by rfl) ?_ HB1.out ?_
            rotate_left
            · intro W hW; have hq := HKQ.out W hW; go_simp; with_reducible rfl
            simp only [Act.put, List.setIfInBounds_toArray, List.set_cons_zero, List.set_cons_succ]
            refine take_in (i := 3) (oi := ⟨_, _, _, _, _, _⟩) (v := ?_) rfl (by kernel_rfl) (by kernel_rfl) (by kernel_rfl) (fun _ _ _ h => h) (by rfl) ?_ HB1.out ?_
            rotate_left
            · intro W hW; have hq := HKQ.out W hW; go_simp; with_reducible rfl
            simp only [Act.put, List.setIfInBounds_toArray, List.set_cons_zero, List.set_cons_succ]
            refine take_in (i := 4) (oi := ⟨_, _, _, _, _, _⟩) (v := ?_) rfl (by kernel_rfl) (by kernel_rfl) (by kernel_rfl) (fun _ _ _ h => h) (by rfl) ?_ HB1.out ?_
            rotate_left
            · intro W hW; have hq := HKQ.out W hW; go_simp; with_reducible rfl
            simp only [Act.put, List.setIfInBounds_toArray, List.set_cons_zero, List.set_cons_succ]
            refine take_in (i := 7) (oi := ⟨_, _, _, _, _, _⟩) (v := ?_) rfl (by kernel_rfl) (by kernel_rfl) (by kernel_rfl) (fun _ _ _ h => h) (by rfl) ?_ HB1.out ?_
            rotate_left
            · intro W hW; have hq := HKQ.out W hW; go_simp; with_reducible rfl
            simp only [Act.put, List.setIfInBounds_toArray, List.set_cons_zero, List.set_cons_succ]
            refine take_in (i := 8) (oi := ⟨_, _, _, _, _, _⟩) (v := ?_) rfl (by kernel_rfl) (by kernel_rfl) (by kernel_rfl) (fun _ _ _ h => h) (by rfl) ?_ HB1.out ?_
            rotate_left
            · intro W hW; have hq := HKQ.out W hW; go_simp; with_reducible rfl
            simp only [Act.put, List.setIfInBounds_toArray, List.set_cons_zero, List.set_cons_succ]
            refine take_in (i := 9) (oi := ⟨_, _, _, _, _, _⟩) (v := ?_) rfl (by kernel_rfl) (by kernel_rfl) (by kernel_rfl) (fun _ _ _ h => h) (by rfl) ?_ HB1.out ?_
            rotate_left
            · intro W hW; have hq := HKQ.out W hW; go_simp; with_reducible rfl
            simp only [Act.put, List.setIfInBounds_toArray, List.set_cons_zero, List.set_cons_succ]
            refine wpAnyH_ready (rs := [5]) (by kernel_rfl) (by simp) ?_
            refine AllReadyH.cons (o := ⟨_, _, _, _, _, _⟩) rfl (fun K hK => ?_) AllReadyH.nil
            go_simp
            refine (bytes_c _ _ F8 _ (HD.out.all HB1.out)).mono ?_
            rintro e v2 ⟨A9, n9, c9, rfl, how, hb⟩
            have HO9 := Lib.hid how; clear how
            have HB2 := Lib.hid (HB1.out.trans (hb.mono HB1.out.size)); clear hb
            refine hK.out _ _ HB2.out (fun _ => ?_)
            clear hK K
            have HK9 : Hid (∀ W', Below v2.heap.size v2 W' → (convert 27 9 (.slice A9 n9 c9)).run Try.prog W' = .ok (.string (str d2.data)) W') := Lib.hid (fun W' h => str8' c9 (HO9.out.rd.below h) HO9.out.1)
            refine tighten (S' := fun W' => Below v2.heap.size v2 W') (fun W' h => HB2.out.trans (h.mono HB2.out.size)) _ _ _ _ ?_
            have HB3 := Lib.hid (Below.refl v2.heap.size v2)
            have HD2 := Lib.hid (HD.out.all HB2.out)
            have HKQ : Hid (∀ W', Below v2.heap.size v2 W' → (W'.cell? ⟨gw, 0, none⟩ = some (.slice Aq nq cq) ∧ W'.cell? ⟨gw, 1, none⟩ = some (.int .i64 d2.safe) ∧ W'.cell? ⟨gw, 4, none⟩ = some (.bool d2.off))) := Lib.hid (fun W' h => (HKQ.out W' (HB2.out.trans (h.mono HB2.out.size))).1)
            refine take_in (i := 6) (oi := ⟨_, _, _, _, _, _⟩) (v := ?_) rfl (by kernel_rfl) (by kernel_rfl) (by kernel_rfl) (fun _ _ _ h => h) (by rfl) ?_ HB3.out ?_
            rotate_left
            · intro W hW; have hq := HK9.out W hW; go_simp; with_reducible rfl
            simp only [Act.put, List.setIfInBounds_toArray, List.set_cons_zero, List.set_cons_succ]
            refine take_in (i := 10) (oi := ⟨_, _, _, _, _, _⟩) (v := ?_) rfl (by kernel_rfl) (by kernel_rfl) (by kernel_rfl) (fun _ _ _ h => h) (by rfl) ?_ HB3.out ?_
            rotate_left
            · intro W hW; have hq := HKQ.out W hW; go_simp; with_reducible rfl
            simp only [Act.put, List.setIfInBounds_toArray, List.set_cons_zero, List.set_cons_succ]
            refine take_in (i := 11) (oi := ⟨_, _, _, _, _, _⟩) (v := ?_) rfl (by kernel_rfl) (by kernel_rfl) (by kernel_rfl) (fun _ _ _ h => h) (by rfl) ?_ HB3.out ?_
            rotate_left
            · intro W hW; have hq := HKQ.out W hW; go_simp; with_reducible rfl
            simp only [Act.put, List.setIfInBounds_toArray, List.set_cons_zero, List.set_cons_succ]
            refine take_in (i := 12) (oi := ⟨_, _, _, _, _, _⟩) (v := ?_) rfl (by kernel_rfl) (by kernel_rfl) (by kernel_rfl) (fun _ _ _ h => h) (by rfl) ?_ HB3.out ?_
            rotate_left
            · intro W hW; have hq := HKQ.out W hW; go_simp; with_reducible rfl
            simp only [Act.put, List.setIfInBounds_toArray, List.set_cons_zero, List.set_cons_succ]
            refine take_in (i := 13) (oi := ⟨_, _, _, _, _, _⟩) (v := ?_) rfl (by kernel_rfl) (by kernel_rfl) (by kernel_rfl) (fun _ _ _ h => h) (by rfl) ?_ HB3.out ?_
            rotate_left
            · intro W hW; have hq := HKQ.out W hW; go_simp; with_reducible rfl
            simp only [Act.put, List.setIfInBounds_toArray, List.set_cons_zero, List.set_cons_succ]
            refine take_in (i := 15) (oi := ⟨_, _, _, _, _, _⟩) (v := ?_) rfl (by kernel_rfl) (by kernel_rfl) (by kernel_rfl) (fun _ _ _ h => h) (by rfl) ?_ HB3.out ?_
            rotate_left
            · intro W hW; have hq := HKQ.out W hW; go_simp; with_reducible rfl
            simp only [Act.put, List.setIfInBounds_toArray, List.set_cons_zero, List.set_cons_succ]
            refine take_in (i := 16) (oi := ⟨_, _, _, _, _, _⟩) (v := ?_) rfl (by kernel_rfl) (by kernel_rfl) (by kernel_rfl) (fun _ _ _ h => h) (by rfl) ?_ HB3.out ?_
            rotate_left
            · intro W hW; have hq := HKQ.out W hW; go_simp; with_reducible rfl
            simp only [Act.put, List.setIfInBounds_toArray, List.set_cons_zero, List.set_cons_succ]
            refine wpAnyH_ready (rs := [14]) (by kernel_rfl) (by simp) ?_
            refine AllReadyH.cons (o := ⟨_, _, _, _, _, _⟩) rfl (fun K hK => ?_) AllReadyH.nil
            go_simp
            refine (safe_c _ _ F8 _ (HD2.out.all HB3.out)).mono ?_
            rintro e v3 ⟨rfl, hb⟩
            have HB4 := Lib.hid (HB3.out.trans (hb.mono HB3.out.size)); clear hb
            refine hK.out _ _ HB4.out (fun _ => ?_)
            clear hK K
            refine take_in (i := 17) (oi := ⟨_, _, _, _, _, _⟩) (v := ?_) rfl (by kernel_rfl) (by kernel_rfl) (by kernel_rfl) (fun _ _ _ h => h) (by rfl) ?_ HB4.out ?_
            rotate_left
            · intro W hW; have hq := HKQ.out W hW; go_simp; with_reducible rfl
            simp only [Act.put, List.setIfInBounds_toArray, List.set_cons_zero, List.set_cons_succ]
            refine take_in (i := 18) (oi := ⟨_, _, _, _, _, _⟩) (v := ?_) rfl (by kernel_rfl) (by kernel_rfl) (by kernel_rfl) (fun _ _ _ h => h) (by rfl) ?_ HB4.out ?_
            rotate_left
            · intro W hW; have hq := HKQ.out W hW; go_simp; with_reducible rfl
            simp only [Act.put, List.setIfInBounds_toArray, List.set_cons_zero, List.set_cons_succ]
            refine take_in (i := 19) (oi := ⟨_, _, _, _, _, _⟩) (v := ?_) rfl (by kernel_rfl) (by kernel_rfl) (by kernel_rfl) (fun _ _ _ h => h) (by rfl) ?_ HB4.out ?_
            rotate_left
            · intro W hW; have hq := HKQ.out W hW; go_simp; with_reducible rfl
            simp only [Act.put, List.setIfInBounds_toArray, List.set_cons_zero, List.set_cons_succ]
            refine take_in (i := 20) (oi := ⟨_, _, _, _, _, _⟩) (v := ?_) rfl (by kernel_rfl) (by kernel_rfl) (by kernel_rfl) (fun _ _ _ h => h) (by rfl) ?_ HB4.out ?_
            rotate_left
            · intro W hW; have hq := HKQ.out W hW; go_simp; with_reducible rfl
            simp only [Act.put, List.setIfInBounds_toArray, List.set_cons_zero, List.set_cons_succ]
            refine take_in (i := 22) (oi := ⟨_, _, _, _, _, _⟩) (v := ?_) rfl (by kernel_rfl) (by kernel_rfl) (by kernel_rfl) (fun _ _ _ h => h) (by rfl) ?_ HB4.out ?_
            rotate_left
            · intro W hW; have hq := HKQ.out W hW; go_simp; with_reducible rfl
            simp only [Act.put, List.setIfInBounds_toArray, List.set_cons_zero, List.set_cons_succ]
            refine take_in (i := 23) (oi := ⟨_, _, _, _, _, _⟩) (v := ?_) rfl (by kernel_rfl) (by kernel_rfl) (by kernel_rfl) (fun _ _ _ h => h) (by rfl) ?_ HB4.out ?_
            rotate_left
            · intro W hW; have hq := HKQ.out W hW; go_simp; with_reducible rfl
            simp only [Act.put, List.setIfInBounds_toArray, List.set_cons_zero, List.set_cons_succ]
            refine wpAnyH_ready (rs := [21]) (by kernel_rfl) (by simp) ?_
            refine AllReadyH.cons (o := ⟨_, _, _, _, _, _⟩) rfl (fun K hK => ?_) AllReadyH.nil
            go_simp
            refine (off_c _ _ F8 _ (HD2.out.all HB4.out)).mono ?_
            rintro e v4 ⟨rfl, hb⟩
            have HB5 := Lib.hid (HB4.out.trans (hb.mono HB4.out.size)); clear hb
            refine hK.out _ _ HB5.out (fun _ => ?_)
            clear hK K
            refine take_in (i := 24) (oi := ⟨_, _, _, _, _, _⟩) (v := ?_) rfl (by kernel_rfl) (by kernel_rfl) (by kernel_rfl) (fun _ _ _ h => h) (by rfl) ?_ HB5.out ?_
            rotate_left
            · intro W hW; go_simp; with_reducible rfl
            simp only [Act.put, List.setIfInBounds_toArray, List.set_cons_zero, List.set_cons_succ]
            refine take_in (i := 25) (oi := ⟨_, _, _, _, _, _⟩) (v := ?_) rfl (by kernel_rfl) (by kernel_rfl) (by kernel_rfl) (fun _ _ _ h => h) (by rfl) ?_ HB5.out ?_
            rotate_left
            · intro W hW; go_simp; with_reducible rfl
            simp only [Act.put, List.setIfInBounds_toArray, List.set_cons_zero, List.set_cons_succ]
            refine wpAnyH_done (by kernel_rfl) ?_ _
            have HB6 := Lib.hid (HB2.out.trans (HB5.out.mono HB2.out.size))
            go_wp2
            exact ⟨⟨k + 1, _, F8, by go_num, by omega, HD.out.all HB6.out, HRW.out.all HB6.out, HF.out, HB.out.trans (HB6.out.mono HB.out.size)⟩, by simp [intOf]; omega⟩
      have z0 : (ki == 0) = false := by rw [beq_eq_false_iff_ne]; exact e0
      clear e0
      by_cases e1 : ki = 1
      · skip
        have z1 : (ki == 1) = true := by rw [beq_iff_eq]; exact e1
        clear e1
        have HIV := Lib.hid HD.out.iv
        go_wp2_with fail
        clear v0 u1
        refine (sync_c _ _ F _ HD.out).mono ?_
        rintro e w7 ⟨F7, rfl, hd, hg⟩
        have VA := Lib.hid (VA.out.keep hg); have HRW := Lib.hid (HRW.out.keep hg)
        have hg2 := hg.below HB.out.size HF.out
        have HD := Lib.hid hd; have HF := Lib.hid hg2.2; have HB := Lib.hid (HB.out.trans hg2.1)
        clear hd hg hg2
        obtain ⟨Aw, nw, cw, hxw, hnw, hcw, hrw, hfw⟩ := HRW.out
        have HVD : Hid (Ds w7 (fun k => F7 k ∨ k = gw) (dv Aw nw cw d) d) := Lib.hid ⟨Aw, nw, cw, rfl, hnw, hcw, hrw⟩
        have HGL : Hid (∀ k, (F7 k ∨ k = gw) → k < w7.heap.size) := Lib.hid (fun k h => h.elim (HD.out.lt k) (fun h => h ▸ hxw.lt))
        have x0 := hxw.c0; have x1 := hxw.c1; have x2 := hxw.c2; have x3 := hxw.c3; have x4 := hxw.c4
        have u1 : w7.cell? ⟨ga, 1, none⟩ = some (.int .i64 nu) := by rw [cell_of_row _ _ _ _ _ _ VA.out.1]; rfl
        clear hxw hnw hcw hrw hfw
        go_wp2_with fail
        clear x0 x1 x2 x3 x4 u1
        refine (sync_r (dv Aw nw cw d) d (fun k => F7 k ∨ k = gw) _ HVD.out).mono ?_
        rintro e w8 ⟨v, rfl, ⟨A8, n8, c8, rfl, hn8, hc8, hr8⟩, hb⟩
        have HRW := Lib.hid (HRW.out.all hb); have HD := Lib.hid (HD.out.all hb); have HB := Lib.hid (HB.out.trans (hb.mono HB.out.size)); clear hb
        have HN8 := Lib.hid hn8; have HC8 := Lib.hid hc8; have HR8 := Lib.hid hr8
        clear hn8 hc8 hr8 HVD HGL HIV
        generalize syncD d = d2 at HD HN8 HR8 ⊢
        obtain ⟨_, _, _, hxw, _, _, _, hfw⟩ := HRW.out
        have x0 := hxw.c0; have x1 := hxw.c1; have x2 := hxw.c2; have x3 := hxw.c3; have x4 := hxw.c4
        have f0 := frozen_of_row w8 gw 0 _ _ hxw
        have f1 := frozen_of_row w8 gw 1 _ _ hxw
        have f2 := frozen_of_row w8 gw 2 _ _ hxw
        have f3 := frozen_of_row w8 gw 3 _ _ hxw
        have f4 := frozen_of_row w8 gw 4 _ _ hxw
        have HFW := Lib.hid hfw
        clear hxw hfw
        unfold dv
        go_upto_region 36 with (fail)
        clear x0 x1 x2 x3 x4 f0 f1 f2 f3 f4
        have HRW := Lib.hid (HRW.out.store HN8.out HC8.out HR8.out)
        have HD := Lib.hid (show Dd (((((w8.setCell ⟨gw, 0, none⟩ (.slice A8 n8 c8)).setCell ⟨gw, 1, none⟩ (.int .i64 d2.safe)).setCell ⟨gw, 2, none⟩ (.int .i64 d2.room)).setCell ⟨gw, 3, none⟩ (.int .i64 d2.fuse)).setCell ⟨gw, 4, none⟩ (.bool d2.off)) F7 _ d2 from ((((HD.out.setCell HFW.out _).setCell HFW.out _).setCell HFW.out _).setCell HFW.out _).setCell HFW.out _)
        have HB := Lib.hid (show Below w.heap.size w (((((w8.setCell ⟨gw, 0, none⟩ (.slice A8 n8 c8)).setCell ⟨gw, 1, none⟩ (.int .i64 d2.safe)).setCell ⟨gw, 2, none⟩ (.int .i64 d2.room)).setCell ⟨gw, 3, none⟩ (.int .i64 d2.fuse)).setCell ⟨gw, 4, none⟩ (.bool d2.off)) from ((((HB.out.setCell hgw _).setCell hgw _).setCell hgw _).setCell hgw _).setCell hgw _)
        generalize ((((w8.setCell ⟨gw, 0, none⟩ (.slice A8 n8 c8)).setCell ⟨gw, 1, none⟩ (.int .i64 d2.safe)).setCell ⟨gw, 2, none⟩ (.int .i64 d2.room)).setCell ⟨gw, 3, none⟩ (.int .i64 d2.fuse)).setCell ⟨gw, 4, none⟩ (.bool d2.off) = wq at HRW HD HB ⊢
        clear HN8 HC8 HR8 HFW
        obtain ⟨Aq, nq, cq, hxq, hnq, hcq, hrq, hfq⟩ := HRW.out
        have HKQ : Hid (∀ W', Below wq.heap.size wq W' → (W'.cell? ⟨gw, 0, none⟩ = some (.slice Aq nq cq) ∧ W'.cell? ⟨gw, 1, none⟩ = some (.int .i64 d2.safe) ∧ W'.cell? ⟨gw, 4, none⟩ = some (.bool d2.off)) ∧ (convert 27 9 (.slice Aq nq cq)).run Try.prog W' = .ok (.string (str d2.data)) W') := Lib.hid (fun W' h => ⟨⟨(hxq.all h).c0, (hxq.all h).c1, (hxq.all h).c4⟩, str8' cq (hrq.rd.below h) hnq⟩)
        clear hxq hnq hcq hrq hfq
        have hsm := str_same d2.data
        refine wp_region_held_drew (S := fun W' => Below wq.heap.size wq W') (by kernel_rfl) (Below.refl _ _).drew (fun hHeld => ?_)
        generalize wq.drew = v1 at hHeld ⊢
        have HB1 : Hid (Below wq.heap.size wq v1) := hHeld
        clear hHeld
        refine take_in (i := 0) (oi := ⟨_, _, _, _, _, _⟩) (v := ?_) rfl (by kernel_rfl) (by kernel_rfl) (by kernel_rfl) (fun _ _ _ h => h) (by rfl) ?_ HB1.out ?_
        rotate_left
        · intro W hW; have hq := HKQ.out W hW; go_simp; with_reducible rfl
        simp only [Act.put, List.setIfInBounds_toArray, List.set_cons_zero, List.set_cons_succ]
        refine take_in (i := 1) (oi := ⟨_, _, _, _, _, _⟩) (v := ?_) rfl (by kernel_rfl) (by kernel_rfl) (by kernel_rfl) (fun _ _ _ h => h) (by rfl) ?_ HB1.out ?_
        rotate_left
        · intro W hW; have hq := HKQ.out W hW; go_simp; with_reducible rfl
        simp only [Act.put, List.setIfInBounds_toArray, List.set_cons_zero, List.set_cons_succ]
        refine take_in (i := 2) (oi := ⟨_, _, _, _, _, _⟩) (v := ?_) rfl (by kernel_rfl) (by kernel_rfl) (by kernel_rfl) (fun _ _ _ h => h) (by rfl) ?_ HB1.out ?_
        rotate_left
        · intro W hW; have hq := HKQ.out W hW; go_simp; with_reducible rfl
        simp only [Act.put, List.setIfInBounds_toArray, List.set_cons_zero, List.set_cons_succ]
        refine take_in (i := 3) (oi := ⟨_, _, _, _, _, _⟩) (v := ?_) rfl (by kernel_rfl) (by kernel_rfl) (by kernel_rfl) (fun _ _ _ h => h) (by rfl) ?_ HB1.out ?_
        rotate_left
        · intro W hW; have hq := HKQ.out W hW; go_simp; with_reducible rfl
        simp only [Act.put, List.setIfInBounds_toArray, List.set_cons_zero, List.set_cons_succ]
        refine take_in (i := 4) (oi := ⟨_, _, _, _, _, _⟩) (v := ?_) rfl (by kernel_rfl) (by kernel_rfl) (by kernel_rfl) (fun _ _ _ h => h) (by rfl) ?_ HB1.out ?_
        rotate_left
        · intro W hW; have hq := HKQ.out W hW; go_simp; with_reducible rfl
        simp only [Act.put, List.setIfInBounds_toArray, List.set_cons_zero, List.set_cons_succ]
        refine take_in (i := 7) (oi := ⟨_, _, _, _, _, _⟩) (v := ?_) rfl (by kernel_rfl) (by kernel_rfl) (by kernel_rfl) (fun _ _ _ h => h) (by rfl) ?_ HB1.out ?_
        rotate_left
        · intro W hW; have hq := HKQ.out W hW; go_simp; with_reducible rfl
        simp only [Act.put, List.setIfInBounds_toArray, List.set_cons_zero, List.set_cons_succ]
        refine take_in (i := 8) (oi := ⟨_, _, _, _, _, _⟩) (v := ?_) rfl (by kernel_rfl) (by kernel_rfl) (by kernel_rfl) (fun _ _ _ h => h) (by rfl) ?_ HB1.out ?_
        rotate_left
        · intro W hW; have hq := HKQ.out W hW; go_simp; with_reducible rfl
        simp only [Act.put, List.setIfInBounds_toArray, List.set_cons_zero, List.set_cons_succ]
        refine take_in (i := 9) (oi := ⟨_, _, _, _, _, _⟩) (v := ?_) rfl (by kernel_rfl) (by kernel_rfl) (by kernel_rfl) (fun _ _ _ h => h) (by rfl) ?_ HB1.out ?_
        rotate_left
        · intro W hW; have hq := HKQ.out W hW; go_simp; with_reducible rfl
        simp only [Act.put, List.setIfInBounds_toArray, List.set_cons_zero, List.set_cons_succ]
        refine wpAnyH_ready (rs := [5]) (by kernel_rfl) (by simp) ?_
        refine AllReadyH.cons (o := ⟨_, _, _, _, _, _⟩) rfl (fun K hK => ?_) AllReadyH.nil
        go_simp
        refine (bytes_c _ _ F7 _ (HD.out.all HB1.out)).mono ?_
        rintro e v2 ⟨A9, n9, c9, rfl, how, hb⟩
        have HO9 := Lib.hid how; clear how
        have HB2 := Lib.hid (HB1.out.trans (hb.mono HB1.out.size)); clear hb
        refine hK.out _ _ HB2.out (fun _ => ?_)
        clear hK K
        have HK9 : Hid (∀ W', Below v2.heap.size v2 W' → (convert 27 9 (.slice A9 n9 c9)).run Try.prog W' = .ok (.string (str d2.data)) W') := Lib.hid (fun W' h => str8' c9 (HO9.out.rd.below h) HO9.out.1)
        refine tighten (S' := fun W' => Below v2.heap.size v2 W') (fun W' h => HB2.out.trans (h.mono HB2.out.size)) _ _ _ _ ?_
        have HB3 := Lib.hid (Below.refl v2.heap.size v2)
        have HD2 := Lib.hid (HD.out.all HB2.out)
        have HKQ : Hid (∀ W', Below v2.heap.size v2 W' → (W'.cell? ⟨gw, 0, none⟩ = some (.slice Aq nq cq) ∧ W'.cell? ⟨gw, 1, none⟩ = some (.int .i64 d2.safe) ∧ W'.cell? ⟨gw, 4, none⟩ = some (.bool d2.off))) := Lib.hid (fun W' h => (HKQ.out W' (HB2.out.trans (h.mono HB2.out.size))).1)
        refine take_in (i := 6) (oi := ⟨_, _, _, _, _, _⟩) (v := ?_) rfl (by kernel_rfl) (by kernel_rfl) (by kernel_rfl) (fun _ _ _ h => h) (by rfl) ?_ HB3.out ?_
        rotate_left
        · intro W hW; have hq := HK9.out W hW; go_simp; with_reducible rfl
        simp only [Act.put, List.setIfInBounds_toArray, List.set_cons_zero, List.set_cons_succ]
        refine take_in (i := 10) (oi := ⟨_, _, _, _, _, _⟩) (v := ?_) rfl (by kernel_rfl) (by kernel_rfl) (by kernel_rfl) (fun _ _ _ h => h) (by rfl) ?_ HB3.out ?_
        rotate_left
        · intro W hW; have hq := HKQ.out W hW; go_simp; with_reducible rfl
        simp only [Act.put, List.setIfInBounds_toArray, List.set_cons_zero, List.set_cons_succ]
        refine take_in (i := 11) (oi := ⟨_, _, _, _, _, _⟩) (v := ?_) rfl (by kernel_rfl) (by kernel_rfl) (by kernel_rfl) (fun _ _ _ h => h) (by rfl) ?_ HB3.out ?_
        rotate_left
        · intro W hW; have hq := HKQ.out W hW; go_simp; with_reducible rfl
        simp only [Act.put, List.setIfInBounds_toArray, List.set_cons_zero, List.set_cons_succ]
        refine take_in (i := 12) (oi := ⟨_, _, _, _, _, _⟩) (v := ?_) rfl (by kernel_rfl) (by kernel_rfl) (by kernel_rfl) (fun _ _ _ h => h) (by rfl) ?_ HB3.out ?_
        rotate_left
        · intro W hW; have hq := HKQ.out W hW; go_simp; with_reducible rfl
        simp only [Act.put, List.setIfInBounds_toArray, List.set_cons_zero, List.set_cons_succ]
        refine take_in (i := 13) (oi := ⟨_, _, _, _, _, _⟩) (v := ?_) rfl (by kernel_rfl) (by kernel_rfl) (by kernel_rfl) (fun _ _ _ h => h) (by rfl) ?_ HB3.out ?_
        rotate_left
        · intro W hW; have hq := HKQ.out W hW; go_simp; with_reducible rfl
        simp only [Act.put, List.setIfInBounds_toArray, List.set_cons_zero, List.set_cons_succ]
        refine take_in (i := 15) (oi := ⟨_, _, _, _, _, _⟩) (v := ?_) rfl (by kernel_rfl) (by kernel_rfl) (by kernel_rfl) (fun _ _ _ h => h) (by rfl) ?_ HB3.out ?_
        rotate_left
        · intro W hW; have hq := HKQ.out W hW; go_simp; with_reducible rfl
        simp only [Act.put, List.setIfInBounds_toArray, List.set_cons_zero, List.set_cons_succ]
        refine take_in (i := 16) (oi := ⟨_, _, _, _, _, _⟩) (v := ?_) rfl (by kernel_rfl) (by kernel_rfl) (by kernel_rfl) (fun _ _ _ h => h) (by rfl) ?_ HB3.out ?_
        rotate_left
        · intro W hW; have hq := HKQ.out W hW; go_simp; with_reducible rfl
        simp only [Act.put, List.setIfInBounds_toArray, List.set_cons_zero, List.set_cons_succ]
        refine wpAnyH_ready (rs := [14]) (by kernel_rfl) (by simp) ?_
        refine AllReadyH.cons (o := ⟨_, _, _, _, _, _⟩) rfl (fun K hK => ?_) AllReadyH.nil
        go_simp
        refine (safe_c _ _ F7 _ (HD2.out.all HB3.out)).mono ?_
        rintro e v3 ⟨rfl, hb⟩
        have HB4 := Lib.hid (HB3.out.trans (hb.mono HB3.out.size)); clear hb
        refine hK.out _ _ HB4.out (fun _ => ?_)
        clear hK K
        refine take_in (i := 17) (oi := ⟨_, _, _, _, _, _⟩) (v := ?_) rfl (by kernel_rfl) (by kernel_rfl) (by kernel_rfl) (fun _ _ _ h => h) (by rfl) ?_ HB4.out ?_
        rotate_left
        · intro W hW; have hq := HKQ.out W hW; go_simp; with_reducible rfl
        simp only [Act.put, List.setIfInBounds_toArray, List.set_cons_zero, List.set_cons_succ]
        refine take_in (i := 18) (oi := ⟨_, _, _, _, _, _⟩) (v := ?_) rfl (by kernel_rfl) (by kernel_rfl) (by kernel_rfl) (fun _ _ _ h => h) (by rfl) ?_ HB4.out ?_
        rotate_left
        · intro W hW; have hq := HKQ.out W hW; go_simp; with_reducible rfl
        simp only [Act.put, List.setIfInBounds_toArray, List.set_cons_zero, List.set_cons_succ]
        refine take_in (i := 19) (oi := ⟨_, _, _, _, _, _⟩) (v := ?_) rfl (by kernel_rfl) (by kernel_rfl) (by kernel_rfl) (fun _ _ _ h => h) (by rfl) ?_ HB4.out ?_
        rotate_left
        · intro W hW; have hq := HKQ.out W hW; go_simp; with_reducible rfl
        simp only [Act.put, List.setIfInBounds_toArray, List.set_cons_zero, List.set_cons_succ]
        refine take_in (i := 20) (oi := ⟨_, _, _, _, _, _⟩) (v := ?_) rfl (by kernel_rfl) (by kernel_rfl) (by kernel_rfl) (fun _ _ _ h => h) (by rfl) ?_ HB4.out ?_
        rotate_left
        · intro W hW; have hq := HKQ.out W hW; go_simp; with_reducible rfl
        simp only [Act.put, List.setIfInBounds_toArray, List.set_cons_zero, List.set_cons_succ]
        refine take_in (i := 22) (oi := ⟨_, _, _, _, _, _⟩) (v := ?_) rfl (by kernel_rfl) (by kernel_rfl) (by kernel_rfl) (fun _ _ _ h => h) (by rfl) ?_ HB4.out ?_
        rotate_left
        · intro W hW; have hq := HKQ.out W hW; go_simp; with_reducible rfl
        simp only [Act.put, List.setIfInBounds_toArray, List.set_cons_zero, List.set_cons_succ]
        refine take_in (i := 23) (oi := ⟨_, _, _, _, _, _⟩) (v := ?_) rfl (by kernel_rfl) (by kernel_rfl) (by kernel_rfl) (fun _ _ _ h => h) (by rfl) ?_ HB4.out ?_
        rotate_left
        · intro W hW; have hq := HKQ.out W hW; go_simp; with_reducible rfl
        simp only [Act.put, List.setIfInBounds_toArray, List.set_cons_zero, List.set_cons_succ]
        refine wpAnyH_ready (rs := [21]) (by kernel_rfl) (by simp) ?_
        refine AllReadyH.cons (o := ⟨_, _, _, _, _, _⟩) rfl (fun K hK => ?_) AllReadyH.nil
        go_simp
        refine (off_c _ _ F7 _ (HD2.out.all HB4.out)).mono ?_
        rintro e v4 ⟨rfl, hb⟩
        have HB5 := Lib.hid (HB4.out.trans (hb.mono HB4.out.size)); clear hb
        refine hK.out _ _ HB5.out (fun _ => ?_)
        clear hK K
        refine take_in (i := 24) (oi := ⟨_, _, _, _, _, _⟩) (v := ?_) rfl (by kernel_rfl) (by kernel_rfl) (by kernel_rfl) (fun _ _ _ h => h) (by rfl) ?_ HB5.out ?_
        rotate_left
        · intro W hW; go_simp; with_reducible rfl
        simp only [Act.put, List.setIfInBounds_toArray, List.set_cons_zero, List.set_cons_succ]
        refine take_in (i := 25) (oi := ⟨_, _, _, _, _, _⟩) (v := ?_) rfl (by kernel_rfl) (by kernel_rfl) (by kernel_rfl) (fun _ _ _ h => h) (by rfl) ?_ HB5.out ?_
        rotate_left
        · intro W hW; go_simp; with_reducible rfl
        simp only [Act.put, List.setIfInBounds_toArray, List.set_cons_zero, List.set_cons_succ]
        refine wpAnyH_done (by kernel_rfl) ?_ _
        have HB6 := Lib.hid (HB2.out.trans (HB5.out.mono HB2.out.size))
        go_wp2
        exact ⟨⟨k + 1, _, F7, by go_num, by omega, HD.out.all HB6.out, HRW.out.all HB6.out, HF.out, HB.out.trans (HB6.out.mono HB.out.size)⟩, by simp [intOf]; omega⟩
      have z1 : (ki == 1) = false := by rw [beq_eq_false_iff_ne]; exact e1
      clear e1
      by_cases e2 : ki = 2
      · skip
        have z2 : (ki == 2) = true := by rw [beq_iff_eq]; exact e2
        clear e2
        have HIV := Lib.hid HD.out.iv
        go_wp2_with fail
        clear v0 u1
        refine (crash_c _ _ nu HPO.out.2.1 F _ HD.out).mono ?_
        rintro e w7 ⟨F7, rfl, hd, hg⟩
        have VA := Lib.hid (VA.out.keep hg); have HRW := Lib.hid (HRW.out.keep hg)
        have hg2 := hg.below HB.out.size HF.out
        have HD := Lib.hid hd; have HF := Lib.hid hg2.2; have HB := Lib.hid (HB.out.trans hg2.1)
        clear hd hg hg2
        obtain ⟨Aw, nw, cw, hxw, hnw, hcw, hrw, hfw⟩ := HRW.out
        have HVD : Hid (Ds w7 (fun k => F7 k ∨ k = gw) (dv Aw nw cw d) d) := Lib.hid ⟨Aw, nw, cw, rfl, hnw, hcw, hrw⟩
        have HGL : Hid (∀ k, (F7 k ∨ k = gw) → k < w7.heap.size) := Lib.hid (fun k h => h.elim (HD.out.lt k) (fun h => h ▸ hxw.lt))
        have x0 := hxw.c0; have x1 := hxw.c1; have x2 := hxw.c2; have x3 := hxw.c3; have x4 := hxw.c4
        have u1 : w7.cell? ⟨ga, 1, none⟩ = some (.int .i64 nu) := by rw [cell_of_row _ _ _ _ _ _ VA.out.1]; rfl
        clear hxw hnw hcw hrw hfw
        go_wp2_with fail
        clear x0 x1 x2 x3 x4 u1
        refine (crash_r (dv Aw nw cw d) d nu (fun k => F7 k ∨ k = gw) _ HGL.out HVD.out HIV.out HPO.out.2.1.2).mono ?_
        rintro e w8 ⟨v, rfl, ⟨A8, n8, c8, rfl, hn8, hc8, hr8⟩, hb⟩
        have HRW := Lib.hid (HRW.out.all hb); have HD := Lib.hid (HD.out.all hb); have HB := Lib.hid (HB.out.trans (hb.mono HB.out.size)); clear hb
        have HN8 := Lib.hid hn8; have HC8 := Lib.hid hc8; have HR8 := Lib.hid hr8
        clear hn8 hc8 hr8 HVD HGL HIV
        generalize crashD d nu = d2 at HD HN8 HR8 ⊢
        obtain ⟨_, _, _, hxw, _, _, _, hfw⟩ := HRW.out
        have x0 := hxw.c0; have x1 := hxw.c1; have x2 := hxw.c2; have x3 := hxw.c3; have x4 := hxw.c4
        have f0 := frozen_of_row w8 gw 0 _ _ hxw
        have f1 := frozen_of_row w8 gw 1 _ _ hxw
        have f2 := frozen_of_row w8 gw 2 _ _ hxw
        have f3 := frozen_of_row w8 gw 3 _ _ hxw
        have f4 := frozen_of_row w8 gw 4 _ _ hxw
        have HFW := Lib.hid hfw
        clear hxw hfw
        unfold dv
        go_upto_region 36 with (fail)
        clear x0 x1 x2 x3 x4 f0 f1 f2 f3 f4
        have HRW := Lib.hid (HRW.out.store HN8.out HC8.out HR8.out)
        have HD := Lib.hid (show Dd (((((w8.setCell ⟨gw, 0, none⟩ (.slice A8 n8 c8)).setCell ⟨gw, 1, none⟩ (.int .i64 d2.safe)).setCell ⟨gw, 2, none⟩ (.int .i64 d2.room)).setCell ⟨gw, 3, none⟩ (.int .i64 d2.fuse)).setCell ⟨gw, 4, none⟩ (.bool d2.off)) F7 _ d2 from ((((HD.out.setCell HFW.out _).setCell HFW.out _).setCell HFW.out _).setCell HFW.out _).setCell HFW.out _)
        have HB := Lib.hid (show Below w.heap.size w (((((w8.setCell ⟨gw, 0, none⟩ (.slice A8 n8 c8)).setCell ⟨gw, 1, none⟩ (.int .i64 d2.safe)).setCell ⟨gw, 2, none⟩ (.int .i64 d2.room)).setCell ⟨gw, 3, none⟩ (.int .i64 d2.fuse)).setCell ⟨gw, 4, none⟩ (.bool d2.off)) from ((((HB.out.setCell hgw _).setCell hgw _).setCell hgw _).setCell hgw _).setCell hgw _)
        generalize ((((w8.setCell ⟨gw, 0, none⟩ (.slice A8 n8 c8)).setCell ⟨gw, 1, none⟩ (.int .i64 d2.safe)).setCell ⟨gw, 2, none⟩ (.int .i64 d2.room)).setCell ⟨gw, 3, none⟩ (.int .i64 d2.fuse)).setCell ⟨gw, 4, none⟩ (.bool d2.off) = wq at HRW HD HB ⊢
        clear HN8 HC8 HR8 HFW
        obtain ⟨Aq, nq, cq, hxq, hnq, hcq, hrq, hfq⟩ := HRW.out
        have HKQ : Hid (∀ W', Below wq.heap.size wq W' → (W'.cell? ⟨gw, 0, none⟩ = some (.slice Aq nq cq) ∧ W'.cell? ⟨gw, 1, none⟩ = some (.int .i64 d2.safe) ∧ W'.cell? ⟨gw, 4, none⟩ = some (.bool d2.off)) ∧ (convert 27 9 (.slice Aq nq cq)).run Try.prog W' = .ok (.string (str d2.data)) W') := Lib.hid (fun W' h => ⟨⟨(hxq.all h).c0, (hxq.all h).c1, (hxq.all h).c4⟩, str8' cq (hrq.rd.below h) hnq⟩)
        clear hxq hnq hcq hrq hfq
        have hsm := str_same d2.data
        refine wp_region_held_drew (S := fun W' => Below wq.heap.size wq W') (by kernel_rfl) (Below.refl _ _).drew (fun hHeld => ?_)
        generalize wq.drew = v1 at hHeld ⊢
        have HB1 : Hid (Below wq.heap.size wq v1) := hHeld
        clear hHeld
        refine take_in (i := 0) (oi := ⟨_, _, _, _, _, _⟩) (v := ?_) rfl (by kernel_rfl) (by kernel_rfl) (by kernel_rfl) (fun _ _ _ h => h) (by rfl) ?_ HB1.out ?_
        rotate_left
        · intro W hW; have hq := HKQ.out W hW; go_simp; with_reducible rfl
        simp only [Act.put, List.setIfInBounds_toArray, List.set_cons_zero, List.set_cons_succ]
        refine take_in (i := 1) (oi := ⟨_, _, _, _, _, _⟩) (v := ?_) rfl (by kernel_rfl) (by kernel_rfl) (by kernel_rfl) (fun _ _ _ h => h) (by rfl) ?_ HB1.out ?_
        rotate_left
        · intro W hW; have hq := HKQ.out W hW; go_simp; with_reducible rfl
        simp only [Act.put, List.setIfInBounds_toArray, List.set_cons_zero, List.set_cons_succ]
        refine take_in (i := 2) (oi := ⟨_, _, _, _, _, _⟩) (v := ?_) rfl (by kernel_rfl) (by kernel_rfl) (by kernel_rfl) (fun _ _ _ h => h) (by rfl) ?_ HB1.out ?_
        rotate_left
        · intro W hW; have hq := HKQ.out W hW; go_simp; with_reducible rfl
        simp only [Act.put, List.setIfInBounds_toArray, List.set_cons_zero, List.set_cons_succ]
        refine take_in (i := 3) (oi := ⟨_, _, _, _, _, _⟩) (v := ?_) rfl (by kernel_rfl) (by kernel_rfl) (by kernel_rfl) (fun _ _ _ h => h) (by rfl) ?_ HB1.out ?_
        rotate_left
        · intro W hW; have hq := HKQ.out W hW; go_simp; with_reducible rfl
        simp only [Act.put, List.setIfInBounds_toArray, List.set_cons_zero, List.set_cons_succ]
        refine take_in (i := 4) (oi := ⟨_, _, _, _, _, _⟩) (v := ?_) rfl (by kernel_rfl) (by kernel_rfl) (by kernel_rfl) (fun _ _ _ h => h) (by rfl) ?_ HB1.out ?_
        rotate_left
        · intro W hW; have hq := HKQ.out W hW; go_simp; with_reducible rfl
        simp only [Act.put, List.setIfInBounds_toArray, List.set_cons_zero, List.set_cons_succ]
        refine take_in (i := 7) (oi := ⟨_, _, _, _, _, _⟩) (v := ?_) rfl (by kernel_rfl) (by kernel_rfl) (by kernel_rfl) (fun _ _ _ h => h) (by rfl) ?_ HB1.out ?_
        rotate_left
        · intro W hW; have hq := HKQ.out W hW; go_simp; with_reducible rfl
        simp only [Act.put, List.setIfInBounds_toArray, List.set_cons_zero, List.set_cons_succ]
        refine take_in (i := 8) (oi := ⟨_, _, _, _, _, _⟩) (v := ?_) rfl (by kernel_rfl) (by kernel_rfl) (by kernel_rfl) (fun _ _ _ h => h) (by rfl) ?_ HB1.out ?_
        rotate_left
        · intro W hW; have hq := HKQ.out W hW; go_simp; with_reducible rfl
        simp only [Act.put, List.setIfInBounds_toArray, List.set_cons_zero, List.set_cons_succ]
        refine take_in (i := 9) (oi := ⟨_, _, _, _, _, _⟩) (v := ?_) rfl (by kernel_rfl) (by kernel_rfl) (by kernel_rfl) (fun _ _ _ h => h) (by rfl) ?_ HB1.out ?_
        rotate_left
        · intro W hW; have hq := HKQ.out W hW; go_simp; with_reducible rfl
        simp only [Act.put, List.setIfInBounds_toArray, List.set_cons_zero, List.set_cons_succ]
        refine wpAnyH_ready (rs := [5]) (by kernel_rfl) (by simp) ?_
        refine AllReadyH.cons (o := ⟨_, _, _, _, _, _⟩) rfl (fun K hK => ?_) AllReadyH.nil
        go_simp
        refine (bytes_c _ _ F7 _ (HD.out.all HB1.out)).mono ?_
        rintro e v2 ⟨A9, n9, c9, rfl, how, hb⟩
        have HO9 := Lib.hid how; clear how
        have HB2 := Lib.hid (HB1.out.trans (hb.mono HB1.out.size)); clear hb
        refine hK.out _ _ HB2.out (fun _ => ?_)
        clear hK K
        have HK9 : Hid (∀ W', Below v2.heap.size v2 W' → (convert 27 9 (.slice A9 n9 c9)).run Try.prog W' = .ok (.string (str d2.data)) W') := Lib.hid (fun W' h => str8' c9 (HO9.out.rd.below h) HO9.out.1)
        refine tighten (S' := fun W' => Below v2.heap.size v2 W') (fun W' h => HB2.out.trans (h.mono HB2.out.size)) _ _ _ _ ?_
        have HB3 := Lib.hid (Below.refl v2.heap.size v2)
        have HD2 := Lib.hid (HD.out.all HB2.out)
        have HKQ : Hid (∀ W', Below v2.heap.size v2 W' → (W'.cell? ⟨gw, 0, none⟩ = some (.slice Aq nq cq) ∧ W'.cell? ⟨gw, 1, none⟩ = some (.int .i64 d2.safe) ∧ W'.cell? ⟨gw, 4, none⟩ = some (.bool d2.off))) := Lib.hid (fun W' h => (HKQ.out W' (HB2.out.trans (h.mono HB2.out.size))).1)
        refine take_in (i := 6) (oi := ⟨_, _, _, _, _, _⟩) (v := ?_) rfl (by kernel_rfl) (by kernel_rfl) (by kernel_rfl) (fun _ _ _ h => h) (by rfl) ?_ HB3.out ?_
        rotate_left
        · intro W hW; have hq := HK9.out W hW; go_simp; with_reducible rfl
        simp only [Act.put, List.setIfInBounds_toArray, List.set_cons_zero, List.set_cons_succ]
        refine take_in (i := 10) (oi := ⟨_, _, _, _, _, _⟩) (v := ?_) rfl (by kernel_rfl) (by kernel_rfl) (by kernel_rfl) (fun _ _ _ h => h) (by rfl) ?_ HB3.out ?_
        rotate_left
        · intro W hW; have hq := HKQ.out W hW; go_simp; with_reducible rfl
        simp only [Act.put, List.setIfInBounds_toArray, List.set_cons_zero, List.set_cons_succ]
        refine take_in (i := 11) (oi := ⟨_, _, _, _, _, _⟩) (v := ?_) rfl (by kernel_rfl) (by kernel_rfl) (by kernel_rfl) (fun _ _ _ h => h) (by rfl) ?_ HB3.out ?_
        rotate_left
        · intro W hW; have hq := HKQ.out W hW; go_simp; with_reducible rfl
        simp only [Act.put, List.setIfInBounds_toArray, List.set_cons_zero, List.set_cons_succ]
        refine take_in (i := 12) (oi := ⟨_, _, _, _, _, _⟩) (v := ?_) rfl (by kernel_rfl) (by kernel_rfl) (by kernel_rfl) (fun _ _ _ h => h) (by rfl) ?_ HB3.out ?_
        rotate_left
        · intro W hW; have hq := HKQ.out W hW; go_simp; with_reducible rfl
        simp only [Act.put, List.setIfInBounds_toArray, List.set_cons_zero, List.set_cons_succ]
        refine take_in (i := 13) (oi := ⟨_, _, _, _, _, _⟩) (v := ?_) rfl (by kernel_rfl) (by kernel_rfl) (by kernel_rfl) (fun _ _ _ h => h) (by rfl) ?_ HB3.out ?_
        rotate_left
        · intro W hW; have hq := HKQ.out W hW; go_simp; with_reducible rfl
        simp only [Act.put, List.setIfInBounds_toArray, List.set_cons_zero, List.set_cons_succ]
        refine take_in (i := 15) (oi := ⟨_, _, _, _, _, _⟩) (v := ?_) rfl (by kernel_rfl) (by kernel_rfl) (by kernel_rfl) (fun _ _ _ h => h) (by rfl) ?_ HB3.out ?_
        rotate_left
        · intro W hW; have hq := HKQ.out W hW; go_simp; with_reducible rfl
        simp only [Act.put, List.setIfInBounds_toArray, List.set_cons_zero, List.set_cons_succ]
        refine take_in (i := 16) (oi := ⟨_, _, _, _, _, _⟩) (v := ?_) rfl (by kernel_rfl) (by kernel_rfl) (by kernel_rfl) (fun _ _ _ h => h) (by rfl) ?_ HB3.out ?_
        rotate_left
        · intro W hW; have hq := HKQ.out W hW; go_simp; with_reducible rfl
        simp only [Act.put, List.setIfInBounds_toArray, List.set_cons_zero, List.set_cons_succ]
        refine wpAnyH_ready (rs := [14]) (by kernel_rfl) (by simp) ?_
        refine AllReadyH.cons (o := ⟨_, _, _, _, _, _⟩) rfl (fun K hK => ?_) AllReadyH.nil
        go_simp
        refine (safe_c _ _ F7 _ (HD2.out.all HB3.out)).mono ?_
        rintro e v3 ⟨rfl, hb⟩
        have HB4 := Lib.hid (HB3.out.trans (hb.mono HB3.out.size)); clear hb
        refine hK.out _ _ HB4.out (fun _ => ?_)
        clear hK K
        refine take_in (i := 17) (oi := ⟨_, _, _, _, _, _⟩) (v := ?_) rfl (by kernel_rfl) (by kernel_rfl) (by kernel_rfl) (fun _ _ _ h => h) (by rfl) ?_ HB4.out ?_
        rotate_left
        · intro W hW; have hq := HKQ.out W hW; go_simp; with_reducible rfl
        simp only [Act.put, List.setIfInBounds_toArray, List.set_cons_zero, List.set_cons_succ]
        refine take_in (i := 18) (oi := ⟨_, _, _, _, _, _⟩) (v := ?_) rfl (by kernel_rfl) (by kernel_rfl) (by kernel_rfl) (fun _ _ _ h => h) (by rfl) ?_ HB4.out ?_
        rotate_left
        · intro W hW; have hq := HKQ.out W hW; go_simp; with_reducible rfl
        simp only [Act.put, List.setIfInBounds_toArray, List.set_cons_zero, List.set_cons_succ]
        refine take_in (i := 19) (oi := ⟨_, _, _, _, _, _⟩) (v := ?_) rfl (by kernel_rfl) (by kernel_rfl) (by kernel_rfl) (fun _ _ _ h => h) (by rfl) ?_ HB4.out ?_
        rotate_left
        · intro W hW; have hq := HKQ.out W hW; go_simp; with_reducible rfl
        simp only [Act.put, List.setIfInBounds_toArray, List.set_cons_zero, List.set_cons_succ]
        refine take_in (i := 20) (oi := ⟨_, _, _, _, _, _⟩) (v := ?_) rfl (by kernel_rfl) (by kernel_rfl) (by kernel_rfl) (fun _ _ _ h => h) (by rfl) ?_ HB4.out ?_
        rotate_left
        · intro W hW; have hq := HKQ.out W hW; go_simp; with_reducible rfl
        simp only [Act.put, List.setIfInBounds_toArray, List.set_cons_zero, List.set_cons_succ]
        refine take_in (i := 22) (oi := ⟨_, _, _, _, _, _⟩) (v := ?_) rfl (by kernel_rfl) (by kernel_rfl) (by kernel_rfl) (fun _ _ _ h => h) (by rfl) ?_ HB4.out ?_
        rotate_left
        · intro W hW; have hq := HKQ.out W hW; go_simp; with_reducible rfl
        simp only [Act.put, List.setIfInBounds_toArray, List.set_cons_zero, List.set_cons_succ]
        refine take_in (i := 23) (oi := ⟨_, _, _, _, _, _⟩) (v := ?_) rfl (by kernel_rfl) (by kernel_rfl) (by kernel_rfl) (fun _ _ _ h => h) (by rfl) ?_ HB4.out ?_
        rotate_left
        · intro W hW; have hq := HKQ.out W hW; go_simp; with_reducible rfl
        simp only [Act.put, List.setIfInBounds_toArray, List.set_cons_zero, List.set_cons_succ]
        refine wpAnyH_ready (rs := [21]) (by kernel_rfl) (by simp) ?_
        refine AllReadyH.cons (o := ⟨_, _, _, _, _, _⟩) rfl (fun K hK => ?_) AllReadyH.nil
        go_simp
        refine (off_c _ _ F7 _ (HD2.out.all HB4.out)).mono ?_
        rintro e v4 ⟨rfl, hb⟩
        have HB5 := Lib.hid (HB4.out.trans (hb.mono HB4.out.size)); clear hb
        refine hK.out _ _ HB5.out (fun _ => ?_)
        clear hK K
        refine take_in (i := 24) (oi := ⟨_, _, _, _, _, _⟩) (v := ?_) rfl (by kernel_rfl) (by kernel_rfl) (by kernel_rfl) (fun _ _ _ h => h) (by rfl) ?_ HB5.out ?_
        rotate_left
        · intro W hW; go_simp; with_reducible rfl
        simp only [Act.put, List.setIfInBounds_toArray, List.set_cons_zero, List.set_cons_succ]
        refine take_in (i := 25) (oi := ⟨_, _, _, _, _, _⟩) (v := ?_) rfl (by kernel_rfl) (by kernel_rfl) (by kernel_rfl) (fun _ _ _ h => h) (by rfl) ?_ HB5.out ?_
        rotate_left
        · intro W hW; go_simp; with_reducible rfl
        simp only [Act.put, List.setIfInBounds_toArray, List.set_cons_zero, List.set_cons_succ]
        refine wpAnyH_done (by kernel_rfl) ?_ _
        have HB6 := Lib.hid (HB2.out.trans (HB5.out.mono HB2.out.size))
        go_wp2
        exact ⟨⟨k + 1, _, F7, by go_num, by omega, HD.out.all HB6.out, HRW.out.all HB6.out, HF.out, HB.out.trans (HB6.out.mono HB.out.size)⟩, by simp [intOf]; omega⟩
      have z2 : (ki == 2) = false := by rw [beq_eq_false_iff_ne]; exact e2
      clear e2
      by_cases e3 : ki = 3
      · skip
        have z3 : (ki == 3) = true := by rw [beq_iff_eq]; exact e3
        clear e3
        have HIV := Lib.hid HD.out.iv
        go_wp2_with fail
        clear v0 u1
        refine (limit_c _ _ nu HPO.out.2.1 F _ HD.out).mono ?_
        rintro e w7 ⟨F7, rfl, hd, hg⟩
        have VA := Lib.hid (VA.out.keep hg); have HRW := Lib.hid (HRW.out.keep hg)
        have hg2 := hg.below HB.out.size HF.out
        have HD := Lib.hid hd; have HF := Lib.hid hg2.2; have HB := Lib.hid (HB.out.trans hg2.1)
        clear hd hg hg2
        obtain ⟨Aw, nw, cw, hxw, hnw, hcw, hrw, hfw⟩ := HRW.out
        have HVD : Hid (Ds w7 (fun k => F7 k ∨ k = gw) (dv Aw nw cw d) d) := Lib.hid ⟨Aw, nw, cw, rfl, hnw, hcw, hrw⟩
        have HGL : Hid (∀ k, (F7 k ∨ k = gw) → k < w7.heap.size) := Lib.hid (fun k h => h.elim (HD.out.lt k) (fun h => h ▸ hxw.lt))
        have x0 := hxw.c0; have x1 := hxw.c1; have x2 := hxw.c2; have x3 := hxw.c3; have x4 := hxw.c4
        have u1 : w7.cell? ⟨ga, 1, none⟩ = some (.int .i64 nu) := by rw [cell_of_row _ _ _ _ _ _ VA.out.1]; rfl
        clear hxw hnw hcw hrw hfw
        go_wp2_with fail
        clear x0 x1 x2 x3 x4 u1
        refine (limit_r (dv Aw nw cw d) d nu (fun k => F7 k ∨ k = gw) _ HVD.out).mono ?_
        rintro e w8 ⟨v, rfl, ⟨A8, n8, c8, rfl, hn8, hc8, hr8⟩, hb⟩
        have HRW := Lib.hid (HRW.out.all hb); have HD := Lib.hid (HD.out.all hb); have HB := Lib.hid (HB.out.trans (hb.mono HB.out.size)); clear hb
        have HN8 := Lib.hid hn8; have HC8 := Lib.hid hc8; have HR8 := Lib.hid hr8
        clear hn8 hc8 hr8 HVD HGL HIV
        generalize limit d nu = d2 at HD HN8 HR8 ⊢
        obtain ⟨_, _, _, hxw, _, _, _, hfw⟩ := HRW.out
        have x0 := hxw.c0; have x1 := hxw.c1; have x2 := hxw.c2; have x3 := hxw.c3; have x4 := hxw.c4
        have f0 := frozen_of_row w8 gw 0 _ _ hxw
        have f1 := frozen_of_row w8 gw 1 _ _ hxw
        have f2 := frozen_of_row w8 gw 2 _ _ hxw
        have f3 := frozen_of_row w8 gw 3 _ _ hxw
        have f4 := frozen_of_row w8 gw 4 _ _ hxw
        have HFW := Lib.hid hfw
        clear hxw hfw
        unfold dv
        go_upto_region 36 with (fail)
        clear x0 x1 x2 x3 x4 f0 f1 f2 f3 f4
        have HRW := Lib.hid (HRW.out.store HN8.out HC8.out HR8.out)
        have HD := Lib.hid (show Dd (((((w8.setCell ⟨gw, 0, none⟩ (.slice A8 n8 c8)).setCell ⟨gw, 1, none⟩ (.int .i64 d2.safe)).setCell ⟨gw, 2, none⟩ (.int .i64 d2.room)).setCell ⟨gw, 3, none⟩ (.int .i64 d2.fuse)).setCell ⟨gw, 4, none⟩ (.bool d2.off)) F7 _ d2 from ((((HD.out.setCell HFW.out _).setCell HFW.out _).setCell HFW.out _).setCell HFW.out _).setCell HFW.out _)
        have HB := Lib.hid (show Below w.heap.size w (((((w8.setCell ⟨gw, 0, none⟩ (.slice A8 n8 c8)).setCell ⟨gw, 1, none⟩ (.int .i64 d2.safe)).setCell ⟨gw, 2, none⟩ (.int .i64 d2.room)).setCell ⟨gw, 3, none⟩ (.int .i64 d2.fuse)).setCell ⟨gw, 4, none⟩ (.bool d2.off)) from ((((HB.out.setCell hgw _).setCell hgw _).setCell hgw _).setCell hgw _).setCell hgw _)
        generalize ((((w8.setCell ⟨gw, 0, none⟩ (.slice A8 n8 c8)).setCell ⟨gw, 1, none⟩ (.int .i64 d2.safe)).setCell ⟨gw, 2, none⟩ (.int .i64 d2.room)).setCell ⟨gw, 3, none⟩ (.int .i64 d2.fuse)).setCell ⟨gw, 4, none⟩ (.bool d2.off) = wq at HRW HD HB ⊢
        clear HN8 HC8 HR8 HFW
        obtain ⟨Aq, nq, cq, hxq, hnq, hcq, hrq, hfq⟩ := HRW.out
        have HKQ : Hid (∀ W', Below wq.heap.size wq W' → (W'.cell? ⟨gw, 0, none⟩ = some (.slice Aq nq cq) ∧ W'.cell? ⟨gw, 1, none⟩ = some (.int .i64 d2.safe) ∧ W'.cell? ⟨gw, 4, none⟩ = some (.bool d2.off)) ∧ (convert 27 9 (.slice Aq nq cq)).run Try.prog W' = .ok (.string (str d2.data)) W') := Lib.hid (fun W' h => ⟨⟨(hxq.all h).c0, (hxq.all h).c1, (hxq.all h).c4⟩, str8' cq (hrq.rd.below h) hnq⟩)
        clear hxq hnq hcq hrq hfq
        have hsm := str_same d2.data
        refine wp_region_held_drew (S := fun W' => Below wq.heap.size wq W') (by kernel_rfl) (Below.refl _ _).drew (fun hHeld => ?_)
        generalize wq.drew = v1 at hHeld ⊢
        have HB1 : Hid (Below wq.heap.size wq v1) := hHeld
        clear hHeld
        refine take_in (i := 0) (oi := ⟨_, _, _, _, _, _⟩) (v := ?_) rfl (by kernel_rfl) (by kernel_rfl) (by kernel_rfl) (fun _ _ _ h => h) (by rfl) ?_ HB1.out ?_
        rotate_left
        · intro W hW; have hq := HKQ.out W hW; go_simp; with_reducible rfl
        simp only [Act.put, List.setIfInBounds_toArray, List.set_cons_zero, List.set_cons_succ]
        refine take_in (i := 1) (oi := ⟨_, _, _, _, _, _⟩) (v := ?_) rfl (by kernel_rfl) (by kernel_rfl) (by kernel_rfl) (fun _ _ _ h => h) (by rfl) ?_ HB1.out ?_
        rotate_left
        · intro W hW; have hq := HKQ.out W hW; go_simp; with_reducible rfl
        simp only [Act.put, List.setIfInBounds_toArray, List.set_cons_zero, List.set_cons_succ]
        refine take_in (i := 2) (oi := ⟨_, _, _, _, _, _⟩) (v := ?_) rfl (by kernel_rfl) (by kernel_rfl) (by kernel_rfl) (fun _ _ _ h => h) (by rfl) ?_ HB1.out ?_
        rotate_left
        · intro W hW; have hq := HKQ.out W hW; go_simp; with_reducible rfl
        simp only [Act.put, List.setIfInBounds_toArray, List.set_cons_zero, List.set_cons_succ]
        refine take_in (i := 3) (oi := ⟨_, _, _, _, _, _⟩) (v := ?_) rfl (by kernel_rfl) (by kernel_rfl) (by kernel_rfl) (fun _ _ _ h => h) (by rfl) ?_ HB1.out ?_
        rotate_left
        · intro W hW; have hq := HKQ.out W hW; go_simp; with_reducible rfl
        simp only [Act.put, List.setIfInBounds_toArray, List.set_cons_zero, List.set_cons_succ]
        refine take_in (i := 4) (oi := ⟨_, _, _, _, _, _⟩) (v := ?_) rfl (by kernel_rfl) (by kernel_rfl) (by kernel_rfl) (fun _ _ _ h => h) (by rfl) ?_ HB1.out ?_
        rotate_left
        · intro W hW; have hq := HKQ.out W hW; go_simp; with_reducible rfl
        simp only [Act.put, List.setIfInBounds_toArray, List.set_cons_zero, List.set_cons_succ]
        refine take_in (i := 7) (oi := ⟨_, _, _, _, _, _⟩) (v := ?_) rfl (by kernel_rfl) (by kernel_rfl) (by kernel_rfl) (fun _ _ _ h => h) (by rfl) ?_ HB1.out ?_
        rotate_left
        · intro W hW; have hq := HKQ.out W hW; go_simp; with_reducible rfl
        simp only [Act.put, List.setIfInBounds_toArray, List.set_cons_zero, List.set_cons_succ]
        refine take_in (i := 8) (oi := ⟨_, _, _, _, _, _⟩) (v := ?_) rfl (by kernel_rfl) (by kernel_rfl) (by kernel_rfl) (fun _ _ _ h => h) (by rfl) ?_ HB1.out ?_
        rotate_left
        · intro W hW; have hq := HKQ.out W hW; go_simp; with_reducible rfl
        simp only [Act.put, List.setIfInBounds_toArray, List.set_cons_zero, List.set_cons_succ]
        refine take_in (i := 9) (oi := ⟨_, _, _, _, _, _⟩) (v := ?_) rfl (by kernel_rfl) (by kernel_rfl) (by kernel_rfl) (fun _ _ _ h => h) (by rfl) ?_ HB1.out ?_
        rotate_left
        · intro W hW; have hq := HKQ.out W hW; go_simp; with_reducible rfl
        simp only [Act.put, List.setIfInBounds_toArray, List.set_cons_zero, List.set_cons_succ]
        refine wpAnyH_ready (rs := [5]) (by kernel_rfl) (by simp) ?_
        refine AllReadyH.cons (o := ⟨_, _, _, _, _, _⟩) rfl (fun K hK => ?_) AllReadyH.nil
        go_simp
        refine (bytes_c _ _ F7 _ (HD.out.all HB1.out)).mono ?_
        rintro e v2 ⟨A9, n9, c9, rfl, how, hb⟩
        have HO9 := Lib.hid how; clear how
        have HB2 := Lib.hid (HB1.out.trans (hb.mono HB1.out.size)); clear hb
        refine hK.out _ _ HB2.out (fun _ => ?_)
        clear hK K
        have HK9 : Hid (∀ W', Below v2.heap.size v2 W' → (convert 27 9 (.slice A9 n9 c9)).run Try.prog W' = .ok (.string (str d2.data)) W') := Lib.hid (fun W' h => str8' c9 (HO9.out.rd.below h) HO9.out.1)
        refine tighten (S' := fun W' => Below v2.heap.size v2 W') (fun W' h => HB2.out.trans (h.mono HB2.out.size)) _ _ _ _ ?_
        have HB3 := Lib.hid (Below.refl v2.heap.size v2)
        have HD2 := Lib.hid (HD.out.all HB2.out)
        have HKQ : Hid (∀ W', Below v2.heap.size v2 W' → (W'.cell? ⟨gw, 0, none⟩ = some (.slice Aq nq cq) ∧ W'.cell? ⟨gw, 1, none⟩ = some (.int .i64 d2.safe) ∧ W'.cell? ⟨gw, 4, none⟩ = some (.bool d2.off))) := Lib.hid (fun W' h => (HKQ.out W' (HB2.out.trans (h.mono HB2.out.size))).1)
        refine take_in (i := 6) (oi := ⟨_, _, _, _, _, _⟩) (v := ?_) rfl (by kernel_rfl) (by kernel_rfl) (by kernel_rfl) (fun _ _ _ h => h) (by rfl) ?_ HB3.out ?_
        rotate_left
        · intro W hW; have hq := HK9.out W hW; go_simp; with_reducible rfl
        simp only [Act.put, List.setIfInBounds_toArray, List.set_cons_zero, List.set_cons_succ]
        refine take_in (i := 10) (oi := ⟨_, _, _, _, _, _⟩) (v := ?_) rfl (by kernel_rfl) (by kernel_rfl) (by kernel_rfl) (fun _ _ _ h => h) (by rfl) ?_ HB3.out ?_
        rotate_left
        · intro W hW; have hq := HKQ.out W hW; go_simp; with_reducible rfl
        simp only [Act.put, List.setIfInBounds_toArray, List.set_cons_zero, List.set_cons_succ]
        refine take_in (i := 11) (oi := ⟨_, _, _, _, _, _⟩) (v := ?_) rfl (by kernel_rfl) (by kernel_rfl) (by kernel_rfl) (fun _ _ _ h => h) (by rfl) ?_ HB3.out ?_
        rotate_left
        · intro W hW; have hq := HKQ.out W hW; go_simp; with_reducible rfl
        simp only [Act.put, List.setIfInBounds_toArray, List.set_cons_zero, List.set_cons_succ]
        refine take_in (i := 12) (oi := ⟨_, _, _, _, _, _⟩) (v := ?_) rfl (by kernel_rfl) (by kernel_rfl) (by kernel_rfl) (fun _ _ _ h => h) (by rfl) ?_ HB3.out ?_
        rotate_left
        · intro W hW; have hq := HKQ.out W hW; go_simp; with_reducible rfl
        simp only [Act.put, List.setIfInBounds_toArray, List.set_cons_zero, List.set_cons_succ]
        refine take_in (i := 13) (oi := ⟨_, _, _, _, _, _⟩) (v := ?_) rfl (by kernel_rfl) (by kernel_rfl) (by kernel_rfl) (fun _ _ _ h => h) (by rfl) ?_ HB3.out ?_
        rotate_left
        · intro W hW; have hq := HKQ.out W hW; go_simp; with_reducible rfl
        simp only [Act.put, List.setIfInBounds_toArray, List.set_cons_zero, List.set_cons_succ]
        refine take_in (i := 15) (oi := ⟨_, _, _, _, _, _⟩) (v := ?_) rfl (by kernel_rfl) (by kernel_rfl) (by kernel_rfl) (fun _ _ _ h => h) (by rfl) ?_ HB3.out ?_
        rotate_left
        · intro W hW; have hq := HKQ.out W hW; go_simp; with_reducible rfl
        simp only [Act.put, List.setIfInBounds_toArray, List.set_cons_zero, List.set_cons_succ]
        refine take_in (i := 16) (oi := ⟨_, _, _, _, _, _⟩) (v := ?_) rfl (by kernel_rfl) (by kernel_rfl) (by kernel_rfl) (fun _ _ _ h => h) (by rfl) ?_ HB3.out ?_
        rotate_left
        · intro W hW; have hq := HKQ.out W hW; go_simp; with_reducible rfl
        simp only [Act.put, List.setIfInBounds_toArray, List.set_cons_zero, List.set_cons_succ]
        refine wpAnyH_ready (rs := [14]) (by kernel_rfl) (by simp) ?_
        refine AllReadyH.cons (o := ⟨_, _, _, _, _, _⟩) rfl (fun K hK => ?_) AllReadyH.nil
        go_simp
        refine (safe_c _ _ F7 _ (HD2.out.all HB3.out)).mono ?_
        rintro e v3 ⟨rfl, hb⟩
        have HB4 := Lib.hid (HB3.out.trans (hb.mono HB3.out.size)); clear hb
        refine hK.out _ _ HB4.out (fun _ => ?_)
        clear hK K
        refine take_in (i := 17) (oi := ⟨_, _, _, _, _, _⟩) (v := ?_) rfl (by kernel_rfl) (by kernel_rfl) (by kernel_rfl) (fun _ _ _ h => h) (by rfl) ?_ HB4.out ?_
        rotate_left
        · intro W hW; have hq := HKQ.out W hW; go_simp; with_reducible rfl
        simp only [Act.put, List.setIfInBounds_toArray, List.set_cons_zero, List.set_cons_succ]
        refine take_in (i := 18) (oi := ⟨_, _, _, _, _, _⟩) (v := ?_) rfl (by kernel_rfl) (by kernel_rfl) (by kernel_rfl) (fun _ _ _ h => h) (by rfl) ?_ HB4.out ?_
        rotate_left
        · intro W hW; have hq := HKQ.out W hW; go_simp; with_reducible rfl
        simp only [Act.put, List.setIfInBounds_toArray, List.set_cons_zero, List.set_cons_succ]
        refine take_in (i := 19) (oi := ⟨_, _, _, _, _, _⟩) (v := ?_) rfl (by kernel_rfl) (by kernel_rfl) (by kernel_rfl) (fun _ _ _ h => h) (by rfl) ?_ HB4.out ?_
        rotate_left
        · intro W hW; have hq := HKQ.out W hW; go_simp; with_reducible rfl
        simp only [Act.put, List.setIfInBounds_toArray, List.set_cons_zero, List.set_cons_succ]
        refine take_in (i := 20) (oi := ⟨_, _, _, _, _, _⟩) (v := ?_) rfl (by kernel_rfl) (by kernel_rfl) (by kernel_rfl) (fun _ _ _ h => h) (by rfl) ?_ HB4.out ?_
        rotate_left
        · intro W hW; have hq := HKQ.out W hW; go_simp; with_reducible rfl
        simp only [Act.put, List.setIfInBounds_toArray, List.set_cons_zero, List.set_cons_succ]
        refine take_in (i := 22) (oi := ⟨_, _, _, _, _, _⟩) (v := ?_) rfl (by kernel_rfl) (by kernel_rfl) (by kernel_rfl) (fun _ _ _ h => h) (by rfl) ?_ HB4.out ?_
        rotate_left
        · intro W hW; have hq := HKQ.out W hW; go_simp; with_reducible rfl
        simp only [Act.put, List.setIfInBounds_toArray, List.set_cons_zero, List.set_cons_succ]
        refine take_in (i := 23) (oi := ⟨_, _, _, _, _, _⟩) (v := ?_) rfl (by kernel_rfl) (by kernel_rfl) (by kernel_rfl) (fun _ _ _ h => h) (by rfl) ?_ HB4.out ?_
        rotate_left
        · intro W hW; have hq := HKQ.out W hW; go_simp; with_reducible rfl
        simp only [Act.put, List.setIfInBounds_toArray, List.set_cons_zero, List.set_cons_succ]
        refine wpAnyH_ready (rs := [21]) (by kernel_rfl) (by simp) ?_
        refine AllReadyH.cons (o := ⟨_, _, _, _, _, _⟩) rfl (fun K hK => ?_) AllReadyH.nil
        go_simp
        refine (off_c _ _ F7 _ (HD2.out.all HB4.out)).mono ?_
        rintro e v4 ⟨rfl, hb⟩
        have HB5 := Lib.hid (HB4.out.trans (hb.mono HB4.out.size)); clear hb
        refine hK.out _ _ HB5.out (fun _ => ?_)
        clear hK K
        refine take_in (i := 24) (oi := ⟨_, _, _, _, _, _⟩) (v := ?_) rfl (by kernel_rfl) (by kernel_rfl) (by kernel_rfl) (fun _ _ _ h => h) (by rfl) ?_ HB5.out ?_
        rotate_left
        · intro W hW; go_simp; with_reducible rfl
        simp only [Act.put, List.setIfInBounds_toArray, List.set_cons_zero, List.set_cons_succ]
        refine take_in (i := 25) (oi := ⟨_, _, _, _, _, _⟩) (v := ?_) rfl (by kernel_rfl) (by kernel_rfl) (by kernel_rfl) (fun _ _ _ h => h) (by rfl) ?_ HB5.out ?_
        rotate_left
        · intro W hW; go_simp; with_reducible rfl
        simp only [Act.put, List.setIfInBounds_toArray, List.set_cons_zero, List.set_cons_succ]
        refine wpAnyH_done (by kernel_rfl) ?_ _
        have HB6 := Lib.hid (HB2.out.trans (HB5.out.mono HB2.out.size))
        go_wp2
        exact ⟨⟨k + 1, _, F7, by go_num, by omega, HD.out.all HB6.out, HRW.out.all HB6.out, HF.out, HB.out.trans (HB6.out.mono HB.out.size)⟩, by simp [intOf]; omega⟩
      have z3 : (ki == 3) = false := by rw [beq_eq_false_iff_ne]; exact e3
      clear e3
      by_cases e4 : ki = 4
      · skip
        have z4 : (ki == 4) = true := by rw [beq_iff_eq]; exact e4
        clear e4
        have HIV := Lib.hid HD.out.iv
        go_wp2_with fail
        clear v0 u1
        refine (cut_c _ _ nu HPO.out.2.1 F _ HD.out).mono ?_
        rintro e w7 ⟨F7, rfl, hd, hg⟩
        have VA := Lib.hid (VA.out.keep hg); have HRW := Lib.hid (HRW.out.keep hg)
        have hg2 := hg.below HB.out.size HF.out
        have HD := Lib.hid hd; have HF := Lib.hid hg2.2; have HB := Lib.hid (HB.out.trans hg2.1)
        clear hd hg hg2
        obtain ⟨Aw, nw, cw, hxw, hnw, hcw, hrw, hfw⟩ := HRW.out
        have HVD : Hid (Ds w7 (fun k => F7 k ∨ k = gw) (dv Aw nw cw d) d) := Lib.hid ⟨Aw, nw, cw, rfl, hnw, hcw, hrw⟩
        have HGL : Hid (∀ k, (F7 k ∨ k = gw) → k < w7.heap.size) := Lib.hid (fun k h => h.elim (HD.out.lt k) (fun h => h ▸ hxw.lt))
        have x0 := hxw.c0; have x1 := hxw.c1; have x2 := hxw.c2; have x3 := hxw.c3; have x4 := hxw.c4
        have u1 : w7.cell? ⟨ga, 1, none⟩ = some (.int .i64 nu) := by rw [cell_of_row _ _ _ _ _ _ VA.out.1]; rfl
        clear hxw hnw hcw hrw hfw
        go_wp2_with fail
        clear x0 x1 x2 x3 x4 u1
        refine (cut_r (dv Aw nw cw d) d nu (fun k => F7 k ∨ k = gw) _ HGL.out HVD.out HIV.out).mono ?_
        rintro e w8 ⟨v, rfl, ⟨A8, n8, c8, rfl, hn8, hc8, hr8⟩, hb⟩
        have HRW := Lib.hid (HRW.out.all hb); have HD := Lib.hid (HD.out.all hb); have HB := Lib.hid (HB.out.trans (hb.mono HB.out.size)); clear hb
        have HN8 := Lib.hid hn8; have HC8 := Lib.hid hc8; have HR8 := Lib.hid hr8
        clear hn8 hc8 hr8 HVD HGL HIV
        generalize cutD d nu = d2 at HD HN8 HR8 ⊢
        obtain ⟨_, _, _, hxw, _, _, _, hfw⟩ := HRW.out
        have x0 := hxw.c0; have x1 := hxw.c1; have x2 := hxw.c2; have x3 := hxw.c3; have x4 := hxw.c4
        have f0 := frozen_of_row w8 gw 0 _ _ hxw
        have f1 := frozen_of_row w8 gw 1 _ _ hxw
        have f2 := frozen_of_row w8 gw 2 _ _ hxw
        have f3 := frozen_of_row w8 gw 3 _ _ hxw
        have f4 := frozen_of_row w8 gw 4 _ _ hxw
        have HFW := Lib.hid hfw
        clear hxw hfw
        unfold dv
        go_upto_region 36 with (fail)
        clear x0 x1 x2 x3 x4 f0 f1 f2 f3 f4
        have HRW := Lib.hid (HRW.out.store HN8.out HC8.out HR8.out)
        have HD := Lib.hid (show Dd (((((w8.setCell ⟨gw, 0, none⟩ (.slice A8 n8 c8)).setCell ⟨gw, 1, none⟩ (.int .i64 d2.safe)).setCell ⟨gw, 2, none⟩ (.int .i64 d2.room)).setCell ⟨gw, 3, none⟩ (.int .i64 d2.fuse)).setCell ⟨gw, 4, none⟩ (.bool d2.off)) F7 _ d2 from ((((HD.out.setCell HFW.out _).setCell HFW.out _).setCell HFW.out _).setCell HFW.out _).setCell HFW.out _)
        have HB := Lib.hid (show Below w.heap.size w (((((w8.setCell ⟨gw, 0, none⟩ (.slice A8 n8 c8)).setCell ⟨gw, 1, none⟩ (.int .i64 d2.safe)).setCell ⟨gw, 2, none⟩ (.int .i64 d2.room)).setCell ⟨gw, 3, none⟩ (.int .i64 d2.fuse)).setCell ⟨gw, 4, none⟩ (.bool d2.off)) from ((((HB.out.setCell hgw _).setCell hgw _).setCell hgw _).setCell hgw _).setCell hgw _)
        generalize ((((w8.setCell ⟨gw, 0, none⟩ (.slice A8 n8 c8)).setCell ⟨gw, 1, none⟩ (.int .i64 d2.safe)).setCell ⟨gw, 2, none⟩ (.int .i64 d2.room)).setCell ⟨gw, 3, none⟩ (.int .i64 d2.fuse)).setCell ⟨gw, 4, none⟩ (.bool d2.off) = wq at HRW HD HB ⊢
        clear HN8 HC8 HR8 HFW
        obtain ⟨Aq, nq, cq, hxq, hnq, hcq, hrq, hfq⟩ := HRW.out
        have HKQ : Hid (∀ W', Below wq.heap.size wq W' → (W'.cell? ⟨gw, 0, none⟩ = some (.slice Aq nq cq) ∧ W'.cell? ⟨gw, 1, none⟩ = some (.int .i64 d2.safe) ∧ W'.cell? ⟨gw, 4, none⟩ = some (.bool d2.off)) ∧ (convert 27 9 (.slice Aq nq cq)).run Try.prog W' = .ok (.string (str d2.data)) W') := Lib.hid (fun W' h => ⟨⟨(hxq.all h).c0, (hxq.all h).c1, (hxq.all h).c4⟩, str8' cq (hrq.rd.below h) hnq⟩)
        clear hxq hnq hcq hrq hfq
        have hsm := str_same d2.data
        refine wp_region_held_drew (S := fun W' => Below wq.heap.size wq W') (by kernel_rfl) (Below.refl _ _).drew (fun hHeld => ?_)
        generalize wq.drew = v1 at hHeld ⊢
        have HB1 : Hid (Below wq.heap.size wq v1) := hHeld
        clear hHeld
        refine take_in (i := 0) (oi := ⟨_, _, _, _, _, _⟩) (v := ?_) rfl (by kernel_rfl) (by kernel_rfl) (by kernel_rfl) (fun _ _ _ h => h) (by rfl) ?_ HB1.out ?_
        rotate_left
        · intro W hW; have hq := HKQ.out W hW; go_simp; with_reducible rfl
        simp only [Act.put, List.setIfInBounds_toArray, List.set_cons_zero, List.set_cons_succ]
        refine take_in (i := 1) (oi := ⟨_, _, _, _, _, _⟩) (v := ?_) rfl (by kernel_rfl) (by kernel_rfl) (by kernel_rfl) (fun _ _ _ h => h) (by rfl) ?_ HB1.out ?_
        rotate_left
        · intro W hW; have hq := HKQ.out W hW; go_simp; with_reducible rfl
        simp only [Act.put, List.setIfInBounds_toArray, List.set_cons_zero, List.set_cons_succ]
        refine take_in (i := 2) (oi := ⟨_, _, _, _, _, _⟩) (v := ?_) rfl (by kernel_rfl) (by kernel_rfl) (by kernel_rfl) (fun _ _ _ h => h) (by rfl) ?_ HB1.out ?_
        rotate_left
        · intro W hW; have hq := HKQ.out W hW; go_simp; with_reducible rfl
        simp only [Act.put, List.setIfInBounds_toArray, List.set_cons_zero, List.set_cons_succ]
        refine take_in (i := 3) (oi := ⟨_, _, _, _, _, _⟩) (v := ?_) rfl (by kernel_rfl) (by kernel_rfl) (by kernel_rfl) (fun _ _ _ h => h) (by rfl) ?_ HB1.out ?_
        rotate_left
        · intro W hW; have hq := HKQ.out W hW; go_simp; with_reducible rfl
        simp only [Act.put, List.setIfInBounds_toArray, List.set_cons_zero, List.set_cons_succ]
        refine take_in (i := 4) (oi := ⟨_, _, _, _, _, _⟩) (v := ?_) rfl (by kernel_rfl) (by kernel_rfl) (by kernel_rfl) (fun _ _ _ h => h) (by rfl) ?_ HB1.out ?_
        rotate_left
        · intro W hW; have hq := HKQ.out W hW; go_simp; with_reducible rfl
        simp only [Act.put, List.setIfInBounds_toArray, List.set_cons_zero, List.set_cons_succ]
        refine take_in (i := 7) (oi := ⟨_, _, _, _, _, _⟩) (v := ?_) rfl (by kernel_rfl) (by kernel_rfl) (by kernel_rfl) (fun _ _ _ h => h) (by rfl) ?_ HB1.out ?_
        rotate_left
        · intro W hW; have hq := HKQ.out W hW; go_simp; with_reducible rfl
        simp only [Act.put, List.setIfInBounds_toArray, List.set_cons_zero, List.set_cons_succ]
        refine take_in (i := 8) (oi := ⟨_, _, _, _, _, _⟩) (v := ?_) rfl (by kernel_rfl) (by kernel_rfl) (by kernel_rfl) (fun _ _ _ h => h) (by rfl) ?_ HB1.out ?_
        rotate_left
        · intro W hW; have hq := HKQ.out W hW; go_simp; with_reducible rfl
        simp only [Act.put, List.setIfInBounds_toArray, List.set_cons_zero, List.set_cons_succ]
        refine take_in (i := 9) (oi := ⟨_, _, _, _, _, _⟩) (v := ?_) rfl (by kernel_rfl) (by kernel_rfl) (by kernel_rfl) (fun _ _ _ h => h) (by rfl) ?_ HB1.out ?_
        rotate_left
        · intro W hW; have hq := HKQ.out W hW; go_simp; with_reducible rfl
        simp only [Act.put, List.setIfInBounds_toArray, List.set_cons_zero, List.set_cons_succ]
        refine wpAnyH_ready (rs := [5]) (by kernel_rfl) (by simp) ?_
        refine AllReadyH.cons (o := ⟨_, _, _, _, _, _⟩) rfl (fun K hK => ?_) AllReadyH.nil
        go_simp
        refine (bytes_c _ _ F7 _ (HD.out.all HB1.out)).mono ?_
        rintro e v2 ⟨A9, n9, c9, rfl, how, hb⟩
        have HO9 := Lib.hid how; clear how
        have HB2 := Lib.hid (HB1.out.trans (hb.mono HB1.out.size)); clear hb
        refine hK.out _ _ HB2.out (fun _ => ?_)
        clear hK K
        have HK9 : Hid (∀ W', Below v2.heap.size v2 W' → (convert 27 9 (.slice A9 n9 c9)).run Try.prog W' = .ok (.string (str d2.data)) W') := Lib.hid (fun W' h => str8' c9 (HO9.out.rd.below h) HO9.out.1)
        refine tighten (S' := fun W' => Below v2.heap.size v2 W') (fun W' h => HB2.out.trans (h.mono HB2.out.size)) _ _ _ _ ?_
        have HB3 := Lib.hid (Below.refl v2.heap.size v2)
        have HD2 := Lib.hid (HD.out.all HB2.out)
        have HKQ : Hid (∀ W', Below v2.heap.size v2 W' → (W'.cell? ⟨gw, 0, none⟩ = some (.slice Aq nq cq) ∧ W'.cell? ⟨gw, 1, none⟩ = some (.int .i64 d2.safe) ∧ W'.cell? ⟨gw, 4, none⟩ = some (.bool d2.off))) := Lib.hid (fun W' h => (HKQ.out W' (HB2.out.trans (h.mono HB2.out.size))).1)
        refine take_in (i := 6) (oi := ⟨_, _, _, _, _, _⟩) (v := ?_) rfl (by kernel_rfl) (by kernel_rfl) (by kernel_rfl) (fun _ _ _ h => h) (by rfl) ?_ HB3.out ?_
        rotate_left
        · intro W hW; have hq := HK9.out W hW; go_simp; with_reducible rfl
        simp only [Act.put, List.setIfInBounds_toArray, List.set_cons_zero, List.set_cons_succ]
        refine take_in (i := 10) (oi := ⟨_, _, _, _, _, _⟩) (v := ?_) rfl (by kernel_rfl) (by kernel_rfl) (by kernel_rfl) (fun _ _ _ h => h) (by rfl) ?_ HB3.out ?_
        rotate_left
        · intro W hW; have hq := HKQ.out W hW; go_simp; with_reducible rfl
        simp only [Act.put, List.setIfInBounds_toArray, List.set_cons_zero, List.set_cons_succ]
        refine take_in (i := 11) (oi := ⟨_, _, _, _, _, _⟩) (v := ?_) rfl (by kernel_rfl) (by kernel_rfl) (by kernel_rfl) (fun _ _ _ h => h) (by rfl) ?_ HB3.out ?_
        rotate_left
        · intro W hW; have hq := HKQ.out W hW; go_simp; with_reducible rfl
        simp only [Act.put, List.setIfInBounds_toArray, List.set_cons_zero, List.set_cons_succ]
        refine take_in (i := 12) (oi := ⟨_, _, _, _, _, _⟩) (v := ?_) rfl (by kernel_rfl) (by kernel_rfl) (by kernel_rfl) (fun _ _ _ h => h) (by rfl) ?_ HB3.out ?_
        rotate_left
        · intro W hW; have hq := HKQ.out W hW; go_simp; with_reducible rfl
        simp only [Act.put, List.setIfInBounds_toArray, List.set_cons_zero, List.set_cons_succ]
        refine take_in (i := 13) (oi := ⟨_, _, _, _, _, _⟩) (v := ?_) rfl (by kernel_rfl) (by kernel_rfl) (by kernel_rfl) (fun _ _ _ h => h) (by rfl) ?_ HB3.out ?_
        rotate_left
        · intro W hW; have hq := HKQ.out W hW; go_simp; with_reducible rfl
        simp only [Act.put, List.setIfInBounds_toArray, List.set_cons_zero, List.set_cons_succ]
        refine take_in (i := 15) (oi := ⟨_, _, _, _, _, _⟩) (v := ?_) rfl (by kernel_rfl) (by kernel_rfl) (by kernel_rfl) (fun _ _ _ h => h) (by rfl) ?_ HB3.out ?_
        rotate_left
        · intro W hW; have hq := HKQ.out W hW; go_simp; with_reducible rfl
        simp only [Act.put, List.setIfInBounds_toArray, List.set_cons_zero, List.set_cons_succ]
        refine take_in (i := 16) (oi := ⟨_, _, _, _, _, _⟩) (v := ?_) rfl (by kernel_rfl) (by kernel_rfl) (by kernel_rfl) (fun _ _ _ h => h) (by rfl) ?_ HB3.out ?_
        rotate_left
        · intro W hW; have hq := HKQ.out W hW; go_simp; with_reducible rfl
        simp only [Act.put, List.setIfInBounds_toArray, List.set_cons_zero, List.set_cons_succ]
        refine wpAnyH_ready (rs := [14]) (by kernel_rfl) (by simp) ?_
        refine AllReadyH.cons (o := ⟨_, _, _, _, _, _⟩) rfl (fun K hK => ?_) AllReadyH.nil
        go_simp
        refine (safe_c _ _ F7 _ (HD2.out.all HB3.out)).mono ?_
        rintro e v3 ⟨rfl, hb⟩
        have HB4 := Lib.hid (HB3.out.trans (hb.mono HB3.out.size)); clear hb
        refine hK.out _ _ HB4.out (fun _ => ?_)
        clear hK K
        refine take_in (i := 17) (oi := ⟨_, _, _, _, _, _⟩) (v := ?_) rfl (by kernel_rfl) (by kernel_rfl) (by kernel_rfl) (fun _ _ _ h => h) (by rfl) ?_ HB4.out ?_
        rotate_left
        · intro W hW; have hq := HKQ.out W hW; go_simp; with_reducible rfl
        simp only [Act.put, List.setIfInBounds_toArray, List.set_cons_zero, List.set_cons_succ]
        refine take_in (i := 18) (oi := ⟨_, _, _, _, _, _⟩) (v := ?_) rfl (by kernel_rfl) (by kernel_rfl) (by kernel_rfl) (fun _ _ _ h => h) (by rfl) ?_ HB4.out ?_
        rotate_left
        · intro W hW; have hq := HKQ.out W hW; go_simp; with_reducible rfl
        simp only [Act.put, List.setIfInBounds_toArray, List.set_cons_zero, List.set_cons_succ]
        refine take_in (i := 19) (oi := ⟨_, _, _, _, _, _⟩) (v := ?_) rfl (by kernel_rfl) (by kernel_rfl) (by kernel_rfl) (fun _ _ _ h => h) (by rfl) ?_ HB4.out ?_
        rotate_left
        · intro W hW; have hq := HKQ.out W hW; go_simp; with_reducible rfl
        simp only [Act.put, List.setIfInBounds_toArray, List.set_cons_zero, List.set_cons_succ]
        refine take_in (i := 20) (oi := ⟨_, _, _, _, _, _⟩) (v := ?_) rfl (by kernel_rfl) (by kernel_rfl) (by kernel_rfl) (fun _ _ _ h => h) (by rfl) ?_ HB4.out ?_
        rotate_left
        · intro W hW; have hq := HKQ.out W hW; go_simp; with_reducible rfl
        simp only [Act.put, List.setIfInBounds_toArray, List.set_cons_zero, List.set_cons_succ]
        refine take_in (i := 22) (oi := ⟨_, _, _, _, _, _⟩) (v := ?_) rfl (by kernel_rfl) (by kernel_rfl) (by kernel_rfl) (fun _ _ _ h => h) (by rfl) ?_ HB4.out ?_
        rotate_left
        · intro W hW; have hq := HKQ.out W hW; go_simp; with_reducible rfl
        simp only [Act.put, List.setIfInBounds_toArray, List.set_cons_zero, List.set_cons_succ]
        refine take_in (i := 23) (oi := ⟨_, _, _, _, _, _⟩) (v := ?_) rfl (by kernel_rfl) (by kernel_rfl) (by kernel_rfl) (fun _ _ _ h => h) (by rfl) ?_ HB4.out ?_
        rotate_left
        · intro W hW; have hq := HKQ.out W hW; go_simp; with_reducible rfl
        simp only [Act.put, List.setIfInBounds_toArray, List.set_cons_zero, List.set_cons_succ]
        refine wpAnyH_ready (rs := [21]) (by kernel_rfl) (by simp) ?_
        refine AllReadyH.cons (o := ⟨_, _, _, _, _, _⟩) rfl (fun K hK => ?_) AllReadyH.nil
        go_simp
        refine (off_c _ _ F7 _ (HD2.out.all HB4.out)).mono ?_
        rintro e v4 ⟨rfl, hb⟩
        have HB5 := Lib.hid (HB4.out.trans (hb.mono HB4.out.size)); clear hb
        refine hK.out _ _ HB5.out (fun _ => ?_)
        clear hK K
        refine take_in (i := 24) (oi := ⟨_, _, _, _, _, _⟩) (v := ?_) rfl (by kernel_rfl) (by kernel_rfl) (by kernel_rfl) (fun _ _ _ h => h) (by rfl) ?_ HB5.out ?_
        rotate_left
        · intro W hW; go_simp; with_reducible rfl
        simp only [Act.put, List.setIfInBounds_toArray, List.set_cons_zero, List.set_cons_succ]
        refine take_in (i := 25) (oi := ⟨_, _, _, _, _, _⟩) (v := ?_) rfl (by kernel_rfl) (by kernel_rfl) (by kernel_rfl) (fun _ _ _ h => h) (by rfl) ?_ HB5.out ?_
        rotate_left
        · intro W hW; go_simp; with_reducible rfl
        simp only [Act.put, List.setIfInBounds_toArray, List.set_cons_zero, List.set_cons_succ]
        refine wpAnyH_done (by kernel_rfl) ?_ _
        have HB6 := Lib.hid (HB2.out.trans (HB5.out.mono HB2.out.size))
        go_wp2
        exact ⟨⟨k + 1, _, F7, by go_num, by omega, HD.out.all HB6.out, HRW.out.all HB6.out, HF.out, HB.out.trans (HB6.out.mono HB.out.size)⟩, by simp [intOf]; omega⟩
      have z4 : (ki == 4) = false := by rw [beq_eq_false_iff_ne]; exact e4
      clear e4
      by_cases e5 : ki = 5
      · skip
        have z5 : (ki == 5) = true := by rw [beq_iff_eq]; exact e5
        clear e5
        have HIV := Lib.hid HD.out.iv
        go_wp2_with fail
        clear v0 u1
        refine (fuse_c _ _ nu HPO.out.2.1 F _ HD.out).mono ?_
        rintro e w7 ⟨F7, rfl, hd, hg⟩
        have VA := Lib.hid (VA.out.keep hg); have HRW := Lib.hid (HRW.out.keep hg)
        have hg2 := hg.below HB.out.size HF.out
        have HD := Lib.hid hd; have HF := Lib.hid hg2.2; have HB := Lib.hid (HB.out.trans hg2.1)
        clear hd hg hg2
        obtain ⟨Aw, nw, cw, hxw, hnw, hcw, hrw, hfw⟩ := HRW.out
        have HVD : Hid (Ds w7 (fun k => F7 k ∨ k = gw) (dv Aw nw cw d) d) := Lib.hid ⟨Aw, nw, cw, rfl, hnw, hcw, hrw⟩
        have HGL : Hid (∀ k, (F7 k ∨ k = gw) → k < w7.heap.size) := Lib.hid (fun k h => h.elim (HD.out.lt k) (fun h => h ▸ hxw.lt))
        have x0 := hxw.c0; have x1 := hxw.c1; have x2 := hxw.c2; have x3 := hxw.c3; have x4 := hxw.c4
        have u1 : w7.cell? ⟨ga, 1, none⟩ = some (.int .i64 nu) := by rw [cell_of_row _ _ _ _ _ _ VA.out.1]; rfl
        clear hxw hnw hcw hrw hfw
        go_wp2_with fail
        clear x0 x1 x2 x3 x4 u1
        refine (fuse_r (dv Aw nw cw d) d nu (fun k => F7 k ∨ k = gw) _ HVD.out).mono ?_
        rintro e w8 ⟨v, rfl, ⟨A8, n8, c8, rfl, hn8, hc8, hr8⟩, hb⟩
        have HRW := Lib.hid (HRW.out.all hb); have HD := Lib.hid (HD.out.all hb); have HB := Lib.hid (HB.out.trans (hb.mono HB.out.size)); clear hb
        have HN8 := Lib.hid hn8; have HC8 := Lib.hid hc8; have HR8 := Lib.hid hr8
        clear hn8 hc8 hr8 HVD HGL HIV
        generalize fuseD d nu = d2 at HD HN8 HR8 ⊢
        obtain ⟨_, _, _, hxw, _, _, _, hfw⟩ := HRW.out
        have x0 := hxw.c0; have x1 := hxw.c1; have x2 := hxw.c2; have x3 := hxw.c3; have x4 := hxw.c4
        have f0 := frozen_of_row w8 gw 0 _ _ hxw
        have f1 := frozen_of_row w8 gw 1 _ _ hxw
        have f2 := frozen_of_row w8 gw 2 _ _ hxw
        have f3 := frozen_of_row w8 gw 3 _ _ hxw
        have f4 := frozen_of_row w8 gw 4 _ _ hxw
        have HFW := Lib.hid hfw
        clear hxw hfw
        unfold dv
        go_upto_region 36 with (fail)
        clear x0 x1 x2 x3 x4 f0 f1 f2 f3 f4
        have HRW := Lib.hid (HRW.out.store HN8.out HC8.out HR8.out)
        have HD := Lib.hid (show Dd (((((w8.setCell ⟨gw, 0, none⟩ (.slice A8 n8 c8)).setCell ⟨gw, 1, none⟩ (.int .i64 d2.safe)).setCell ⟨gw, 2, none⟩ (.int .i64 d2.room)).setCell ⟨gw, 3, none⟩ (.int .i64 d2.fuse)).setCell ⟨gw, 4, none⟩ (.bool d2.off)) F7 _ d2 from ((((HD.out.setCell HFW.out _).setCell HFW.out _).setCell HFW.out _).setCell HFW.out _).setCell HFW.out _)
        have HB := Lib.hid (show Below w.heap.size w (((((w8.setCell ⟨gw, 0, none⟩ (.slice A8 n8 c8)).setCell ⟨gw, 1, none⟩ (.int .i64 d2.safe)).setCell ⟨gw, 2, none⟩ (.int .i64 d2.room)).setCell ⟨gw, 3, none⟩ (.int .i64 d2.fuse)).setCell ⟨gw, 4, none⟩ (.bool d2.off)) from ((((HB.out.setCell hgw _).setCell hgw _).setCell hgw _).setCell hgw _).setCell hgw _)
        generalize ((((w8.setCell ⟨gw, 0, none⟩ (.slice A8 n8 c8)).setCell ⟨gw, 1, none⟩ (.int .i64 d2.safe)).setCell ⟨gw, 2, none⟩ (.int .i64 d2.room)).setCell ⟨gw, 3, none⟩ (.int .i64 d2.fuse)).setCell ⟨gw, 4, none⟩ (.bool d2.off) = wq at HRW HD HB ⊢
        clear HN8 HC8 HR8 HFW
        obtain ⟨Aq, nq, cq, hxq, hnq, hcq, hrq, hfq⟩ := HRW.out
        have HKQ : Hid (∀ W', Below wq.heap.size wq W' → (W'.cell? ⟨gw, 0, none⟩ = some (.slice Aq nq cq) ∧ W'.cell? ⟨gw, 1, none⟩ = some (.int .i64 d2.safe) ∧ W'.cell? ⟨gw, 4, none⟩ = some (.bool d2.off)) ∧ (convert 27 9 (.slice Aq nq cq)).run Try.prog W' = .ok (.string (str d2.data)) W') := Lib.hid (fun W' h => ⟨⟨(hxq.all h).c0, (hxq.all h).c1, (hxq.all h).c4⟩, str8' cq (hrq.rd.below h) hnq⟩)
        clear hxq hnq hcq hrq hfq
        have hsm := str_same d2.data
        refine wp_region_held_drew (S := fun W' => Below wq.heap.size wq W') (by kernel_rfl) (Below.refl _ _).drew (fun hHeld => ?_)
        generalize wq.drew = v1 at hHeld ⊢
        have HB1 : Hid (Below wq.heap.size wq v1) := hHeld
        clear hHeld
        refine take_in (i := 0) (oi := ⟨_, _, _, _, _, _⟩) (v := ?_) rfl (by kernel_rfl) (by kernel_rfl) (by kernel_rfl) (fun _ _ _ h => h) (by rfl) ?_ HB1.out ?_
        rotate_left
        · intro W hW; have hq := HKQ.out W hW; go_simp; with_reducible rfl
        simp only [Act.put, List.setIfInBounds_toArray, List.set_cons_zero, List.set_cons_succ]
        refine take_in (i := 1) (oi := ⟨_, _, _, _, _, _⟩) (v := ?_) rfl (by kernel_rfl) (by kernel_rfl) (by kernel_rfl) (fun _ _ _ h => h) (by rfl) ?_ HB1.out ?_
        rotate_left
        · intro W hW; have hq := HKQ.out W hW; go_simp; with_reducible rfl
        simp only [Act.put, List.setIfInBounds_toArray, List.set_cons_zero, List.set_cons_succ]
        refine take_in (i := 2) (oi := ⟨_, _, _, _, _, _⟩) (v := ?_) rfl (by kernel_rfl) (by kernel_rfl) (by kernel_rfl) (fun _ _ _ h => h) (by rfl) ?_ HB1.out ?_
        rotate_left
        · intro W hW; have hq := HKQ.out W hW; go_simp; with_reducible rfl
        simp only [Act.put, List.setIfInBounds_toArray, List.set_cons_zero, List.set_cons_succ]
        refine take_in (i := 3) (oi := ⟨_, _, _, _, _, _⟩) (v := ?_) rfl (by kernel_rfl) (by kernel_rfl) (by kernel_rfl) (fun _ _ _ h => h) (by rfl) ?_ HB1.out ?_
        rotate_left
        · intro W hW; have hq := HKQ.out W hW; go_simp; with_reducible rfl
        simp only [Act.put, List.setIfInBounds_toArray, List.set_cons_zero, List.set_cons_succ]
        refine take_in (i := 4) (oi := ⟨_, _, _, _, _, _⟩) (v := ?_) rfl (by kernel_rfl) (by kernel_rfl) (by kernel_rfl) (fun _ _ _ h => h) (by rfl) ?_ HB1.out ?_
        rotate_left
        · intro W hW; have hq := HKQ.out W hW; go_simp; with_reducible rfl
        simp only [Act.put, List.setIfInBounds_toArray, List.set_cons_zero, List.set_cons_succ]
        refine take_in (i := 7) (oi := ⟨_, _, _, _, _, _⟩) (v := ?_) rfl (by kernel_rfl) (by kernel_rfl) (by kernel_rfl) (fun _ _ _ h => h) (by rfl) ?_ HB1.out ?_
        rotate_left
        · intro W hW; have hq := HKQ.out W hW; go_simp; with_reducible rfl
        simp only [Act.put, List.setIfInBounds_toArray, List.set_cons_zero, List.set_cons_succ]
        refine take_in (i := 8) (oi := ⟨_, _, _, _, _, _⟩) (v := ?_) rfl (by kernel_rfl) (by kernel_rfl) (by kernel_rfl) (fun _ _ _ h => h) (by rfl) ?_ HB1.out ?_
        rotate_left
        · intro W hW; have hq := HKQ.out W hW; go_simp; with_reducible rfl
        simp only [Act.put, List.setIfInBounds_toArray, List.set_cons_zero, List.set_cons_succ]
        refine take_in (i := 9) (oi := ⟨_, _, _, _, _, _⟩) (v := ?_) rfl (by kernel_rfl) (by kernel_rfl) (by kernel_rfl) (fun _ _ _ h => h) (by rfl) ?_ HB1.out ?_
        rotate_left
        · intro W hW; have hq := HKQ.out W hW; go_simp; with_reducible rfl
        simp only [Act.put, List.setIfInBounds_toArray, List.set_cons_zero, List.set_cons_succ]
        refine wpAnyH_ready (rs := [5]) (by kernel_rfl) (by simp) ?_
        refine AllReadyH.cons (o := ⟨_, _, _, _, _, _⟩) rfl (fun K hK => ?_) AllReadyH.nil
        go_simp
        refine (bytes_c _ _ F7 _ (HD.out.all HB1.out)).mono ?_
        rintro e v2 ⟨A9, n9, c9, rfl, how, hb⟩
        have HO9 := Lib.hid how; clear how
        have HB2 := Lib.hid (HB1.out.trans (hb.mono HB1.out.size)); clear hb
        refine hK.out _ _ HB2.out (fun _ => ?_)
        clear hK K
        have HK9 : Hid (∀ W', Below v2.heap.size v2 W' → (convert 27 9 (.slice A9 n9 c9)).run Try.prog W' = .ok (.string (str d2.data)) W') := Lib.hid (fun W' h => str8' c9 (HO9.out.rd.below h) HO9.out.1)
        refine tighten (S' := fun W' => Below v2.heap.size v2 W') (fun W' h => HB2.out.trans (h.mono HB2.out.size)) _ _ _ _ ?_
        have HB3 := Lib.hid (Below.refl v2.heap.size v2)
        have HD2 := Lib.hid (HD.out.all HB2.out)
        have HKQ : Hid (∀ W', Below v2.heap.size v2 W' → (W'.cell? ⟨gw, 0, none⟩ = some (.slice Aq nq cq) ∧ W'.cell? ⟨gw, 1, none⟩ = some (.int .i64 d2.safe) ∧ W'.cell? ⟨gw, 4, none⟩ = some (.bool d2.off))) := Lib.hid (fun W' h => (HKQ.out W' (HB2.out.trans (h.mono HB2.out.size))).1)
        refine take_in (i := 6) (oi := ⟨_, _, _, _, _, _⟩) (v := ?_) rfl (by kernel_rfl) (by kernel_rfl) (by kernel_rfl) (fun _ _ _ h => h) (by rfl) ?_ HB3.out ?_
        rotate_left
        · intro W hW; have hq := HK9.out W hW; go_simp; with_reducible rfl
        simp only [Act.put, List.setIfInBounds_toArray, List.set_cons_zero, List.set_cons_succ]
        refine take_in (i := 10) (oi := ⟨_, _, _, _, _, _⟩) (v := ?_) rfl (by kernel_rfl) (by kernel_rfl) (by kernel_rfl) (fun _ _ _ h => h) (by rfl) ?_ HB3.out ?_
        rotate_left
        · intro W hW; have hq := HKQ.out W hW; go_simp; with_reducible rfl
        simp only [Act.put, List.setIfInBounds_toArray, List.set_cons_zero, List.set_cons_succ]
        refine take_in (i := 11) (oi := ⟨_, _, _, _, _, _⟩) (v := ?_) rfl (by kernel_rfl) (by kernel_rfl) (by kernel_rfl) (fun _ _ _ h => h) (by rfl) ?_ HB3.out ?_
        rotate_left
        · intro W hW; have hq := HKQ.out W hW; go_simp; with_reducible rfl
        simp only [Act.put, List.setIfInBounds_toArray, List.set_cons_zero, List.set_cons_succ]
        refine take_in (i := 12) (oi := ⟨_, _, _, _, _, _⟩) (v := ?_) rfl (by kernel_rfl) (by kernel_rfl) (by kernel_rfl) (fun _ _ _ h => h) (by rfl) ?_ HB3.out ?_
        rotate_left
        · intro W hW; have hq := HKQ.out W hW; go_simp; with_reducible rfl
        simp only [Act.put, List.setIfInBounds_toArray, List.set_cons_zero, List.set_cons_succ]
        refine take_in (i := 13) (oi := ⟨_, _, _, _, _, _⟩) (v := ?_) rfl (by kernel_rfl) (by kernel_rfl) (by kernel_rfl) (fun _ _ _ h => h) (by rfl) ?_ HB3.out ?_
        rotate_left
        · intro W hW; have hq := HKQ.out W hW; go_simp; with_reducible rfl
        simp only [Act.put, List.setIfInBounds_toArray, List.set_cons_zero, List.set_cons_succ]
        refine take_in (i := 15) (oi := ⟨_, _, _, _, _, _⟩) (v := ?_) rfl (by kernel_rfl) (by kernel_rfl) (by kernel_rfl) (fun _ _ _ h => h) (by rfl) ?_ HB3.out ?_
        rotate_left
        · intro W hW; have hq := HKQ.out W hW; go_simp; with_reducible rfl
        simp only [Act.put, List.setIfInBounds_toArray, List.set_cons_zero, List.set_cons_succ]
        refine take_in (i := 16) (oi := ⟨_, _, _, _, _, _⟩) (v := ?_) rfl (by kernel_rfl) (by kernel_rfl) (by kernel_rfl) (fun _ _ _ h => h) (by rfl) ?_ HB3.out ?_
        rotate_left
        · intro W hW; have hq := HKQ.out W hW; go_simp; with_reducible rfl
        simp only [Act.put, List.setIfInBounds_toArray, List.set_cons_zero, List.set_cons_succ]
        refine wpAnyH_ready (rs := [14]) (by kernel_rfl) (by simp) ?_
        refine AllReadyH.cons (o := ⟨_, _, _, _, _, _⟩) rfl (fun K hK => ?_) AllReadyH.nil
        go_simp
        refine (safe_c _ _ F7 _ (HD2.out.all HB3.out)).mono ?_
        rintro e v3 ⟨rfl, hb⟩
        have HB4 := Lib.hid (HB3.out.trans (hb.mono HB3.out.size)); clear hb
        refine hK.out _ _ HB4.out (fun _ => ?_)
        clear hK K
        refine take_in (i := 17) (oi := ⟨_, _, _, _, _, _⟩) (v := ?_) rfl (by kernel_rfl) (by kernel_rfl) (by kernel_rfl) (fun _ _ _ h => h) (by rfl) ?_ HB4.out ?_
        rotate_left
        · intro W hW; have hq := HKQ.out W hW; go_simp; with_reducible rfl
        simp only [Act.put, List.setIfInBounds_toArray, List.set_cons_zero, List.set_cons_succ]
        refine take_in (i := 18) (oi := ⟨_, _, _, _, _, _⟩) (v := ?_) rfl (by kernel_rfl) (by kernel_rfl) (by kernel_rfl) (fun _ _ _ h => h) (by rfl) ?_ HB4.out ?_
        rotate_left
        · intro W hW; have hq := HKQ.out W hW; go_simp; with_reducible rfl
        simp only [Act.put, List.setIfInBounds_toArray, List.set_cons_zero, List.set_cons_succ]
        refine take_in (i := 19) (oi := ⟨_, _, _, _, _, _⟩) (v := ?_) rfl (by kernel_rfl) (by kernel_rfl) (by kernel_rfl) (fun _ _ _ h => h) (by rfl) ?_ HB4.out ?_
        rotate_left
        · intro W hW; have hq := HKQ.out W hW; go_simp; with_reducible rfl
        simp only [Act.put, List.setIfInBounds_toArray, List.set_cons_zero, List.set_cons_succ]
        refine take_in (i := 20) (oi := ⟨_, _, _, _, _, _⟩) (v := ?_) rfl (by kernel_rfl) (by kernel_rfl) (by kernel_rfl) (fun _ _ _ h => h) (by rfl) ?_ HB4.out ?_
        rotate_left
        · intro W hW; have hq := HKQ.out W hW; go_simp; with_reducible rfl
        simp only [Act.put, List.setIfInBounds_toArray, List.set_cons_zero, List.set_cons_succ]
        refine take_in (i := 22) (oi := ⟨_, _, _, _, _, _⟩) (v := ?_) rfl (by kernel_rfl) (by kernel_rfl) (by kernel_rfl) (fun _ _ _ h => h) (by rfl) ?_ HB4.out ?_
        rotate_left
        · intro W hW; have hq := HKQ.out W hW; go_simp; with_reducible rfl
        simp only [Act.put, List.setIfInBounds_toArray, List.set_cons_zero, List.set_cons_succ]
        refine take_in (i := 23) (oi := ⟨_, _, _, _, _, _⟩) (v := ?_) rfl (by kernel_rfl) (by kernel_rfl) (by kernel_rfl) (fun _ _ _ h => h) (by rfl) ?_ HB4.out ?_
        rotate_left
        · intro W hW; have hq := HKQ.out W hW; go_simp; with_reducible rfl
        simp only [Act.put, List.setIfInBounds_toArray, List.set_cons_zero, List.set_cons_succ]
        refine wpAnyH_ready (rs := [21]) (by kernel_rfl) (by simp) ?_
        refine AllReadyH.cons (o := ⟨_, _, _, _, _, _⟩) rfl (fun K hK => ?_) AllReadyH.nil
        go_simp
        refine (off_c _ _ F7 _ (HD2.out.all HB4.out)).mono ?_
        rintro e v4 ⟨rfl, hb⟩
        have HB5 := Lib.hid (HB4.out.trans (hb.mono HB4.out.size)); clear hb
        refine hK.out _ _ HB5.out (fun _ => ?_)
        clear hK K
        refine take_in (i := 24) (oi := ⟨_, _, _, _, _, _⟩) (v := ?_) rfl (by kernel_rfl) (by kernel_rfl) (by kernel_rfl) (fun _ _ _ h => h) (by rfl) ?_ HB5.out ?_
        rotate_left
        · intro W hW; go_simp; with_reducible rfl
        simp only [Act.put, List.setIfInBounds_toArray, List.set_cons_zero, List.set_cons_succ]
        refine take_in (i := 25) (oi := ⟨_, _, _, _, _, _⟩) (v := ?_) rfl (by kernel_rfl) (by kernel_rfl) (by kernel_rfl) (fun _ _ _ h => h) (by rfl) ?_ HB5.out ?_
        rotate_left
        · intro W hW; go_simp; with_reducible rfl
        simp only [Act.put, List.setIfInBounds_toArray, List.set_cons_zero, List.set_cons_succ]
        refine wpAnyH_done (by kernel_rfl) ?_ _
        have HB6 := Lib.hid (HB2.out.trans (HB5.out.mono HB2.out.size))
        go_wp2
        exact ⟨⟨k + 1, _, F7, by go_num, by omega, HD.out.all HB6.out, HRW.out.all HB6.out, HF.out, HB.out.trans (HB6.out.mono HB.out.size)⟩, by simp [intOf]; omega⟩
      have z5 : (ki == 5) = false := by rw [beq_eq_false_iff_ne]; exact e5
      clear e5
      go_upto_region 36 with (fail)
      clear v0 u1
      obtain ⟨Aq, nq, cq, hxq, hnq, hcq, hrq, hfq⟩ := HRW.out
      have HKQ : Hid (∀ W', Below w6.heap.size w6 W' → (W'.cell? ⟨gw, 0, none⟩ = some (.slice Aq nq cq) ∧ W'.cell? ⟨gw, 1, none⟩ = some (.int .i64 d.safe) ∧ W'.cell? ⟨gw, 4, none⟩ = some (.bool d.off)) ∧ (convert 27 9 (.slice Aq nq cq)).run Try.prog W' = .ok (.string (str d.data)) W') := Lib.hid (fun W' h => ⟨⟨(hxq.all h).c0, (hxq.all h).c1, (hxq.all h).c4⟩, str8' cq (hrq.rd.below h) hnq⟩)
      clear hxq hnq hcq hrq hfq
      have hsm := str_same d.data
      refine wp_region_held_drew (S := fun W' => Below w6.heap.size w6 W') (by kernel_rfl) (Below.refl _ _).drew (fun hHeld => ?_)
      generalize w6.drew = v1 at hHeld ⊢
      have HB1 : Hid (Below w6.heap.size w6 v1) := hHeld
      clear hHeld
      refine take_in (i := 0) (oi := ⟨_, _, _, _, _, _⟩) (v := ?_) rfl (by kernel_rfl) (by kernel_rfl) (by kernel_rfl) (fun _ _ _ h => h) (by rfl) ?_ HB1.out ?_
      rotate_left
      · intro W hW; have hq := HKQ.out W hW; go_simp; with_reducible rfl
      simp only [Act.put, List.setIfInBounds_toArray, List.set_cons_zero, List.set_cons_succ]
      refine take_in (i := 1) (oi := ⟨_, _, _, _, _, _⟩) (v := ?_) rfl (by kernel_rfl) (by kernel_rfl) (by kernel_rfl) (fun _ _ _ h => h) (by rfl) ?_ HB1.out ?_
      rotate_left
      · intro W hW; have hq := HKQ.out W hW; go_simp; with_reducible rfl
      simp only [Act.put, List.setIfInBounds_toArray, List.set_cons_zero, List.set_cons_succ]
      refine take_in (i := 2) (oi := ⟨_, _, _, _, _, _⟩) (v := ?_) rfl (by kernel_rfl) (by kernel_rfl) (by kernel_rfl) (fun _ _ _ h => h) (by rfl) ?_ HB1.out ?_
      rotate_left
      · intro W hW; have hq := HKQ.out W hW; go_simp; with_reducible rfl
      simp only [Act.put, List.setIfInBounds_toArray, List.set_cons_zero, List.set_cons_succ]
      refine take_in (i := 3) (oi := ⟨_, _, _, _, _, _⟩) (v := ?_) rfl (by kernel_rfl) (by kernel_rfl) (by kernel_rfl) (fun _ _ _ h => h) (by rfl) ?_ HB1.out ?_
      rotate_left
      · intro W hW; have hq := HKQ.out W hW; go_simp; with_reducible rfl
      simp only [Act.put, List.setIfInBounds_toArray, List.set_cons_zero, List.set_cons_succ]
      refine take_in (i := 4) (oi := ⟨_, _, _, _, _, _⟩) (v := ?_) rfl (by kernel_rfl) (by kernel_rfl) (by kernel_rfl) (fun _ _ _ h => h) (by rfl) ?_ HB1.out ?_
      rotate_left
      · intro W hW; have hq := HKQ.out W hW; go_simp; with_reducible rfl
      simp only [Act.put, List.setIfInBounds_toArray, List.set_cons_zero, List.set_cons_succ]
      refine take_in (i := 7) (oi := ⟨_, _, _, _, _, _⟩) (v := ?_) rfl (by kernel_rfl) (by kernel_rfl) (by kernel_rfl) (fun _ _ _ h => h) (by rfl) ?_ HB1.out ?_
      rotate_left
      · intro W hW; have hq := HKQ.out W hW; go_simp; with_reducible rfl
      simp only [Act.put, List.setIfInBounds_toArray, List.set_cons_zero, List.set_cons_succ]
      refine take_in (i := 8) (oi := ⟨_, _, _, _, _, _⟩) (v := ?_) rfl (by kernel_rfl) (by kernel_rfl) (by kernel_rfl) (fun _ _ _ h => h) (by rfl) ?_ HB1.out ?_
      rotate_left
      · intro W hW; have hq := HKQ.out W hW; go_simp; with_reducible rfl
      simp only [Act.put, List.setIfInBounds_toArray, List.set_cons_zero, List.set_cons_succ]
      refine take_in (i := 9) (oi := ⟨_, _, _, _, _, _⟩) (v := ?_) rfl (by kernel_rfl) (by kernel_rfl) (by kernel_rfl) (fun _ _ _ h => h) (by rfl) ?_ HB1.out ?_
      rotate_left
      · intro W hW; have hq := HKQ.out W hW; go_simp; with_reducible rfl
      simp only [Act.put, List.setIfInBounds_toArray, List.set_cons_zero, List.set_cons_succ]
      refine wpAnyH_ready (rs := [5]) (by kernel_rfl) (by simp) ?_
      refine AllReadyH.cons (o := ⟨_, _, _, _, _, _⟩) rfl (fun K hK => ?_) AllReadyH.nil
      go_simp
      refine (bytes_c _ _ F _ (HD.out.all HB1.out)).mono ?_
      rintro e v2 ⟨A9, n9, c9, rfl, how, hb⟩
      have HO9 := Lib.hid how; clear how
      have HB2 := Lib.hid (HB1.out.trans (hb.mono HB1.out.size)); clear hb
      refine hK.out _ _ HB2.out (fun _ => ?_)
      clear hK K
      have HK9 : Hid (∀ W', Below v2.heap.size v2 W' → (convert 27 9 (.slice A9 n9 c9)).run Try.prog W' = .ok (.string (str d.data)) W') := Lib.hid (fun W' h => str8' c9 (HO9.out.rd.below h) HO9.out.1)
      refine tighten (S' := fun W' => Below v2.heap.size v2 W') (fun W' h => HB2.out.trans (h.mono HB2.out.size)) _ _ _ _ ?_
      have HB3 := Lib.hid (Below.refl v2.heap.size v2)
      have HD2 := Lib.hid (HD.out.all HB2.out)
      have HKQ : Hid (∀ W', Below v2.heap.size v2 W' → (W'.cell? ⟨gw, 0, none⟩ = some (.slice Aq nq cq) ∧ W'.cell? ⟨gw, 1, none⟩ = some (.int .i64 d.safe) ∧ W'.cell? ⟨gw, 4, none⟩ = some (.bool d.off))) := Lib.hid (fun W' h => (HKQ.out W' (HB2.out.trans (h.mono HB2.out.size))).1)
      refine take_in (i := 6) (oi := ⟨_, _, _, _, _, _⟩) (v := ?_) rfl (by kernel_rfl) (by kernel_rfl) (by kernel_rfl) (fun _ _ _ h => h) (by rfl) ?_ HB3.out ?_
      rotate_left
      · intro W hW; have hq := HK9.out W hW; go_simp; with_reducible rfl
      simp only [Act.put, List.setIfInBounds_toArray, List.set_cons_zero, List.set_cons_succ]
      refine take_in (i := 10) (oi := ⟨_, _, _, _, _, _⟩) (v := ?_) rfl (by kernel_rfl) (by kernel_rfl) (by kernel_rfl) (fun _ _ _ h => h) (by rfl) ?_ HB3.out ?_
      rotate_left
      · intro W hW; have hq := HKQ.out W hW; go_simp; with_reducible rfl
      simp only [Act.put, List.setIfInBounds_toArray, List.set_cons_zero, List.set_cons_succ]
      refine take_in (i := 11) (oi := ⟨_, _, _, _, _, _⟩) (v := ?_) rfl (by kernel_rfl) (by kernel_rfl) (by kernel_rfl) (fun _ _ _ h => h) (by rfl) ?_ HB3.out ?_
      rotate_left
      · intro W hW; have hq := HKQ.out W hW; go_simp; with_reducible rfl
      simp only [Act.put, List.setIfInBounds_toArray, List.set_cons_zero, List.set_cons_succ]
      refine take_in (i := 12) (oi := ⟨_, _, _, _, _, _⟩) (v := ?_) rfl (by kernel_rfl) (by kernel_rfl) (by kernel_rfl) (fun _ _ _ h => h) (by rfl) ?_ HB3.out ?_
      rotate_left
      · intro W hW; have hq := HKQ.out W hW; go_simp; with_reducible rfl
      simp only [Act.put, List.setIfInBounds_toArray, List.set_cons_zero, List.set_cons_succ]
      refine take_in (i := 13) (oi := ⟨_, _, _, _, _, _⟩) (v := ?_) rfl (by kernel_rfl) (by kernel_rfl) (by kernel_rfl) (fun _ _ _ h => h) (by rfl) ?_ HB3.out ?_
      rotate_left
      · intro W hW; have hq := HKQ.out W hW; go_simp; with_reducible rfl
      simp only [Act.put, List.setIfInBounds_toArray, List.set_cons_zero, List.set_cons_succ]
      refine take_in (i := 15) (oi := ⟨_, _, _, _, _, _⟩) (v := ?_) rfl (by kernel_rfl) (by kernel_rfl) (by kernel_rfl) (fun _ _ _ h => h) (by rfl) ?_ HB3.out ?_
      rotate_left
      · intro W hW; have hq := HKQ.out W hW; go_simp; with_reducible rfl
      simp only [Act.put, List.setIfInBounds_toArray, List.set_cons_zero, List.set_cons_succ]
      refine take_in (i := 16) (oi := ⟨_, _, _, _, _, _⟩) (v := ?_) rfl (by kernel_rfl) (by kernel_rfl) (by kernel_rfl) (fun _ _ _ h => h) (by rfl) ?_ HB3.out ?_
      rotate_left
      · intro W hW; have hq := HKQ.out W hW; go_simp; with_reducible rfl
      simp only [Act.put, List.setIfInBounds_toArray, List.set_cons_zero, List.set_cons_succ]
      refine wpAnyH_ready (rs := [14]) (by kernel_rfl) (by simp) ?_
      refine AllReadyH.cons (o := ⟨_, _, _, _, _, _⟩) rfl (fun K hK => ?_) AllReadyH.nil
      go_simp
      refine (safe_c _ _ F _ (HD2.out.all HB3.out)).mono ?_
      rintro e v3 ⟨rfl, hb⟩
      have HB4 := Lib.hid (HB3.out.trans (hb.mono HB3.out.size)); clear hb
      refine hK.out _ _ HB4.out (fun _ => ?_)
      clear hK K
      refine take_in (i := 17) (oi := ⟨_, _, _, _, _, _⟩) (v := ?_) rfl (by kernel_rfl) (by kernel_rfl) (by kernel_rfl) (fun _ _ _ h => h) (by rfl) ?_ HB4.out ?_
      rotate_left
      · intro W hW; have hq := HKQ.out W hW; go_simp; with_reducible rfl
      simp only [Act.put, List.setIfInBounds_toArray, List.set_cons_zero, List.set_cons_succ]
      refine take_in (i := 18) (oi := ⟨_, _, _, _, _, _⟩) (v := ?_) rfl (by kernel_rfl) (by kernel_rfl) (by kernel_rfl) (fun _ _ _ h => h) (by rfl) ?_ HB4.out ?_
      rotate_left
      · intro W hW; have hq := HKQ.out W hW; go_simp; with_reducible rfl
      simp only [Act.put, List.setIfInBounds_toArray, List.set_cons_zero, List.set_cons_succ]
      refine take_in (i := 19) (oi := ⟨_, _, _, _, _, _⟩) (v := ?_) rfl (by kernel_rfl) (by kernel_rfl) (by kernel_rfl) (fun _ _ _ h => h) (by rfl) ?_ HB4.out ?_
      rotate_left
      · intro W hW; have hq := HKQ.out W hW; go_simp; with_reducible rfl
      simp only [Act.put, List.setIfInBounds_toArray, List.set_cons_zero, List.set_cons_succ]
      refine take_in (i := 20) (oi := ⟨_, _, _, _, _, _⟩) (v := ?_) rfl (by kernel_rfl) (by kernel_rfl) (by kernel_rfl) (fun _ _ _ h => h) (by rfl) ?_ HB4.out ?_
      rotate_left
      · intro W hW; have hq := HKQ.out W hW; go_simp; with_reducible rfl
      simp only [Act.put, List.setIfInBounds_toArray, List.set_cons_zero, List.set_cons_succ]
      refine take_in (i := 22) (oi := ⟨_, _, _, _, _, _⟩) (v := ?_) rfl (by kernel_rfl) (by kernel_rfl) (by kernel_rfl) (fun _ _ _ h => h) (by rfl) ?_ HB4.out ?_
      rotate_left
      · intro W hW; have hq := HKQ.out W hW; go_simp; with_reducible rfl
      simp only [Act.put, List.setIfInBounds_toArray, List.set_cons_zero, List.set_cons_succ]
      refine take_in (i := 23) (oi := ⟨_, _, _, _, _, _⟩) (v := ?_) rfl (by kernel_rfl) (by kernel_rfl) (by kernel_rfl) (fun _ _ _ h => h) (by rfl) ?_ HB4.out ?_
      rotate_left
      · intro W hW; have hq := HKQ.out W hW; go_simp; with_reducible rfl
      simp only [Act.put, List.setIfInBounds_toArray, List.set_cons_zero, List.set_cons_succ]
      refine wpAnyH_ready (rs := [21]) (by kernel_rfl) (by simp) ?_
      refine AllReadyH.cons (o := ⟨_, _, _, _, _, _⟩) rfl (fun K hK => ?_) AllReadyH.nil
      go_simp
      refine (off_c _ _ F _ (HD2.out.all HB4.out)).mono ?_
      rintro e v4 ⟨rfl, hb⟩
      have HB5 := Lib.hid (HB4.out.trans (hb.mono HB4.out.size)); clear hb
      refine hK.out _ _ HB5.out (fun _ => ?_)
      clear hK K
      refine take_in (i := 24) (oi := ⟨_, _, _, _, _, _⟩) (v := ?_) rfl (by kernel_rfl) (by kernel_rfl) (by kernel_rfl) (fun _ _ _ h => h) (by rfl) ?_ HB5.out ?_
      rotate_left
      · intro W hW; go_simp; with_reducible rfl
      simp only [Act.put, List.setIfInBounds_toArray, List.set_cons_zero, List.set_cons_succ]
      refine take_in (i := 25) (oi := ⟨_, _, _, _, _, _⟩) (v := ?_) rfl (by kernel_rfl) (by kernel_rfl) (by kernel_rfl) (fun _ _ _ h => h) (by rfl) ?_ HB5.out ?_
      rotate_left
      · intro W hW; go_simp; with_reducible rfl
      simp only [Act.put, List.setIfInBounds_toArray, List.set_cons_zero, List.set_cons_succ]
      refine wpAnyH_done (by kernel_rfl) ?_ _
      have HB6 := Lib.hid (HB2.out.trans (HB5.out.mono HB2.out.size))
      go_wp2
      exact ⟨⟨k + 1, _, F, by go_num, by omega, HD.out.all HB6.out, HRW.out.all HB6.out, HF.out, HB.out.trans (HB6.out.mono HB.out.size)⟩, by simp [intOf]; omega⟩
    · go_wp2
      go_ret
      exact ⟨rfl, HB.out⟩
end Go.Proofs.Ytgcmejhgfdipkaa.diskRuns
