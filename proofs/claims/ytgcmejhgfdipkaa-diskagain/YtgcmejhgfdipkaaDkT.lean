/- What the document's Append of layer 8 answers: a contract by a walk. -/
import Derived.Test.YtgcmejhgfdipkaaDkS
namespace Go.Proofs.Ytgcmejhgfdipkaa.Dkw
open Go.RowKit
open Dk

/-- a disk and an error's number are answered -/
def RetDE (w : World) (F : Nat → Prop) (d : D) (x : Int) (e : Ending) (w' : World) : Prop := ∃ v, e = .returned (.tuple #[v, .int .i64 x]) ∧ Ds w' F v d ∧ Below w.heap.size w w'
theorem own_set {w : World} {base : Nat} {A : Option Addr} {n c : Nat} {bs : List UInt8} (h : Own w base A n c bs) {p : Addr} (hp : p.block < base) (u : Value) : Own (w.setCell p u) base A n c bs := by
  refine ⟨h.1, h.2.1, ?_⟩
  rcases h.2.2 with h0 | ⟨g, cap, cur, hv, hg, hh, r⟩
  · exact .inl h0
  · exact .inr ⟨g, cap, cur, hv, hg, (Below.heap_setCell w p u g (by omega)).trans hh, r⟩
set_option maxHeartbeats 1000000 in
theorem append_r (v : Value) (d : D) (Ab : Option Addr) (nb cb : Nat) (bs : List UInt8) (hnb : nb = bs.length) (hlb : nb ≤ big) (F : Nat → Prop) (w : World) (hF : ∀ k, F k → k < w.heap.size) (h : Ds w F v d) (hi : Iv d) (hrb : Rd w w.heap.size Ab (bs.map B8)) :
    Calls Try.prog 13 #[v, .slice Ab nb cb] w (RetDE w F (appD d bs) (appE d bs)) := by
  obtain ⟨A, m, c, rfl, hn, hc, hr⟩ := h
  have HN := Lib.hid hn; have HC := Lib.hid hc; have HR := Lib.hid hr; have HF := Lib.hid hF
  have HNB := Lib.hid hnb; have HRB := Lib.hid hrb
  have hm6 : m ≤ 60000 := by rw [hn]; exact hi.2.2.1
  have hr6 : d.room ≤ 60000 := hi.2.2.2.2.1
  have hr0 : 0 ≤ d.room := hi.2.2.2.1
  have hf1 : -1 ≤ d.fuse := hi.2.2.2.2.2.1
  have hf2 : d.fuse ≤ 9223372036854775807 := hi.2.2.2.2.2.2
  unfold big at hlb
  clear hn hc hr hF hnb hrb
  cases ho : d.off with
  | true =>
    have HP : Hid (RetDE w F (appD d bs) (appE d bs) = RetDE w F d 82) := Lib.hid (by unfold appD appE; rw [ho]; rfl)
    rw [HP.out]
    unfold dv
    rw [ho]
    go_enter Try.func13, Try.ntmps13
    go_wp2
    refine bodyPost_ret (results_disk2 (g := w.heap.size + 1) rfl rfl rfl (hat _ _ _ (by simp))) rfl ?_
    exact ⟨_, rfl, ⟨A, m, c, by unfold dv; rw [ho], HN.out, HC.out, HR.out.all (bal (bal (Below.refl _ _) (Nat.le_refl _) _) (Nat.le_refl _) _)⟩, bal (bal (Below.refl _ _) (Nat.le_refl _) _) (Nat.le_refl _) _⟩
  | false =>
  by_cases hfull : 0 < nb ∧ d.room - m < nb
  · have HP : Hid (RetDE w F (appD d bs) (appE d bs) = RetDE w F d 81) := Lib.hid (by unfold appD appE; rw [ho, ← HNB.out, ← HN.out, if_pos hfull, if_pos hfull]; rfl)
    rw [HP.out]
    unfold dv
    rw [ho]
    have h1 := hfull.1
    have h2 := hfull.2
    clear hfull
    go_enter Try.func13, Try.ntmps13
    go_wp2
    refine bodyPost_ret (results_disk2 (g := w.heap.size + 1) rfl rfl rfl (hat _ _ _ (by simp))) rfl ?_
    exact ⟨_, rfl, ⟨A, m, c, by unfold dv; rw [ho], HN.out, HC.out, HR.out.all (bal (bal (Below.refl _ _) (Nat.le_refl _) _) (Nat.le_refl _) _)⟩, bal (bal (Below.refl _ _) (Nat.le_refl _) _) (Nat.le_refl _) _⟩
  · have HPP : Hid (∀ k : Nat, d.fuse = k → k < nb → RetDE w F (appD d bs) (appE d bs) = RetDE w F ⟨d.data ++ bs.take k, d.safe, d.room, 0, true⟩ 82) := Lib.hid (fun k hk hkn => by
      have hq : 0 ≤ d.fuse ∧ d.fuse < (nb : Int) := by omega
      unfold appD appE
      rw [ho, ← HNB.out, ← HN.out, if_neg hfull, if_neg hfull, if_pos hq, if_pos hq, hk]
      rfl)
    have HPF : Hid (¬ (0 ≤ d.fuse ∧ d.fuse < nb) → RetDE w F (appD d bs) (appE d bs) = RetDE w F ⟨d.data ++ bs, d.safe, d.room, if 0 ≤ d.fuse then d.fuse - nb else d.fuse, false⟩ 0) := Lib.hid (fun hk => by
      unfold appD appE
      rw [ho, ← HNB.out, ← HN.out, if_neg hfull, if_neg hfull, if_neg hk, if_neg hk]
      rfl)
    generalize RetDE w F (appD d bs) (appE d bs) = P at HPP HPF ⊢
    have hfit : nb = 0 ∨ (0 < nb ∧ (nb : Int) ≤ d.room - m) := by omega
    unfold dv
    rw [ho]
    have HRS := Lib.hid (show Rd ((w.alloc (.cells #[.slice A m c, .int .i64 d.safe, .int .i64 d.room, .int .i64 d.fuse, .bool false] 30)).alloc (.cells #[.slice none 0 0, .int .i64 0, .int .i64 0, .int .i64 0, .bool false] 30)) w.heap.size A (d.data.map B8) from HR.out.rd.below (bal (bal (Below.refl _ _) (Nat.le_refl _) _) (Nat.le_refl _) _))
    clear hfull
    go_enter Try.func13, Try.ntmps13
    have HLN : Hid (m = d.data.length) := HN
    rcases hfit with hz | ⟨hz0, hz⟩
    · subst hz
      go_wp2_with (at_builtin; refine wp_copy8 rfl (.tmp 29) (.tmp 31) rfl ((w.alloc (.cells #[.slice A m c, .int .i64 d.safe, .int .i64 d.room, .int .i64 d.fuse, .bool false] 30)).alloc (.cells #[.slice none 0 0, .int .i64 0, .int .i64 0, .int .i64 0, .bool false] 30)) (by rw [World.size_alloc, World.size_alloc]; rfl) w.heap.size A m c d.data rfl HLN.out HRS.out (by simp; omega) (by unfold big; omega) ?_; intro A2 c2 w2 how hb2)
      have HXX := Lib.hid ((show Dx ((w.alloc (.cells #[.slice A m c, .int .i64 d.safe, .int .i64 d.room, .int .i64 d.fuse, .bool false] 30)).alloc (.cells #[.slice none 0 0, .int .i64 0, .int .i64 0, .int .i64 0, .bool false] 30)) w.heap.size A m c d.safe d.room d.fuse false from hbe (hat _ _ _ rfl)).all hb2)
      have HYY := Lib.hid ((show Dx ((w.alloc (.cells #[.slice A m c, .int .i64 d.safe, .int .i64 d.room, .int .i64 d.fuse, .bool false] 30)).alloc (.cells #[.slice none 0 0, .int .i64 0, .int .i64 0, .int .i64 0, .bool false] 30)) (w.heap.size + 1) none 0 0 0 0 0 false from hat _ _ _ (by simp)).all hb2)
      have HOO := Lib.hid (show Own w2 (w.heap.size + 2) A2 m c2 d.data from how.base (by simp))
      have HBB := Lib.hid ((bal (bal (Below.refl w.heap.size w) (Nat.le_refl _) (.cells #[.slice A m c, .int .i64 d.safe, .int .i64 d.room, .int .i64 d.fuse, .bool false] 30)) (Nat.le_refl _) (.cells #[.slice none 0 0, .int .i64 0, .int .i64 0, .int .i64 0, .bool false] 30)).trans (hb2.mono (by simp; omega)))
      have HSZ : Hid (w.heap.size + 2 ≤ w2.heap.size) := Lib.hid (by have := hb2.size; simp at this; omega)
      clear how hb2 HRS
      go_loopw [7, 35] (fun x i wr => x = .slice A2 m c2 ∧ i = .int .i64 0 ∧ wr = w2) (fun _ _ _ => 0)
      case atStart => exact ⟨rfl, rfl, rfl⟩
      case round =>
        obtain ⟨rfl, rfl, rfl⟩ := hrel
        have HO := HOO; have HX := HXX; have HY := HYY; have HB := HBB
        have HP2 := Lib.hid (HPF.out (by omega))
        have HB0 : Hid (bs = []) := Lib.hid (List.eq_nil_of_length_eq_zero HNB.out.symm)
        have HE : Hid ((if 0 ≤ d.fuse then d.fuse - ((0 : Nat) : Int) else d.fuse) = d.fuse) := Lib.hid (by split <;> omega)
        rw [HE.out] at HP2
        clear HOO HXX HYY HBB HSZ HE
        have x0 := HX.out.c0; have x1 := HX.out.c1; have x2 := HX.out.c2; have x3 := HX.out.c3; have x4 := HX.out.c4
        have f0 := frozen_of_row wr w.heap.size 0 _ _ HX.out
        have y0 := HY.out.c0; have y1 := HY.out.c1; have y2 := HY.out.c2; have y3 := HY.out.c3; have y4 := HY.out.c4
        have g0 := frozen_of_row wr (w.heap.size + 1) 0 _ _ HY.out
        have g1 := frozen_of_row wr (w.heap.size + 1) 1 _ _ HY.out
        have g2 := frozen_of_row wr (w.heap.size + 1) 2 _ _ HY.out
        have g3 := frozen_of_row wr (w.heap.size + 1) 3 _ _ HY.out
        have g4 := frozen_of_row wr (w.heap.size + 1) 4 _ _ HY.out
        go_wp2
        refine bodyPost_ret (results_disk2 (g := w.heap.size + 1) rfl rfl rfl (((((((HY.out.other (Nat.succ_ne_self _) _)).setA A2 m c2).setS d.safe).setR d.room).setF d.fuse).setO false)) rfl ?_
        rw [HP2.out]
        refine ⟨_, rfl, ⟨A2, m, c2, rfl, ?_, HO.out.cap, ?_⟩, ((((((HB.out.setCell (Nat.le_refl _) _).setCell (Nat.le_succ _) _).setCell (Nat.le_succ _) _).setCell (Nat.le_succ _) _).setCell (Nat.le_succ _) _).setCell (Nat.le_succ _) _)⟩
        · rw [HB0.out, List.append_nil]; exact HLN.out
        · show Rf _ F A2 ((d.data ++ bs).map B8)
          rw [HB0.out, List.append_nil]
          exact own_two HF.out HO.out (((((((Kp.refl (Two F w.heap.size) wr).setCell (Or.inr (Or.inl rfl)) _).setCell (Or.inr (Or.inr rfl)) _).setCell (Or.inr (Or.inr rfl)) _).setCell (Or.inr (Or.inr rfl)) _).setCell (Or.inr (Or.inr rfl)) _).setCell (Or.inr (Or.inr rfl)) _)
    · skip
      go_wp2_with (at_builtin; refine wp_copy8 rfl (.tmp 29) (.tmp 31) rfl ((w.alloc (.cells #[.slice A m c, .int .i64 d.safe, .int .i64 d.room, .int .i64 d.fuse, .bool false] 30)).alloc (.cells #[.slice none 0 0, .int .i64 0, .int .i64 0, .int .i64 0, .bool false] 30)) (by rw [World.size_alloc, World.size_alloc]; rfl) w.heap.size A m c d.data rfl HLN.out HRS.out (by simp; omega) (by unfold big; omega) ?_; intro A2 c2 w2 how hb2)
      have HXX := Lib.hid ((show Dx ((w.alloc (.cells #[.slice A m c, .int .i64 d.safe, .int .i64 d.room, .int .i64 d.fuse, .bool false] 30)).alloc (.cells #[.slice none 0 0, .int .i64 0, .int .i64 0, .int .i64 0, .bool false] 30)) w.heap.size A m c d.safe d.room d.fuse false from hbe (hat _ _ _ rfl)).all hb2)
      have HYY := Lib.hid ((show Dx ((w.alloc (.cells #[.slice A m c, .int .i64 d.safe, .int .i64 d.room, .int .i64 d.fuse, .bool false] 30)).alloc (.cells #[.slice none 0 0, .int .i64 0, .int .i64 0, .int .i64 0, .bool false] 30)) (w.heap.size + 1) none 0 0 0 0 0 false from hat _ _ _ (by simp)).all hb2)
      have HOO := Lib.hid (show Own w2 (w.heap.size + 2) A2 m c2 d.data from how.base (by simp))
      have HBB := Lib.hid ((bal (bal (Below.refl w.heap.size w) (Nat.le_refl _) (.cells #[.slice A m c, .int .i64 d.safe, .int .i64 d.room, .int .i64 d.fuse, .bool false] 30)) (Nat.le_refl _) (.cells #[.slice none 0 0, .int .i64 0, .int .i64 0, .int .i64 0, .bool false] 30)).trans (hb2.mono (by simp; omega)))
      have HSZ : Hid (w.heap.size + 2 ≤ w2.heap.size) := Lib.hid (by have := hb2.size; simp at this; omega)
      clear how hb2 HRS
      go_loopw [7, 35] (fun x i wr => ∃ (A3 : Option Addr) (c3 k : Nat), x = .slice A3 (m + k) c3 ∧ i = .int .i64 k ∧ k ≤ nb ∧ (0 ≤ d.fuse → (k : Int) ≤ d.fuse) ∧ Own wr (w.heap.size + 2) A3 (m + k) c3 (d.data ++ bs.take k) ∧ Dx wr w.heap.size A m c d.safe d.room (if 0 ≤ d.fuse then d.fuse - k else d.fuse) false ∧ Dx wr (w.heap.size + 1) none 0 0 0 0 0 false ∧ Below w.heap.size w wr ∧ w.heap.size + 2 ≤ wr.heap.size) (fun _ i _ => nb - (intOf i).toNat)
      case atStart => exact ⟨A2, c2, 0, rfl, rfl, Nat.zero_le _, by omega, by simpa using HOO.out, by have := HXX.out; simpa using this, HYY.out, HBB.out, HSZ.out⟩
      case round =>
        obtain ⟨A3, c3, k, rfl, rfl, hk, hkf, how, hx, hy, hb, hsz⟩ := hrel
        obtain ⟨f, hf⟩ : ∃ f, f = (if 0 ≤ d.fuse then d.fuse - (k : Int) else d.fuse) := ⟨_, rfl⟩
        rw [← hf] at hx
        have HO := Lib.hid how; have HX := Lib.hid hx; have HY := Lib.hid hy; have HB := Lib.hid hb; have HFU := Lib.hid hf
        have hfr : -1 ≤ f ∧ f ≤ 9223372036854775807 := by rw [hf]; split <;> omega
        clear how hx hy hb hf HOO HXX HYY HBB HSZ
        have x0 := HX.out.c0; have x1 := HX.out.c1; have x2 := HX.out.c2; have x3 := HX.out.c3; have x4 := HX.out.c4
        have f0 := frozen_of_row wr w.heap.size 0 _ _ HX.out
        have f3 := frozen_of_row wr w.heap.size 3 _ _ HX.out
        have f4 := frozen_of_row wr w.heap.size 4 _ _ HX.out
        have y0 := HY.out.c0; have y1 := HY.out.c1; have y2 := HY.out.c2; have y3 := HY.out.c3; have y4 := HY.out.c4
        have g0 := frozen_of_row wr (w.heap.size + 1) 0 _ _ HY.out
        have g1 := frozen_of_row wr (w.heap.size + 1) 1 _ _ HY.out
        have g2 := frozen_of_row wr (w.heap.size + 1) 2 _ _ HY.out
        have g3 := frozen_of_row wr (w.heap.size + 1) 3 _ _ HY.out
        have g4 := frozen_of_row wr (w.heap.size + 1) 4 _ _ HY.out
        by_cases h1 : k < nb
        · obtain ⟨b, o, rfl, hbB, hcell⟩ := HRB.out (by rw [List.length_map, ← HNB.out]; omega)
          have hkl : k < bs.length := by rw [← HNB.out]; exact h1
          have hzz : bs[k]? = some bs[k] := List.getElem?_eq_getElem hkl
          have hcu := hcell k (B8 bs[k]) (by rw [List.getElem?_map, hzz]; rfl)
          have HT : Hid (d.data ++ bs.take (k + 1) = (d.data ++ bs.take k) ++ [bs[k]]) := Lib.hid (by rw [List.take_add_one, hzz, List.append_assoc]; rfl)
          generalize bs[k] = u at hcu HT
          have hcw : wr.cell? ⟨b, o + k, none⟩ = some (.int .u8 (u.toNat : Int)) := (HB.out.cell (by show b < _; omega)).trans hcu
          clear hcu hzz hkl hcell
          by_cases hf0 : f = 0
          · have HK : Hid (d.fuse = k) := Lib.hid (by have := HFU.out; rw [hf0] at this; split at this <;> omega)
            have HP2 := Lib.hid (HPP.out k HK.out h1)
            subst hf0
            go_wp2
            refine bodyPost_ret (results_disk2 (g := w.heap.size + 1) rfl rfl rfl ((((((((HY.out.other (Nat.succ_ne_self _) _).other (Nat.succ_ne_self _) _)).setA A3 (m + k) c3).setS d.safe).setR d.room).setF 0).setO true)) rfl ?_
            rw [HP2.out]
            refine ⟨_, rfl, ⟨A3, m + k, c3, rfl, ?_, HO.out.cap, own_two HF.out HO.out ((((((((Kp.refl (Two F w.heap.size) wr).setCell (Or.inr (Or.inl rfl)) _).setCell (Or.inr (Or.inl rfl)) _).setCell (Or.inr (Or.inr rfl)) _).setCell (Or.inr (Or.inr rfl)) _).setCell (Or.inr (Or.inr rfl)) _).setCell (Or.inr (Or.inr rfl)) _).setCell (Or.inr (Or.inr rfl)) _)⟩, (((((((HB.out.setCell (Nat.le_refl _) _).setCell (Nat.le_refl _) _).setCell (Nat.le_succ _) _).setCell (Nat.le_succ _) _).setCell (Nat.le_succ _) _).setCell (Nat.le_succ _) _).setCell (Nat.le_succ _) _)⟩
            rw [List.length_append, ← HLN.out, List.length_take, Nat.min_eq_left (by rw [← HNB.out]; exact hk)]
          · have hfn : (f == 0) = false := by rw [beq_eq_false_iff_ne]; exact hf0
            clear y0 y1 y2 y3 y4 g0 g1 g2 g3 g4
            by_cases hfp : 0 < f
            · have HF2 : Hid (f - 1 = if 0 ≤ d.fuse then d.fuse - ((k + 1 : Nat) : Int) else d.fuse) := Lib.hid (by have := HFU.out; split at this <;> rename_i h7 <;> (first | rw [if_pos h7] | rw [if_neg h7]) <;> omega)
              go_wp2_with (at_builtin; refine wp_app8 rfl (.tmp 53) (.tmp 55) rfl (w.heap.size + 2) A3 (m + k) c3 _ rfl ((own_set HO.out (by show w.heap.size < _; omega) _).alloc _) (wr.heap.size + 1) _ 1 1 [u] rfl rfl (by have := rd_one (wr.setCell ⟨w.heap.size, 3, none⟩ (.int .i64 (f - 1))) _ u rfl; simpa using this) (by unfold big; omega) (by simp; omega) ?_; intro A4 c4 w4 ho4 hb4)
              have hs4 := hb4.size
              rw [World.size_alloc] at hs4
              have hsw : (wr.setCell ⟨w.heap.size, 3, none⟩ (.int .i64 (f - 1))).heap.size = wr.heap.size := by simp
              refine ⟨⟨A4, c4, k + 1, rfl, by go_num, by omega, ?_, ?_, ?_, ?_, ?_, by omega⟩, by simp [intOf]; omega⟩
              · intro h8
                have := HFU.out
                rw [if_pos h8] at this
                omega
              · rw [HT.out]; exact ho4
              · rw [← HF2.out]
                exact (hb4.block _ (by omega)).trans (hbe (HX.out.setF (f - 1)))
              · exact (hb4.block _ (by omega)).trans (hbe (HY.out.other (Nat.succ_ne_self _) _))
              · exact (bal (HB.out.setCell (Nat.le_refl _) _) (Nat.le_refl _) _).trans (hb4.mono (by omega))
            · have hfl : f < 0 := by omega
              have HF2 : Hid (f = if 0 ≤ d.fuse then d.fuse - ((k + 1 : Nat) : Int) else d.fuse) := Lib.hid (by have := HFU.out; split at this <;> rename_i h7 <;> (first | rw [if_pos h7] | rw [if_neg h7]) <;> omega)
              go_wp2_with (at_builtin; refine wp_app8 rfl (.tmp 53) (.tmp 55) rfl (w.heap.size + 2) A3 (m + k) c3 _ rfl (HO.out.alloc _) (wr.heap.size + 1) _ 1 1 [u] rfl rfl (rd_one wr _ u rfl) (by unfold big; omega) (by simp; omega) ?_; intro A4 c4 w4 ho4 hb4)
              have hs4 := hb4.size
              rw [World.size_alloc] at hs4
              refine ⟨⟨A4, c4, k + 1, rfl, by go_num, by omega, ?_, ?_, ?_, ?_, ?_, by omega⟩, by simp [intOf]; omega⟩
              · intro h8
                have := HFU.out
                rw [if_pos h8] at this
                have := hkf h8
                omega
              · rw [HT.out]; exact ho4
              · rw [← HF2.out]
                exact (hb4.block _ (by omega)).trans (hbe HX.out)
              · exact (hb4.block _ (by omega)).trans (hbe HY.out)
              · exact (bal HB.out (Nat.le_refl _) _).trans (hb4.mono (by omega))
        · obtain rfl : k = nb := by omega
          have HNF : Hid (¬ (0 ≤ d.fuse ∧ d.fuse < (k : Int))) := Lib.hid (by rintro ⟨h3, h4⟩; have := hkf h3; omega)
          have HP2 := Lib.hid (HPF.out HNF.out)
          rw [← HFU.out] at HP2
          go_wp2
          refine bodyPost_ret (results_disk2 (g := w.heap.size + 1) rfl rfl rfl (((((((HY.out.other (Nat.succ_ne_self _) _)).setA A3 (m + k) c3).setS d.safe).setR d.room).setF f).setO false)) rfl ?_
          rw [HP2.out]
          have HT : d.data ++ bs.take k = d.data ++ bs := by rw [List.take_of_length_le (by rw [← HNB.out]; omega)]
          refine ⟨_, rfl, ⟨A3, m + k, c3, rfl, ?_, HO.out.cap, ?_⟩, ((((((HB.out.setCell (Nat.le_refl _) _).setCell (Nat.le_succ _) _).setCell (Nat.le_succ _) _).setCell (Nat.le_succ _) _).setCell (Nat.le_succ _) _).setCell (Nat.le_succ _) _)⟩
          · rw [List.length_append, ← HLN.out, ← HNB.out]
          · show Rf _ F A3 ((d.data ++ bs).map B8)
            rw [← HT]
            exact own_two HF.out HO.out (((((((Kp.refl (Two F w.heap.size) wr).setCell (Or.inr (Or.inl rfl)) _).setCell (Or.inr (Or.inr rfl)) _).setCell (Or.inr (Or.inr rfl)) _).setCell (Or.inr (Or.inr rfl)) _).setCell (Or.inr (Or.inr rfl)) _).setCell (Or.inr (Or.inr rfl)) _)
end Go.Proofs.Ytgcmejhgfdipkaa.Dkw
