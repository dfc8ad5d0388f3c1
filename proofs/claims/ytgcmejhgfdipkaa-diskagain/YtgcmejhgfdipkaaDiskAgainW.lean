/- The walk of DiskAgain. -/
import Derived.Test.YtgcmejhgfdipkaaDkA
import Derived.Test.YtgcmejhgfdipkaaWf
namespace Go.Proofs.Ytgcmejhgfdipkaa.diskAgain
open Go.RowKit
open Dk Dkw

set_option maxRecDepth 100000 in
set_option maxHeartbeats 2000000 in
theorem walk (w : World) (A : Option Addr) (n c : Nat) (xs : List Ac) (hn : n = xs.length) (hl : n ≤ big) (hr : Acs w w.heap.size A xs) (k0 : Int) (w0 : (Lit.int .i64 k0).wf = true) (k1 : Int) (w1 : (Lit.int .i64 k1).wf = true) :
    Calls Try.prog 8 #[.slice A n c, .agg #[.int .i64 k0, .int .i64 k1]] w fun e w' => e = .returned (.bool true) ∧ Below w.heap.size w w' := by
  have kc := text_const
  have H0 : Hid (I64 k0) := Lib.hid (wf_i64 w0)
  have H1 : Hid (I64 k1) := Lib.hid (wf_i64 w1)
  have HN := Lib.hid hn; have HR := Lib.hid hr
  unfold big at hl
  clear hn hr w0 w1
  go_enter Try.func8, Try.ntmps8
  go_wp2_with fail
  have VN := Lib.hid (show (w.alloc (.cells #[.int .i64 k0, .int .i64 k1] 46)).heap[w.heap.size]? = some (.cells #[.int .i64 k0, .int .i64 k1] 46) from hat _ _ _ rfl)
  have HB := Lib.hid (bal (Below.refl w.heap.size w) (Nat.le_refl _) (.cells #[.int .i64 k0, .int .i64 k1] 46))
  generalize w.alloc (.cells #[.int .i64 k0, .int .i64 k1] 46) = w1 at VN HB ⊢
  have HW : Hid (Below w.heap.size w w1) := HB
  have hsw : w.heap.size < w1.heap.size := by
    rcases Nat.lt_or_ge w.heap.size w1.heap.size with h' | h'
    · exact h'
    · have := VN.out; rw [Array.getElem?_eq_none h'] at this; cases this
  clear HB
  refine (alive_c _).mono ?_
  rintro e w2 ⟨rfl, hb⟩
  have HB := Lib.hid hb; clear hb
  by_cases h100 : 100 < n
  · go_wp2
    go_ret
    exact ⟨rfl, HW.out.trans (HB.out.mono HW.out.size)⟩
  have hn1 : n ≤ 100 := by omega
  go_wp2_with fail
  refine (new_c 60000 (i64_small _ (by omega)) _).mono ?_
  rintro e w3 ⟨p, F, rfl, hd, hF, hb⟩
  obtain ⟨a, rfl⟩ := hd.ptr
  have HD := Lib.hid hd; have HF : Hid (∀ k, F k → w1.heap.size ≤ k) := Lib.hid (fun k hk => Nat.le_trans HB.out.size (hF k hk))
  have HB := Lib.hid (HB.out.trans (hb.mono HB.out.size))
  clear hd hF hb
  go_wp2
  go_loopw [17] (fun i wr => ∃ (k : Nat) (d : D) (F : Nat → Prop), i = .int .i64 k ∧ k ≤ n ∧ d.data.length ≤ 500 * k ∧ d.room = 60000 ∧ Dd wr F (.pointer (some a)) d ∧ (∀ k, F k → w1.heap.size ≤ k) ∧ Below w1.heap.size w1 wr) (fun i _ => n - (intOf i).toNat)
  case atStart => exact ⟨0, newD 60000, F, rfl, Nat.zero_le _, by show (0 : Nat) ≤ _; omega, rfl, HD.out, HF.out, HB.out⟩
  case round =>
    obtain ⟨k, d, F, rfl, hk, hdl, hdr, hd, hF, hb⟩ := hrel
    clear HD HF HB
    have HD := Lib.hid hd; have HF := Lib.hid hF; have HB := Lib.hid hb
    have HLR := Lib.hid (And.intro hdl hdr)
    clear hd hF hb hdl hdr
    by_cases h : k < n
    · obtain ⟨b, o, rfl, hbB, hcell⟩ := HR.out.1 (by rw [← HN.out]; omega)
      have hkl : k < xs.length := by rw [← HN.out]; exact h
      have hz : xs[k]? = some xs[k] := List.getElem?_eq_getElem hkl
      have hcu := ((hcell k xs[k] hz).below HW.out hbB).below (HB.out.mono HW.out.size) hbB
      have HPO := Lib.hid (HR.out.2 xs[k] (List.getElem_mem hkl))
      generalize xs[k] = q at hcu HPO
      obtain ⟨ki, nu, pa, pn, pc, bs⟩ := q
      have HPO : Hid (I64 ki ∧ I64 nu ∧ pn = bs.length ∧ pn ≤ pc ∧ pn ≤ big ∧ Rd w w.heap.size pa (bs.map B8)) := HPO
      obtain ⟨q0, q1, q2⟩ := hcu
      have q0 : wr.cell? ⟨b, o + k * 3, none⟩ = some (.int .i64 ki) := q0
      have q1 : wr.cell? ⟨b, o + k * 3 + 1, none⟩ = some (.int .i64 nu) := q1
      have q2 : wr.cell? ⟨b, o + k * 3 + 2, none⟩ = some (.slice pa pn pc) := q2
      clear hz hkl hcell
      have HBS : Hid (bs.length = pn) := Lib.hid HPO.out.2.2.1.symm
      have HDA := Lib.hid (HD.out.all (bal (Below.refl _ _) (Nat.le_refl _) (.cells #[.int .i64 ki, .int .i64 nu, .slice pa pn pc] 33)))
      have HBA := Lib.hid (bal HB.out (Nat.le_refl _) (.cells #[.int .i64 ki, .int .i64 nu, .slice pa pn pc] 33))
      by_cases e0 : ki = 0
      · have z0 : (ki == 0) = true := by rw [beq_iff_eq]; exact e0
        clear e0
        by_cases h5 : 500 < pn
        · go_wp2
          go_ret
          exact ⟨rfl, HW.out.trans (HBA.out.mono HW.out.size)⟩
        have hp5 : pn ≤ 500 := by omega
        go_wp2_with (at_builtin; refine wp_copy8 rfl (.tmp 30) (.tmp 32) rfl (wr.alloc (.cells #[.int .i64 ki, .int .i64 nu, .slice pa pn pc] 33)) (by rw [World.size_alloc]; rfl) w.heap.size pa pn pc bs rfl HPO.out.2.2.1 (HPO.out.2.2.2.2.2.below (HW.out.trans (HBA.out.mono HW.out.size))) (Nat.le_trans HW.out.size HBA.out.size) HPO.out.2.2.2.2.1 ?_; intro A5 c5 w5 how hb5)
        have HRF := Lib.hid (Rf.of_own how HDA.out.lt)
        have hc5 := how.cap
        have HD := Lib.hid (HDA.out.all hb5)
        have HB := Lib.hid (HBA.out.trans (hb5.mono HBA.out.size)); clear hb5 how
        refine (append_c _ _ A5 pn c5 bs HPO.out.2.2.1 hc5 HPO.out.2.2.2.2.1 F _ HD.out HRF.out).mono ?_
        have HNL : Hid ((appD d bs).data.length ≤ 500 * (k + 1) ∧ (appD d bs).room = 60000) := Lib.hid (by
          have h1 := HLR.out
          have h2 := HBS.out
          unfold appD
          split
          · omega
          split
          · omega
          split
          · simp only [List.length_append, List.length_take]; omega
          · simp only [List.length_append]; omega)
        generalize appE _ bs = ae
        rintro e w6 ⟨F6, rfl, hd, hg⟩
        have hg2 := hg.below HB.out.size HF.out
        have HD := Lib.hid hd; have HF := Lib.hid hg2.2; have HB := Lib.hid (HB.out.trans hg2.1)
        clear hd hg hg2
        clear HRF hc5
        go_wp2
        exact ⟨⟨k + 1, _, F6, by go_num, by omega, HNL.out.1, HNL.out.2, HD.out, HF.out, HB.out⟩, by simp [intOf]; omega⟩
      have z0 : (ki == 0) = false := by rw [beq_eq_false_iff_ne]; exact e0
      clear e0
      by_cases e1 : ki = 1
      · have z1 : (ki == 1) = true := by rw [beq_iff_eq]; exact e1
        clear e1
        go_wp2_with fail
        refine (sync_c _ _ F _ HDA.out).mono ?_
        have HNL : Hid ((syncD d).data.length ≤ 500 * (k + 1) ∧ (syncD d).room = 60000) := Lib.hid (by
          have h1 := HLR.out
          unfold syncD
          split
          · omega
          · simp only; omega)
        rintro e w6 ⟨F6, rfl, hd, hg⟩
        have hg2 := hg.below HBA.out.size HF.out
        have HD := Lib.hid hd; have HF := Lib.hid hg2.2; have HB := Lib.hid (HBA.out.trans hg2.1)
        clear hd hg hg2
        go_wp2
        exact ⟨⟨k + 1, _, F6, by go_num, by omega, HNL.out.1, HNL.out.2, HD.out, HF.out, HB.out⟩, by simp [intOf]; omega⟩
      have z1 : (ki == 1) = false := by rw [beq_eq_false_iff_ne]; exact e1
      clear e1
      by_cases e5 : ki = 5
      · have z5 : (ki == 5) = true := by rw [beq_iff_eq]; exact e5
        clear e5
        go_wp2_with fail
        refine (fuse_c _ _ nu HPO.out.2.1 F _ HDA.out).mono ?_
        have HNL : Hid ((fuseD d nu).data.length ≤ 500 * (k + 1) ∧ (fuseD d nu).room = 60000) := Lib.hid (by
          have h1 := HLR.out
          unfold fuseD
          simp only
          omega)
        rintro e w6 ⟨F6, rfl, hd, hg⟩
        have hg2 := hg.below HBA.out.size HF.out
        have HD := Lib.hid hd; have HF := Lib.hid hg2.2; have HB := Lib.hid (HBA.out.trans hg2.1)
        clear hd hg hg2
        go_wp2
        exact ⟨⟨k + 1, _, F6, by go_num, by omega, HNL.out.1, HNL.out.2, HD.out, HF.out, HB.out⟩, by simp [intOf]; omega⟩
      have z5 : (ki == 5) = false := by rw [beq_eq_false_iff_ne]; exact e5
      clear e5
      go_wp2
      exact ⟨⟨k + 1, d, F, by go_num, by omega, by have := HLR.out; omega, HLR.out.2, HDA.out, HF.out, HBA.out⟩, by simp [intOf]; omega⟩
    · skip
      have v0 : wr.cell? ⟨w.heap.size, 0, none⟩ = some (.int .i64 k0) := by rw [cell_of_row _ _ _ _ _ _ ((HB.out.block w.heap.size hsw).trans VN.out)]; rfl
      go_wp2_with fail
      clear v0
      refine (crash_c _ _ k0 H0.out F _ HD.out).mono ?_
      have HT : Hid ((crashD d k0).data.length ≤ 50000 ∧ (crashD d k0) = ⟨(crashD d k0).data, (crashD d k0).data.length, 60000, -1, false⟩) := Lib.hid (by
        have h1 := HLR.out
        unfold crashD
        simp only [List.length_take]
        exact ⟨by omega, by rw [h1.2]⟩)
      generalize crashD d k0 = d1 at HT ⊢
      obtain ⟨T, sf, ro, fu, of⟩ := d1
      have HTL : Hid (T.length ≤ 50000) := Lib.hid HT.out.1
      have HTE : Hid ((⟨T, sf, ro, fu, of⟩ : D) = ⟨T, T.length, 60000, -1, false⟩) := Lib.hid HT.out.2
      rw [HTE.out]
      clear HT HTE
      have HC1 : Hid (crashD ⟨T, T.length, 60000, -1, false⟩ k1 = ⟨T, T.length, 60000, -1, false⟩) := Lib.hid (by
        unfold crashD
        simp only
        rw [List.take_of_length_le (by omega)])
      rintro e w4 ⟨F1, rfl, hd, hg⟩
      have hg2 := hg.below HB.out.size HF.out
      have HD := Lib.hid hd; have HF := Lib.hid hg2.2; have HB := Lib.hid (HB.out.trans hg2.1)
      clear hd hg hg2
      go_wp2_with fail
      refine (bytes_c _ _ F1 _ HD.out).mono ?_
      rintro e w5 ⟨A5, n5, c5, rfl, how, hb⟩
      have hcv := str8' c5 how.rd how.1
      have HD := Lib.hid (HD.out.all hb); have HB := Lib.hid (HB.out.trans (hb.mono HB.out.size)); clear hb
      clear how
      have v1 : w5.cell? ⟨w.heap.size, 1, none⟩ = some (.int .i64 k1) := by rw [cell_of_row _ _ _ _ _ _ ((HB.out.block w.heap.size hsw).trans VN.out)]; rfl
      go_wp2_with fail
      clear v1 hcv
      refine (crash_c _ _ k1 H1.out F1 _ HD.out).mono ?_
      rw [HC1.out]
      rintro e w6 ⟨F2, rfl, hd, hg⟩
      have hg2 := hg.below HB.out.size HF.out
      have HD := Lib.hid hd; have HF := Lib.hid hg2.2; have HB := Lib.hid (HB.out.trans hg2.1)
      clear hd hg hg2
      go_wp2_with fail
      refine (bytes_c _ _ F2 _ HD.out).mono ?_
      rintro e w7 ⟨A7, n7, c7, rfl, how, hb⟩
      have hcv := str8' c7 how.rd how.1
      have hsm := str_same T
      have HD := Lib.hid (HD.out.all hb); have HB := Lib.hid (HB.out.trans (hb.mono HB.out.size)); clear hb
      clear how
      go_wp2_with fail
      clear hcv
      refine (safe_c _ _ F2 _ HD.out).mono ?_
      rintro e w8 ⟨rfl, hb⟩
      have HD := Lib.hid (HD.out.all hb); have HB := Lib.hid (HB.out.trans (hb.mono HB.out.size)); clear hb
      have hsz : (str T).size = T.length := str_size T
      go_wp2_with fail
      refine (off_c _ _ F2 _ HD.out).mono ?_
      rintro e w9 ⟨rfl, hb⟩
      have HD := Lib.hid (HD.out.all hb); have HB := Lib.hid (HB.out.trans (hb.mono HB.out.size)); clear hb
      go_wp2_with fail
      have HR9 := Lib.hid (rf_mark w9 F2 ([101, 110, 100].map B8) (3, 4) HD.out.lt)
      have HD := Lib.hid (HD.out.all (bal (Below.refl _ _) (Nat.le_refl _) (.cells #[.int .u8 101, .int .u8 110, .int .u8 100] 5 (3, 4))))
      have HB := Lib.hid (bal HB.out (Nat.le_refl _) (.cells #[.int .u8 101, .int .u8 110, .int .u8 100] 5 (3, 4)))
      refine (append_c _ _ _ 3 3 [101, 110, 100] rfl (Nat.le_refl _) (by unfold big; omega) F2 _ HD.out HR9.out).mono ?_
      have HA1 : Hid (appE ⟨T, T.length, 60000, -1, false⟩ [101, 110, 100] = 0) := Lib.hid (by
        have h1 := HTL.out
        unfold appE
        rw [if_neg (by simp), if_neg (by simp; omega), if_neg (by simp)])
      have HA2 : Hid (appD ⟨T, T.length, 60000, -1, false⟩ [101, 110, 100] = ⟨T ++ [101, 110, 100], T.length, 60000, -1, false⟩) := Lib.hid (by
        have h1 := HTL.out
        unfold appD
        rw [if_neg (by simp), if_neg (by simp; omega), if_neg (by simp)]
        rfl)
      rw [HA1.out, HA2.out]
      rintro e w10 ⟨F3, rfl, hd, hg⟩
      have hg2 := hg.below HB.out.size HF.out
      have HD := Lib.hid hd; have HF := Lib.hid hg2.2; have HB := Lib.hid (HB.out.trans hg2.1)
      clear hd hg hg2
      clear HR9
      go_wp2_with fail
      refine (sync_c _ _ F3 _ HD.out).mono ?_
      rw [show syncD ⟨T ++ [101, 110, 100], T.length, 60000, -1, false⟩ = ⟨T ++ [101, 110, 100], (T ++ [101, 110, 100]).length, 60000, -1, false⟩ from rfl]
      rintro e w11 ⟨F4, rfl, hd, hg⟩
      have hg2 := hg.below HB.out.size HF.out
      have HD := Lib.hid hd; have HF := Lib.hid hg2.2; have HB := Lib.hid (HB.out.trans hg2.1)
      clear hd hg hg2
      have v1 : w11.cell? ⟨w.heap.size, 1, none⟩ = some (.int .i64 k1) := by rw [cell_of_row _ _ _ _ _ _ ((HB.out.block w.heap.size hsw).trans VN.out)]; rfl
      go_wp2_with fail
      clear v1
      refine (crash_c _ _ k1 H1.out F4 _ HD.out).mono ?_
      have HC2 : Hid (crashD ⟨T ++ [101, 110, 100], (T ++ [101, 110, 100]).length, 60000, -1, false⟩ k1 = ⟨T ++ [101, 110, 100], (T ++ [101, 110, 100]).length, 60000, -1, false⟩) := Lib.hid (by
        unfold crashD
        simp only
        rw [List.take_of_length_le (by omega)])
      rw [HC2.out]
      rintro e w12 ⟨F5, rfl, hd, hg⟩
      have hg2 := hg.below HB.out.size HF.out
      have HD := Lib.hid hd; have HF := Lib.hid hg2.2; have HB := Lib.hid (HB.out.trans hg2.1)
      clear hd hg hg2
      go_wp2_with fail
      refine (bytes_c _ _ F5 _ HD.out).mono ?_
      rintro e w13 ⟨A13, n13, c13, rfl, how, hb⟩
      have hcv := str8' c13 how.rd how.1
      have hadd : ∀ W, (Op.stringOp .add (str T) { data := #[101, 110, 100] }).run Try.prog W = .ok (.string (str (T ++ [101, 110, 100]))) W := str_add T [101, 110, 100] (by have := HTL.out; omega) (by simp)
      have hsm2 := str_same (T ++ [101, 110, 100])
      have HD := Lib.hid (HD.out.all hb); have HB := Lib.hid (HB.out.trans (hb.mono HB.out.size)); clear hb
      clear how
      go_wp2
      go_ret
      exact ⟨rfl, HW.out.trans (HB.out.mono HW.out.size)⟩
end Go.Proofs.Ytgcmejhgfdipkaa.diskAgain
