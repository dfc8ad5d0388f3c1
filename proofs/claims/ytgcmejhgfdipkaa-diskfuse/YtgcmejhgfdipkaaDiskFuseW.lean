/- The walk of DiskFuse. -/
import Derived.Test.YtgcmejhgfdipkaaDkA
import Derived.Test.YtgcmejhgfdipkaaWf
namespace Go.Proofs.Ytgcmejhgfdipkaa.diskFuse
open Go.RowKit
open Dk Dkw

set_option maxRecDepth 100000 in
set_option maxHeartbeats 2000000 in
theorem walk (w : World) (A : Option Addr) (n c : Nat) (ps : List Pt) (hn : n = ps.length) (hl : n ≤ big) (hr : Pts w w.heap.size A ps) (m : Int) (wm : (Lit.int .i64 m).wf = true) :
    Calls Try.prog 6 #[.slice A n c, .int .i64 m] w fun e w' => e = .returned (.bool true) ∧ Below w.heap.size w w' := by
  have HI : Hid (I64 m) := Lib.hid (wf_i64 wm)
  have HN := Lib.hid hn; have HR := Lib.hid hr
  unfold big at hl
  clear hn hr wm
  go_enter Try.func6, Try.ntmps6
  go_wp2_with fail
  refine (alive_c _).mono ?_
  rintro e w1 ⟨rfl, hb⟩
  have HB := Lib.hid hb; clear hb
  by_cases h60 : 60 < n
  · go_wp2
    go_ret
    exact ⟨rfl, HB.out⟩
  by_cases hm0 : m < 0
  · go_wp2
    go_ret
    exact ⟨rfl, HB.out⟩
  have hm1 : 0 ≤ m := by omega
  have hn60 : n ≤ 60 := by omega
  clear h60 hm0
  go_wp2_with fail
  refine (new_c 60000 (i64_small _ (by omega)) _).mono ?_
  rintro e w2 ⟨p, F, rfl, hd, hF, hb⟩
  obtain ⟨a, rfl⟩ := hd.ptr
  have HD := Lib.hid hd; have HF : Hid (∀ k, F k → w.heap.size ≤ k) := Lib.hid (fun k hk => Nat.le_trans HB.out.size (hF k hk))
  have HB := Lib.hid (HB.out.trans (hb.mono HB.out.size))
  clear hd hF hb
  go_wp2_with fail
  refine (fuse_c _ _ m HI.out F _ HD.out).mono ?_
  rintro e w3 ⟨F3, rfl, hd, hg⟩
  have hg2 := hg.below HB.out.size HF.out
  have e3 : fuseD (newD 60000) m = ⟨[], 0, 60000, m, false⟩ := by
    unfold fuseD clampF
    rw [if_neg (by omega)]
    rfl
  rw [e3] at hd
  have HD := Lib.hid hd
  have HF := Lib.hid hg2.2; have HB := Lib.hid (HB.out.trans hg2.1)
  clear hd hg hg2 e3
  go_wp2
  go_loopw [6, 25] (fun x i wr => ∃ (sum k : Nat) (data : List UInt8) (fz : Int) (off : Bool) (F : Nat → Prop), x = .int .i64 sum ∧ i = .int .i64 k ∧ k ≤ n ∧ sum ≤ 900 * k ∧ Dd wr F (.pointer (some a)) ⟨data, 0, 60000, fz, off⟩ ∧ ((off = false ∧ (sum : Int) ≤ m ∧ data.length = sum ∧ fz = m - sum) ∨ (off = true ∧ m < sum ∧ (data.length : Int) = m)) ∧ (∀ k, F k → w.heap.size ≤ k) ∧ Below w.heap.size w wr) (fun _ i _ => n - (intOf i).toNat)
  case atStart => exact ⟨0, 0, [], m, false, F3, rfl, rfl, Nat.zero_le _, by omega, HD.out, Or.inl ⟨rfl, by omega, rfl, by omega⟩, HF.out, HB.out⟩
  case round =>
    obtain ⟨sum, k, data, fz, off, F, rfl, rfl, hk, hs9, hd, hst, hF, hb⟩ := hrel
    clear HD HF HB
    have HD := Lib.hid hd; have HF := Lib.hid hF; have HB := Lib.hid hb
    clear hd hF hb
    by_cases h : k < n
    · obtain ⟨b, o, rfl, hbB, hcell⟩ := HR.out.1 (by rw [List.length_map, ← HN.out]; omega)
      have hkl : k < ps.length := by rw [← HN.out]; exact h
      have hz : ps[k]? = some ps[k] := List.getElem?_eq_getElem hkl
      have hcu := hcell k ps[k].v (by rw [List.getElem?_map, hz]; rfl)
      have HPO := Lib.hid (HR.out.2 ps[k] (List.getElem_mem hkl))
      generalize ps[k] = q at hcu HPO
      obtain ⟨pa, pn, pc, bs⟩ := q
      have HPO : Hid (pn = bs.length ∧ pn ≤ pc ∧ pn ≤ big ∧ Rd w w.heap.size pa (bs.map B8)) := HPO
      have hcw : wr.cell? ⟨b, o + k, none⟩ = some (.slice pa pn pc) := (HB.out.cell (by show b < _; omega)).trans hcu
      clear hcu hz hkl hcell
      by_cases h2 : 900 < pn
      · clear hst
        go_wp2
        go_ret
        exact ⟨rfl, HB.out⟩
      have hp2 : pn ≤ 900 := by omega
      have hs5 : sum ≤ 54000 := by omega
      have HBS : Hid (bs.length = pn) := Lib.hid HPO.out.1.symm
      rcases hst with ⟨rfl, hle, hdl, rfl⟩ | ⟨rfl, hlt, hdl⟩
      · have HDL := Lib.hid hdl; clear hdl
        have HNF : Hid (¬ (0 < bs.length ∧ (60000 : Int) - (data.length : Int) < bs.length)) := Lib.hid (by rw [HBS.out, HDL.out]; omega)
        by_cases hcut : m - sum < pn
        · have hgt : m < (sum : Int) + pn := by omega
          have HAD : Hid (appD ⟨data, 0, 60000, m - sum, false⟩ bs = ⟨data ++ bs.take (m - sum).toNat, 0, 60000, 0, true⟩) := Lib.hid (by unfold appD; rw [if_neg (by simp), if_neg HNF.out, if_pos (by rw [HBS.out]; simp only; omega)])
          have HLN : Hid (((data ++ bs.take (m - sum).toNat).length : Int) = m) := Lib.hid (by rw [List.length_append, List.length_take, HDL.out, HBS.out]; omega)
          go_wp2_with (at_builtin; refine wp_copy8 rfl (.tmp 37) (.tmp 38) rfl wr rfl w.heap.size pa pn pc bs rfl HPO.out.1 (HPO.out.2.2.2.below HB.out) HB.out.size HPO.out.2.2.1 ?_; intro A5 c5 w5 how hb5)
          have HRF := Lib.hid (Rf.of_own how HD.out.lt)
          have hc5 := how.cap
          have HD := Lib.hid (HD.out.all hb5)
          have HB := Lib.hid (HB.out.trans (hb5.mono HB.out.size)); clear hb5 how
          refine (append_c _ _ A5 pn c5 bs HPO.out.1 hc5 HPO.out.2.2.1 F _ HD.out HRF.out).mono ?_
          rw [HAD.out]
          generalize appE _ bs = ae
          rintro e w6 ⟨F6, rfl, hd, hg⟩
          have hg2 := hg.below HB.out.size HF.out
          have HD := Lib.hid hd; have HF := Lib.hid hg2.2; have HB := Lib.hid (HB.out.trans hg2.1)
          clear hd hg hg2 HRF hc5
          go_wp2_with fail
          refine (off_c _ _ F6 _ HD.out).mono ?_
          rintro e w9 ⟨rfl, hb⟩
          have HD := Lib.hid (HD.out.all hb); have HB := Lib.hid (HB.out.trans (hb.mono HB.out.size)); clear hb
          go_wp2
          exact ⟨⟨sum + pn, k + 1, data ++ bs.take (m - sum).toNat, 0, true, F6, by go_num, by go_num, by omega, by omega, HD.out, Or.inr ⟨rfl, by omega, HLN.out⟩, HF.out, HB.out⟩, by simp [intOf]; omega⟩
        · have hgt : (sum : Int) + pn ≤ m := by omega
          have HAD : Hid (appD ⟨data, 0, 60000, m - sum, false⟩ bs = ⟨data ++ bs, 0, 60000, m - (sum + pn : Nat), false⟩) := Lib.hid (by unfold appD; rw [if_neg (by simp), if_neg HNF.out, if_neg (by rw [HBS.out]; simp only; omega)]; simp only; rw [if_pos (by omega), HBS.out]; congr 1; omega)
          have HLN : Hid ((data ++ bs).length = sum + pn) := Lib.hid (by rw [List.length_append, HDL.out, HBS.out])
          go_wp2_with (at_builtin; refine wp_copy8 rfl (.tmp 37) (.tmp 38) rfl wr rfl w.heap.size pa pn pc bs rfl HPO.out.1 (HPO.out.2.2.2.below HB.out) HB.out.size HPO.out.2.2.1 ?_; intro A5 c5 w5 how hb5)
          have HRF := Lib.hid (Rf.of_own how HD.out.lt)
          have hc5 := how.cap
          have HD := Lib.hid (HD.out.all hb5)
          have HB := Lib.hid (HB.out.trans (hb5.mono HB.out.size)); clear hb5 how
          refine (append_c _ _ A5 pn c5 bs HPO.out.1 hc5 HPO.out.2.2.1 F _ HD.out HRF.out).mono ?_
          rw [HAD.out]
          generalize appE _ bs = ae
          rintro e w6 ⟨F6, rfl, hd, hg⟩
          have hg2 := hg.below HB.out.size HF.out
          have HD := Lib.hid hd; have HF := Lib.hid hg2.2; have HB := Lib.hid (HB.out.trans hg2.1)
          clear hd hg hg2 HRF hc5
          go_wp2_with fail
          refine (off_c _ _ F6 _ HD.out).mono ?_
          rintro e w9 ⟨rfl, hb⟩
          have HD := Lib.hid (HD.out.all hb); have HB := Lib.hid (HB.out.trans (hb.mono HB.out.size)); clear hb
          go_wp2
          exact ⟨⟨sum + pn, k + 1, data ++ bs, m - (sum + pn : Nat), false, F6, by go_num, by go_num, by omega, by omega, HD.out, Or.inl ⟨rfl, by omega, HLN.out, rfl⟩, HF.out, HB.out⟩, by simp [intOf]; omega⟩
      · have hgt : m < (sum : Int) + pn := by omega
        have HDL := Lib.hid hdl; clear hdl
        have HAD : Hid (appD ⟨data, 0, 60000, fz, true⟩ bs = ⟨data, 0, 60000, fz, true⟩) := Lib.hid (by unfold appD; rw [if_pos rfl])
        go_wp2_with (at_builtin; refine wp_copy8 rfl (.tmp 37) (.tmp 38) rfl wr rfl w.heap.size pa pn pc bs rfl HPO.out.1 (HPO.out.2.2.2.below HB.out) HB.out.size HPO.out.2.2.1 ?_; intro A5 c5 w5 how hb5)
        have HRF := Lib.hid (Rf.of_own how HD.out.lt)
        have hc5 := how.cap
        have HD := Lib.hid (HD.out.all hb5)
        have HB := Lib.hid (HB.out.trans (hb5.mono HB.out.size)); clear hb5 how
        refine (append_c _ _ A5 pn c5 bs HPO.out.1 hc5 HPO.out.2.2.1 F _ HD.out HRF.out).mono ?_
        rw [HAD.out]
        generalize appE _ bs = ae
        rintro e w6 ⟨F6, rfl, hd, hg⟩
        have hg2 := hg.below HB.out.size HF.out
        have HD := Lib.hid hd; have HF := Lib.hid hg2.2; have HB := Lib.hid (HB.out.trans hg2.1)
        clear hd hg hg2 HRF hc5
        go_wp2_with fail
        refine (off_c _ _ F6 _ HD.out).mono ?_
        rintro e w9 ⟨rfl, hb⟩
        have HD := Lib.hid (HD.out.all hb); have HB := Lib.hid (HB.out.trans (hb.mono HB.out.size)); clear hb
        go_wp2
        exact ⟨⟨sum + pn, k + 1, data, fz, true, F6, by go_num, by go_num, by omega, by omega, HD.out, Or.inr ⟨rfl, by omega, HDL.out⟩, HF.out, HB.out⟩, by simp [intOf]; omega⟩
    · have hs5 : sum ≤ 54000 := by omega
      obtain ⟨mn, hmn⟩ : ∃ mn, mn = min (sum : Int) m := ⟨_, rfl⟩
      have hmin : ∀ ts t W, (Builtin.min_ ts t #[.int .i64 (sum : Int), .int .i64 m]).run Try.prog W = .ok (.int .i64 mn) W := by
        intro ts t W
        rw [run_min_int2, hmn]
        congr 2
        split <;> omega
      have HLM : Hid ((data.length : Int) = mn) := Lib.hid (by rw [hmn]; rcases hst with h' | h' <;> omega)
      have HOF : Hid (off = true ∨ off = false) := Lib.hid (by cases off <;> simp)
      clear hst hmn
      go_wp2_with fail
      refine (bytes_c _ _ F _ HD.out).mono ?_
      rintro e w4 ⟨A4, n4, c4, rfl, how, hb⟩
      have hq : ((n4 : Int) == mn) = true := by rw [beq_iff_eq, how.1]; exact HLM.out
      have HD := Lib.hid (HD.out.all hb); have HB := Lib.hid (HB.out.trans (hb.mono HB.out.size)); clear hb how
      go_wp2_with fail
      refine (off_c _ _ F _ HD.out).mono ?_
      rintro e w5 ⟨rfl, hb⟩
      have HD := Lib.hid (HD.out.all hb); have HB := Lib.hid (HB.out.trans (hb.mono HB.out.size)); clear hb
      cases off with
      | false =>
        go_wp2
        go_ret
        exact ⟨rfl, HB.out⟩
      | true =>
        go_wp2_with fail
        refine (bytes_c _ _ F _ HD.out).mono ?_
        rintro e w6 ⟨A6, n6, c6, rfl, how, hb⟩
        have HN6 := Lib.hid how.1
        have HD := Lib.hid (HD.out.all hb); have HB := Lib.hid (HB.out.trans (hb.mono HB.out.size)); clear hb how
        go_wp2_with fail
        refine (sync_c _ _ F _ HD.out).mono ?_
        rw [show syncD ⟨data, 0, 60000, fz, true⟩ = ⟨data, 0, 60000, fz, true⟩ from rfl]
        rintro e w7 ⟨F7, rfl, hd, hg⟩
        have hg2 := hg.below HB.out.size HF.out
        have HD := Lib.hid hd; have HF := Lib.hid hg2.2; have HB := Lib.hid (HB.out.trans hg2.1)
        clear hd hg hg2
        go_wp2_with fail
        refine (cut_c _ _ 0 (i64_small _ (by omega)) F7 _ HD.out).mono ?_
        rw [show cutD ⟨data, 0, 60000, fz, true⟩ 0 = ⟨data, 0, 60000, fz, true⟩ from rfl]
        rintro e w8 ⟨F8, rfl, hd, hg⟩
        have hg2 := hg.below HB.out.size HF.out
        have HD := Lib.hid hd; have HF := Lib.hid hg2.2; have HB := Lib.hid (HB.out.trans hg2.1)
        clear hd hg hg2
        go_wp2_with fail
        refine (append_c _ _ none 0 0 [] rfl (Nat.le_refl _) (by unfold big; omega) F8 _ HD.out Rf.nil).mono ?_
        rw [show appD ⟨data, 0, 60000, fz, true⟩ [] = ⟨data, 0, 60000, fz, true⟩ from rfl, show appE ⟨data, 0, 60000, fz, true⟩ [] = 82 from rfl]
        rintro e w9 ⟨F9, rfl, hd, hg⟩
        have hg2 := hg.below HB.out.size HF.out
        have HD := Lib.hid hd; have HF := Lib.hid hg2.2; have HB := Lib.hid (HB.out.trans hg2.1)
        clear hd hg hg2
        go_wp2_with fail
        refine (safe_c _ _ F9 _ HD.out).mono ?_
        rintro e w10 ⟨rfl, hb⟩
        have HD := Lib.hid (HD.out.all hb); have HB := Lib.hid (HB.out.trans (hb.mono HB.out.size)); clear hb
        go_wp2_with fail
        refine (bytes_c _ _ F9 _ HD.out).mono ?_
        rintro e w11 ⟨A9, n9, c9, rfl, how, hb⟩
        have hq9 : ((n9 : Int) == (n6 : Int)) = true := by rw [beq_iff_eq, how.1, HN6.out]
        have HB := Lib.hid (HB.out.trans (hb.mono HB.out.size)); clear hb how
        go_wp2
        go_ret
        exact ⟨rfl, HB.out⟩
end Go.Proofs.Ytgcmejhgfdipkaa.diskFuse
