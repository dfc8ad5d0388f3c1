/- The walk of DiskRooms. -/
import Derived.Test.YtgcmejhgfdipkaaDkA
import Derived.Test.YtgcmejhgfdipkaaWf
namespace Go.Proofs.Ytgcmejhgfdipkaa.diskRooms
open Go.RowKit
open Dk Dkw

set_option maxRecDepth 100000 in
set_option maxHeartbeats 2000000 in
theorem walk (w : World) (room : Int) (wr0 : (Lit.int .i64 room).wf = true) (A : Option Addr) (n c : Nat) (ps : List Pt) (hn : n = ps.length) (hl : n ≤ big) (hr : Pts w w.heap.size A ps) :
    Calls Try.prog 7 #[.int .i64 room, .slice A n c] w fun e w' => e = .returned (.bool true) ∧ Below w.heap.size w w' := by
  have HI : Hid (I64 room) := Lib.hid (wf_i64 wr0)
  have HN := Lib.hid hn; have HR := Lib.hid hr
  unfold big at hl
  clear hn hr wr0
  go_enter Try.func7, Try.ntmps7
  go_wp2_with fail
  refine (alive_c _).mono ?_
  rintro e w1 ⟨rfl, hb⟩
  have HB := Lib.hid hb; clear hb
  by_cases h60 : 60 < n
  · go_wp2
    go_ret
    exact ⟨rfl, HB.out⟩
  go_wp2_with fail
  refine (new_c room HI.out _).mono ?_
  rintro e w2 ⟨p, F, rfl, hd, hF, hb⟩
  obtain ⟨a, rfl⟩ := hd.ptr
  have HD := Lib.hid hd; have HF : Hid (∀ k, F k → w.heap.size ≤ k) := Lib.hid (fun k hk => Nat.le_trans HB.out.size (hF k hk))
  have HB := Lib.hid (HB.out.trans (hb.mono HB.out.size))
  clear hd hF hb
  go_wp2
  obtain ⟨mr, hmr⟩ : ∃ mr, mr = min room 60000 := ⟨_, rfl⟩
  have hmin : ∀ ts t W, (Builtin.min_ ts t #[.int .i64 room, .int .i64 60000]).run Try.prog W = .ok (.int .i64 mr) W := by
    intro ts t W
    rw [run_min_int2, hmr]
    congr 2
    split <;> omega
  have HMR : Hid (mr = min room 60000) := Lib.hid hmr
  have hmr6 : mr ≤ 60000 := by omega
  clear hmr
  go_loopw [6, 20] (fun x i wr => ∃ (W : List UInt8) (F : Nat → Prop) (k : Nat), x = .string (str W) ∧ i = .int .i64 k ∧ k ≤ n ∧ Dd wr F (.pointer (some a)) ⟨W, 0, clampR room, -1, false⟩ ∧ (∀ k, F k → w.heap.size ≤ k) ∧ Below w.heap.size w wr) (fun _ i _ => n - (intOf i).toNat)
  case atStart => exact ⟨[], F, 0, rfl, rfl, Nat.zero_le _, HD.out, HF.out, HB.out⟩
  case round =>
    obtain ⟨W, F, k, rfl, rfl, hk, hd, hF, hb⟩ := hrel
    clear HD HF HB
    have HD := Lib.hid hd; have HF := Lib.hid hF; have HB := Lib.hid hb
    clear hd hF hb
    by_cases h : k < n
    · obtain ⟨b, o, rfl, hbB, hcell⟩ := HR.out.1 (by rw [List.length_map, ← HN.out]; omega)
      have hkl : k < ps.length := by rw [← HN.out]; exact h
      have hz : ps[k]? = some ps[k] := List.getElem?_eq_getElem hkl
      have hcu := hcell k ps[k].v (by rw [List.getElem?_map, hz]; rfl)
      have HPO := Lib.hid (HR.out.2 ps[k] (List.getElem_mem hkl))
      generalize ps[k] = q at hcu HPO
      obtain ⟨pa, pn, pc, bs⟩ := q
      have HPO : Hid (pn = bs.length ∧ pn ≤ pc ∧ pn ≤ big ∧ Rd w w.heap.size pa (bs.map B8)) := HPO
      have hcw : wr.cell? ⟨b, o + k, none⟩ = some (.slice pa pn pc) := (HB.out.cell (by show b < _; omega)).trans hcu
      clear hcu hz hkl hcell
      have hs : (str W).size = W.length := str_size W
      obtain ⟨L, hL⟩ : ∃ L, L = W.length := ⟨_, rfl⟩
      have hL6 : L ≤ 60000 := by rw [hL]; exact HD.out.iv.2.2.1
      rw [← hL] at hs
      have HLL := Lib.hid hL; clear hL
      by_cases h2 : 2000 < pn
      · go_wp2
        go_ret
        exact ⟨rfl, HB.out⟩
      have hp2 : pn ≤ 2000 := by omega
      have HBS : Hid (bs.length = pn) := Lib.hid HPO.out.1.symm
      have HCL := Lib.hid (show clampR room = if 60000 < room then 60000 else if room < 0 then 0 else room from rfl)
      by_cases hfit : pn = 0 ∨ (L : Int) + pn ≤ mr
      · have HNF : Hid (¬ (0 < bs.length ∧ clampR room - (W.length : Int) < bs.length)) := Lib.hid (by rw [HBS.out, ← HLL.out, HCL.out]; have := HMR.out; split <;> (try split) <;> omega)
        have HAE : Hid (appE ⟨W, 0, clampR room, -1, false⟩ bs = 0) := Lib.hid (by unfold appE; rw [if_neg (by simp), if_neg HNF.out, if_neg (by simp)])
        have HAD : Hid (appD ⟨W, 0, clampR room, -1, false⟩ bs = ⟨W ++ bs, 0, clampR room, -1, false⟩) := Lib.hid (by unfold appD; rw [if_neg (by simp), if_neg HNF.out, if_neg (by simp)]; rfl)
        rcases Nat.eq_zero_or_pos pn with hp0 | hp0
        · have hq : ((pn : Int) == 0) = true := by rw [beq_iff_eq]; omega
          clear hp0 hfit
          go_wp2_with (at_builtin; refine wp_copy8 rfl (.tmp 41) (.tmp 42) rfl wr rfl w.heap.size pa pn pc bs rfl HPO.out.1 (HPO.out.2.2.2.below HB.out) HB.out.size HPO.out.2.2.1 ?_; intro A5 c5 w5 how hb5)
          have HRF := Lib.hid (Rf.of_own how HD.out.lt)
          have hc5 := how.cap
          have HD := Lib.hid (HD.out.all hb5)
          have HB := Lib.hid (HB.out.trans (hb5.mono HB.out.size)); clear hb5 how
          refine (append_c _ _ A5 pn c5 bs HPO.out.1 hc5 HPO.out.2.2.1 F _ HD.out HRF.out).mono ?_
          rw [HAD.out, HAE.out]
          rintro e w6 ⟨F6, rfl, hd, hg⟩
          have hg2 := hg.below HB.out.size HF.out
          have HD := Lib.hid hd; have HF := Lib.hid hg2.2; have HB := Lib.hid (HB.out.trans hg2.1)
          clear hd hg hg2 HRF hc5
          have hcv := str8' pc (HPO.out.2.2.2.below HB.out) HPO.out.1
          have hadd := str_add W bs (by rw [← HLL.out]; omega) (by rw [HBS.out]; omega)
          go_wp2_with fail
          refine (bytes_c _ _ F6 _ HD.out).mono ?_
          rintro e w7 ⟨A7, n7, c7, rfl, how, hb⟩
          have hcw := str8' c7 how.rd how.1
          have hsm := str_same (W ++ bs)
          have HD := Lib.hid (HD.out.all hb); have HB := Lib.hid (HB.out.trans (hb.mono HB.out.size)); clear hb how
          go_wp2_with fail
          refine (safe_c _ _ F6 _ HD.out).mono ?_
          rintro e w8 ⟨rfl, hb⟩
          have HD := Lib.hid (HD.out.all hb); have HB := Lib.hid (HB.out.trans (hb.mono HB.out.size)); clear hb
          go_wp2_with fail
          refine (off_c _ _ F6 _ HD.out).mono ?_
          rintro e w9 ⟨rfl, hb⟩
          have HD := Lib.hid (HD.out.all hb); have HB := Lib.hid (HB.out.trans (hb.mono HB.out.size)); clear hb
          go_wp2
          exact ⟨⟨W ++ bs, F6, k + 1, rfl, by go_num, by omega, HD.out, HF.out, HB.out⟩, by simp [intOf]; omega⟩
        · have hq : ((pn : Int) == 0) = false := by rw [beq_eq_false_iff_ne]; omega
          have hle : (L : Int) + pn ≤ mr := by omega
          go_wp2_with (at_builtin; refine wp_copy8 rfl (.tmp 41) (.tmp 42) rfl wr rfl w.heap.size pa pn pc bs rfl HPO.out.1 (HPO.out.2.2.2.below HB.out) HB.out.size HPO.out.2.2.1 ?_; intro A5 c5 w5 how hb5)
          have HRF := Lib.hid (Rf.of_own how HD.out.lt)
          have hc5 := how.cap
          have HD := Lib.hid (HD.out.all hb5)
          have HB := Lib.hid (HB.out.trans (hb5.mono HB.out.size)); clear hb5 how
          refine (append_c _ _ A5 pn c5 bs HPO.out.1 hc5 HPO.out.2.2.1 F _ HD.out HRF.out).mono ?_
          rw [HAD.out, HAE.out]
          rintro e w6 ⟨F6, rfl, hd, hg⟩
          have hg2 := hg.below HB.out.size HF.out
          have HD := Lib.hid hd; have HF := Lib.hid hg2.2; have HB := Lib.hid (HB.out.trans hg2.1)
          clear hd hg hg2 HRF hc5
          have hcv := str8' pc (HPO.out.2.2.2.below HB.out) HPO.out.1
          have hadd := str_add W bs (by rw [← HLL.out]; omega) (by rw [HBS.out]; omega)
          go_wp2_with fail
          refine (bytes_c _ _ F6 _ HD.out).mono ?_
          rintro e w7 ⟨A7, n7, c7, rfl, how, hb⟩
          have hcw := str8' c7 how.rd how.1
          have hsm := str_same (W ++ bs)
          have HD := Lib.hid (HD.out.all hb); have HB := Lib.hid (HB.out.trans (hb.mono HB.out.size)); clear hb how
          go_wp2_with fail
          refine (safe_c _ _ F6 _ HD.out).mono ?_
          rintro e w8 ⟨rfl, hb⟩
          have HD := Lib.hid (HD.out.all hb); have HB := Lib.hid (HB.out.trans (hb.mono HB.out.size)); clear hb
          go_wp2_with fail
          refine (off_c _ _ F6 _ HD.out).mono ?_
          rintro e w9 ⟨rfl, hb⟩
          have HD := Lib.hid (HD.out.all hb); have HB := Lib.hid (HB.out.trans (hb.mono HB.out.size)); clear hb
          go_wp2
          exact ⟨⟨W ++ bs, F6, k + 1, rfl, by go_num, by omega, HD.out, HF.out, HB.out⟩, by simp [intOf]; omega⟩
      · have hq : ((pn : Int) == 0) = false := by rw [beq_eq_false_iff_ne]; omega
        have hle : mr < (L : Int) + pn := by omega
        have HNF : Hid (0 < bs.length ∧ clampR room - (W.length : Int) < bs.length) := Lib.hid (by rw [HBS.out, ← HLL.out, HCL.out]; have := HMR.out; split <;> (try split) <;> omega)
        have HAE : Hid (appE ⟨W, 0, clampR room, -1, false⟩ bs = 81) := Lib.hid (by unfold appE; rw [if_neg (by simp), if_pos HNF.out])
        have HAD : Hid (appD ⟨W, 0, clampR room, -1, false⟩ bs = ⟨W, 0, clampR room, -1, false⟩) := Lib.hid (by unfold appD; rw [if_neg (by simp), if_pos HNF.out])
        go_wp2_with (at_builtin; refine wp_copy8 rfl (.tmp 41) (.tmp 42) rfl wr rfl w.heap.size pa pn pc bs rfl HPO.out.1 (HPO.out.2.2.2.below HB.out) HB.out.size HPO.out.2.2.1 ?_; intro A5 c5 w5 how hb5)
        have HRF := Lib.hid (Rf.of_own how HD.out.lt)
        have hc5 := how.cap
        have HD := Lib.hid (HD.out.all hb5)
        have HB := Lib.hid (HB.out.trans (hb5.mono HB.out.size)); clear hb5 how
        refine (append_c _ _ A5 pn c5 bs HPO.out.1 hc5 HPO.out.2.2.1 F _ HD.out HRF.out).mono ?_
        rw [HAD.out, HAE.out]
        rintro e w6 ⟨F6, rfl, hd, hg⟩
        have hg2 := hg.below HB.out.size HF.out
        have HD := Lib.hid hd; have HF := Lib.hid hg2.2; have HB := Lib.hid (HB.out.trans hg2.1)
        clear hd hg hg2 HRF hc5
        go_wp2_with fail
        refine (bytes_c _ _ F6 _ HD.out).mono ?_
        rintro e w7 ⟨A7, n7, c7, rfl, how, hb⟩
        have hcw := str8' c7 how.rd how.1
        have hsm := str_same (W)
        have HD := Lib.hid (HD.out.all hb); have HB := Lib.hid (HB.out.trans (hb.mono HB.out.size)); clear hb how
        go_wp2_with fail
        refine (safe_c _ _ F6 _ HD.out).mono ?_
        rintro e w8 ⟨rfl, hb⟩
        have HD := Lib.hid (HD.out.all hb); have HB := Lib.hid (HB.out.trans (hb.mono HB.out.size)); clear hb
        go_wp2_with fail
        refine (off_c _ _ F6 _ HD.out).mono ?_
        rintro e w9 ⟨rfl, hb⟩
        have HD := Lib.hid (HD.out.all hb); have HB := Lib.hid (HB.out.trans (hb.mono HB.out.size)); clear hb
        go_wp2
        exact ⟨⟨W, F6, k + 1, rfl, by go_num, by omega, HD.out, HF.out, HB.out⟩, by simp [intOf]; omega⟩
    · go_wp2
      go_ret
      exact ⟨rfl, HB.out⟩
end Go.Proofs.Ytgcmejhgfdipkaa.diskRooms
