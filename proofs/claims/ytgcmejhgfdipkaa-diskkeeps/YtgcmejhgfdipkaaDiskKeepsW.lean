/- The walk of DiskKeeps. -/
import Derived.Test.YtgcmejhgfdipkaaDkA
import Derived.Test.YtgcmejhgfdipkaaWf
namespace Go.Proofs.Ytgcmejhgfdipkaa.diskKeeps
open Go.RowKit
open Dk Dkw

set_option maxRecDepth 100000 in
set_option maxHeartbeats 2000000 in
theorem walk (w : World) (A : Option Addr) (n c : Nat) (xs : List Ac) (hn : n = xs.length) (hl : n ≤ big) (hr : Acs w w.heap.size A xs) (fu : Int) (w0 : (Lit.int .i64 fu).wf = true) (ke : Int) (w1 : (Lit.int .i64 ke).wf = true) :
    Calls Try.prog 5 #[.slice A n c, .int .i64 fu, .int .i64 ke] w fun e w' => e = .returned (.bool true) ∧ Below w.heap.size w w' := by
  have H0 : Hid (I64 fu) := Lib.hid (wf_i64 w0)
  have H1 : Hid (I64 ke) := Lib.hid (wf_i64 w1)
  have HN := Lib.hid hn; have HR := Lib.hid hr
  unfold big at hl
  clear hn hr w0 w1
  go_enter Try.func5, Try.ntmps5
  go_wp2_with fail
  refine (alive_c _).mono ?_
  rintro e w2 ⟨rfl, hb⟩
  have HB := Lib.hid hb; clear hb
  go_wp2_with fail
  refine (new_c 60000 (i64_small _ (by omega)) _).mono ?_
  rintro e w3 ⟨p, F, rfl, hd, hF, hb⟩
  obtain ⟨a, rfl⟩ := hd.ptr
  have HD := Lib.hid hd; have HF : Hid (∀ k, F k → w.heap.size ≤ k) := Lib.hid (fun k hk => Nat.le_trans HB.out.size (hF k hk))
  have HB := Lib.hid (HB.out.trans (hb.mono HB.out.size))
  clear hd hF hb
  by_cases h200 : 200 < n
  · go_wp2
    go_ret
    exact ⟨rfl, HB.out⟩
  have hn2 : n ≤ 200 := by omega
  go_wp2
  go_loopw [8, 9, 29] (fun x y i wr => ∃ (k : Nat) (d : D) (W : List UInt8) (F : Nat → Prop), x = .string (str W) ∧ y = .int .i64 d.safe ∧ i = .int .i64 k ∧ k ≤ n ∧ Dd wr F (.pointer (some a)) d ∧ d.room = 60000 ∧ W.length ≤ 60000 ∧ (∃ r, W = d.data ++ r) ∧ (d.off = false → W = d.data) ∧ (∀ k, F k → w.heap.size ≤ k) ∧ Below w.heap.size w wr) (fun _ _ i _ => n - (intOf i).toNat)
  case atStart => exact ⟨0, newD 60000, [], F, rfl, rfl, rfl, Nat.zero_le _, HD.out, rfl, by simp, ⟨[], rfl⟩, fun _ => rfl, HF.out, HB.out⟩
  case round =>
    obtain ⟨k, d, W, F, rfl, rfl, rfl, hk, hd, hro, hWl, hpre, hoff, hF, hb⟩ := hrel
    clear HD HF HB
    have HD := Lib.hid hd; have HF := Lib.hid hF; have HB := Lib.hid hb
    have HI : Hid (d.room = 60000 ∧ W.length ≤ 60000 ∧ (∃ r, W = d.data ++ r) ∧ (d.off = false → W = d.data)) := Lib.hid ⟨hro, hWl, hpre, hoff⟩
    clear hd hF hb hro hWl hpre hoff
    by_cases h : k < n
    · obtain ⟨b, o, rfl, hbB, hcell⟩ := HR.out.1 (by rw [← HN.out]; omega)
      have hkl : k < xs.length := by rw [← HN.out]; exact h
      have hz : xs[k]? = some xs[k] := List.getElem?_eq_getElem hkl
      have hcu := (hcell k xs[k] hz).below HB.out hbB
      have HPO := Lib.hid (HR.out.2 xs[k] (List.getElem_mem hkl))
      generalize xs[k] = q at hcu HPO
      obtain ⟨ki, nu, pa, pn, pc, bs⟩ := q
      have HPO : Hid (I64 ki ∧ I64 nu ∧ pn = bs.length ∧ pn ≤ pc ∧ pn ≤ big ∧ Rd w w.heap.size pa (bs.map B8)) := HPO
      obtain ⟨q0, q1, q2⟩ := hcu
      have q0 : wr.cell? ⟨b, o + k * 3, none⟩ = some (.int .i64 ki) := q0
      have q1 : wr.cell? ⟨b, o + k * 3 + 1, none⟩ = some (.int .i64 nu) := q1
      have q2 : wr.cell? ⟨b, o + k * 3 + 2, none⟩ = some (.slice pa pn pc) := q2
      clear hz hkl hcell
      go_upto_region 10 with (fail)
      have VA := Lib.hid (Lc.new (o := (.cells #[.int .i64 ki, .int .i64 nu, .slice pa pn pc] 33)) HD.out.lt)
      have HD := Lib.hid (HD.out.all (bal (Below.refl _ _) (Nat.le_refl _) (.cells #[.int .i64 ki, .int .i64 nu, .slice pa pn pc] 33)))
      have HB := Lib.hid (bal HB.out (Nat.le_refl _) (.cells #[.int .i64 ki, .int .i64 nu, .slice pa pn pc] 33))
      clear q0 q1 q2
      generalize wr.alloc (.cells #[.int .i64 ki, .int .i64 nu, .slice pa pn pc] 33) = w4 at VA HD HB ⊢
      generalize wr.heap.size = ga at VA ⊢
      by_cases hmid : k = n / 2
      · have m1 : ((k : Int) == (n : Int) / 2) = true := by rw [beq_iff_eq]; omega
        have m2 : ((k : Int) == (n : Int).tdiv 2) = true := by rw [beq_iff_eq, Int.tdiv_eq_ediv_of_nonneg (by omega)]; omega
        clear hmid
        go_wp2_with fail
        refine (fuse_c _ _ fu H0.out F _ HD.out).mono ?_
        have HI2 : Hid ((fuseD d fu).room = 60000 ∧ W.length ≤ 60000 ∧ (∃ r, W = (fuseD d fu).data ++ r) ∧ ((fuseD d fu).off = false → W = (fuseD d fu).data)) := HI
        have HSF : Hid (d.safe = (fuseD d fu).safe) := Lib.hid rfl
        rw [HSF.out]
        clear HI HSF
        generalize fuseD d fu = d2 at HI2 ⊢
        have HI := HI2
        clear HI2
        rintro e w4b ⟨F2, rfl, hd, hg⟩
        have VA := Lib.hid (VA.out.keep hg)
        have hg2 := hg.below HB.out.size HF.out
        have HD := Lib.hid hd; have HF := Lib.hid hg2.2; have HB := Lib.hid (HB.out.trans hg2.1)
        clear hd hg hg2
        obtain ⟨data, sf, ro, fz, off⟩ := d2
        have HIR : Hid (ro = 60000) := Lib.hid HI.out.1
        obtain rfl : ro = 60000 := HIR.out
        clear HIR
        have v0 : w4b.cell? ⟨ga, 0, none⟩ = some (.int .i64 ki) := by rw [cell_of_row _ _ _ _ _ _ VA.out.1]; rfl
        have v2 : w4b.cell? ⟨ga, 2, none⟩ = some (.slice pa pn pc) := by rw [cell_of_row _ _ _ _ _ _ VA.out.1]; rfl
        by_cases e1 : ki = 1
        · have z1 : (ki == 1) = true := by rw [beq_iff_eq]; exact e1
          clear e1
          go_wp2_with fail
          clear v0 v2
          refine (sync_c _ _ F2 _ HD.out).mono ?_
          cases off with
          | true =>
            rw [show syncD ⟨data, sf, 60000, fz, true⟩ = ⟨data, sf, 60000, fz, true⟩ from rfl]
            rintro e w6 ⟨F6, rfl, hd, hg⟩
            have VA := Lib.hid (VA.out.keep hg)
            have hg2 := hg.below HB.out.size HF.out
            have HD := Lib.hid hd; have HF := Lib.hid hg2.2; have HB := Lib.hid (HB.out.trans hg2.1)
            clear hd hg hg2
            go_wp2_with fail
            refine (off_c _ _ F6 _ HD.out).mono ?_
            rintro e w7 ⟨rfl, hb⟩
            have VA := Lib.hid (VA.out.all hb); have HD := Lib.hid (HD.out.all hb); have HB := Lib.hid (HB.out.trans (hb.mono HB.out.size)); clear hb
            go_wp2
            exact ⟨⟨k + 1, _, W, F6, rfl, rfl, by go_num, by omega, HD.out, rfl, HI.out.2.1, HI.out.2.2.1, HI.out.2.2.2, HF.out, HB.out⟩, by simp [intOf]; omega⟩
          | false =>
            have HWD : Hid (W = data) := Lib.hid (by have := HI.out.2.2.2; simpa using this)
            rw [show syncD ⟨data, sf, 60000, fz, false⟩ = ⟨data, data.length, 60000, fz, false⟩ from rfl]
            rintro e w6 ⟨F6, rfl, hd, hg⟩
            have VA := Lib.hid (VA.out.keep hg)
            have hg2 := hg.below HB.out.size HF.out
            have HD := Lib.hid hd; have HF := Lib.hid hg2.2; have HB := Lib.hid (HB.out.trans hg2.1)
            clear hd hg hg2
            go_wp2_with fail
            refine (off_c _ _ F6 _ HD.out).mono ?_
            rintro e w7 ⟨rfl, hb⟩
            have VA := Lib.hid (VA.out.all hb); have HD := Lib.hid (HD.out.all hb); have HB := Lib.hid (HB.out.trans (hb.mono HB.out.size)); clear hb
            have hsz : (str W).size = data.length := by rw [str_size]; exact congrArg List.length HWD.out
            go_wp2
            exact ⟨⟨k + 1, _, W, F6, rfl, rfl, by go_num, by omega, HD.out, rfl, HI.out.2.1, HI.out.2.2.1, fun _ => HWD.out, HF.out, HB.out⟩, by simp [intOf]; omega⟩
        · have z1 : (ki == 1) = false := by rw [beq_eq_false_iff_ne]; exact e1
          clear e1
          go_wp2_with fail
          clear v0 v2
          refine (off_c _ _ F2 _ HD.out).mono ?_
          rintro e w5 ⟨rfl, hb⟩
          have VA := Lib.hid (VA.out.all hb); have HD := Lib.hid (HD.out.all hb); have HB := Lib.hid (HB.out.trans (hb.mono HB.out.size)); clear hb
          have v0 : w5.cell? ⟨ga, 0, none⟩ = some (.int .i64 ki) := by rw [cell_of_row _ _ _ _ _ _ VA.out.1]; rfl
          have v2 : w5.cell? ⟨ga, 2, none⟩ = some (.slice pa pn pc) := by rw [cell_of_row _ _ _ _ _ _ VA.out.1]; rfl
          have v2 : ∀ o, (w5.alloc o).cell? ⟨ga, 2, none⟩ = some (.slice pa pn pc) := fun o => by rw [cell_of_row _ _ _ _ _ _ (hbe VA.out.1)]; rfl
          go_wp2_with (at_builtin; refine wp_copy8 rfl (.tmp 55) (.tmp 57) rfl w5 rfl w.heap.size pa pn pc bs rfl HPO.out.2.2.1 (HPO.out.2.2.2.2.2.below HB.out) HB.out.size HPO.out.2.2.2.2.1 ?_; intro A6 c6 w6 how hb6)
          have HRF := Lib.hid (Rf.of_own how HD.out.lt)
          have hc6 := how.cap
          have VA := Lib.hid (VA.out.all hb6)
          have HD := Lib.hid (HD.out.all hb6)
          have HB := Lib.hid (HB.out.trans (hb6.mono HB.out.size)); clear hb6 how v0 v2
          refine (append_c _ _ A6 pn c6 bs HPO.out.2.2.1 hc6 HPO.out.2.2.2.2.1 F2 _ HD.out HRF.out).mono ?_
          clear HRF hc6
          cases off with
          | true =>
            rw [show appD ⟨data, sf, 60000, fz, true⟩ bs = ⟨data, sf, 60000, fz, true⟩ from rfl, show appE ⟨data, sf, 60000, fz, true⟩ bs = 82 from rfl]
            rintro e w7 ⟨F7, rfl, hd, hg⟩
            have VA := Lib.hid (VA.out.keep hg)
            have hg2 := hg.below HB.out.size HF.out
            have HD := Lib.hid hd; have HF := Lib.hid hg2.2; have HB := Lib.hid (HB.out.trans hg2.1)
            clear hd hg hg2
            go_wp2
            exact ⟨⟨k + 1, _, W, F7, rfl, rfl, by go_num, by omega, HD.out, rfl, HI.out.2.1, HI.out.2.2.1, HI.out.2.2.2, HF.out, HB.out⟩, by simp [intOf]; omega⟩
          | false =>
          have HWD : Hid (W = data) := Lib.hid (by have := HI.out.2.2.2; simpa using this)
          by_cases hfull : 0 < bs.length ∧ (60000 : Int) - (data.length : Int) < bs.length
          · rw [show appD ⟨data, sf, 60000, fz, false⟩ bs = ⟨data, sf, 60000, fz, false⟩ from by unfold appD; rw [if_neg (by simp), if_pos hfull], show appE ⟨data, sf, 60000, fz, false⟩ bs = 81 from by unfold appE; rw [if_neg (by simp), if_pos hfull]]
            clear hfull
            rintro e w7 ⟨F7, rfl, hd, hg⟩
            have VA := Lib.hid (VA.out.keep hg)
            have hg2 := hg.below HB.out.size HF.out
            have HD := Lib.hid hd; have HF := Lib.hid hg2.2; have HB := Lib.hid (HB.out.trans hg2.1)
            clear hd hg hg2
            go_wp2
            exact ⟨⟨k + 1, _, W, F7, rfl, rfl, by go_num, by omega, HD.out, rfl, HI.out.2.1, HI.out.2.2.1, fun _ => HWD.out, HF.out, HB.out⟩, by simp [intOf]; omega⟩
          have HFT : Hid (bs.length ≤ 60000 ∧ data.length + bs.length ≤ 60000) := Lib.hid (by have h1 := HI.out.2.1; have h2 := congrArg List.length HWD.out; omega)
          by_cases hcut : 0 ≤ fz ∧ fz < (bs.length : Int)
          · rw [show appD ⟨data, sf, 60000, fz, false⟩ bs = ⟨data ++ bs.take fz.toNat, sf, 60000, 0, true⟩ from by unfold appD; rw [if_neg (by simp), if_neg hfull, if_pos hcut], show appE ⟨data, sf, 60000, fz, false⟩ bs = 82 from by unfold appE; rw [if_neg (by simp), if_neg hfull, if_pos hcut]]
            clear hfull hcut
            have HNI : Hid (True ∧ (W ++ bs).length ≤ 60000 ∧ (∃ r, W ++ bs = (data ++ bs.take fz.toNat) ++ r) ∧ (true = false → W ++ bs = data ++ bs.take fz.toNat)) := Lib.hid ⟨trivial, by rw [List.length_append, HWD.out]; exact HFT.out.2, ⟨bs.drop fz.toNat, by rw [HWD.out, List.append_assoc, List.take_append_drop]⟩, fun h => by cases h⟩
            rintro e w7 ⟨F7, rfl, hd, hg⟩
            have VA := Lib.hid (VA.out.keep hg)
            have hg2 := hg.below HB.out.size HF.out
            have HD := Lib.hid hd; have HF := Lib.hid hg2.2; have HB := Lib.hid (HB.out.trans hg2.1)
            clear hd hg hg2
            have hcv := str8' pc (HPO.out.2.2.2.2.2.below HB.out) HPO.out.2.2.1
            have hadd := str_add W bs (by have := HI.out.2.1; omega) (by have := HFT.out; omega)
            have v0 : w7.cell? ⟨ga, 0, none⟩ = some (.int .i64 ki) := by rw [cell_of_row _ _ _ _ _ _ VA.out.1]; rfl
            have v2 : w7.cell? ⟨ga, 2, none⟩ = some (.slice pa pn pc) := by rw [cell_of_row _ _ _ _ _ _ VA.out.1]; rfl
            go_wp2
            exact ⟨⟨k + 1, _, W ++ bs, F7, rfl, rfl, by go_num, by omega, HD.out, rfl, HNI.out.2.1, HNI.out.2.2.1, HNI.out.2.2.2, HF.out, HB.out⟩, by simp [intOf]; omega⟩
          · rw [show appD ⟨data, sf, 60000, fz, false⟩ bs = ⟨data ++ bs, sf, 60000, if 0 ≤ fz then fz - bs.length else fz, false⟩ from by unfold appD; rw [if_neg (by simp), if_neg hfull, if_neg hcut], show appE ⟨data, sf, 60000, fz, false⟩ bs = 0 from by unfold appE; rw [if_neg (by simp), if_neg hfull, if_neg hcut]]
            clear hfull hcut
            have HNI : Hid (True ∧ (W ++ bs).length ≤ 60000 ∧ (∃ r, W ++ bs = (data ++ bs) ++ r) ∧ (false = false → W ++ bs = data ++ bs)) := Lib.hid ⟨trivial, by rw [List.length_append, HWD.out]; exact HFT.out.2, ⟨[], by rw [HWD.out, List.append_nil]⟩, fun _ => by rw [HWD.out]⟩
            generalize (if 0 ≤ fz then fz - (bs.length : Int) else fz) = fz2
            rintro e w7 ⟨F7, rfl, hd, hg⟩
            have VA := Lib.hid (VA.out.keep hg)
            have hg2 := hg.below HB.out.size HF.out
            have HD := Lib.hid hd; have HF := Lib.hid hg2.2; have HB := Lib.hid (HB.out.trans hg2.1)
            clear hd hg hg2
            have hcv := str8' pc (HPO.out.2.2.2.2.2.below HB.out) HPO.out.2.2.1
            have hadd := str_add W bs (by have := HI.out.2.1; omega) (by have := HFT.out; omega)
            have v0 : w7.cell? ⟨ga, 0, none⟩ = some (.int .i64 ki) := by rw [cell_of_row _ _ _ _ _ _ VA.out.1]; rfl
            have v2 : w7.cell? ⟨ga, 2, none⟩ = some (.slice pa pn pc) := by rw [cell_of_row _ _ _ _ _ _ VA.out.1]; rfl
            go_wp2
            exact ⟨⟨k + 1, _, W ++ bs, F7, rfl, rfl, by go_num, by omega, HD.out, rfl, HNI.out.2.1, HNI.out.2.2.1, fun _ => by rw [HWD.out], HF.out, HB.out⟩, by simp [intOf]; omega⟩
      · have m1 : ((k : Int) == (n : Int) / 2) = false := by rw [beq_eq_false_iff_ne]; omega
        have m2 : ((k : Int) == (n : Int).tdiv 2) = false := by rw [beq_eq_false_iff_ne, Int.tdiv_eq_ediv_of_nonneg (by omega)]; omega
        clear hmid
        obtain ⟨data, sf, ro, fz, off⟩ := d
        have HIR : Hid (ro = 60000) := Lib.hid HI.out.1
        obtain rfl : ro = 60000 := HIR.out
        clear HIR
        have v0 : w4.cell? ⟨ga, 0, none⟩ = some (.int .i64 ki) := by rw [cell_of_row _ _ _ _ _ _ VA.out.1]; rfl
        have v2 : w4.cell? ⟨ga, 2, none⟩ = some (.slice pa pn pc) := by rw [cell_of_row _ _ _ _ _ _ VA.out.1]; rfl
        by_cases e1 : ki = 1
        · have z1 : (ki == 1) = true := by rw [beq_iff_eq]; exact e1
          clear e1
          go_wp2_with fail
          clear v0 v2
          refine (sync_c _ _ F _ HD.out).mono ?_
          cases off with
          | true =>
            rw [show syncD ⟨data, sf, 60000, fz, true⟩ = ⟨data, sf, 60000, fz, true⟩ from rfl]
            rintro e w6 ⟨F6, rfl, hd, hg⟩
            have VA := Lib.hid (VA.out.keep hg)
            have hg2 := hg.below HB.out.size HF.out
            have HD := Lib.hid hd; have HF := Lib.hid hg2.2; have HB := Lib.hid (HB.out.trans hg2.1)
            clear hd hg hg2
            go_wp2_with fail
            refine (off_c _ _ F6 _ HD.out).mono ?_
            rintro e w7 ⟨rfl, hb⟩
            have VA := Lib.hid (VA.out.all hb); have HD := Lib.hid (HD.out.all hb); have HB := Lib.hid (HB.out.trans (hb.mono HB.out.size)); clear hb
            go_wp2
            exact ⟨⟨k + 1, _, W, F6, rfl, rfl, by go_num, by omega, HD.out, rfl, HI.out.2.1, HI.out.2.2.1, HI.out.2.2.2, HF.out, HB.out⟩, by simp [intOf]; omega⟩
          | false =>
            have HWD : Hid (W = data) := Lib.hid (by have := HI.out.2.2.2; simpa using this)
            rw [show syncD ⟨data, sf, 60000, fz, false⟩ = ⟨data, data.length, 60000, fz, false⟩ from rfl]
            rintro e w6 ⟨F6, rfl, hd, hg⟩
            have VA := Lib.hid (VA.out.keep hg)
            have hg2 := hg.below HB.out.size HF.out
            have HD := Lib.hid hd; have HF := Lib.hid hg2.2; have HB := Lib.hid (HB.out.trans hg2.1)
            clear hd hg hg2
            go_wp2_with fail
            refine (off_c _ _ F6 _ HD.out).mono ?_
            rintro e w7 ⟨rfl, hb⟩
            have VA := Lib.hid (VA.out.all hb); have HD := Lib.hid (HD.out.all hb); have HB := Lib.hid (HB.out.trans (hb.mono HB.out.size)); clear hb
            have hsz : (str W).size = data.length := by rw [str_size]; exact congrArg List.length HWD.out
            go_wp2
            exact ⟨⟨k + 1, _, W, F6, rfl, rfl, by go_num, by omega, HD.out, rfl, HI.out.2.1, HI.out.2.2.1, fun _ => HWD.out, HF.out, HB.out⟩, by simp [intOf]; omega⟩
        · have z1 : (ki == 1) = false := by rw [beq_eq_false_iff_ne]; exact e1
          clear e1
          go_wp2_with fail
          clear v0 v2
          refine (off_c _ _ F _ HD.out).mono ?_
          rintro e w5 ⟨rfl, hb⟩
          have VA := Lib.hid (VA.out.all hb); have HD := Lib.hid (HD.out.all hb); have HB := Lib.hid (HB.out.trans (hb.mono HB.out.size)); clear hb
          have v0 : w5.cell? ⟨ga, 0, none⟩ = some (.int .i64 ki) := by rw [cell_of_row _ _ _ _ _ _ VA.out.1]; rfl
          have v2 : w5.cell? ⟨ga, 2, none⟩ = some (.slice pa pn pc) := by rw [cell_of_row _ _ _ _ _ _ VA.out.1]; rfl
          have v2 : ∀ o, (w5.alloc o).cell? ⟨ga, 2, none⟩ = some (.slice pa pn pc) := fun o => by rw [cell_of_row _ _ _ _ _ _ (hbe VA.out.1)]; rfl
          go_wp2_with (at_builtin; refine wp_copy8 rfl (.tmp 55) (.tmp 57) rfl w5 rfl w.heap.size pa pn pc bs rfl HPO.out.2.2.1 (HPO.out.2.2.2.2.2.below HB.out) HB.out.size HPO.out.2.2.2.2.1 ?_; intro A6 c6 w6 how hb6)
          have HRF := Lib.hid (Rf.of_own how HD.out.lt)
          have hc6 := how.cap
          have VA := Lib.hid (VA.out.all hb6)
          have HD := Lib.hid (HD.out.all hb6)
          have HB := Lib.hid (HB.out.trans (hb6.mono HB.out.size)); clear hb6 how v0 v2
          refine (append_c _ _ A6 pn c6 bs HPO.out.2.2.1 hc6 HPO.out.2.2.2.2.1 F _ HD.out HRF.out).mono ?_
          clear HRF hc6
          cases off with
          | true =>
            rw [show appD ⟨data, sf, 60000, fz, true⟩ bs = ⟨data, sf, 60000, fz, true⟩ from rfl, show appE ⟨data, sf, 60000, fz, true⟩ bs = 82 from rfl]
            rintro e w7 ⟨F7, rfl, hd, hg⟩
            have VA := Lib.hid (VA.out.keep hg)
            have hg2 := hg.below HB.out.size HF.out
            have HD := Lib.hid hd; have HF := Lib.hid hg2.2; have HB := Lib.hid (HB.out.trans hg2.1)
            clear hd hg hg2
            go_wp2
            exact ⟨⟨k + 1, _, W, F7, rfl, rfl, by go_num, by omega, HD.out, rfl, HI.out.2.1, HI.out.2.2.1, HI.out.2.2.2, HF.out, HB.out⟩, by simp [intOf]; omega⟩
          | false =>
          have HWD : Hid (W = data) := Lib.hid (by have := HI.out.2.2.2; simpa using this)
          by_cases hfull : 0 < bs.length ∧ (60000 : Int) - (data.length : Int) < bs.length
          · rw [show appD ⟨data, sf, 60000, fz, false⟩ bs = ⟨data, sf, 60000, fz, false⟩ from by unfold appD; rw [if_neg (by simp), if_pos hfull], show appE ⟨data, sf, 60000, fz, false⟩ bs = 81 from by unfold appE; rw [if_neg (by simp), if_pos hfull]]
            clear hfull
            rintro e w7 ⟨F7, rfl, hd, hg⟩
            have VA := Lib.hid (VA.out.keep hg)
            have hg2 := hg.below HB.out.size HF.out
            have HD := Lib.hid hd; have HF := Lib.hid hg2.2; have HB := Lib.hid (HB.out.trans hg2.1)
            clear hd hg hg2
            go_wp2
            exact ⟨⟨k + 1, _, W, F7, rfl, rfl, by go_num, by omega, HD.out, rfl, HI.out.2.1, HI.out.2.2.1, fun _ => HWD.out, HF.out, HB.out⟩, by simp [intOf]; omega⟩
          have HFT : Hid (bs.length ≤ 60000 ∧ data.length + bs.length ≤ 60000) := Lib.hid (by have h1 := HI.out.2.1; have h2 := congrArg List.length HWD.out; omega)
          by_cases hcut : 0 ≤ fz ∧ fz < (bs.length : Int)
          · rw [show appD ⟨data, sf, 60000, fz, false⟩ bs = ⟨data ++ bs.take fz.toNat, sf, 60000, 0, true⟩ from by unfold appD; rw [if_neg (by simp), if_neg hfull, if_pos hcut], show appE ⟨data, sf, 60000, fz, false⟩ bs = 82 from by unfold appE; rw [if_neg (by simp), if_neg hfull, if_pos hcut]]
            clear hfull hcut
            have HNI : Hid (True ∧ (W ++ bs).length ≤ 60000 ∧ (∃ r, W ++ bs = (data ++ bs.take fz.toNat) ++ r) ∧ (true = false → W ++ bs = data ++ bs.take fz.toNat)) := Lib.hid ⟨trivial, by rw [List.length_append, HWD.out]; exact HFT.out.2, ⟨bs.drop fz.toNat, by rw [HWD.out, List.append_assoc, List.take_append_drop]⟩, fun h => by cases h⟩
            rintro e w7 ⟨F7, rfl, hd, hg⟩
            have VA := Lib.hid (VA.out.keep hg)
            have hg2 := hg.below HB.out.size HF.out
            have HD := Lib.hid hd; have HF := Lib.hid hg2.2; have HB := Lib.hid (HB.out.trans hg2.1)
            clear hd hg hg2
            have hcv := str8' pc (HPO.out.2.2.2.2.2.below HB.out) HPO.out.2.2.1
            have hadd := str_add W bs (by have := HI.out.2.1; omega) (by have := HFT.out; omega)
            have v0 : w7.cell? ⟨ga, 0, none⟩ = some (.int .i64 ki) := by rw [cell_of_row _ _ _ _ _ _ VA.out.1]; rfl
            have v2 : w7.cell? ⟨ga, 2, none⟩ = some (.slice pa pn pc) := by rw [cell_of_row _ _ _ _ _ _ VA.out.1]; rfl
            go_wp2
            exact ⟨⟨k + 1, _, W ++ bs, F7, rfl, rfl, by go_num, by omega, HD.out, rfl, HNI.out.2.1, HNI.out.2.2.1, HNI.out.2.2.2, HF.out, HB.out⟩, by simp [intOf]; omega⟩
          · rw [show appD ⟨data, sf, 60000, fz, false⟩ bs = ⟨data ++ bs, sf, 60000, if 0 ≤ fz then fz - bs.length else fz, false⟩ from by unfold appD; rw [if_neg (by simp), if_neg hfull, if_neg hcut], show appE ⟨data, sf, 60000, fz, false⟩ bs = 0 from by unfold appE; rw [if_neg (by simp), if_neg hfull, if_neg hcut]]
            clear hfull hcut
            have HNI : Hid (True ∧ (W ++ bs).length ≤ 60000 ∧ (∃ r, W ++ bs = (data ++ bs) ++ r) ∧ (false = false → W ++ bs = data ++ bs)) := Lib.hid ⟨trivial, by rw [List.length_append, HWD.out]; exact HFT.out.2, ⟨[], by rw [HWD.out, List.append_nil]⟩, fun _ => by rw [HWD.out]⟩
            generalize (if 0 ≤ fz then fz - (bs.length : Int) else fz) = fz2
            rintro e w7 ⟨F7, rfl, hd, hg⟩
            have VA := Lib.hid (VA.out.keep hg)
            have hg2 := hg.below HB.out.size HF.out
            have HD := Lib.hid hd; have HF := Lib.hid hg2.2; have HB := Lib.hid (HB.out.trans hg2.1)
            clear hd hg hg2
            have hcv := str8' pc (HPO.out.2.2.2.2.2.below HB.out) HPO.out.2.2.1
            have hadd := str_add W bs (by have := HI.out.2.1; omega) (by have := HFT.out; omega)
            have v0 : w7.cell? ⟨ga, 0, none⟩ = some (.int .i64 ki) := by rw [cell_of_row _ _ _ _ _ _ VA.out.1]; rfl
            have v2 : w7.cell? ⟨ga, 2, none⟩ = some (.slice pa pn pc) := by rw [cell_of_row _ _ _ _ _ _ VA.out.1]; rfl
            go_wp2
            exact ⟨⟨k + 1, _, W ++ bs, F7, rfl, rfl, by go_num, by omega, HD.out, rfl, HNI.out.2.1, HNI.out.2.2.1, fun _ => by rw [HWD.out], HF.out, HB.out⟩, by simp [intOf]; omega⟩
    · skip
      obtain ⟨data, sf, ro, fz, off⟩ := d
      go_wp2_with fail
      refine (crash_c _ _ ke H1.out F _ HD.out).mono ?_
      have HIV := Lib.hid HD.out.iv
      have HT : Hid (∃ T : List UInt8, crashD ⟨data, sf, ro, fz, off⟩ ke = ⟨T, T.length, ro, -1, false⟩ ∧ sf ≤ T.length ∧ T.length ≤ W.length ∧ T = W.take T.length) := Lib.hid (by
        obtain ⟨r, hr⟩ := HI.out.2.2.1
        have h1 := HIV.out
        unfold Iv at h1
        simp only at h1 hr
        refine ⟨data.take (sf.toNat + ke.toNat), rfl, by rw [List.length_take]; omega, by rw [List.length_take, hr, List.length_append]; omega, ?_⟩
        rw [hr, List.length_take, List.take_append_of_le_length (by omega), List.take_eq_take_iff]
        omega)
      obtain ⟨T, hT1, hT2, hT3, hT4⟩ := HT.out
      rw [hT1]
      have HT4 := Lib.hid hT4
      clear HT hT1 hT4
      rintro e w5 ⟨F5, rfl, hd, hg⟩
      have hg2 := hg.below HB.out.size HF.out
      have HD := Lib.hid hd; have HF := Lib.hid hg2.2; have HB := Lib.hid (HB.out.trans hg2.1)
      clear hd hg hg2
      go_wp2_with fail
      refine (bytes_c _ _ F5 _ HD.out).mono ?_
      rintro e w6 ⟨A6, n6, c6, rfl, how, hb⟩
      have hn6 : n6 = T.length := how.1
      have HRT := Lib.hid how.rd
      have HD := Lib.hid (HD.out.all hb); have HB := Lib.hid (HB.out.trans (hb.mono HB.out.size)); clear hb how
      have hsz : (str W).size = W.length := str_size W
      have hle1 : sf ≤ (n6 : Int) := by omega
      have hle2 : n6 ≤ W.length := by omega
      have hle3 : (n6 : Int) ≤ (W.length : Int) := by omega
      have HN6 := Lib.hid hn6
      clear hT2 hT3 hn6
      go_wp2_with fail
      have hcv2 : Hid (∀ W', Below w6.heap.size w6 W' → (convert 27 9 (.slice A6 n6 c6)).run Try.prog W' = .ok (.string (str T)) W') := Lib.hid (fun W' h => str8' c6 (HRT.out.below h) HN6.out)
      have hsl : ∀ W', (Instr.slice 9 (.string (str W)) none (some (.int .i64 (n6 : Int))) none).run Try.prog W' = .ok (.string (str T)) W' := fun W' => by
        rw [run_slice_string_h (P := Try.prog) W' 9 (str W) Try.underlying9 .i64 (n6 : Int) (by omega) (by rw [str_size]; omega)]
        rw [Int.toNat_natCast, str_take, HN6.out, ← HT4.out]
      have hsm := str_same T
      have hlen : ((T.length : Int) == (n6 : Int)) = true := by rw [beq_iff_eq, HN6.out]
      refine wp_region_held_drew (S := fun W' => Below w6.heap.size w6 W') (by kernel_rfl) (Below.refl _ _).drew (fun hHeld => ?_)
      generalize w6.drew = w7 at hHeld ⊢
      have HB7 : Hid (Below w6.heap.size w6 w7) := hHeld
      clear hHeld
      refine take_in (i := 0) (oi := ⟨_, _, _, _, _, _⟩) (v := ?_) rfl (by kernel_rfl) (by kernel_rfl) (by kernel_rfl) (fun _ _ _ h => h) (by rfl) ?_ HB7.out ?_
      rotate_left
      · intro W hW; go_simp; with_reducible rfl
      simp only [Act.put, List.setIfInBounds_toArray, List.set_cons_zero, List.set_cons_succ]
      refine take_in (i := 1) (oi := ⟨_, _, _, _, _, _⟩) (v := ?_) rfl (by kernel_rfl) (by kernel_rfl) (by kernel_rfl) (fun _ _ _ h => h) (by rfl) ?_ HB7.out ?_
      rotate_left
      · intro W hW; go_simp; with_reducible rfl
      simp only [Act.put, List.setIfInBounds_toArray, List.set_cons_zero, List.set_cons_succ]
      refine take_in (i := 2) (oi := ⟨_, _, _, _, _, _⟩) (v := ?_) rfl (by kernel_rfl) (by kernel_rfl) (by kernel_rfl) (fun _ _ _ h => h) (by rfl) ?_ HB7.out ?_
      rotate_left
      · intro W hW; go_simp; with_reducible rfl
      simp only [Act.put, List.setIfInBounds_toArray, List.set_cons_zero, List.set_cons_succ]
      refine take_in (i := 3) (oi := ⟨_, _, _, _, _, _⟩) (v := ?_) rfl (by kernel_rfl) (by kernel_rfl) (by kernel_rfl) (fun _ _ _ h => h) (by rfl) ?_ HB7.out ?_
      rotate_left
      · intro W hW; go_simp; with_reducible rfl
      simp only [Act.put, List.setIfInBounds_toArray, List.set_cons_zero, List.set_cons_succ]
      (try rw [decide_eq_true hle1])
      refine take_in (i := 4) (oi := ⟨_, _, _, _, _, _⟩) (v := ?_) rfl (by kernel_rfl) (by kernel_rfl) (by kernel_rfl) (fun _ _ _ h => h) (by rfl) ?_ HB7.out ?_
      rotate_left
      · intro W hW; go_simp; with_reducible rfl
      simp only [Act.put, List.setIfInBounds_toArray, List.set_cons_zero, List.set_cons_succ]
      refine take_in (i := 5) (oi := ⟨_, _, _, _, _, _⟩) (v := ?_) rfl (by kernel_rfl) (by kernel_rfl) (by kernel_rfl) (fun _ _ _ h => h) (by rfl) ?_ HB7.out ?_
      rotate_left
      · intro W hW; go_simp; with_reducible rfl
      simp only [Act.put, List.setIfInBounds_toArray, List.set_cons_zero, List.set_cons_succ]
      refine take_in (i := 6) (oi := ⟨_, _, _, _, _, _⟩) (v := ?_) rfl (by kernel_rfl) (by kernel_rfl) (by kernel_rfl) (fun _ _ _ h => h) (by rfl) ?_ HB7.out ?_
      rotate_left
      · intro W hW; go_simp; with_reducible rfl
      simp only [Act.put, List.setIfInBounds_toArray, List.set_cons_zero, List.set_cons_succ]
      refine take_in (i := 7) (oi := ⟨_, _, _, _, _, _⟩) (v := ?_) rfl (by kernel_rfl) (by kernel_rfl) (by kernel_rfl) (fun _ _ _ h => h) (by rfl) ?_ HB7.out ?_
      rotate_left
      · intro W hW; go_simp; with_reducible rfl
      simp only [Act.put, List.setIfInBounds_toArray, List.set_cons_zero, List.set_cons_succ]
      refine take_in (i := 8) (oi := ⟨_, _, _, _, _, _⟩) (v := ?_) rfl (by kernel_rfl) (by kernel_rfl) (by kernel_rfl) (fun _ _ _ h => h) (by rfl) ?_ HB7.out ?_
      rotate_left
      · intro W hW; go_simp; with_reducible rfl
      simp only [Act.put, List.setIfInBounds_toArray, List.set_cons_zero, List.set_cons_succ]
      refine take_in (i := 9) (oi := ⟨_, _, _, _, _, _⟩) (v := ?_) rfl (by kernel_rfl) (by kernel_rfl) (by kernel_rfl) (fun _ _ _ h => h) (by rfl) ?_ HB7.out ?_
      rotate_left
      · intro W hW; go_simp; with_reducible rfl
      simp only [Act.put, List.setIfInBounds_toArray, List.set_cons_zero, List.set_cons_succ]
      (try rw [decide_eq_true hle3])
      refine take_in (i := 10) (oi := ⟨_, _, _, _, _, _⟩) (v := ?_) rfl (by kernel_rfl) (by kernel_rfl) (by kernel_rfl) (fun _ _ _ h => h) (by rfl) ?_ HB7.out ?_
      rotate_left
      · intro W hW; go_simp; with_reducible rfl
      simp only [Act.put, List.setIfInBounds_toArray, List.set_cons_zero, List.set_cons_succ]
      refine take_in (i := 11) (oi := ⟨_, _, _, _, _, _⟩) (v := ?_) rfl (by kernel_rfl) (by kernel_rfl) (by kernel_rfl) (fun _ _ _ h => h) (by rfl) ?_ HB7.out ?_
      rotate_left
      · intro W hW; go_simp; with_reducible rfl
      simp only [Act.put, List.setIfInBounds_toArray, List.set_cons_zero, List.set_cons_succ]
      refine take_in (i := 12) (oi := ⟨_, _, _, _, _, _⟩) (v := ?_) rfl (by kernel_rfl) (by kernel_rfl) (by kernel_rfl) (fun _ _ _ h => h) (by rfl) ?_ HB7.out ?_
      rotate_left
      · intro W hW; go_simp; with_reducible rfl
      simp only [Act.put, List.setIfInBounds_toArray, List.set_cons_zero, List.set_cons_succ]
      refine take_in (i := 13) (oi := ⟨_, _, _, _, _, _⟩) (v := ?_) rfl (by kernel_rfl) (by kernel_rfl) (by kernel_rfl) (fun _ _ _ h => h) (by rfl) ?_ HB7.out ?_
      rotate_left
      · intro W hW; have hq := hcv2.out W hW; go_simp; with_reducible rfl
      simp only [Act.put, List.setIfInBounds_toArray, List.set_cons_zero, List.set_cons_succ]
      refine take_in (i := 14) (oi := ⟨_, _, _, _, _, _⟩) (v := ?_) rfl (by kernel_rfl) (by kernel_rfl) (by kernel_rfl) (fun _ _ _ h => h) (by rfl) ?_ HB7.out ?_
      rotate_left
      · intro W hW; go_simp; with_reducible rfl
      simp only [Act.put, List.setIfInBounds_toArray, List.set_cons_zero, List.set_cons_succ]
      refine take_in (i := 15) (oi := ⟨_, _, _, _, _, _⟩) (v := ?_) rfl (by kernel_rfl) (by kernel_rfl) (by kernel_rfl) (fun _ _ _ h => h) (by rfl) ?_ HB7.out ?_
      rotate_left
      · intro W hW; go_simp; with_reducible rfl
      simp only [Act.put, List.setIfInBounds_toArray, List.set_cons_zero, List.set_cons_succ]
      refine take_in (i := 16) (oi := ⟨_, _, _, _, _, _⟩) (v := ?_) rfl (by kernel_rfl) (by kernel_rfl) (by kernel_rfl) (fun _ _ _ h => h) (by rfl) ?_ HB7.out ?_
      rotate_left
      · intro W hW; go_simp; with_reducible rfl
      simp only [Act.put, List.setIfInBounds_toArray, List.set_cons_zero, List.set_cons_succ]
      refine take_in (i := 17) (oi := ⟨_, _, _, _, _, _⟩) (v := ?_) rfl (by kernel_rfl) (by kernel_rfl) (by kernel_rfl) (fun _ _ _ h => h) (by rfl) ?_ HB7.out ?_
      rotate_left
      · intro W hW; go_simp; with_reducible rfl
      simp only [Act.put, List.setIfInBounds_toArray, List.set_cons_zero, List.set_cons_succ]
      refine take_in (i := 18) (oi := ⟨_, _, _, _, _, _⟩) (v := ?_) rfl (by kernel_rfl) (by kernel_rfl) (by kernel_rfl) (fun _ _ _ h => h) (by rfl) ?_ HB7.out ?_
      rotate_left
      · intro W hW; go_simp; with_reducible rfl
      simp only [Act.put, List.setIfInBounds_toArray, List.set_cons_zero, List.set_cons_succ]
      refine take_in (i := 19) (oi := ⟨_, _, _, _, _, _⟩) (v := ?_) rfl (by kernel_rfl) (by kernel_rfl) (by kernel_rfl) (fun _ _ _ h => h) (by rfl) ?_ HB7.out ?_
      rotate_left
      · intro W hW; go_simp; with_reducible rfl
      simp only [Act.put, List.setIfInBounds_toArray, List.set_cons_zero, List.set_cons_succ]
      refine take_in (i := 20) (oi := ⟨_, _, _, _, _, _⟩) (v := ?_) rfl (by kernel_rfl) (by kernel_rfl) (by kernel_rfl) (fun _ _ _ h => h) (by rfl) ?_ HB7.out ?_
      rotate_left
      · intro W hW; go_simp; with_reducible rfl
      simp only [Act.put, List.setIfInBounds_toArray, List.set_cons_zero, List.set_cons_succ]
      refine take_in (i := 21) (oi := ⟨_, _, _, _, _, _⟩) (v := ?_) rfl (by kernel_rfl) (by kernel_rfl) (by kernel_rfl) (fun _ _ _ h => h) (by rfl) ?_ HB7.out ?_
      rotate_left
      · intro W hW; go_simp; with_reducible rfl
      simp only [Act.put, List.setIfInBounds_toArray, List.set_cons_zero, List.set_cons_succ]
      refine take_in (i := 23) (oi := ⟨_, _, _, _, _, _⟩) (v := ?_) rfl (by kernel_rfl) (by kernel_rfl) (by kernel_rfl) (fun _ _ _ h => h) (by rfl) ?_ HB7.out ?_
      rotate_left
      · intro W hW; go_simp; with_reducible rfl
      simp only [Act.put, List.setIfInBounds_toArray, List.set_cons_zero, List.set_cons_succ]
      refine take_in (i := 24) (oi := ⟨_, _, _, _, _, _⟩) (v := ?_) rfl (by kernel_rfl) (by kernel_rfl) (by kernel_rfl) (fun _ _ _ h => h) (by rfl) ?_ HB7.out ?_
      rotate_left
      · intro W hW; go_simp; with_reducible rfl
      simp only [Act.put, List.setIfInBounds_toArray, List.set_cons_zero, List.set_cons_succ]
      refine wpAnyH_ready (rs := [22]) (by kernel_rfl) (by simp) ?_
      refine AllReadyH.cons (o := ⟨_, _, _, _, _, _⟩) rfl (fun K hK => ?_) AllReadyH.nil
      go_simp
      refine (safe_c _ _ F5 _ (HD.out.all HB7.out)).mono ?_
      rintro e w8 ⟨rfl, hb⟩
      have HB8 := Lib.hid (HB7.out.trans (hb.mono HB7.out.size)); clear hb
      refine hK.out _ _ HB8.out (fun _ => ?_)
      clear hK K
      refine take_in (i := 25) (oi := ⟨_, _, _, _, _, _⟩) (v := ?_) rfl (by kernel_rfl) (by kernel_rfl) (by kernel_rfl) (fun _ _ _ h => h) (by rfl) ?_ HB8.out ?_
      rotate_left
      · intro W hW; go_simp; with_reducible rfl
      simp only [Act.put, List.setIfInBounds_toArray, List.set_cons_zero, List.set_cons_succ]
      refine take_in (i := 26) (oi := ⟨_, _, _, _, _, _⟩) (v := ?_) rfl (by kernel_rfl) (by kernel_rfl) (by kernel_rfl) (fun _ _ _ h => h) (by rfl) ?_ HB8.out ?_
      rotate_left
      · intro W hW; go_simp; with_reducible rfl
      simp only [Act.put, List.setIfInBounds_toArray, List.set_cons_zero, List.set_cons_succ]
      refine take_in (i := 27) (oi := ⟨_, _, _, _, _, _⟩) (v := ?_) rfl (by kernel_rfl) (by kernel_rfl) (by kernel_rfl) (fun _ _ _ h => h) (by rfl) ?_ HB8.out ?_
      rotate_left
      · intro W hW; go_simp; with_reducible rfl
      simp only [Act.put, List.setIfInBounds_toArray, List.set_cons_zero, List.set_cons_succ]
      refine take_in (i := 28) (oi := ⟨_, _, _, _, _, _⟩) (v := ?_) rfl (by kernel_rfl) (by kernel_rfl) (by kernel_rfl) (fun _ _ _ h => h) (by rfl) ?_ HB8.out ?_
      rotate_left
      · intro W hW; go_simp; with_reducible rfl
      simp only [Act.put, List.setIfInBounds_toArray, List.set_cons_zero, List.set_cons_succ]
      refine wpAnyH_ready (rs := [29]) (by kernel_rfl) (by simp) ?_
      refine AllReadyH.cons (o := ⟨_, _, _, _, _, _⟩) rfl (fun K hK => ?_) AllReadyH.nil
      go_simp
      refine (off_c _ _ F5 _ (HD.out.all HB8.out)).mono ?_
      rintro e w9 ⟨rfl, hb⟩
      have HB9 := Lib.hid (HB8.out.trans (hb.mono HB8.out.size)); clear hb
      refine hK.out _ _ HB9.out (fun _ => ?_)
      clear hK K
      refine take_in (i := 30) (oi := ⟨_, _, _, _, _, _⟩) (v := ?_) rfl (by kernel_rfl) (by kernel_rfl) (by kernel_rfl) (fun _ _ _ h => h) (by rfl) ?_ HB9.out ?_
      rotate_left
      · intro W hW; go_simp; with_reducible rfl
      simp only [Act.put, List.setIfInBounds_toArray, List.set_cons_zero, List.set_cons_succ]
      refine take_in (i := 31) (oi := ⟨_, _, _, _, _, _⟩) (v := ?_) rfl (by kernel_rfl) (by kernel_rfl) (by kernel_rfl) (fun _ _ _ h => h) (by rfl) ?_ HB9.out ?_
      rotate_left
      · intro W hW; go_simp; with_reducible rfl
      simp only [Act.put, List.setIfInBounds_toArray, List.set_cons_zero, List.set_cons_succ]
      refine take_in (i := 32) (oi := ⟨_, _, _, _, _, _⟩) (v := ?_) rfl (by kernel_rfl) (by kernel_rfl) (by kernel_rfl) (fun _ _ _ h => h) (by rfl) ?_ HB9.out ?_
      rotate_left
      · intro W hW; go_simp; with_reducible rfl
      simp only [Act.put, List.setIfInBounds_toArray, List.set_cons_zero, List.set_cons_succ]
      refine wpAnyH_done (by kernel_rfl) ?_ _
      go_wp2
      go_ret
      exact ⟨rfl, HB.out.trans (HB9.out.mono HB.out.size)⟩
end Go.Proofs.Ytgcmejhgfdipkaa.diskKeeps
