/- What diskAlive answers: true. -/
import Derived.Test.YtgcmejhgfdipkaaDkE
namespace Go.Proofs.Ytgcmejhgfdipkaa.Dkw
open Go.RowKit
open Dk

theorem Dd.all {w w' : World} {F : Nat → Prop} {p : Value} {d : D} (h : Dd w F p d) (hb : Below w.heap.size w w') : Dd w' F p d := h.keep hb.size (fun k hk => hb.block k (h.lt k hk))
theorem Dd.setCell {w : World} {F : Nat → Prop} {p : Value} {d : D} (h : Dd w F p d) {q : Addr} (hq : ¬ F q.block) (u : Value) : Dd (w.setCell q u) F p d :=
  h.keep ((Below.refl 0 w).setCell (p := q) (Nat.zero_le _) u).size (fun k hk => Below.heap_setCell w q u k (fun e => hq (e ▸ hk)))
theorem rf_mark (w : World) (F : Nat → Prop) (xs : List Value) (m : Nat × Nat) (hF : ∀ k, F k → k < w.heap.size) : Rf (w.alloc (.cells xs.toArray 5 m)) F (some ⟨w.heap.size, 0, none⟩) xs := by
  intro hn
  obtain ⟨b, o, e, hb, hc⟩ := rd_mark w xs m hn
  injection e with e
  injection e with e1 e2
  subst e1; subst e2
  exact ⟨_, _, rfl, by simp, fun hf => by have := hF _ hf; omega, hc⟩
theorem a1 : appE (newD 9) [97, 98] = 0 := by decide +kernel
theorem d1 : appD (newD 9) [97, 98] = ⟨[97, 98], 0, 9, -1, false⟩ := by kernel_rfl
theorem d2 : syncD ⟨[97, 98], 0, 9, -1, false⟩ = ⟨[97, 98], 2, 9, -1, false⟩ := by kernel_rfl
theorem d3 : fuseD ⟨[97, 98], 2, 9, -1, false⟩ 1 = ⟨[97, 98], 2, 9, 1, false⟩ := by kernel_rfl
theorem a4 : appE ⟨[97, 98], 2, 9, 1, false⟩ [99, 100] = 82 := by decide +kernel
theorem d4 : appD ⟨[97, 98], 2, 9, 1, false⟩ [99, 100] = ⟨[97, 98, 99], 2, 9, 0, true⟩ := by kernel_rfl
theorem i64_small (x : Int) (h : 0 ≤ x ∧ x ≤ 10000000) : I64 x := by unfold I64; omega
set_option maxHeartbeats 1000000 in
theorem alive_c (w : World) : Calls Try.prog 9 #[] w fun e w' => e = .returned (.bool true) ∧ Below w.heap.size w w' := by
  have kc := text_const
  go_enter Try.func9, Try.ntmps9
  go_wp2_with fail
  refine (new_c 9 (i64_small _ (by omega)) _).mono ?_
  rintro e w1 ⟨p, F, rfl, hd, hF, hb⟩
  obtain ⟨a, rfl⟩ := hd.ptr
  have HD := Lib.hid hd; have HF := Lib.hid hF; have HB := Lib.hid hb
  clear hd hF hb
  go_wp2_with fail
  have HR := Lib.hid (rf_mark w1 F ([97, 98].map B8) (2, 3) HD.out.lt)
  have HD := Lib.hid (HD.out.all (bal (Below.refl _ _) (Nat.le_refl _) (.cells #[.int .u8 97, .int .u8 98] 5 (2, 3))))
  have HB := Lib.hid (bal HB.out (Nat.le_refl _) (.cells #[.int .u8 97, .int .u8 98] 5 (2, 3)))
  refine (append_c _ _ _ 2 2 [97, 98] rfl (Nat.le_refl _) (by unfold big; omega) F _ HD.out HR.out).mono ?_
  rw [a1, d1]
  rintro e w2 ⟨F', rfl, hd, hg⟩
  have hg2 := hg.below HB.out.size HF.out
  have HD := Lib.hid hd; have HF := Lib.hid hg2.2; have HB := Lib.hid (HB.out.trans hg2.1)
  clear hd hg hg2
  clear HR
  go_wp2_with fail
  refine (sync_c _ _ F' _ HD.out).mono ?_
  rw [d2]
  rintro e w3 ⟨F3, rfl, hd, hg⟩
  have hg2 := hg.below HB.out.size HF.out
  have HD := Lib.hid hd; have HF := Lib.hid hg2.2; have HB := Lib.hid (HB.out.trans hg2.1)
  clear hd hg hg2
  go_wp2_with fail
  refine (fuse_c _ _ 1 (i64_small _ (by omega)) F3 _ HD.out).mono ?_
  rw [d3]
  rintro e w4 ⟨F4, rfl, hd, hg⟩
  have hg2 := hg.below HB.out.size HF.out
  have HD := Lib.hid hd; have HF := Lib.hid hg2.2; have HB := Lib.hid (HB.out.trans hg2.1)
  clear hd hg hg2
  go_wp2_with fail
  have HR := Lib.hid (rf_mark w4 F4 ([99, 100].map B8) (2, 3) HD.out.lt)
  have HD := Lib.hid (HD.out.all (bal (Below.refl _ _) (Nat.le_refl _) (.cells #[.int .u8 99, .int .u8 100] 5 (2, 3))))
  have HB := Lib.hid (bal HB.out (Nat.le_refl _) (.cells #[.int .u8 99, .int .u8 100] 5 (2, 3)))
  refine (append_c _ _ _ 2 2 [99, 100] rfl (Nat.le_refl _) (by unfold big; omega) F4 _ HD.out HR.out).mono ?_
  rw [a4, d4]
  rintro e w5 ⟨F5, rfl, hd, hg⟩
  have hg2 := hg.below HB.out.size HF.out
  have HD := Lib.hid hd; have HF := Lib.hid hg2.2; have HB := Lib.hid (HB.out.trans hg2.1)
  clear hd hg hg2
  clear HR
  go_wp2_with fail
  refine (off_c _ _ F5 _ HD.out).mono ?_
  rintro e w6 ⟨rfl, hb⟩
  have HD := Lib.hid (HD.out.all hb); have HB := Lib.hid (HB.out.trans (hb.mono HB.out.size)); clear hb
  go_wp2_with fail
  refine (bytes_c _ _ F5 _ HD.out).mono ?_
  rintro e w7 ⟨A7, n7, c7, rfl, how, hb⟩
  have hcv := str8' c7 how.rd how.1
  have HD := Lib.hid (HD.out.all hb); have HB := Lib.hid (HB.out.trans (hb.mono HB.out.size)); clear hb how
  have hst : ((str [97, 98, 99]).toList == [97, 98, 99]) = true := by rw [str_toList]; rfl
  go_wp2_with fail
  refine (safe_c _ _ F5 _ HD.out).mono ?_
  rintro e w8 ⟨rfl, hb⟩
  have HB := Lib.hid (HB.out.trans (hb.mono HB.out.size)); clear hb
  go_wp2
  go_ret
  exact ⟨rfl, HB.out⟩
end Go.Proofs.Ytgcmejhgfdipkaa.Dkw
