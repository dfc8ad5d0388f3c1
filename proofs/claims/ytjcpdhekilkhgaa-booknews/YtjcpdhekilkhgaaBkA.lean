/- What bookAlive answers: true. -/
import Derived.Test.YtjcpdhekilkhgaaBkC
namespace Go.Proofs.Ytjcpdhekilkhgaa.Bkw
open Go.RowKit
open Tg Bk
open Tgw (bal hat hbe ret_bool tv)

def e13 : E := ⟨1, 3, 0, 4613937818241073152⟩
def e14 : E := ⟨1, 4, 0, 4616189618054758400⟩
def e21 : E := ⟨2, 1, 0, 4607182418800017408⟩
theorem f3 : floatOfInt .f64 3 = 4613937818241073152 := by decide +kernel
theorem f4 : floatOfInt .f64 4 = 4616189618054758400 := by decide +kernel
theorem f1 : floatOfInt .f64 1 = 4607182418800017408 := by decide +kernel
theorem entry_c (k n : Int) (w : World) : Calls Try.prog 27 #[.int .i64 k, .int .i64 n] w fun e w' => e = .returned (ev ⟨k, n, 0, floatOfInt .f64 n⟩) ∧ Below w.heap.size w w' := by
  have hsf := store_flt
  go_enter Try.func27, Try.ntmps27
  go_wp2
  refine bodyPost_ret (results_entry (e := ⟨k, n, 0, floatOfInt .f64 n⟩) (g := w.heap.size) rfl rfl (hat _ _ _ rfl)) rfl ?_
  exact ⟨rfl, bal (Below.refl _ _) (Nat.le_refl _) _⟩
theorem wf_small (e : E) (h : 0 ≤ e.key ∧ e.key ≤ 10000000 ∧ 0 ≤ e.num ∧ e.num ≤ 10000000 ∧ 0 ≤ e.node ∧ e.node ≤ 10000000 ∧ e.val < 18446744073709551616) : WfE e := by
  unfold WfE I64 Flt.U64
  omega
theorem so_new (w : World) (es : List E) (n : Nat) (hn : n = es.length) (hl : n ≤ 1000) (hw : ∀ e ∈ es, WfE e) : So (w.alloc (.cells (flat es).toArray 26)) (some ⟨w.heap.size, 0, none⟩) n n es :=
  ⟨hn, Nat.le_refl _, by omega, hw, (re_new w es).more (by simp)⟩
theorem m_alive : merge [e13] [e14, e21] = [e14, e21] := by kernel_rfl
theorem b13 : isBook [e13] = true := by kernel_rfl
theorem b14 : isBook [e14, e21] = true := by kernel_rfl
theorem g14 : getF [e14, e21] 1 = e14 := by kernel_rfl
theorem c14 : chkN [e14, e21] = 0 := by kernel_rfl
theorem c00 : chkN [zero 0] = 71 := by kernel_rfl
set_option maxHeartbeats 1000000 in
theorem alive_c (w : World) : Calls Try.prog 10 #[] w fun e w' => e = .returned (.bool true) ∧ Below w.heap.size w w' := by
  have hsf := store_flt
  have hft := field_tag
  have heq := eq_tagE
  go_enter Try.func10, Try.ntmps10
  go_wp2_with fail
  refine (entry_c 1 3 _).mono ?_
  rw [f3]
  rintro e w1 ⟨rfl, hb⟩
  have HB := Lib.hid hb; clear hb
  unfold ev
  go_wp2_with fail
  have SA := Lib.hid (show So (w1.alloc (.cells #[.int .i64 1, .int .i64 3, .int .i64 0, .float .f64 4613937818241073152] 26)) (some ⟨w1.heap.size, 0, none⟩) 1 1 [e13] from so_new w1 [e13] 1 rfl (by omega) (by intro e he; rw [List.mem_singleton] at he; subst he; exact wf_small _ (by decide)))
  have HB := Lib.hid (bal HB.out (Nat.le_refl _) (.cells #[.int .i64 1, .int .i64 3, .int .i64 0, .float .f64 4613937818241073152] 26))
  generalize w1.alloc (.cells #[.int .i64 1, .int .i64 3, .int .i64 0, .float .f64 4613937818241073152] 26) = w2 at SA HB ⊢
  generalize w1.heap.size = g1 at SA ⊢
  refine (entry_c 1 4 _).mono ?_
  rw [f4]
  rintro e w3 ⟨rfl, hb⟩
  have SA := Lib.hid (SA.out.all hb)
  have HB := Lib.hid (HB.out.trans (hb.mono HB.out.size)); clear hb
  unfold ev
  go_wp2_with fail
  refine (entry_c 2 1 _).mono ?_
  rw [f1]
  rintro e w4 ⟨rfl, hb⟩
  have SA := Lib.hid (SA.out.all hb)
  have HB := Lib.hid (HB.out.trans (hb.mono HB.out.size)); clear hb
  unfold ev
  go_wp2_with fail
  have SB := Lib.hid (show So (w4.alloc (.cells #[.int .i64 1, .int .i64 4, .int .i64 0, .float .f64 4616189618054758400, .int .i64 2, .int .i64 1, .int .i64 0, .float .f64 4607182418800017408] 26)) (some ⟨w4.heap.size, 0, none⟩) 2 2 [e14, e21] from so_new w4 [e14, e21] 2 rfl (by omega) (by intro e he; simp only [List.mem_cons, List.not_mem_nil, or_false] at he; rcases he with rfl | rfl <;> exact wf_small _ (by decide)))
  have SA := Lib.hid (SA.out.alloc (.cells #[.int .i64 1, .int .i64 4, .int .i64 0, .float .f64 4616189618054758400, .int .i64 2, .int .i64 1, .int .i64 0, .float .f64 4607182418800017408] 26))
  have HB := Lib.hid (bal HB.out (Nat.le_refl _) (.cells #[.int .i64 1, .int .i64 4, .int .i64 0, .float .f64 4616189618054758400, .int .i64 2, .int .i64 1, .int .i64 0, .float .f64 4607182418800017408] 26))
  generalize w4.alloc (.cells #[.int .i64 1, .int .i64 4, .int .i64 0, .float .f64 4616189618054758400, .int .i64 2, .int .i64 1, .int .i64 0, .float .f64 4607182418800017408] 26) = w5 at SA SB HB ⊢
  generalize w4.heap.size = g2 at SB ⊢
  refine (merge_c _ _ _ _ _ _ _ _ _ SA.out SB.out b13 b14).mono ?_
  rw [m_alive]
  rintro e w6 ⟨A, n, c, rfl, hs, hb⟩
  obtain rfl : n = 2 := hs.1
  have SM := Lib.hid hs
  have HB := Lib.hid (HB.out.trans (hb.mono HB.out.size)); clear hb hs SA SB
  go_wp2_with fail
  refine (get_c A 2 c [e14, e21] 1 (by unfold I64; omega) _ SM.out b14).mono ?_
  rw [g14, show getN 1 = 0 from rfl]
  rintro e w7 ⟨rfl, hb⟩
  have SM := Lib.hid (SM.out.all hb)
  have HB := Lib.hid (HB.out.trans (hb.mono HB.out.size)); clear hb
  unfold ev
  rw [show e14 = ⟨1, 4, 0, 4616189618054758400⟩ from rfl]
  go_wp2_with fail
  have SM := Lib.hid (SM.out.alloc (.cells #[.int .i64 1, .int .i64 4, .int .i64 0, .float .f64 4616189618054758400] 26))
  have HB := Lib.hid (bal HB.out (Nat.le_refl _) (.cells #[.int .i64 1, .int .i64 4, .int .i64 0, .float .f64 4616189618054758400] 26))
  generalize w7.alloc (.cells #[.int .i64 1, .int .i64 4, .int .i64 0, .float .f64 4616189618054758400] 26) = w8 at SM HB ⊢
  refine (check_c A 2 c [e14, e21] _ SM.out).mono ?_
  rw [c14]
  rintro e w9 ⟨rfl, hb⟩
  have HB := Lib.hid (HB.out.trans (hb.mono HB.out.size)); clear hb SM
  go_wp2_with fail
  have SZ := Lib.hid (show So (w9.alloc (.cells #[.int .i64 0, .int .i64 0, .int .i64 0, .float .f64 0] 26)) (some ⟨w9.heap.size, 0, none⟩) 1 1 [zero 0] from so_new w9 [zero 0] 1 rfl (by omega) (by intro e he; rw [List.mem_singleton] at he; subst he; exact wf_small _ (by decide)))
  have HB := Lib.hid (bal HB.out (Nat.le_refl _) (.cells #[.int .i64 0, .int .i64 0, .int .i64 0, .float .f64 0] 26))
  generalize w9.alloc (.cells #[.int .i64 0, .int .i64 0, .int .i64 0, .float .f64 0] 26) = w10 at SZ HB ⊢
  generalize w9.heap.size = g3 at SZ ⊢
  refine (check_c _ 1 1 [zero 0] _ SZ.out).mono ?_
  rw [c00]
  rintro e w11 ⟨rfl, hb⟩
  have HB := Lib.hid (HB.out.trans (hb.mono HB.out.size)); clear hb SZ
  go_wp2
  go_ret
  exact ⟨rfl, HB.out⟩
end Go.Proofs.Ytjcpdhekilkhgaa.Bkw
