/- The walk of BookChecks. -/
import Derived.Test.YtjcpdhekilkhgaaBkA
import Derived.Test.YtjcpdhekilkhgaaWf
namespace Go.Proofs.Ytjcpdhekilkhgaa.bookChecks
open Go.RowKit
open Tg Bk Bkw
open Tgw (bal hat hbe ret_bool tv)

set_option maxRecDepth 100000 in
set_option maxHeartbeats 2000000 in
theorem walk (w : World) (A : Option Addr) (n c : Nat) (es : List E) (ha : So w A n c es) (A2 : Option Addr) (n2 c2 : Nat) (fs : List E) (hb : So w A2 n2 c2 fs) (key : Int) (wk : (Lit.int .i64 key).wf = true) :
    Calls Try.prog 4 #[.slice A n c, .slice A2 n2 c2, .int .i64 key] w fun e w' => e = .returned (.bool true) ∧ Below w.heap.size w w' := by
  have hsf := store_flt
  have HK : Hid (I64 key) := Lib.hid (wf_i64 wk)
  have HA := Lib.hid ha; have HF := Lib.hid hb
  clear ha hb wk
  go_enter Try.func4, Try.ntmps4
  go_wp2_with fail
  have HB := Lib.hid (Below.refl w.heap.size w)
  refine (alive_c _).mono ?_
  rintro e w1 ⟨rfl, hb⟩
  have HA := Lib.hid (HA.out.all hb)
  have HF := Lib.hid (HF.out.all hb)
  have HB := Lib.hid (HB.out.trans (hb.mono HB.out.size)); clear hb
  obtain ⟨r, hr⟩ : ∃ r, r = chkN es := ⟨_, rfl⟩
  have HR := Lib.hid hr; clear hr
  obtain ⟨v, hv⟩ : ∃ v, v = same es fs := ⟨_, rfl⟩
  have HV := Lib.hid hv; clear hv
  go_wp2_with fail
  refine (check_c A n c es _ HA.out).mono ?_
  rw [← HR.out]
  rintro e w2 ⟨rfl, hb⟩
  have HA := Lib.hid (HA.out.all hb)
  have HF := Lib.hid (HF.out.all hb)
  have HB := Lib.hid (HB.out.trans (hb.mono HB.out.size)); clear hb
  go_wp2_with fail
  refine (check_o A n c es _ HA.out).mono ?_
  rw [← HR.out]
  rintro e w3 ⟨rfl, hb⟩
  have HA := Lib.hid (HA.out.all hb)
  have HF := Lib.hid (HF.out.all hb)
  have HB := Lib.hid (HB.out.trans (hb.mono HB.out.size)); clear hb
  go_wp2_with fail
  refine (same_c A n c es A2 n2 c2 fs _ HA.out HF.out).mono ?_
  rw [← HV.out]
  rintro e w4 ⟨rfl, hb⟩
  have HA := Lib.hid (HA.out.all hb)
  have HF := Lib.hid (HF.out.all hb)
  have HB := Lib.hid (HB.out.trans (hb.mono HB.out.size)); clear hb
  go_wp2_with fail
  refine (same_o A n c es A2 n2 c2 fs _ HA.out HF.out).mono ?_
  rw [← HV.out]
  rintro e w5 ⟨rfl, hb⟩
  have HA := Lib.hid (HA.out.all hb)
  have HF := Lib.hid (HF.out.all hb)
  have HB := Lib.hid (HB.out.trans (hb.mono HB.out.size)); clear hb
  go_wp2_with fail
  refine (check_o A n c es _ HA.out).mono ?_
  rw [← HR.out]
  rintro e w6 ⟨rfl, hb⟩
  have HA := Lib.hid (HA.out.all hb)
  have HF := Lib.hid (HF.out.all hb)
  have HB := Lib.hid (HB.out.trans (hb.mono HB.out.size)); clear hb
  cases hbk : isBook es with
  | false =>
    obtain rfl : r = 71 := by rw [HR.out]; unfold chkN; rw [hbk]; rfl
    clear hbk
    go_wp2
    go_ret
    exact ⟨rfl, HB.out⟩
  | true =>
  obtain rfl : r = 0 := by rw [HR.out]; unfold chkN; rw [hbk]; rfl
  have HBK := Lib.hid hbk; clear hbk
  obtain ⟨x, hx⟩ : ∃ x, x = getF es key := ⟨_, rfl⟩
  have HX := Lib.hid hx; clear hx
  obtain ⟨g, hg⟩ : ∃ g, g = getN key := ⟨_, rfl⟩
  have HG := Lib.hid hg; clear hg
  go_wp2_with fail
  refine (get_c A n c es key HK.out _ HA.out HBK.out).mono ?_
  rw [← HX.out, ← HG.out]
  rintro e w7 ⟨rfl, hb⟩
  have HA := Lib.hid (HA.out.all hb)
  have HB := Lib.hid (HB.out.trans (hb.mono HB.out.size)); clear hb
  unfold ev
  go_wp2_with fail
  have VX := Lib.hid (show Ex (w7.alloc (.cells #[.int .i64 x.key, .int .i64 x.num, .int .i64 x.node, .float .f64 x.val] 26)) w7.heap.size x from hat _ _ _ rfl)
  have HA := Lib.hid (HA.out.alloc (.cells #[.int .i64 x.key, .int .i64 x.num, .int .i64 x.node, .float .f64 x.val] 26))
  have HB := Lib.hid (bal HB.out (Nat.le_refl _) (.cells #[.int .i64 x.key, .int .i64 x.num, .int .i64 x.node, .float .f64 x.val] 26))
  generalize w7.alloc (.cells #[.int .i64 x.key, .int .i64 x.num, .int .i64 x.node, .float .f64 x.val] 26) = w8 at VX HA HB ⊢
  generalize w7.heap.size = g1 at VX ⊢
  refine (get_o A n c es key _ HA.out).mono ?_
  rw [← HX.out, ← HG.out]
  rintro e w9 ⟨rfl, hb⟩
  have VX := Lib.hid (VX.out.all hb)
  have HU : Hid (Flt.U64 x.val) := Lib.hid (by rw [HX.out]; exact u64_get es key HA.out.u64)
  have HB := Lib.hid (HB.out.trans (hb.mono HB.out.size)); clear hb
  have x0 : ∀ o, (w9.alloc o).cell? ⟨g1, 0, none⟩ = some (.int .i64 x.key) := fun o => (show Ex (w9.alloc o) g1 x from hbe VX.out).c0
  have x1 : ∀ o, (w9.alloc o).cell? ⟨g1, 1, none⟩ = some (.int .i64 x.num) := fun o => (show Ex (w9.alloc o) g1 x from hbe VX.out).c1
  have x2 : ∀ o, (w9.alloc o).cell? ⟨g1, 2, none⟩ = some (.int .i64 x.node) := fun o => (show Ex (w9.alloc o) g1 x from hbe VX.out).c2
  have x3 : ∀ o, (w9.alloc o).cell? ⟨g1, 3, none⟩ = some (.float .f64 x.val) := fun o => (show Ex (w9.alloc o) g1 x from hbe VX.out).c3
  unfold ev
  go_wp2_with fail
  have HB := Lib.hid (bal HB.out (Nat.le_refl _) (.cells #[.int .i64 x.key, .int .i64 x.num, .int .i64 x.node, .float .f64 x.val] 26))
  clear x0 x1 x2 x3
  generalize w9.alloc (.cells #[.int .i64 x.key, .int .i64 x.num, .int .i64 x.node, .float .f64 x.val] 26) = w10 at HB ⊢
  refine (alike_r x x HU.out HU.out _).mono ?_
  rw [alike_refl]
  rintro e w11 ⟨rfl, hb⟩
  have HB := Lib.hid (HB.out.trans (hb.mono HB.out.size)); clear hb
  go_wp2
  go_ret
  exact ⟨rfl, HB.out⟩
end Go.Proofs.Ytjcpdhekilkhgaa.bookChecks
