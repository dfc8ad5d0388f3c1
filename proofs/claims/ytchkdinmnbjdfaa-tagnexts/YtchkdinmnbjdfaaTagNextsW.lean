/- The walk of TagNexts. -/
import Derived.Test.YtchkdinmnbjdfaaTgA
import Derived.Test.YtchkdinmnbjdfaaRowT
import Derived.Test.YtchkdinmnbjdfaaWf
namespace Go.Proofs.Ytchkdinmnbjdfaa.tagNexts
open Go.RowKit
open Tg Tgw

set_option maxRecDepth 100000 in
set_option maxHeartbeats 2000000 in
theorem walk (w : World) (node : Int) (wn : (Lit.int .i64 node).wf = true) (last : Int) (wl : (Lit.int .i64 last).wf = true)
    (A : Option Addr) (n cc : Nat) (ts : List (Int × Int)) (hn : n = ts.length) (_hc : n ≤ cc) (hr : Rt w w.heap.size A ts) (hw : ∀ t ∈ ts, I2 t) (_hl : cc * 16 ≤ 140737488351232) :
    Calls Try.prog 5 #[.int .i64 node, .int .i64 last, .slice A n cc] w fun e w' => e = .returned (.bool true) ∧ Below w.heap.size w w' := by
  have heq := eq_tag
  have h47 : n * 16 ≤ 140737488355328 := by omega
  have Hn : Hid (I64 node) := Lib.hid (wf_i64 wn)
  have Hl : Hid (I64 last) := Lib.hid (wf_i64 wl)
  clear _hc _hl wn wl
  have HN := Lib.hid hn; clear hn
  have HR := Lib.hid hr; clear hr
  have HW := Lib.hid hw; clear hw
  go_enter Try.func5, Try.ntmps5
  go_wp2_with (at_builtin; refine wp_copyT rfl (.tmp 14) (.tmp 15) rfl w rfl w.heap.size A n cc ts rfl HN.out HR.out (Nat.le_refl _) h47 ?_; intro A2 c2 w2 hr2 hb2 hc2)
  have HB2 := Lib.hid hb2; have HR2 := Lib.hid hr2; have HC2 := Lib.hid hc2
  clear hb2 hr2 hc2
  refine (next_c node last Hn.out Hl.out A2 n c2 ts HN.out (by omega) HC2.out HW.out w2.heap.size _ HR2.out (Nat.le_refl _)).mono ?_
  rintro e w3 ⟨rfl, hb3⟩
  have HB3 := Lib.hid (HB2.out.trans (hb3.mono HB2.out.size)); clear hb3
  obtain ⟨x, hx⟩ : ∃ x, x = gt (next node last ts) := ⟨_, rfl⟩
  obtain ⟨y, hy⟩ : ∃ y, y = ge (next node last ts) := ⟨_, rfl⟩
  rw [← hx, ← hy]
  have HX := Lib.hid hx; have HY := Lib.hid hy
  clear hx hy
  obtain ⟨p, q⟩ := x
  unfold tv
  go_wp2_with fail
  have V1 := Lib.hid (show Tx (w3.alloc (.cells #[.int .i64 p, .int .i64 q] 23)) w3.heap.size p q from hat _ _ _ rfl)
  have HB4 := Lib.hid (bal HB3.out (Nat.le_refl _) (.cells #[.int .i64 p, .int .i64 q] 23))
  generalize w3.alloc (.cells #[.int .i64 p, .int .i64 q] 23) = w4 at V1 HB4 ⊢
  generalize w3.heap.size = g1 at V1 ⊢
  refine (next_r node last A n cc ts HN.out (by omega) w.heap.size _ (HR.out.below HB4.out) HB4.out.size).mono ?_
  rintro e w5 ⟨rfl, hb5⟩
  rw [← HX.out, ← HY.out]
  have V1 := Lib.hid (V1.out.all hb5)
  have HB5 := Lib.hid (HB4.out.trans (hb5.mono HB4.out.size)); clear hb5
  unfold tv
  go_wp2_with fail
  have V1 := Lib.hid (show Tx (w5.alloc (.cells #[.int .i64 p, .int .i64 q] 23)) g1 p q from hbe V1.out)
  have V2 := Lib.hid (show Tx (w5.alloc (.cells #[.int .i64 p, .int .i64 q] 23)) w5.heap.size p q from hat _ _ _ rfl)
  have HB6 := Lib.hid (bal HB5.out (Nat.le_refl _) (.cells #[.int .i64 p, .int .i64 q] 23))
  generalize w5.alloc (.cells #[.int .i64 p, .int .i64 q] 23) = w6 at V1 V2 HB6 ⊢
  generalize w5.heap.size = g2 at V2 ⊢
  refine (alive_c _).mono ?_
  rintro e w7 ⟨rfl, hb7⟩
  have V1 := Lib.hid (V1.out.all hb7)
  have V2 := Lib.hid (V2.out.all hb7)
  have HB7 := Lib.hid (HB6.out.trans (hb7.mono HB6.out.size)); clear hb7
  have a0 := V1.out.c0; have a1 := V1.out.c1
  have b0 := V2.out.c0; have b1 := V2.out.c1
  go_wp2
  go_ret
  exact ⟨rfl, HB7.out⟩
end Go.Proofs.Ytchkdinmnbjdfaa.tagNexts
