/- The walk of ChangeSets. -/
import Derived.Test.YtjmbgajaflcbaaaChgA
import Derived.Test.YtjmbgajaflcbaaaWf
namespace Go.Proofs.Ytjmbgajaflcbaaa.changeSets
open Go.RowKit
open Chg

set_option maxRecDepth 100000 in
theorem walk (w : World) (A : Option Addr) (n c : Nat) (ls : List Int) (hn : n = ls.length) (_hc : n ≤ c) (hr : Rd w w.heap.size A (ls.map (Value.int .i64))) (_hw : ∀ z ∈ ls, (Lit.int .i64 z).wf = true) (_hl : c * 8 ≤ 140737488351232)
    (A1 : Option Addr) (n1 c1 : Nat) (ds : List Int) (hn1 : n1 = ds.length) (_hc1 : n1 ≤ c1) (hr1 : Rd w w.heap.size A1 (ds.map (Value.int .i64))) (_hw1 : ∀ z ∈ ds, (Lit.int .i64 z).wf = true) (_hl1 : c1 * 8 ≤ 140737488351232)
    (name : Int) (hname : (Lit.int .i64 name).wf = true) :
    Calls Try.prog 4 #[.slice A n c, .slice A1 n1 c1, .int .i64 name] w fun e w' => e = .returned (.bool true) ∧ Below w.heap.size w w' := by
  have h47 : n * 8 ≤ 140737488355328 := by omega
  have h471 : n1 * 8 ≤ 140737488355328 := by omega
  have hnm := wf_i64 hname
  clear _hc _hl _hc1 _hl1 _hw _hw1 hname
  have heq := eq_view
  have HN := Lib.hid hn; clear hn
  have HR := Lib.hid hr; clear hr
  have HN1 := Lib.hid hn1; clear hn1
  have HR1 := Lib.hid hr1; clear hr1
  go_enter Try.func4, Try.ntmps4
  go_wp2_with (first
    | (at_builtin; refine wp_copyI rfl (.tmp 16) (.tmp 17) rfl w rfl w.heap.size A n c ls rfl HN.out HR.out (Nat.le_refl _) h47 ?_; intro A2 c2 w2 ho2 hb2; have HO2 := Lib.hid ho2; clear ho2; have HB2 := Lib.hid hb2; clear hb2)
    | (at_builtin; refine wp_copyI rfl (.tmp 19) (.tmp 20) rfl w2 rfl w.heap.size A1 n1 c1 ds rfl HN1.out (HR1.out.below HB2.out) HB2.out.size h471 ?_; intro A3 c3 w3 ho3 hb3; have HO3 := Lib.hid ho3; clear ho3; have HB3 := Lib.hid hb3; clear hb3))
  have hs23 := HB3.out.size
  refine (of_c A2 n c2 ls HN.out (by omega) A3 n1 c3 ds HN1.out (by omega) w3.heap.size _ ((HO2.out.rd.below HB3.out).more hs23) HO3.out.rd (Nat.le_refl _)).mono ?_
  rintro e w4 ⟨rfl, hb4⟩
  have HB4 := Lib.hid (HB2.out.trans ((HB3.out.trans (hb4.mono hs23)).mono HB2.out.size)); clear hb4 HO2 HO3 HB3 hs23 HB2
  have HP : Hid (∃ p1 p2, gv (ofF ls ds) = (p1, p2)) := Lib.hid ⟨_, _, rfl⟩
  have HQ : Hid (∃ p1 p2, gv (namedF name) = (p1, p2)) := Lib.hid ⟨_, _, rfl⟩
  obtain ⟨p1, p2, hp⟩ := HP.out
  obtain ⟨r1, r2, hq⟩ := HQ.out
  have HP := Lib.hid hp; clear hp
  have HQ := Lib.hid hq; clear hq
  unfold vw
  rw [HP.out]
  obtain ⟨v, hv⟩ : ∃ v, v = ge (ofF ls ds) := ⟨_, rfl⟩
  obtain ⟨u, hu⟩ : ∃ u, u = ge (namedF name) := ⟨_, rfl⟩
  rw [← hv]
  have HVv := Lib.hid hv; clear hv
  have HU := Lib.hid hu; clear hu
  go_wp2_with fail
  have V1 := Lib.hid (show Vx (w4.alloc (.cells #[.int .i64 (p1 : Int), .int .i64 (p2 : Int)] 23)) w4.heap.size p1 p2 from hat _ _ _ rfl)
  have HB5 := Lib.hid (bal HB4.out (Nat.le_refl _) (.cells #[.int .i64 (p1 : Int), .int .i64 (p2 : Int)] 23))
  generalize w4.alloc (.cells #[.int .i64 (p1 : Int), .int .i64 (p2 : Int)] 23) = w5 at V1 HB5 ⊢
  generalize w4.heap.size = g1 at V1 ⊢
  clear HB4
  refine (of_r A n c ls HN.out (by omega) A1 n1 c1 ds HN1.out (by omega) w.heap.size _ (HR.out.below HB5.out) (HR1.out.below HB5.out) HB5.out.size).mono ?_
  rintro e w6 ⟨rfl, hb6⟩
  have V1 := Lib.hid (V1.out.below hb6 V1.out.lt)
  have HB6 := Lib.hid (HB5.out.trans (hb6.mono HB5.out.size)); clear hb6
  unfold vw
  rw [HP.out, ← HVv.out]
  go_wp2_with fail
  have V1 := Lib.hid (show Vx (w6.alloc (.cells #[.int .i64 (p1 : Int), .int .i64 (p2 : Int)] 23)) g1 p1 p2 from hbe V1.out)
  have V2 := Lib.hid (show Vx (w6.alloc (.cells #[.int .i64 (p1 : Int), .int .i64 (p2 : Int)] 23)) w6.heap.size p1 p2 from hat _ _ _ rfl)
  have HB7 := Lib.hid (bal HB6.out (Nat.le_refl _) (.cells #[.int .i64 (p1 : Int), .int .i64 (p2 : Int)] 23))
  generalize w6.alloc (.cells #[.int .i64 (p1 : Int), .int .i64 (p2 : Int)] 23) = w7 at V1 V2 HB7 ⊢
  generalize w6.heap.size = g2 at V2 ⊢
  refine (named_c name hnm _).mono ?_
  rintro e w8 ⟨rfl, hb8⟩
  have V1 := Lib.hid (V1.out.below hb8 V1.out.lt)
  have V2 := Lib.hid (V2.out.below hb8 V2.out.lt)
  have HB8 := Lib.hid (HB7.out.trans (hb8.mono HB7.out.size)); clear hb8
  unfold vw
  rw [HQ.out, ← HU.out]
  go_wp2_with fail
  have V1 := Lib.hid (show Vx (w8.alloc (.cells #[.int .i64 (r1 : Int), .int .i64 (r2 : Int)] 23)) g1 p1 p2 from hbe V1.out)
  have V2 := Lib.hid (show Vx (w8.alloc (.cells #[.int .i64 (r1 : Int), .int .i64 (r2 : Int)] 23)) g2 p1 p2 from hbe V2.out)
  have V3 := Lib.hid (show Vx (w8.alloc (.cells #[.int .i64 (r1 : Int), .int .i64 (r2 : Int)] 23)) w8.heap.size r1 r2 from hat _ _ _ rfl)
  have HB9 := Lib.hid (bal HB8.out (Nat.le_refl _) (.cells #[.int .i64 (r1 : Int), .int .i64 (r2 : Int)] 23))
  generalize w8.alloc (.cells #[.int .i64 (r1 : Int), .int .i64 (r2 : Int)] 23) = w9 at V1 V2 V3 HB9 ⊢
  generalize w8.heap.size = g3 at V3 ⊢
  refine (named_r name hnm _).mono ?_
  rintro e w10 ⟨rfl, hb10⟩
  have V1 := Lib.hid (V1.out.below hb10 V1.out.lt)
  have V2 := Lib.hid (V2.out.below hb10 V2.out.lt)
  have V3 := Lib.hid (V3.out.below hb10 V3.out.lt)
  have HB10 := Lib.hid (HB9.out.trans (hb10.mono HB9.out.size)); clear hb10
  unfold vw
  rw [HQ.out, ← HU.out]
  go_wp2_with fail
  have V1 := Lib.hid (show Vx (w10.alloc (.cells #[.int .i64 (r1 : Int), .int .i64 (r2 : Int)] 23)) g1 p1 p2 from hbe V1.out)
  have V2 := Lib.hid (show Vx (w10.alloc (.cells #[.int .i64 (r1 : Int), .int .i64 (r2 : Int)] 23)) g2 p1 p2 from hbe V2.out)
  have V3 := Lib.hid (show Vx (w10.alloc (.cells #[.int .i64 (r1 : Int), .int .i64 (r2 : Int)] 23)) g3 r1 r2 from hbe V3.out)
  have V4 := Lib.hid (show Vx (w10.alloc (.cells #[.int .i64 (r1 : Int), .int .i64 (r2 : Int)] 23)) w10.heap.size r1 r2 from hat _ _ _ rfl)
  have HB11 := Lib.hid (bal HB10.out (Nat.le_refl _) (.cells #[.int .i64 (r1 : Int), .int .i64 (r2 : Int)] 23))
  generalize w10.alloc (.cells #[.int .i64 (r1 : Int), .int .i64 (r2 : Int)] 23) = w11 at V1 V2 V3 V4 HB11 ⊢
  generalize w10.heap.size = g4 at V4 ⊢
  refine (alive_c _).mono ?_
  rintro e w12 ⟨rfl, hb12⟩
  have V1 := V1.out.below hb12 V1.out.lt
  have V2 := V2.out.below hb12 V2.out.lt
  have V3 := V3.out.below hb12 V3.out.lt
  have V4 := V4.out.below hb12 V4.out.lt
  have HB12 := Lib.hid (HB11.out.trans (hb12.mono HB11.out.size)); clear hb12
  have a0 := V1.c0; have a1 := V1.c1; have b0 := V2.c0; have b1 := V2.c1; have d0 := V3.c0; have d1 := V3.c1; have e0 := V4.c0; have e1 := V4.c1
  clear V1 V2 V3 V4
  go_wp2
  go_ret
  exact ⟨rfl, HB12.out⟩
end Go.Proofs.Ytjmbgajaflcbaaa.changeSets
