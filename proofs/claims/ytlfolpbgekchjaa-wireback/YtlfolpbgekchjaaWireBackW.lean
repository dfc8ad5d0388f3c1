/- The walk of WireBack. -/
import Derived.Test.YtlfolpbgekchjaaWireF
import Derived.Deep.DeepCutAuto
namespace Go.Proofs.Ytlfolpbgekchjaa.wireBack
open Go.RowKit
open Wire

theorem flat_len (ns : List Nat) : (ns.flatMap form).length ≤ 9 * ns.length := by
  induction ns with
  | nil => simp
  | cons x ns ih => rw [List.flatMap_cons, List.length_append, form_len, List.length_cons]; have := sz_le x; omega

set_option maxRecDepth 100000 in
theorem walk (w : World) (A : Option Addr) (n c : Nat) (ns : List Nat) (hn : n = ns.length) (_hc : n ≤ c) (hr : Rd w w.heap.size A (ns.map N64)) (hw : ∀ x ∈ ns, x < 256 ^ 8) (_hl : c * 8 ≤ 140737488351232)
    (A1 : Option Addr) (n1 c1 : Nat) (ts : List UInt8) (hn1 : n1 = ts.length) (_hc1 : n1 ≤ c1) (hr1 : Rd w w.heap.size A1 (ts.map B8)) (_hl1 : c1 * 1 ≤ 140737488351232)
    (A2 : Option Addr) (n2 c2 : Nat) (ms : List UInt8) (hn2 : n2 = ms.length) (_hc2 : n2 ≤ c2) (hr2 : Rd w w.heap.size A2 (ms.map B8)) (_hl2 : c2 * 1 ≤ 140737488351232) :
    Calls Try.prog 6 #[.slice A n c, .slice A1 n1 c1, .slice A2 n2 c2] w fun e w' => e = .returned (.bool true) ∧ Below w.heap.size w w' := by
  have h47 : n ≤ 140737488355328 := by omega
  have h471 : n1 ≤ 140737488355328 := by omega
  have h472 : n2 ≤ 140737488355328 := by omega
  have hb4 : 0 + 4009 ≤ big := by unfold big; omega
  have hb6 : 20000 ≤ big := by unfold big; omega
  clear _hc _hl _hc1 _hl1 _hc2 _hl2
  have HN := Lib.hid hn; clear hn
  have HR := Lib.hid hr; clear hr
  have HW : Hid (∀ x ∈ ns, W64 x) := hw
  clear hw
  have HN1 := Lib.hid hn1; clear hn1
  have HR1 := Lib.hid hr1; clear hr1
  have HN2 := Lib.hid hn2; clear hn2
  have HR2 := Lib.hid hr2; clear hr2
  go_enter Try.func6, Try.ntmps6
  go_wp2_with fail
  refine (alive_c _).mono ?_
  rintro e w1 ⟨rfl, hb1⟩
  have hs1 := hb1.size
  have HB1 := Lib.hid hb1; clear hb1
  by_cases h100 : 100 < n
  · go_wp2
    go_ret
    exact ⟨rfl, HB1.out⟩
  by_cases h5 : 5000 < n2
  · go_wp2
    go_ret
    exact ⟨rfl, HB1.out⟩
  go_wp2_with fail
  refine (put_c _ _ _ [] rfl _ _ _ ns HN.out HW.out w.heap.size _ Rd.nil (HR.out.below HB1.out) hs1 (by show 0 + 9 * n ≤ big; omega)).mono ?_
  rintro e w3 ⟨A3, n3, c3, rfl, ho3, hb3⟩
  rw [List.nil_append] at ho3
  have hn3 : n3 ≤ 900 := by have e1 := ho3.1; have := flat_len ns; have := HN.out; omega
  have HO3 := Lib.hid ho3; clear ho3
  have hs13 : w1.heap.size ≤ w3.heap.size := hb3.size
  have HB3 := Lib.hid (HB1.out.trans (hb3.mono hs1)); clear hb3
  go_wp2_with (at_builtin; refine wp_app8 rfl (.tmp 26) (.tmp 27) rfl w1.heap.size A3 n3 c3 _ rfl HO3.out w.heap.size A2 n2 c2 ms rfl HN2.out (HR2.out.below HB3.out) (by omega) hs13 ?_; intro A4 c4 w4 ho4 hb4)
  have HB4 := Lib.hid (HB3.out.trans (hb4.mono hs1)); clear hb4
  have hg : getsI (n : Int) (ns.flatMap form ++ ms) = some (ns, ms) := by
    unfold getsI
    rw [if_neg (by omega), Int.toNat_natCast, HN.out]
    exact getsF_form ns ms HW.out
  refine (gets_c _ _ _ (n : Int) _ ho4.1 ho4.cap w4.heap.size _ ho4.rd (Nat.le_refl _) (by omega)).mono ?_
  rintro e w5 ⟨hb5, h5'⟩
  rw [hg] at h5'
  obtain ⟨A5, n5, c5, A6, n6, c6, rfl, ho5, ho6⟩ := h5'
  clear hg ho4
  have HB5 := Lib.hid (HB4.out.trans (hb5.mono HB4.out.size)); clear hb5
  have HO5 := Lib.hid ho5; clear ho5
  have HO6 := Lib.hid ho6; clear ho6
  have hs5 := HB5.out.size
  go_wp2_with fail
  refine (samenums_c _ _ _ ns HO5.out.1 _ _ _ ns HN.out w5.heap.size _ HO5.out.rd ((HR.out.below HB5.out).more hs5) (by rw [HO5.out.1, ← HN.out]; omega)).mono ?_
  rintro e w6 ⟨rfl, k6, rfl⟩
  rw [decide_eq_true rfl]
  have hcv6 := str8 c6 HO6.out.rd HO6.out.1
  have hcv2 := str8 c2 (HR2.out.below HB5.out) HN2.out
  have HB6 := Lib.hid (HB5.out.trans (below_drewN _ _ k6))
  have hs6 : w.heap.size ≤ (w5.drewN k6).heap.size := hs5
  go_wp2_with fail
  refine (text_c _ _ _ [] rfl _ _ _ ts HN1.out w.heap.size _ Rd.nil (HR1.out.below HB6.out) hs6 hb4).mono ?_
  rintro e w7 ⟨hb7, h7⟩
  have HB7 := Lib.hid (HB6.out.trans (hb7.mono hs6)); clear hb7 hcv6 hcv2
  rcases h7 with ⟨h4, rfl⟩ | ⟨h4, A7, n7, c7, rfl, ho7⟩
  · have h4' : 4000 < n1 := by rw [HN1.out]; exact h4
    go_wp2
    go_ret
    exact ⟨congrArg (fun b => Ending.returned (.bool b)) (decide_eq_true (by omega)), HB7.out⟩
  · have hs7 := HB7.out.size
    have hn7 : n7 ≤ 4009 := by
      have e1 := ho7.1
      have e2 := form_len ts.length
      have e3 := sz_le ts.length
      simp only [textF, List.length_append, List.length_nil] at e1
      omega
    have HO7 := Lib.hid (ho7.base (base' := w.heap.size) hs6); clear ho7
    go_wp2_with (at_builtin; refine wp_app8 rfl (.tmp 63) (.tmp 64) rfl w.heap.size A7 n7 c7 _ rfl HO7.out w.heap.size A2 n2 c2 ms rfl HN2.out (HR2.out.below HB7.out) (by omega) hs7 ?_; intro A8 c8 w8 ho8 hb8)
    have HB8 := Lib.hid (HB7.out.trans hb8); clear hb8
    have hs8 := HB8.out.size
    refine (cut_c _ _ _ _ ho8.1 ho8.cap w8.heap.size _ ho8.rd (Nat.le_refl _) (by omega)).mono ?_
    rintro e w9 ⟨hb9, h9⟩
    rw [cutF_text h4] at h9
    obtain ⟨A9, n9, c9, A10, n10, c10, rfl, ho9, ho10⟩ := h9
    have HB9 := Lib.hid (HB8.out.trans (hb9.mono hs8)); clear hb9 ho8
    have hcv9 := str8' c9 ho9.rd ho9.1
    have hcv10 := str8' c10 ho10.rd ho10.1
    have hcv1 := str8' c1 (HR1.out.below HB9.out) HN1.out
    have hcv2 := str8' c2 (HR2.out.below HB9.out) HN2.out
    clear ho9 ho10
    go_wp2
    go_ret
    exact ⟨rfl, HB9.out⟩
end Go.Proofs.Ytlfolpbgekchjaa.wireBack
