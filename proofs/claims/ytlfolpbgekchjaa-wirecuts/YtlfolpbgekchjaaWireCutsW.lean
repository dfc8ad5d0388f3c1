/- The walk of WireCuts. -/
import Derived.Test.YtlfolpbgekchjaaWireF
import Derived.Deep.DeepCutAuto
namespace Go.Proofs.Ytlfolpbgekchjaa.wireCuts
open Go.RowKit
open Wire

/-- a form, cut off anywhere, isn't read -/
theorem take_cut (v k : Nat) (hv : W64 v) (hk : k < (form v).length) : takeF ((form v).take k) = none := by
  cases ht : takeF ((form v).take k) with
  | none => rfl
  | some x =>
    obtain ⟨u, r⟩ := x
    have h1 := takeF_some ht
    have h2 : form v = form u ++ (r ++ (form v).drop k) := by rw [← List.append_assoc, ← h1.2, List.take_append_drop]
    have h3 := takeF_form v [] hv
    rw [List.append_nil, h2, takeF_form u _ h1.1] at h3
    simp only [Option.some.injEq, Prod.mk.injEq] at h3
    have h4 : ((form v).drop k).length = 0 := by have := congrArg List.length h3.2; simp at this ⊢; omega
    rw [List.length_drop] at h4
    omega
/-- a text, cut off anywhere, isn't read -/
theorem cut_cut (t : List UInt8) (k : Nat) (ht : t.length ≤ 4000) (hk : k < (textF [] t).length) : cutF ((textF [] t).take k) = none := by
  cases hc : cutF ((textF [] t).take k) with
  | none => rfl
  | some x =>
    obtain ⟨u, r⟩ := x
    have h1 := cutF_some hc
    have h2 : textF [] t = textF [] u ++ (r ++ (textF [] t).drop k) := by rw [← List.append_assoc, ← h1.2, List.take_append_drop]
    have h3 := cutF_text (r := []) ht
    rw [List.append_nil, h2, cutF_text h1.1] at h3
    simp only [Option.some.injEq, Prod.mk.injEq] at h3
    have h4 : ((textF [] t).drop k).length = 0 := by have := congrArg List.length h3.2; simp at this ⊢; omega
    rw [List.length_drop] at h4
    omega

set_option maxRecDepth 100000 in
theorem walk (w : World) (v : Int) (wv : (Lit.int .u64 v).wf = true) (A : Option Addr) (n c : Nat) (ts : List UInt8) (hn : n = ts.length) (_hc : n ≤ c) (hr : Rd w w.heap.size A (ts.map B8)) (_hl : c * 1 ≤ 140737488351232) (cut : Int) (_wcut : (Lit.int .i64 cut).wf = true) :
    Calls Try.prog 8 #[.int .u64 v, .slice A n c, .int .i64 cut] w fun e w' => e = .returned (.bool true) ∧ Below w.heap.size w w' := by
  have hx : 0 ≤ v ∧ v ≤ 18446744073709551615 := by simpa [Lit.wf, IntKind.min, IntKind.max, IntKind.signed, IntKind.bits] using wv
  obtain ⟨v, rfl⟩ := Int.eq_ofNat_of_zero_le hx.1
  have HV : Hid (W64 v) := by show W64 v; unfold W64; omega
  clear wv hx _hl _wcut _hc
  have hb9 : 9 ≤ big := by unfold big; omega
  have hb4 : 0 + 4009 ≤ big := by unfold big; omega
  have HN := Lib.hid hn; clear hn
  have HR := Lib.hid hr; clear hr
  go_enter Try.func8, Try.ntmps8
  go_wp2_with fail
  refine (alive_c _).mono ?_
  rintro e w1 ⟨rfl, hb1⟩
  have hs1 := hb1.size
  have HB1 := Lib.hid hb1; clear hb1
  go_wp2_with fail
  refine (put_c _ _ _ [] rfl _ _ _ [v] rfl (by intro x hx; simp at hx; subst hx; exact HV.out) (w1.heap.size + 1) _ Rd.nil (rd_num w1 _ _ rfl) (by simp) (by simpa using hb9)).mono ?_
  rintro e w2 ⟨A2, n2, c2, rfl, ho2, hb2⟩
  have ho2' : Own w2 w1.heap.size A2 n2 c2 (form v) := by have := ho2.base (base' := w1.heap.size) (by simp); simpa using this
  have hb2' : Below w1.heap.size w1 w2 := ((Below.refl _ _).alloc (Nat.le_refl _) _).trans (hb2.mono (by simp))
  clear ho2 hb2
  have hc2 := ho2'.cap
  have hn2 : n2 = (form v).length := ho2'.1
  have HN2 := Lib.hid hn2; clear hn2
  have HO2 := Lib.hid ho2'; clear ho2'
  have HB2 := Lib.hid (HB1.out.trans (hb2'.mono hs1)); clear hb2'
  have hs2 := HB2.out.size
  go_upto_region 4 with (fail)
  go_cut [28] (fun s wq => s = .bool (decide (0 ≤ cut ∧ cut < (n2 : Int))) ∧ wq = w2)
  case first =>
    by_cases h0 : 0 ≤ cut
    · go_wp2
      go_meet
      case rel => exact ⟨by congr 1; simp [h0], rfl⟩
    · go_wp2
      go_meet
      case rel => exact ⟨by rw [decide_eq_false (by omega)], rfl⟩
  case rest =>
    obtain ⟨rfl, rfl⟩ := hcut
    go_upto_if 28 with (fail)
    go_cut [] (fun wq => Below w.heap.size w wq)
    case first =>
      by_cases hcond : 0 ≤ cut ∧ cut < (n2 : Int)
      · obtain ⟨k, rfl⟩ := Int.eq_ofNat_of_zero_le hcond.1
        have hk : k < n2 := by omega
        have hd : decide (0 ≤ (k : Int) ∧ (k : Int) < (n2 : Int)) = true := decide_eq_true hcond
        obtain ⟨A3, hs3, hr3⟩ := run_upto Try.underlying23 size8 A2 n2 c2 k (k : Int) .i64 rfl (by omega)
        have HR3 : Hid (Rd wc wc.heap.size A3 (((form v).take k).map B8)) := by rw [List.map_take]; exact hr3 wc _ _ (HO2.out.rd.take k)
        have HL3 : Hid (k = ((form v).take k).length) := by show _ = _; rw [List.length_take, ← HN2.out]; omega
        have hkb : k ≤ big := by have := form_len v; have := sz_le v; have := HN2.out; omega
        have HT := Lib.hid (take_cut v k HV.out (by rw [← HN2.out]; exact hk))
        clear hr3 hcond
        go_wp2_with (at_builtin; refine wp_copy8 rfl (.tmp 30) (.tmp 33) rfl wc rfl wc.heap.size A3 k c2 ((form v).take k) rfl HL3.out HR3.out (Nat.le_refl _) hkb ?_; intro A4 c4 w4 ho4 hb4)
        have HB4 := Lib.hid (HB2.out.trans (hb4.mono hs2)); clear hb4
        refine (get_c _ _ _ _ HL3.out ho4.cap w4.heap.size _ ho4.rd (Nat.le_refl _) hkb).mono ?_
        rintro e w5 ⟨hb5, h5⟩
        rw [HT.out] at h5
        have h5' : e = .returned (.tuple #[.int .u64 0, .slice none 0 0, .int .i64 21]) := h5
        clear h5 ho4
        subst h5'
        have HB5 := Lib.hid (HB4.out.trans (hb5.mono HB4.out.size)); clear hb5
        go_wp2
        go_meet
        case rel => exact HB5.out
      · have hd : decide (0 ≤ cut ∧ cut < (n2 : Int)) = false := decide_eq_false hcond
        go_wp2
        go_meet
        case rel => exact HB2.out
    case rest =>
      clear HO2 HB2 hs2
      have hs2 := hcut.size
      have HB2 := Lib.hid hcut; clear hcut
      go_wp2_with fail
      refine (text_c _ _ _ [] rfl _ _ _ ts HN.out w.heap.size _ Rd.nil (HR.out.below HB2.out) HB2.out.size hb4).mono ?_
      rintro e w6 ⟨hb6, h6⟩
      have HB6 := Lib.hid (HB2.out.trans (hb6.mono hs2)); clear hb6
      rcases h6 with ⟨_, rfl⟩ | ⟨h4, A6, n6, c6, rfl, ho6⟩
      · go_wp2
        go_ret
        exact ⟨rfl, HB6.out⟩
      · have hc6 := ho6.cap
        have hn6 : n6 = (textF [] ts).length := ho6.1
        have HN6 := Lib.hid hn6; clear hn6
        have HO6 := Lib.hid ho6; clear ho6
        by_cases h0 : cut < 0
        · go_wp2
          go_ret
          exact ⟨rfl, HB6.out⟩
        · obtain ⟨k, rfl⟩ := Int.eq_ofNat_of_zero_le (show 0 ≤ cut by omega)
          by_cases hk : n6 ≤ k
          · go_wp2
            go_ret
            exact ⟨rfl, HB6.out⟩
          · have hk' : k < n6 := by omega
            obtain ⟨A7, hs7, hr7⟩ := run_upto Try.underlying23 size8 A6 n6 c6 k (k : Int) .i64 rfl (by omega)
            have HR7 : Hid (Rd w6 w6.heap.size A7 (((textF [] ts).take k).map B8)) := by rw [List.map_take]; exact hr7 w6 _ _ (HO6.out.rd.take k)
            have HL7 : Hid (k = ((textF [] ts).take k).length) := by show _ = _; rw [List.length_take, ← HN6.out]; omega
            have hkb : k ≤ big := by
              have e1 := HN6.out
              have e2 := form_len ts.length
              have e3 := sz_le ts.length
              simp only [textF, List.length_append, List.length_nil] at e1
              omega
            have HT := Lib.hid (cut_cut ts k h4 (by rw [← HN6.out]; exact hk'))
            clear hr7
            go_wp2_with (at_builtin; refine wp_copy8 rfl (.tmp 68) (.tmp 71) rfl w6 rfl w6.heap.size A7 k c6 ((textF [] ts).take k) rfl HL7.out HR7.out (Nat.le_refl _) hkb ?_; intro A8 c8 w8 ho8 hb8)
            have HB8 := Lib.hid (HB6.out.trans (hb8.mono HB6.out.size)); clear hb8
            refine (cut_c _ _ _ _ HL7.out ho8.cap w8.heap.size _ ho8.rd (Nat.le_refl _) hkb).mono ?_
            rintro e w9 ⟨hb9, h9⟩
            rw [HT.out] at h9
            have h9' : e = .returned (.tuple #[.slice none 0 0, .slice none 0 0, .int .i64 21]) := h9
            clear h9 ho8
            subst h9'
            have HB9 := Lib.hid (HB8.out.trans (hb9.mono HB8.out.size)); clear hb9
            go_wp2
            go_ret
            exact ⟨rfl, HB9.out⟩
end Go.Proofs.Ytlfolpbgekchjaa.wireCuts
