/- The walk of WireLong. -/
import Derived.Test.YtlfolpbgekchjaaWireF
import Derived.WalkLawsBesides
import Derived.Deep.DeepCutAuto
namespace Go.Proofs.Ytlfolpbgekchjaa.wireLong
open Go.RowKit
open Wire

theorem flat_len (ns : List Nat) : (ns.flatMap form).length ≤ 9 * ns.length := by
  induction ns with
  | nil => simp
  | cons x ns ih => rw [List.flatMap_cons, List.length_append, form_len, List.length_cons]; have := sz_le x; omega

/-- one number alone -/
theorem put1 (w0 : World) (v : Nat) (hv : W64 v) : Calls Try.prog 12 #[.slice none 0 0, .slice (some ⟨w0.heap.size, 0, none⟩) 1 1] (w0.alloc (.cells #[.int .u64 v] 22)) fun e w' => ∃ A n c, e = .returned (.slice A n c) ∧ Own w' w0.heap.size A n c (form v) ∧ Below w0.heap.size w0 w' := by
  refine (put_c _ _ _ [] rfl _ _ _ [v] rfl (by intro x hx; simp at hx; subst hx; exact hv) (w0.heap.size + 1) _ Rd.nil (rd_num w0 _ _ rfl) (by simp) (by show 0 + 9 * 1 ≤ big; unfold big; omega)).mono ?_
  rintro e w2 ⟨A2, n2, c2, rfl, ho2, hb2⟩
  refine ⟨A2, n2, c2, rfl, ?_, ((Below.refl _ _).alloc (Nat.le_refl _) _).trans (hb2.mono (by simp))⟩
  have := ho2.base (base' := w0.heap.size) (by simp)
  simpa using this

set_option maxRecDepth 100000 in
theorem walk (w : World) (a : Int) (wa : (Lit.int .u64 a).wf = true) (b : Int) (wb : (Lit.int .u64 b).wf = true) (A : Option Addr) (n c : Nat) (ns : List Nat) (hn : n = ns.length) (_hc : n ≤ c) (hr : Rd w w.heap.size A (ns.map N64)) (hw : ∀ x ∈ ns, x < 256 ^ 8) (_hl : c ≤ 1048576) :
    Calls Try.prog 9 #[.int .u64 a, .int .u64 b, .slice A n c] w fun e w' => e = .returned (.bool true) ∧ Below w.heap.size w w' := by
  have hx : 0 ≤ a ∧ a ≤ 18446744073709551615 := by simpa [Lit.wf, IntKind.min, IntKind.max, IntKind.signed, IntKind.bits] using wa
  have hy : 0 ≤ b ∧ b ≤ 18446744073709551615 := by simpa [Lit.wf, IntKind.min, IntKind.max, IntKind.signed, IntKind.bits] using wb
  obtain ⟨a, rfl⟩ := Int.eq_ofNat_of_zero_le hx.1
  obtain ⟨b, rfl⟩ := Int.eq_ofNat_of_zero_le hy.1
  have HA : Hid (W64 a) := by show W64 a; unfold W64; omega
  have HBW : Hid (W64 b) := by show W64 b; unfold W64; omega
  have hnn : n ≤ 1048576 := by omega
  clear wa wb hx hy _hc _hl
  have hb9 : 20000000 ≤ big := by unfold big; omega
  have HN := Lib.hid hn; clear hn
  have HR := Lib.hid hr; clear hr
  have HW : Hid (∀ x ∈ ns, W64 x) := hw
  clear hw
  go_enter Try.func9, Try.ntmps9
  go_wp2_with fail
  refine (alive_c _).mono ?_
  rintro e w1 ⟨rfl, hb1⟩
  have hs1 := hb1.size
  have HB1 := Lib.hid hb1; clear hb1
  go_upto_region 3 with (fail)
  go_cut [7, 8] (fun s7 s8 wq => ∃ (A3 : Option Addr) (n3 c3 : Nat) (A4 : Option Addr) (n4 c4 : Nat) (x : Nat), s7 = .slice A3 n3 c3 ∧ s8 = .slice A4 n4 c4 ∧ Own wq w.heap.size A3 n3 c3 (form x) ∧ n3 ≤ n4 ∧ n4 ≤ 9 ∧ Below w.heap.size w wq)
  case first =>
    have key : ∀ x y : Nat, W64 x → W64 y → x ≤ y → ∀ (A3 A4 : Option Addr) (n3 c3 n4 c4 : Nat) (w3 w4 : World), Own w3 w1.heap.size A3 n3 c3 (form x) → Below w1.heap.size w1 w3 → Own w4 w3.heap.size A4 n4 c4 (form y) → Below w3.heap.size w3 w4 →
        Own w4 w.heap.size A3 n3 c3 (form x) ∧ n3 ≤ n4 ∧ n4 ≤ 9 ∧ Below w.heap.size w w4 := by
      intro x y hx hy hxy A3 A4 n3 c3 n4 c4 w3 w4 o3 b3 o4 b4
      have e3 := o3.1
      have e4 := o4.1
      rw [form_len] at e3 e4
      have m := sz_mono x y hy hxy
      have l := sz_le y
      have b13 := HB1.out.trans (b3.mono hs1)
      exact ⟨(o3.below b4 (Nat.le_refl _)).base hs1, by omega, by omega, b13.trans (b4.mono b13.size)⟩
    have HKEY := Lib.hid key; clear key
    rcases Nat.lt_trichotomy b a with hab | hab | hab
    · go_wp2_with fail
      refine (put1 w1 b HBW.out).mono ?_
      rintro e w3 ⟨A3, n3, c3, rfl, ho3, hb3⟩
      have HO3 := Lib.hid ho3; clear ho3
      have HB3 := Lib.hid hb3; clear hb3
      go_wp2_with fail
      refine (put1 w3 a HA.out).mono ?_
      rintro e w4 ⟨A4, n4, c4, rfl, ho4, hb4⟩
      have HF := Lib.hid (HKEY.out b a HBW.out HA.out (by omega) A3 A4 n3 c3 n4 c4 w3 w4 HO3.out HB3.out ho4 hb4); clear ho4 hb4
      go_wp2
      go_meet
      case rel => exact ⟨A3, n3, c3, A4, n4, c4, b, rfl, rfl, HF.out⟩
    · subst hab
      go_wp2_with fail
      refine (put1 w1 b HA.out).mono ?_
      rintro e w3 ⟨A3, n3, c3, rfl, ho3, hb3⟩
      have HO3 := Lib.hid ho3; clear ho3
      have HB3 := Lib.hid hb3; clear hb3
      go_wp2_with fail
      refine (put1 w3 b HA.out).mono ?_
      rintro e w4 ⟨A4, n4, c4, rfl, ho4, hb4⟩
      have HF := Lib.hid (HKEY.out b b HA.out HA.out (Nat.le_refl _) A3 A4 n3 c3 n4 c4 w3 w4 HO3.out HB3.out ho4 hb4); clear ho4 hb4
      go_wp2
      go_meet
      case rel => exact ⟨A3, n3, c3, A4, n4, c4, b, rfl, rfl, HF.out⟩
    · go_wp2_with fail
      refine (put1 w1 a HA.out).mono ?_
      rintro e w3 ⟨A3, n3, c3, rfl, ho3, hb3⟩
      have HO3 := Lib.hid ho3; clear ho3
      have HB3 := Lib.hid hb3; clear hb3
      go_wp2_with fail
      refine (put1 w3 b HBW.out).mono ?_
      rintro e w4 ⟨A4, n4, c4, rfl, ho4, hb4⟩
      have HF := Lib.hid (HKEY.out a b HA.out HBW.out (Nat.le_of_lt hab) A3 A4 n3 c3 n4 c4 w3 w4 HO3.out HB3.out ho4 hb4); clear ho4 hb4
      go_wp2
      go_meet
      case rel => exact ⟨A3, n3, c3, A4, n4, c4, a, rfl, rfl, HF.out⟩
  case rest =>
    obtain ⟨A3, n3, c3, A4, n4, c4, x, rfl, rfl, ho3, h34, h49, hbc⟩ := hcut
    have h31 : 1 ≤ n3 := by have e3 := ho3.1; rw [form_len] at e3; omega
    have HO3 := Lib.hid ho3; clear ho3
    have hsc := hbc.size
    have HBC := Lib.hid hbc; clear hbc
    go_wp2_with fail
    refine (put_c _ _ _ (form x) HO3.out.1 _ _ _ ns HN.out HW.out wc.heap.size _ HO3.out.rd ((HR.out.below HBC.out).more hsc) (Nat.le_refl _) (by omega)).mono ?_
    rintro e w5 ⟨A5, n5, c5, rfl, ho5, hb5⟩
    have hn5 : n5 ≤ n3 + 9 * n := by have e5 := ho5.1; rw [List.length_append, ← HO3.out.1] at e5; have := flat_len ns; have := HN.out; omega
    have HO5 := Lib.hid ho5; clear ho5
    have HB5 := Lib.hid hb5; clear hb5
    have hs5 := HB5.out.size
    have HX : Hid (Rd w5 w5.heap.size A3 ((form x).map B8)) := (HO3.out.rd.below HB5.out).more hs5
    go_wp2_with fail
    go_loopw [10, 46] (fun v i wr => ∃ (A' : Option Addr) (n' c' k : Nat), v = .slice A' n' c' ∧ i = .int .i64 k ∧ k ≤ n ∧ n' = (form x ++ (ns.take k).flatMap form).length ∧ Rd wr wr.heap.size A' ((form x ++ (ns.take k).flatMap form).map B8) ∧ Below w5.heap.size w5 wr)
      (fun _ i _ => n - (intOf i).toNat)
    case atStart => exact ⟨A3, n3, c3, 0, rfl, rfl, Nat.zero_le _, by simpa using HO3.out.1, by simpa using HX.out, Below.refl _ _⟩
    case round =>
      obtain ⟨A', n', c', k, rfl, rfl, hk, hn', hr', hb'⟩ := hrel
      have hn9 : n' ≤ n3 + 9 * k := by
        have := flat_len (ns.take k)
        rw [List.length_append, ← HO3.out.1] at hn'
        have : (ns.take k).length ≤ k := List.length_take_le _ _
        omega
      have HN' := Lib.hid hn'; clear hn'
      have HR' := Lib.hid hr'; clear hr'
      have hsr := hb'.size
      have HB' := Lib.hid hb'; clear hb'
      by_cases hlt : k < n
      · obtain ⟨b, o, rfl, hbB, hcell⟩ := HR.out (by rw [List.length_map, ← HN.out]; omega)
        have hkl : k < ns.length := by rw [← HN.out]; exact hlt
        have hx : ns[k]? = some ns[k] := List.getElem?_eq_getElem hkl
        have hc0 := hcell k (N64 ns[k]) (by simp [hkl])
        have hwx := HW.out ns[k] (List.getElem_mem hkl)
        generalize ns[k] = y at hx hc0 hwx
        have hcx : wr.cell? ⟨b, o + k, none⟩ = some (.int .u64 (y : Int)) :=
          (HB'.out.cell (by show b < _; omega)).trans ((HB5.out.cell (by show b < _; omega)).trans ((HBC.out.cell (by show b < _; omega)).trans hc0))
        have HX' := Lib.hid hx
        have HWX := Lib.hid hwx
        clear hx hc0 hwx hcell hkl
        go_wp2_with fail
        refine (put_c _ _ _ _ HN'.out _ _ _ [y] rfl (by intro z hz; simp at hz; subst hz; exact HWX.out) (wr.heap.size + 1) _ ((HR'.out.below ((Below.refl _ _).alloc (Nat.le_refl _) _)).more (by omega)) (rd_num wr _ _ rfl) (by simp) (by show n' + 9 * 1 ≤ big; omega)).mono ?_
        rintro e w6 ⟨A6, n6, c6, rfl, ho6, hb6⟩
        have ho6' : Own w6 (wr.alloc (.cells #[.int .u64 (y : Int)] 22)).heap.size A6 n6 c6 (form x ++ (ns.take (k + 1)).flatMap form) := by
          rw [take_flat _ _ _ HX'.out, ← List.append_assoc]
          simpa using ho6
        have hb6' := HB'.out.trans ((((Below.refl wr.heap.size wr).alloc (Nat.le_refl _) _).trans (hb6.mono (by simp))).mono hsr)
        have HO6 := Lib.hid ho6'; clear ho6 ho6' hb6
        have HB6 := Lib.hid hb6'; clear hb6'
        go_wp2
        exact ⟨⟨A6, n6, c6, k + 1, rfl, by go_num, by omega, HO6.out.1, HO6.out.rd, HB6.out⟩, by simp [intOf]; omega⟩
      · obtain rfl : k = n := by omega
        have e1 := HN'.out
        have e2 := HR'.out
        rw [List.take_of_length_le (by rw [HN.out]; exact Nat.le_refl _)] at e1 e2
        have hcv5 := str8' c5 (HO5.out.rd.below HB'.out) HO5.out.1
        have hcv' := str8' c' e2 e1
        have HBF := Lib.hid (HBC.out.trans ((HB5.out.trans (HB'.out.mono hs5)).mono hsc))
        have hle : (n5 : Int) ≤ (n3 : Int) + 9 * (k : Int) := by omega
        clear e1 e2
        go_wp2
        go_ret
        exact ⟨rfl, HBF.out⟩
end Go.Proofs.Ytlfolpbgekchjaa.wireLong
