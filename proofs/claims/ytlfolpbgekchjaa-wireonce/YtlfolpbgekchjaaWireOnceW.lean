/- The walk of WireOnce. -/
import Derived.Test.YtlfolpbgekchjaaWireF
import Derived.Deep.RegionHeld3
import Derived.Deep.DeepCutAuto
namespace Go.Proofs.Ytlfolpbgekchjaa.wireOnce
open Go.RowKit
open Wire

theorem add_str (a b : List UInt8) (h : a.length + b.length ≤ 9223372036854775807) (w : World) : (Op.stringOp .add (str a) (str b)).run Try.prog w = .ok (.string (str (a ++ b))) w := by
  rw [run_string_add_sum (P := Try.prog) w _ _ (by rw [str_size, str_size]; exact h)]
  congr 2

set_option maxHeartbeats 2000000 in
theorem walk (w : World) (A : Option Addr) (n c : Nat) (bs : List UInt8) (hn : n = bs.length) (hc : n ≤ c) (hr : Rd w w.heap.size A (bs.map B8)) (hl : c * 1 ≤ 140737488351232) :
    Calls Try.prog 7 #[.slice A n c] w fun e w' => e = .returned (.bool true) ∧ Below w.heap.size w w' := by
  have hb : n ≤ big := by unfold big; omega
  have h47 : bs.length ≤ 140737488355328 := by omega
  have HN := Lib.hid hn; clear hn
  have HR := Lib.hid hr; clear hr hl
  have hb9 : 9 ≤ big := by unfold big; omega
  go_enter Try.func7, Try.ntmps7
  go_wp2_with fail
  refine (alive_c _).mono ?_
  rintro e w1 ⟨rfl, hb1⟩
  have hs1 := hb1.size
  have HB1 := Lib.hid hb1; clear hb1
  go_wp2_with (at_builtin; refine wp_copy8 rfl (.tmp 13) (.tmp 14) rfl w1 rfl w.heap.size A n c bs rfl HN.out (HR.out.below HB1.out) hs1 hb ?_; intro A2 c2 w2 ho2 hb2)
  have HB2 := Lib.hid (HB1.out.trans (hb2.mono hs1)); clear hb2
  refine (get_c _ _ _ bs HN.out ho2.cap w2.heap.size _ ho2.rd (Nat.le_refl _) hb).mono ?_
  intro e w3 h3
  clear ho2
  obtain ⟨A3, n3, c3, rfl, hn3, _, hr3, hb3⟩ := h3.flat
  have HR3 := Lib.hid hr3; clear hr3 h3
  have HN3 := Lib.hid hn3; clear hn3
  have HB3 := Lib.hid (HB2.out.trans (hb3.mono HB2.out.size)); clear hb3
  have hs3 := HB3.out.size
  go_wp2
  go_cut [33] (fun s wq => s = .bool false ∧ Below w.heap.size w wq)
  case first =>
    cases ht : takeF bs with
    | none =>
      have hg : (gE (takeF bs) == 0) = false := by rw [ht]; rfl
      rw [← ht]
      clear ht
      go_wp2
      go_quiet (fail)
      go_wp2
      go_meet
      case rel => exact ⟨rfl, HB3.out.trans (below_drewN _ _ _)⟩
    | some x =>
      have hg : (gE (takeF bs) == 0) = true := by rw [ht]; rfl
      obtain ⟨hv, hbs⟩ := takeF_some ht
      have hv' : W64 (gV (takeF bs)) := by rw [ht]; exact hv
      have hbs' : bs = form (gV (takeF bs)) ++ gR (takeF bs) := by rw [ht]; exact hbs
      rw [← ht]
      clear ht hv hbs
      have hl2 : (form (gV (takeF bs))).length + (gR (takeF bs)).length ≤ 9223372036854775807 := by rw [← List.length_append, ← hbs']; omega
      have HV := Lib.hid hv'; clear hv'
      have hadd := add_str (form (gV (takeF bs))) (gR (takeF bs)) hl2
      have hsq : ((str (form (gV (takeF bs)) ++ gR (takeF bs))).toList == (str bs).toList) = true := by rw [str_toList, str_toList, ← hbs']; simp
      have hk : ∀ W', Below w3.heap.size w3 W' → (convert 23 9 (.slice A3 n3 c3)).run Try.prog W' = .ok (.string (str (gR (takeF bs)))) W' ∧ (convert 23 9 (.slice A n c)).run Try.prog W' = .ok (.string (str bs)) W' :=
        fun W' h => ⟨str8' c3 (HR3.out.below h) HN3.out, str8' c ((HR.out.below HB3.out).below (h.mono hs3)) HN.out⟩
      have HK := Lib.hid hk; clear hk hl2 hbs'
      go_wp2
      have h1 := HK.out w3.drew ((Below.refl _ _).drew)
      have h2 := fun o => HK.out (w3.alloc o).drew (((Below.refl _ _).alloc (Nat.le_refl _) _).drew)
      go_region_with (go_at_call 12; refine (put_c _ _ _ [] rfl _ _ _ [gV (takeF bs)] rfl ?_ (w3.heap.size + 1) _ Rd.nil ?_ ?_ ?_).mono ?_; (intro x hx; simp at hx; subst hx; exact HV.out); exact (rd_num w3 _ _ rfl).drewN 1; (simp); (simpa using hb9); rintro e w5 ⟨A5, n5, c5, rfl, ho5, hb5⟩; have HB5 : Hid (Below w3.heap.size w3 w5) := (((Below.refl _ _).alloc (Nat.le_refl _) _).drew).trans (hb5.mono (by simp)); have hcv5 := str8' c5 ho5.rd ho5.1; simp only [List.nil_append, List.flatMap_cons, List.flatMap_nil, List.append_nil] at hcv5; have h3 := HK.out w5 HB5.out; clear hb5 ho5)
      all_goals go_wp2
      all_goals go_meet
      all_goals (case rel => exact ⟨rfl, HB3.out.trans (HB5.out.mono hs3)⟩)
  case rest =>
    obtain ⟨rfl, hbc⟩ := hcut
    have hsc := hbc.size
    have HBC := Lib.hid hbc; clear hbc
    go_wp2_with (at_builtin; refine wp_copy8 rfl (.tmp 35) (.tmp 36) rfl wc rfl w.heap.size A n c bs rfl HN.out (HR.out.below HBC.out) hsc hb ?_; intro A5 c5 w5 ho5 hb5)
    have HB5 := Lib.hid (HBC.out.trans (hb5.mono hsc)); clear hb5
    refine (cut_c _ _ _ bs HN.out ho5.cap w5.heap.size _ ho5.rd (Nat.le_refl _) hb).mono ?_
    rintro e w6 ⟨hb6, h6⟩
    clear ho5
    have HB6 := Lib.hid (HB5.out.trans (hb6.mono HB5.out.size)); clear hb6
    cases ht : cutF bs with
    | none =>
      rw [ht] at h6
      have h6' : e = .returned (.tuple #[.slice none 0 0, .slice none 0 0, .int .i64 21]) := h6
      clear h6
      subst h6'
      go_wp2
      go_ret
      exact ⟨rfl, HB6.out⟩
    | some x =>
      obtain ⟨t, r⟩ := x
      rw [ht] at h6
      obtain ⟨A6, n6, c6, A7, n7, c7, h6', ho6, ho7⟩ := h6
      subst h6'
      obtain ⟨h4, hbs⟩ := cutF_some ht
      clear ht
      have hb4 : 0 + 4009 ≤ big := by unfold big; omega
      have HBS := Lib.hid hbs; clear hbs
      have H4 := Lib.hid h4; clear h4
      have HO6 := Lib.hid ho6; clear ho6
      have HO7 := Lib.hid ho7; clear ho7
      go_wp2_with fail
      refine (text_c _ _ _ [] rfl _ _ _ t HO6.out.1 w6.heap.size _ Rd.nil HO6.out.rd (Nat.le_refl _) hb4).mono ?_
      rintro e w8 ⟨hb8, h8⟩
      rcases h8 with ⟨h8, _⟩ | ⟨_, A8, n8, c8, rfl, ho8⟩
      · exact absurd h8 (by have := H4.out; omega)
      · have hcv8 := str8' c8 ho8.rd ho8.1
        have hcv7 := str8' c7 (HO7.out.rd.below hb8) HO7.out.1
        have hcvb := str8' c ((HR.out.below HB6.out).below (hb8.mono HB6.out.size)) HN.out
        have hl2 : (textF [] t).length + r.length ≤ 9223372036854775807 := by rw [← List.length_append, ← HBS.out]; omega
        have hadd := add_str (textF [] t) r hl2
        have hsq : ((str (textF [] t ++ r)).toList == (str bs).toList) = true := by rw [str_toList, str_toList, ← HBS.out]; simp
        have HB8 := Lib.hid (HB6.out.trans (hb8.mono HB6.out.size)); clear hb8 ho8 hl2
        go_wp2
        go_ret
        exact ⟨rfl, HB8.out⟩
end Go.Proofs.Ytlfolpbgekchjaa.wireOnce
