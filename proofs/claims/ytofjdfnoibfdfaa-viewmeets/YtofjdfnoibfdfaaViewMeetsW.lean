/- The walk of ViewMeets. -/
import Derived.Test.YtofjdfnoibfdfaaVwA
import Derived.Test.YtofjdfnoibfdfaaWf
namespace Go.Proofs.Ytofjdfnoibfdfaa.viewMeets
open Go.RowKit
open Chg Vw

theorem with_both (who l : List Int) : withL who l + withoutL who l = l.length := by
  unfold withL withoutL
  induction l with
  | nil => rfl
  | cons x l ih =>
    simp only [List.filter_cons, List.length_cons]
    cases who.contains x
    · simp only [Bool.not_false, if_true, Bool.false_eq_true, if_false, List.length_cons]; omega
    · simp only [Bool.not_true, if_true, Bool.false_eq_true, if_false, List.length_cons]; omega
theorem with_apart (p q l : List Int) (h : ∀ m ∈ l, ¬ (p.contains m = true ∧ q.contains m = true)) : withL p l + withL q l ≤ l.length := by
  unfold withL
  induction l with
  | nil => exact Nat.le_refl _
  | cons x l ih =>
    have h1 : _ + _ ≤ _ := ih (fun m hm => h m (List.mem_cons_of_mem _ hm))
    have h2 := h x (List.mem_cons_self ..)
    simp only [List.filter_cons, List.length_cons]
    rcases hp : p.contains x with _ | _ <;> rcases hq : q.contains x with _ | _
    · simp only [Bool.false_eq_true, if_false]; omega
    · simp only [Bool.false_eq_true, if_false, if_true, List.length_cons]; omega
    · simp only [Bool.false_eq_true, if_false, if_true, List.length_cons]; omega
    · exact absurd ⟨hp, hq⟩ h2
/-- TWO QUORUMS MEET -/
theorem meets (a d : Nat) (p q : List Int) (hp : enough a d p = true) (hq : enough a d q = true) : ∃ x, x ∈ p ∧ x ∈ q ∧ inN a d x = true := by
  unfold enough at hp hq
  rw [decide_eq_true_iff] at hp hq
  have h1 := with_both p (members a d)
  have h2 := with_both q (members a d)
  apply Classical.byContradiction
  intro hno
  have h3 := with_apart p q (members a d) (by
    rintro m hm ⟨h4, h5⟩
    apply hno
    refine ⟨m, by simpa using h4, by simpa using h5, ?_⟩
    obtain ⟨i, hi, rfl, hin⟩ := (memK_mem a d 6 m).1 hm
    unfold inN
    rw [decide_eq_true (by omega)]
    simpa using hin)
  omega

set_option maxHeartbeats 1000000 in
theorem walk (w : World) (a : Int) (_ : (Lit.int .i64 a).wf = true) (d : Int) (_ : (Lit.int .i64 d).wf = true)
    (A : Option Addr) (n c : Nat) (p : List Int) (hn : n = p.length) (_hc : n ≤ c) (hr : Rd w w.heap.size A (p.map (Value.int .i64))) (hw : ∀ z ∈ p, (Lit.int .i64 z).wf = true) (_hl : c * 8 ≤ 140737488351232)
    (A1 : Option Addr) (n1 c1 : Nat) (q : List Int) (hn1 : n1 = q.length) (_hc1 : n1 ≤ c1) (hr1 : Rd w w.heap.size A1 (q.map (Value.int .i64))) (_hw1 : ∀ z ∈ q, (Lit.int .i64 z).wf = true) (_hl1 : c1 * 8 ≤ 140737488351232) :
    Calls Try.prog 6 #[vw a d, .slice A n c, .slice A1 n1 c1] w fun e w' => e = .returned (.bool true) ∧ Below w.heap.size w w' := by
  have h47 : n ≤ 140737488355328 := by omega
  have h471 : n1 ≤ 140737488355328 := by omega
  clear _hc _hl _hc1 _hl1 _hw1
  have HN := Lib.hid hn; clear hn
  have HR := Lib.hid hr; clear hr
  have HN1 := Lib.hid hn1; clear hn1
  have HR1 := Lib.hid hr1; clear hr1
  have HW := Lib.hid hw; clear hw
  unfold vw
  go_enter Try.func6, Try.ntmps6
  go_wp2_with fail
  have HV := Lib.hid (show Vi (w.alloc (.cells #[.int .i64 a, .int .i64 d] 25)) w.heap.size a d from hat _ _ _ rfl)
  have HB := Lib.hid (bal (Below.refl w.heap.size w) (Nat.le_refl _) (.cells #[.int .i64 a, .int .i64 d] 25))
  generalize w.alloc (.cells #[.int .i64 a, .int .i64 d] 25) = w1 at HV HB ⊢
  refine (alive_c _).mono ?_
  rintro e w2 ⟨rfl, hb2⟩
  have HV := Lib.hid (HV.out.below hb2)
  have HB := Lib.hid (HB.out.trans (hb2.mono HB.out.size)); clear hb2
  have a0 := HV.out.c0; have a1 := HV.out.c1
  go_wp2_with fail
  refine (right_c a d _).mono ?_
  rintro e w3 ⟨rfl, hb3⟩
  have HV := Lib.hid (HV.out.below hb3)
  have HB := Lib.hid (HB.out.trans (hb3.mono HB.out.size)); clear hb3 a0 a1
  cases hra : rightB a d with
  | false =>
    go_wp2
    go_ret
    exact ⟨rfl, HB.out⟩
  | true =>
  obtain ⟨a, d, rfl, rfl, ha, hd⟩ := right_nat hra
  clear hra
  have a0 := HV.out.c0; have a1 := HV.out.c1
  go_wp2_with fail
  refine (enough_c a d ha hd A n c p HN.out h47 w.heap.size _ (HR.out.below HB.out) HB.out.size).mono ?_
  rintro e w4 ⟨rfl, hb4⟩
  have HV := Lib.hid (HV.out.below hb4)
  have HB := Lib.hid (HB.out.trans (hb4.mono HB.out.size)); clear hb4 a0 a1
  cases hp : enough a d p with
  | false =>
    go_wp2
    go_ret
    exact ⟨rfl, HB.out⟩
  | true =>
  have a0 := HV.out.c0; have a1 := HV.out.c1
  have HP := Lib.hid hp; clear hp
  go_wp2_with fail
  refine (enough_c a d ha hd A1 n1 c1 q HN1.out h471 w.heap.size _ (HR1.out.below HB.out) HB.out.size).mono ?_
  rintro e w5 ⟨rfl, hb5⟩
  have HV := Lib.hid (HV.out.below hb5)
  have HB := Lib.hid (HB.out.trans (hb5.mono HB.out.size)); clear hb5 a0 a1
  cases hq : enough a d q with
  | false =>
    go_wp2
    go_ret
    exact ⟨rfl, HB.out⟩
  | true =>
  have HM := Lib.hid (meets a d p q HP.out hq); clear hq HP
  go_wp2
  go_loopw [30] (fun i wr => ∃ k : Nat, i = .int .i64 k ∧ k ≤ n ∧ (∀ x ∈ p.take k, x ∈ q → inN a d x = false) ∧ Vi wr w.heap.size a d ∧ Below w.heap.size w wr) (fun i _ => n - (intOf i).toNat)
  case atStart => exact ⟨0, rfl, by omega, by simp, HV.out, HB.out⟩
  case round =>
    clear HV HB
    obtain ⟨k, rfl, hk, hno, hv, hb⟩ := hrel
    have HNO := Lib.hid hno; have HV := Lib.hid hv; have HB := Lib.hid hb
    clear hno hv hb
    by_cases h : k < n
    · obtain ⟨b, o, rfl, hbB, hcell⟩ := HR.out (by rw [List.length_map, ← HN.out]; omega)
      have hkl : k < p.length := by rw [← HN.out]; exact h
      have hz : p[k]? = some p[k] := List.getElem?_eq_getElem hkl
      have hc0 := hcell k (.int .i64 p[k]) (by simp [hkl])
      have hzw := wf_i64 (HW.out p[k] (List.getElem_mem hkl))
      generalize p[k] = x at hz hc0 hzw
      have hcz : wr.cell? ⟨b, o + k, none⟩ = some (.int .i64 x) := (HB.out.cell hbB).trans hc0
      have HZ := Lib.hid hz
      clear hz hc0 hcell hkl
      go_wp2
      go_loopw [36] (fun i wq => ∃ j : Nat, i = .int .i64 j ∧ j ≤ n1 ∧ (x ∈ q.take j → inN a d x = false) ∧ Vi wq w.heap.size a d ∧ Below w.heap.size w wq) (fun i _ => n1 - (intOf i).toNat)
      case atStart => exact ⟨0, rfl, by omega, by simp, HV.out, HB.out⟩
      case round =>
        clear hcz HV HB
        obtain ⟨j, rfl, hj, hno, hv, hb⟩ := hrel
        have HNO2 := Lib.hid hno; have HV := Lib.hid hv; have HB := Lib.hid hb
        clear hno hv hb
        by_cases h2 : j < n1
        · obtain ⟨b2, o2, rfl, hbB2, hcell2⟩ := HR1.out (by rw [List.length_map, ← HN1.out]; omega)
          have hjl : j < q.length := by rw [← HN1.out]; exact h2
          have hz2 : q[j]? = some q[j] := List.getElem?_eq_getElem hjl
          have hc1 := hcell2 j (.int .i64 q[j]) (by simp [hjl])
          generalize q[j] = y at hz2 hc1
          have hcy : wr.cell? ⟨b2, o2 + j, none⟩ = some (.int .i64 y) := (HB.out.cell hbB2).trans hc1
          have HZ2 := Lib.hid hz2
          clear hz2 hc1 hcell2 hjl
          by_cases hxy : x = y
          · have hxy' : (x == y) = true := by rw [hxy]; simp
            have HXY := Lib.hid hxy; clear hxy
            have a0 := HV.out.c0; have a1 := HV.out.c1
            go_wp2_with fail
            refine (in_c a d ha hd x hzw _).mono ?_
            rintro e w6 ⟨rfl, hb6⟩
            have HV := Lib.hid (HV.out.below hb6)
            have HB := Lib.hid (HB.out.trans (hb6.mono HB.out.size)); clear hb6 a0 a1
            cases hin : inN a d x with
            | true =>
              go_wp2
              go_ret
              exact ⟨rfl, HB.out⟩
            | false =>
              have HIN := Lib.hid hin; clear hin
              go_wp2
              exact ⟨⟨j + 1, by go_num, by omega, fun _ => HIN.out, HV.out, HB.out⟩, by simp [intOf]; omega⟩
          · have hxy' : (x == y) = false := by rw [beq_eq_false_iff_ne]; exact hxy
            have HXY := Lib.hid hxy; clear hxy
            go_wp2
            refine ⟨⟨j + 1, by go_num, by omega, ?_, HV.out, HB.out⟩, by simp [intOf]; omega⟩
            rw [List.take_add_one, HZ2.out]
            intro hm
            rcases List.mem_append.1 hm with hm | hm
            · exact HNO2.out hm
            · simp at hm; exact absurd hm HXY.out
        · obtain rfl : j = n1 := by omega
          go_wp2
          refine ⟨⟨k + 1, by go_num, by omega, ?_, HV.out, HB.out⟩, by simp [intOf]; omega⟩
          rw [List.take_add_one, HZ.out]
          intro z hz hzq
          rcases List.mem_append.1 hz with hz | hz
          · exact HNO.out z hz hzq
          · simp at hz
            subst hz
            exact HNO2.out (by rw [List.take_of_length_le (by rw [← HN1.out]; omega)]; exact hzq)
    · exfalso
      obtain ⟨x, hxp, hxq, hin⟩ := HM.out
      have := HNO.out x (by rw [List.take_of_length_le (by rw [← HN.out]; omega)]; exact hxp) hxq
      rw [hin] at this
      cases this
end Go.Proofs.Ytofjdfnoibfdfaa.viewMeets
