/- The walk of ViewHalves. -/
import Derived.Test.YtofjdfnoibfdfaaViewMeetsW
namespace Go.Proofs.Ytofjdfnoibfdfaa.viewHalves
open Go.RowKit
open Chg Vw viewMeets

/-- of the first k nodes those that are not in who -/
def oth (who : List Int) : Nat → List Int
  | 0 => []
  | k + 1 => oth who k ++ if who.contains (k : Int) then [] else [(k : Int)]
theorem oth_len (who : List Int) (k : Nat) : (oth who k).length ≤ k := by
  induction k with
  | zero => exact Nat.le_refl _
  | succ k ih => unfold oth; split <;> simp <;> omega
theorem oth_mem (who : List Int) (k : Nat) (z : Int) (h : z ∈ oth who k) : ¬ z ∈ who := by
  induction k with
  | zero => cases h
  | succ k ih =>
    unfold oth at h
    rcases List.mem_append.1 h with h | h
    · exact ih h
    · split at h
      · cases h
      · rename_i hk
        rw [List.mem_singleton] at h
        subst h
        simpa using hk
theorem half6 (m : Nat) (h : m ≤ 6) : IntKind.i64.wrap ((m : Int) / 2) = ((m / 2 : Nat) : Int) := by
  rcases (show m = 0 ∨ m = 1 ∨ m = 2 ∨ m = 3 ∨ m = 4 ∨ m = 5 ∨ m = 6 by omega) with rfl | rfl | rfl | rfl | rfl | rfl | rfl <;> rfl
theorem not_both (a d : Nat) (who : List Int) (h : enough a d who = true) : enough a d (oth who 6) = false := by
  rw [← Bool.not_eq_true]
  intro h2
  obtain ⟨x, h3, h4, _⟩ := meets a d who (oth who 6) h h2
  exact oth_mem who 6 x h4 h3
theorem with_self (l : List Int) : withL l l = l.length := by
  unfold withL
  rw [List.filter_eq_self.2 (fun x hx => by simpa using hx)]
theorem enough_all (a d : Nat) : enough a d (members a d) = decide (0 < (members a d).length) := by
  have h1 := with_both (members a d) (members a d)
  have h2 := with_self (members a d)
  unfold enough
  rw [h2] at h1 ⊢
  rw [show withoutL (members a d) (members a d) = 0 by omega]
theorem with_more (p q l : List Int) (h : ∀ x ∈ p, x ∈ q) : withL p l ≤ withL q l := by
  unfold withL
  induction l with
  | nil => exact Nat.le_refl _
  | cons x l ih =>
    simp only [List.filter_cons]
    rcases hp : p.contains x with _ | _ <;> rcases hq : q.contains x with _ | _
    · simp only [Bool.false_eq_true, if_false]; exact ih
    · simp only [Bool.false_eq_true, if_false, if_true, List.length_cons]; omega
    · exfalso
      have := h x (by simpa using hp)
      simp [this] at hq
    · simp only [if_true, List.length_cons]; omega
theorem enough_more (a d : Nat) (p q : List Int) (h : enough a d p = true) : enough a d (p ++ q) = true := by
  have h1 := with_both p (members a d)
  have h2 := with_both (p ++ q) (members a d)
  have h3 := with_more p (p ++ q) (members a d) (fun x hx => List.mem_append_left _ hx)
  have h4 := of_decide_eq_true h
  exact decide_eq_true (by omega)

set_option maxHeartbeats 1000000 in
theorem walk (w : World) (a : Int) (_ : (Lit.int .i64 a).wf = true) (d : Int) (_ : (Lit.int .i64 d).wf = true)
    (A : Option Addr) (n c : Nat) (p : List Int) (hn : n = p.length) (_hc : n ≤ c) (hr : Rd w w.heap.size A (p.map (Value.int .i64))) (_hw : ∀ z ∈ p, (Lit.int .i64 z).wf = true) (_hl : c * 8 ≤ 140737488351232) :
    Calls Try.prog 8 #[vw a d, .slice A n c] w fun e w' => e = .returned (.bool true) ∧ Below w.heap.size w w' := by
  have h47 : n ≤ 140737488355328 := by omega
  clear _hc _hl _hw
  have HN := Lib.hid hn; clear hn
  have HR := Lib.hid hr; clear hr
  unfold vw
  go_enter Try.func8, Try.ntmps8
  go_wp2_with fail
  have HV := Lib.hid (show Vi (w.alloc (.cells #[.int .i64 a, .int .i64 d] 25)) w.heap.size a d from hat _ _ _ rfl)
  have HB := Lib.hid (bal (Below.refl w.heap.size w) (Nat.le_refl _) (.cells #[.int .i64 a, .int .i64 d] 25))
  generalize w.alloc (.cells #[.int .i64 a, .int .i64 d] 25) = w1 at HV HB ⊢
  refine (alive_c _).mono ?_
  rintro e w2 ⟨rfl, hb2⟩
  have HV := Lib.hid (HV.out.below hb2)
  have HB := Lib.hid (HB.out.trans (hb2.mono HB.out.size)); clear hb2
  have a0 := HV.out.c0; have a1 := HV.out.c1
  go_wp2_with fail
  refine (right_c a d _).mono ?_
  rintro e w3 ⟨rfl, hb3⟩
  have HV := Lib.hid (HV.out.below hb3)
  have HB := Lib.hid (HB.out.trans (hb3.mono HB.out.size)); clear hb3 a0 a1
  cases hra : rightB a d with
  | false =>
    go_wp2
    go_ret
    exact ⟨rfl, HB.out⟩
  | true =>
  obtain ⟨a, d, rfl, rfl, ha, hd⟩ := right_nat hra
  clear hra
  by_cases h50 : 50 < n
  · go_wp2
    go_ret
    exact ⟨rfl, HB.out⟩
  go_wp2
  go_loopw [5, 6] (fun x i wr => ∃ (A4 : Option Addr) (n4 c4 k : Nat), x = .slice A4 n4 c4 ∧ i = .int .i64 k ∧ k ≤ 6 ∧ OwnI wr (w.heap.size + 1) A4 n4 c4 (oth p k) ∧ Vi wr w.heap.size a d ∧ w.heap.size + 1 ≤ wr.heap.size ∧ Below w.heap.size w wr) (fun _ i _ => 6 - (intOf i).toNat)
  case atStart => exact ⟨_, 0, 0, 0, rfl, rfl, by omega, ownI_at _ _ _ [] rfl HV.out.lt (by simp), hbe HV.out, by have := HV.out.lt; simp; omega, bal HB.out (Nat.le_refl _) _⟩
  case round =>
    clear HV HB
    obtain ⟨A4, n4, c4, k, rfl, rfl, hk, ho, hv, hs, hb⟩ := hrel
    have hn6 : n4 ≤ 6 := by rw [ho.1]; exact Nat.le_trans (oth_len p k) hk
    have HO := Lib.hid ho; have HV := Lib.hid hv; have HB := Lib.hid hb
    clear ho hv hb
    by_cases h : k < 6
    · go_wp2
      go_loopw [7, 29] (fun x i wq => ∃ (v : Bool) (j : Nat), x = .bool v ∧ i = .int .i64 j ∧ j ≤ n ∧ v = (p.take j).contains (k : Int) ∧ wq = wr) (fun _ i _ => n - (intOf i).toNat)
      case atStart => exact ⟨false, 0, rfl, rfl, by omega, by simp, rfl⟩
      case round =>
        obtain ⟨v, j, rfl, rfl, hj, hv, rfl⟩ := hrel
        have HX := Lib.hid hv; clear hv
        by_cases h2 : j < n
        · obtain ⟨b2, o2, rfl, hbB2, hcell2⟩ := HR.out (by rw [List.length_map, ← HN.out]; omega)
          have hjl : j < p.length := by rw [← HN.out]; exact h2
          have hz2 : p[j]? = some p[j] := List.getElem?_eq_getElem hjl
          have hc1 := hcell2 j (.int .i64 p[j]) (by simp [hjl])
          generalize p[j] = y at hz2 hc1
          have hcy := (HB.out.cell hbB2).trans hc1
          have HZ2 := Lib.hid (contains_take p j y (k : Int) hz2)
          clear hz2 hc1 hcell2 hjl
          cases v with
          | true =>
            go_wp2
            exact ⟨⟨true, j + 1, rfl, by go_num, by omega, by rw [HZ2.out, ← HX.out]; rfl, trivial⟩, by simp [intOf]; omega⟩
          | false =>
            go_wp2
            exact ⟨⟨y == (k : Int), j + 1, rfl, by go_num, by omega, by rw [HZ2.out, ← HX.out]; rfl, trivial⟩, by simp [intOf]; omega⟩
        · obtain rfl : j = n := by omega
          have HX2 : Hid (v = p.contains (k : Int)) := Lib.hid (by rw [HX.out, List.take_of_length_le (by rw [← HN.out]; omega)])
          clear HX
          have HM : Hid (oth p (k + 1) = oth p k ++ if p.contains (k : Int) then [] else [(k : Int)]) := Lib.hid rfl
          rw [← HX2.out] at HM
          clear HX2
          cases v with
          | true =>
            go_wp2
            refine ⟨⟨A4, n4, c4, k + 1, rfl, by go_num, by omega, ?_, HV.out, hs, HB.out⟩, by simp [intOf]; omega⟩
            rw [HM.out]
            simpa using HO.out
          | false =>
            go_wp2_with (at_builtin; refine wp_appI rfl (.tmp 42) (.tmp 44) rfl (w.heap.size + 1) A4 n4 c4 _ rfl (HO.out.alloc _) _ _ 1 1 [(k : Int)] rfl rfl (rdI_any wr [(k : Int)]) (by omega) (by simp; omega) ?_; intro A3 c3 w3 ho3 hb3)
            have hs3 := hb3.size
            rw [World.size_alloc] at hs3
            refine ⟨⟨A3, n4 + 1, c3, k + 1, rfl, by go_num, by omega, ?_, (hb3.block _ (by omega)).trans (hbe HV.out), by omega, (bal HB.out (Nat.le_refl _) _).trans (hb3.mono (by omega))⟩, by simp [intOf]; omega⟩
            rw [HM.out]
            exact ho3
    · obtain rfl : k = 6 := by omega
      have a0 := HV.out.c0; have a1 := HV.out.c1
      go_wp2_with fail
      refine (members_c a d ha hd _).mono ?_
      rintro e w5 ⟨A5, n5, c5, rfl, ho5, hb⟩
      have HM := Lib.hid ho5; clear ho5
      have HV := Lib.hid (HV.out.below hb)
      have HO := Lib.hid (HO.out.below hb (Nat.le_refl _))
      have hs5 := Nat.le_trans hs hb.size
      have hs := hs5
      have HB := Lib.hid (HB.out.trans (hb.mono (by omega))); clear hb a0 a1 hs5
      have a0 := HV.out.c0; have a1 := HV.out.c1
      go_wp2_with fail
      refine (enough_c a d ha hd A n c p HN.out h47 w.heap.size _ (HR.out.below HB.out) HB.out.size).mono ?_
      rintro e w6 ⟨rfl, hb⟩
      have HV := Lib.hid (HV.out.below hb)
      have HO := Lib.hid (HO.out.below hb (Nat.le_refl _))
      have HM := Lib.hid (HM.out.below hb (Nat.le_refl _))
      have hs := Nat.le_trans hs hb.size
      have HB := Lib.hid (HB.out.trans (hb.mono (by omega))); clear hb a0 a1
      have a0 := HV.out.c0; have a1 := HV.out.c1
      cases hE : enough a d p with
      | false =>
        have HE := Lib.hid hE; clear hE
        obtain ⟨v5, hv5⟩ : ∃ v5 : Bool, decide (0 < n5) = v5 := ⟨_, rfl⟩
        have HV5 := Lib.hid hv5; clear hv5
        go_wp2_with fail
        refine (enough_c a d ha hd A5 n5 c5 _ HM.out.1 (by rw [HM.out.1]; exact Nat.le_trans (memK_len a d 6) (by omega)) _ _ HM.out.rd (Nat.le_refl _)).mono ?_
        rw [enough_all, ← HM.out.1, HV5.out]
        rintro e w8 ⟨rfl, hb⟩
        have HV := Lib.hid (HV.out.below hb)
        have HO := Lib.hid (HO.out.below hb (Nat.le_refl _))
        have HM := Lib.hid (HM.out.below hb (Nat.le_refl _))
        have hs := Nat.le_trans hs hb.size
        have HB := Lib.hid (HB.out.trans (hb.mono (by omega))); clear hb a0 a1
        have a0 := HV.out.c0; have a1 := HV.out.c1
        cases v5
        · obtain rfl : n5 = 0 := by have := of_decide_eq_false HV5.out; omega
          clear HV5
          go_wp2
          have HKK : Hid (∀ W', Below w8.heap.size w8 W' → W'.cell? ⟨w.heap.size, 0, none⟩ = some (.int .i64 (a : Int)) ∧ W'.cell? ⟨w.heap.size, 1, none⟩ = some (.int .i64 (d : Int))) := Lib.hid (fun W' h => ⟨(HV.out.below h).c0, (HV.out.below h).c1⟩)
          clear a0 a1
          have hc4 := HO.out.cap
          refine wp_region_held_drew (S := fun W' => Below w8.heap.size w8 W') (by kernel_rfl) (Below.refl _ _).drew (fun hHeld => ?_)
          generalize w8.drew = w9 at hHeld ⊢
          have HB9 : Hid (Below w8.heap.size w8 w9) := hHeld
          clear hHeld
          have hs8 := HB.out.size
          obtain ⟨q, hq⟩ : ∃ q, q = n4 / 2 := ⟨_, rfl⟩
          have hwr := half6 n4 hn6
          rw [← hq] at hwr
          have hqc : q ≤ c4 := by omega
          have hqn : q ≤ n4 := by omega
          clear hq
          refine take_in (i := 1) (oi := ⟨_, _, _, _, _, _⟩) (v := ?_) rfl (by kernel_rfl) (by kernel_rfl) (by kernel_rfl) (fun _ _ _ h => h) (by rfl) ?_ HB9.out ?_
          rotate_left
          · intro W hW; go_simp; with_reducible rfl
          simp only [Act.put, List.setIfInBounds_toArray, List.set_cons_zero, List.set_cons_succ]
          refine take_in (i := 3) (oi := ⟨_, _, _, _, _, _⟩) (v := ?_) rfl (by kernel_rfl) (by kernel_rfl) (by kernel_rfl) (fun _ _ _ h => h) (by rfl) ?_ HB9.out ?_
          rotate_left
          · intro W hW; go_simp; with_reducible rfl
          simp only [Act.put, List.setIfInBounds_toArray, List.set_cons_zero, List.set_cons_succ]
          refine take_in (i := 4) (oi := ⟨_, _, _, _, _, _⟩) (v := ?_) rfl (by kernel_rfl) (by kernel_rfl) (by kernel_rfl) (fun _ _ _ h => h) (by rfl) ?_ HB9.out ?_
          rotate_left
          · intro W hW; go_simp; with_reducible rfl
          simp only [Act.put, List.setIfInBounds_toArray, List.set_cons_zero, List.set_cons_succ]
          refine take_in (i := 5) (oi := ⟨_, _, _, _, _, _⟩) (v := ?_) rfl (by kernel_rfl) (by kernel_rfl) (by kernel_rfl) (fun _ _ _ h => h) (by rfl) ?_ HB9.out ?_
          rotate_left
          · intro W hW; go_simp; with_reducible rfl
          simp only [Act.put, List.setIfInBounds_toArray, List.set_cons_zero, List.set_cons_succ]
          refine take_in (i := 6) (oi := ⟨_, _, _, _, _, _⟩) (v := ?_) rfl (by kernel_rfl) (by kernel_rfl) (by kernel_rfl) (fun _ _ _ h => h) (by rfl) ?_ HB9.out ?_
          rotate_left
          · intro W hW; go_simp; with_reducible rfl
          simp only [Act.put, List.setIfInBounds_toArray, List.set_cons_zero, List.set_cons_succ]
          clear hwr
          refine take_in (i := 7) (oi := ⟨_, _, _, _, _, _⟩) (v := ?_) rfl (by kernel_rfl) (by kernel_rfl) (by kernel_rfl) (fun _ _ _ h => h) (by rfl) ?_ HB9.out ?_
          rotate_left
          · intro W hW; go_simp; with_reducible rfl
          simp only [Act.put, List.setIfInBounds_toArray, List.set_cons_zero, List.set_cons_succ]
          refine wpAnyH_ready (rs := [0]) (by kernel_rfl) (by simp) ?_
          refine AllReadyH.cons (o := ⟨_, _, _, _, _, _⟩) rfl (fun K hK => ?_) AllReadyH.nil
          go_simp
          refine hK.out _ _ (bal HB9.out (Nat.le_refl _) _) (fun _ => ?_)
          clear hK K
          refine wpAnyH_ready (rs := [2]) (by kernel_rfl) (by simp) ?_
          refine AllReadyH.cons (o := ⟨_, _, _, _, _, _⟩) rfl (fun K hK => ?_) AllReadyH.nil
          refine op_copyI (.tmp 65) (.tmp 66) rfl w9 rfl w.heap.size A n c p rfl HN.out (HR.out.below (HB.out.trans (HB9.out.mono HB.out.size))) (Nat.le_trans hs8 HB9.out.size) (by omega) ?_
          intro A10 c10 w10 ho10 hb10
          have HO4 := Lib.hid ((HO.out.rd.below (HB9.out.trans (hb10.mono HB9.out.size))).take q)
          have HO10 := Lib.hid ho10; clear ho10
          have hs10 := hb10.size
          have HB10 := Lib.hid (HB9.out.trans (hb10.mono HB9.out.size)); clear hb10
          refine hK.out _ _ HB10.out (fun _ => ?_)
          clear hK K
          simp only [Act.put, List.setIfInBounds_toArray, List.set_cons_zero, List.set_cons_succ]
          refine wpAnyH_ready (rs := [8]) (by kernel_rfl) (by simp) ?_
          refine AllReadyH.cons (o := ⟨_, _, _, _, _, _⟩) rfl (fun K hK => ?_) AllReadyH.nil
          refine op_appI (.tmp 67) (.tmp 72) rfl w9.heap.size A10 n c10 p rfl HO10.out w8.heap.size A4 q c4 ((oth p 6).take q) rfl (by rw [List.length_take, ← HO.out.1]; omega) (by rw [List.map_take]; exact HO4.out) (by omega) hs10 ?_
          intro A11 c11 w11 ho11 hb11
          have HO11 := Lib.hid ho11; clear ho11
          have HB11 := Lib.hid (HB10.out.trans (hb11.mono HB9.out.size)); clear hb11
          refine hK.out _ _ HB11.out (fun _ => ?_)
          clear hK K
          simp only [Act.put, List.setIfInBounds_toArray, List.set_cons_zero, List.set_cons_succ]
          refine take_in (i := 9) (oi := ⟨_, _, _, _, _, _⟩) (v := ?_) rfl (by kernel_rfl) (by kernel_rfl) (by kernel_rfl) (fun _ _ _ h => h) (by rfl) ?_ HB11.out ?_
          rotate_left
          · intro W hW; go_simp; with_reducible rfl
          simp only [Act.put, List.setIfInBounds_toArray, List.set_cons_zero, List.set_cons_succ]
          refine wpAnyH_done (by kernel_rfl) ?_ _
          have hq := HKK.out w11 HB11.out
          go_wp2_with fail
          refine (enough_c a d ha hd A n c p HN.out h47 w.heap.size _ (HR.out.below (HB.out.trans (HB11.out.mono hs8))) (Nat.le_trans hs8 HB11.out.size)).mono ?_
          rw [HE.out]
          rintro e w12 ⟨rfl, hb12⟩
          have HO12 := Lib.hid (HO11.out.below hb12 (Nat.le_refl _))
          have HB12 := Lib.hid (HB11.out.trans (hb12.mono HB11.out.size)); clear hb12 hq
          go_wp2
          go_ret
          exact ⟨rfl, HB.out.trans (HB12.out.mono hs8)⟩
        · have h5 : 0 < n5 := of_decide_eq_true HV5.out
          clear HV5
          go_wp2
          have HKK : Hid (∀ W', Below w8.heap.size w8 W' → W'.cell? ⟨w.heap.size, 0, none⟩ = some (.int .i64 (a : Int)) ∧ W'.cell? ⟨w.heap.size, 1, none⟩ = some (.int .i64 (d : Int))) := Lib.hid (fun W' h => ⟨(HV.out.below h).c0, (HV.out.below h).c1⟩)
          clear a0 a1
          have hc4 := HO.out.cap
          refine wp_region_held_drew (S := fun W' => Below w8.heap.size w8 W') (by kernel_rfl) (Below.refl _ _).drew (fun hHeld => ?_)
          generalize w8.drew = w9 at hHeld ⊢
          have HB9 : Hid (Below w8.heap.size w8 w9) := hHeld
          clear hHeld
          have hs8 := HB.out.size
          obtain ⟨q, hq⟩ : ∃ q, q = n4 / 2 := ⟨_, rfl⟩
          have hwr := half6 n4 hn6
          rw [← hq] at hwr
          have hqc : q ≤ c4 := by omega
          have hqn : q ≤ n4 := by omega
          clear hq
          refine take_in (i := 1) (oi := ⟨_, _, _, _, _, _⟩) (v := ?_) rfl (by kernel_rfl) (by kernel_rfl) (by kernel_rfl) (fun _ _ _ h => h) (by rfl) ?_ HB9.out ?_
          rotate_left
          · intro W hW; go_simp; with_reducible rfl
          simp only [Act.put, List.setIfInBounds_toArray, List.set_cons_zero, List.set_cons_succ]
          refine take_in (i := 3) (oi := ⟨_, _, _, _, _, _⟩) (v := ?_) rfl (by kernel_rfl) (by kernel_rfl) (by kernel_rfl) (fun _ _ _ h => h) (by rfl) ?_ HB9.out ?_
          rotate_left
          · intro W hW; go_simp; with_reducible rfl
          simp only [Act.put, List.setIfInBounds_toArray, List.set_cons_zero, List.set_cons_succ]
          refine take_in (i := 4) (oi := ⟨_, _, _, _, _, _⟩) (v := ?_) rfl (by kernel_rfl) (by kernel_rfl) (by kernel_rfl) (fun _ _ _ h => h) (by rfl) ?_ HB9.out ?_
          rotate_left
          · intro W hW; go_simp; with_reducible rfl
          simp only [Act.put, List.setIfInBounds_toArray, List.set_cons_zero, List.set_cons_succ]
          refine take_in (i := 5) (oi := ⟨_, _, _, _, _, _⟩) (v := ?_) rfl (by kernel_rfl) (by kernel_rfl) (by kernel_rfl) (fun _ _ _ h => h) (by rfl) ?_ HB9.out ?_
          rotate_left
          · intro W hW; go_simp; with_reducible rfl
          simp only [Act.put, List.setIfInBounds_toArray, List.set_cons_zero, List.set_cons_succ]
          refine take_in (i := 6) (oi := ⟨_, _, _, _, _, _⟩) (v := ?_) rfl (by kernel_rfl) (by kernel_rfl) (by kernel_rfl) (fun _ _ _ h => h) (by rfl) ?_ HB9.out ?_
          rotate_left
          · intro W hW; go_simp; with_reducible rfl
          simp only [Act.put, List.setIfInBounds_toArray, List.set_cons_zero, List.set_cons_succ]
          clear hwr
          refine take_in (i := 7) (oi := ⟨_, _, _, _, _, _⟩) (v := ?_) rfl (by kernel_rfl) (by kernel_rfl) (by kernel_rfl) (fun _ _ _ h => h) (by rfl) ?_ HB9.out ?_
          rotate_left
          · intro W hW; go_simp; with_reducible rfl
          simp only [Act.put, List.setIfInBounds_toArray, List.set_cons_zero, List.set_cons_succ]
          refine wpAnyH_ready (rs := [0]) (by kernel_rfl) (by simp) ?_
          refine AllReadyH.cons (o := ⟨_, _, _, _, _, _⟩) rfl (fun K hK => ?_) AllReadyH.nil
          go_simp
          refine hK.out _ _ (bal HB9.out (Nat.le_refl _) _) (fun _ => ?_)
          clear hK K
          refine wpAnyH_ready (rs := [2]) (by kernel_rfl) (by simp) ?_
          refine AllReadyH.cons (o := ⟨_, _, _, _, _, _⟩) rfl (fun K hK => ?_) AllReadyH.nil
          refine op_copyI (.tmp 65) (.tmp 66) rfl w9 rfl w.heap.size A n c p rfl HN.out (HR.out.below (HB.out.trans (HB9.out.mono HB.out.size))) (Nat.le_trans hs8 HB9.out.size) (by omega) ?_
          intro A10 c10 w10 ho10 hb10
          have HO4 := Lib.hid ((HO.out.rd.below (HB9.out.trans (hb10.mono HB9.out.size))).take q)
          have HO10 := Lib.hid ho10; clear ho10
          have hs10 := hb10.size
          have HB10 := Lib.hid (HB9.out.trans (hb10.mono HB9.out.size)); clear hb10
          refine hK.out _ _ HB10.out (fun _ => ?_)
          clear hK K
          simp only [Act.put, List.setIfInBounds_toArray, List.set_cons_zero, List.set_cons_succ]
          refine wpAnyH_ready (rs := [8]) (by kernel_rfl) (by simp) ?_
          refine AllReadyH.cons (o := ⟨_, _, _, _, _, _⟩) rfl (fun K hK => ?_) AllReadyH.nil
          refine op_appI (.tmp 67) (.tmp 72) rfl w9.heap.size A10 n c10 p rfl HO10.out w8.heap.size A4 q c4 ((oth p 6).take q) rfl (by rw [List.length_take, ← HO.out.1]; omega) (by rw [List.map_take]; exact HO4.out) (by omega) hs10 ?_
          intro A11 c11 w11 ho11 hb11
          have HO11 := Lib.hid ho11; clear ho11
          have HB11 := Lib.hid (HB10.out.trans (hb11.mono HB9.out.size)); clear hb11
          refine hK.out _ _ HB11.out (fun _ => ?_)
          clear hK K
          simp only [Act.put, List.setIfInBounds_toArray, List.set_cons_zero, List.set_cons_succ]
          refine take_in (i := 9) (oi := ⟨_, _, _, _, _, _⟩) (v := ?_) rfl (by kernel_rfl) (by kernel_rfl) (by kernel_rfl) (fun _ _ _ h => h) (by rfl) ?_ HB11.out ?_
          rotate_left
          · intro W hW; go_simp; with_reducible rfl
          simp only [Act.put, List.setIfInBounds_toArray, List.set_cons_zero, List.set_cons_succ]
          refine wpAnyH_done (by kernel_rfl) ?_ _
          have hq := HKK.out w11 HB11.out
          go_wp2_with fail
          refine (enough_c a d ha hd A n c p HN.out h47 w.heap.size _ (HR.out.below (HB.out.trans (HB11.out.mono hs8))) (Nat.le_trans hs8 HB11.out.size)).mono ?_
          rw [HE.out]
          rintro e w12 ⟨rfl, hb12⟩
          have HO12 := Lib.hid (HO11.out.below hb12 (Nat.le_refl _))
          have HB12 := Lib.hid (HB11.out.trans (hb12.mono HB11.out.size)); clear hb12 hq
          go_wp2
          go_ret
          exact ⟨rfl, HB.out.trans (HB12.out.mono hs8)⟩
      | true =>
        have HE := Lib.hid hE; clear hE
        go_wp2_with fail
        refine (enough_c a d ha hd A4 n4 c4 _ HO.out.1 (by omega) _ _ HO.out.rd (Nat.le_refl _)).mono ?_
        rw [not_both a d p HE.out]
        rintro e w7 ⟨rfl, hb⟩
        have HV := Lib.hid (HV.out.below hb)
        have HO := Lib.hid (HO.out.below hb (Nat.le_refl _))
        have HM := Lib.hid (HM.out.below hb (Nat.le_refl _))
        have hs := Nat.le_trans hs hb.size
        have HB := Lib.hid (HB.out.trans (hb.mono (by omega))); clear hb a0 a1
        have a0 := HV.out.c0; have a1 := HV.out.c1
        obtain ⟨v5, hv5⟩ : ∃ v5 : Bool, decide (0 < n5) = v5 := ⟨_, rfl⟩
        have HV5 := Lib.hid hv5; clear hv5
        go_wp2_with fail
        refine (enough_c a d ha hd A5 n5 c5 _ HM.out.1 (by rw [HM.out.1]; exact Nat.le_trans (memK_len a d 6) (by omega)) _ _ HM.out.rd (Nat.le_refl _)).mono ?_
        rw [enough_all, ← HM.out.1, HV5.out]
        rintro e w8 ⟨rfl, hb⟩
        have HV := Lib.hid (HV.out.below hb)
        have HO := Lib.hid (HO.out.below hb (Nat.le_refl _))
        have HM := Lib.hid (HM.out.below hb (Nat.le_refl _))
        have hs := Nat.le_trans hs hb.size
        have HB := Lib.hid (HB.out.trans (hb.mono (by omega))); clear hb a0 a1
        have a0 := HV.out.c0; have a1 := HV.out.c1
        cases v5
        · obtain rfl : n5 = 0 := by have := of_decide_eq_false HV5.out; omega
          clear HV5
          go_wp2
          have HKK : Hid (∀ W', Below w8.heap.size w8 W' → W'.cell? ⟨w.heap.size, 0, none⟩ = some (.int .i64 (a : Int)) ∧ W'.cell? ⟨w.heap.size, 1, none⟩ = some (.int .i64 (d : Int))) := Lib.hid (fun W' h => ⟨(HV.out.below h).c0, (HV.out.below h).c1⟩)
          clear a0 a1
          have hc4 := HO.out.cap
          refine wp_region_held_drew (S := fun W' => Below w8.heap.size w8 W') (by kernel_rfl) (Below.refl _ _).drew (fun hHeld => ?_)
          generalize w8.drew = w9 at hHeld ⊢
          have HB9 : Hid (Below w8.heap.size w8 w9) := hHeld
          clear hHeld
          have hs8 := HB.out.size
          obtain ⟨q, hq⟩ : ∃ q, q = n4 / 2 := ⟨_, rfl⟩
          have hwr := half6 n4 hn6
          rw [← hq] at hwr
          have hqc : q ≤ c4 := by omega
          have hqn : q ≤ n4 := by omega
          clear hq
          refine take_in (i := 1) (oi := ⟨_, _, _, _, _, _⟩) (v := ?_) rfl (by kernel_rfl) (by kernel_rfl) (by kernel_rfl) (fun _ _ _ h => h) (by rfl) ?_ HB9.out ?_
          rotate_left
          · intro W hW; go_simp; with_reducible rfl
          simp only [Act.put, List.setIfInBounds_toArray, List.set_cons_zero, List.set_cons_succ]
          refine take_in (i := 3) (oi := ⟨_, _, _, _, _, _⟩) (v := ?_) rfl (by kernel_rfl) (by kernel_rfl) (by kernel_rfl) (fun _ _ _ h => h) (by rfl) ?_ HB9.out ?_
          rotate_left
          · intro W hW; go_simp; with_reducible rfl
          simp only [Act.put, List.setIfInBounds_toArray, List.set_cons_zero, List.set_cons_succ]
          refine take_in (i := 4) (oi := ⟨_, _, _, _, _, _⟩) (v := ?_) rfl (by kernel_rfl) (by kernel_rfl) (by kernel_rfl) (fun _ _ _ h => h) (by rfl) ?_ HB9.out ?_
          rotate_left
          · intro W hW; go_simp; with_reducible rfl
          simp only [Act.put, List.setIfInBounds_toArray, List.set_cons_zero, List.set_cons_succ]
          refine take_in (i := 5) (oi := ⟨_, _, _, _, _, _⟩) (v := ?_) rfl (by kernel_rfl) (by kernel_rfl) (by kernel_rfl) (fun _ _ _ h => h) (by rfl) ?_ HB9.out ?_
          rotate_left
          · intro W hW; go_simp; with_reducible rfl
          simp only [Act.put, List.setIfInBounds_toArray, List.set_cons_zero, List.set_cons_succ]
          refine take_in (i := 6) (oi := ⟨_, _, _, _, _, _⟩) (v := ?_) rfl (by kernel_rfl) (by kernel_rfl) (by kernel_rfl) (fun _ _ _ h => h) (by rfl) ?_ HB9.out ?_
          rotate_left
          · intro W hW; go_simp; with_reducible rfl
          simp only [Act.put, List.setIfInBounds_toArray, List.set_cons_zero, List.set_cons_succ]
          clear hwr
          refine take_in (i := 7) (oi := ⟨_, _, _, _, _, _⟩) (v := ?_) rfl (by kernel_rfl) (by kernel_rfl) (by kernel_rfl) (fun _ _ _ h => h) (by rfl) ?_ HB9.out ?_
          rotate_left
          · intro W hW; go_simp; with_reducible rfl
          simp only [Act.put, List.setIfInBounds_toArray, List.set_cons_zero, List.set_cons_succ]
          refine wpAnyH_ready (rs := [0]) (by kernel_rfl) (by simp) ?_
          refine AllReadyH.cons (o := ⟨_, _, _, _, _, _⟩) rfl (fun K hK => ?_) AllReadyH.nil
          go_simp
          refine hK.out _ _ (bal HB9.out (Nat.le_refl _) _) (fun _ => ?_)
          clear hK K
          refine wpAnyH_ready (rs := [2]) (by kernel_rfl) (by simp) ?_
          refine AllReadyH.cons (o := ⟨_, _, _, _, _, _⟩) rfl (fun K hK => ?_) AllReadyH.nil
          refine op_copyI (.tmp 65) (.tmp 66) rfl w9 rfl w.heap.size A n c p rfl HN.out (HR.out.below (HB.out.trans (HB9.out.mono HB.out.size))) (Nat.le_trans hs8 HB9.out.size) (by omega) ?_
          intro A10 c10 w10 ho10 hb10
          have HO4 := Lib.hid ((HO.out.rd.below (HB9.out.trans (hb10.mono HB9.out.size))).take q)
          have HO10 := Lib.hid ho10; clear ho10
          have hs10 := hb10.size
          have HB10 := Lib.hid (HB9.out.trans (hb10.mono HB9.out.size)); clear hb10
          refine hK.out _ _ HB10.out (fun _ => ?_)
          clear hK K
          simp only [Act.put, List.setIfInBounds_toArray, List.set_cons_zero, List.set_cons_succ]
          refine wpAnyH_ready (rs := [8]) (by kernel_rfl) (by simp) ?_
          refine AllReadyH.cons (o := ⟨_, _, _, _, _, _⟩) rfl (fun K hK => ?_) AllReadyH.nil
          refine op_appI (.tmp 67) (.tmp 72) rfl w9.heap.size A10 n c10 p rfl HO10.out w8.heap.size A4 q c4 ((oth p 6).take q) rfl (by rw [List.length_take, ← HO.out.1]; omega) (by rw [List.map_take]; exact HO4.out) (by omega) hs10 ?_
          intro A11 c11 w11 ho11 hb11
          have HO11 := Lib.hid ho11; clear ho11
          have HB11 := Lib.hid (HB10.out.trans (hb11.mono HB9.out.size)); clear hb11
          refine hK.out _ _ HB11.out (fun _ => ?_)
          clear hK K
          simp only [Act.put, List.setIfInBounds_toArray, List.set_cons_zero, List.set_cons_succ]
          refine take_in (i := 9) (oi := ⟨_, _, _, _, _, _⟩) (v := ?_) rfl (by kernel_rfl) (by kernel_rfl) (by kernel_rfl) (fun _ _ _ h => h) (by rfl) ?_ HB11.out ?_
          rotate_left
          · intro W hW; go_simp; with_reducible rfl
          simp only [Act.put, List.setIfInBounds_toArray, List.set_cons_zero, List.set_cons_succ]
          refine wpAnyH_done (by kernel_rfl) ?_ _
          have hq := HKK.out w11 HB11.out
          go_wp2_with fail
          refine (enough_c a d ha hd A n c p HN.out h47 w.heap.size _ (HR.out.below (HB.out.trans (HB11.out.mono hs8))) (Nat.le_trans hs8 HB11.out.size)).mono ?_
          rw [HE.out]
          rintro e w12 ⟨rfl, hb12⟩
          have HO12 := Lib.hid (HO11.out.below hb12 (Nat.le_refl _))
          have HB12 := Lib.hid (HB11.out.trans (hb12.mono HB11.out.size)); clear hb12 hq
          have hq := HKK.out w12 HB12.out
          go_wp2_with fail
          refine (enough_c a d ha hd A11 (n + q) c11 _ HO12.out.1 (by omega) _ _ HO12.out.rd (Nat.le_refl _)).mono ?_
          rw [enough_more a d p _ HE.out]
          rintro e w13 ⟨rfl, hb13⟩
          have HB13 := Lib.hid (HB12.out.trans (hb13.mono HB12.out.size)); clear hb13 hq
          go_wp2
          go_ret
          exact ⟨rfl, HB.out.trans (HB13.out.mono hs8)⟩
        · have h5 : 0 < n5 := of_decide_eq_true HV5.out
          clear HV5
          go_wp2
          have HKK : Hid (∀ W', Below w8.heap.size w8 W' → W'.cell? ⟨w.heap.size, 0, none⟩ = some (.int .i64 (a : Int)) ∧ W'.cell? ⟨w.heap.size, 1, none⟩ = some (.int .i64 (d : Int))) := Lib.hid (fun W' h => ⟨(HV.out.below h).c0, (HV.out.below h).c1⟩)
          clear a0 a1
          have hc4 := HO.out.cap
          refine wp_region_held_drew (S := fun W' => Below w8.heap.size w8 W') (by kernel_rfl) (Below.refl _ _).drew (fun hHeld => ?_)
          generalize w8.drew = w9 at hHeld ⊢
          have HB9 : Hid (Below w8.heap.size w8 w9) := hHeld
          clear hHeld
          have hs8 := HB.out.size
          obtain ⟨q, hq⟩ : ∃ q, q = n4 / 2 := ⟨_, rfl⟩
          have hwr := half6 n4 hn6
          rw [← hq] at hwr
          have hqc : q ≤ c4 := by omega
          have hqn : q ≤ n4 := by omega
          clear hq
          refine take_in (i := 1) (oi := ⟨_, _, _, _, _, _⟩) (v := ?_) rfl (by kernel_rfl) (by kernel_rfl) (by kernel_rfl) (fun _ _ _ h => h) (by rfl) ?_ HB9.out ?_
          rotate_left
          · intro W hW; go_simp; with_reducible rfl
          simp only [Act.put, List.setIfInBounds_toArray, List.set_cons_zero, List.set_cons_succ]
          refine take_in (i := 3) (oi := ⟨_, _, _, _, _, _⟩) (v := ?_) rfl (by kernel_rfl) (by kernel_rfl) (by kernel_rfl) (fun _ _ _ h => h) (by rfl) ?_ HB9.out ?_
          rotate_left
          · intro W hW; go_simp; with_reducible rfl
          simp only [Act.put, List.setIfInBounds_toArray, List.set_cons_zero, List.set_cons_succ]
          refine take_in (i := 4) (oi := ⟨_, _, _, _, _, _⟩) (v := ?_) rfl (by kernel_rfl) (by kernel_rfl) (by kernel_rfl) (fun _ _ _ h => h) (by rfl) ?_ HB9.out ?_
          rotate_left
          · intro W hW; go_simp; with_reducible rfl
          simp only [Act.put, List.setIfInBounds_toArray, List.set_cons_zero, List.set_cons_succ]
          refine take_in (i := 5) (oi := ⟨_, _, _, _, _, _⟩) (v := ?_) rfl (by kernel_rfl) (by kernel_rfl) (by kernel_rfl) (fun _ _ _ h => h) (by rfl) ?_ HB9.out ?_
          rotate_left
          · intro W hW; go_simp; with_reducible rfl
          simp only [Act.put, List.setIfInBounds_toArray, List.set_cons_zero, List.set_cons_succ]
          refine take_in (i := 6) (oi := ⟨_, _, _, _, _, _⟩) (v := ?_) rfl (by kernel_rfl) (by kernel_rfl) (by kernel_rfl) (fun _ _ _ h => h) (by rfl) ?_ HB9.out ?_
          rotate_left
          · intro W hW; go_simp; with_reducible rfl
          simp only [Act.put, List.setIfInBounds_toArray, List.set_cons_zero, List.set_cons_succ]
          clear hwr
          refine take_in (i := 7) (oi := ⟨_, _, _, _, _, _⟩) (v := ?_) rfl (by kernel_rfl) (by kernel_rfl) (by kernel_rfl) (fun _ _ _ h => h) (by rfl) ?_ HB9.out ?_
          rotate_left
          · intro W hW; go_simp; with_reducible rfl
          simp only [Act.put, List.setIfInBounds_toArray, List.set_cons_zero, List.set_cons_succ]
          refine wpAnyH_ready (rs := [0]) (by kernel_rfl) (by simp) ?_
          refine AllReadyH.cons (o := ⟨_, _, _, _, _, _⟩) rfl (fun K hK => ?_) AllReadyH.nil
          go_simp
          refine hK.out _ _ (bal HB9.out (Nat.le_refl _) _) (fun _ => ?_)
          clear hK K
          refine wpAnyH_ready (rs := [2]) (by kernel_rfl) (by simp) ?_
          refine AllReadyH.cons (o := ⟨_, _, _, _, _, _⟩) rfl (fun K hK => ?_) AllReadyH.nil
          refine op_copyI (.tmp 65) (.tmp 66) rfl w9 rfl w.heap.size A n c p rfl HN.out (HR.out.below (HB.out.trans (HB9.out.mono HB.out.size))) (Nat.le_trans hs8 HB9.out.size) (by omega) ?_
          intro A10 c10 w10 ho10 hb10
          have HO4 := Lib.hid ((HO.out.rd.below (HB9.out.trans (hb10.mono HB9.out.size))).take q)
          have HO10 := Lib.hid ho10; clear ho10
          have hs10 := hb10.size
          have HB10 := Lib.hid (HB9.out.trans (hb10.mono HB9.out.size)); clear hb10
          refine hK.out _ _ HB10.out (fun _ => ?_)
          clear hK K
          simp only [Act.put, List.setIfInBounds_toArray, List.set_cons_zero, List.set_cons_succ]
          refine wpAnyH_ready (rs := [8]) (by kernel_rfl) (by simp) ?_
          refine AllReadyH.cons (o := ⟨_, _, _, _, _, _⟩) rfl (fun K hK => ?_) AllReadyH.nil
          refine op_appI (.tmp 67) (.tmp 72) rfl w9.heap.size A10 n c10 p rfl HO10.out w8.heap.size A4 q c4 ((oth p 6).take q) rfl (by rw [List.length_take, ← HO.out.1]; omega) (by rw [List.map_take]; exact HO4.out) (by omega) hs10 ?_
          intro A11 c11 w11 ho11 hb11
          have HO11 := Lib.hid ho11; clear ho11
          have HB11 := Lib.hid (HB10.out.trans (hb11.mono HB9.out.size)); clear hb11
          refine hK.out _ _ HB11.out (fun _ => ?_)
          clear hK K
          simp only [Act.put, List.setIfInBounds_toArray, List.set_cons_zero, List.set_cons_succ]
          refine take_in (i := 9) (oi := ⟨_, _, _, _, _, _⟩) (v := ?_) rfl (by kernel_rfl) (by kernel_rfl) (by kernel_rfl) (fun _ _ _ h => h) (by rfl) ?_ HB11.out ?_
          rotate_left
          · intro W hW; go_simp; with_reducible rfl
          simp only [Act.put, List.setIfInBounds_toArray, List.set_cons_zero, List.set_cons_succ]
          refine wpAnyH_done (by kernel_rfl) ?_ _
          have hq := HKK.out w11 HB11.out
          go_wp2_with fail
          refine (enough_c a d ha hd A n c p HN.out h47 w.heap.size _ (HR.out.below (HB.out.trans (HB11.out.mono hs8))) (Nat.le_trans hs8 HB11.out.size)).mono ?_
          rw [HE.out]
          rintro e w12 ⟨rfl, hb12⟩
          have HO12 := Lib.hid (HO11.out.below hb12 (Nat.le_refl _))
          have HB12 := Lib.hid (HB11.out.trans (hb12.mono HB11.out.size)); clear hb12 hq
          have hq := HKK.out w12 HB12.out
          go_wp2_with fail
          refine (enough_c a d ha hd A11 (n + q) c11 _ HO12.out.1 (by omega) _ _ HO12.out.rd (Nat.le_refl _)).mono ?_
          rw [enough_more a d p _ HE.out]
          rintro e w13 ⟨rfl, hb13⟩
          have HB13 := Lib.hid (HB12.out.trans (hb13.mono HB12.out.size)); clear hb13 hq
          go_wp2
          go_ret
          exact ⟨rfl, HB.out.trans (HB13.out.mono hs8)⟩
end Go.Proofs.Ytofjdfnoibfdfaa.viewHalves
