/- What In, Members, Enough of package view answer: contracts by walks. -/
import Derived.Test.YtofjdfnoibfdfaaVwT
import Derived.Test.YtofjdfnoibfdfaaChgC
namespace Go.Proofs.Ytofjdfnoibfdfaa
open Go.RowKit
open Chg Vw

theorem shr1_all : ∀ (d : Fin 64) (k : Fin 6), bits .and .i64 ((d.1 : Int) / 2 ^ k.1) 1 = if d.1.testBit k.1 then 1 else 0 := by decide +kernel
theorem shr1 (d k : Nat) (hd : d < 64) (hk : k < 6) : bits .and .i64 ((d : Int) / 2 ^ k) 1 = if d.testBit k then 1 else 0 := shr1_all ⟨d, hd⟩ ⟨k, hk⟩
theorem in_no_c (a d n : Int) (hn : n < 0 ∨ 5 < n) (w : World) : Calls Try.prog 13 #[vw a d, .int .i64 n] w fun e w' => e = .returned (.bool false) ∧ Below w.heap.size w w' := by
  unfold vw
  rcases hn with h | h
  · go_enter Try.func13, Try.ntmps13
    go_wp2
    go_ret
    exact ⟨rfl, bal (Below.refl _ _) (Nat.le_refl _) _⟩
  · have h2 : ¬ n < 0 := by omega
    have h3 : 6 ≤ n := by omega
    clear h
    go_enter Try.func13, Try.ntmps13
    go_wp2
    go_ret
    exact ⟨rfl, bal (Below.refl _ _) (Nat.le_refl _) _⟩
theorem in_k_c (a d : Nat) (ha : a < 64) (hd : d < 64) (k : Nat) (hk : k < 6) (w : World) : Calls Try.prog 13 #[vw a d, .int .i64 (k : Int)] w fun e w' => e = .returned (.bool (inF a d k)) ∧ Below w.heap.size w w' := by
  have h1 : ¬ (k : Int) < 0 := by omega
  have h2 : ¬ (6 : Int) ≤ (k : Int) := by omega
  have HF : Hid (inF a d k = (a.testBit k && !d.testBit k)) := Lib.hid rfl
  have HA := Lib.hid (shr1 a k ha hk)
  have HD := Lib.hid (shr1 d k hd hk)
  unfold vw
  go_enter Try.func13, Try.ntmps13
  go_wp2
  · rename_i h
    go_ret
    refine ⟨ret_bool ?_, bal (Below.refl _ _) (Nat.le_refl _) _⟩
    have e1 := HA.out
    rw [h] at e1
    rw [HF.out, HD.out]
    revert e1
    cases a.testBit k <;> cases d.testBit k <;> decide
  · rename_i h
    go_ret
    refine ⟨ret_bool ?_, bal (Below.refl _ _) (Nat.le_refl _) _⟩
    rw [HA.out] at h
    rw [HF.out]
    revert h
    cases a.testBit k <;> simp
theorem in_c (a d : Nat) (ha : a < 64) (hd : d < 64) (n : Int) (hn : -9223372036854775808 ≤ n ∧ n ≤ 9223372036854775807) (w : World) : Calls Try.prog 13 #[vw a d, .int .i64 n] w fun e w' => e = .returned (.bool (inN a d n)) ∧ Below w.heap.size w w' := by
  by_cases h : 0 ≤ n ∧ n ≤ 5
  · obtain ⟨k, rfl⟩ : ∃ k : Nat, n = (k : Int) := ⟨n.toNat, by omega⟩
    have := in_k_c a d ha hd k (by omega) w
    rwa [show inF a d k = inN a d (k : Int) from by unfold inN; rw [decide_eq_true h]; simp] at this
  · have := in_no_c a d n (by omega) w
    rwa [show false = inN a d n from by unfold inN; rw [decide_eq_false h]; simp] at this
theorem members_c (a d : Nat) (ha : a < 64) (hd : d < 64) (w : World) : Calls Try.prog 17 #[vw a d] w (RetOwnI w w.heap.size (members a d)) := by
  unfold vw
  go_enter Try.func17, Try.ntmps17
  go_wp2
  go_loopw [3, 5] (fun x i wr => ∃ (A : Option Addr) (n c k : Nat), x = .slice A n c ∧ i = .int .i64 k ∧ k ≤ 6 ∧ OwnI wr (w.heap.size + 1) A n c (memK a d k) ∧ Vx wr w.heap.size a d ∧ w.heap.size + 1 ≤ wr.heap.size ∧ Below w.heap.size w wr) (fun _ i _ => 6 - (intOf i).toNat)
  case atStart => exact ⟨_, 0, 0, 0, rfl, rfl, by omega, ownI_none _ _, hat _ _ _ rfl, by simp, bal (Below.refl _ _) (Nat.le_refl _) _⟩
  case round =>
    obtain ⟨A, n, c, k, rfl, rfl, hk, ho, hv, hs, hb⟩ := hrel
    have hn6 : n ≤ 6 := by rw [ho.1]; exact Nat.le_trans (memK_len a d k) hk
    have HO := Lib.hid ho; have HV := Lib.hid hv; have HB := Lib.hid hb
    clear ho hv hb
    by_cases h : k < 6
    · have c0 := HV.out.c0; have c1 := HV.out.c1
      go_wp2_with fail
      refine (in_k_c a d ha hd k h _).mono ?_
      rintro e w2 ⟨rfl, hb2⟩
      have HO := Lib.hid (HO.out.below hb2 (Nat.le_refl _))
      have HV := Lib.hid (HV.out.below hb2 (by omega))
      have HB := Lib.hid (HB.out.trans (hb2.mono (by omega)))
      have hs2 := Nat.le_trans hs hb2.size
      clear hb2 c0 c1
      have HM : Hid (memK a d (k + 1) = memK a d k ++ if inF a d k then [(k : Int)] else []) := Lib.hid rfl
      cases hx : inF a d k with
      | false =>
        rw [hx] at HM
        clear hx
        go_wp2
        refine ⟨⟨A, n, c, k + 1, rfl, by go_num, by omega, ?_, HV.out, hs2, HB.out⟩, by simp [intOf]; omega⟩
        rw [HM.out]
        simpa using HO.out
      | true =>
        rw [hx] at HM
        clear hx
        go_wp2_with (at_builtin; refine wp_appI rfl (.tmp 11) (.tmp 13) rfl (w.heap.size + 1) A n c _ rfl (HO.out.alloc _) _ _ 1 1 [(k : Int)] rfl rfl (rdI_any w2 [(k : Int)]) (by omega) (by simp; omega) ?_; intro A3 c3 w3 ho3 hb3)
        have hs3 := hb3.size
        rw [World.size_alloc] at hs3
        refine ⟨⟨A3, n + 1, c3, k + 1, rfl, by go_num, by omega, ?_, Vx.below (hbe HV.out) hb3 (by omega), by omega, (bal HB.out (Nat.le_refl _) _).trans (hb3.mono (by omega))⟩, by simp [intOf]; omega⟩
        rw [HM.out]
        exact ho3
    · go_wp2
      go_ret
      obtain rfl : k = 6 := by omega
      exact ⟨A, n, c, rfl, HO.out.base (by omega), HB.out⟩
theorem index_c (A : Option Addr) (n c : Nat) (ls : List Int) (hn : n = ls.length) (hl : n ≤ 140737488355328) (z : Int) (B : Nat) (w : World) (hr : Rd w B A (ls.map (Value.int .i64))) :
    Calls Try.prog 43 #[.slice A n c, .int .i64 z] w fun e w' => (∃ i : Int, e = .returned (.int .i64 i) ∧ (0 ≤ i ↔ z ∈ ls)) ∧ w = w' := by
  have HN := Lib.hid hn; clear hn
  have HR := Lib.hid hr; clear hr
  go_enter Try.func43, Try.ntmps43
  go_wp2
  go_loop [8] (fun i => ∃ j : Nat, i = .int .i64 j ∧ j ≤ n ∧ (ls.take j).contains z = false) (fun i => n - (intOf i).toNat)
  case atStart => exact ⟨0, rfl, by omega, rfl⟩
  case round =>
    obtain ⟨j, rfl, hj, hno⟩ := hrel
    have HO := Lib.hid hno; clear hno
    by_cases h2 : j < n
    · obtain ⟨b2, o2, rfl, _, hcell2⟩ := HR.out (by rw [List.length_map, ← HN.out]; omega)
      have hjl : j < ls.length := by rw [← HN.out]; exact h2
      have hz2 : ls[j]? = some ls[j] := List.getElem?_eq_getElem hjl
      have hc1 := hcell2 j (.int .i64 ls[j]) (by simp [hjl])
      generalize ls[j] = y at hz2 hc1
      have HC := Lib.hid (contains_take ls j y z hz2)
      have HM := Lib.hid (List.mem_of_getElem? hz2)
      clear hz2 hcell2 hjl
      by_cases hq : z = y
      · subst hq
        go_wp2
        go_ret
        exact ⟨⟨j, rfl, fun _ => HM.out, fun _ => by omega⟩, rfl⟩
      · have hq2 : (z == y) = false := by rw [beq_eq_false_iff_ne]; exact hq
        go_wp2
        refine ⟨⟨j + 1, by go_num, by omega, ?_⟩, by simp [intOf]; omega⟩
        rw [HC.out, HO.out, Bool.false_or, BEq.comm]
        exact hq2
    · obtain rfl : j = n := by omega
      go_wp2
      go_ret
      refine ⟨⟨-1, rfl, fun h => by omega, fun h => ?_⟩, rfl⟩
      have e := HO.out
      rw [List.take_of_length_le (by rw [← HN.out]; omega)] at e
      rw [List.contains_iff_mem.2 h] at e
      cases e
theorem contains_c (A : Option Addr) (n c : Nat) (ls : List Int) (hn : n = ls.length) (hl : n ≤ 140737488355328) (z : Int) (B : Nat) (w : World) (hr : Rd w B A (ls.map (Value.int .i64))) :
    Calls Try.prog 31 #[.slice A n c, .int .i64 z] w fun e w' => e = .returned (.bool (ls.contains z)) ∧ w = w' := by
  have HI := Lib.hid (index_c A n c ls hn hl z B w hr)
  clear hn hr
  go_enter Try.func31, Try.ntmps31
  go_wp2_with fail
  refine HI.out.mono ?_
  rintro e w2 ⟨⟨i, rfl, hi⟩, rfl⟩
  have HE := Lib.hid hi; clear hi HI
  go_wp2
  go_ret
  refine ⟨ret_bool ?_, rfl⟩
  rw [Bool.eq_iff_iff, decide_eq_true_iff, List.contains_iff_mem]
  exact HE.out
theorem with_both (who l : List Int) : withL who l + withoutL who l = l.length := by
  unfold withL withoutL
  induction l with
  | nil => rfl
  | cons x l ih =>
    simp only [List.filter_cons]
    cases who.contains x
    · simp only [Bool.not_false, if_true, Bool.false_eq_true, if_false, List.length_cons]; omega
    · simp only [Bool.not_true, if_true, Bool.false_eq_true, if_false, List.length_cons]; omega
theorem withL_snoc (who l : List Int) (z : Int) : withL who (l ++ [z]) = withL who l + if who.contains z then 1 else 0 := by
  unfold withL
  rw [List.filter_append, List.length_append]
  congr 1
  simp only [List.filter_cons, List.filter_nil]
  cases who.contains z <;> rfl
theorem enough_two (a d : Nat) (who : List Int) : enough a d who = decide (((members a d).length : Int) < 2 * ((withL who (members a d) : Nat) : Int)) := by
  have h := with_both who (members a d)
  unfold enough
  rw [Bool.eq_iff_iff, decide_eq_true_iff, decide_eq_true_iff]
  omega
set_option maxHeartbeats 1000000 in
theorem enough_c (a d : Nat) (ha : a < 64) (hd : d < 64) (A : Option Addr) (n c : Nat) (who : List Int) (hn : n = who.length) (hl : n ≤ 140737488355328) (B : Nat) (w : World) (hr : Rd w B A (who.map (Value.int .i64))) (hB : B ≤ w.heap.size) :
    Calls Try.prog 12 #[vw a d, .slice A n c] w fun e w' => e = .returned (.bool (enough a d who)) ∧ Below w.heap.size w w' := by
  have HN := Lib.hid hn; clear hn
  have HR := Lib.hid hr; clear hr
  unfold vw
  go_enter Try.func12, Try.ntmps12
  go_wp2
  go_loopw [5, 6, 8] (fun x y i wr => ∃ k : Nat, x = .int .i64 (((memK a d k).length : Nat) : Int) ∧ y = .int .i64 ((withL who (memK a d k) : Nat) : Int) ∧ i = .int .i64 k ∧ k ≤ 6 ∧ Vx wr w.heap.size a d ∧ Below w.heap.size w wr) (fun _ _ i _ => 6 - (intOf i).toNat)
  case atStart => exact ⟨0, rfl, rfl, rfl, by omega, hat _ _ _ rfl, bal (Below.refl _ _) (Nat.le_refl _) _⟩
  case round =>
    obtain ⟨k, rfl, rfl, rfl, hk, hv, hb⟩ := hrel
    have hx6 := Nat.le_trans (memK_len a d k) hk
    have hy6 := Nat.le_trans (withL_le who (memK a d k)) hx6
    have HM : Hid (memK a d (k + 1) = memK a d k ++ if inF a d k then [(k : Int)] else []) := Lib.hid rfl
    have HE : Hid (k = 6 → enough a d who = decide (((memK a d k).length : Int) < 2 * ((withL who (memK a d k) : Nat) : Int))) := Lib.hid (fun h => by rw [h]; exact enough_two a d who)
    generalize memK a d k = mk at hx6 hy6 HM HE ⊢
    have HW := Lib.hid (withL_snoc who mk (k : Int))
    obtain ⟨x, hx⟩ : ∃ x, x = mk.length := ⟨_, rfl⟩
    obtain ⟨y, hy⟩ : ∃ y, y = withL who mk := ⟨_, rfl⟩
    rw [← hx] at hx6 ⊢
    rw [← hy] at hy6 ⊢
    have HX := Lib.hid hx; have HY := Lib.hid hy
    clear hx hy
    have HV := Lib.hid hv; have HB := Lib.hid hb
    have hsz := hb.size
    clear hv hb
    by_cases h : k < 6
    · have c0 := HV.out.c0; have c1 := HV.out.c1
      go_wp2_with fail
      refine (in_k_c a d ha hd k h _).mono ?_
      rintro e w2 ⟨rfl, hb2⟩
      have HV := Lib.hid (HV.out.below hb2 HV.out.lt)
      have HB := Lib.hid (HB.out.trans (hb2.mono hsz))
      clear hb2 c0 c1
      cases hi : inF a d k with
      | false =>
        rw [hi] at HM
        clear hi
        go_wp2
        refine ⟨⟨k + 1, ?_, ?_, by go_num, by omega, HV.out, HB.out⟩, by simp [intOf]; omega⟩
        · rw [HM.out, HX.out]; simp
        · rw [HM.out, HY.out]; simp
      | true =>
        rw [hi] at HM
        clear hi
        have HR2 := Lib.hid (HR.out.below (HB.out.mono hB))
        go_wp2_with fail
        refine (contains_c A n c who HN.out hl (k : Int) B _ HR2.out).mono ?_
        rintro e w3 ⟨rfl, rfl⟩
        cases hq : who.contains (k : Int)
        all_goals
          rw [hq] at HW
          clear hq
          go_wp2
          refine ⟨⟨k + 1, ?_, ?_, by go_num, by omega, HV.out, HB.out⟩, by simp [intOf]; omega⟩
          · rw [HM.out, HX.out]; simp
          · rw [HM.out]
            show _ = Value.int .i64 ((withL who (mk ++ [(k : Int)]) : Nat) : Int)
            rw [HW.out, ← HY.out]
            simp
    · obtain rfl : k = 6 := by omega
      have HE2 := Lib.hid (HE.out rfl)
      clear HE
      go_wp2
      go_ret
      refine ⟨ret_bool ?_, HB.out⟩
      rw [HE2.out, ← HX.out, ← HY.out]
end Go.Proofs.Ytofjdfnoibfdfaa
