/- What the functions of package change answer: contracts by walks. -/
import Derived.Test.YtofjdfnoibfdfaaChgW
namespace Go.Proofs.Ytofjdfnoibfdfaa
open Go.RowKit
open Chg

theorem ret_i64 {a b : Int} (h : a = b) : Ending.returned (.int .i64 a) = .returned (.int .i64 b) := by rw [h]
theorem ones64_c (x : Nat) (hx : x < 64) (w : World) : Calls Try.prog 65 #[.int .u64 (x : Int)] w fun e w' => e = .returned (.int .i64 ((cnt x : Nat) : Int)) ∧ w = w' := by
  go_enter Try.func65, Try.ntmps65
  go_wp2
  go_ret
  refine ⟨ret_i64 ?_, rfl⟩
  obtain ⟨y, rfl⟩ : ∃ y : Fin 64, x = y.val := ⟨⟨x, hx⟩, rfl⟩
  clear hx w
  revert y
  decide +kernel
theorem ones_c (x : Nat) (hx : x < 64) (w : World) : Calls Try.prog 57 #[.int .u64 (x : Int)] w fun e w' => e = .returned (.int .i64 ((cnt x : Nat) : Int)) ∧ w = w' := by
  go_enter Try.func57, Try.ntmps57
  go_wp2_with fail
  refine (ones64_c x hx _).mono ?_
  rintro e w2 ⟨rfl, rfl⟩
  go_wp2
  go_ret
  exact ⟨rfl, rfl⟩
theorem size_c (a d : Nat) (ha : a < 64) (hd : d < 64) (w : World) : Calls Try.prog 41 #[vw a d] w fun e w' => e = .returned (.int .i64 ((cnt a + cnt d : Nat) : Int)) ∧ Below w.heap.size w w' := by
  have hca := cnt_le a
  have hcd := cnt_le d
  unfold vw
  go_enter Try.func41, Try.ntmps41
  go_wp2_with fail
  go_quiet (first | (go_at_call 57; refine Calls.quiet_of_same ((ones_c _ ?_ _).mono fun _ _ h => ⟨h.1, h.2.symm⟩); assumption))
  go_wp2
  go_ret
  exact ⟨ret_i64 (by omega), (bal (Below.refl _ _) (Nat.le_refl _) _).trans ⟨rfl, rfl, rfl, Nat.le_refl _, fun _ _ => rfl⟩⟩
theorem rn_c (a : Int) (w : World) : Calls Try.prog 36 #[.int .i64 a] w fun e w' => e = .returned (.bool (decide (0 ≤ a ∧ a ≤ 63))) ∧ w = w' := by
  go_enter Try.func36, Try.ntmps36
  go_wp2
  all_goals go_ret
  all_goals refine ⟨ret_bool ?_, rfl⟩
  all_goals
    rw [Bool.eq_iff_iff]
    simp
    omega
theorem right_c (a d : Int) (w : World) : Calls Try.prog 25 #[vw a d] w fun e w' => e = .returned (.bool (rightB a d)) ∧ Below w.heap.size w w' := by
  unfold vw
  go_enter Try.func25, Try.ntmps25
  go_wp2_with fail
  refine (rn_c a _).mono ?_
  rintro e w2 ⟨rfl, rfl⟩
  by_cases h : 0 ≤ a ∧ a ≤ 63
  · rw [decide_eq_true h]
    go_wp2_with fail
    refine (rn_c d _).mono ?_
    rintro e w2 ⟨rfl, rfl⟩
    go_wp2
    go_ret
    refine ⟨ret_bool ?_, bal (Below.refl _ _) (Nat.le_refl _) _⟩
    unfold rightB
    rw [Bool.eq_iff_iff]
    simp
    omega
  · rw [decide_eq_false h]
    go_wp2
    go_ret
    refine ⟨ret_bool ?_, bal (Below.refl _ _) (Nat.le_refl _) _⟩
    unfold rightB
    rw [Bool.eq_iff_iff]
    simp
    omega
theorem name_c (a d : Nat) (ha : a < 64) (hd : d < 64) (w : World) : Calls Try.prog 42 #[vw a d] w fun e w' => e = .returned (.int .i64 ((64 * a + d : Nat) : Int)) ∧ Below w.heap.size w w' := by
  unfold vw
  go_enter Try.func42, Try.ntmps42
  go_wp2
  go_ret
  exact ⟨ret_i64 (by omega), bal (Below.refl _ _) (Nat.le_refl _) _⟩
theorem andnot64 (a b : Nat) (ha : a < 64) (hb : b < 64) : bits .andNot .i64 (a : Int) (b : Int) = ((minus a b : Nat) : Int) := by
  have h : ∀ a b : Fin 64, bits .andNot .i64 (a.val : Int) (b.val : Int) = ((minus a.val b.val : Nat) : Int) := by decide +kernel
  exact h ⟨a, ha⟩ ⟨b, hb⟩
theorem or64 (a b : Nat) (ha : a < 64) (hb : b < 64) : bits .or .i64 (a : Int) (b : Int) = ((a ||| b : Nat) : Int) := by
  have h : ∀ a b : Fin 64, bits .or .i64 (a.val : Int) (b.val : Int) = ((a.val ||| b.val : Nat) : Int) := by decide +kernel
  exact h ⟨a, ha⟩ ⟨b, hb⟩
theorem joinF_snoc (vs : List (Nat × Nat)) (k : Nat) (v : Nat × Nat) (h : vs[k]? = some v) (h1 : v.1 < 64) (h2 : v.2 < 64) : joinF (vs.take (k + 1)) = ((joinF (vs.take k)).1 ||| v.1, (joinF (vs.take k)).2 ||| v.2) := by
  have l1 := setF_lt (anyA (vs.take k))
  have l2 := setF_lt (anyD (vs.take k))
  show (setF (anyA (vs.take (k + 1))), setF (anyD (vs.take (k + 1)))) = (setF (anyA (vs.take k)) ||| v.1, setF (anyD (vs.take k)) ||| v.2)
  rw [← setF_or _ _ l1 h1, ← setF_or _ _ l2 h2]
  congr 1
  · exact setF_congr fun i hi => by rw [setF_bit _ i hi, anyA_take vs k v h]
  · exact setF_congr fun i hi => by rw [setF_bit _ i hi, anyD_take vs k v h]
theorem join_c (A : Option Addr) (n c : Nat) (vs : List (Nat × Nat)) (hn : n = vs.length) (hl : n ≤ 140737488355328) (h64 : ∀ v ∈ vs, v.1 < 64 ∧ v.2 < 64) (B : Nat) (w : World) (hr : Rv w B A vs) (hB : B ≤ w.heap.size) :
    Calls Try.prog 26 #[.slice A n c] w fun e w' => e = .returned (vw (joinF vs).1 (joinF vs).2) ∧ Below w.heap.size w w' := by
  have HN := Lib.hid hn; clear hn
  have HR := Lib.hid hr; clear hr
  have H64 := Lib.hid h64; clear h64
  go_enter Try.func26, Try.ntmps26
  go_wp2
  go_loopw [8] (fun i wr => ∃ k : Nat, i = .int .i64 k ∧ k ≤ n ∧ Vx wr w.heap.size 0 0 ∧ Vx wr (w.heap.size + 1) (joinF (vs.take k)).1 (joinF (vs.take k)).2 ∧ Below w.heap.size w wr) (fun i _ => n - (intOf i).toNat)
  case atStart =>
    exact ⟨0, rfl, by omega, hbe (hat _ _ _ rfl), hat _ _ _ (by simp), bal (bal (Below.refl _ _) (Nat.le_refl _) _) (Nat.le_refl _) _⟩
  case round =>
    obtain ⟨k, rfl, hk, hv, hx, hbl⟩ := hrel
    have hlt := hx.lt
    have l1 : (joinF (vs.take k)).1 < 64 := setF_lt _
    have l2 : (joinF (vs.take k)).2 < 64 := setF_lt _
    have HP : Hid (∀ v, vs[k]? = some v → v.1 < 64 → v.2 < 64 → joinF (vs.take (k + 1)) = ((joinF (vs.take k)).1 ||| v.1, (joinF (vs.take k)).2 ||| v.2)) := Lib.hid (joinF_snoc vs k)
    have HQ : Hid (k = n → joinF vs = joinF (vs.take k)) := Lib.hid (fun h => by rw [List.take_of_length_le (by rw [← HN.out]; omega)])
    generalize joinF (vs.take k) = J at hx l1 l2 HP HQ
    obtain ⟨p, q⟩ := J
    have H1 := Lib.hid hv; have H2 := Lib.hid hx; have HB := Lib.hid hbl
    clear hv hx hbl
    by_cases h : k < n
    · obtain ⟨b, o, rfl, hbB, hcell⟩ := HR.out (by rw [← HN.out]; omega)
      have hkl : k < vs.length := by rw [← HN.out]; exact h
      have hz : vs[k]? = some vs[k] := List.getElem?_eq_getElem hkl
      have hc0 := hcell k vs[k] hz
      have hv64 := H64.out vs[k] (List.getElem_mem hkl)
      generalize vs[k] = v at hz hc0 hv64
      obtain ⟨va, vd⟩ := v
      have hca : wr.cell? ⟨b, o + k * 2, none⟩ = some (.int .i64 (va : Int)) := (HB.out.cell (by show b < _; omega)).trans hc0.1
      have hcd : wr.cell? ⟨b, o + k * 2 + 1, none⟩ = some (.int .i64 (vd : Int)) := (HB.out.cell (by show b < _; omega)).trans hc0.2
      have hva : va < 64 := hv64.1
      have hvd : vd < 64 := hv64.2
      have HJ : Hid (joinF (vs.take (k + 1)) = (p ||| va, q ||| vd)) := Lib.hid (HP.out _ hz hva hvd)
      clear hz hc0 hcell hkl hv64 HP HQ
      have z0 := H2.out.c0
      have z1 := H2.out.c1
      have z2 := frozen_of_row wr (w.heap.size + 1) 0 _ _ H2.out
      have z3 := frozen_of_row wr (w.heap.size + 1) 1 _ _ H2.out
      go_wp2
      rw [or64 p va l1 hva, or64 q vd l2 hvd]
      refine ⟨⟨k + 1, by go_num, by omega, hbe ((H1.out.other (by simp) _).other (by simp) _), ?_, bal ((HB.out.setCell (by simp) _).setCell (by simp) _) (by simp) _⟩, by simp [intOf]; omega⟩
      rw [HJ.out]
      exact hbe (H2.out.put _ _)
    · obtain rfl : k = n := by omega
      have HQ2 := Lib.hid (HQ.out rfl)
      clear HQ HP
      have z0 := H2.out.c0
      have z1 := H2.out.c1
      have y0 := H1.out.c0
      have y1 := H1.out.c1
      have y2 := frozen_of_row wr w.heap.size 0 _ _ H1.out
      have y3 := frozen_of_row wr w.heap.size 1 _ _ H1.out
      go_wp2
      refine bodyPost_ret (results_view (g := w.heap.size) rfl rfl (H1.out.put p q)) rfl ?_
      rw [HQ2.out]
      exact ⟨rfl, (HB.out.setCell (Nat.le_refl _) _).setCell (Nat.le_refl _) _⟩
theorem shl_w (m : Nat) (hm : m < 6) : wrap64 (2 ^ m) = (2 ^ m : Int) := by
  have h : ∀ m : Fin 6, wrap64 (2 ^ m.val) = (2 ^ m.val : Int) := by decide +kernel
  exact h ⟨m, hm⟩
theorem shl_or (m p : Nat) (hm : m < 6) (hp : p < 64) : bits .or .i64 (p : Int) (2 ^ m : Int) = ((p ||| 2 ^ m : Nat) : Int) := by
  have h : ∀ (p : Fin 64) (m : Fin 6), bits .or .i64 (p.val : Int) (2 ^ m.val : Int) = ((p.val ||| 2 ^ m.val : Nat) : Int) := by decide +kernel
  exact h ⟨p, hp⟩ ⟨m, hm⟩
theorem setF_hasN (ls : List Int) (k m : Nat) (hm : m < 6) (h : ls[k]? = some (m : Int)) : setF (hasN (ls.take (k + 1))) = setF (hasN (ls.take k)) ||| 2 ^ m := by
  have h2 : 2 ^ m < 64 := by
    obtain rfl | rfl | rfl | rfl | rfl | rfl : m = 0 ∨ m = 1 ∨ m = 2 ∨ m = 3 ∨ m = 4 ∨ m = 5 := by omega
    all_goals decide
  rw [← setF_or _ _ (setF_lt _) h2]
  refine setF_congr fun i hi => ?_
  rw [setF_bit _ i hi, ← hasN_take ls k m h, Nat.testBit_two_pow]
  by_cases e : i = m
  · subst e; simp
  · rw [if_neg e, decide_eq_false (fun x => e x.symm), Bool.or_false]
def nodesN (ls : List Int) : Nat := if ls.all okN then setF (hasN ls) else 0
theorem within_c (a d : Nat) (ha : a < 64) (hd : d < 64) (b c : Nat) (hb : b < 64) (hc : c < 64) (w : World) : Calls Try.prog 27 #[vw a d, vw b c] w fun e w' => e = .returned (.bool (withinV a d b c)) ∧ Below w.heap.size w w' := by
  have heq := eq_view
  unfold vw
  go_enter Try.func27, Try.ntmps27
  go_wp2_with fail
  have V1 := Lib.hid (show Vx ((w.alloc (.cells #[.int .i64 (a : Int), .int .i64 (d : Int)] 25)).alloc (.cells #[.int .i64 (b : Int), .int .i64 (c : Int)] 25)) w.heap.size a d from hbe (hat _ _ _ rfl))
  have V2 := Lib.hid (show Vx ((w.alloc (.cells #[.int .i64 (a : Int), .int .i64 (d : Int)] 25)).alloc (.cells #[.int .i64 (b : Int), .int .i64 (c : Int)] 25)) (w.heap.size + 1) b c from hat _ _ _ (by simp))
  have HB := Lib.hid (bal (bal (Below.refl w.heap.size w) (Nat.le_refl _) (.cells #[.int .i64 (a : Int), .int .i64 (d : Int)] 25)) (Nat.le_refl _) (.cells #[.int .i64 (b : Int), .int .i64 (c : Int)] 25))
  generalize ((w.alloc (.cells #[.int .i64 (a : Int), .int .i64 (d : Int)] 25)).alloc (.cells #[.int .i64 (b : Int), .int .i64 (c : Int)] 25)) = w1 at V1 V2 HB ⊢
  have HK : Hid (∀ W', Below w1.heap.size w1 W' → (W'.cell? ⟨w.heap.size, 0, none⟩ = some (.int .i64 (a : Int)) ∧ W'.cell? ⟨w.heap.size, 1, none⟩ = some (.int .i64 (d : Int))) ∧ (W'.cell? ⟨w.heap.size + 1, 0, none⟩ = some (.int .i64 (b : Int)) ∧ W'.cell? ⟨w.heap.size + 1, 1, none⟩ = some (.int .i64 (c : Int)))) := Lib.hid (by
    intro W' h
    have V1 := V1.out.below h V1.out.lt
    have V2 := V2.out.below h V2.out.lt
    exact ⟨⟨V1.c0, V1.c1⟩, V2.c0, V2.c1⟩)
  refine wp_region_held_drew (S := fun W' => Below w1.heap.size w1 W') (by kernel_rfl) (Below.refl _ _).drew (fun hHeld => ?_)
  generalize w1.drew = w2 at hHeld ⊢
  have HB2 : Hid (Below w1.heap.size w1 w2) := hHeld
  clear hHeld
  refine take_in (i := 0) (oi := ⟨_, _, _, _, _, _⟩) (v := ?_) rfl (by kernel_rfl) (by kernel_rfl) (by kernel_rfl) (fun _ _ _ h => h) (by rfl) ?_ HB2.out ?_
  rotate_left
  · intro W hW; have hq := HK.out W hW; go_simp; with_reducible rfl
  simp only [Act.put, List.setIfInBounds_toArray, List.set_cons_zero, List.set_cons_succ]
  refine take_in (i := 1) (oi := ⟨_, _, _, _, _, _⟩) (v := ?_) rfl (by kernel_rfl) (by kernel_rfl) (by kernel_rfl) (fun _ _ _ h => h) (by rfl) ?_ HB2.out ?_
  rotate_left
  · intro W hW; have hq := HK.out W hW; go_simp; with_reducible rfl
  simp only [Act.put, List.setIfInBounds_toArray, List.set_cons_zero, List.set_cons_succ]
  refine take_in (i := 4) (oi := ⟨_, _, _, _, _, _⟩) (v := ?_) rfl (by kernel_rfl) (by kernel_rfl) (by kernel_rfl) (fun _ _ _ h => h) (by rfl) ?_ HB2.out ?_
  rotate_left
  · intro W hW; have hq := HK.out W hW; go_simp; with_reducible rfl
  simp only [Act.put, List.setIfInBounds_toArray, List.set_cons_zero, List.set_cons_succ]
  refine wpAnyH_ready (rs := [2]) (by kernel_rfl) (by simp) ?_
  refine AllReadyH.cons (o := ⟨_, _, _, _, _, _⟩) rfl (fun K hK => ?_) AllReadyH.nil
  go_simp
  refine hK.out _ _ (bal HB2.out (Nat.le_refl _) _) (fun _ => ?_)
  clear hK K
  have RX := Lib.hid ((show Rv (w2.alloc (.cells #[.int .i64 (a : Int), .int .i64 (d : Int), .int .i64 (b : Int), .int .i64 (c : Int)] 25)) (w2.heap.size + 1) (some ⟨w2.heap.size, 0, none⟩) [(a, d), (b, c)] from rv_new w2 [(a, d), (b, c)]).more (show w2.heap.size + 1 ≤ (w2.alloc (.cells #[.int .i64 (a : Int), .int .i64 (d : Int), .int .i64 (b : Int), .int .i64 (c : Int)] 25)).heap.size by simp))
  have HB3 := Lib.hid (bal HB2.out (Nat.le_refl _) (.cells #[.int .i64 (a : Int), .int .i64 (d : Int), .int .i64 (b : Int), .int .i64 (c : Int)] 25))
  generalize w2.alloc (.cells #[.int .i64 (a : Int), .int .i64 (d : Int), .int .i64 (b : Int), .int .i64 (c : Int)] 25) = w3 at RX HB3 ⊢
  generalize w2.heap.size = gRX at RX ⊢
  refine wpAnyH_ready (rs := [3]) (by kernel_rfl) (by simp) ?_
  refine AllReadyH.cons (o := ⟨_, _, _, _, _, _⟩) rfl (fun K hK => ?_) AllReadyH.nil
  go_simp
  refine (join_c _ 2 2 [(a, d), (b, c)] rfl (by omega) (by simp; omega) w3.heap.size _ RX.out (Nat.le_refl _)).mono ?_
  rw [join2 a d b c ha hd hb hc]
  rintro e w4 ⟨rfl, hb4⟩
  have HB4 := Lib.hid (HB3.out.trans (hb4.mono HB3.out.size)); clear hb4
  refine hK.out _ _ HB4.out (fun _ => ?_)
  clear hK K
  unfold vw
  refine take_in (i := 5) (oi := ⟨_, _, _, _, _, _⟩) (v := ?_) rfl (by kernel_rfl) (by kernel_rfl) (by kernel_rfl) (fun _ _ _ h => h) (by rfl) ?_ HB4.out ?_
  rotate_left
  · intro W hW; go_simp; with_reducible rfl
  simp only [Act.put, List.setIfInBounds_toArray, List.set_cons_zero, List.set_cons_succ]
  refine take_in (i := 6) (oi := ⟨_, _, _, _, _, _⟩) (v := ?_) rfl (by kernel_rfl) (by kernel_rfl) (by kernel_rfl) (fun _ _ _ h => h) (by rfl) ?_ HB4.out ?_
  rotate_left
  · intro W hW; go_simp; with_reducible rfl
  simp only [Act.put, List.setIfInBounds_toArray, List.set_cons_zero, List.set_cons_succ]
  refine wpAnyH_done (by kernel_rfl) ?_ _
  go_wp2
  go_ret
  refine ⟨ret_bool ?_, HB.out.trans (HB4.out.mono HB.out.size)⟩
  unfold withinV within
  have h : ∀ m n : Nat, ((m : Int) == (n : Int)) = (m == n) := fun m n => by rw [Bool.eq_iff_iff, beq_iff_eq, beq_iff_eq]; omega
  rw [h, h]
end Go.Proofs.Ytofjdfnoibfdfaa
