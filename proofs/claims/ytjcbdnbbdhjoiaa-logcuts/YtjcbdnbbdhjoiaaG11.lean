/- Contracts and words on which the claims of this seat stand, part 11: LgK LgL LgM LgN. -/
import Derived.Test.YtjcbdnbbdhjoiaaG02
import Derived.Test.YtjcbdnbbdhjoiaaG10
set_option linter.unusedSimpArgs false
set_option linter.unusedVariables false
namespace Go.Proofs.Ytjcbdnbbdhjoiaa.Lgw
set_option maxRecDepth 20000
open Go.RowKit
open Bk Lg Wire
open Tgw (hat hbe)
open Rg (bal)

theorem cnt_pos (a d : Nat) (ha : a < 64) (hd : d < 64) : decide ((0 : Int) < ((Chg.cnt a + Chg.cnt d : Nat) : Int)) = !decide (a = 0 ∧ d = 0) := by
  have h : ∀ a d : Fin 64, decide ((0 : Int) < ((Chg.cnt a.val + Chg.cnt d.val : Nat) : Int)) = !decide (a.val = 0 ∧ d.val = 0) := by decide +kernel
  exact h ⟨a, ha⟩ ⟨d, hd⟩
theorem sw1 (r : R) (h : r.kind = 1) : swR r = okE r.e := by unfold swR; rw [if_pos h]
theorem sw2 (r : R) (h : r.kind = 2 ∨ r.kind = 5) (a d : Nat) (ea : r.ca = a) (ed : r.cd = d) : swR r = (!decide (a = 0 ∧ d = 0) && decide (0 ≤ r.cn ∧ r.cn ≤ 5)) := by
  unfold swR
  rw [if_neg (by omega), if_pos h]
  have : (r.ca = 0 ∧ r.cd = 0) ↔ (a = 0 ∧ d = 0) := by omega
  simp only [this]
theorem sw3 (r : R) (h : r.kind = 3) : swR r = true := by unfold swR; rw [if_neg (by omega), if_neg (by omega), if_pos h]
theorem sw4 (r : R) (h : r.kind = 4 ∨ r.kind = 6) : swR r = nok r := by unfold swR; rw [if_neg (by omega), if_neg (by omega), if_neg (by omega), if_pos h]
theorem sw0 (r : R) (h : ¬ (1 ≤ r.kind ∧ r.kind ≤ 6)) : swR r = false := by unfold swR; rw [if_neg (by omega), if_neg (by omega), if_neg (by omega), if_neg (by omega)]
theorem rv_nat {a d : Int} (h : rv a d = true) : ∃ m n : Nat, a = m ∧ d = n ∧ m < 64 ∧ n < 64 := by
  have := of_decide_eq_true h
  exact ⟨a.toNat, d.toNat, by omega, by omega, by omega, by omega⟩
set_option maxHeartbeats 2000000 in
theorem right_c (r : R) (hw : WfE r.e) (w : World) : Calls Try.prog 18 #[rvv r] w fun e w' => e = .returned (.bool (rightR r)) ∧ Below w.heap.size w w' := by
  have HRA := Lib.hid (fun W => Chgw.right_c r.va r.vd W)
  have HRC := Lib.hid (fun W => Chgw.right_c r.ca r.cd W)
  rw [rv_right] at HRA HRC
  unfold Chgw.vw at HRA HRC
  have HOW := Lib.hid (fun W => own_of_c r W)
  have HSM := Lib.hid (fun W => same_rec_c r (ownR r) W)
  have HE := Lib.hid (rightR_own r)
  have HU := Lib.hid hw
  have HRX : Hid (rv r.ca r.cd = true → ∃ m n : Nat, r.ca = m ∧ r.cd = n ∧ m < 64 ∧ n < 64) := Lib.hid rv_nat
  clear hw
  generalize rightR r = res at HE ⊢
  generalize ownR r = s at HOW HSM HE
  generalize alikeR r s = al at HSM HE
  generalize rv r.va r.vd = v1 at HRA HE
  generalize rv r.ca r.cd = v2 at HRC HE HRX
  unfold rvv at HOW HSM ⊢
  have hcell : ∀ (a : Addr), True := fun _ => trivial
  clear hcell
  go_enter Try.func18, Try.ntmps18
  go_upto_region 1 with (fail)
  have HX := Lib.hid (show Rx (w.alloc (.cells #[.int .i64 r.kind, .int .i64 r.va, .int .i64 r.vd, .int .i64 r.cn, .int .i64 r.ca, .int .i64 r.cd, .int .i64 r.e.key, .int .i64 r.e.num, .int .i64 r.e.node, .float .f64 r.e.val, .int .i64 r.n] 40)) w.heap.size r from hat _ _ _ rfl)
  have HB := Lib.hid (bal (Below.refl w.heap.size w) (Nat.le_refl _) (.cells #[.int .i64 r.kind, .int .i64 r.va, .int .i64 r.vd, .int .i64 r.cn, .int .i64 r.ca, .int .i64 r.cd, .int .i64 r.e.key, .int .i64 r.e.num, .int .i64 r.e.node, .float .f64 r.e.val, .int .i64 r.n] 40))
  generalize w.alloc (.cells #[.int .i64 r.kind, .int .i64 r.va, .int .i64 r.vd, .int .i64 r.cn, .int .i64 r.ca, .int .i64 r.cd, .int .i64 r.e.key, .int .i64 r.e.num, .int .i64 r.e.node, .float .f64 r.e.val, .int .i64 r.n] 40) = w1 at HX HB ⊢
  have HK : Hid (∀ W', Below w1.heap.size w1 W' → Elv W' w.heap.size 0 r) := Lib.hid (fun W' h => elv_at (HX.out.all h).at)
  cases v1 with
  | false =>
    refine wp_region_held_drew (S := fun W' => Below w1.heap.size w1 W') (by kernel_rfl) (Below.refl _ _).drew (fun hHeld => ?_)
    generalize w1.drew = w5 at hHeld ⊢
    have HB5 : Hid (Below w1.heap.size w1 w5) := hHeld
    clear hHeld
    refine take_in (i := 0) (oi := ⟨_, _, _, _, _, _⟩) (v := ?_) rfl (by kernel_rfl) (by kernel_rfl) (by kernel_rfl) (fun _ _ _ h => h) (by rfl) ?_ HB5.out ?_
    rotate_left
    · intro W hW; have hq := HK.out W hW; unfold Elv at hq; go_simp; with_reducible rfl
    simp only [Act.put, List.setIfInBounds_toArray, List.set_cons_zero, List.set_cons_succ]
    refine take_in (i := 1) (oi := ⟨_, _, _, _, _, _⟩) (v := ?_) rfl (by kernel_rfl) (by kernel_rfl) (by kernel_rfl) (fun _ _ _ h => h) (by rfl) ?_ HB5.out ?_
    rotate_left
    · intro W hW; have hq := HK.out W hW; unfold Elv at hq; go_simp; with_reducible rfl
    simp only [Act.put, List.setIfInBounds_toArray, List.set_cons_zero, List.set_cons_succ]
    refine wpAnyH_ready (rs := [2]) (by kernel_rfl) (by simp) ?_
    refine AllReadyH.cons (o := ⟨_, _, _, _, _, _⟩) rfl (fun K hK => ?_) AllReadyH.nil
    go_simp
    refine (HRA.out _).mono ?_
    rintro e w6 ⟨rfl, hb6⟩
    have HB6 := Lib.hid (HB5.out.trans (hb6.mono HB5.out.size)); clear hb6
    refine hK.out _ _ HB6.out (fun _ => ?_)
    clear hK K
    refine take_in (i := 3) (oi := ⟨_, _, _, _, _, _⟩) (v := ?_) rfl (by kernel_rfl) (by kernel_rfl) (by kernel_rfl) (fun _ _ _ h => h) (by rfl) ?_ HB6.out ?_
    rotate_left
    · intro W hW; go_simp; with_reducible rfl
    simp only [Act.put, List.setIfInBounds_toArray, List.set_cons_zero, List.set_cons_succ]
    refine take_in (i := 4) (oi := ⟨_, _, _, _, _, _⟩) (v := ?_) rfl (by kernel_rfl) (by kernel_rfl) (by kernel_rfl) (fun _ _ _ h => h) (by rfl) ?_ HB6.out ?_
    rotate_left
    · intro W hW; go_simp; with_reducible rfl
    simp only [Act.put, List.setIfInBounds_toArray, List.set_cons_zero, List.set_cons_succ]
    refine skip_in (i := 5) (oi := ⟨_, _, _, _, _, _⟩) rfl (by kernel_rfl) (by kernel_rfl) (by kernel_rfl) (fun _ _ _ h => h) (by rfl) HB6.out ?_
    simp only [Act.put, List.setIfInBounds_toArray, List.set_cons_zero, List.set_cons_succ]
    refine skip_in (i := 6) (oi := ⟨_, _, _, _, _, _⟩) rfl (by kernel_rfl) (by kernel_rfl) (by kernel_rfl) (fun _ _ _ h => h) (by rfl) HB6.out ?_
    simp only [Act.put, List.setIfInBounds_toArray, List.set_cons_zero, List.set_cons_succ]
    refine skip_in (i := 7) (oi := ⟨_, _, _, _, _, _⟩) rfl (by kernel_rfl) (by kernel_rfl) (by kernel_rfl) (fun _ _ _ h => h) (by rfl) HB6.out ?_
    simp only [Act.put, List.setIfInBounds_toArray, List.set_cons_zero, List.set_cons_succ]
    refine skip_in (i := 8) (oi := ⟨_, _, _, _, _, _⟩) rfl (by kernel_rfl) (by kernel_rfl) (by kernel_rfl) (fun _ _ _ h => h) (by rfl) HB6.out ?_
    simp only [Act.put, List.setIfInBounds_toArray, List.set_cons_zero, List.set_cons_succ]
    refine skip_in (i := 9) (oi := ⟨_, _, _, _, _, _⟩) rfl (by kernel_rfl) (by kernel_rfl) (by kernel_rfl) (fun _ _ _ h => h) (by rfl) HB6.out ?_
    simp only [Act.put, List.setIfInBounds_toArray, List.set_cons_zero, List.set_cons_succ]
    refine take_in (i := 10) (oi := ⟨_, _, _, _, _, _⟩) (v := ?_) rfl (by kernel_rfl) (by kernel_rfl) (by kernel_rfl) (fun _ _ _ h => h) (by rfl) ?_ HB6.out ?_
    rotate_left
    · intro W hW; go_simp; with_reducible rfl
    simp only [Act.put, List.setIfInBounds_toArray, List.set_cons_zero, List.set_cons_succ]
    refine take_in (i := 11) (oi := ⟨_, _, _, _, _, _⟩) (v := ?_) rfl (by kernel_rfl) (by kernel_rfl) (by kernel_rfl) (fun _ _ _ h => h) (by rfl) ?_ HB6.out ?_
    rotate_left
    · intro W hW; go_simp; with_reducible rfl
    simp only [Act.put, List.setIfInBounds_toArray, List.set_cons_zero, List.set_cons_succ]
    refine skip_in (i := 12) (oi := ⟨_, _, _, _, _, _⟩) rfl (by kernel_rfl) (by kernel_rfl) (by kernel_rfl) (fun _ _ _ h => h) (by rfl) HB6.out ?_
    simp only [Act.put, List.setIfInBounds_toArray, List.set_cons_zero, List.set_cons_succ]
    refine skip_in (i := 13) (oi := ⟨_, _, _, _, _, _⟩) rfl (by kernel_rfl) (by kernel_rfl) (by kernel_rfl) (fun _ _ _ h => h) (by rfl) HB6.out ?_
    simp only [Act.put, List.setIfInBounds_toArray, List.set_cons_zero, List.set_cons_succ]
    refine skip_in (i := 14) (oi := ⟨_, _, _, _, _, _⟩) rfl (by kernel_rfl) (by kernel_rfl) (by kernel_rfl) (fun _ _ _ h => h) (by rfl) HB6.out ?_
    simp only [Act.put, List.setIfInBounds_toArray, List.set_cons_zero, List.set_cons_succ]
    refine skip_in (i := 15) (oi := ⟨_, _, _, _, _, _⟩) rfl (by kernel_rfl) (by kernel_rfl) (by kernel_rfl) (fun _ _ _ h => h) (by rfl) HB6.out ?_
    simp only [Act.put, List.setIfInBounds_toArray, List.set_cons_zero, List.set_cons_succ]
    refine skip_in (i := 16) (oi := ⟨_, _, _, _, _, _⟩) rfl (by kernel_rfl) (by kernel_rfl) (by kernel_rfl) (fun _ _ _ h => h) (by rfl) HB6.out ?_
    simp only [Act.put, List.setIfInBounds_toArray, List.set_cons_zero, List.set_cons_succ]
    refine take_in (i := 17) (oi := ⟨_, _, _, _, _, _⟩) (v := ?_) rfl (by kernel_rfl) (by kernel_rfl) (by kernel_rfl) (fun _ _ _ h => h) (by rfl) ?_ HB6.out ?_
    rotate_left
    · intro W hW; go_simp; with_reducible rfl
    simp only [Act.put, List.setIfInBounds_toArray, List.set_cons_zero, List.set_cons_succ]
    refine wpAnyH_done (by kernel_rfl) ?_ _
    go_wp2
    go_ret
    exact ⟨ret_bool (by rw [HE.out]; rfl), HB.out.trans (HB6.out.mono HB.out.size)⟩
  | true =>
  cases v2 with
  | false =>
    refine wp_region_held_drew (S := fun W' => Below w1.heap.size w1 W') (by kernel_rfl) (Below.refl _ _).drew (fun hHeld => ?_)
    generalize w1.drew = w5 at hHeld ⊢
    have HB5 : Hid (Below w1.heap.size w1 w5) := hHeld
    clear hHeld
    refine take_in (i := 0) (oi := ⟨_, _, _, _, _, _⟩) (v := ?_) rfl (by kernel_rfl) (by kernel_rfl) (by kernel_rfl) (fun _ _ _ h => h) (by rfl) ?_ HB5.out ?_
    rotate_left
    · intro W hW; have hq := HK.out W hW; unfold Elv at hq; go_simp; with_reducible rfl
    simp only [Act.put, List.setIfInBounds_toArray, List.set_cons_zero, List.set_cons_succ]
    refine take_in (i := 1) (oi := ⟨_, _, _, _, _, _⟩) (v := ?_) rfl (by kernel_rfl) (by kernel_rfl) (by kernel_rfl) (fun _ _ _ h => h) (by rfl) ?_ HB5.out ?_
    rotate_left
    · intro W hW; have hq := HK.out W hW; unfold Elv at hq; go_simp; with_reducible rfl
    simp only [Act.put, List.setIfInBounds_toArray, List.set_cons_zero, List.set_cons_succ]
    refine wpAnyH_ready (rs := [2]) (by kernel_rfl) (by simp) ?_
    refine AllReadyH.cons (o := ⟨_, _, _, _, _, _⟩) rfl (fun K hK => ?_) AllReadyH.nil
    go_simp
    refine (HRA.out _).mono ?_
    rintro e w6 ⟨rfl, hb6⟩
    have HB6 := Lib.hid (HB5.out.trans (hb6.mono HB5.out.size)); clear hb6
    refine hK.out _ _ HB6.out (fun _ => ?_)
    clear hK K
    refine take_in (i := 3) (oi := ⟨_, _, _, _, _, _⟩) (v := ?_) rfl (by kernel_rfl) (by kernel_rfl) (by kernel_rfl) (fun _ _ _ h => h) (by rfl) ?_ HB6.out ?_
    rotate_left
    · intro W hW; have hq := HK.out W hW; unfold Elv at hq; go_simp; with_reducible rfl
    simp only [Act.put, List.setIfInBounds_toArray, List.set_cons_zero, List.set_cons_succ]
    refine take_in (i := 4) (oi := ⟨_, _, _, _, _, _⟩) (v := ?_) rfl (by kernel_rfl) (by kernel_rfl) (by kernel_rfl) (fun _ _ _ h => h) (by rfl) ?_ HB6.out ?_
    rotate_left
    · intro W hW; have hq := HK.out W hW; unfold Elv at hq; go_simp; with_reducible rfl
    simp only [Act.put, List.setIfInBounds_toArray, List.set_cons_zero, List.set_cons_succ]
    refine take_in (i := 5) (oi := ⟨_, _, _, _, _, _⟩) (v := ?_) rfl (by kernel_rfl) (by kernel_rfl) (by kernel_rfl) (fun _ _ _ h => h) (by rfl) ?_ HB6.out ?_
    rotate_left
    · intro W hW; have hq := HK.out W hW; unfold Elv at hq; go_simp; with_reducible rfl
    simp only [Act.put, List.setIfInBounds_toArray, List.set_cons_zero, List.set_cons_succ]
    refine take_in (i := 6) (oi := ⟨_, _, _, _, _, _⟩) (v := ?_) rfl (by kernel_rfl) (by kernel_rfl) (by kernel_rfl) (fun _ _ _ h => h) (by rfl) ?_ HB6.out ?_
    rotate_left
    · intro W hW; have hq := HK.out W hW; unfold Elv at hq; go_simp; with_reducible rfl
    simp only [Act.put, List.setIfInBounds_toArray, List.set_cons_zero, List.set_cons_succ]
    refine take_in (i := 7) (oi := ⟨_, _, _, _, _, _⟩) (v := ?_) rfl (by kernel_rfl) (by kernel_rfl) (by kernel_rfl) (fun _ _ _ h => h) (by rfl) ?_ HB6.out ?_
    rotate_left
    · intro W hW; have hq := HK.out W hW; unfold Elv at hq; go_simp; with_reducible rfl
    simp only [Act.put, List.setIfInBounds_toArray, List.set_cons_zero, List.set_cons_succ]
    refine wpAnyH_ready (rs := [8]) (by kernel_rfl) (by simp) ?_
    refine AllReadyH.cons (o := ⟨_, _, _, _, _, _⟩) rfl (fun K hK => ?_) AllReadyH.nil
    go_simp
    refine (HRC.out _).mono ?_
    rintro e w7 ⟨rfl, hb7⟩
    have HB7 := Lib.hid (HB6.out.trans (hb7.mono HB6.out.size)); clear hb7
    refine hK.out _ _ HB7.out (fun _ => ?_)
    clear hK K
    refine take_in (i := 9) (oi := ⟨_, _, _, _, _, _⟩) (v := ?_) rfl (by kernel_rfl) (by kernel_rfl) (by kernel_rfl) (fun _ _ _ h => h) (by rfl) ?_ HB7.out ?_
    rotate_left
    · intro W hW; go_simp; with_reducible rfl
    simp only [Act.put, List.setIfInBounds_toArray, List.set_cons_zero, List.set_cons_succ]
    refine take_in (i := 10) (oi := ⟨_, _, _, _, _, _⟩) (v := ?_) rfl (by kernel_rfl) (by kernel_rfl) (by kernel_rfl) (fun _ _ _ h => h) (by rfl) ?_ HB7.out ?_
    rotate_left
    · intro W hW; go_simp; with_reducible rfl
    simp only [Act.put, List.setIfInBounds_toArray, List.set_cons_zero, List.set_cons_succ]
    refine take_in (i := 11) (oi := ⟨_, _, _, _, _, _⟩) (v := ?_) rfl (by kernel_rfl) (by kernel_rfl) (by kernel_rfl) (fun _ _ _ h => h) (by rfl) ?_ HB7.out ?_
    rotate_left
    · intro W hW; go_simp; with_reducible rfl
    simp only [Act.put, List.setIfInBounds_toArray, List.set_cons_zero, List.set_cons_succ]
    refine skip_in (i := 12) (oi := ⟨_, _, _, _, _, _⟩) rfl (by kernel_rfl) (by kernel_rfl) (by kernel_rfl) (fun _ _ _ h => h) (by rfl) HB7.out ?_
    simp only [Act.put, List.setIfInBounds_toArray, List.set_cons_zero, List.set_cons_succ]
    refine skip_in (i := 13) (oi := ⟨_, _, _, _, _, _⟩) rfl (by kernel_rfl) (by kernel_rfl) (by kernel_rfl) (fun _ _ _ h => h) (by rfl) HB7.out ?_
    simp only [Act.put, List.setIfInBounds_toArray, List.set_cons_zero, List.set_cons_succ]
    refine skip_in (i := 14) (oi := ⟨_, _, _, _, _, _⟩) rfl (by kernel_rfl) (by kernel_rfl) (by kernel_rfl) (fun _ _ _ h => h) (by rfl) HB7.out ?_
    simp only [Act.put, List.setIfInBounds_toArray, List.set_cons_zero, List.set_cons_succ]
    refine skip_in (i := 15) (oi := ⟨_, _, _, _, _, _⟩) rfl (by kernel_rfl) (by kernel_rfl) (by kernel_rfl) (fun _ _ _ h => h) (by rfl) HB7.out ?_
    simp only [Act.put, List.setIfInBounds_toArray, List.set_cons_zero, List.set_cons_succ]
    refine skip_in (i := 16) (oi := ⟨_, _, _, _, _, _⟩) rfl (by kernel_rfl) (by kernel_rfl) (by kernel_rfl) (fun _ _ _ h => h) (by rfl) HB7.out ?_
    simp only [Act.put, List.setIfInBounds_toArray, List.set_cons_zero, List.set_cons_succ]
    refine take_in (i := 17) (oi := ⟨_, _, _, _, _, _⟩) (v := ?_) rfl (by kernel_rfl) (by kernel_rfl) (by kernel_rfl) (fun _ _ _ h => h) (by rfl) ?_ HB7.out ?_
    rotate_left
    · intro W hW; go_simp; with_reducible rfl
    simp only [Act.put, List.setIfInBounds_toArray, List.set_cons_zero, List.set_cons_succ]
    refine wpAnyH_done (by kernel_rfl) ?_ _
    go_wp2
    go_ret
    exact ⟨ret_bool (by rw [HE.out]; rfl), HB.out.trans (HB7.out.mono HB.out.size)⟩
  | true =>
    obtain ⟨a, d, ea, ed, ha, hd⟩ := HRX.out rfl
    have HSZ := Lib.hid (fun W => Chgw.size_c a d ha hd W)
    have HCP := Lib.hid (cnt_pos a d ha hd)
    unfold Chgw.vw at HSZ
    rw [← ea, ← ed] at HSZ
    have HAD : Hid (r.ca = a ∧ r.cd = d) := Lib.hid ⟨ea, ed⟩
    clear ea ed ha hd
    refine wp_region_held_drew (S := fun W' => Below w1.heap.size w1 W') (by kernel_rfl) (Below.refl _ _).drew (fun hHeld => ?_)
    generalize w1.drew = w5 at hHeld ⊢
    have HB5 : Hid (Below w1.heap.size w1 w5) := hHeld
    clear hHeld
    refine take_in (i := 0) (oi := ⟨_, _, _, _, _, _⟩) (v := ?_) rfl (by kernel_rfl) (by kernel_rfl) (by kernel_rfl) (fun _ _ _ h => h) (by rfl) ?_ HB5.out ?_
    rotate_left
    · intro W hW; have hq := HK.out W hW; unfold Elv at hq; go_simp; with_reducible rfl
    simp only [Act.put, List.setIfInBounds_toArray, List.set_cons_zero, List.set_cons_succ]
    refine take_in (i := 1) (oi := ⟨_, _, _, _, _, _⟩) (v := ?_) rfl (by kernel_rfl) (by kernel_rfl) (by kernel_rfl) (fun _ _ _ h => h) (by rfl) ?_ HB5.out ?_
    rotate_left
    · intro W hW; have hq := HK.out W hW; unfold Elv at hq; go_simp; with_reducible rfl
    simp only [Act.put, List.setIfInBounds_toArray, List.set_cons_zero, List.set_cons_succ]
    refine wpAnyH_ready (rs := [2]) (by kernel_rfl) (by simp) ?_
    refine AllReadyH.cons (o := ⟨_, _, _, _, _, _⟩) rfl (fun K hK => ?_) AllReadyH.nil
    go_simp
    refine (HRA.out _).mono ?_
    rintro e w6 ⟨rfl, hb6⟩
    have HB6 := Lib.hid (HB5.out.trans (hb6.mono HB5.out.size)); clear hb6
    refine hK.out _ _ HB6.out (fun _ => ?_)
    clear hK K
    refine take_in (i := 3) (oi := ⟨_, _, _, _, _, _⟩) (v := ?_) rfl (by kernel_rfl) (by kernel_rfl) (by kernel_rfl) (fun _ _ _ h => h) (by rfl) ?_ HB6.out ?_
    rotate_left
    · intro W hW; have hq := HK.out W hW; unfold Elv at hq; go_simp; with_reducible rfl
    simp only [Act.put, List.setIfInBounds_toArray, List.set_cons_zero, List.set_cons_succ]
    refine take_in (i := 4) (oi := ⟨_, _, _, _, _, _⟩) (v := ?_) rfl (by kernel_rfl) (by kernel_rfl) (by kernel_rfl) (fun _ _ _ h => h) (by rfl) ?_ HB6.out ?_
    rotate_left
    · intro W hW; have hq := HK.out W hW; unfold Elv at hq; go_simp; with_reducible rfl
    simp only [Act.put, List.setIfInBounds_toArray, List.set_cons_zero, List.set_cons_succ]
    refine take_in (i := 5) (oi := ⟨_, _, _, _, _, _⟩) (v := ?_) rfl (by kernel_rfl) (by kernel_rfl) (by kernel_rfl) (fun _ _ _ h => h) (by rfl) ?_ HB6.out ?_
    rotate_left
    · intro W hW; have hq := HK.out W hW; unfold Elv at hq; go_simp; with_reducible rfl
    simp only [Act.put, List.setIfInBounds_toArray, List.set_cons_zero, List.set_cons_succ]
    refine take_in (i := 6) (oi := ⟨_, _, _, _, _, _⟩) (v := ?_) rfl (by kernel_rfl) (by kernel_rfl) (by kernel_rfl) (fun _ _ _ h => h) (by rfl) ?_ HB6.out ?_
    rotate_left
    · intro W hW; have hq := HK.out W hW; unfold Elv at hq; go_simp; with_reducible rfl
    simp only [Act.put, List.setIfInBounds_toArray, List.set_cons_zero, List.set_cons_succ]
    refine take_in (i := 7) (oi := ⟨_, _, _, _, _, _⟩) (v := ?_) rfl (by kernel_rfl) (by kernel_rfl) (by kernel_rfl) (fun _ _ _ h => h) (by rfl) ?_ HB6.out ?_
    rotate_left
    · intro W hW; have hq := HK.out W hW; unfold Elv at hq; go_simp; with_reducible rfl
    simp only [Act.put, List.setIfInBounds_toArray, List.set_cons_zero, List.set_cons_succ]
    refine wpAnyH_ready (rs := [8]) (by kernel_rfl) (by simp) ?_
    refine AllReadyH.cons (o := ⟨_, _, _, _, _, _⟩) rfl (fun K hK => ?_) AllReadyH.nil
    go_simp
    refine (HRC.out _).mono ?_
    rintro e w7 ⟨rfl, hb7⟩
    have HB7 := Lib.hid (HB6.out.trans (hb7.mono HB6.out.size)); clear hb7
    refine hK.out _ _ HB7.out (fun _ => ?_)
    clear hK K
    refine take_in (i := 9) (oi := ⟨_, _, _, _, _, _⟩) (v := ?_) rfl (by kernel_rfl) (by kernel_rfl) (by kernel_rfl) (fun _ _ _ h => h) (by rfl) ?_ HB7.out ?_
    rotate_left
    · intro W hW; have hq := HK.out W hW; unfold Elv at hq; go_simp; with_reducible rfl
    simp only [Act.put, List.setIfInBounds_toArray, List.set_cons_zero, List.set_cons_succ]
    refine take_in (i := 10) (oi := ⟨_, _, _, _, _, _⟩) (v := ?_) rfl (by kernel_rfl) (by kernel_rfl) (by kernel_rfl) (fun _ _ _ h => h) (by rfl) ?_ HB7.out ?_
    rotate_left
    · intro W hW; have hq := HK.out W hW; unfold Elv at hq; go_simp; with_reducible rfl
    simp only [Act.put, List.setIfInBounds_toArray, List.set_cons_zero, List.set_cons_succ]
    refine take_in (i := 11) (oi := ⟨_, _, _, _, _, _⟩) (v := ?_) rfl (by kernel_rfl) (by kernel_rfl) (by kernel_rfl) (fun _ _ _ h => h) (by rfl) ?_ HB7.out ?_
    rotate_left
    · intro W hW; have hq := HK.out W hW; unfold Elv at hq; go_simp; with_reducible rfl
    simp only [Act.put, List.setIfInBounds_toArray, List.set_cons_zero, List.set_cons_succ]
    refine take_in (i := 12) (oi := ⟨_, _, _, _, _, _⟩) (v := ?_) rfl (by kernel_rfl) (by kernel_rfl) (by kernel_rfl) (fun _ _ _ h => h) (by rfl) ?_ HB7.out ?_
    rotate_left
    · intro W hW; have hq := HK.out W hW; unfold Elv at hq; go_simp; with_reducible rfl
    simp only [Act.put, List.setIfInBounds_toArray, List.set_cons_zero, List.set_cons_succ]
    refine take_in (i := 13) (oi := ⟨_, _, _, _, _, _⟩) (v := ?_) rfl (by kernel_rfl) (by kernel_rfl) (by kernel_rfl) (fun _ _ _ h => h) (by rfl) ?_ HB7.out ?_
    rotate_left
    · intro W hW; have hq := HK.out W hW; unfold Elv at hq; go_simp; with_reducible rfl
    simp only [Act.put, List.setIfInBounds_toArray, List.set_cons_zero, List.set_cons_succ]
    refine wpAnyH_ready (rs := [14]) (by kernel_rfl) (by simp) ?_
    refine AllReadyH.cons (o := ⟨_, _, _, _, _, _⟩) rfl (fun K hK => ?_) AllReadyH.nil
    go_simp
    refine (HOW.out _).mono ?_
    rintro e w8 ⟨rfl, hb8⟩
    have HB8 := Lib.hid (HB7.out.trans (hb8.mono HB7.out.size)); clear hb8
    refine hK.out _ _ HB8.out (fun _ => ?_)
    clear hK K
    refine wpAnyH_ready (rs := [15]) (by kernel_rfl) (by simp) ?_
    refine AllReadyH.cons (o := ⟨_, _, _, _, _, _⟩) rfl (fun K hK => ?_) AllReadyH.nil
    go_simp
    refine (HSM.out _).mono ?_
    rintro e w9 ⟨rfl, hb9⟩
    have HB9 := Lib.hid (HB8.out.trans (hb9.mono HB8.out.size)); clear hb9
    refine hK.out _ _ HB9.out (fun _ => ?_)
    clear hK K
    refine take_in (i := 16) (oi := ⟨_, _, _, _, _, _⟩) (v := ?_) rfl (by kernel_rfl) (by kernel_rfl) (by kernel_rfl) (fun _ _ _ h => h) (by rfl) ?_ HB9.out ?_
    rotate_left
    · intro W hW; go_simp; with_reducible rfl
    simp only [Act.put, List.setIfInBounds_toArray, List.set_cons_zero, List.set_cons_succ]
    refine take_in (i := 17) (oi := ⟨_, _, _, _, _, _⟩) (v := ?_) rfl (by kernel_rfl) (by kernel_rfl) (by kernel_rfl) (fun _ _ _ h => h) (by rfl) ?_ HB9.out ?_
    rotate_left
    · intro W hW; go_simp; with_reducible rfl
    simp only [Act.put, List.setIfInBounds_toArray, List.set_cons_zero, List.set_cons_succ]
    refine wpAnyH_done (by kernel_rfl) ?_ _
    have HX := Lib.hid (HX.out.all HB9.out)
    have HB := Lib.hid (HB.out.trans (HB9.out.mono HB.out.size))
    clear HK HB5 HB6 HB7 HB8 HB9 HRA HRC HOW HSM
    cases al with
    | false =>
      go_wp2
      go_ret
      exact ⟨ret_bool (by rw [HE.out]; rfl), HB.out⟩
    | true =>
      have HE : Hid (res = swR r) := Lib.hid (by rw [HE.out]; rfl)
      obtain ⟨z0, z1, z2, z3, z4, z5, z6, z7, z8, z9, z10⟩ := HX.out.cs
      by_cases h1 : r.kind = 1
      · have HE : Hid (res = okE r.e) := Lib.hid (by rw [HE.out, sw1 r h1])
        rw [h1] at z0
        go_wp2_with fail
        have HRE := Lib.hid (Bkw.re_new w9 [r.e])
        refine (Bkw.check_own _ 1 1 [r.e] rfl (by omega) (by intro e he; rw [List.mem_singleton.1 he]; exact HU.out) _ _ HRE.out (by simp)).mono ?_
        rintro e w10 ⟨rfl, hb10⟩
        have HBT := Lib.hid (HB.out.trans ((bal (Below.refl w9.heap.size w9) (Nat.le_refl _) _).trans (hb10.mono (by simp)) |>.mono HB.out.size))
        clear hb10
        rw [chk1]
        generalize okE r.e = ok at HE ⊢
        cases ok with
        | false =>
          simp only [Bool.false_eq_true, if_false]
          go_wp2
          go_ret
          exact ⟨ret_bool (by rw [HE.out]), HBT.out⟩
        | true =>
          simp only [if_true]
          go_wp2
          go_ret
          exact ⟨ret_bool (by rw [HE.out]), HBT.out⟩
      by_cases h2 : r.kind = 2 ∨ r.kind = 5
      · have HE := Lib.hid (HE.out.trans (sw2 r h2 a d HAD.out.1 HAD.out.2))
        rw [← HCP.out] at HE
        generalize ((Chg.cnt a + Chg.cnt d : Nat) : Int) = q at HE HSZ
        rcases h2 with h2 | h2
        all_goals
          rw [h2] at z0
          go_wp2_with fail
          refine (HSZ.out _).mono ?_
          rintro e w10 ⟨rfl, hb10⟩
          have HX := Lib.hid (HX.out.all hb10)
          have HB := Lib.hid (HB.out.trans (hb10.mono HB.out.size)); clear hb10
          clear z0 z1 z2 z3 z4 z5 z6 z7 z8 z9 z10
          obtain ⟨z0, z1, z2, z3, z4, z5, z6, z7, z8, z9, z10⟩ := HX.out.cs
          by_cases hq : 0 < q
          · rw [decide_eq_true hq, Bool.true_and] at HE
            go_wp2_with fail
            refine (right_node_c r.cn _).mono ?_
            rintro e w11 ⟨rfl, rfl⟩
            go_wp2
            go_ret
            exact ⟨ret_bool (by rw [HE.out]; simp), HB.out⟩
          · rw [decide_eq_false hq, Bool.false_and] at HE
            have hq2 : q ≤ 0 := by omega
            go_wp2
            go_ret
            exact ⟨ret_bool HE.out.symm, HB.out⟩
      by_cases h3 : r.kind = 3
      · have HE := Lib.hid (HE.out.trans (sw3 r h3))
        rw [h3] at z0
        go_wp2
        go_ret
        exact ⟨ret_bool HE.out.symm, HB.out⟩
      by_cases h4 : r.kind = 4 ∨ r.kind = 6
      · have HE : Hid (res = decide (1 ≤ r.n ∧ r.n ≤ 1000000)) := Lib.hid (HE.out.trans (sw4 r h4))
        rcases h4 with h4 | h4
        all_goals
          rw [h4] at z0
          go_wp2
          all_goals
            go_ret
            exact ⟨ret_bool (by rw [HE.out]; simp; omega), HB.out⟩
      · have HE := Lib.hid (HE.out.trans (sw0 r (by omega)))
        have k1 : (r.kind == 1) = false := by rw [beq_eq_false_iff_ne]; omega
        have k2 : (r.kind == 2) = false := by rw [beq_eq_false_iff_ne]; omega
        have k3 : (r.kind == 3) = false := by rw [beq_eq_false_iff_ne]; omega
        have k4 : (r.kind == 4) = false := by rw [beq_eq_false_iff_ne]; omega
        have k5 : (r.kind == 5) = false := by rw [beq_eq_false_iff_ne]; omega
        have k6 : (r.kind == 6) = false := by rw [beq_eq_false_iff_ne]; omega
        go_wp2
        go_ret
        exact ⟨ret_bool HE.out.symm, HB.out⟩
end Go.Proofs.Ytjcbdnbbdhjoiaa.Lgw

namespace Go.Proofs.Ytjcbdnbbdhjoiaa.Lgw
set_option maxRecDepth 20000
open Go.RowKit
open Bk Lg Wire
open Tgw (hat hbe)
open Rg (bal)

theorem name_of_c (a d : Nat) (ha : a < 64) (hd : d < 64) (w : World) : Calls Try.prog 69 #[.agg #[.int .i64 a, .int .i64 d]] w fun e w' => e = .returned (.int .u64 ((64 * a + d : Nat) : Int)) ∧ Below w.heap.size w w' := by
  have HN := Lib.hid (fun W => Chgw.name_c a d ha hd W)
  unfold Chgw.vw at HN
  have hw : IntKind.u64.wrap ((64 * a + d : Nat) : Int) = ((64 * a + d : Nat) : Int) := wrapu _ (by omega)
  generalize ((64 * a + d : Nat) : Int) = p at HN hw ⊢
  go_enter Try.func69, Try.ntmps69
  go_wp2_with fail
  refine (HN.out _).mono ?_
  rintro e w2 ⟨rfl, hb⟩
  have HB := Lib.hid ((bal (Below.refl w.heap.size w) (Nat.le_refl _) _).trans (hb.mono (by simp))); clear hb
  go_wp2
  go_ret
  exact ⟨rfl, HB.out⟩
/-- numbers put from a row of their own -/
theorem put_row (xs : List Value) (ns : List Nat) (hx : xs = ns.map N64) (hw : ∀ x ∈ ns, W64 x) (n : Nat) (hn : n = ns.length) (h6 : n ≤ 6) (W : World) : Calls Try.prog 67 #[.slice none 0 0, .slice (some ⟨W.heap.size, 0, none⟩) n n] (W.alloc (.cells xs.toArray 105)) (RetOwn (W.alloc (.cells xs.toArray 105)) (W.alloc (.cells xs.toArray 105)).heap.size (ns.flatMap form)) := by
  subst hx
  have := put_c none 0 0 [] rfl (some ⟨W.heap.size, 0, none⟩) n n ns hn hw (W.heap.size + 1) (W.alloc (.cells (ns.map N64).toArray 105)) Rd.nil (rd_row W (ns.map N64) 105) (by simp) (by unfold big; omega)
  rwa [List.nil_append] at this
theorem retOwn_trans {w w1 : World} {bs : List UInt8} {e : Ending} {w' : World} (hb : Below w.heap.size w w1) (h : RetOwn w1 w1.heap.size bs e w') : RetOwn w w.heap.size bs e w' := by
  obtain ⟨A, n, c, he, ho, hb2⟩ := h
  exact ⟨A, n, c, he, ho.base hb.size, hb.trans (hb2.mono hb.size)⟩
set_option maxHeartbeats 4000000 in
theorem forms_c (r : R) (hr : rightR r = true) (hv : Flt.U64 r.e.val) (w : World) : Calls Try.prog 41 #[rvv r] w (RetOwn w w.heap.size (bodyR r)) := by
  obtain ⟨a, d, x, y, ea, ed, ex, ey, ha, hd, hx, hy⟩ := right_ranges r hr
  have HNA := Lib.hid (fun W => name_of_c a d ha hd W)
  have HNC := Lib.hid (fun W => name_of_c x y hx hy W)
  have HMA : Hid (((64 * a + d : Nat)) = nm r.va r.vd) := Lib.hid (by unfold nm; omega)
  have HMC : Hid (((64 * x + y : Nat)) = nm r.ca r.cd) := Lib.hid (by unfold nm; omega)
  have hn1 : 64 * a + d < 4096 := by omega
  have hn2 : 64 * x + y < 4096 := by omega
  generalize 64 * a + d = p at HNA HMA hn1
  generalize 64 * x + y = q at HNC HMC hn2
  rw [← ea, ← ed] at HNA
  rw [← ex, ← ey] at HNC
  clear ea ed ex ey ha hd hx hy a d x y
  have HBI := Lib.hid (fun W => Nmw.bits_c r.e.val W)
  have HCW := Lib.hid (clean_w64 _ hv)
  have HOK := Lib.hid (nums_ok r hr hv)
  have HRC := Lib.hid (right_cases r hr)
  have HPO : Hid (∀ L, numsR r = L → RetOwn w w.heap.size (bodyR r) = RetOwn w w.heap.size (L.flatMap form) ∧ ∀ x ∈ L, W64 x) := Lib.hid (fun L h => ⟨by unfold bodyR; rw [h], by rw [← h]; exact (nums_ok r hr hv).1⟩)
  clear hr hv HOK
  generalize RetOwn w w.heap.size (bodyR r) = PP at HPO ⊢
  unfold rvv
  go_enter Try.func41, Try.ntmps41
  go_upto_region 1 with (fail)
  have HX := Lib.hid (show Rx (w.alloc (.cells #[.int .i64 r.kind, .int .i64 r.va, .int .i64 r.vd, .int .i64 r.cn, .int .i64 r.ca, .int .i64 r.cd, .int .i64 r.e.key, .int .i64 r.e.num, .int .i64 r.e.node, .float .f64 r.e.val, .int .i64 r.n] 40)) w.heap.size r from hat _ _ _ rfl)
  have HB := Lib.hid (bal (Below.refl w.heap.size w) (Nat.le_refl _) (.cells #[.int .i64 r.kind, .int .i64 r.va, .int .i64 r.vd, .int .i64 r.cn, .int .i64 r.ca, .int .i64 r.cd, .int .i64 r.e.key, .int .i64 r.e.num, .int .i64 r.e.node, .float .f64 r.e.val, .int .i64 r.n] 40))
  generalize w.alloc (.cells #[.int .i64 r.kind, .int .i64 r.va, .int .i64 r.vd, .int .i64 r.cn, .int .i64 r.ca, .int .i64 r.cd, .int .i64 r.e.key, .int .i64 r.e.num, .int .i64 r.e.node, .float .f64 r.e.val, .int .i64 r.n] 40) = w1 at HX HB ⊢
  have HG := Lib.hid HX.out.lt
  have HK : Hid (∀ W', Below w1.heap.size w1 W' → Elv W' w.heap.size 0 r) := Lib.hid (fun W' h => elv_at (HX.out.all h).at)
  by_cases hk : r.kind = 3
  · have HE := Lib.hid (HPO.out [3, p] (by unfold numsR; rw [if_neg (by omega), if_neg (by omega), if_pos hk, HMA.out]))
    have HK : Hid (∀ W', Below w1.heap.size w1 W' → Elv W' w.heap.size 0 r ∧ W'.cell? ⟨w.heap.size, 0, none⟩ = some (.int .i64 3)) := Lib.hid (fun W' h => ⟨HK.out W' h, by have := (HK.out W' h).1; rw [hk] at this; exact this⟩)
    have hwk : IntKind.u64.wrap r.kind = 3 := by rw [hk]; rfl
    clear hk
    refine wp_region_held_drew (S := fun W' => Below w1.heap.size w1 W') (by kernel_rfl) (Below.refl _ _).drew (fun hHeld => ?_)
    generalize w1.drew = w5 at hHeld ⊢
    have HB5 : Hid (Below w1.heap.size w1 w5) := hHeld
    clear hHeld
    refine take_in (i := 0) (oi := ⟨_, _, _, _, _, _⟩) (v := ?_) rfl (by kernel_rfl) (by kernel_rfl) (by kernel_rfl) (fun _ _ _ h => h) (by rfl) ?_ HB5.out ?_
    rotate_left
    · intro W hW; have hq := HK.out W hW; unfold Elv at hq; go_simp; with_reducible rfl
    simp only [Act.put, List.setIfInBounds_toArray, List.set_cons_zero, List.set_cons_succ]
    refine take_in (i := 1) (oi := ⟨_, _, _, _, _, _⟩) (v := ?_) rfl (by kernel_rfl) (by kernel_rfl) (by kernel_rfl) (fun _ _ _ h => h) (by rfl) ?_ HB5.out ?_
    rotate_left
    · intro W hW; have hq := HK.out W hW; unfold Elv at hq; go_simp; with_reducible rfl
    simp only [Act.put, List.setIfInBounds_toArray, List.set_cons_zero, List.set_cons_succ]
    refine take_in (i := 2) (oi := ⟨_, _, _, _, _, _⟩) (v := ?_) rfl (by kernel_rfl) (by kernel_rfl) (by kernel_rfl) (fun _ _ _ h => h) (by rfl) ?_ HB5.out ?_
    rotate_left
    · intro W hW; have hq := HK.out W hW; unfold Elv at hq; go_simp; with_reducible rfl
    simp only [Act.put, List.setIfInBounds_toArray, List.set_cons_zero, List.set_cons_succ]
    refine take_in (i := 3) (oi := ⟨_, _, _, _, _, _⟩) (v := ?_) rfl (by kernel_rfl) (by kernel_rfl) (by kernel_rfl) (fun _ _ _ h => h) (by rfl) ?_ HB5.out ?_
    rotate_left
    · intro W hW; have hq := HK.out W hW; unfold Elv at hq; go_simp; with_reducible rfl
    simp only [Act.put, List.setIfInBounds_toArray, List.set_cons_zero, List.set_cons_succ]
    refine take_in (i := 4) (oi := ⟨_, _, _, _, _, _⟩) (v := ?_) rfl (by kernel_rfl) (by kernel_rfl) (by kernel_rfl) (fun _ _ _ h => h) (by rfl) ?_ HB5.out ?_
    rotate_left
    · intro W hW; have hq := HK.out W hW; unfold Elv at hq; go_simp; with_reducible rfl
    simp only [Act.put, List.setIfInBounds_toArray, List.set_cons_zero, List.set_cons_succ]
    refine wpAnyH_ready (rs := [5]) (by kernel_rfl) (by simp) ?_
    refine AllReadyH.cons (o := ⟨_, _, _, _, _, _⟩) rfl (fun K hK => ?_) AllReadyH.nil
    go_simp
    refine (HNA.out _).mono ?_
    rintro e w6 ⟨rfl, hb6⟩
    have HB6 := Lib.hid (HB5.out.trans (hb6.mono HB5.out.size)); clear hb6
    refine hK.out _ _ HB6.out (fun _ => ?_)
    clear hK K
    refine take_in (i := 6) (oi := ⟨_, _, _, _, _, _⟩) (v := ?_) rfl (by kernel_rfl) (by kernel_rfl) (by kernel_rfl) (fun _ _ _ h => h) (by rfl) ?_ HB6.out ?_
    rotate_left
    · intro W hW; go_simp; with_reducible rfl
    simp only [Act.put, List.setIfInBounds_toArray, List.set_cons_zero, List.set_cons_succ]
    refine take_in (i := 7) (oi := ⟨_, _, _, _, _, _⟩) (v := ?_) rfl (by kernel_rfl) (by kernel_rfl) (by kernel_rfl) (fun _ _ _ h => h) (by rfl) ?_ HB6.out ?_
    rotate_left
    · intro W hW; go_simp; with_reducible rfl
    simp only [Act.put, List.setIfInBounds_toArray, List.set_cons_zero, List.set_cons_succ]
    refine wpAnyH_done (by kernel_rfl) ?_ _
    have HX := Lib.hid (HX.out.all HB6.out)
    have HB := Lib.hid (HB.out.trans (HB6.out.mono HB.out.size))
    have z0 := (HK.out w6 HB6.out).2
    obtain ⟨_, z1, z2, z3, z4, z5, z6, z7, z8, z9, z10⟩ := HX.out.cs
    clear HK HB5 HB6 HG hwk
    go_wp2_with fail
    refine (put_row [N64 3, N64 p] [3, p] rfl HE.out.2 2 rfl (by omega) w6).mono ?_
    rintro e w9 hw9
    have HR := Lib.hid (retOwn_trans (bal HB.out (Nat.le_refl _) _) hw9)
    obtain ⟨A9, n9, c9, rfl, ho9, hb9⟩ := hw9
    clear ho9 hb9
    go_wp2
    rw [HE.out.1]
    exact HR.out
  have h3 := hk; clear hk
  by_cases hk : r.kind = 5
  · have HE := Lib.hid (HPO.out [5, p, q] (by unfold numsR; rw [if_neg (by omega), if_neg (by omega), if_neg (by omega), if_pos hk, HMA.out, HMC.out]))
    have HK : Hid (∀ W', Below w1.heap.size w1 W' → Elv W' w.heap.size 0 r ∧ W'.cell? ⟨w.heap.size, 0, none⟩ = some (.int .i64 5)) := Lib.hid (fun W' h => ⟨HK.out W' h, by have := (HK.out W' h).1; rw [hk] at this; exact this⟩)
    have hwk : IntKind.u64.wrap r.kind = 5 := by rw [hk]; rfl
    clear hk
    refine wp_region_held_drew (S := fun W' => Below w1.heap.size w1 W') (by kernel_rfl) (Below.refl _ _).drew (fun hHeld => ?_)
    generalize w1.drew = w5 at hHeld ⊢
    have HB5 : Hid (Below w1.heap.size w1 w5) := hHeld
    clear hHeld
    refine take_in (i := 0) (oi := ⟨_, _, _, _, _, _⟩) (v := ?_) rfl (by kernel_rfl) (by kernel_rfl) (by kernel_rfl) (fun _ _ _ h => h) (by rfl) ?_ HB5.out ?_
    rotate_left
    · intro W hW; have hq := HK.out W hW; unfold Elv at hq; go_simp; with_reducible rfl
    simp only [Act.put, List.setIfInBounds_toArray, List.set_cons_zero, List.set_cons_succ]
    refine take_in (i := 1) (oi := ⟨_, _, _, _, _, _⟩) (v := ?_) rfl (by kernel_rfl) (by kernel_rfl) (by kernel_rfl) (fun _ _ _ h => h) (by rfl) ?_ HB5.out ?_
    rotate_left
    · intro W hW; have hq := HK.out W hW; unfold Elv at hq; go_simp; with_reducible rfl
    simp only [Act.put, List.setIfInBounds_toArray, List.set_cons_zero, List.set_cons_succ]
    refine take_in (i := 2) (oi := ⟨_, _, _, _, _, _⟩) (v := ?_) rfl (by kernel_rfl) (by kernel_rfl) (by kernel_rfl) (fun _ _ _ h => h) (by rfl) ?_ HB5.out ?_
    rotate_left
    · intro W hW; have hq := HK.out W hW; unfold Elv at hq; go_simp; with_reducible rfl
    simp only [Act.put, List.setIfInBounds_toArray, List.set_cons_zero, List.set_cons_succ]
    refine take_in (i := 3) (oi := ⟨_, _, _, _, _, _⟩) (v := ?_) rfl (by kernel_rfl) (by kernel_rfl) (by kernel_rfl) (fun _ _ _ h => h) (by rfl) ?_ HB5.out ?_
    rotate_left
    · intro W hW; have hq := HK.out W hW; unfold Elv at hq; go_simp; with_reducible rfl
    simp only [Act.put, List.setIfInBounds_toArray, List.set_cons_zero, List.set_cons_succ]
    refine take_in (i := 4) (oi := ⟨_, _, _, _, _, _⟩) (v := ?_) rfl (by kernel_rfl) (by kernel_rfl) (by kernel_rfl) (fun _ _ _ h => h) (by rfl) ?_ HB5.out ?_
    rotate_left
    · intro W hW; have hq := HK.out W hW; unfold Elv at hq; go_simp; with_reducible rfl
    simp only [Act.put, List.setIfInBounds_toArray, List.set_cons_zero, List.set_cons_succ]
    refine wpAnyH_ready (rs := [5]) (by kernel_rfl) (by simp) ?_
    refine AllReadyH.cons (o := ⟨_, _, _, _, _, _⟩) rfl (fun K hK => ?_) AllReadyH.nil
    go_simp
    refine (HNA.out _).mono ?_
    rintro e w6 ⟨rfl, hb6⟩
    have HB6 := Lib.hid (HB5.out.trans (hb6.mono HB5.out.size)); clear hb6
    refine hK.out _ _ HB6.out (fun _ => ?_)
    clear hK K
    refine take_in (i := 6) (oi := ⟨_, _, _, _, _, _⟩) (v := ?_) rfl (by kernel_rfl) (by kernel_rfl) (by kernel_rfl) (fun _ _ _ h => h) (by rfl) ?_ HB6.out ?_
    rotate_left
    · intro W hW; go_simp; with_reducible rfl
    simp only [Act.put, List.setIfInBounds_toArray, List.set_cons_zero, List.set_cons_succ]
    refine take_in (i := 7) (oi := ⟨_, _, _, _, _, _⟩) (v := ?_) rfl (by kernel_rfl) (by kernel_rfl) (by kernel_rfl) (fun _ _ _ h => h) (by rfl) ?_ HB6.out ?_
    rotate_left
    · intro W hW; go_simp; with_reducible rfl
    simp only [Act.put, List.setIfInBounds_toArray, List.set_cons_zero, List.set_cons_succ]
    refine wpAnyH_done (by kernel_rfl) ?_ _
    have HX := Lib.hid (HX.out.all HB6.out)
    have HB := Lib.hid (HB.out.trans (HB6.out.mono HB.out.size))
    have z0 := (HK.out w6 HB6.out).2
    obtain ⟨_, z1, z2, z3, z4, z5, z6, z7, z8, z9, z10⟩ := HX.out.cs
    clear HK HB5 HB6 HG hwk
    go_wp2_with fail
    refine (HNC.out _).mono ?_
    rintro e w7 ⟨rfl, hb7⟩
    have HB := Lib.hid (HB.out.trans (hb7.mono HB.out.size)); clear hb7
    go_wp2_with fail
    refine (put_row [N64 5, N64 p, N64 q] [5, p, q] rfl HE.out.2 3 rfl (by omega) w7).mono ?_
    rintro e w9 hw9
    have HR := Lib.hid (retOwn_trans (bal HB.out (Nat.le_refl _) _) hw9)
    obtain ⟨A9, n9, c9, rfl, ho9, hb9⟩ := hw9
    clear ho9 hb9
    go_wp2
    rw [HE.out.1]
    exact HR.out
  have h5 := hk; clear hk
  by_cases hk : r.kind = 2
  · have hcn : 0 ≤ r.cn ∧ r.cn ≤ 5 := by rcases HRC.out with h | h | h | h | h <;> omega
    obtain ⟨j, hj⟩ : ∃ j : Nat, r.cn = j := ⟨r.cn.toNat, by omega⟩
    have hj5 : j ≤ 5 := by omega
    have HE := Lib.hid (HPO.out [2, p, j, q] (by unfold numsR; rw [if_neg (by omega), if_pos hk, HMA.out, HMC.out, hj]; rfl))
    have HK : Hid (∀ W', Below w1.heap.size w1 W' → Elv W' w.heap.size 0 r ∧ W'.cell? ⟨w.heap.size, 0, none⟩ = some (.int .i64 2)) := Lib.hid (fun W' h => ⟨HK.out W' h, by have := (HK.out W' h).1; rw [hk] at this; exact this⟩)
    have hwk : IntKind.u64.wrap r.kind = 2 := by rw [hk]; rfl
    clear hk
    refine wp_region_held_drew (S := fun W' => Below w1.heap.size w1 W') (by kernel_rfl) (Below.refl _ _).drew (fun hHeld => ?_)
    generalize w1.drew = w5 at hHeld ⊢
    have HB5 : Hid (Below w1.heap.size w1 w5) := hHeld
    clear hHeld
    refine take_in (i := 0) (oi := ⟨_, _, _, _, _, _⟩) (v := ?_) rfl (by kernel_rfl) (by kernel_rfl) (by kernel_rfl) (fun _ _ _ h => h) (by rfl) ?_ HB5.out ?_
    rotate_left
    · intro W hW; have hq := HK.out W hW; unfold Elv at hq; go_simp; with_reducible rfl
    simp only [Act.put, List.setIfInBounds_toArray, List.set_cons_zero, List.set_cons_succ]
    refine take_in (i := 1) (oi := ⟨_, _, _, _, _, _⟩) (v := ?_) rfl (by kernel_rfl) (by kernel_rfl) (by kernel_rfl) (fun _ _ _ h => h) (by rfl) ?_ HB5.out ?_
    rotate_left
    · intro W hW; have hq := HK.out W hW; unfold Elv at hq; go_simp; with_reducible rfl
    simp only [Act.put, List.setIfInBounds_toArray, List.set_cons_zero, List.set_cons_succ]
    refine take_in (i := 2) (oi := ⟨_, _, _, _, _, _⟩) (v := ?_) rfl (by kernel_rfl) (by kernel_rfl) (by kernel_rfl) (fun _ _ _ h => h) (by rfl) ?_ HB5.out ?_
    rotate_left
    · intro W hW; have hq := HK.out W hW; unfold Elv at hq; go_simp; with_reducible rfl
    simp only [Act.put, List.setIfInBounds_toArray, List.set_cons_zero, List.set_cons_succ]
    refine take_in (i := 3) (oi := ⟨_, _, _, _, _, _⟩) (v := ?_) rfl (by kernel_rfl) (by kernel_rfl) (by kernel_rfl) (fun _ _ _ h => h) (by rfl) ?_ HB5.out ?_
    rotate_left
    · intro W hW; have hq := HK.out W hW; unfold Elv at hq; go_simp; with_reducible rfl
    simp only [Act.put, List.setIfInBounds_toArray, List.set_cons_zero, List.set_cons_succ]
    refine take_in (i := 4) (oi := ⟨_, _, _, _, _, _⟩) (v := ?_) rfl (by kernel_rfl) (by kernel_rfl) (by kernel_rfl) (fun _ _ _ h => h) (by rfl) ?_ HB5.out ?_
    rotate_left
    · intro W hW; have hq := HK.out W hW; unfold Elv at hq; go_simp; with_reducible rfl
    simp only [Act.put, List.setIfInBounds_toArray, List.set_cons_zero, List.set_cons_succ]
    refine wpAnyH_ready (rs := [5]) (by kernel_rfl) (by simp) ?_
    refine AllReadyH.cons (o := ⟨_, _, _, _, _, _⟩) rfl (fun K hK => ?_) AllReadyH.nil
    go_simp
    refine (HNA.out _).mono ?_
    rintro e w6 ⟨rfl, hb6⟩
    have HB6 := Lib.hid (HB5.out.trans (hb6.mono HB5.out.size)); clear hb6
    refine hK.out _ _ HB6.out (fun _ => ?_)
    clear hK K
    refine take_in (i := 6) (oi := ⟨_, _, _, _, _, _⟩) (v := ?_) rfl (by kernel_rfl) (by kernel_rfl) (by kernel_rfl) (fun _ _ _ h => h) (by rfl) ?_ HB6.out ?_
    rotate_left
    · intro W hW; go_simp; with_reducible rfl
    simp only [Act.put, List.setIfInBounds_toArray, List.set_cons_zero, List.set_cons_succ]
    refine take_in (i := 7) (oi := ⟨_, _, _, _, _, _⟩) (v := ?_) rfl (by kernel_rfl) (by kernel_rfl) (by kernel_rfl) (fun _ _ _ h => h) (by rfl) ?_ HB6.out ?_
    rotate_left
    · intro W hW; go_simp; with_reducible rfl
    simp only [Act.put, List.setIfInBounds_toArray, List.set_cons_zero, List.set_cons_succ]
    refine wpAnyH_done (by kernel_rfl) ?_ _
    have HX := Lib.hid (HX.out.all HB6.out)
    have HB := Lib.hid (HB.out.trans (HB6.out.mono HB.out.size))
    have z0 := (HK.out w6 HB6.out).2
    obtain ⟨_, z1, z2, z3, z4, z5, z6, z7, z8, z9, z10⟩ := HX.out.cs
    clear HK HB5 HB6 HG hwk
    rw [hj] at z3
    clear hj hcn
    have wj : IntKind.u64.wrap (j : Int) = j := wrapu j (by omega)
    go_upto_region 7 with (fail)
    have HK : Hid (∀ W', Below w6.heap.size w6 W' → W'.cell? ⟨w.heap.size, 3, none⟩ = some (.int .i64 j) ∧ W'.cell? ⟨w.heap.size, 4, none⟩ = some (.int .i64 r.ca) ∧ W'.cell? ⟨w.heap.size, 5, none⟩ = some (.int .i64 r.cd)) := Lib.hid (fun W' h => ⟨(h.cell HX.out.lt).trans z3, (h.cell HX.out.lt).trans z4, (h.cell HX.out.lt).trans z5⟩)
    refine wp_region_held_drew (S := fun W' => Below w6.heap.size w6 W') (by kernel_rfl) (Below.refl _ _).drew (fun hHeld => ?_)
    generalize w6.drew = w7 at hHeld ⊢
    have HB7 : Hid (Below w6.heap.size w6 w7) := hHeld
    clear hHeld
    refine take_in (i := 0) (oi := ⟨_, _, _, _, _, _⟩) (v := ?_) rfl (by kernel_rfl) (by kernel_rfl) (by kernel_rfl) (fun _ _ _ h => h) (by rfl) ?_ HB7.out ?_
    rotate_left
    · intro W hW; have hq := HK.out W hW; go_simp; with_reducible rfl
    simp only [Act.put, List.setIfInBounds_toArray, List.set_cons_zero, List.set_cons_succ]
    refine take_in (i := 1) (oi := ⟨_, _, _, _, _, _⟩) (v := ?_) rfl (by kernel_rfl) (by kernel_rfl) (by kernel_rfl) (fun _ _ _ h => h) (by rfl) ?_ HB7.out ?_
    rotate_left
    · intro W hW; have hq := HK.out W hW; go_simp; with_reducible rfl
    simp only [Act.put, List.setIfInBounds_toArray, List.set_cons_zero, List.set_cons_succ]
    refine take_in (i := 2) (oi := ⟨_, _, _, _, _, _⟩) (v := ?_) rfl (by kernel_rfl) (by kernel_rfl) (by kernel_rfl) (fun _ _ _ h => h) (by rfl) ?_ HB7.out ?_
    rotate_left
    · intro W hW; have hq := HK.out W hW; go_simp; with_reducible rfl
    simp only [Act.put, List.setIfInBounds_toArray, List.set_cons_zero, List.set_cons_succ]
    refine take_in (i := 3) (oi := ⟨_, _, _, _, _, _⟩) (v := ?_) rfl (by kernel_rfl) (by kernel_rfl) (by kernel_rfl) (fun _ _ _ h => h) (by rfl) ?_ HB7.out ?_
    rotate_left
    · intro W hW; have hq := HK.out W hW; go_simp; with_reducible rfl
    simp only [Act.put, List.setIfInBounds_toArray, List.set_cons_zero, List.set_cons_succ]
    refine take_in (i := 4) (oi := ⟨_, _, _, _, _, _⟩) (v := ?_) rfl (by kernel_rfl) (by kernel_rfl) (by kernel_rfl) (fun _ _ _ h => h) (by rfl) ?_ HB7.out ?_
    rotate_left
    · intro W hW; have hq := HK.out W hW; go_simp; with_reducible rfl
    simp only [Act.put, List.setIfInBounds_toArray, List.set_cons_zero, List.set_cons_succ]
    refine take_in (i := 5) (oi := ⟨_, _, _, _, _, _⟩) (v := ?_) rfl (by kernel_rfl) (by kernel_rfl) (by kernel_rfl) (fun _ _ _ h => h) (by rfl) ?_ HB7.out ?_
    rotate_left
    · intro W hW; have hq := HK.out W hW; go_simp; with_reducible rfl
    simp only [Act.put, List.setIfInBounds_toArray, List.set_cons_zero, List.set_cons_succ]
    refine take_in (i := 6) (oi := ⟨_, _, _, _, _, _⟩) (v := ?_) rfl (by kernel_rfl) (by kernel_rfl) (by kernel_rfl) (fun _ _ _ h => h) (by rfl) ?_ HB7.out ?_
    rotate_left
    · intro W hW; have hq := HK.out W hW; go_simp; with_reducible rfl
    simp only [Act.put, List.setIfInBounds_toArray, List.set_cons_zero, List.set_cons_succ]
    refine take_in (i := 7) (oi := ⟨_, _, _, _, _, _⟩) (v := ?_) rfl (by kernel_rfl) (by kernel_rfl) (by kernel_rfl) (fun _ _ _ h => h) (by rfl) ?_ HB7.out ?_
    rotate_left
    · intro W hW; have hq := HK.out W hW; go_simp; with_reducible rfl
    simp only [Act.put, List.setIfInBounds_toArray, List.set_cons_zero, List.set_cons_succ]
    refine take_in (i := 8) (oi := ⟨_, _, _, _, _, _⟩) (v := ?_) rfl (by kernel_rfl) (by kernel_rfl) (by kernel_rfl) (fun _ _ _ h => h) (by rfl) ?_ HB7.out ?_
    rotate_left
    · intro W hW; have hq := HK.out W hW; go_simp; with_reducible rfl
    simp only [Act.put, List.setIfInBounds_toArray, List.set_cons_zero, List.set_cons_succ]
    refine wpAnyH_ready (rs := [9]) (by kernel_rfl) (by simp) ?_
    refine AllReadyH.cons (o := ⟨_, _, _, _, _, _⟩) rfl (fun K hK => ?_) AllReadyH.nil
    go_simp
    refine (HNC.out _).mono ?_
    rintro e w8 ⟨rfl, hb8⟩
    have HB8 := Lib.hid (HB7.out.trans (hb8.mono HB7.out.size)); clear hb8
    refine hK.out _ _ HB8.out (fun _ => ?_)
    clear hK K
    refine wpAnyH_ready (rs := [10]) (by kernel_rfl) (by simp) ?_
    refine AllReadyH.cons (o := ⟨_, _, _, _, _, _⟩) rfl (fun K hK => ?_) AllReadyH.nil
    go_simp
    refine hK.out _ _ (bal HB8.out (Nat.le_refl _) _) (fun _ => ?_)
    clear hK K
    refine wpAnyH_ready (rs := [11]) (by kernel_rfl) (by simp) ?_
    refine AllReadyH.cons (o := ⟨_, _, _, _, _, _⟩) rfl (fun K hK => ?_) AllReadyH.nil
    go_simp
    have HBW := Lib.hid (HB.out.trans (HB8.out.mono HB.out.size))
    refine (put_row [N64 2, N64 p, N64 j, N64 q] [2, p, j, q] rfl HE.out.2 4 rfl (by omega) w8).mono ?_
    rintro e w9 hw9
    have HR := Lib.hid (retOwn_trans (bal HBW.out (Nat.le_refl _) _) hw9)
    obtain ⟨A9, n9, c9, rfl, ho9, hb9⟩ := hw9
    have HB9 := Lib.hid ((bal HB8.out (Nat.le_refl _) _).trans (hb9.mono (bal HB8.out (Nat.le_refl _) _).size))
    clear ho9 hb9
    refine hK.out _ _ HB9.out (fun _ => ?_)
    clear hK K
    refine take_in (i := 12) (oi := ⟨_, _, _, _, _, _⟩) (v := ?_) rfl (by kernel_rfl) (by kernel_rfl) (by kernel_rfl) (fun _ _ _ h => h) (by rfl) ?_ HB9.out ?_
    rotate_left
    · intro W hW; go_simp; with_reducible rfl
    simp only [Act.put, List.setIfInBounds_toArray, List.set_cons_zero, List.set_cons_succ]
    refine wpAnyH_done (by kernel_rfl) ?_ _
    go_wp2
    rw [HE.out.1]
    exact HR.out
  have h2 := hk; clear hk
  by_cases hk : r.kind = 1
  · have hok : okE r.e = true := by
      rcases HRC.out with h | h | h | h | h
      · exact h.2.2.1
      all_goals omega
    rw [okE_iff] at hok
    obtain ⟨j, hj⟩ : ∃ j : Nat, r.e.key = j := ⟨r.e.key.toNat, by omega⟩
    obtain ⟨m, hm⟩ : ∃ m : Nat, r.e.num = m := ⟨r.e.num.toNat, by omega⟩
    obtain ⟨o, ho⟩ : ∃ o : Nat, r.e.node = o := ⟨r.e.node.toNat, by omega⟩
    have hj5 : j ≤ 3 ∧ m ≤ 1000000 ∧ o ≤ 5 := by omega
    have HE := Lib.hid (HPO.out [1, p, j, m, o, Flt.clean r.e.val] (by unfold numsR; rw [if_pos hk, HMA.out, hj, hm, ho]; rfl))
    have HK : Hid (∀ W', Below w1.heap.size w1 W' → Elv W' w.heap.size 0 r ∧ W'.cell? ⟨w.heap.size, 0, none⟩ = some (.int .i64 1)) := Lib.hid (fun W' h => ⟨HK.out W' h, by have := (HK.out W' h).1; rw [hk] at this; exact this⟩)
    have hwk : IntKind.u64.wrap r.kind = 1 := by rw [hk]; rfl
    clear hk
    refine wp_region_held_drew (S := fun W' => Below w1.heap.size w1 W') (by kernel_rfl) (Below.refl _ _).drew (fun hHeld => ?_)
    generalize w1.drew = w5 at hHeld ⊢
    have HB5 : Hid (Below w1.heap.size w1 w5) := hHeld
    clear hHeld
    refine take_in (i := 0) (oi := ⟨_, _, _, _, _, _⟩) (v := ?_) rfl (by kernel_rfl) (by kernel_rfl) (by kernel_rfl) (fun _ _ _ h => h) (by rfl) ?_ HB5.out ?_
    rotate_left
    · intro W hW; have hq := HK.out W hW; unfold Elv at hq; go_simp; with_reducible rfl
    simp only [Act.put, List.setIfInBounds_toArray, List.set_cons_zero, List.set_cons_succ]
    refine take_in (i := 1) (oi := ⟨_, _, _, _, _, _⟩) (v := ?_) rfl (by kernel_rfl) (by kernel_rfl) (by kernel_rfl) (fun _ _ _ h => h) (by rfl) ?_ HB5.out ?_
    rotate_left
    · intro W hW; have hq := HK.out W hW; unfold Elv at hq; go_simp; with_reducible rfl
    simp only [Act.put, List.setIfInBounds_toArray, List.set_cons_zero, List.set_cons_succ]
    refine take_in (i := 2) (oi := ⟨_, _, _, _, _, _⟩) (v := ?_) rfl (by kernel_rfl) (by kernel_rfl) (by kernel_rfl) (fun _ _ _ h => h) (by rfl) ?_ HB5.out ?_
    rotate_left
    · intro W hW; have hq := HK.out W hW; unfold Elv at hq; go_simp; with_reducible rfl
    simp only [Act.put, List.setIfInBounds_toArray, List.set_cons_zero, List.set_cons_succ]
    refine take_in (i := 3) (oi := ⟨_, _, _, _, _, _⟩) (v := ?_) rfl (by kernel_rfl) (by kernel_rfl) (by kernel_rfl) (fun _ _ _ h => h) (by rfl) ?_ HB5.out ?_
    rotate_left
    · intro W hW; have hq := HK.out W hW; unfold Elv at hq; go_simp; with_reducible rfl
    simp only [Act.put, List.setIfInBounds_toArray, List.set_cons_zero, List.set_cons_succ]
    refine take_in (i := 4) (oi := ⟨_, _, _, _, _, _⟩) (v := ?_) rfl (by kernel_rfl) (by kernel_rfl) (by kernel_rfl) (fun _ _ _ h => h) (by rfl) ?_ HB5.out ?_
    rotate_left
    · intro W hW; have hq := HK.out W hW; unfold Elv at hq; go_simp; with_reducible rfl
    simp only [Act.put, List.setIfInBounds_toArray, List.set_cons_zero, List.set_cons_succ]
    refine wpAnyH_ready (rs := [5]) (by kernel_rfl) (by simp) ?_
    refine AllReadyH.cons (o := ⟨_, _, _, _, _, _⟩) rfl (fun K hK => ?_) AllReadyH.nil
    go_simp
    refine (HNA.out _).mono ?_
    rintro e w6 ⟨rfl, hb6⟩
    have HB6 := Lib.hid (HB5.out.trans (hb6.mono HB5.out.size)); clear hb6
    refine hK.out _ _ HB6.out (fun _ => ?_)
    clear hK K
    refine take_in (i := 6) (oi := ⟨_, _, _, _, _, _⟩) (v := ?_) rfl (by kernel_rfl) (by kernel_rfl) (by kernel_rfl) (fun _ _ _ h => h) (by rfl) ?_ HB6.out ?_
    rotate_left
    · intro W hW; go_simp; with_reducible rfl
    simp only [Act.put, List.setIfInBounds_toArray, List.set_cons_zero, List.set_cons_succ]
    refine take_in (i := 7) (oi := ⟨_, _, _, _, _, _⟩) (v := ?_) rfl (by kernel_rfl) (by kernel_rfl) (by kernel_rfl) (fun _ _ _ h => h) (by rfl) ?_ HB6.out ?_
    rotate_left
    · intro W hW; go_simp; with_reducible rfl
    simp only [Act.put, List.setIfInBounds_toArray, List.set_cons_zero, List.set_cons_succ]
    refine wpAnyH_done (by kernel_rfl) ?_ _
    have HX := Lib.hid (HX.out.all HB6.out)
    have HB := Lib.hid (HB.out.trans (HB6.out.mono HB.out.size))
    have z0 := (HK.out w6 HB6.out).2
    obtain ⟨_, z1, z2, z3, z4, z5, z6, z7, z8, z9, z10⟩ := HX.out.cs
    clear HK HB5 HB6 HG hwk
    rw [hj] at z6
    rw [hm] at z7
    rw [ho] at z8
    clear hj hm ho hok
    generalize Flt.clean r.e.val = u at HE HBI HCW
    have wj : IntKind.u64.wrap (j : Int) = j := wrapu j (by omega)
    have wm : IntKind.u64.wrap (m : Int) = m := wrapu m (by omega)
    have wo : IntKind.u64.wrap (o : Int) = o := wrapu o (by omega)
    have hsf := store_flt
    go_upto_region 5 with (fail)
    have HKE := Lib.hid (show (w6.alloc (.cells #[.int .i64 (j : Int), .int .i64 (m : Int), .int .i64 (o : Int), .float .f64 r.e.val] 38)).heap[w6.heap.size]? = some (.cells #[.int .i64 (j : Int), .int .i64 (m : Int), .int .i64 (o : Int), .float .f64 r.e.val] 38) from hat _ _ _ rfl)
    have HB := Lib.hid (bal HB.out (Nat.le_refl _) (.cells #[.int .i64 (j : Int), .int .i64 (m : Int), .int .i64 (o : Int), .float .f64 r.e.val] 38))
    clear z0 z1 z2 z3 z4 z5 z6 z7 z8 z9 z10
    generalize w6.alloc (.cells #[.int .i64 (j : Int), .int .i64 (m : Int), .int .i64 (o : Int), .float .f64 r.e.val] 38) = w7 at HKE HB ⊢
    generalize w6.heap.size = ge at HKE ⊢
    have hgl : ge < w7.heap.size := by
      rcases Nat.lt_or_ge ge w7.heap.size with h' | h'
      · exact h'
      · have := HKE.out; rw [Array.getElem?_eq_none h'] at this; cases this
    have HK : Hid (∀ W', Below w7.heap.size w7 W' → W'.cell? ⟨ge, 0, none⟩ = some (.int .i64 j) ∧ W'.cell? ⟨ge, 1, none⟩ = some (.int .i64 m) ∧ W'.cell? ⟨ge, 2, none⟩ = some (.int .i64 o) ∧ W'.cell? ⟨ge, 3, none⟩ = some (.float .f64 r.e.val)) := Lib.hid (fun W' h => by
      have h2 := (h.block ge hgl).trans HKE.out
      refine ⟨?_, ?_, ?_, ?_⟩ <;> (rw [cell_of_row _ _ _ _ _ _ h2]; rfl))
    refine wp_region_held_drew (S := fun W' => Below w7.heap.size w7 W') (by kernel_rfl) (Below.refl _ _).drew (fun hHeld => ?_)
    generalize w7.drew = w8 at hHeld ⊢
    have HB8 : Hid (Below w7.heap.size w7 w8) := hHeld
    clear hHeld
    refine take_in (i := 0) (oi := ⟨_, _, _, _, _, _⟩) (v := ?_) rfl (by kernel_rfl) (by kernel_rfl) (by kernel_rfl) (fun _ _ _ h => h) (by rfl) ?_ HB8.out ?_
    rotate_left
    · intro W hW; have hq := HK.out W hW; go_simp; with_reducible rfl
    simp only [Act.put, List.setIfInBounds_toArray, List.set_cons_zero, List.set_cons_succ]
    refine take_in (i := 1) (oi := ⟨_, _, _, _, _, _⟩) (v := ?_) rfl (by kernel_rfl) (by kernel_rfl) (by kernel_rfl) (fun _ _ _ h => h) (by rfl) ?_ HB8.out ?_
    rotate_left
    · intro W hW; have hq := HK.out W hW; go_simp; with_reducible rfl
    simp only [Act.put, List.setIfInBounds_toArray, List.set_cons_zero, List.set_cons_succ]
    refine take_in (i := 2) (oi := ⟨_, _, _, _, _, _⟩) (v := ?_) rfl (by kernel_rfl) (by kernel_rfl) (by kernel_rfl) (fun _ _ _ h => h) (by rfl) ?_ HB8.out ?_
    rotate_left
    · intro W hW; have hq := HK.out W hW; go_simp; with_reducible rfl
    simp only [Act.put, List.setIfInBounds_toArray, List.set_cons_zero, List.set_cons_succ]
    refine take_in (i := 3) (oi := ⟨_, _, _, _, _, _⟩) (v := ?_) rfl (by kernel_rfl) (by kernel_rfl) (by kernel_rfl) (fun _ _ _ h => h) (by rfl) ?_ HB8.out ?_
    rotate_left
    · intro W hW; have hq := HK.out W hW; go_simp; with_reducible rfl
    simp only [Act.put, List.setIfInBounds_toArray, List.set_cons_zero, List.set_cons_succ]
    refine take_in (i := 4) (oi := ⟨_, _, _, _, _, _⟩) (v := ?_) rfl (by kernel_rfl) (by kernel_rfl) (by kernel_rfl) (fun _ _ _ h => h) (by rfl) ?_ HB8.out ?_
    rotate_left
    · intro W hW; have hq := HK.out W hW; go_simp; with_reducible rfl
    simp only [Act.put, List.setIfInBounds_toArray, List.set_cons_zero, List.set_cons_succ]
    refine take_in (i := 5) (oi := ⟨_, _, _, _, _, _⟩) (v := ?_) rfl (by kernel_rfl) (by kernel_rfl) (by kernel_rfl) (fun _ _ _ h => h) (by rfl) ?_ HB8.out ?_
    rotate_left
    · intro W hW; have hq := HK.out W hW; go_simp; with_reducible rfl
    simp only [Act.put, List.setIfInBounds_toArray, List.set_cons_zero, List.set_cons_succ]
    refine take_in (i := 6) (oi := ⟨_, _, _, _, _, _⟩) (v := ?_) rfl (by kernel_rfl) (by kernel_rfl) (by kernel_rfl) (fun _ _ _ h => h) (by rfl) ?_ HB8.out ?_
    rotate_left
    · intro W hW; have hq := HK.out W hW; go_simp; with_reducible rfl
    simp only [Act.put, List.setIfInBounds_toArray, List.set_cons_zero, List.set_cons_succ]
    refine take_in (i := 7) (oi := ⟨_, _, _, _, _, _⟩) (v := ?_) rfl (by kernel_rfl) (by kernel_rfl) (by kernel_rfl) (fun _ _ _ h => h) (by rfl) ?_ HB8.out ?_
    rotate_left
    · intro W hW; have hq := HK.out W hW; go_simp; with_reducible rfl
    simp only [Act.put, List.setIfInBounds_toArray, List.set_cons_zero, List.set_cons_succ]
    refine take_in (i := 8) (oi := ⟨_, _, _, _, _, _⟩) (v := ?_) rfl (by kernel_rfl) (by kernel_rfl) (by kernel_rfl) (fun _ _ _ h => h) (by rfl) ?_ HB8.out ?_
    rotate_left
    · intro W hW; have hq := HK.out W hW; go_simp; with_reducible rfl
    simp only [Act.put, List.setIfInBounds_toArray, List.set_cons_zero, List.set_cons_succ]
    refine take_in (i := 9) (oi := ⟨_, _, _, _, _, _⟩) (v := ?_) rfl (by kernel_rfl) (by kernel_rfl) (by kernel_rfl) (fun _ _ _ h => h) (by rfl) ?_ HB8.out ?_
    rotate_left
    · intro W hW; have hq := HK.out W hW; go_simp; with_reducible rfl
    simp only [Act.put, List.setIfInBounds_toArray, List.set_cons_zero, List.set_cons_succ]
    refine take_in (i := 10) (oi := ⟨_, _, _, _, _, _⟩) (v := ?_) rfl (by kernel_rfl) (by kernel_rfl) (by kernel_rfl) (fun _ _ _ h => h) (by rfl) ?_ HB8.out ?_
    rotate_left
    · intro W hW; have hq := HK.out W hW; go_simp; with_reducible rfl
    simp only [Act.put, List.setIfInBounds_toArray, List.set_cons_zero, List.set_cons_succ]
    refine take_in (i := 11) (oi := ⟨_, _, _, _, _, _⟩) (v := ?_) rfl (by kernel_rfl) (by kernel_rfl) (by kernel_rfl) (fun _ _ _ h => h) (by rfl) ?_ HB8.out ?_
    rotate_left
    · intro W hW; have hq := HK.out W hW; go_simp; with_reducible rfl
    simp only [Act.put, List.setIfInBounds_toArray, List.set_cons_zero, List.set_cons_succ]
    refine take_in (i := 12) (oi := ⟨_, _, _, _, _, _⟩) (v := ?_) rfl (by kernel_rfl) (by kernel_rfl) (by kernel_rfl) (fun _ _ _ h => h) (by rfl) ?_ HB8.out ?_
    rotate_left
    · intro W hW; have hq := HK.out W hW; go_simp; with_reducible rfl
    simp only [Act.put, List.setIfInBounds_toArray, List.set_cons_zero, List.set_cons_succ]
    refine take_in (i := 13) (oi := ⟨_, _, _, _, _, _⟩) (v := ?_) rfl (by kernel_rfl) (by kernel_rfl) (by kernel_rfl) (fun _ _ _ h => h) (by rfl) ?_ HB8.out ?_
    rotate_left
    · intro W hW; have hq := HK.out W hW; go_simp; with_reducible rfl
    simp only [Act.put, List.setIfInBounds_toArray, List.set_cons_zero, List.set_cons_succ]
    refine take_in (i := 14) (oi := ⟨_, _, _, _, _, _⟩) (v := ?_) rfl (by kernel_rfl) (by kernel_rfl) (by kernel_rfl) (fun _ _ _ h => h) (by rfl) ?_ HB8.out ?_
    rotate_left
    · intro W hW; have hq := HK.out W hW; go_simp; with_reducible rfl
    simp only [Act.put, List.setIfInBounds_toArray, List.set_cons_zero, List.set_cons_succ]
    refine wpAnyH_ready (rs := [15]) (by kernel_rfl) (by simp) ?_
    refine AllReadyH.cons (o := ⟨_, _, _, _, _, _⟩) rfl (fun K hK => ?_) AllReadyH.nil
    go_simp
    refine (HBI.out _).mono ?_
    rintro e w8b ⟨rfl, hw8⟩
    subst hw8
    refine hK.out _ _ HB8.out (fun _ => ?_)
    clear hK K
    refine wpAnyH_ready (rs := [16]) (by kernel_rfl) (by simp) ?_
    refine AllReadyH.cons (o := ⟨_, _, _, _, _, _⟩) rfl (fun K hK => ?_) AllReadyH.nil
    go_simp
    refine hK.out _ _ (bal HB8.out (Nat.le_refl _) _) (fun _ => ?_)
    clear hK K
    refine wpAnyH_ready (rs := [17]) (by kernel_rfl) (by simp) ?_
    refine AllReadyH.cons (o := ⟨_, _, _, _, _, _⟩) rfl (fun K hK => ?_) AllReadyH.nil
    go_simp
    have HBW := Lib.hid (HB.out.trans (HB8.out.mono HB.out.size))
    refine (put_row [N64 1, N64 p, N64 j, N64 m, N64 o, N64 u] [1, p, j, m, o, u] rfl HE.out.2 6 rfl (by omega) w8).mono ?_
    rintro e w9 hw9
    have HR := Lib.hid (retOwn_trans (bal HBW.out (Nat.le_refl _) _) hw9)
    obtain ⟨A9, n9, c9, rfl, ho9, hb9⟩ := hw9
    have HB9 := Lib.hid ((bal HB8.out (Nat.le_refl _) _).trans (hb9.mono (bal HB8.out (Nat.le_refl _) _).size))
    clear ho9 hb9
    refine hK.out _ _ HB9.out (fun _ => ?_)
    clear hK K
    refine take_in (i := 18) (oi := ⟨_, _, _, _, _, _⟩) (v := ?_) rfl (by kernel_rfl) (by kernel_rfl) (by kernel_rfl) (fun _ _ _ h => h) (by rfl) ?_ HB9.out ?_
    rotate_left
    · intro W hW; go_simp; with_reducible rfl
    simp only [Act.put, List.setIfInBounds_toArray, List.set_cons_zero, List.set_cons_succ]
    refine wpAnyH_done (by kernel_rfl) ?_ _
    go_wp2
    rw [HE.out.1]
    exact HR.out
  have h1 := hk; clear hk
  have hkk : (r.kind = 4 ∨ r.kind = 6) ∧ 1 ≤ r.n ∧ r.n ≤ 1000000 := by
    rcases HRC.out with h | h | h | h | h
    · omega
    · omega
    · omega
    · exact ⟨h.1, h.2.1⟩
    · omega
  obtain ⟨m, hm⟩ : ∃ m : Nat, r.n = m := ⟨r.n.toNat, by omega⟩
  have hm5 : m ≤ 1000000 := by omega
  have wm : IntKind.u64.wrap (m : Int) = m := wrapu m (by omega)
  have h46 := hkk.1
  clear hkk
  by_cases hk : r.kind = 4
  · skip
    have HE := Lib.hid (HPO.out [4, m] (by unfold numsR; rw [if_neg (by omega), if_neg (by omega), if_neg (by omega), if_neg (by omega), hk, hm]; rfl))
    clear h46
    have HK : Hid (∀ W', Below w1.heap.size w1 W' → Elv W' w.heap.size 0 r ∧ W'.cell? ⟨w.heap.size, 0, none⟩ = some (.int .i64 4)) := Lib.hid (fun W' h => ⟨HK.out W' h, by have := (HK.out W' h).1; rw [hk] at this; exact this⟩)
    have hwk : IntKind.u64.wrap r.kind = 4 := by rw [hk]; rfl
    clear hk
    refine wp_region_held_drew (S := fun W' => Below w1.heap.size w1 W') (by kernel_rfl) (Below.refl _ _).drew (fun hHeld => ?_)
    generalize w1.drew = w5 at hHeld ⊢
    have HB5 : Hid (Below w1.heap.size w1 w5) := hHeld
    clear hHeld
    refine take_in (i := 0) (oi := ⟨_, _, _, _, _, _⟩) (v := ?_) rfl (by kernel_rfl) (by kernel_rfl) (by kernel_rfl) (fun _ _ _ h => h) (by rfl) ?_ HB5.out ?_
    rotate_left
    · intro W hW; have hq := HK.out W hW; unfold Elv at hq; go_simp; with_reducible rfl
    simp only [Act.put, List.setIfInBounds_toArray, List.set_cons_zero, List.set_cons_succ]
    refine take_in (i := 1) (oi := ⟨_, _, _, _, _, _⟩) (v := ?_) rfl (by kernel_rfl) (by kernel_rfl) (by kernel_rfl) (fun _ _ _ h => h) (by rfl) ?_ HB5.out ?_
    rotate_left
    · intro W hW; have hq := HK.out W hW; unfold Elv at hq; go_simp; with_reducible rfl
    simp only [Act.put, List.setIfInBounds_toArray, List.set_cons_zero, List.set_cons_succ]
    refine take_in (i := 2) (oi := ⟨_, _, _, _, _, _⟩) (v := ?_) rfl (by kernel_rfl) (by kernel_rfl) (by kernel_rfl) (fun _ _ _ h => h) (by rfl) ?_ HB5.out ?_
    rotate_left
    · intro W hW; have hq := HK.out W hW; unfold Elv at hq; go_simp; with_reducible rfl
    simp only [Act.put, List.setIfInBounds_toArray, List.set_cons_zero, List.set_cons_succ]
    refine take_in (i := 3) (oi := ⟨_, _, _, _, _, _⟩) (v := ?_) rfl (by kernel_rfl) (by kernel_rfl) (by kernel_rfl) (fun _ _ _ h => h) (by rfl) ?_ HB5.out ?_
    rotate_left
    · intro W hW; have hq := HK.out W hW; unfold Elv at hq; go_simp; with_reducible rfl
    simp only [Act.put, List.setIfInBounds_toArray, List.set_cons_zero, List.set_cons_succ]
    refine take_in (i := 4) (oi := ⟨_, _, _, _, _, _⟩) (v := ?_) rfl (by kernel_rfl) (by kernel_rfl) (by kernel_rfl) (fun _ _ _ h => h) (by rfl) ?_ HB5.out ?_
    rotate_left
    · intro W hW; have hq := HK.out W hW; unfold Elv at hq; go_simp; with_reducible rfl
    simp only [Act.put, List.setIfInBounds_toArray, List.set_cons_zero, List.set_cons_succ]
    refine wpAnyH_ready (rs := [5]) (by kernel_rfl) (by simp) ?_
    refine AllReadyH.cons (o := ⟨_, _, _, _, _, _⟩) rfl (fun K hK => ?_) AllReadyH.nil
    go_simp
    refine (HNA.out _).mono ?_
    rintro e w6 ⟨rfl, hb6⟩
    have HB6 := Lib.hid (HB5.out.trans (hb6.mono HB5.out.size)); clear hb6
    refine hK.out _ _ HB6.out (fun _ => ?_)
    clear hK K
    refine take_in (i := 6) (oi := ⟨_, _, _, _, _, _⟩) (v := ?_) rfl (by kernel_rfl) (by kernel_rfl) (by kernel_rfl) (fun _ _ _ h => h) (by rfl) ?_ HB6.out ?_
    rotate_left
    · intro W hW; go_simp; with_reducible rfl
    simp only [Act.put, List.setIfInBounds_toArray, List.set_cons_zero, List.set_cons_succ]
    refine take_in (i := 7) (oi := ⟨_, _, _, _, _, _⟩) (v := ?_) rfl (by kernel_rfl) (by kernel_rfl) (by kernel_rfl) (fun _ _ _ h => h) (by rfl) ?_ HB6.out ?_
    rotate_left
    · intro W hW; go_simp; with_reducible rfl
    simp only [Act.put, List.setIfInBounds_toArray, List.set_cons_zero, List.set_cons_succ]
    refine wpAnyH_done (by kernel_rfl) ?_ _
    have HX := Lib.hid (HX.out.all HB6.out)
    have HB := Lib.hid (HB.out.trans (HB6.out.mono HB.out.size))
    have z0 := (HK.out w6 HB6.out).2
    obtain ⟨_, z1, z2, z3, z4, z5, z6, z7, z8, z9, z10⟩ := HX.out.cs
    clear HK HB5 HB6 HG hwk
    rw [hm] at z10
    clear hm
    go_wp2_with fail
    refine (put_row [N64 4, N64 m] [4, m] rfl HE.out.2 2 rfl (by omega) w6).mono ?_
    rintro e w9 hw9
    have HR := Lib.hid (retOwn_trans (bal HB.out (Nat.le_refl _) _) hw9)
    obtain ⟨A9, n9, c9, rfl, ho9, hb9⟩ := hw9
    clear ho9 hb9
    go_wp2
    rw [HE.out.1]
    exact HR.out
  · have h4 := hk; clear hk
    have hk : r.kind = 6 := by omega
    have HE := Lib.hid (HPO.out [6, m] (by unfold numsR; rw [if_neg (by omega), if_neg (by omega), if_neg (by omega), if_neg (by omega), hk, hm]; rfl))
    clear h46
    have HK : Hid (∀ W', Below w1.heap.size w1 W' → Elv W' w.heap.size 0 r ∧ W'.cell? ⟨w.heap.size, 0, none⟩ = some (.int .i64 6)) := Lib.hid (fun W' h => ⟨HK.out W' h, by have := (HK.out W' h).1; rw [hk] at this; exact this⟩)
    have hwk : IntKind.u64.wrap r.kind = 6 := by rw [hk]; rfl
    clear hk
    refine wp_region_held_drew (S := fun W' => Below w1.heap.size w1 W') (by kernel_rfl) (Below.refl _ _).drew (fun hHeld => ?_)
    generalize w1.drew = w5 at hHeld ⊢
    have HB5 : Hid (Below w1.heap.size w1 w5) := hHeld
    clear hHeld
    refine take_in (i := 0) (oi := ⟨_, _, _, _, _, _⟩) (v := ?_) rfl (by kernel_rfl) (by kernel_rfl) (by kernel_rfl) (fun _ _ _ h => h) (by rfl) ?_ HB5.out ?_
    rotate_left
    · intro W hW; have hq := HK.out W hW; unfold Elv at hq; go_simp; with_reducible rfl
    simp only [Act.put, List.setIfInBounds_toArray, List.set_cons_zero, List.set_cons_succ]
    refine take_in (i := 1) (oi := ⟨_, _, _, _, _, _⟩) (v := ?_) rfl (by kernel_rfl) (by kernel_rfl) (by kernel_rfl) (fun _ _ _ h => h) (by rfl) ?_ HB5.out ?_
    rotate_left
    · intro W hW; have hq := HK.out W hW; unfold Elv at hq; go_simp; with_reducible rfl
    simp only [Act.put, List.setIfInBounds_toArray, List.set_cons_zero, List.set_cons_succ]
    refine take_in (i := 2) (oi := ⟨_, _, _, _, _, _⟩) (v := ?_) rfl (by kernel_rfl) (by kernel_rfl) (by kernel_rfl) (fun _ _ _ h => h) (by rfl) ?_ HB5.out ?_
    rotate_left
    · intro W hW; have hq := HK.out W hW; unfold Elv at hq; go_simp; with_reducible rfl
    simp only [Act.put, List.setIfInBounds_toArray, List.set_cons_zero, List.set_cons_succ]
    refine take_in (i := 3) (oi := ⟨_, _, _, _, _, _⟩) (v := ?_) rfl (by kernel_rfl) (by kernel_rfl) (by kernel_rfl) (fun _ _ _ h => h) (by rfl) ?_ HB5.out ?_
    rotate_left
    · intro W hW; have hq := HK.out W hW; unfold Elv at hq; go_simp; with_reducible rfl
    simp only [Act.put, List.setIfInBounds_toArray, List.set_cons_zero, List.set_cons_succ]
    refine take_in (i := 4) (oi := ⟨_, _, _, _, _, _⟩) (v := ?_) rfl (by kernel_rfl) (by kernel_rfl) (by kernel_rfl) (fun _ _ _ h => h) (by rfl) ?_ HB5.out ?_
    rotate_left
    · intro W hW; have hq := HK.out W hW; unfold Elv at hq; go_simp; with_reducible rfl
    simp only [Act.put, List.setIfInBounds_toArray, List.set_cons_zero, List.set_cons_succ]
    refine wpAnyH_ready (rs := [5]) (by kernel_rfl) (by simp) ?_
    refine AllReadyH.cons (o := ⟨_, _, _, _, _, _⟩) rfl (fun K hK => ?_) AllReadyH.nil
    go_simp
    refine (HNA.out _).mono ?_
    rintro e w6 ⟨rfl, hb6⟩
    have HB6 := Lib.hid (HB5.out.trans (hb6.mono HB5.out.size)); clear hb6
    refine hK.out _ _ HB6.out (fun _ => ?_)
    clear hK K
    refine take_in (i := 6) (oi := ⟨_, _, _, _, _, _⟩) (v := ?_) rfl (by kernel_rfl) (by kernel_rfl) (by kernel_rfl) (fun _ _ _ h => h) (by rfl) ?_ HB6.out ?_
    rotate_left
    · intro W hW; go_simp; with_reducible rfl
    simp only [Act.put, List.setIfInBounds_toArray, List.set_cons_zero, List.set_cons_succ]
    refine take_in (i := 7) (oi := ⟨_, _, _, _, _, _⟩) (v := ?_) rfl (by kernel_rfl) (by kernel_rfl) (by kernel_rfl) (fun _ _ _ h => h) (by rfl) ?_ HB6.out ?_
    rotate_left
    · intro W hW; go_simp; with_reducible rfl
    simp only [Act.put, List.setIfInBounds_toArray, List.set_cons_zero, List.set_cons_succ]
    refine wpAnyH_done (by kernel_rfl) ?_ _
    have HX := Lib.hid (HX.out.all HB6.out)
    have HB := Lib.hid (HB.out.trans (HB6.out.mono HB.out.size))
    have z0 := (HK.out w6 HB6.out).2
    obtain ⟨_, z1, z2, z3, z4, z5, z6, z7, z8, z9, z10⟩ := HX.out.cs
    clear HK HB5 HB6 HG hwk
    rw [hm] at z10
    clear hm
    go_wp2_with fail
    refine (put_row [N64 6, N64 m] [6, m] rfl HE.out.2 2 rfl (by omega) w6).mono ?_
    rintro e w9 hw9
    have HR := Lib.hid (retOwn_trans (bal HB.out (Nat.le_refl _) _) hw9)
    obtain ⟨A9, n9, c9, rfl, ho9, hb9⟩ := hw9
    clear ho9 hb9
    go_wp2
    rw [HE.out.1]
    exact HR.out
set_option maxHeartbeats 1000000 in
theorem bytes_c (r : R) (hw : WfE r.e) (w : World) : Calls Try.prog 15 #[rvv r] w (RetBy w r) := by
  have hv : Flt.U64 r.e.val := hw.2.2.2
  have HRI := Lib.hid (fun W => right_c r hw W)
  cases hr : rightR r with
  | false =>
    rw [hr] at HRI
    have HPO : Hid (∀ e w', Below w.heap.size w w' → e = .returned (.tuple #[.slice none 0 0, .int .i64 91]) → RetBy w r e w') := Lib.hid (fun e w' h1 h2 => ⟨h1, Or.inl ⟨hr, h2⟩⟩)
    clear hr hv hw
    generalize RetBy w r = PP at HPO ⊢
    unfold rvv at HRI ⊢
    go_enter Try.func15, Try.ntmps15
    go_wp2_with fail
    refine (HRI.out _).mono ?_
    rintro e w1 ⟨rfl, hb1⟩
    have HB1 := Lib.hid ((bal (Below.refl w.heap.size w) (Nat.le_refl _) _).trans (hb1.mono (by simp))); clear hb1
    go_wp2
    exact HPO.out _ _ HB1.out rfl
  | true =>
    rw [hr] at HRI
    have HFO := Lib.hid (fun W => forms_c r hr hv W)
    have HSE := Lib.hid (seal_small r ⟨hr, hv⟩)
    have HBL := Lib.hid (body_len r ⟨hr, hv⟩)
    have HPO : Hid (∀ e w', Below w.heap.size w w' → (∃ A n c, e = .returned (.tuple #[.slice A n c, .int .i64 0]) ∧ Own w' w.heap.size A n c (textF [] (Crc.seal_ (bodyR r)))) → RetBy w r e w') := Lib.hid (fun e w' h1 h2 => ⟨h1, Or.inr ⟨hr, h2⟩⟩)
    clear hr hv hw
    generalize RetBy w r = PP at HPO ⊢
    generalize bodyR r = body at *
    unfold rvv at HRI HFO ⊢
    go_enter Try.func15, Try.ntmps15
    go_wp2_with fail
    have HX := Lib.hid (show Rx (w.alloc (.cells #[.int .i64 r.kind, .int .i64 r.va, .int .i64 r.vd, .int .i64 r.cn, .int .i64 r.ca, .int .i64 r.cd, .int .i64 r.e.key, .int .i64 r.e.num, .int .i64 r.e.node, .float .f64 r.e.val, .int .i64 r.n] 40)) w.heap.size r from hat _ _ _ rfl)
    refine (HRI.out _).mono ?_
    rintro e w1 ⟨rfl, hb1⟩
    have HX := Lib.hid (HX.out.all hb1)
    have HB1 := Lib.hid ((bal (Below.refl w.heap.size w) (Nat.le_refl _) _).trans (hb1.mono (by simp))); clear hb1
    obtain ⟨z0, z1, z2, z3, z4, z5, z6, z7, z8, z9, z10⟩ := HX.out.cs
    go_wp2_with fail
    clear z0 z1 z2 z3 z4 z5 z6 z7 z8 z9 z10
    refine (HFO.out _).mono ?_
    rintro e w2 ⟨A2, n2, c2, rfl, ho2, hb2⟩
    have HB2 := Lib.hid (HB1.out.trans (hb2.mono HB1.out.size)); have HO2 := Lib.hid ho2
    clear ho2 hb2
    go_wp2_with fail
    refine (seal_c A2 n2 c2 body HO2.out.1 w2.heap.size w2 HO2.out.rd (Nat.le_refl _) (by have := HBL.out; have := HO2.out.1; unfold big; omega)).mono ?_
    rintro e w4 ⟨A4, n4, c4, rfl, ho4, hb4⟩
    have HB4 := Lib.hid (HB2.out.trans (hb4.mono HB2.out.size)); have HO4 := Lib.hid ho4
    clear ho4 hb4
    go_wp2_with fail
    refine (text_c none 0 0 [] rfl A4 n4 c4 (Crc.seal_ body) HO4.out.1 w4.heap.size w4 Rd.nil HO4.out.rd (Nat.le_refl _) (by unfold big; omega)).mono ?_
    rintro e w5 ⟨hb5, h5⟩
    have HB5 := Lib.hid (HB4.out.trans (hb5.mono HB4.out.size))
    clear hb5
    rcases h5 with ⟨h5, _⟩ | ⟨h5, A5, n5, c5, rfl, ho5⟩
    · have := HSE.out; omega
    have HO5 := Lib.hid (ho5.base (base' := w.heap.size) HB4.out.size); clear ho5 h5
    go_wp2
    exact HPO.out _ _ HB5.out ⟨_, _, _, rfl, HO5.out⟩
end Go.Proofs.Ytjcbdnbbdhjoiaa.Lgw

namespace Go.Proofs.Ytjcbdnbbdhjoiaa.Lgw
set_option maxRecDepth 20000
open Go.RowKit
open Bk Lg Wire
open Tgw (hat hbe)
open Rg (bal)

theorem behind_c (k : Int) (w : World) : Calls Try.prog 89 #[.int .i64 k] w fun e w' => e = .returned (.int .i64 ((behind k : Nat) : Int)) ∧ w = w' := by
  have HE : Hid (behind k = if k = 1 then 5 else if k = 2 then 3 else if k = 5 then 2 else 1) := Lib.hid rfl
  generalize behind k = b at HE ⊢
  by_cases h1 : k = 1
  · subst h1
    have HE : Hid (b = 5) := HE
    go_enter Try.func89, Try.ntmps89
    go_wp2
    go_ret
    exact ⟨by rw [HE.out]; rfl, rfl⟩
  by_cases h2 : k = 2
  · subst h2
    have HE : Hid (b = 3) := HE
    go_enter Try.func89, Try.ntmps89
    go_wp2
    go_ret
    exact ⟨by rw [HE.out]; rfl, rfl⟩
  by_cases h5 : k = 5
  · subst h5
    have HE : Hid (b = 2) := HE
    go_enter Try.func89, Try.ntmps89
    go_wp2
    go_ret
    exact ⟨by rw [HE.out]; rfl, rfl⟩
  · have HE : Hid (b = 1) := Lib.hid (by rw [HE.out, if_neg h1, if_neg h2, if_neg h5])
    have k1 : (k == 1) = false := by rw [beq_eq_false_iff_ne]; exact h1
    have k2 : (k == 2) = false := by rw [beq_eq_false_iff_ne]; exact h2
    have k5 : (k == 5) = false := by rw [beq_eq_false_iff_ne]; exact h5
    clear h1 h2 h5
    go_enter Try.func89, Try.ntmps89
    go_wp2
    go_ret
    exact ⟨by rw [HE.out]; rfl, rfl⟩
theorem wrap_iw (n : Nat) (h : n < 18446744073709551616) : IntKind.i64.wrap (n : Int) = iw n := by
  rw [IntKind.wrap_i64]
  unfold iw
  split <;> omega
theorem iw_i64 (n : Nat) (h : n < 18446744073709551616) : -9223372036854775808 ≤ iw n ∧ iw n ≤ 9223372036854775807 := by
  unfold iw
  split <;> omega
theorem named_iw (n : Int) : (Chgw.gv (Chgw.namedF n)).1 = vA n ∧ (Chgw.gv (Chgw.namedF n)).2 = vD n := by
  unfold Chgw.namedF vA vD
  by_cases h : 0 ≤ n ∧ n < 4096
  · rw [if_pos h, if_pos h, if_pos h]
    exact ⟨rfl, rfl⟩
  · rw [if_neg h, if_neg h, if_neg h]
    exact ⟨rfl, rfl⟩
set_option maxHeartbeats 1000000 in
theorem view_of_c (n : Nat) (h : n < 18446744073709551616) (w : World) : Calls Try.prog 90 #[.int .u64 (n : Int)] w fun e w' => e = .returned (.agg #[.int .i64 (vA (iw n) : Nat), .int .i64 (vD (iw n) : Nat)]) ∧ Below w.heap.size w w' := by
  have hw := wrap_iw n h
  have HNM := Lib.hid (fun W => Chgw.named_c (iw n) (iw_i64 n h) W)
  have HNS := Lib.hid (named_iw (iw n))
  generalize iw n = t at *
  go_enter Try.func90, Try.ntmps90
  go_wp2_with fail
  have HV := Lib.hid (show Chgw.Vx (w.alloc (.cells #[.int .i64 0, .int .i64 0] 31)) w.heap.size 0 0 from hat _ _ _ rfl)
  have HB := Lib.hid (bal (Below.refl w.heap.size w) (Nat.le_refl _) (.cells #[.int .i64 0, .int .i64 0] 31))
  generalize w.alloc (.cells #[.int .i64 0, .int .i64 0] 31) = w0 at HV HB ⊢
  refine (HNM.out _).mono ?_
  rintro e w2 ⟨rfl, hb2⟩
  have HV := Lib.hid (HV.out.below hb2 HV.out.lt)
  have HB := Lib.hid (HB.out.trans (hb2.mono HB.out.size)); clear hb2
  rw [HNS.out.1, HNS.out.2]
  unfold Chgw.vw
  generalize Chgw.ge (Chgw.namedF t) = u
  have HV3 := Lib.hid (show Chgw.Vx (w2.alloc (.cells #[.int .i64 (vA t : Int), .int .i64 (vD t : Int)] 31)) w.heap.size 0 0 from hbe HV.out)
  have y0 := HV3.out.c0; have y1 := HV3.out.c1
  have f0 := frozen_of_row _ w.heap.size 0 _ _ HV3.out
  have f1 := frozen_of_row _ w.heap.size 1 _ _ HV3.out
  go_wp2
  refine bodyPost_ret (Chgw.results_view (g := w.heap.size) (a := vA t) (d := vD t) rfl rfl (HV3.out.put (vA t) (vD t))) rfl ?_
  exact ⟨rfl, (((bal HB.out (Nat.le_refl _) _).setCell (Nat.le_refl _) _).setCell (Nat.le_refl _) _)⟩
theorem frombits (n : Int) (w : World) : (callFunc 101 #[.int .u64 n]).run Try.prog w = .ok (.value (.float .f64 n.toNat)) w :=
  run_callFunc_extern Try.func101 (by kernel_rfl) (by kernel_rfl) (by kernel_rfl) (e := Extern.MathFloatBits.float64frombits) (by kernel_rfl) _ w
theorem num_of_c (n : Int) (w : World) : Calls Try.prog 91 #[.int .u64 n] w fun e w' => e = .returned (.float .f64 (Flt.clean n.toNat)) ∧ w = w' := by
  have h1 := frombits
  by_cases hn : Flt.isNan n.toNat = true
  · have hc := Flt.clean_nan n.toNat hn
    go_enter Try.func91, Try.ntmps91
    go_wp2_with (go_at_call 96; refine (Nmw.isnan_c _ _).mono ?_; rintro e w' ⟨rfl, rfl⟩)
    go_ret
    exact ⟨by rw [hc]; rfl, rfl⟩
  · have hn : Flt.isNan n.toNat = false := by simpa using hn
    have hc := Flt.clean_num n.toNat hn
    go_enter Try.func91, Try.ntmps91
    go_wp2_with (go_at_call 96; refine (Nmw.isnan_c _ _).mono ?_; rintro e w' ⟨rfl, rfl⟩)
    go_ret
    exact ⟨by rw [hc]; rfl, rfl⟩
theorem equal8_c (A : Option Addr) (n c : Nat) (bs : List UInt8) (hn : n = bs.length) (A2 : Option Addr) (n2 c2 : Nat) (ts : List UInt8) (hn2 : n2 = ts.length) (B : Nat) (w : World) (hr : Rd w B A (bs.map B8)) (hr2 : Rd w B A2 (ts.map B8)) :
    Calls Try.prog 92 #[.slice A n c, .slice A2 n2 c2] w fun e w' => e = .returned (.bool (decide (bs = ts))) ∧ w = w' := by
  have h1 := str8' c hr hn
  have h2 := str8' c2 hr2 hn2
  have HE : Hid (((str bs).toList == (str ts).toList) = decide (bs = ts)) := Lib.hid (by
    rw [str_toList, str_toList]
    exact Bool.eq_iff_iff.2 (by simp))
  generalize str bs = S1 at h1 HE
  generalize str ts = S2 at h2 HE
  generalize hq : decide (bs = ts) = q at HE ⊢
  clear hr hr2 hn hn2 hq
  go_enter Try.func92, Try.ntmps92
  go_wp2
  go_ret
  exact ⟨ret_bool HE.out, rfl⟩
theorem prefix_c (A : Option Addr) (n c : Nat) (bs : List UInt8) (hn : n = bs.length) (hc : n ≤ c) (A2 : Option Addr) (n2 c2 : Nat) (ts : List UInt8) (hn2 : n2 = ts.length) (B : Nat) (w : World) (hr : Rd w B A (bs.map B8)) (hr2 : Rd w B A2 (ts.map B8)) :
    Calls Try.prog 66 #[.slice A n c, .slice A2 n2 c2] w fun e w' => e = .returned (.bool (decide (ts = bs.take n2))) ∧ w = w' := by
  by_cases h : n2 ≤ n
  · have hsl := Dkw.run_head A n c n2 n2 .i64 rfl (by omega)
    have HQ := Lib.hid (equal8_c A n2 c (bs.take n2) (by rw [List.length_take]; omega) A2 n2 c2 ts hn2 B w (by rw [List.map_take]; exact hr.take n2) hr2)
    have HS : Hid (decide (bs.take n2 = ts) = decide (ts = bs.take n2)) := Lib.hid (by congr 1; exact propext ⟨Eq.symm, Eq.symm⟩)
    rw [HS.out] at HQ
    generalize decide (ts = bs.take n2) = q at HQ ⊢
    have hle : (n2 : Int) ≤ (n : Int) := by omega
    clear hr hr2 hn hn2 HS
    go_enter Try.func66, Try.ntmps66
    go_wp2_with fail
    refine HQ.out.mono ?_
    rintro e w2 ⟨rfl, rfl⟩
    go_wp2
    go_ret
    exact ⟨rfl, rfl⟩
  · have HS : Hid (decide (ts = bs.take n2) = false) := Lib.hid (by
      rw [decide_eq_false_iff_not]
      intro h1
      have := congrArg List.length h1
      rw [List.length_take] at this
      omega)
    generalize decide (ts = bs.take n2) = q at HS ⊢
    have hlt : ¬ (n2 : Int) ≤ (n : Int) := by omega
    clear hr hr2 hn hn2
    go_enter Try.func66, Try.ntmps66
    go_wp2
    go_ret
    exact ⟨ret_bool HS.out.symm, rfl⟩
end Go.Proofs.Ytjcbdnbbdhjoiaa.Lgw

namespace Go.Proofs.Ytjcbdnbbdhjoiaa.Lgw
set_option maxRecDepth 20000
open Go.RowKit
open Bk Lg Wire
open Tgw (hat hbe)
open Rg (bal)

/-- numbers in a block, from its first cell on -/
def Nc (w : World) (b : Nat) (ns : List Nat) : Prop := ∀ (i x : Nat), ns[i]? = some x → w.cell? ⟨b, i, none⟩ = some (.int .u64 (x : Int))
theorem Nc.all {w w' : World} {b : Nat} {ns : List Nat} (h : Nc w b ns) (hl : b < w.heap.size) (hb : Below w.heap.size w w') : Nc w' b ns := fun i x hx => (hb.cell (p := ⟨b, i, none⟩) hl).trans (h i x hx)
theorem Nc.drew {w : World} {b : Nat} {ns : List Nat} (h : Nc w b ns) : Nc w.drew b ns := h
theorem Nc.set {w : World} {b : Nat} {ns : List Nat} (h : Nc w b ns) {p : Addr} (hp : b ≠ p.block) (u : Value) : Nc (w.setCell p u) b ns := fun i x hx => (Dkw.cell_block (Below.heap_setCell w p u b hp)).trans (h i x hx)
theorem own_nums {w : World} {base : Nat} {A : Option Addr} {n c : Nat} {ns : List Nat} (h : OwnN w base A n c ns) (hp : 0 < ns.length) : ∃ b, A = some ⟨b, 0, none⟩ ∧ base ≤ b ∧ b < w.heap.size ∧ Nc w b ns := by
  rcases h.2.2 with ⟨_, h0⟩ | ⟨g, cap, cur, e, hg, hh, _⟩
  · have := h.1; omega
  · injection e with e1 e2 e3
    subst e1
    refine ⟨g, rfl, hg, (h.2.lt g rfl).2, fun i x hx => ?_⟩
    have h1 := h.2.cells (g := g) rfl i (N64 x) (by rw [List.getElem?_map, hx]; rfl)
    rw [Rg.add_at, Nat.zero_add] at h1
    exact h1
theorem gets_len : ∀ (m : Nat) (b : List UInt8) (ns : List Nat) (r : List UInt8), getsF m b = some (ns, r) → ns.length = m ∧ ∀ x ∈ ns, W64 x
  | 0, b, ns, r, h => by
    unfold getsF at h
    simp only [Option.some.injEq, Prod.mk.injEq] at h
    rw [← h.1]
    exact ⟨rfl, by simp⟩
  | m + 1, b, ns, r, h => by
    unfold getsF at h
    cases ht : takeF b with
    | none => rw [ht] at h; cases h
    | some x =>
      obtain ⟨v, s⟩ := x
      rw [ht] at h
      simp only [Option.bind_some] at h
      cases hg : getsF m s with
      | none => rw [hg] at h; cases h
      | some y =>
        obtain ⟨l, t⟩ := y
        rw [hg] at h
        simp only [Option.map_some, Option.some.injEq, Prod.mk.injEq] at h
        have ih := gets_len m s l t hg
        rw [← h.1]
        refine ⟨by simp [ih.1], fun x hx => ?_⟩
        rcases List.mem_cons.1 hx with rfl | hx
        · exact (takeF_some ht).1
        · exact ih.2 x hx
theorem results_rec2 {fn : Func} {t u : Tmp} (h : fn.results = #[.cell t 40, .tmp u]) {tmps : Array Value} {w : World} {g : Nat} {r : R} {x : Value} (hp : tmps.getD t undef = .pointer (some ⟨g, 0, none⟩)) (hx : tmps.getD u undef = x) (hv : Rx w g r) : (results fn tmps).run Try.prog w = .ok (.tuple #[rvv r, x]) w := by
  obtain ⟨z0, z1, z2, z3, z4, z5, z6, z7, z8, z9, z10⟩ := hv.cs
  have u3 := Try.sizeOf40
  have hp' : tmps[t]?.getD undef = .pointer (some ⟨g, 0, none⟩) := by rw [← hp, Array.getD_eq_getD_getElem?]
  have hx' : tmps[u]?.getD undef = x := by rw [← hx, Array.getD_eq_getD_getElem?]
  unfold results rvv
  simp only [h]
  simp [hp', hx', go_sem, z0, z1, z2, z3, z4, z5, z6, z7, z8, z9, z10]
/-- the record that forms seem to be, and whether there is one -/
def RetGuess (w : World) (bs : List UInt8) (e : Ending) (w' : World) : Prop :=
  Below w.heap.size w w' ∧ ((guessP bs = none ∧ e = .returned (.tuple #[rvv zeroR, .bool false])) ∨ ∃ r, guessP bs = some r ∧ e = .returned (.tuple #[rvv r, .bool true]))
theorem guess_none {bs : List UInt8} {v : Nat} {rest : List UInt8} (ht : takeF bs = some (v, rest)) {k : Int} (hk : iw v = k) {m : Nat} (hm : behind k = m) (h : getsF m rest = none) : guessP bs = none := by
  unfold guessP
  rw [ht]
  simp only
  rw [hk, hm, h]
theorem guess_some {bs : List UInt8} {v : Nat} {rest : List UInt8} (ht : takeF bs = some (v, rest)) {k : Int} (hk : iw v = k) {m : Nat} (hm : behind k = m) {ns : List Nat} {s : List UInt8} (h : getsF m rest = some (ns, s)) : guessP bs = some (gp k ns) := by
  unfold guessP
  rw [ht]
  simp only
  rw [hk, hm, h]
theorem getsI_in (m : Nat) (h : m ≤ 100) (bs : List UInt8) : getsI (m : Int) bs = getsF m bs := by
  unfold getsI
  rw [if_neg (by omega)]
  rfl
theorem list1 {ns : List Nat} (h : ns.length = 1) : ∃ a, ns = [a] := by
  match ns, h with
  | [a], _ => exact ⟨a, rfl⟩
theorem list2 {ns : List Nat} (h : ns.length = 2) : ∃ a b, ns = [a, b] := by
  match ns, h with
  | [a, b], _ => exact ⟨a, b, rfl⟩
theorem list3 {ns : List Nat} (h : ns.length = 3) : ∃ a b c, ns = [a, b, c] := by
  match ns, h with
  | [a, b, c], _ => exact ⟨a, b, c, rfl⟩
theorem list5 {ns : List Nat} (h : ns.length = 5) : ∃ a b c d e, ns = [a, b, c, d, e] := by
  match ns, h with
  | [a, b, c, d, e], _ => exact ⟨a, b, c, d, e, rfl⟩
end Go.Proofs.Ytjcbdnbbdhjoiaa.Lgw
