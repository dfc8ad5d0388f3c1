/- FoldNames returns true. Conditions: none. -/
import Derived.Test.YtfblnomkafimhaaGreatRows
import Derived.Test.YtfblnomkafimhaaGreatG17
import Derived.Test.YtfblnomkafimhaaGreatG48
import Derived.WalkKit
import Derived.ProofKit
import Derived.OpenShut
import Derived.Laws.Cover2
import Derived.SizedLaws
import Derived.JoinedCond
import Derived.Carry
set_option linter.unusedSimpArgs false
set_option linter.unusedVariables false
namespace Go.Proofs.YtfblnomkafimhaaGreat.foldNames
set_option maxRecDepth 20000
open Go.RowKit
open Chg Vw Cl Bk Lg Fo Clw Bkw Fow
open Lgw (rvv Rx KR Sr Elv elv_at)
open Chgw (hat hbe vw ret_bool ret_i64 Vx)
open Rg (bal)

theorem v7 : V64 (7, 0) := by unfold V64; decide
theorem wf7 : WfS (newS (7, 0)) := wf_new v7
theorem sto7 (W : World) : Sto W (newS (7, 0)) nilS nilS nilS := (ors_new W W.heap.size (7, 0)).stoW wf7
theorem new7 (W : World) : Calls Tryz.prog 11 #[.agg #[.int .i64 7, .int .i64 0]] W fun e w' => e = .returned (.agg #[.slice none 0 0, .slice none 0 0, .slice none 0 0, .int .i64 7, .int .i64 0, .int .i64 0, .int .i64 0]) ∧ Below W.heap.size W w' := fnew_c (7, 0) W
theorem int7 (W : World) : Calls Tryz.prog 13 #[.agg #[.slice none 0 0, .slice none 0 0, .slice none 0 0, .int .i64 7, .int .i64 0, .int .i64 0, .int .i64 0], .agg #[.int .i64 7, .int .i64 0]] W fun e w' => e = .returned (.tuple #[.agg #[.int .i64 0, .int .i64 0], .bool false]) ∧ Below W.heap.size W w' := intent_c (newS (7, 0)) nilS nilS nilS W (sto7 W) wf7 (7, 0) v7
theorem book7 (W : World) : Calls Tryz.prog 15 #[.agg #[.slice none 0 0, .slice none 0 0, .slice none 0 0, .int .i64 7, .int .i64 0, .int .i64 0, .int .i64 0], .agg #[.int .i64 7, .int .i64 0]] W fun e w' => ∃ A c, e = .returned (.slice A 0 c) ∧ Below W.heap.size W w' := (book_c (newS (7, 0)) nilS nilS nilS W (sto7 W) wf7 (7, 0) v7).mono fun e w' ⟨A, n, c, he, ho, hb⟩ => ⟨A, c, by rw [he, show n = 0 from ho.1], hb⟩
theorem cells7 (W : World) : Calls Tryz.prog 16 #[.agg #[.slice none 0 0, .slice none 0 0, .slice none 0 0, .int .i64 7, .int .i64 0, .int .i64 0, .int .i64 0], .agg #[.int .i64 7, .int .i64 0]] W fun e w' => ∃ A c, e = .returned (.slice A 0 c) ∧ Below W.heap.size W w' := (cells_c (newS (7, 0)) nilS nilS nilS W (sto7 W) wf7 (7, 0) v7).mono fun e w' ⟨A, n, c, he, ho, hb⟩ => ⟨A, c, by rw [he, show n = 0 from ho.1], hb⟩
theorem of7 (W : World) : Calls Tryz.prog 18 #[.agg #[.int .i64 7, .int .i64 0], .slice none 0 0] W fun e w' => ∃ b c i, e = .returned (.agg #[.slice b.a b.n b.c, .slice c.a c.n c.c, .slice i.a i.n i.c, .int .i64 7, .int .i64 0, .int .i64 0, .int .i64 0]) ∧ Sto w' (newS (7, 0)) b c i ∧ Below W.heap.size W w' := (fof_c (7, 0) v7 none 0 0 [] W (Lgw.Sr.nil W) (by simp)).mono fun e w' ⟨b, c, i, xs, ys, he, ho, hb⟩ => ⟨b, c, i, he, ho.stoW wf7, hb⟩
theorem same7 (b c i : Sl) (W : World) (h : Sto W (newS (7, 0)) b c i) : Calls Tryz.prog 17 #[.agg #[.slice none 0 0, .slice none 0 0, .slice none 0 0, .int .i64 7, .int .i64 0, .int .i64 0, .int .i64 0], .agg #[.slice b.a b.n b.c, .slice c.a c.n c.c, .slice i.a i.n i.c, .int .i64 7, .int .i64 0, .int .i64 0, .int .i64 0]] W fun e w' => e = .returned (.bool true) ∧ Below W.heap.size W w' := by
  have h1 := same_c (newS (7, 0)) nilS nilS nilS (newS (7, 0)) b c i W (sto7 W) h wf7
  rw [sameS_refl] at h1
  exact h1
set_option maxHeartbeats 8000000 in
theorem walk (w : World) : Calls Tryz.prog 3 #[] w fun e w' => e = .returned (.bool true) ∧ Below w.heap.size w w' := by
  have heq := Chgw.eq_view
  go_enter Tryz.func3, Tryz.ntmps3
  go_wp2_with fail
  refine (first_c w).mono ?_
  rintro e w1 ⟨rfl, hb⟩
  have HB := Lib.hid hb; clear hb
  go_upto_region 2 with (refine (new7 w1).mono ?_; rintro e w2 ⟨rfl, hb2⟩)
  have HB := Lib.hid (HB.out.trans (hb2.mono HB.out.size)); clear hb2
  have HX := Lib.hid (show (w2.alloc (.cells #[.slice none 0 0, .slice none 0 0, .slice none 0 0, .int .i64 7, .int .i64 0, .int .i64 0, .int .i64 0] 28)).heap[w2.heap.size]? = some (.cells #[.slice none 0 0, .slice none 0 0, .slice none 0 0, .int .i64 7, .int .i64 0, .int .i64 0, .int .i64 0] 28) from hat _ _ _ rfl)
  have HB := Lib.hid (bal HB.out (Nat.le_refl _) (.cells #[.slice none 0 0, .slice none 0 0, .slice none 0 0, .int .i64 7, .int .i64 0, .int .i64 0, .int .i64 0] 28))
  generalize w2.alloc (.cells #[.slice none 0 0, .slice none 0 0, .slice none 0 0, .int .i64 7, .int .i64 0, .int .i64 0, .int .i64 0] 28) = w3 at HX HB ⊢
  generalize w2.heap.size = gs at HX ⊢
  have HQ : Hid (∀ W, Below w3.heap.size w3 W → W.cell? ⟨gs, 0, none⟩ = some (.slice none 0 0) ∧ W.cell? ⟨gs, 1, none⟩ = some (.slice none 0 0) ∧ W.cell? ⟨gs, 2, none⟩ = some (.slice none 0 0) ∧ W.cell? ⟨gs, 3, none⟩ = some (.int .i64 7) ∧ W.cell? ⟨gs, 4, none⟩ = some (.int .i64 0) ∧ W.cell? ⟨gs, 5, none⟩ = some (.int .i64 0) ∧ W.cell? ⟨gs, 6, none⟩ = some (.int .i64 0)) := Lib.hid (fun W hW => by
    have h1 := (hW.block _ (Array.getElem?_eq_some_iff.1 HX.out).1).trans HX.out
    refine ⟨?_, ?_, ?_, ?_, ?_, ?_, ?_⟩ <;> (rw [cell_of_row _ _ _ _ _ _ h1]; rfl))
  clear HX
  go_cut [3] (fun s3 wq => s3 = .bool false ∧ Below w3.heap.size w3 wq)
  case first =>
    refine wp_region_held_drew (S := fun W' => Below w3.heap.size w3 W') (by kernel_rfl) (Below.refl _ _).drew (fun hHeld => ?_)
    generalize w3.drew = w5 at hHeld ⊢
    have HC : Hid (Below w3.heap.size w3 w5) := hHeld
    clear hHeld
    refine take_in (i := 0) (oi := ⟨_, _, _, _, _, _⟩) (v := ?_) rfl (by kernel_rfl) (by kernel_rfl) (by kernel_rfl) (fun _ _ _ h => h) (by rfl) ?_ HC.out ?_
    rotate_left
    · intro W hW; obtain ⟨q0, q1, q2, q3, q4, q5, q6⟩ := HQ.out W hW; go_simp; with_reducible rfl
    simp only [Act.put, List.setIfInBounds_toArray, List.set_cons_zero, List.set_cons_succ]
    refine wpAnyH_ready (rs := [1, 6]) (by kernel_rfl) (by simp) ?_
    refine AllReadyH.cons (o := ⟨_, _, _, _, _, _⟩) rfl (fun K hK => ?_) (AllReadyH.cons (o := ⟨_, _, _, _, _, _⟩) rfl (fun K hK => ?_) AllReadyH.nil)
    · go_simp
      refine (first_c w5).mono ?_
      rintro e x1 ⟨rfl, hb_⟩
      have HC := Lib.hid (HC.out.trans (hb_.mono HC.out.size)); clear hb_
      refine hK.out _ _ HC.out (fun hS_ => ?_)
      clear hK K hS_
      refine wpAnyH_ready (rs := [2, 6]) (by kernel_rfl) (by simp) ?_
      refine AllReadyH.cons (o := ⟨_, _, _, _, _, _⟩) rfl (fun K hK => ?_) (AllReadyH.cons (o := ⟨_, _, _, _, _, _⟩) rfl (fun K hK => ?_) AllReadyH.nil)
      · go_simp
        refine (int7 x1).mono ?_
        rintro e x2 ⟨rfl, hb_⟩
        have HC := Lib.hid (HC.out.trans (hb_.mono HC.out.size)); clear hb_
        refine hK.out _ _ HC.out (fun hS_ => ?_)
        clear hK K hS_
        refine take_in (i := 3) (oi := ⟨_, _, _, _, _, _⟩) (v := ?_) rfl (by kernel_rfl) (by kernel_rfl) (by kernel_rfl) (fun _ _ _ h => h) (by rfl) ?_ HC.out ?_
        rotate_left
        · intro W hW; go_simp; with_reducible rfl
        simp only [Act.put, List.setIfInBounds_toArray, List.set_cons_zero, List.set_cons_succ]
        refine take_in (i := 4) (oi := ⟨_, _, _, _, _, _⟩) (v := ?_) rfl (by kernel_rfl) (by kernel_rfl) (by kernel_rfl) (fun _ _ _ h => h) (by rfl) ?_ HC.out ?_
        rotate_left
        · intro W hW; go_simp; with_reducible rfl
        simp only [Act.put, List.setIfInBounds_toArray, List.set_cons_zero, List.set_cons_succ]
        refine take_in (i := 5) (oi := ⟨_, _, _, _, _, _⟩) (v := ?_) rfl (by kernel_rfl) (by kernel_rfl) (by kernel_rfl) (fun _ _ _ h => h) (by rfl) ?_ HC.out ?_
        rotate_left
        · intro W hW; go_simp; with_reducible rfl
        simp only [Act.put, List.setIfInBounds_toArray, List.set_cons_zero, List.set_cons_succ]
        refine wpAnyH_ready (rs := [6]) (by kernel_rfl) (by simp) ?_
        refine AllReadyH.cons (o := ⟨_, _, _, _, _, _⟩) rfl (fun K hK => ?_) AllReadyH.nil
        go_simp
        have HZ := Lib.hid (show (x2.alloc (.cells #[.int .i64 0, .int .i64 0] 26)).heap[x2.heap.size]? = some (.cells #[.int .i64 0, .int .i64 0] 26) from hat _ _ _ rfl)
        have HZN := Lib.hid (show w3.heap.size ≤ x2.heap.size from HC.out.size)
        have HC := Lib.hid (bal HC.out (Nat.le_refl _) (.cells #[.int .i64 0, .int .i64 0] 26))
        refine hK.out _ _ HC.out (fun hS_ => ?_)
        clear hK K hS_
        generalize x2.alloc (.cells #[.int .i64 0, .int .i64 0] 26) = x3 at HC HZ ⊢
        generalize x2.heap.size = gz at HZ HZN ⊢
        refine wpAnyH_ready (rs := [7]) (by kernel_rfl) (by simp) ?_
        refine AllReadyH.cons (o := ⟨_, _, _, _, _, _⟩) rfl (fun K hK => ?_) AllReadyH.nil
        obtain ⟨z0, z1⟩ := cells2 HZ.out
        have f0 := frozen_of_row x3 gz 0 _ _ HZ.out; have f1 := frozen_of_row x3 gz 1 _ _ HZ.out
        go_simp
        have HC := Lib.hid ((HC.out.setCell (p := ⟨gz, 0, none⟩) HZN.out (.int .i64 0)).setCell (p := ⟨gz, 1, none⟩) HZN.out (.int .i64 0))
        refine hK.out _ _ HC.out (fun hS_ => ?_)
        clear hK K hS_ z0 z1 f0 f1
        refine take_in (i := 8) (oi := ⟨_, _, _, _, _, _⟩) (v := ?_) rfl (by kernel_rfl) (by kernel_rfl) (by kernel_rfl) (fun _ _ _ h => h) (by rfl) ?_ HC.out ?_
        rotate_left
        · intro W hW; go_simp; with_reducible rfl
        simp only [Act.put, List.setIfInBounds_toArray, List.set_cons_zero, List.set_cons_succ]
        refine wpAnyH_done (by kernel_rfl) ?_ _
        go_wp2
        go_meet
        case rel => exact ⟨rfl, HC.out⟩
      · go_simp
        have HZ := Lib.hid (show (x1.alloc (.cells #[.int .i64 0, .int .i64 0] 26)).heap[x1.heap.size]? = some (.cells #[.int .i64 0, .int .i64 0] 26) from hat _ _ _ rfl)
        have HZN := Lib.hid (show w3.heap.size ≤ x1.heap.size from HC.out.size)
        have HC := Lib.hid (bal HC.out (Nat.le_refl _) (.cells #[.int .i64 0, .int .i64 0] 26))
        refine hK.out _ _ HC.out (fun hS_ => ?_)
        clear hK K hS_
        generalize x1.alloc (.cells #[.int .i64 0, .int .i64 0] 26) = x2 at HC HZ ⊢
        generalize x1.heap.size = gz at HZ HZN ⊢
        refine wpAnyH_ready (rs := [2]) (by kernel_rfl) (by simp) ?_
        refine AllReadyH.cons (o := ⟨_, _, _, _, _, _⟩) rfl (fun K hK => ?_) AllReadyH.nil
        go_simp
        refine (int7 x2).mono ?_
        rintro e x3 ⟨rfl, hb_⟩
        have HZ := Lib.hid ((hb_.block _ (Array.getElem?_eq_some_iff.1 HZ.out).1).trans HZ.out)
        have HC := Lib.hid (HC.out.trans (hb_.mono HC.out.size)); clear hb_
        refine hK.out _ _ HC.out (fun hS_ => ?_)
        clear hK K hS_
        refine take_in (i := 3) (oi := ⟨_, _, _, _, _, _⟩) (v := ?_) rfl (by kernel_rfl) (by kernel_rfl) (by kernel_rfl) (fun _ _ _ h => h) (by rfl) ?_ HC.out ?_
        rotate_left
        · intro W hW; go_simp; with_reducible rfl
        simp only [Act.put, List.setIfInBounds_toArray, List.set_cons_zero, List.set_cons_succ]
        refine take_in (i := 4) (oi := ⟨_, _, _, _, _, _⟩) (v := ?_) rfl (by kernel_rfl) (by kernel_rfl) (by kernel_rfl) (fun _ _ _ h => h) (by rfl) ?_ HC.out ?_
        rotate_left
        · intro W hW; go_simp; with_reducible rfl
        simp only [Act.put, List.setIfInBounds_toArray, List.set_cons_zero, List.set_cons_succ]
        refine take_in (i := 5) (oi := ⟨_, _, _, _, _, _⟩) (v := ?_) rfl (by kernel_rfl) (by kernel_rfl) (by kernel_rfl) (fun _ _ _ h => h) (by rfl) ?_ HC.out ?_
        rotate_left
        · intro W hW; go_simp; with_reducible rfl
        simp only [Act.put, List.setIfInBounds_toArray, List.set_cons_zero, List.set_cons_succ]
        refine wpAnyH_ready (rs := [7]) (by kernel_rfl) (by simp) ?_
        refine AllReadyH.cons (o := ⟨_, _, _, _, _, _⟩) rfl (fun K hK => ?_) AllReadyH.nil
        obtain ⟨z0, z1⟩ := cells2 HZ.out
        have f0 := frozen_of_row x3 gz 0 _ _ HZ.out; have f1 := frozen_of_row x3 gz 1 _ _ HZ.out
        go_simp
        have HC := Lib.hid ((HC.out.setCell (p := ⟨gz, 0, none⟩) HZN.out (.int .i64 0)).setCell (p := ⟨gz, 1, none⟩) HZN.out (.int .i64 0))
        refine hK.out _ _ HC.out (fun hS_ => ?_)
        clear hK K hS_ z0 z1 f0 f1
        refine take_in (i := 8) (oi := ⟨_, _, _, _, _, _⟩) (v := ?_) rfl (by kernel_rfl) (by kernel_rfl) (by kernel_rfl) (fun _ _ _ h => h) (by rfl) ?_ HC.out ?_
        rotate_left
        · intro W hW; go_simp; with_reducible rfl
        simp only [Act.put, List.setIfInBounds_toArray, List.set_cons_zero, List.set_cons_succ]
        refine wpAnyH_done (by kernel_rfl) ?_ _
        go_wp2
        go_meet
        case rel => exact ⟨rfl, HC.out⟩
    · go_simp
      have HZ := Lib.hid (show (w5.alloc (.cells #[.int .i64 0, .int .i64 0] 26)).heap[w5.heap.size]? = some (.cells #[.int .i64 0, .int .i64 0] 26) from hat _ _ _ rfl)
      have HZN := Lib.hid (show w3.heap.size ≤ w5.heap.size from HC.out.size)
      have HC := Lib.hid (bal HC.out (Nat.le_refl _) (.cells #[.int .i64 0, .int .i64 0] 26))
      refine hK.out _ _ HC.out (fun hS_ => ?_)
      clear hK K hS_
      generalize w5.alloc (.cells #[.int .i64 0, .int .i64 0] 26) = x1 at HC HZ ⊢
      generalize w5.heap.size = gz at HZ HZN ⊢
      refine wpAnyH_ready (rs := [1]) (by kernel_rfl) (by simp) ?_
      refine AllReadyH.cons (o := ⟨_, _, _, _, _, _⟩) rfl (fun K hK => ?_) AllReadyH.nil
      go_simp
      refine (first_c x1).mono ?_
      rintro e x2 ⟨rfl, hb_⟩
      have HZ := Lib.hid ((hb_.block _ (Array.getElem?_eq_some_iff.1 HZ.out).1).trans HZ.out)
      have HC := Lib.hid (HC.out.trans (hb_.mono HC.out.size)); clear hb_
      refine hK.out _ _ HC.out (fun hS_ => ?_)
      clear hK K hS_
      refine wpAnyH_ready (rs := [2]) (by kernel_rfl) (by simp) ?_
      refine AllReadyH.cons (o := ⟨_, _, _, _, _, _⟩) rfl (fun K hK => ?_) AllReadyH.nil
      go_simp
      refine (int7 x2).mono ?_
      rintro e x3 ⟨rfl, hb_⟩
      have HZ := Lib.hid ((hb_.block _ (Array.getElem?_eq_some_iff.1 HZ.out).1).trans HZ.out)
      have HC := Lib.hid (HC.out.trans (hb_.mono HC.out.size)); clear hb_
      refine hK.out _ _ HC.out (fun hS_ => ?_)
      clear hK K hS_
      refine take_in (i := 3) (oi := ⟨_, _, _, _, _, _⟩) (v := ?_) rfl (by kernel_rfl) (by kernel_rfl) (by kernel_rfl) (fun _ _ _ h => h) (by rfl) ?_ HC.out ?_
      rotate_left
      · intro W hW; go_simp; with_reducible rfl
      simp only [Act.put, List.setIfInBounds_toArray, List.set_cons_zero, List.set_cons_succ]
      refine take_in (i := 4) (oi := ⟨_, _, _, _, _, _⟩) (v := ?_) rfl (by kernel_rfl) (by kernel_rfl) (by kernel_rfl) (fun _ _ _ h => h) (by rfl) ?_ HC.out ?_
      rotate_left
      · intro W hW; go_simp; with_reducible rfl
      simp only [Act.put, List.setIfInBounds_toArray, List.set_cons_zero, List.set_cons_succ]
      refine take_in (i := 5) (oi := ⟨_, _, _, _, _, _⟩) (v := ?_) rfl (by kernel_rfl) (by kernel_rfl) (by kernel_rfl) (fun _ _ _ h => h) (by rfl) ?_ HC.out ?_
      rotate_left
      · intro W hW; go_simp; with_reducible rfl
      simp only [Act.put, List.setIfInBounds_toArray, List.set_cons_zero, List.set_cons_succ]
      refine wpAnyH_ready (rs := [7]) (by kernel_rfl) (by simp) ?_
      refine AllReadyH.cons (o := ⟨_, _, _, _, _, _⟩) rfl (fun K hK => ?_) AllReadyH.nil
      obtain ⟨z0, z1⟩ := cells2 HZ.out
      have f0 := frozen_of_row x3 gz 0 _ _ HZ.out; have f1 := frozen_of_row x3 gz 1 _ _ HZ.out
      go_simp
      have HC := Lib.hid ((HC.out.setCell (p := ⟨gz, 0, none⟩) HZN.out (.int .i64 0)).setCell (p := ⟨gz, 1, none⟩) HZN.out (.int .i64 0))
      refine hK.out _ _ HC.out (fun hS_ => ?_)
      clear hK K hS_ z0 z1 f0 f1
      refine take_in (i := 8) (oi := ⟨_, _, _, _, _, _⟩) (v := ?_) rfl (by kernel_rfl) (by kernel_rfl) (by kernel_rfl) (fun _ _ _ h => h) (by rfl) ?_ HC.out ?_
      rotate_left
      · intro W hW; go_simp; with_reducible rfl
      simp only [Act.put, List.setIfInBounds_toArray, List.set_cons_zero, List.set_cons_succ]
      refine wpAnyH_done (by kernel_rfl) ?_ _
      go_wp2
      go_meet
      case rel => exact ⟨rfl, HC.out⟩
  case rest =>
    obtain ⟨rfl, hbc⟩ := hcut
    have HC := Lib.hid hbc; clear hbc
    go_upto_region 3 with (fail)
    refine wp_region_held_drew (S := fun W' => Below w3.heap.size w3 W') (by kernel_rfl) HC.out.drew (fun hHeld => ?_)
    clear HC
    generalize wc.drew = w5 at hHeld ⊢
    have HC : Hid (Below w3.heap.size w3 w5) := hHeld
    clear hHeld
    refine wpAnyH_ready (rs := [0]) (by kernel_rfl) (by simp) ?_
    refine AllReadyH.cons (o := ⟨_, _, _, _, _, _⟩) rfl (fun K hK => ?_) AllReadyH.nil
    go_simp
    refine (fold_alive_c w5).mono ?_
    rintro e y1 ⟨rfl, hb_⟩
    have HC := Lib.hid (HC.out.trans (hb_.mono HC.out.size)); clear hb_
    refine hK.out _ _ HC.out (fun hS_ => ?_)
    clear hK K hS_
    refine take_in (i := 1) (oi := ⟨_, _, _, _, _, _⟩) (v := ?_) rfl (by kernel_rfl) (by kernel_rfl) (by kernel_rfl) (fun _ _ _ h => h) (by rfl) ?_ HC.out ?_
    rotate_left
    · intro W hW; obtain ⟨q0, q1, q2, q3, q4, q5, q6⟩ := HQ.out W hW; go_simp; with_reducible rfl
    simp only [Act.put, List.setIfInBounds_toArray, List.set_cons_zero, List.set_cons_succ]
    refine take_in (i := 2) (oi := ⟨_, _, _, _, _, _⟩) (v := ?_) rfl (by kernel_rfl) (by kernel_rfl) (by kernel_rfl) (fun _ _ _ h => h) (by rfl) ?_ HC.out ?_
    rotate_left
    · intro W hW; obtain ⟨q0, q1, q2, q3, q4, q5, q6⟩ := HQ.out W hW; go_simp; with_reducible rfl
    simp only [Act.put, List.setIfInBounds_toArray, List.set_cons_zero, List.set_cons_succ]
    refine take_in (i := 6) (oi := ⟨_, _, _, _, _, _⟩) (v := ?_) rfl (by kernel_rfl) (by kernel_rfl) (by kernel_rfl) (fun _ _ _ h => h) (by rfl) ?_ HC.out ?_
    rotate_left
    · intro W hW; obtain ⟨q0, q1, q2, q3, q4, q5, q6⟩ := HQ.out W hW; go_simp; with_reducible rfl
    simp only [Act.put, List.setIfInBounds_toArray, List.set_cons_zero, List.set_cons_succ]
    refine wpAnyH_ready (rs := [3]) (by kernel_rfl) (by simp) ?_
    refine AllReadyH.cons (o := ⟨_, _, _, _, _, _⟩) rfl (fun K hK => ?_) AllReadyH.nil
    go_simp
    refine (first_c y1).mono ?_
    rintro e y2 ⟨rfl, hb_⟩
    have HC := Lib.hid (HC.out.trans (hb_.mono HC.out.size)); clear hb_
    refine hK.out _ _ HC.out (fun hS_ => ?_)
    clear hK K hS_
    refine wpAnyH_ready (rs := [4]) (by kernel_rfl) (by simp) ?_
    refine AllReadyH.cons (o := ⟨_, _, _, _, _, _⟩) rfl (fun K hK => ?_) AllReadyH.nil
    go_simp
    refine (book7 y2).mono ?_
    rintro e y3 ⟨A1, c1, rfl, hb_⟩
    have HC := Lib.hid (HC.out.trans (hb_.mono HC.out.size)); clear hb_
    refine hK.out _ _ HC.out (fun hS_ => ?_)
    clear hK K hS_
    refine take_in (i := 5) (oi := ⟨_, _, _, _, _, _⟩) (v := ?_) rfl (by kernel_rfl) (by kernel_rfl) (by kernel_rfl) (fun _ _ _ h => h) (by rfl) ?_ HC.out ?_
    rotate_left
    · intro W hW; obtain ⟨q0, q1, q2, q3, q4, q5, q6⟩ := HQ.out W hW; go_simp; with_reducible rfl
    simp only [Act.put, List.setIfInBounds_toArray, List.set_cons_zero, List.set_cons_succ]
    refine wpAnyH_ready (rs := [7]) (by kernel_rfl) (by simp) ?_
    refine AllReadyH.cons (o := ⟨_, _, _, _, _, _⟩) rfl (fun K hK => ?_) AllReadyH.nil
    go_simp
    refine (first_c y3).mono ?_
    rintro e y4 ⟨rfl, hb_⟩
    have HC := Lib.hid (HC.out.trans (hb_.mono HC.out.size)); clear hb_
    refine hK.out _ _ HC.out (fun hS_ => ?_)
    clear hK K hS_
    refine wpAnyH_ready (rs := [8]) (by kernel_rfl) (by simp) ?_
    refine AllReadyH.cons (o := ⟨_, _, _, _, _, _⟩) rfl (fun K hK => ?_) AllReadyH.nil
    go_simp
    refine (cells7 y4).mono ?_
    rintro e y5 ⟨A2, c2, rfl, hb_⟩
    have HC := Lib.hid (HC.out.trans (hb_.mono HC.out.size)); clear hb_
    refine hK.out _ _ HC.out (fun hS_ => ?_)
    clear hK K hS_
    refine take_in (i := 9) (oi := ⟨_, _, _, _, _, _⟩) (v := ?_) rfl (by kernel_rfl) (by kernel_rfl) (by kernel_rfl) (fun _ _ _ h => h) (by rfl) ?_ HC.out ?_
    rotate_left
    · intro W hW; obtain ⟨q0, q1, q2, q3, q4, q5, q6⟩ := HQ.out W hW; go_simp; with_reducible rfl
    simp only [Act.put, List.setIfInBounds_toArray, List.set_cons_zero, List.set_cons_succ]
    refine take_in (i := 10) (oi := ⟨_, _, _, _, _, _⟩) (v := ?_) rfl (by kernel_rfl) (by kernel_rfl) (by kernel_rfl) (fun _ _ _ h => h) (by rfl) ?_ HC.out ?_
    rotate_left
    · intro W hW; obtain ⟨q0, q1, q2, q3, q4, q5, q6⟩ := HQ.out W hW; go_simp; with_reducible rfl
    simp only [Act.put, List.setIfInBounds_toArray, List.set_cons_zero, List.set_cons_succ]
    refine take_in (i := 11) (oi := ⟨_, _, _, _, _, _⟩) (v := ?_) rfl (by kernel_rfl) (by kernel_rfl) (by kernel_rfl) (fun _ _ _ h => h) (by rfl) ?_ HC.out ?_
    rotate_left
    · intro W hW; obtain ⟨q0, q1, q2, q3, q4, q5, q6⟩ := HQ.out W hW; go_simp; with_reducible rfl
    simp only [Act.put, List.setIfInBounds_toArray, List.set_cons_zero, List.set_cons_succ]
    refine take_in (i := 12) (oi := ⟨_, _, _, _, _, _⟩) (v := ?_) rfl (by kernel_rfl) (by kernel_rfl) (by kernel_rfl) (fun _ _ _ h => h) (by rfl) ?_ HC.out ?_
    rotate_left
    · intro W hW; obtain ⟨q0, q1, q2, q3, q4, q5, q6⟩ := HQ.out W hW; go_simp; with_reducible rfl
    simp only [Act.put, List.setIfInBounds_toArray, List.set_cons_zero, List.set_cons_succ]
    refine take_in (i := 13) (oi := ⟨_, _, _, _, _, _⟩) (v := ?_) rfl (by kernel_rfl) (by kernel_rfl) (by kernel_rfl) (fun _ _ _ h => h) (by rfl) ?_ HC.out ?_
    rotate_left
    · intro W hW; obtain ⟨q0, q1, q2, q3, q4, q5, q6⟩ := HQ.out W hW; go_simp; with_reducible rfl
    simp only [Act.put, List.setIfInBounds_toArray, List.set_cons_zero, List.set_cons_succ]
    refine take_in (i := 14) (oi := ⟨_, _, _, _, _, _⟩) (v := ?_) rfl (by kernel_rfl) (by kernel_rfl) (by kernel_rfl) (fun _ _ _ h => h) (by rfl) ?_ HC.out ?_
    rotate_left
    · intro W hW; obtain ⟨q0, q1, q2, q3, q4, q5, q6⟩ := HQ.out W hW; go_simp; with_reducible rfl
    simp only [Act.put, List.setIfInBounds_toArray, List.set_cons_zero, List.set_cons_succ]
    refine take_in (i := 15) (oi := ⟨_, _, _, _, _, _⟩) (v := ?_) rfl (by kernel_rfl) (by kernel_rfl) (by kernel_rfl) (fun _ _ _ h => h) (by rfl) ?_ HC.out ?_
    rotate_left
    · intro W hW; obtain ⟨q0, q1, q2, q3, q4, q5, q6⟩ := HQ.out W hW; go_simp; with_reducible rfl
    simp only [Act.put, List.setIfInBounds_toArray, List.set_cons_zero, List.set_cons_succ]
    refine take_in (i := 16) (oi := ⟨_, _, _, _, _, _⟩) (v := ?_) rfl (by kernel_rfl) (by kernel_rfl) (by kernel_rfl) (fun _ _ _ h => h) (by rfl) ?_ HC.out ?_
    rotate_left
    · intro W hW; obtain ⟨q0, q1, q2, q3, q4, q5, q6⟩ := HQ.out W hW; go_simp; with_reducible rfl
    simp only [Act.put, List.setIfInBounds_toArray, List.set_cons_zero, List.set_cons_succ]
    refine take_in (i := 17) (oi := ⟨_, _, _, _, _, _⟩) (v := ?_) rfl (by kernel_rfl) (by kernel_rfl) (by kernel_rfl) (fun _ _ _ h => h) (by rfl) ?_ HC.out ?_
    rotate_left
    · intro W hW; obtain ⟨q0, q1, q2, q3, q4, q5, q6⟩ := HQ.out W hW; go_simp; with_reducible rfl
    simp only [Act.put, List.setIfInBounds_toArray, List.set_cons_zero, List.set_cons_succ]
    refine take_in (i := 18) (oi := ⟨_, _, _, _, _, _⟩) (v := ?_) rfl (by kernel_rfl) (by kernel_rfl) (by kernel_rfl) (fun _ _ _ h => h) (by rfl) ?_ HC.out ?_
    rotate_left
    · intro W hW; obtain ⟨q0, q1, q2, q3, q4, q5, q6⟩ := HQ.out W hW; go_simp; with_reducible rfl
    simp only [Act.put, List.setIfInBounds_toArray, List.set_cons_zero, List.set_cons_succ]
    refine take_in (i := 19) (oi := ⟨_, _, _, _, _, _⟩) (v := ?_) rfl (by kernel_rfl) (by kernel_rfl) (by kernel_rfl) (fun _ _ _ h => h) (by rfl) ?_ HC.out ?_
    rotate_left
    · intro W hW; obtain ⟨q0, q1, q2, q3, q4, q5, q6⟩ := HQ.out W hW; go_simp; with_reducible rfl
    simp only [Act.put, List.setIfInBounds_toArray, List.set_cons_zero, List.set_cons_succ]
    refine wpAnyH_ready (rs := [20]) (by kernel_rfl) (by simp) ?_
    refine AllReadyH.cons (o := ⟨_, _, _, _, _, _⟩) rfl (fun K hK => ?_) AllReadyH.nil
    go_simp
    refine (first_c y5).mono ?_
    rintro e y6 ⟨rfl, hb_⟩
    have HC := Lib.hid (HC.out.trans (hb_.mono HC.out.size)); clear hb_
    refine hK.out _ _ HC.out (fun hS_ => ?_)
    clear hK K hS_
    refine take_in (i := 21) (oi := ⟨_, _, _, _, _, _⟩) (v := ?_) rfl (by kernel_rfl) (by kernel_rfl) (by kernel_rfl) (fun _ _ _ h => h) (by rfl) ?_ HC.out ?_
    rotate_left
    · intro W hW; obtain ⟨q0, q1, q2, q3, q4, q5, q6⟩ := HQ.out W hW; go_simp; with_reducible rfl
    simp only [Act.put, List.setIfInBounds_toArray, List.set_cons_zero, List.set_cons_succ]
    refine take_in (i := 22) (oi := ⟨_, _, _, _, _, _⟩) (v := ?_) rfl (by kernel_rfl) (by kernel_rfl) (by kernel_rfl) (fun _ _ _ h => h) (by rfl) ?_ HC.out ?_
    rotate_left
    · intro W hW; obtain ⟨q0, q1, q2, q3, q4, q5, q6⟩ := HQ.out W hW; go_simp; with_reducible rfl
    simp only [Act.put, List.setIfInBounds_toArray, List.set_cons_zero, List.set_cons_succ]
    refine take_in (i := 23) (oi := ⟨_, _, _, _, _, _⟩) (v := ?_) rfl (by kernel_rfl) (by kernel_rfl) (by kernel_rfl) (fun _ _ _ h => h) (by rfl) ?_ HC.out ?_
    rotate_left
    · intro W hW; obtain ⟨q0, q1, q2, q3, q4, q5, q6⟩ := HQ.out W hW; go_simp; with_reducible rfl
    simp only [Act.put, List.setIfInBounds_toArray, List.set_cons_zero, List.set_cons_succ]
    refine take_in (i := 24) (oi := ⟨_, _, _, _, _, _⟩) (v := ?_) rfl (by kernel_rfl) (by kernel_rfl) (by kernel_rfl) (fun _ _ _ h => h) (by rfl) ?_ HC.out ?_
    rotate_left
    · intro W hW; obtain ⟨q0, q1, q2, q3, q4, q5, q6⟩ := HQ.out W hW; go_simp; with_reducible rfl
    simp only [Act.put, List.setIfInBounds_toArray, List.set_cons_zero, List.set_cons_succ]
    refine wpAnyH_ready (rs := [25]) (by kernel_rfl) (by simp) ?_
    refine AllReadyH.cons (o := ⟨_, _, _, _, _, _⟩) rfl (fun K hK => ?_) AllReadyH.nil
    go_simp
    refine (first_c y6).mono ?_
    rintro e y7 ⟨rfl, hb_⟩
    have HC := Lib.hid (HC.out.trans (hb_.mono HC.out.size)); clear hb_
    refine hK.out _ _ HC.out (fun hS_ => ?_)
    clear hK K hS_
    refine wpAnyH_ready (rs := [26]) (by kernel_rfl) (by simp) ?_
    refine AllReadyH.cons (o := ⟨_, _, _, _, _, _⟩) rfl (fun K hK => ?_) AllReadyH.nil
    go_simp
    refine (of7 y7).mono ?_
    rintro e y8 ⟨b, c, i, rfl, hst, hb_⟩
    have HC := Lib.hid (HC.out.trans (hb_.mono HC.out.size)); clear hb_
    refine hK.out _ _ HC.out (fun hS_ => ?_)
    clear hK K hS_
    have HST := Lib.hid hst; clear hst
    refine wpAnyH_ready (rs := [27]) (by kernel_rfl) (by simp) ?_
    refine AllReadyH.cons (o := ⟨_, _, _, _, _, _⟩) rfl (fun K hK => ?_) AllReadyH.nil
    go_simp
    refine (same7 b c i y8 HST.out).mono ?_
    rintro e z ⟨rfl, hb_⟩
    have HC := Lib.hid (HC.out.trans (hb_.mono HC.out.size)); clear hb_
    refine hK.out _ _ HC.out (fun hS_ => ?_)
    clear hK K hS_
    refine take_in (i := 28) (oi := ⟨_, _, _, _, _, _⟩) (v := ?_) rfl (by kernel_rfl) (by kernel_rfl) (by kernel_rfl) (fun _ _ _ h => h) (by rfl) ?_ HC.out ?_
    rotate_left
    · intro W hW; obtain ⟨q0, q1, q2, q3, q4, q5, q6⟩ := HQ.out W hW; go_simp; with_reducible rfl
    simp only [Act.put, List.setIfInBounds_toArray, List.set_cons_zero, List.set_cons_succ]
    refine take_in (i := 29) (oi := ⟨_, _, _, _, _, _⟩) (v := ?_) rfl (by kernel_rfl) (by kernel_rfl) (by kernel_rfl) (fun _ _ _ h => h) (by rfl) ?_ HC.out ?_
    rotate_left
    · intro W hW; obtain ⟨q0, q1, q2, q3, q4, q5, q6⟩ := HQ.out W hW; go_simp; with_reducible rfl
    simp only [Act.put, List.setIfInBounds_toArray, List.set_cons_zero, List.set_cons_succ]
    refine wpAnyH_done (by kernel_rfl) ?_ _
    go_wp2
    go_ret
    exact ⟨rfl, HB.out.trans (HC.out.mono HB.out.size)⟩
end Go.Proofs.YtfblnomkafimhaaGreat.foldNames

namespace Go.Proofs.YtfblnomkafimhaaGreat
open Go.ChangeShapes Go.WideShapes Go.ChangeAt Go.RowKit

theorem foldNames_own : ownKnob Tryz.prog.godebug = none := by kernel_rfl
theorem foldNames_laid : laidOutB Tryz.prog = true := by kernel_rfl

set_option maxRecDepth 100000 in
theorem foldNames_lifted (os : Os) (started : os.Started) (H : Type) (enc : TypeId × Value → H) :
    ReturnsInHanded {} Tryz.checked os 3 .any (Rows.foldNamesSpec.pre6 enc Tryz.prog Tryz.f3 Rows.foldNamesRow.domain false) (Rows.foldNamesSpec.post enc Tryz.prog Tryz.f3 false true false false) := by
  refine returnsInHanded_of_change_sized (C := Tryz.checked) foldNames_own started (by kernel_rfl) Tryz.func3
    (ChangeSpec.witness6 (enc := enc) (C := Tryz.checked) false ⟨#[], #[], []⟩ 8 (by kernel_rfl) (by kernel_rfl) (by kernel_rfl) (by kernel_rfl)) ?_
  intro W base args ds gs before hval0 hW _ hsz0 _
  have hW' := hW
  obtain ⟨p, q, hA0, hV, rfl, hfz, hnd⟩ := hW
  have hA : DataW.TrodAll enc Tryz.prog W 0 (fun _ => true) true Tryz.f3.params.toList args.toList ds p := hA0
  rw [Tryz.params3] at hA
  obtain ⟨rfl, rfl, rfl⟩ := trodAll_none hA
  obtain ⟨rfl, rfl⟩ := trodVars_none hV
  clear hA0 hval0
  simp only [List.append_nil] at hW'
  refine (foldNames.walk W ).mono fun e W' ⟨he, hb⟩ => ?_
  subst he
  exact ⟨_, rfl, _, _, _, [], _, [], hW', trodAll_cons_mk (shut_bool Tryz.underlying4 _) trodAll_mk0, trodAll_mk0, rfl, hb.frame _, fun h => by cases h⟩

theorem foldNames_proved : Rows.FoldNamesSaid :=
  OpenClaim.holds_of_wide 3 Tryz.f3 rfl rfl rfl rfl rfl rfl rfl ⟨rfl, rfl, rfl, rfl, rfl⟩ rfl rfl rfl rfl rfl (by kernel_rfl) Tryz.func3 (by kernel_rfl)
    (of_decide_eq_true (by kernel_rfl)) (by unfold Func.isWrapper; first | (rw [if_pos (by decide +kernel)]; kernel_rfl) | (rw [if_neg (by decide +kernel)]; exact ⟨rfl, rfl⟩))
    (fun os started H enc _ => foldNames_lifted os started H enc)
#print axioms foldNames_proved
end Go.Proofs.YtfblnomkafimhaaGreat
