/- What crc.Open answers: a contract by a walk. -/
import Derived.Test.YtbfegppjaoabaaaCrcE
import Derived.Test.YtbfegppjaoabaaaReg
namespace Go.Proofs.Ytbfegppjaoabaaa
open Go.RowKit
open Crc

def oE (o : Option (List UInt8)) : Int := if o.isSome then 0 else 31
def oB (o : Option (List UInt8)) : List UInt8 := o.getD []
/-- the bytes of a frame and the error's number, whichever way it ends -/
def RetOpen (w : World) (o : Option (List UInt8)) (e : Ending) (w' : World) : Prop :=
  ∃ A n c, e = .returned (.tuple #[.slice A n c, .int .i64 (oE o)]) ∧ n = (oB o).length ∧ n ≤ c ∧ Rd w' w'.heap.size A ((oB o).map B8) ∧ Below w.heap.size w w'

theorem le4_inj {a b : BitVec 32} (h : le4 a.toNat = le4 b.toNat) : a = b := by
  have h1 := run_le4 0#32 a
  rw [h, run_le4] at h1
  have := zeros_inj h1
  simpa using this.symm

theorem open_c (A : Option Addr) (n c : Nat) (bs : List UInt8) (hn : n = bs.length) (hc : n ≤ c) (B : Nat) (w : World) (hr : Rd w B A (bs.map B8)) (hB : B ≤ w.heap.size) (hl : n ≤ big) :
    Calls Try.prog 10 #[.slice A n c] w (RetOpen w (openF bs)) := by
  have h47 : n ≤ 140737488355328 := hl
  by_cases h4 : n < 4
  · have ho : openF bs = none := by unfold openF; rw [if_pos (by omega)]
    rw [ho]
    have hd : decide ((n : Int) - 4 < 0) = true := decide_eq_true (by omega)
    clear hr hn ho
    go_enter Try.func10, Try.ntmps10
    go_wp2
    go_quiet (fail)
    go_wp2
    go_ret2
    exact ⟨none, 0, 0, rfl, rfl, Nat.le_refl _, Rd.nil, below_drewN _ _ _⟩
  · obtain ⟨m, rfl⟩ : ∃ m, n = m + 4 := ⟨n - 4, by omega⟩
    clear h4
    obtain ⟨s, hs⟩ := le4_of (bs.drop m) (by simp; omega)
    obtain ⟨A1, c1, hsl1, hr1⟩ := run_from' Try.underlying22 size8 A (m + 4) c m 4 (m : Int) .i64 rfl (by omega) hc (by omega)
    obtain ⟨A2, hsl2, hr2⟩ := run_upto Try.underlying22 size8 A (m + 4) c m (m : Int) .i64 rfl (by omega)
    have HR1 := Lib.hid (hr1 w B _ (by rw [List.length_map, ← hn]) hr)
    have HR2 := Lib.hid ((hr2 w B _ hr).take m)
    rw [← List.map_drop, hs] at HR1
    rw [← List.map_take] at HR2
    have HM : Hid (m = (bs.take m).length) := Lib.hid (by simp; omega)
    have HN := Lib.hid hn; clear hn
    have HS := Lib.hid hs; clear hs
    clear hr hr1 hr2
    have hsz : (((m + 4 : Nat) : Int) - 4) = (m : Int) := by omega
    have hd : decide ((m : Int) < 0) = false := decide_eq_false (by omega)
    by_cases hq : s = sum (bs.take m)
    · have HOP : Hid (openF bs = some (bs.take m)) := Lib.hid (by
        have e : seal_ (bs.take m) = bs := by unfold seal_; rw [← hq, ← HS.out, List.take_append_drop]
        unfold openF
        rw [← HN.out, if_neg (by omega), show m + 4 - 4 = m by omega, if_pos e])
      have hne : ((s.toNat : Int) != ((sum (bs.take m)).toNat : Int)) = false := by rw [hq]; simp
      clear hq HS
      go_enter Try.func10, Try.ntmps10
      go_wp2
      refine wp_region_held_drew (S := fun W' => Below w.heap.size w W') (by kernel_rfl) (Below.refl _ _).drew (fun hHeld => ?_)
      generalize w.drew = w2 at hHeld ⊢
      have HBD : Hid (Below w.heap.size w w2) := hHeld
      have hs2 := hHeld.size
      clear hHeld
      have HBA := Lib.hid (HBD.out.alloc hs2 (.cells #[.slice A2 m c] 22))
      refine take_in (i := 0) (oi := ⟨_, _, _, _, _, _⟩) (v := ?_) rfl (by kernel_rfl) (by kernel_rfl) (by kernel_rfl) (fun _ _ _ h => h) (by rfl) ?_ HBD.out ?_
      rotate_left
      · intro W hW; go_simp; with_reducible rfl
      simp only [Act.put, List.setIfInBounds_toArray, List.set_cons_zero, List.set_cons_succ]
      refine take_in (i := 1) (oi := ⟨_, _, _, _, _, _⟩) (v := ?_) rfl (by kernel_rfl) (by kernel_rfl) (by kernel_rfl) (fun _ _ _ h => h) (by rfl) ?_ HBD.out ?_
      rotate_left
      · intro W hW; go_simp; with_reducible rfl
      simp only [Act.put, List.setIfInBounds_toArray, List.set_cons_zero, List.set_cons_succ]
      refine take_in (i := 2) (oi := ⟨_, _, _, _, _, _⟩) (v := ?_) rfl (by kernel_rfl) (by kernel_rfl) (by kernel_rfl) (fun _ _ _ h => h) (by rfl) ?_ HBD.out ?_
      rotate_left
      · intro W hW; go_simp; with_reducible rfl
      simp only [Act.put, List.setIfInBounds_toArray, List.set_cons_zero, List.set_cons_succ]
      refine take_in (i := 3) (oi := ⟨_, _, _, _, _, _⟩) (v := ?_) rfl (by kernel_rfl) (by kernel_rfl) (by kernel_rfl) (fun _ _ _ h => h) (by rfl) ?_ HBD.out ?_
      rotate_left
      · intro W hW; go_simp; with_reducible rfl
      simp only [Act.put, List.setIfInBounds_toArray, List.set_cons_zero, List.set_cons_succ]
      refine take_in (i := 4) (oi := ⟨_, _, _, _, _, _⟩) (v := ?_) rfl (by kernel_rfl) (by kernel_rfl) (by kernel_rfl) (fun _ _ _ h => h) (by rfl) ?_ HBD.out ?_
      rotate_left
      · intro W hW; go_simp; with_reducible rfl
      simp only [Act.put, List.setIfInBounds_toArray, List.set_cons_zero, List.set_cons_succ]
      refine take_in (i := 5) (oi := ⟨_, _, _, _, _, _⟩) (v := ?_) rfl (by kernel_rfl) (by kernel_rfl) (by kernel_rfl) (fun _ _ _ h => h) (by rfl) ?_ HBD.out ?_
      rotate_left
      · intro W hW; go_simp; with_reducible rfl
      simp only [Act.put, List.setIfInBounds_toArray, List.set_cons_zero, List.set_cons_succ]
      refine take_in (i := 7) (oi := ⟨_, _, _, _, _, _⟩) (v := ?_) rfl (by kernel_rfl) (by kernel_rfl) (by kernel_rfl) (fun _ _ _ h => h) (by rfl) ?_ HBD.out ?_
      rotate_left
      · intro W hW; go_simp; with_reducible rfl
      simp only [Act.put, List.setIfInBounds_toArray, List.set_cons_zero, List.set_cons_succ]
      refine take_in (i := 8) (oi := ⟨_, _, _, _, _, _⟩) (v := ?_) rfl (by kernel_rfl) (by kernel_rfl) (by kernel_rfl) (fun _ _ _ h => h) (by rfl) ?_ HBD.out ?_
      rotate_left
      · intro W hW; go_simp; with_reducible rfl
      simp only [Act.put, List.setIfInBounds_toArray, List.set_cons_zero, List.set_cons_succ]
      refine take_in (i := 9) (oi := ⟨_, _, _, _, _, _⟩) (v := ?_) rfl (by kernel_rfl) (by kernel_rfl) (by kernel_rfl) (fun _ _ _ h => h) (by rfl) ?_ HBD.out ?_
      rotate_left
      · intro W hW; go_simp; with_reducible rfl
      simp only [Act.put, List.setIfInBounds_toArray, List.set_cons_zero, List.set_cons_succ]
      refine wpAnyH_ready (rs := [6, 10]) (by kernel_rfl) (by simp) ?_
      refine AllReadyH.cons (o := ⟨_, _, _, _, _, _⟩) rfl (fun K hK => ?_) (AllReadyH.cons (o := ⟨_, _, _, _, _, _⟩) rfl (fun K hK => ?_) AllReadyH.nil)
      · go_simp
        refine (sumin_c A1 c1 s.toNat s.isLt B _ (HR1.out.below (HBD.out.mono hB))).mono ?_
        rintro e w' ⟨rfl, rfl⟩
        refine hK.out _ _ HBD.out (fun _ => ?_)
        clear hK K
        refine wpAnyH_ready (rs := [10]) (by kernel_rfl) (by simp) ?_
        refine AllReadyH.cons (o := ⟨_, _, _, _, _, _⟩) rfl (fun K hK => ?_) AllReadyH.nil
        go_simp
        refine hK.out _ _ HBA.out (fun _ => ?_)
        clear hK K
        refine wpAnyH_ready (rs := [11]) (by kernel_rfl) (by simp) ?_
        refine AllReadyH.cons (o := ⟨_, _, _, _, _, _⟩) rfl (fun K hK => ?_) AllReadyH.nil
        go_simp
        refine (of_one w2 B A2 m c _ HM.out (by omega) (HR2.out.below (HBD.out.mono hB)) (by omega)).mono ?_
        rintro e w' ⟨rfl, rfl⟩
        refine hK.out _ _ HBA.out (fun _ => ?_)
        clear hK K
        refine take_in (i := 12) (oi := ⟨_, _, _, _, _, _⟩) (v := ?_) rfl (by kernel_rfl) (by kernel_rfl) (by kernel_rfl) (fun _ _ _ h => h) (by rfl) ?_ HBA.out ?_
        rotate_left
        · intro W hW; go_simp; with_reducible rfl
        simp only [Act.put, List.setIfInBounds_toArray, List.set_cons_zero, List.set_cons_succ]
        refine take_in (i := 13) (oi := ⟨_, _, _, _, _, _⟩) (v := ?_) rfl (by kernel_rfl) (by kernel_rfl) (by kernel_rfl) (fun _ _ _ h => h) (by rfl) ?_ HBA.out ?_
        rotate_left
        · intro W hW; go_simp; with_reducible rfl
        simp only [Act.put, List.setIfInBounds_toArray, List.set_cons_zero, List.set_cons_succ]
        refine wpAnyH_done (by kernel_rfl) ?_ _
        go_wp2_with fail
        refine (clone_c A2 m c _ HM.out B _ (HR2.out.below (HBA.out.mono hB)) (by simp; omega) (by omega)).mono ?_
        rintro e w3 ⟨A3, n3, c3, rfl, ho3, hb3⟩
        have HO3 := Lib.hid ho3; clear ho3
        have HB3 := Lib.hid (HBA.out.trans (hb3.mono (by simp; omega))); clear hb3
        go_wp2
        go_ret2
        rw [HOP.out]
        exact ⟨A3, n3, c3, rfl, HO3.out.1, HO3.out.cap, HO3.out.rd, HB3.out⟩
      · go_simp
        refine hK.out _ _ HBA.out (fun _ => ?_)
        clear hK K
        refine wpAnyH_ready (rs := [6]) (by kernel_rfl) (by simp) ?_
        refine AllReadyH.cons (o := ⟨_, _, _, _, _, _⟩) rfl (fun K hK => ?_) AllReadyH.nil
        go_simp
        refine (sumin_c A1 c1 s.toNat s.isLt B _ (HR1.out.below (HBA.out.mono hB))).mono ?_
        rintro e w' ⟨rfl, rfl⟩
        refine hK.out _ _ HBA.out (fun _ => ?_)
        clear hK K
        refine wpAnyH_ready (rs := [11]) (by kernel_rfl) (by simp) ?_
        refine AllReadyH.cons (o := ⟨_, _, _, _, _, _⟩) rfl (fun K hK => ?_) AllReadyH.nil
        go_simp
        refine (of_one w2 B A2 m c _ HM.out (by omega) (HR2.out.below (HBD.out.mono hB)) (by omega)).mono ?_
        rintro e w' ⟨rfl, rfl⟩
        refine hK.out _ _ HBA.out (fun _ => ?_)
        clear hK K
        refine take_in (i := 12) (oi := ⟨_, _, _, _, _, _⟩) (v := ?_) rfl (by kernel_rfl) (by kernel_rfl) (by kernel_rfl) (fun _ _ _ h => h) (by rfl) ?_ HBA.out ?_
        rotate_left
        · intro W hW; go_simp; with_reducible rfl
        simp only [Act.put, List.setIfInBounds_toArray, List.set_cons_zero, List.set_cons_succ]
        refine take_in (i := 13) (oi := ⟨_, _, _, _, _, _⟩) (v := ?_) rfl (by kernel_rfl) (by kernel_rfl) (by kernel_rfl) (fun _ _ _ h => h) (by rfl) ?_ HBA.out ?_
        rotate_left
        · intro W hW; go_simp; with_reducible rfl
        simp only [Act.put, List.setIfInBounds_toArray, List.set_cons_zero, List.set_cons_succ]
        refine wpAnyH_done (by kernel_rfl) ?_ _
        go_wp2_with fail
        refine (clone_c A2 m c _ HM.out B _ (HR2.out.below (HBA.out.mono hB)) (by simp; omega) (by omega)).mono ?_
        rintro e w3 ⟨A3, n3, c3, rfl, ho3, hb3⟩
        have HO3 := Lib.hid ho3; clear ho3
        have HB3 := Lib.hid (HBA.out.trans (hb3.mono (by simp; omega))); clear hb3
        go_wp2
        go_ret2
        rw [HOP.out]
        exact ⟨A3, n3, c3, rfl, HO3.out.1, HO3.out.cap, HO3.out.rd, HB3.out⟩
    · have HOP : Hid (openF bs = none) := Lib.hid (by
        have e : seal_ (bs.take m) ≠ bs := by
          intro e
          apply hq
          have h1 : (seal_ (bs.take m)).drop m = bs.drop m := by rw [e]
          unfold seal_ at h1
          rw [List.drop_left' HM.out.symm, HS.out] at h1
          exact (le4_inj h1).symm
        unfold openF
        rw [← HN.out, if_neg (by omega), show m + 4 - 4 = m by omega, if_neg e])
      have hne : ((s.toNat : Int) != ((sum (bs.take m)).toNat : Int)) = true := by
        rw [bne_iff_ne]
        intro h
        exact hq (BitVec.eq_of_toNat_eq (by omega))
      clear hq HS
      go_enter Try.func10, Try.ntmps10
      go_wp2
      refine wp_region_held_drew (S := fun W' => Below w.heap.size w W') (by kernel_rfl) (Below.refl _ _).drew (fun hHeld => ?_)
      generalize w.drew = w2 at hHeld ⊢
      have HBD : Hid (Below w.heap.size w w2) := hHeld
      have hs2 := hHeld.size
      clear hHeld
      have HBA := Lib.hid (HBD.out.alloc hs2 (.cells #[.slice A2 m c] 22))
      refine take_in (i := 0) (oi := ⟨_, _, _, _, _, _⟩) (v := ?_) rfl (by kernel_rfl) (by kernel_rfl) (by kernel_rfl) (fun _ _ _ h => h) (by rfl) ?_ HBD.out ?_
      rotate_left
      · intro W hW; go_simp; with_reducible rfl
      simp only [Act.put, List.setIfInBounds_toArray, List.set_cons_zero, List.set_cons_succ]
      refine take_in (i := 1) (oi := ⟨_, _, _, _, _, _⟩) (v := ?_) rfl (by kernel_rfl) (by kernel_rfl) (by kernel_rfl) (fun _ _ _ h => h) (by rfl) ?_ HBD.out ?_
      rotate_left
      · intro W hW; go_simp; with_reducible rfl
      simp only [Act.put, List.setIfInBounds_toArray, List.set_cons_zero, List.set_cons_succ]
      refine take_in (i := 2) (oi := ⟨_, _, _, _, _, _⟩) (v := ?_) rfl (by kernel_rfl) (by kernel_rfl) (by kernel_rfl) (fun _ _ _ h => h) (by rfl) ?_ HBD.out ?_
      rotate_left
      · intro W hW; go_simp; with_reducible rfl
      simp only [Act.put, List.setIfInBounds_toArray, List.set_cons_zero, List.set_cons_succ]
      refine take_in (i := 3) (oi := ⟨_, _, _, _, _, _⟩) (v := ?_) rfl (by kernel_rfl) (by kernel_rfl) (by kernel_rfl) (fun _ _ _ h => h) (by rfl) ?_ HBD.out ?_
      rotate_left
      · intro W hW; go_simp; with_reducible rfl
      simp only [Act.put, List.setIfInBounds_toArray, List.set_cons_zero, List.set_cons_succ]
      refine take_in (i := 4) (oi := ⟨_, _, _, _, _, _⟩) (v := ?_) rfl (by kernel_rfl) (by kernel_rfl) (by kernel_rfl) (fun _ _ _ h => h) (by rfl) ?_ HBD.out ?_
      rotate_left
      · intro W hW; go_simp; with_reducible rfl
      simp only [Act.put, List.setIfInBounds_toArray, List.set_cons_zero, List.set_cons_succ]
      refine take_in (i := 5) (oi := ⟨_, _, _, _, _, _⟩) (v := ?_) rfl (by kernel_rfl) (by kernel_rfl) (by kernel_rfl) (fun _ _ _ h => h) (by rfl) ?_ HBD.out ?_
      rotate_left
      · intro W hW; go_simp; with_reducible rfl
      simp only [Act.put, List.setIfInBounds_toArray, List.set_cons_zero, List.set_cons_succ]
      refine take_in (i := 7) (oi := ⟨_, _, _, _, _, _⟩) (v := ?_) rfl (by kernel_rfl) (by kernel_rfl) (by kernel_rfl) (fun _ _ _ h => h) (by rfl) ?_ HBD.out ?_
      rotate_left
      · intro W hW; go_simp; with_reducible rfl
      simp only [Act.put, List.setIfInBounds_toArray, List.set_cons_zero, List.set_cons_succ]
      refine take_in (i := 8) (oi := ⟨_, _, _, _, _, _⟩) (v := ?_) rfl (by kernel_rfl) (by kernel_rfl) (by kernel_rfl) (fun _ _ _ h => h) (by rfl) ?_ HBD.out ?_
      rotate_left
      · intro W hW; go_simp; with_reducible rfl
      simp only [Act.put, List.setIfInBounds_toArray, List.set_cons_zero, List.set_cons_succ]
      refine take_in (i := 9) (oi := ⟨_, _, _, _, _, _⟩) (v := ?_) rfl (by kernel_rfl) (by kernel_rfl) (by kernel_rfl) (fun _ _ _ h => h) (by rfl) ?_ HBD.out ?_
      rotate_left
      · intro W hW; go_simp; with_reducible rfl
      simp only [Act.put, List.setIfInBounds_toArray, List.set_cons_zero, List.set_cons_succ]
      refine wpAnyH_ready (rs := [6, 10]) (by kernel_rfl) (by simp) ?_
      refine AllReadyH.cons (o := ⟨_, _, _, _, _, _⟩) rfl (fun K hK => ?_) (AllReadyH.cons (o := ⟨_, _, _, _, _, _⟩) rfl (fun K hK => ?_) AllReadyH.nil)
      · go_simp
        refine (sumin_c A1 c1 s.toNat s.isLt B _ (HR1.out.below (HBD.out.mono hB))).mono ?_
        rintro e w' ⟨rfl, rfl⟩
        refine hK.out _ _ HBD.out (fun _ => ?_)
        clear hK K
        refine wpAnyH_ready (rs := [10]) (by kernel_rfl) (by simp) ?_
        refine AllReadyH.cons (o := ⟨_, _, _, _, _, _⟩) rfl (fun K hK => ?_) AllReadyH.nil
        go_simp
        refine hK.out _ _ HBA.out (fun _ => ?_)
        clear hK K
        refine wpAnyH_ready (rs := [11]) (by kernel_rfl) (by simp) ?_
        refine AllReadyH.cons (o := ⟨_, _, _, _, _, _⟩) rfl (fun K hK => ?_) AllReadyH.nil
        go_simp
        refine (of_one w2 B A2 m c _ HM.out (by omega) (HR2.out.below (HBD.out.mono hB)) (by omega)).mono ?_
        rintro e w' ⟨rfl, rfl⟩
        refine hK.out _ _ HBA.out (fun _ => ?_)
        clear hK K
        refine take_in (i := 12) (oi := ⟨_, _, _, _, _, _⟩) (v := ?_) rfl (by kernel_rfl) (by kernel_rfl) (by kernel_rfl) (fun _ _ _ h => h) (by rfl) ?_ HBA.out ?_
        rotate_left
        · intro W hW; go_simp; with_reducible rfl
        simp only [Act.put, List.setIfInBounds_toArray, List.set_cons_zero, List.set_cons_succ]
        refine take_in (i := 13) (oi := ⟨_, _, _, _, _, _⟩) (v := ?_) rfl (by kernel_rfl) (by kernel_rfl) (by kernel_rfl) (fun _ _ _ h => h) (by rfl) ?_ HBA.out ?_
        rotate_left
        · intro W hW; go_simp; with_reducible rfl
        simp only [Act.put, List.setIfInBounds_toArray, List.set_cons_zero, List.set_cons_succ]
        refine wpAnyH_done (by kernel_rfl) ?_ _
        go_wp2
        go_ret2
        rw [HOP.out]
        exact ⟨none, 0, 0, rfl, rfl, Nat.le_refl _, Rd.nil, HBA.out⟩
      · go_simp
        refine hK.out _ _ HBA.out (fun _ => ?_)
        clear hK K
        refine wpAnyH_ready (rs := [6]) (by kernel_rfl) (by simp) ?_
        refine AllReadyH.cons (o := ⟨_, _, _, _, _, _⟩) rfl (fun K hK => ?_) AllReadyH.nil
        go_simp
        refine (sumin_c A1 c1 s.toNat s.isLt B _ (HR1.out.below (HBA.out.mono hB))).mono ?_
        rintro e w' ⟨rfl, rfl⟩
        refine hK.out _ _ HBA.out (fun _ => ?_)
        clear hK K
        refine wpAnyH_ready (rs := [11]) (by kernel_rfl) (by simp) ?_
        refine AllReadyH.cons (o := ⟨_, _, _, _, _, _⟩) rfl (fun K hK => ?_) AllReadyH.nil
        go_simp
        refine (of_one w2 B A2 m c _ HM.out (by omega) (HR2.out.below (HBD.out.mono hB)) (by omega)).mono ?_
        rintro e w' ⟨rfl, rfl⟩
        refine hK.out _ _ HBA.out (fun _ => ?_)
        clear hK K
        refine take_in (i := 12) (oi := ⟨_, _, _, _, _, _⟩) (v := ?_) rfl (by kernel_rfl) (by kernel_rfl) (by kernel_rfl) (fun _ _ _ h => h) (by rfl) ?_ HBA.out ?_
        rotate_left
        · intro W hW; go_simp; with_reducible rfl
        simp only [Act.put, List.setIfInBounds_toArray, List.set_cons_zero, List.set_cons_succ]
        refine take_in (i := 13) (oi := ⟨_, _, _, _, _, _⟩) (v := ?_) rfl (by kernel_rfl) (by kernel_rfl) (by kernel_rfl) (fun _ _ _ h => h) (by rfl) ?_ HBA.out ?_
        rotate_left
        · intro W hW; go_simp; with_reducible rfl
        simp only [Act.put, List.setIfInBounds_toArray, List.set_cons_zero, List.set_cons_succ]
        refine wpAnyH_done (by kernel_rfl) ?_ _
        go_wp2
        go_ret2
        rw [HOP.out]
        exact ⟨none, 0, 0, rfl, rfl, Nat.le_refl _, Rd.nil, HBA.out⟩
end Go.Proofs.Ytbfegppjaoabaaa
