/- Contracts and words on which the claims of this seat stand, part 18: VwP VwQ VwB VwR VwS VwT VwC VwD. -/
import Derived.Test.YtfblnomkafimhaaGreatG01
import Derived.Test.YtfblnomkafimhaaGreatG04
import Derived.RegionTactic
import Derived.Sort.Grow
import Derived.Deep.Draws
set_option linter.unusedSimpArgs false
set_option linter.unusedVariables false
namespace Vw
set_option maxRecDepth 20000
open Chg

def inF (a d k : Nat) : Bool := a.testBit k && !d.testBit k
/-- any number as a node -/
def inN (a d : Nat) (n : Int) : Bool := decide (0 ≤ n ∧ n ≤ 5) && inF a d n.toNat
/-- the first k nodes that are members -/
def memK (a d : Nat) : Nat → List Int
  | 0 => []
  | k + 1 => memK a d k ++ if inF a d k then [(k : Int)] else []
def members (a d : Nat) : List Int := memK a d 6
/-- how many of a list are in another one, and how many are not -/
def withL (who : List Int) (l : List Int) : Nat := (l.filter fun m => who.contains m).length
def withoutL (who : List Int) (l : List Int) : Nat := (l.filter fun m => !who.contains m).length
def enough (a d : Nat) (who : List Int) : Bool := decide (withoutL who (members a d) < withL who (members a d))
def size2 (v : Nat × Nat) : Nat := cnt v.1 + cnt v.2
def name2 (v : Nat × Nat) : Nat := 64 * v.1 + v.2
def less (u v : Nat × Nat) : Bool := if size2 u = size2 v then decide (name2 u < name2 v) else decide (size2 u < size2 v)
def within2 (u v : Nat × Nat) : Bool := within u.1 v.1 && within u.2 v.2
def alike (l : List (Nat × Nat)) : Bool := l.all fun a => l.all fun b => within2 a b || within2 b a
/-- the last one in that order -/
def topStep (best v : Nat × Nat) : Nat × Nat := if less best v then v else best
def top : List (Nat × Nat) → Nat × Nat
  | [] => (0, 0)
  | v :: l => l.foldl topStep v
end Vw

namespace Vw
set_option maxRecDepth 20000
open Chg

theorem less_iff (u v : Nat × Nat) : less u v = true ↔ size2 u < size2 v ∨ (size2 u = size2 v ∧ name2 u < name2 v) := by
  unfold less
  split
  · rw [decide_eq_true_iff]; omega
  · rw [decide_eq_true_iff]; omega
theorem within_self_all : ∀ a : Fin 64, within a.1 a.1 = true := by decide +kernel
theorem within_self {a : Nat} (ha : a < 64) : within a a = true := within_self_all ⟨a, ha⟩
end Vw

namespace Vw
set_option maxRecDepth 20000
open Chg

def cmpI (x y : Int) : Int := if x < y then -1 else if y < x then 1 else 0
/-- below 0: the first goes ahead; 0: they are the same; above 0: it goes behind -/
def ordN (s t m n : Int) : Int := if cmpI s t = 0 then cmpI m n else cmpI s t
def ordV (u v : Nat × Nat) : Int := ordN (size2 u) (size2 v) (name2 u) (name2 v)
end Vw

namespace Go.Proofs.YtfblnomkafimhaaGreat.Chgw
set_option maxRecDepth 20000
open Go.RowKit
open Chg Vw

theorem less_r (u v : Nat × Nat) (hu : u.1 < 64 ∧ u.2 < 64) (hv : v.1 < 64 ∧ v.2 < 64) (w : World) : Calls Tryz.prog 38 #[vw u.1 u.2, vw v.1 v.2] w fun e w' => e = .returned (.bool (less u v)) ∧ Below w.heap.size w w' := by
  obtain ⟨a, d⟩ := u
  obtain ⟨b, c⟩ := v
  have ha : a < 64 := hu.1
  have hd : d < 64 := hu.2
  have hb : b < 64 := hv.1
  have hc : c < 64 := hv.2
  clear hu hv
  have HL : Hid (less (a, d) (b, c) = if cnt a + cnt d = cnt b + cnt c then decide (64 * a + d < 64 * b + c) else decide (cnt a + cnt d < cnt b + cnt c)) := Lib.hid rfl
  show Calls Tryz.prog 38 #[vw a d, vw b c] w _
  unfold vw
  go_enter Tryz.func38, Tryz.ntmps38
  go_wp2
  have V1 := Lib.hid (show Vx ((w.alloc (.cells #[.int .i64 (a : Int), .int .i64 (d : Int)] 26)).alloc (.cells #[.int .i64 (b : Int), .int .i64 (c : Int)] 26)) w.heap.size a d from hbe (hat _ _ _ rfl))
  have V2 := Lib.hid (show Vx ((w.alloc (.cells #[.int .i64 (a : Int), .int .i64 (d : Int)] 26)).alloc (.cells #[.int .i64 (b : Int), .int .i64 (c : Int)] 26)) (w.heap.size + 1) b c from hat _ _ _ (by simp))
  have HB := Lib.hid (bal (bal (Below.refl w.heap.size w) (Nat.le_refl _) (.cells #[.int .i64 (a : Int), .int .i64 (d : Int)] 26)) (Nat.le_refl _) (.cells #[.int .i64 (b : Int), .int .i64 (c : Int)] 26))
  generalize ((w.alloc (.cells #[.int .i64 (a : Int), .int .i64 (d : Int)] 26)).alloc (.cells #[.int .i64 (b : Int), .int .i64 (c : Int)] 26)) = w1 at V1 V2 HB ⊢
  have HK : Hid (∀ W', Below w1.heap.size w1 W' → (W'.cell? ⟨w.heap.size, 0, none⟩ = some (.int .i64 (a : Int)) ∧ W'.cell? ⟨w.heap.size, 1, none⟩ = some (.int .i64 (d : Int))) ∧ W'.cell? ⟨w.heap.size + 1, 0, none⟩ = some (.int .i64 (b : Int)) ∧ W'.cell? ⟨w.heap.size + 1, 1, none⟩ = some (.int .i64 (c : Int))) := Lib.hid (by
    intro W' h
    have V1 := V1.out.below h V1.out.lt
    have V2 := V2.out.below h V2.out.lt
    exact ⟨⟨V1.c0, V1.c1⟩, V2.c0, V2.c1⟩)
  clear V1 V2
  obtain ⟨k1, hk1⟩ : ∃ k1, cnt a + cnt d = k1 := ⟨_, rfl⟩
  obtain ⟨k2, hk2⟩ : ∃ k2, cnt b + cnt c = k2 := ⟨_, rfl⟩
  obtain ⟨m1, hm1⟩ : ∃ m1, 64 * a + d = m1 := ⟨_, rfl⟩
  obtain ⟨m2, hm2⟩ : ∃ m2, 64 * b + c = m2 := ⟨_, rfl⟩
  rw [hk1, hk2, hm1, hm2] at HL
  have K1 := Lib.hid hk1; have K2 := Lib.hid hk2; have M1 := Lib.hid hm1; have M2 := Lib.hid hm2
  clear hk1 hk2 hm1 hm2
  refine wp_region_held_drew (S := fun W' => Below w1.heap.size w1 W') (by kernel_rfl) (Below.refl _ _).drew (fun hHeld => ?_)
  generalize w1.drew = w2 at hHeld ⊢
  have HB2 : Hid (Below w1.heap.size w1 w2) := hHeld
  clear hHeld
  refine take_in (i := 0) (oi := ⟨_, _, _, _, _, _⟩) (v := ?_) rfl (by kernel_rfl) (by kernel_rfl) (by kernel_rfl) (fun _ _ _ h => h) (by rfl) ?_ HB2.out ?_
  rotate_left
  · intro W hW; have hq := HK.out W hW; go_simp; with_reducible rfl
  simp only [Act.put, List.setIfInBounds_toArray, List.set_cons_zero, List.set_cons_succ]
  refine take_in (i := 2) (oi := ⟨_, _, _, _, _, _⟩) (v := ?_) rfl (by kernel_rfl) (by kernel_rfl) (by kernel_rfl) (fun _ _ _ h => h) (by rfl) ?_ HB2.out ?_
  rotate_left
  · intro W hW; have hq := HK.out W hW; go_simp; with_reducible rfl
  simp only [Act.put, List.setIfInBounds_toArray, List.set_cons_zero, List.set_cons_succ]
  refine wpAnyH_ready (rs := [1]) (by kernel_rfl) (by simp) ?_
  refine AllReadyH.cons (o := ⟨_, _, _, _, _, _⟩) rfl (fun K hK => ?_) AllReadyH.nil
  go_simp
  refine (size_r a d ha hd _).mono ?_
  rw [K1.out]
  rintro e w3 ⟨rfl, hb3⟩
  have HB3 := Lib.hid (HB2.out.trans (hb3.mono HB2.out.size)); clear hb3
  refine hK.out _ _ HB3.out (fun _ => ?_)
  clear hK K
  refine wpAnyH_ready (rs := [3]) (by kernel_rfl) (by simp) ?_
  refine AllReadyH.cons (o := ⟨_, _, _, _, _, _⟩) rfl (fun K hK => ?_) AllReadyH.nil
  go_simp
  refine (size_r b c hb hc _).mono ?_
  rw [K2.out]
  rintro e w4 ⟨rfl, hb4⟩
  have HB4 := Lib.hid (HB3.out.trans (hb4.mono HB3.out.size)); clear hb4
  refine hK.out _ _ HB4.out (fun _ => ?_)
  clear hK K
  refine take_in (i := 4) (oi := ⟨_, _, _, _, _, _⟩) (v := ?_) rfl (by kernel_rfl) (by kernel_rfl) (by kernel_rfl) (fun _ _ _ h => h) (by rfl) ?_ HB4.out ?_
  rotate_left
  · intro W hW; go_simp; with_reducible rfl
  simp only [Act.put, List.setIfInBounds_toArray, List.set_cons_zero, List.set_cons_succ]
  refine wpAnyH_done (by kernel_rfl) ?_ _
  by_cases hk : k1 = k2
  · subst hk
    rw [if_pos rfl] at HL
    go_wp2
    refine wp_region_held_drew (S := fun W' => Below w1.heap.size w1 W') (by kernel_rfl) HB4.out.drew (fun hHeld => ?_)
    generalize w4.drew = w5 at hHeld ⊢
    have HB5 : Hid (Below w1.heap.size w1 w5) := hHeld
    clear hHeld
    refine take_in (i := 0) (oi := ⟨_, _, _, _, _, _⟩) (v := ?_) rfl (by kernel_rfl) (by kernel_rfl) (by kernel_rfl) (fun _ _ _ h => h) (by rfl) ?_ HB5.out ?_
    rotate_left
    · intro W hW; have hq := HK.out W hW; go_simp; with_reducible rfl
    simp only [Act.put, List.setIfInBounds_toArray, List.set_cons_zero, List.set_cons_succ]
    refine take_in (i := 2) (oi := ⟨_, _, _, _, _, _⟩) (v := ?_) rfl (by kernel_rfl) (by kernel_rfl) (by kernel_rfl) (fun _ _ _ h => h) (by rfl) ?_ HB5.out ?_
    rotate_left
    · intro W hW; have hq := HK.out W hW; go_simp; with_reducible rfl
    simp only [Act.put, List.setIfInBounds_toArray, List.set_cons_zero, List.set_cons_succ]
    refine wpAnyH_ready (rs := [1]) (by kernel_rfl) (by simp) ?_
    refine AllReadyH.cons (o := ⟨_, _, _, _, _, _⟩) rfl (fun K hK => ?_) AllReadyH.nil
    go_simp
    refine (name_r a d ha hd _).mono ?_
    rw [M1.out]
    rintro e w6 ⟨rfl, hb6⟩
    have HB6 := Lib.hid (HB5.out.trans (hb6.mono HB5.out.size)); clear hb6
    refine hK.out _ _ HB6.out (fun _ => ?_)
    clear hK K
    refine wpAnyH_ready (rs := [3]) (by kernel_rfl) (by simp) ?_
    refine AllReadyH.cons (o := ⟨_, _, _, _, _, _⟩) rfl (fun K hK => ?_) AllReadyH.nil
    go_simp
    refine (name_r b c hb hc _).mono ?_
    rw [M2.out]
    rintro e w7 ⟨rfl, hb7⟩
    have HB7 := Lib.hid (HB6.out.trans (hb7.mono HB6.out.size)); clear hb7
    refine hK.out _ _ HB7.out (fun _ => ?_)
    clear hK K
    refine take_in (i := 4) (oi := ⟨_, _, _, _, _, _⟩) (v := ?_) rfl (by kernel_rfl) (by kernel_rfl) (by kernel_rfl) (fun _ _ _ h => h) (by rfl) ?_ HB7.out ?_
    rotate_left
    · intro W hW; go_simp; with_reducible rfl
    simp only [Act.put, List.setIfInBounds_toArray, List.set_cons_zero, List.set_cons_succ]
    refine take_in (i := 5) (oi := ⟨_, _, _, _, _, _⟩) (v := ?_) rfl (by kernel_rfl) (by kernel_rfl) (by kernel_rfl) (fun _ _ _ h => h) (by rfl) ?_ HB7.out ?_
    rotate_left
    · intro W hW; go_simp; with_reducible rfl
    simp only [Act.put, List.setIfInBounds_toArray, List.set_cons_zero, List.set_cons_succ]
    refine wpAnyH_done (by kernel_rfl) ?_ _
    go_wp2
    go_ret
    refine ⟨ret_bool ?_, HB.out.trans (HB7.out.mono HB.out.size)⟩
    rw [HL.out]
  · rw [if_neg hk] at HL
    have hne : ((k1 : Int) == (k2 : Int)) = false := by rw [beq_eq_false_iff_ne]; omega
    go_wp2
    refine wp_region_held_drew (S := fun W' => Below w1.heap.size w1 W') (by kernel_rfl) HB4.out.drew (fun hHeld => ?_)
    generalize w4.drew = w5 at hHeld ⊢
    have HB5 : Hid (Below w1.heap.size w1 w5) := hHeld
    clear hHeld
    refine take_in (i := 0) (oi := ⟨_, _, _, _, _, _⟩) (v := ?_) rfl (by kernel_rfl) (by kernel_rfl) (by kernel_rfl) (fun _ _ _ h => h) (by rfl) ?_ HB5.out ?_
    rotate_left
    · intro W hW; have hq := HK.out W hW; go_simp; with_reducible rfl
    simp only [Act.put, List.setIfInBounds_toArray, List.set_cons_zero, List.set_cons_succ]
    refine take_in (i := 2) (oi := ⟨_, _, _, _, _, _⟩) (v := ?_) rfl (by kernel_rfl) (by kernel_rfl) (by kernel_rfl) (fun _ _ _ h => h) (by rfl) ?_ HB5.out ?_
    rotate_left
    · intro W hW; have hq := HK.out W hW; go_simp; with_reducible rfl
    simp only [Act.put, List.setIfInBounds_toArray, List.set_cons_zero, List.set_cons_succ]
    refine wpAnyH_ready (rs := [1]) (by kernel_rfl) (by simp) ?_
    refine AllReadyH.cons (o := ⟨_, _, _, _, _, _⟩) rfl (fun K hK => ?_) AllReadyH.nil
    go_simp
    refine (size_r a d ha hd _).mono ?_
    rw [K1.out]
    rintro e w6 ⟨rfl, hb6⟩
    have HB6 := Lib.hid (HB5.out.trans (hb6.mono HB5.out.size)); clear hb6
    refine hK.out _ _ HB6.out (fun _ => ?_)
    clear hK K
    refine wpAnyH_ready (rs := [3]) (by kernel_rfl) (by simp) ?_
    refine AllReadyH.cons (o := ⟨_, _, _, _, _, _⟩) rfl (fun K hK => ?_) AllReadyH.nil
    go_simp
    refine (size_r b c hb hc _).mono ?_
    rw [K2.out]
    rintro e w7 ⟨rfl, hb7⟩
    have HB7 := Lib.hid (HB6.out.trans (hb7.mono HB6.out.size)); clear hb7
    refine hK.out _ _ HB7.out (fun _ => ?_)
    clear hK K
    refine take_in (i := 4) (oi := ⟨_, _, _, _, _, _⟩) (v := ?_) rfl (by kernel_rfl) (by kernel_rfl) (by kernel_rfl) (fun _ _ _ h => h) (by rfl) ?_ HB7.out ?_
    rotate_left
    · intro W hW; go_simp; with_reducible rfl
    simp only [Act.put, List.setIfInBounds_toArray, List.set_cons_zero, List.set_cons_succ]
    refine take_in (i := 5) (oi := ⟨_, _, _, _, _, _⟩) (v := ?_) rfl (by kernel_rfl) (by kernel_rfl) (by kernel_rfl) (fun _ _ _ h => h) (by rfl) ?_ HB7.out ?_
    rotate_left
    · intro W hW; go_simp; with_reducible rfl
    simp only [Act.put, List.setIfInBounds_toArray, List.set_cons_zero, List.set_cons_succ]
    refine wpAnyH_done (by kernel_rfl) ?_ _
    go_wp2
    go_ret
    refine ⟨ret_bool ?_, HB.out.trans (HB7.out.mono HB.out.size)⟩
    rw [HL.out]
end Go.Proofs.YtfblnomkafimhaaGreat.Chgw

namespace Go.Proofs.YtfblnomkafimhaaGreat.Chgw
set_option maxRecDepth 20000
open Go.RowKit
open Chg Vw

def okTwo (a b : Nat × Nat) : Bool := within2 a b || within2 b a
end Go.Proofs.YtfblnomkafimhaaGreat.Chgw

namespace Go.Proofs.YtfblnomkafimhaaGreat.Chgw
set_option maxRecDepth 20000
open Go.RowKit
open Chg Vw

theorem take_eq_more {α : Type} (l m : List α) (k : Nat) (x : α) (h1 : l[k]? = some x) (h2 : m[k]? = some x) (h : l.take k = m.take k) : l.take (k + 1) = m.take (k + 1) := by
  rw [List.take_add_one, List.take_add_one, h1, h2, h]


theorem same_r (A : Option Addr) (n c : Nat) (ls : List (Nat × Nat)) (hn : n = ls.length) (hl : n ≤ 140737488355328) (A1 : Option Addr) (n1 c1 : Nat) (ds : List (Nat × Nat)) (hn1 : n1 = ds.length) (B : Nat) (w : World)
    (hr : Rv w B A ls) (hr1 : Rv w B A1 ds) : Calls Tryz.prog 24 #[.slice A n c, .slice A1 n1 c1] w fun e w' => e = .returned (.bool (ls == ds)) ∧ ∃ k, w' = w.drewN k := by
  have heq := eq_view
  have HN := Lib.hid hn; have HN1 := Lib.hid hn1
  by_cases hlen : n = n1
  · subst hlen
    clear hn hn1
    have HR := Lib.hid hr; clear hr
    have HR1 := Lib.hid hr1; clear hr1
    go_enter Tryz.func24, Tryz.ntmps24
    go_wp2
    go_loopw [13] (fun i wr => ∃ k : Nat, i = .int .i64 k ∧ k ≤ n ∧ ls.take k = ds.take k ∧ ∃ q, wr = w.drewN q) (fun i _ => n - (intOf i).toNat)
    case atStart => exact ⟨0, rfl, by omega, rfl, 0, rfl⟩
    case round =>
      obtain ⟨k, rfl, hk, he, q, rfl⟩ := hrel
      have HE := Lib.hid he; clear he
      by_cases h : k < n
      · obtain ⟨b, o, rfl, _, hcell⟩ := HR.out (by rw [← HN.out]; omega)
        obtain ⟨b1, o1, rfl, _, hcell1⟩ := HR1.out (by rw [← HN1.out]; omega)
        have hkl : k < ls.length := by rw [← HN.out]; exact h
        have hkl1 : k < ds.length := by rw [← HN1.out]; exact h
        have hz : ls[k]? = some ls[k] := List.getElem?_eq_getElem hkl
        have hz1 : ds[k]? = some ds[k] := List.getElem?_eq_getElem hkl1
        have hc0 := hcell k ls[k] hz
        have hc1 := hcell1 k ds[k] hz1
        generalize ls[k] = z at hz hc0
        generalize ds[k] = z1 at hz1 hc1
        obtain ⟨za, zd⟩ := z
        obtain ⟨ya, yd⟩ := z1
        have a0 : w.cell? ⟨b, o + k * 2, none⟩ = some (.int .i64 (za : Int)) := hc0.1
        have a1 : w.cell? ⟨b, o + k * 2 + 1, none⟩ = some (.int .i64 (zd : Int)) := hc0.2
        have b0 : w.cell? ⟨b1, o1 + k * 2, none⟩ = some (.int .i64 (ya : Int)) := hc1.1
        have b1' : w.cell? ⟨b1, o1 + k * 2 + 1, none⟩ = some (.int .i64 (yd : Int)) := hc1.2
        have HZ := Lib.hid hz; have HZ1 := Lib.hid hz1
        clear hz hz1 hcell hcell1 hkl hkl1 hc0 hc1
        have ht : (k : Int) < (n : Int) := by omega
        have ht0 : (0 : Int) ≤ (k : Int) := by omega
        by_cases hzz : za = ya ∧ zd = yd
        · obtain ⟨rfl, rfl⟩ := hzz
          go_wp2
          go_quiet (fail)
          go_wp2
          exact ⟨⟨k + 1, by go_num, by omega, take_eq_more _ _ _ _ HZ.out HZ1.out HE.out, _, rfl⟩, by simp [intOf]; omega⟩
        · have hne : ((za : Int) == (ya : Int) && (zd : Int) == (yd : Int)) = false := by
            rw [Bool.eq_false_iff]
            intro e
            simp at e
            omega
          have HNE := Lib.hid hzz; clear hzz
          go_wp2
          go_quiet (fail)
          go_wp2
          go_ret
          refine ⟨ret_bool ?_, _, World.drewN_drewN _ _ _⟩
          symm
          rw [beq_eq_false_iff_ne]
          intro e
          have h1 := HZ.out
          rw [e, HZ1.out] at h1
          injection h1 with h1
          injection h1 with h1 h2
          exact HNE.out ⟨h1.symm, h2.symm⟩
      · go_wp2
        go_ret
        obtain rfl : k = n := by omega
        have := HE.out
        rw [List.take_of_length_le (by rw [← HN.out]; omega), List.take_of_length_le (by rw [← HN1.out]; omega)] at this
        exact ⟨ret_bool (by rw [this]; simp), q, rfl⟩
  · have HF : Hid ((ls == ds) = false) := Lib.hid (by rw [beq_eq_false_iff_ne]; rintro rfl; omega)
    have hne : ((n : Int) == (n1 : Int)) = false := by rw [beq_eq_false_iff_ne]; omega
    clear hr hr1 hn hn1
    go_enter Tryz.func24, Tryz.ntmps24
    go_wp2
    go_ret
    exact ⟨ret_bool HF.out.symm, 0, rfl⟩
end Go.Proofs.YtfblnomkafimhaaGreat.Chgw

namespace Go.Proofs.YtfblnomkafimhaaGreat.Chgw
set_option maxRecDepth 20000
open Go.RowKit
open Chg Vw

end Go.Proofs.YtfblnomkafimhaaGreat.Chgw

namespace Go.Proofs.YtfblnomkafimhaaGreat.Chgw
set_option maxRecDepth 20000
open Go.RowKit
open Chg Vw

/-- some draws, and blocks behind: nothing else has turned -/
def Gr (w w' : World) : Prop := ∃ q os, w' = Sort.grow (w.drewN q) os
theorem Gr.refl (w : World) : Gr w w := ⟨0, #[], by rw [Sort.grow_empty]; rfl⟩
theorem Gr.alloc {w w' : World} (h : Gr w w') (o : Obj) : Gr w (w'.alloc o) := by
  obtain ⟨q, os, rfl⟩ := h
  exact ⟨q, os ++ #[o], by rw [Sort.alloc_eq_grow, Sort.grow_grow]⟩
theorem Gr.trans {a b c : World} (h : Gr a b) (k : Gr b c) : Gr a c := by
  obtain ⟨q, os, rfl⟩ := h
  obtain ⟨q2, os2, rfl⟩ := k
  exact ⟨q + q2, os ++ os2, by
    show Sort.grow (Sort.grow ((a.drewN q).drewN q2) os) os2 = _
    rw [Sort.grow_grow, World.drewN_drewN]⟩
theorem Gr.drew {w w' : World} (h : Gr w w') : Gr w w'.drew := h.trans ⟨1, #[], by rw [Sort.grow_empty]; rfl⟩
theorem Gr.drewN {w w' : World} (h : Gr w w') (k : Nat) : Gr w (w'.drewN k) := h.trans ⟨k, #[], by rw [Sort.grow_empty]⟩
theorem Gr.below {w w' : World} (h : Gr w w') : Below w.heap.size w w' := by
  obtain ⟨q, os, rfl⟩ := h
  exact ⟨rfl, rfl, rfl, by rw [Sort.size_grow]; exact Nat.le_add_right _ _, fun k hk => Sort.heap_grow_old _ os hk⟩
theorem isnan_c (x : Int) (w : World) : Calls Tryz.prog 156 #[.int .i64 x] w fun e w' => e = .returned (.bool false) ∧ w = w' := by
  go_enter Tryz.func156, Tryz.ntmps156
  go_wp2
  go_ret
  exact ⟨by simp, rfl⟩
theorem cmp_c (x y : Int) (w : World) : Calls Tryz.prog 118 #[.int .i64 x, .int .i64 y] w fun e w' => e = .returned (.int .i64 (cmpI x y)) ∧ w = w' := by
  obtain ⟨r, hr⟩ : ∃ r, r = cmpI x y := ⟨_, rfl⟩
  rw [← hr]
  have HR := Lib.hid hr; clear hr
  unfold cmpI at HR
  go_enter Tryz.func118, Tryz.ntmps118
  go_wp2_with (first | (go_at_call 156; refine (isnan_c _ _).mono ?_; rintro e w' ⟨rfl, rfl⟩))
  · rename_i h
    go_ret
    refine ⟨ret_i64 ?_, rfl⟩
    rw [HR.out, if_pos h]
  · rename_i h1 h2
    go_ret
    refine ⟨ret_i64 ?_, rfl⟩
    rw [HR.out, if_neg (by omega), if_pos h2]
  · rename_i h1 h2
    go_ret
    refine ⟨ret_i64 ?_, rfl⟩
    rw [HR.out, if_neg (by omega), if_neg (by omega)]
end Go.Proofs.YtfblnomkafimhaaGreat.Chgw
