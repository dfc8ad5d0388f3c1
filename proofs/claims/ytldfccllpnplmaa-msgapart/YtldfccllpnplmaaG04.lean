/- Contracts and words on which the claims of this seat stand, part 4: ChgR ChgS ChgM ChgN ChgO ChgJ ChgW ChgC. -/
import Derived.Test.YtldfccllpnplmaaG01
import Derived.BigQuiet
import Derived.Deep.QuietTactic
import Derived.WalkSpells
import Derived.Handy
import Derived.Deep.DeepCutAuto
import Derived.Laws.StructEq
set_option linter.unusedSimpArgs false
set_option linter.unusedVariables false
namespace Go.Proofs.Ytldfccllpnplmaa.Chgw
set_option maxRecDepth 20000
open Go.RowKit
open Chg

theorem bal {B : Nat} {w0 w : World} (h : Below B w0 w) (hB : B ≤ w0.heap.size) (o : Obj) : Below B w0 (w.alloc o) := h.alloc (Nat.le_trans hB h.size) o

/-- a view as a value -/
def vw (a d : Int) : Value := .agg #[.int .i64 a, .int .i64 d]

def rightB (a d : Int) : Bool := decide (0 ≤ a ∧ a ≤ 63 ∧ 0 ≤ d ∧ d ≤ 63)
theorem ret_bool {a b : Bool} (h : a = b) : Ending.returned (.bool a) = .returned (.bool b) := by rw [h]

theorem right_r (a d : Int) (w : World) : Calls Try.prog 33 #[vw a d] w fun e w' => e = .returned (.bool (rightB a d)) ∧ Below w.heap.size w w' := by
  unfold vw
  go_enter Try.func33, Try.ntmps33
  go_wp2
  all_goals go_ret
  all_goals refine ⟨ret_bool ?_, (Below.refl _ _).alloc (Nat.le_refl _) _⟩
  all_goals
    unfold rightB
    rw [Bool.eq_iff_iff]
    simp
    omega
theorem name_r (a d : Nat) (ha : a < 64) (hd : d < 64) (w : World) : Calls Try.prog 29 #[vw a d] w fun e w' => e = .returned (.int .i64 ((64 * a + d : Nat) : Int)) ∧ Below w.heap.size w w' := by
  unfold vw
  go_enter Try.func29, Try.ntmps29
  go_wp2
  go_ret
  exact ⟨rfl, (Below.refl _ _).alloc (Nat.le_refl _) _⟩
/-- the number whose lowest bits these are, the first k of them -/
def acc (l : List Bool) : Nat → Nat
  | 0 => 0
  | k + 1 => acc l k + if l.getD k false then 2 ^ k else 0
theorem acc_lt (l : List Bool) (k : Nat) : acc l k < 2 ^ k := by
  induction k with
  | zero => simp [acc]
  | succ k ih =>
    unfold acc
    rw [Nat.pow_succ]
    split <;> omega
theorem acc_six (f : Nat → Bool) : acc [f 0, f 1, f 2, f 3, f 4, f 5] 6 = setF f := by
  unfold setF
  simp [acc]
def arr6 (f : Nat → Bool) : Value := .agg #[.bool (f 0), .bool (f 1), .bool (f 2), .bool (f 3), .bool (f 4), .bool (f 5)]

end Go.Proofs.Ytldfccllpnplmaa.Chgw

namespace Go.Proofs.Ytldfccllpnplmaa.Chgw
set_option maxRecDepth 20000
open Go.RowKit
open Chg

/-- how many of the first k -/
def cntK (n : Nat) : Nat → Nat
  | 0 => 0
  | k + 1 => cntK n k + if n.testBit k then 1 else 0
theorem cntK_le (n k : Nat) : cntK n k ≤ k := by
  induction k with
  | zero => exact Nat.le_refl _
  | succ k ih => unfold cntK; split <;> omega
theorem cntK_six (n : Nat) : cntK n 6 = cnt n := by
  unfold cnt
  simp [cntK]

/-- two cells of a view, in a block of its own -/
def Vx (w : World) (g : Nat) (a d : Nat) : Prop := w.heap[g]? = some (.cells #[.int .i64 (a : Int), .int .i64 (d : Int)] 25)
theorem Vx.c0 {w : World} {g a d : Nat} (h : Vx w g a d) : w.cell? ⟨g, 0, none⟩ = some (.int .i64 (a : Int)) := by
  rw [cell_of_row _ _ _ _ _ _ h]; rfl
theorem Vx.c1 {w : World} {g a d : Nat} (h : Vx w g a d) : w.cell? ⟨g, 1, none⟩ = some (.int .i64 (d : Int)) := by
  rw [cell_of_row _ _ _ _ _ _ h]; rfl
theorem Vx.below {w w' : World} {g a d B : Nat} (h : Vx w g a d) (hb : Below B w w') (hg : g < B) : Vx w' g a d := (hb.block g hg).trans h

end Go.Proofs.Ytldfccllpnplmaa.Chgw

namespace Go.Proofs.Ytldfccllpnplmaa.Chgw
set_option maxRecDepth 20000
open Go.RowKit
open Chg

/-- six cells of an array, in a block of its own -/
def cells6 (f : Nat → Bool) : Array Value := #[.bool (f 0), .bool (f 1), .bool (f 2), .bool (f 3), .bool (f 4), .bool (f 5)]
theorem Vx.other {w : World} {g a d : Nat} (h : Vx w g a d) {p : Addr} (hp : g ≠ p.block) (u : Value) : Vx (w.setCell p u) g a d := (Below.heap_setCell w p u g hp).trans h
theorem Vx.lt {w : World} {g a d : Nat} (h : Vx w g a d) : g < w.heap.size := by
  rcases Nat.lt_or_ge g w.heap.size with h' | h'
  · exact h'
  · unfold Vx at h; rw [Array.getElem?_eq_none h'] at h; cases h

theorem Vx.put {w : World} {g a d : Nat} (h : Vx w g a d) (a' d' : Nat) : Vx ((w.setCell ⟨g, 0, none⟩ (.int .i64 (a' : Int))).setCell ⟨g, 1, none⟩ (.int .i64 (d' : Int))) g a' d' := by
  unfold Vx
  rw [heap_setCell_same _ g 1 _ _ _ (heap_setCell_same w g 0 _ _ _ h)]
  rfl
theorem results_view {fn : Func} {t : Tmp} (h : fn.results = #[.cell t 25]) {tmps : Array Value} {w : World} {g a d : Nat} (hp : tmps.getD t undef = .pointer (some ⟨g, 0, none⟩)) (hv : Vx w g a d) : (results fn tmps).run Try.prog w = .ok (vw a d) w := by
  have h0 := hv.c0
  have h1 := hv.c1
  have u3 := Try.sizeOf25
  have hp' : tmps[t]?.getD undef = .pointer (some ⟨g, 0, none⟩) := by rw [← hp, Array.getD_eq_getD_getElem?]
  unfold results vw
  simp only [h]
  simp [hp', go_sem, h0, h1]
theorem results_view2 {fn : Func} {t u : Tmp} (h : fn.results = #[.cell t 25, .tmp u]) {tmps : Array Value} {w : World} {g a d : Nat} {x : Value} (hp : tmps.getD t undef = .pointer (some ⟨g, 0, none⟩)) (hx : tmps.getD u undef = x) (hv : Vx w g a d) : (results fn tmps).run Try.prog w = .ok (.tuple #[vw a d, x]) w := by
  have h0 := hv.c0
  have h1 := hv.c1
  have u3 := Try.sizeOf25
  have hp' : tmps[t]?.getD undef = .pointer (some ⟨g, 0, none⟩) := by rw [← hp, Array.getD_eq_getD_getElem?]
  have hx' : tmps[u]?.getD undef = x := by rw [← hx, Array.getD_eq_getD_getElem?]
  unfold results vw
  simp only [h]
  simp [hp', hx', go_sem, h0, h1]
theorem hat (w : World) (o : Obj) (g : Nat) (hg : g = w.heap.size) : (w.alloc o).heap[g]? = some o := by
  subst hg
  exact heap_alloc_new w o
theorem hbe {w : World} {o x : Obj} {g : Nat} (h : w.heap[g]? = some x) : (w.alloc o).heap[g]? = some x := by
  rw [Below.heap_alloc w o g ?_]
  · exact h
  · rcases Nat.lt_or_ge g w.heap.size with h' | h'
    · exact h'
    · rw [Array.getElem?_eq_none h'] at h; cases h

theorem eq_view (a b c d : Int) (w : World) : (Op.equalIn 10000 25 (.agg #[.int .i64 a, .int .i64 b]) (.agg #[.int .i64 c, .int .i64 d])).run Try.prog w = .ok (a == c && b == d) w := by
  have u3 := Try.underlying3
  have a3 := Try.isAgg3
  have z3 := Try.sizeOf3
  have hS : Try.prog.underlying 25 = some (.struct (Try.prog.fieldsOf 25)) := by kernel_rfl
  rw [show (10000 : Nat) = 9999 + 1 from rfl, run_equalIn_agg w 9999 25 _ _ hS (by kernel_rfl)]
  simp only [Program.fieldsOf, Try.underlying25]
  go_simp
  by_cases h1 : a = c <;> by_cases h2 : b = d <;> simp [h1, h2]
end Go.Proofs.Ytldfccllpnplmaa.Chgw

namespace Go.Proofs.Ytldfccllpnplmaa.Chgw
set_option maxRecDepth 20000
open Go.RowKit
open Chg

def withinV (a d b c : Nat) : Bool := within a b && within d c

/-- the set of a name -/
def namedF (n : Int) : Option (Nat × Nat) := if 0 ≤ n ∧ n < 4096 then some (n.toNat / 64, n.toNat % 64) else none
/-- a set and the error's number, whichever way it ends -/
def gv (o : Option (Nat × Nat)) : Nat × Nat := o.getD (0, 0)
def ge (o : Option (Nat × Nat)) : Int := if o.isSome then 0 else 41
def RetV (w : World) (o : Option (Nat × Nat)) (e : Ending) (w' : World) : Prop := e = .returned (.tuple #[vw (gv o).1 (gv o).2, .int .i64 (ge o)]) ∧ Below w.heap.size w w'

theorem named_r (n : Int) (hn : -9223372036854775808 ≤ n ∧ n ≤ 9223372036854775807) (w : World) : Calls Try.prog 49 #[.int .i64 n] w (RetV w (namedF n)) := by
  go_enter Try.func49, Try.ntmps49
  go_wp2
  go_loop [4] (fun i => ∃ k : Nat, i = .int .i64 k ∧ k ≤ 64 ∧ (0 ≤ n → 64 * (k : Int) ≤ n)) (fun i => 64 - (intOf i).toNat)
  case atStart => exact ⟨0, rfl, by omega, fun h => by omega⟩
  case round =>
    obtain ⟨k, rfl, hk, hlow⟩ := hrel
    by_cases h : k < 64
    · by_cases h1 : 64 * (k : Int) ≤ n
      · by_cases h2 : n ≤ 64 * (k : Int) + 63
        · have HF : Hid (namedF n = some (k, (n - 64 * (k : Int)).toNat)) := Lib.hid (by
            unfold namedF
            rw [if_pos (by omega)]
            congr 2 <;> omega)
          clear hlow
          go_wp2
          refine bodyPost_ret (results_view2 (g := w.heap.size) (a := k) (d := (n - 64 * (k : Int)).toNat) rfl rfl rfl ?_) rfl ?_
          · have e : ((n - 64 * (k : Int)).toNat : Int) = n - 64 * (k : Int) := by omega
            unfold Vx
            rw [e]
            exact heap_alloc_new w _
          · unfold RetV
            rw [HF.out]
            exact ⟨rfl, bal (Below.refl _ _) (Nat.le_refl _) _⟩
        · clear hlow
          go_wp2
          exact ⟨⟨k + 1, by go_num, by omega, fun _ => by omega⟩, by simp [intOf]; omega⟩
      · have hneg : n < 0 := by omega
        clear hlow
        go_wp2
        exact ⟨⟨k + 1, by go_num, by omega, fun _ => by omega⟩, by simp [intOf]; omega⟩
    · have HF : Hid (namedF n = none) := Lib.hid (by
        unfold namedF
        rw [if_neg (by omega)])
      clear hlow
      go_wp2
      refine bodyPost_ret (results_view2 (g := w.heap.size) (a := 0) (d := 0) rfl rfl rfl (heap_alloc_new w _)) rfl ?_
      unfold RetV
      rw [HF.out]
      exact ⟨rfl, bal (Below.refl _ _) (Nat.le_refl _) _⟩
end Go.Proofs.Ytldfccllpnplmaa.Chgw

namespace Go.Proofs.Ytldfccllpnplmaa.Chgw
set_option maxRecDepth 20000
open Go.RowKit
open Chg

def okN (z : Int) : Bool := decide (0 ≤ z ∧ z ≤ 5)
def hasN (l : List Int) (i : Nat) : Bool := l.any fun z => z == (i : Int)
def ofF (adds dels : List Int) : Option (Nat × Nat) := if adds.all okN && dels.all okN then some (setF (hasN adds), setF (hasN dels)) else none
theorem hasN_take (l : List Int) (k m : Nat) (h : l[k]? = some (m : Int)) (i : Nat) : (if i = m then true else hasN (l.take k) i) = hasN (l.take (k + 1)) i := by
  unfold hasN
  rw [List.take_add_one, h, List.any_append]
  by_cases hi : i = m
  · subst hi; simp
  · rw [if_neg hi]
    have : ((m : Int) == (i : Int)) = false := by rw [beq_eq_false_iff_ne]; omega
    simp [this]
theorem ofF_bad_adds {adds dels : List Int} {k : Nat} {z : Int} (h : adds[k]? = some z) (hz : okN z = false) : ofF adds dels = none := by
  unfold ofF
  have : adds.all okN = false := by
    rw [List.all_eq_false]
    exact ⟨z, List.mem_of_getElem? h, by rw [hz]; simp⟩
  rw [this]
  rfl
theorem ofF_bad_dels {adds dels : List Int} {k : Nat} {z : Int} (h : dels[k]? = some z) (hz : okN z = false) : ofF adds dels = none := by
  unfold ofF
  have : dels.all okN = false := by
    rw [List.all_eq_false]
    exact ⟨z, List.mem_of_getElem? h, by rw [hz]; simp⟩
  rw [this, Bool.and_false]
  rfl
theorem all_take_succ (l : List Int) (k : Nat) (z : Int) (h : l[k]? = some z) (hz : okN z = true) (ha : (l.take k).all okN = true) : (l.take (k + 1)).all okN = true := by
  rw [List.take_add_one, h, List.all_append, ha]
  simp [hz]

end Go.Proofs.Ytldfccllpnplmaa.Chgw

namespace Go.Proofs.Ytldfccllpnplmaa.Chgw
set_option maxRecDepth 20000
open Go.RowKit
open Chg

/-- the address A leads to these views, two cells each, in a block below B -/
def Rv (w : World) (B : Nat) (A : Option Addr) (vs : List (Nat × Nat)) : Prop :=
  0 < vs.length → ∃ b o, A = some ⟨b, o, none⟩ ∧ b < B ∧ ∀ j v, vs[j]? = some v → w.cell? ⟨b, o + j * 2, none⟩ = some (.int .i64 (v.1 : Int)) ∧ w.cell? ⟨b, o + j * 2 + 1, none⟩ = some (.int .i64 (v.2 : Int))
def anyA (vs : List (Nat × Nat)) (i : Nat) : Bool := vs.any fun v => v.1.testBit i
def anyD (vs : List (Nat × Nat)) (i : Nat) : Bool := vs.any fun v => v.2.testBit i
def joinF (vs : List (Nat × Nat)) : Nat × Nat := (setF (anyA vs), setF (anyD vs))
theorem anyA_take (vs : List (Nat × Nat)) (k : Nat) (v : Nat × Nat) (h : vs[k]? = some v) (i : Nat) : (anyA (vs.take k) i || v.1.testBit i) = anyA (vs.take (k + 1)) i := by
  unfold anyA
  rw [List.take_add_one, h, List.any_append]
  simp
theorem anyD_take (vs : List (Nat × Nat)) (k : Nat) (v : Nat × Nat) (h : vs[k]? = some v) (i : Nat) : (anyD (vs.take k) i || v.2.testBit i) = anyD (vs.take (k + 1)) i := by
  unfold anyD
  rw [List.take_add_one, h, List.any_append]
  simp
theorem or_step (f x : Nat → Bool) (j : Nat) (v : Bool) (hv : v = (f j || x j)) (i : Nat) : (if i = j then v else f i || (decide (i < j) && x i)) = (f i || (decide (i < j + 1) && x i)) := by
  by_cases hi : i = j
  · subst hi; rw [if_pos rfl, hv]; simp
  · rw [if_neg hi, show decide (i < j) = decide (i < j + 1) from decide_eq_decide.2 (by omega)]

end Go.Proofs.Ytldfccllpnplmaa.Chgw

namespace Go.Proofs.Ytldfccllpnplmaa.Chgw
set_option maxRecDepth 20000
open Go.RowKit
open Chg

theorem rdI_any (w : World) (zs : List Int) : Rd (w.alloc (.cells (zs.map (Value.int .i64)).toArray 3)) (w.heap.size + 1) (some ⟨w.heap.size, 0, none⟩) (zs.map (Value.int .i64)) := by
  intro _
  refine ⟨_, _, rfl, by omega, fun j u hu => ?_⟩
  rw [cell_of_row _ _ _ _ _ _ (heap_alloc_new w _)]
  simpa using hu
theorem rdI_at (w : World) (zs : List Int) (g : Nat) (hg : g = w.heap.size) : Rd (w.alloc (.cells (zs.map (Value.int .i64)).toArray 3)) (w.heap.size + 1) (some ⟨g, 0, none⟩) (zs.map (Value.int .i64)) := by
  subst hg
  exact rdI_any w zs
/-- two cells of a view of any numbers, in a block of its own -/
def Vi (w : World) (g : Nat) (a d : Int) : Prop := w.heap[g]? = some (.cells #[.int .i64 a, .int .i64 d] 25)
theorem Vi.c0 {w : World} {g : Nat} {a d : Int} (h : Vi w g a d) : w.cell? ⟨g, 0, none⟩ = some (.int .i64 a) := by
  rw [cell_of_row _ _ _ _ _ _ h]; rfl
theorem Vi.c1 {w : World} {g : Nat} {a d : Int} (h : Vi w g a d) : w.cell? ⟨g, 1, none⟩ = some (.int .i64 d) := by
  rw [cell_of_row _ _ _ _ _ _ h]; rfl
theorem Vi.lt {w : World} {g : Nat} {a d : Int} (h : Vi w g a d) : g < w.heap.size := by
  rcases Nat.lt_or_ge g w.heap.size with h' | h'
  · exact h'
  · unfold Vi at h; rw [Array.getElem?_eq_none h'] at h; cases h
theorem Vi.below {w w' : World} {g : Nat} {a d : Int} (h : Vi w g a d) (hb : Below w.heap.size w w') : Vi w' g a d := (hb.block g h.lt).trans h
theorem right_nat {a d : Int} (h : rightB a d = true) : ∃ m n : Nat, a = (m : Int) ∧ d = (n : Int) ∧ m < 64 ∧ n < 64 := by
  have := of_decide_eq_true h
  exact ⟨a.toNat, d.toNat, by omega, by omega, by omega, by omega⟩
def flat (vs : List (Nat × Nat)) : List Value := vs.flatMap fun v => [.int .i64 (v.1 : Int), .int .i64 (v.2 : Int)]
theorem flat_at : ∀ (vs : List (Nat × Nat)) (j : Nat) (v : Nat × Nat), vs[j]? = some v → (flat vs)[j * 2]? = some (.int .i64 (v.1 : Int)) ∧ (flat vs)[j * 2 + 1]? = some (.int .i64 (v.2 : Int))
  | [], _, _, h => by simp at h
  | x :: l, 0, v, h => by
    simp only [List.getElem?_cons_zero, Option.some.injEq] at h
    subst h
    exact ⟨rfl, rfl⟩
  | x :: l, j + 1, v, h => by
    have ih := flat_at l j v (by simpa using h)
    have e : flat (x :: l) = .int .i64 (x.1 : Int) :: .int .i64 (x.2 : Int) :: flat l := rfl
    rw [e, show (j + 1) * 2 = j * 2 + 1 + 1 by omega, show j * 2 + 1 + 1 + 1 = (j * 2 + 1) + 1 + 1 by omega]
    simpa using ih
theorem rv_new (w : World) (vs : List (Nat × Nat)) : Rv (w.alloc (.cells (flat vs).toArray 25)) (w.heap.size + 1) (some ⟨w.heap.size, 0, none⟩) vs := by
  intro _
  refine ⟨_, _, rfl, by omega, fun j v hv => ?_⟩
  have h := flat_at vs j v hv
  rw [cell_of_row _ _ _ _ _ _ (heap_alloc_new w _), cell_of_row _ _ _ _ _ _ (heap_alloc_new w _)]
  simpa using h
theorem Rv.below {w w' : World} {B : Nat} {A : Option Addr} {vs : List (Nat × Nat)} (h : Rv w B A vs) (hb : Below B w w') : Rv w' B A vs := by
  intro hn
  obtain ⟨b, o, e, hB, hc⟩ := h hn
  exact ⟨b, o, e, hB, fun j v hv => ⟨(hb.cell (p := ⟨b, o + j * 2, none⟩) hB).trans (hc j v hv).1, (hb.cell (p := ⟨b, o + j * 2 + 1, none⟩) hB).trans (hc j v hv).2⟩⟩
theorem Rv.more {w : World} {B B' : Nat} {A : Option Addr} {vs : List (Nat × Nat)} (h : Rv w B A vs) (hB : B ≤ B') : Rv w B' A vs := by
  intro hn
  obtain ⟨b, o, e, hb, hc⟩ := h hn
  exact ⟨b, o, e, by omega, hc⟩
theorem join2 (a d b c : Nat) (ha : a < 64) (hd : d < 64) (hb : b < 64) (hc : c < 64) : joinF [(a, d), (b, c)] = (a ||| b, d ||| c) := by
  unfold joinF
  rw [← setF_or a b ha hb, ← setF_or d c hd hc]
  congr 1
  · exact setF_congr (fun k _ => by simp [anyA])
  · exact setF_congr (fun k _ => by simp [anyD])
theorem join3 (a d b c f g : Nat) (ha : a < 64) (hd : d < 64) (hb : b < 64) (hc : c < 64) (hf : f < 64) (hg : g < 64) : joinF [(a, d), (b, c), (f, g)] = (a ||| b ||| f, d ||| c ||| g) := by
  unfold joinF
  rw [← setF_or (a ||| b) f (or_lt ha hb) hf, ← setF_or (d ||| c) g (or_lt hd hc) hg]
  congr 1
  · exact setF_congr (fun k _ => by simp [anyA, Bool.or_assoc])
  · exact setF_congr (fun k _ => by simp [anyD, Bool.or_assoc])
end Go.Proofs.Ytldfccllpnplmaa.Chgw

namespace Go.Proofs.Ytldfccllpnplmaa.Chgw
set_option maxRecDepth 20000
open Go.RowKit
open Chg

theorem ret_i64 {a b : Int} (h : a = b) : Ending.returned (.int .i64 a) = .returned (.int .i64 b) := by rw [h]
theorem ones64_c (x : Nat) (hx : x < 64) (w : World) : Calls Try.prog 98 #[.int .u64 (x : Int)] w fun e w' => e = .returned (.int .i64 ((cnt x : Nat) : Int)) ∧ w = w' := by
  go_enter Try.func98, Try.ntmps98
  go_wp2
  go_ret
  refine ⟨ret_i64 ?_, rfl⟩
  obtain ⟨y, rfl⟩ : ∃ y : Fin 64, x = y.val := ⟨⟨x, hx⟩, rfl⟩
  clear hx w
  revert y
  decide +kernel
theorem ones_c (x : Nat) (hx : x < 64) (w : World) : Calls Try.prog 95 #[.int .u64 (x : Int)] w fun e w' => e = .returned (.int .i64 ((cnt x : Nat) : Int)) ∧ w = w' := by
  go_enter Try.func95, Try.ntmps95
  go_wp2_with fail
  refine (ones64_c x hx _).mono ?_
  rintro e w2 ⟨rfl, rfl⟩
  go_wp2
  go_ret
  exact ⟨rfl, rfl⟩
theorem size_c (a d : Nat) (ha : a < 64) (hd : d < 64) (w : World) : Calls Try.prog 89 #[vw a d] w fun e w' => e = .returned (.int .i64 ((cnt a + cnt d : Nat) : Int)) ∧ Below w.heap.size w w' := by
  have hca := cnt_le a
  have hcd := cnt_le d
  unfold vw
  go_enter Try.func89, Try.ntmps89
  go_wp2_with fail
  go_quiet (first | (go_at_call 95; refine Calls.quiet_of_same ((ones_c _ ?_ _).mono fun _ _ h => ⟨h.1, h.2.symm⟩); assumption))
  go_wp2
  go_ret
  exact ⟨ret_i64 (by omega), (bal (Below.refl _ _) (Nat.le_refl _) _).trans ⟨rfl, rfl, rfl, Nat.le_refl _, fun _ _ => rfl⟩⟩
theorem rn_c (a : Int) (w : World) : Calls Try.prog 76 #[.int .i64 a] w fun e w' => e = .returned (.bool (decide (0 ≤ a ∧ a ≤ 63))) ∧ w = w' := by
  go_enter Try.func76, Try.ntmps76
  go_wp2
  all_goals go_ret
  all_goals refine ⟨ret_bool ?_, rfl⟩
  all_goals
    rw [Bool.eq_iff_iff]
    simp
    omega
theorem right_c (a d : Int) (w : World) : Calls Try.prog 55 #[vw a d] w fun e w' => e = .returned (.bool (rightB a d)) ∧ Below w.heap.size w w' := by
  unfold vw
  go_enter Try.func55, Try.ntmps55
  go_wp2_with fail
  refine (rn_c a _).mono ?_
  rintro e w2 ⟨rfl, rfl⟩
  by_cases h : 0 ≤ a ∧ a ≤ 63
  · rw [decide_eq_true h]
    go_wp2_with fail
    refine (rn_c d _).mono ?_
    rintro e w2 ⟨rfl, rfl⟩
    go_wp2
    go_ret
    refine ⟨ret_bool ?_, bal (Below.refl _ _) (Nat.le_refl _) _⟩
    unfold rightB
    rw [Bool.eq_iff_iff]
    simp
    omega
  · rw [decide_eq_false h]
    go_wp2
    go_ret
    refine ⟨ret_bool ?_, bal (Below.refl _ _) (Nat.le_refl _) _⟩
    unfold rightB
    rw [Bool.eq_iff_iff]
    simp
    omega
theorem name_c (a d : Nat) (ha : a < 64) (hd : d < 64) (w : World) : Calls Try.prog 80 #[vw a d] w fun e w' => e = .returned (.int .i64 ((64 * a + d : Nat) : Int)) ∧ Below w.heap.size w w' := by
  unfold vw
  go_enter Try.func80, Try.ntmps80
  go_wp2
  go_ret
  exact ⟨ret_i64 (by omega), bal (Below.refl _ _) (Nat.le_refl _) _⟩
theorem named_c (n : Int) (hn : -9223372036854775808 ≤ n ∧ n ≤ 9223372036854775807) (w : World) : Calls Try.prog 88 #[.int .i64 n] w (RetV w (namedF n)) := by
  go_enter Try.func88, Try.ntmps88
  by_cases h : 0 ≤ n ∧ n < 4096
  · have HF : Hid (namedF n = some (n.toNat / 64, n.toNat % 64)) := Lib.hid (by
      unfold namedF
      rw [if_pos h])
    obtain ⟨h1, h2⟩ := h
    go_wp2
    refine bodyPost_ret (results_view2 (g := w.heap.size) (a := n.toNat / 64) (d := n.toNat % 64) rfl rfl rfl ?_) rfl ?_
    · have e : ((n.toNat / 64 : Nat) : Int) = n / 64 := by omega
      have e2 : ((n.toNat % 64 : Nat) : Int) = n % 64 := by omega
      unfold Vx
      rw [e, e2]
      exact heap_alloc_new w _
    · unfold RetV
      rw [HF.out]
      exact ⟨rfl, bal (Below.refl _ _) (Nat.le_refl _) _⟩
  · have HF : Hid (namedF n = none) := Lib.hid (by
      unfold namedF
      rw [if_neg h])
    go_wp2
    all_goals refine bodyPost_ret (results_view2 (g := w.heap.size) (a := 0) (d := 0) rfl rfl rfl (heap_alloc_new w _)) rfl ?_
    all_goals
      unfold RetV
      rw [HF.out]
      exact ⟨rfl, bal (Below.refl _ _) (Nat.le_refl _) _⟩
theorem andnot64 (a b : Nat) (ha : a < 64) (hb : b < 64) : bits .andNot .i64 (a : Int) (b : Int) = ((minus a b : Nat) : Int) := by
  have h : ∀ a b : Fin 64, bits .andNot .i64 (a.val : Int) (b.val : Int) = ((minus a.val b.val : Nat) : Int) := by decide +kernel
  exact h ⟨a, ha⟩ ⟨b, hb⟩
theorem or64 (a b : Nat) (ha : a < 64) (hb : b < 64) : bits .or .i64 (a : Int) (b : Int) = ((a ||| b : Nat) : Int) := by
  have h : ∀ a b : Fin 64, bits .or .i64 (a.val : Int) (b.val : Int) = ((a.val ||| b.val : Nat) : Int) := by decide +kernel
  exact h ⟨a, ha⟩ ⟨b, hb⟩
theorem joinF_snoc (vs : List (Nat × Nat)) (k : Nat) (v : Nat × Nat) (h : vs[k]? = some v) (h1 : v.1 < 64) (h2 : v.2 < 64) : joinF (vs.take (k + 1)) = ((joinF (vs.take k)).1 ||| v.1, (joinF (vs.take k)).2 ||| v.2) := by
  have l1 := setF_lt (anyA (vs.take k))
  have l2 := setF_lt (anyD (vs.take k))
  show (setF (anyA (vs.take (k + 1))), setF (anyD (vs.take (k + 1)))) = (setF (anyA (vs.take k)) ||| v.1, setF (anyD (vs.take k)) ||| v.2)
  rw [← setF_or _ _ l1 h1, ← setF_or _ _ l2 h2]
  congr 1
  · exact setF_congr fun i hi => by rw [setF_bit _ i hi, anyA_take vs k v h]
  · exact setF_congr fun i hi => by rw [setF_bit _ i hi, anyD_take vs k v h]
theorem shl_w (m : Nat) (hm : m < 6) : wrap64 (2 ^ m) = (2 ^ m : Int) := by
  have h : ∀ m : Fin 6, wrap64 (2 ^ m.val) = (2 ^ m.val : Int) := by decide +kernel
  exact h ⟨m, hm⟩
theorem shl_or (m p : Nat) (hm : m < 6) (hp : p < 64) : bits .or .i64 (p : Int) (2 ^ m : Int) = ((p ||| 2 ^ m : Nat) : Int) := by
  have h : ∀ (p : Fin 64) (m : Fin 6), bits .or .i64 (p.val : Int) (2 ^ m.val : Int) = ((p.val ||| 2 ^ m.val : Nat) : Int) := by decide +kernel
  exact h ⟨p, hp⟩ ⟨m, hm⟩
theorem setF_hasN (ls : List Int) (k m : Nat) (hm : m < 6) (h : ls[k]? = some (m : Int)) : setF (hasN (ls.take (k + 1))) = setF (hasN (ls.take k)) ||| 2 ^ m := by
  have h2 : 2 ^ m < 64 := by
    obtain rfl | rfl | rfl | rfl | rfl | rfl : m = 0 ∨ m = 1 ∨ m = 2 ∨ m = 3 ∨ m = 4 ∨ m = 5 := by omega
    all_goals decide
  rw [← setF_or _ _ (setF_lt _) h2]
  refine setF_congr fun i hi => ?_
  rw [setF_bit _ i hi, ← hasN_take ls k m h, Nat.testBit_two_pow]
  by_cases e : i = m
  · subst e; simp
  · rw [if_neg e, decide_eq_false (fun x => e x.symm), Bool.or_false]
def nodesN (ls : List Int) : Nat := if ls.all okN then setF (hasN ls) else 0
end Go.Proofs.Ytldfccllpnplmaa.Chgw
