/- Contracts and words on which the claims of this seat stand, part 22: SortL ClF ClG ClA. -/
import Derived.Test.YtgbpfknmdpkacaaProg
import Derived.Test.YtgbpfknmdpkacaaG18
import Derived.Test.YtgbpfknmdpkacaaG19
import Derived.Test.YtgbpfknmdpkacaaG21
import Derived.Shelf.SlSortCmp.NoneTotal
import Derived.Lib.SliceRun
set_option linter.unusedSimpArgs false
set_option linter.unusedVariables false
namespace Go.Proofs
open Go.Shelf
def Ytgbpfknmdpkacaa.sortV_ren : Go.Shelf.Ren := ⟨fun | 6 => 26 | 15 => 37 | 14 => 36 | 28 => 54 | 29 => 55 | 20 => 46 | 21 => 47 | 22 => 48 | 23 => 49 | 24 => 50 | 25 => 51 | 26 => 52 | 27 => 53 | 46 => 58 | 47 => 59 | 48 => 60 | 49 => 61 | 50 => 62 | 57 => 64 | n => n, fun | 22 => 25 | 24 => 31 | 25 => 44 | 3 => 3 | 39 => 49 | 0 => 0 | 53 => 54 | 55 => 56 | 4 => 4 | 46 => 60 | 45 => 59 | 50 => 64 | 5 => 5 | 9 => 9 | 66 => 69 | 70 => 73 | 76 => 76 | 77 => 77 | n => n, fun | n => n⟩
theorem Ytgbpfknmdpkacaa.sortV : Go.Proofs.SlLaysF0.n6 Try.prog Ytgbpfknmdpkacaa.sortV_ren := {
  mixed := by kernel_rfl
  f6 := ⟨Try.f26.name, by decide, Try.func26.trans (congrArg some (by kernel_rfl))⟩
  f14 := ⟨Try.f36.name, by decide, Try.func36.trans (congrArg some (by kernel_rfl))⟩
  f15 := Try.func37.trans (congrArg some (by kernel_rfl))
  f20 := ⟨Try.f46.name, by decide, Try.func46.trans (congrArg some (by kernel_rfl))⟩
  f21 := ⟨Try.f47.name, by decide, Try.func47.trans (congrArg some (by kernel_rfl))⟩
  f22 := ⟨Try.f48.name, by decide, Try.func48.trans (congrArg some (by kernel_rfl))⟩
  f23 := ⟨Try.f49.name, by decide, Try.func49.trans (congrArg some (by kernel_rfl))⟩
  f24 := ⟨Try.f50.name, by decide, Try.func50.trans (congrArg some (by kernel_rfl))⟩
  f25 := ⟨Try.f51.name, by decide, Try.func51.trans (congrArg some (by kernel_rfl))⟩
  f26 := ⟨Try.f52.name, by decide, Try.func52.trans (congrArg some (by kernel_rfl))⟩
  f27 := ⟨Try.f53.name, by decide, Try.func53.trans (congrArg some (by kernel_rfl))⟩
  f28 := Try.func54.trans (congrArg some (by kernel_rfl))
  f29 := Try.func55.trans (congrArg some (by kernel_rfl))
  f46 := ⟨Try.f58.name, by decide, Try.func58.trans (congrArg some (by kernel_rfl))⟩
  f47 := Try.func59.trans (congrArg some (by kernel_rfl))
  f48 := Try.func60.trans (congrArg some (by kernel_rfl))
  f49 := ⟨Try.f61.name, by decide, Try.func61.trans (congrArg some (by kernel_rfl))⟩
  f50 := ⟨Try.f62.name, by decide, Try.func62.trans (congrArg some (by kernel_rfl))⟩
  f57 := ⟨Try.f64.name, by decide, Try.func64.trans (congrArg some (by kernel_rfl))⟩
  t0 := Try.underlying0
  a0 := Try.isAgg0
  z0 := Try.sizeOf0
  v0 := Try.zeroValue0
  t3 := Try.underlying3
  a3 := Try.isAgg3
  z3 := Try.sizeOf3
  v3 := Try.zeroValue3
  t4 := Try.underlying4
  a4 := Try.isAgg4
  z4 := Try.sizeOf4
  v4 := Try.zeroValue4
  t5 := Try.underlying5
  a5 := Try.isAgg5
  z5 := Try.sizeOf5
  v5 := Try.zeroValue5
  t9 := Try.underlying9
  a9 := Try.isAgg9
  z9 := Try.sizeOf9
  v9 := Try.zeroValue9
  t22 := Try.underlying25
  a22 := Try.isAgg25
  z22 := Try.sizeOf25
  v22 := Try.zeroValue25
  t25 := Try.underlying44
  a25 := Try.isAgg44
  z25 := Try.sizeOf44
  v25 := Try.zeroValue44
  t39 := Try.underlying49
  a39 := Try.isAgg49
  z39 := Try.sizeOf49
  v39 := Try.zeroValue49
  t45 := Try.underlying59
  a45 := Try.isAgg59
  z45 := Try.sizeOf59
  v45 := Try.zeroValue59
  t46 := Try.underlying60
  a46 := Try.isAgg60
  z46 := Try.sizeOf60
  v46 := Try.zeroValue60
  t50 := Try.underlying64
  a50 := Try.isAgg64
  z50 := Try.sizeOf64
  v50 := Try.zeroValue64
  t53 := Try.underlying54
  a53 := Try.isAgg54
  z53 := Try.sizeOf54
  v53 := Try.zeroValue54
  t55 := Try.underlying56
  a55 := Try.isAgg56
  z55 := Try.sizeOf56
  v55 := Try.zeroValue56
  t66 := Try.underlying69
  a66 := Try.isAgg69
  z66 := Try.sizeOf69
  v66 := Try.zeroValue69
  t70 := Try.underlying73
  a70 := Try.isAgg73
  z70 := Try.sizeOf73
  v70 := Try.zeroValue73
  t76 := Try.underlying76
  a76 := Try.isAgg76
  z76 := Try.sizeOf76
  v76 := Try.zeroValue76
  t77 := Try.underlying77
  a77 := Try.isAgg77
  z77 := Try.sizeOf77
  v77 := Try.zeroValue77 }
end Go.Proofs

namespace Go.Proofs.Ytgbpfknmdpkacaa.Clw
set_option maxRecDepth 20000
open Go.RowKit
open Chg Vw Cl
open Chgw (hat hbe ret_bool vw Vi Gr Vx)
open Rg (bal)

theorem vless_g (u v : V) (hu : u.1 < 64 ∧ u.2 < 64) (hv : v.1 < 64 ∧ v.2 < 64) (w : World) : Calls Try.prog 23 #[vw u.1 u.2, vw v.1 v.2] w fun e w' => e = .returned (.bool (less u v)) ∧ Gr w w' := by
  rw [← ordV_neg]
  obtain ⟨a, d⟩ := u
  obtain ⟨b, c⟩ := v
  have HO : Hid (∀ W, Calls Try.prog 33 #[vw a d, vw b c] W fun e w' => e = .returned (.int .i64 (ordV (a, d) (b, c))) ∧ Gr W w') := Lib.hid (fun W => Chgw.order_g (a, d) (b, c) hu hv W)
  clear hu hv
  generalize ordV (a, d) (b, c) = r at HO ⊢
  show Calls Try.prog 23 #[vw a d, vw b c] w _
  unfold vw
  go_enter Try.func23, Try.ntmps23
  go_wp2_with fail
  have HG := Lib.hid (((Gr.refl w).alloc (.cells #[.int .i64 (a : Int), .int .i64 (d : Int)] 31)).alloc (.cells #[.int .i64 (b : Int), .int .i64 (c : Int)] 31))
  refine (HO.out _).mono ?_
  rintro e w2 ⟨rfl, hg⟩
  have HG2 := Lib.hid (HG.out.trans hg); clear hg
  go_wp2
  go_ret
  exact ⟨rfl, HG2.out⟩
/-- below 0: the first goes ahead -/
def ordC (u v : V) : Int := if less u v then -1 else if less v u then 1 else 0
theorem ordC_neg (u v : V) : decide (ordC u v < 0) = less u v := by
  unfold ordC
  cases less u v with
  | true => rfl
  | false =>
    cases less v u <;> rfl
theorem cord_g (u v : V) (hu : u.1 < 64 ∧ u.2 < 64) (hv : v.1 < 64 ∧ v.2 < 64) (w : World) : Calls Try.prog 27 #[vw u.1 u.2, vw v.1 v.2] w fun e w' => e = .returned (.int .i64 (ordC u v)) ∧ Gr w w' := by
  have H1 : Hid (∀ W, Calls Try.prog 23 #[vw u.1 u.2, vw v.1 v.2] W fun e w' => e = .returned (.bool (less u v)) ∧ Gr W w') := Lib.hid (vless_g u v hu hv)
  have H2 : Hid (∀ W, Calls Try.prog 23 #[vw v.1 v.2, vw u.1 u.2] W fun e w' => e = .returned (.bool (less v u)) ∧ Gr W w') := Lib.hid (vless_g v u hv hu)
  have HR : Hid (ordC u v = if less u v then -1 else if less v u then 1 else 0) := Lib.hid rfl
  generalize ordC u v = r at HR ⊢
  clear hu hv
  obtain ⟨a, d⟩ := u
  obtain ⟨b, c⟩ := v
  generalize less (a, d) (b, c) = p at H1 HR
  generalize less (b, c) (a, d) = q at H2 HR
  unfold vw at H1 H2 ⊢
  simp only at H1 H2 ⊢
  go_enter Try.func27, Try.ntmps27
  go_wp2_with fail
  have V1 := Lib.hid (show Vx ((w.alloc (.cells #[.int .i64 (a : Int), .int .i64 (d : Int)] 31)).alloc (.cells #[.int .i64 (b : Int), .int .i64 (c : Int)] 31)) w.heap.size a d from hbe (hat _ _ _ rfl))
  have V2 := Lib.hid (show Vx ((w.alloc (.cells #[.int .i64 (a : Int), .int .i64 (d : Int)] 31)).alloc (.cells #[.int .i64 (b : Int), .int .i64 (c : Int)] 31)) (w.heap.size + 1) b c from hat _ _ _ (by simp))
  have HG := Lib.hid (((Gr.refl w).alloc (.cells #[.int .i64 (a : Int), .int .i64 (d : Int)] 31)).alloc (.cells #[.int .i64 (b : Int), .int .i64 (c : Int)] 31))
  generalize ((w.alloc (.cells #[.int .i64 (a : Int), .int .i64 (d : Int)] 31)).alloc (.cells #[.int .i64 (b : Int), .int .i64 (c : Int)] 31)) = w1 at V1 V2 HG ⊢
  refine (H1.out _).mono ?_
  rintro e w2 ⟨rfl, hg⟩
  have V1 := Lib.hid (V1.out.below hg.below V1.out.lt)
  have V2 := Lib.hid (V2.out.below hg.below V2.out.lt)
  have HG := Lib.hid (HG.out.trans hg); clear hg
  cases p with
  | true =>
    have HE := Lib.hid HR.out
    clear HR H1 H2
    go_wp2
    go_ret
    exact ⟨by rw [HE.out]; rfl, HG.out⟩
  | false =>
    have a0 := V1.out.c0; have a1 := V1.out.c1; have b0 := V2.out.c0; have b1 := V2.out.c1
    go_wp2_with fail
    refine (H2.out _).mono ?_
    rintro e w3 ⟨rfl, hg⟩
    have HG := Lib.hid (HG.out.trans hg); clear hg a0 a1 b0 b1
    have HE := Lib.hid HR.out
    clear HR H1 H2
    cases q with
    | true =>
      have HF := Lib.hid (show r = 1 from HE.out)
      clear HE
      go_wp2
      go_ret
      exact ⟨by rw [HF.out]; rfl, HG.out⟩
    | false =>
      have HF := Lib.hid (show r = 0 from HE.out)
      clear HE
      go_wp2
      go_ret
      exact ⟨by rw [HF.out]; rfl, HG.out⟩
def toVC (x : Fin 64 × Fin 64) : V := (x.1.1, x.2.1)
def encVC (x : Fin 64 × Fin 64) : List Value := [.int .i64 (x.1.1 : Int), .int .i64 (x.2.1 : Int)]
theorem toVC_lt (x : Fin 64 × Fin 64) : (toVC x).1 < 64 ∧ (toVC x).2 < 64 := ⟨x.1.2, x.2.2⟩
theorem of_smallC : ∀ (vs : List V), (∀ v ∈ vs, v.1 < 64 ∧ v.2 < 64) → ∃ ds : List (Fin 64 × Fin 64), vs = ds.map toVC
  | [], _ => ⟨[], rfl⟩
  | v :: l, h => by
    obtain ⟨ds, rfl⟩ := of_smallC l (fun x hx => h x (by simp [hx]))
    have hv := h v (by simp)
    exact ⟨(⟨v.1, hv.1⟩, ⟨v.2, hv.2⟩) :: ds, rfl⟩
/-- views in a row that may be written to -/
def Hv (w : World) (g o : Nat) (d : Array V) : Prop := ∀ j, j < d.size → (w.cell? ⟨g, o + j * 2, none⟩ = some (.int .i64 ((d[j]!).1 : Int)) ∧ w.cell? ⟨g, o + j * 2 + 1, none⟩ = some (.int .i64 ((d[j]!).2 : Int))) ∧ w.frozen? ⟨g, o + j * 2, none⟩ = false ∧ w.frozen? ⟨g, o + j * 2 + 1, none⟩ = false
theorem lt_ordC (x y : Fin 64 × Fin 64) : ltOf (fun x y : Fin 64 × Fin 64 => ordC (toVC x) (toVC y)) x y = less (toVC x) (toVC y) := ordC_neg _ _
theorem swo_ordC : Sort.SWO (ltOf fun x y : Fin 64 × Fin 64 => ordC (toVC x) (toVC y)) where
  irrefl x := by rw [lt_ordC, ← Bool.not_eq_true, less_iff]; omega
  trans x y z h1 h2 := by rw [lt_ordC, less_iff] at *; omega
  ntrans x y z h1 h2 := by rw [lt_ordC, ← Bool.not_eq_true, less_iff] at *; omega
theorem cmp_laysC (blk off size : Nat) (w : World) : CmpLays Try.prog 27 #[] encVC 2 (fun x y => ordC (toVC x) (toVC y)) blk off size w :=
  fun _ _ _ _ x y => cord_g (toVC x) (toVC y) (toVC_lt x) (toVC_lt y) _
theorem heap_putRowC (enc : Value → Value) (w : World) (blk off : Nat) (d : Array Value) (k : Nat) (h : k ≠ blk) : (Sort.putRow enc w blk off d).heap[k]? = w.heap[k]? := by
  unfold Sort.putRow Sort.mapBlock
  simp only [Array.getElem?_modify]
  rw [if_neg (by omega)]
theorem below_sortC (w : World) (blk off n : Nat) (d : Array (Fin 64 × Fin 64)) (os : Array Obj) (B : Nat) (hB : B ≤ blk) (hb : blk < w.heap.size) : Below B w (sortWorldK encVC 2 w blk off n d os) := by
  refine ⟨rfl, rfl, rfl, size_sortWorldK_c encVC 2 w blk off n d os, fun k hk => ?_⟩
  unfold sortWorldK
  rw [Sort.heap_grow_old _ os (by rw [Sort.size_putRowK]; show k < w.heap.size; omega)]
  exact heap_putRowC id _ blk off _ k (by omega)
theorem sort_own (g cap : Nat) (ds : List (Fin 64 × Fin 64)) (w : World) (hH : Sort.HoldsK encVC 2 w g 0 ds.toArray) (hg : g < w.heap.size) (hsz : ds.length < 4611686018427387904) :
    Calls Try.prog 26 #[.slice (some ⟨g, 0, none⟩) ds.length cap, .func (.func 27) #[] #[]] w fun e w' => e = .returned (.tuple #[]) ∧ ∃ m : Array V, m.size = ds.length ∧ m.toList.Perm (ds.map toVC) ∧ (∀ i, i + 1 < m.size → less (m[i + 1]!) (m[i]!) = false) ∧ Hv w' g 0 m ∧ Below g w w' := by
  have eg : ∀ args w, (callFunc 27 args).run Try.prog w = .ok (.enter 27 args) w := enters_of Try.func27 (by kernel_rfl) rfl
  have hcon := AnyQ.slices_SortFunc sortV 2 Try.isAgg31 Try.sizeOf31 encVC (fun _ => rfl) (fun x v hv => by simp [encVC] at hv; rcases hv with rfl | rfl <;> rfl) (fun x y => ordC (toVC x) (toVC y)) swo_ordC 27 #[] g 0 cap ds.toArray w eg (cmp_laysC g 0 _ w) hH hg (by simpa using hsz)
  change Calls Try.prog 26 _ _ _ at hcon
  rw [show ds.toArray.size = ds.length from List.size_toArray] at hcon
  refine hcon.mono ?_
  rintro e w' ⟨rfl, d', n, os, hp, hs, rfl⟩
  have hp1 : d'.size = ds.length := by have := hp.1; simpa using this
  have hp3 := hp.2.2
  have hH' := holdsK_sortWorldK_c encVC 2 w g 0 ds.toArray d' n os hH hg (by rw [List.size_toArray]; exact hp1)
  rw [Array.extract_eq_self_of_le (by omega), Array.extract_eq_self_of_le (by simp)] at hp3
  have hget : ∀ i, i < d'.size → (d'.map toVC)[i]! = toVC d'[i]! := by
    intro i hi
    rw [getElem!_pos (d'.map toVC) i (by simpa using hi), getElem!_pos d' i hi, Array.getElem_map]
  refine ⟨rfl, d'.map toVC, by simpa using hp1, ?_, ?_, ?_, below_sortC w g 0 n d' os g (Nat.le_refl _) hg⟩
  · rw [Array.toList_map]
    exact hp3.map toVC
  · intro i hi
    rw [Array.size_map] at hi
    rw [hget i (by omega), hget (i + 1) hi, ← lt_ordC]
    exact hs i (i + 1) (Nat.zero_le _) (by omega) (by omega)
  · intro j hj
    rw [Array.size_map] at hj
    rw [hget j hj]
    have h0 := hH'.cell hj (show 0 < 2 by omega)
    have h1 := hH'.cell hj (show 1 < 2 by omega)
    exact ⟨⟨h0.1, h1.1⟩, h0.2, h1.2⟩
section
variable {w : World} {g o : Nat} {d : Array V}
theorem Hv.drewN (h : Hv w g o d) (q : Nat) : Hv (w.drewN q) g o d := h
theorem Hv.set (h : Hv w g o d) (k : Nat) (hk : k < d.size) (u : V) : Hv ((w.setCell ⟨g, o + k * 2, none⟩ (.int .i64 (u.1 : Int))).setCell ⟨g, o + k * 2 + 1, none⟩ (.int .i64 (u.2 : Int))) g o (d.setIfInBounds k u) := by
  intro j hj
  rw [Array.size_setIfInBounds] at hj
  obtain ⟨⟨h1, h2⟩, h3, h4⟩ := h j hj
  refine ⟨?_, by simpa using h3, by simpa using h4⟩
  by_cases e : j = k
  · subst e
    rw [Sort.getElem!_set_same d j u hj]
    refine ⟨?_, ?_⟩
    · rw [World.cell?_setCell_other _ _ _ _ (by simp)]
      exact World.cell?_setCell_same _ _ _ h1
    · refine World.cell?_setCell_same (u := .int .i64 ((d[j]!).2 : Int)) _ _ _ ?_
      rw [World.cell?_setCell_other _ _ _ _ (by simp)]
      exact h2
  · rw [Sort.getElem!_set_other d k j u e]
    refine ⟨?_, ?_⟩
    · rw [World.cell?_setCell_other _ _ _ _ (by simp <;> omega), World.cell?_setCell_other _ _ _ _ (by simp <;> omega)]
      exact h1
    · rw [World.cell?_setCell_other _ _ _ _ (by simp <;> omega), World.cell?_setCell_other _ _ _ _ (by simp <;> omega)]
      exact h2
theorem Hv.rv (h : Hv w g o d) (hg : g < w.heap.size) : Chgw.Rv w w.heap.size (some ⟨g, o, none⟩) d.toList := by
  intro _
  refine ⟨g, o, rfl, hg, fun j v hv => ?_⟩
  rw [Array.getElem?_toList] at hv
  obtain ⟨hj, rfl⟩ := Array.getElem?_eq_some_iff.1 hv
  have := (h j hj).1
  rwa [getElem!_pos d j hj] at this
end
theorem below_setCells (B b : Nat) (hb : B ≤ b) : ∀ (vs : List Value) (o : Nat) (w0 w : World), Below B w0 w → Below B w0 (w.setCells b o vs)
  | [], _, _, _, h => h
  | v :: r, o, w0, w, h => below_setCells B b hb r (o + 1) w0 _ (h.setCell hb _)
/-- clear(s) of views -/
theorem run_clearV (w : World) (g o n c : Nat) (ty : TypeId) (hn : 0 < n) (hc : ∀ j, j < n * 2 → (w.cell? ⟨g, o + j, none⟩).isSome = true) (hf : ∀ j, j < n * 2 → w.frozen? ⟨g, o + j, none⟩ = false) :
    (Builtin.clear_ #[25] ty #[.slice (some ⟨g, o, none⟩) n c]).run Try.prog w = .ok (.tuple #[]) (w.setCells g o (Builtin.zeroCells #[.int .i64 0, .int .i64 0] n).toList) := by
  have hlen : (Builtin.zeroCells #[.int .i64 0, .int .i64 0] n).toList.length = n * 2 := by simp [Builtin.zeroCells]
  have hst := run_storeCells_cells (P := Try.prog) g o (Builtin.zeroCells #[.int .i64 0, .int .i64 0] n).toList 0 w (by rw [hlen]; simpa using hc) (by rw [hlen]; simpa using hf) (by
    intro v hv
    simp only [Builtin.zeroCells, Array.toList_map, List.mem_map] at hv
    obtain ⟨i, _, rfl⟩ := hv
    have : i % 2 = 0 ∨ i % 2 = 1 := by omega
    rcases this with h | h
    · rw [show i % (#[Value.int .i64 0, Value.int .i64 0] : Array Value).size = 0 from h]; rfl
    · rw [show i % (#[Value.int .i64 0, Value.int .i64 0] : Array Value).size = 1 from h]; rfl)
  simp only [Nat.add_zero] at hst
  have hz := Try.zeroValue31
  obtain ⟨m, rfl⟩ : ∃ m, n = m + 1 := ⟨n - 1, by omega⟩
  simp [Builtin.clear_, run_underlying Try.underlying25, hz, Value.cells, hst]
theorem HBQ2 {g : Nat} (w : World) (q : Nat) : Below g w (w.drewN q) := ⟨rfl, rfl, rfl, Nat.le_refl _, fun _ _ => rfl⟩
theorem keepsV (d : Array V) (k : Nat) (hk : 0 < k) : Lib.keeps d k = !(((d[k]!).1 : Int) == ((d[k - 1]!).1 : Int) && ((d[k]!).2 : Int) == ((d[k - 1]!).2 : Int)) := by
  unfold Lib.keeps
  have e : (d[k]! = d[k - 1]!) ↔ (((d[k]!).1 : Int) = ((d[k - 1]!).1 : Int) ∧ ((d[k]!).2 : Int) = ((d[k - 1]!).2 : Int)) := by rw [Prod.ext_iff]; omega
  have h0 : ¬ k = 0 := by omega
  by_cases h : d[k]! = d[k - 1]!
  · have := e.1 h
    simp [h0, h]
  · have h2 := fun hh => h (e.2 hh)
    rw [decide_eq_true (Or.inr h)]
    symm
    rw [Bool.not_eq_true', Bool.and_eq_false_iff, beq_eq_false_iff_ne, beq_eq_false_iff_ne]
    by_cases h3 : ((d[k]!).1 : Int) = ((d[k - 1]!).1 : Int)
    · exact Or.inr (fun h4 => h2 ⟨h3, h4⟩)
    · exact Or.inl h3
set_option maxHeartbeats 2000000 in
theorem compact_c (g o cap : Nat) (d : Array V) (w : World) (hH : Hv w g o d) (hsz : d.size ≤ 1000000) (hcap : d.size ≤ cap) :
    Calls Try.prog 28 #[.slice (some ⟨g, o, none⟩) d.size cap] w fun e w' => e = .returned (.slice (some ⟨g, o, none⟩) (Lib.compactUpTo d d.size).length cap) ∧ Hv w' g o (Lib.compactUpTo d d.size).toArray ∧ Below g w w' := by
  have heq := Chgw.eq_view
  have HH := Lib.hid hH; clear hH
  have HS : Hid (∀ q, (∀ j, j < d.size → Lib.keeps d j = true) → (Lib.compactUpTo d d.size).length = d.size ∧ Hv (w.drewN q) g o (Lib.compactUpTo d d.size).toArray) := Lib.hid (fun q hall => by
    have e : Lib.compactUpTo d d.size = d.toList := by rw [Lib.compactUpTo_all d _ hall, Lib.range_map_get]
    rw [e]
    exact ⟨by simp, by rw [Array.toArray_toList]; exact HH.out⟩)
  have HBQ : Hid (∀ q, Below g w (w.drewN q)) := Lib.hid (fun q => ⟨rfl, rfl, rfl, Nat.le_refl _, fun _ _ => rfl⟩)
  by_cases h2 : d.size < 2
  · have HA := Lib.hid (HS.out 0 (fun j hj => Lib.keeps_lt_one d j (by omega)))
    clear HS
    go_enter Try.func28, Try.ntmps28
    go_wp2
    go_ret
    exact ⟨by rw [HA.out.1]; rfl, HA.out.2, HBQ.out 0⟩
  go_enter Try.func28, Try.ntmps28
  go_wp2
  go_loopw [3] (fun i wr => ∃ k q : Nat, 1 ≤ k ∧ k ≤ d.size ∧ i = .int .i64 k ∧ wr = w.drewN q ∧ ∀ j, j < k → Lib.keeps d j = true) (fun i _ => d.size - (intOf i).toNat)
  case atStart => exact ⟨1, 0, Nat.le_refl _, by omega, rfl, rfl, Lib.keeps_lt_one d⟩
  case round =>
    obtain ⟨k, q, hk1, hk, rfl, rfl, hall⟩ := hrel
    have HA := Lib.hid hall; clear hall
    by_cases hlt : k < d.size
    · have hc := HH.out k hlt
      have hc' := HH.out (k - 1) (by omega)
      have HK := Lib.hid (keepsV d k (by omega))
      obtain ⟨⟨x0, x1⟩, _, _⟩ := hc
      obtain ⟨⟨y0, y1⟩, _, _⟩ := hc'
      generalize d[k]! = x at HK x0 x1
      generalize d[k - 1]! = y at HK y0 y1
      obtain ⟨xa, xd⟩ := x
      obtain ⟨ya, yd⟩ := y
      simp only at x0 x1 y0 y1
      have hw1 : IntKind.i64.wrap ((k : Int) - 1) = ((k - 1 : Nat) : Int) := by simp [IntKind.wrap, IntKind.bits, IntKind.signed]; omega
      have hk0 : (0 : Int) ≤ ((k : Int) - 1) := by omega
      have ht1 : ((k : Int) - 1).toNat = k - 1 := by omega
      cases hv : ((xa : Int) == (ya : Int) && (xd : Int) == (yd : Int)) with
      | false =>
        have HM : Hid (∀ j, j < k + 1 → Lib.keeps d j = true) := Lib.hid (fun j hj => by
          by_cases e : j = k
          · subst e; rw [HK.out, hv]; rfl
          · exact HA.out j (by omega))
        go_wp2
        go_quiet (fail)
        go_wp2
        exact ⟨⟨k + 1, _, by omega, by omega, by go_num, rfl, HM.out⟩, by simp [intOf]; omega⟩
      | true =>
        have HN : Hid (Lib.keeps d k = false) := Lib.hid (by rw [HK.out, hv]; rfl)
        go_wp2
        go_quiet (fail)
        go_wp2
        clear x0 x1 y0 y1 hv hw1 hk0 ht1
        go_loopw [3, 5] (fun s3 s5 wr => ∃ (kk k2 : Nat) (dk : Array V), s3 = .int .i64 kk ∧ s5 = .int .i64 k2 ∧ 1 ≤ k2 ∧ k + k2 ≤ d.size ∧ Hv wr g o dk ∧ Below g w wr ∧ Lib.CompInv d (k + k2) kk dk) (fun _ s5 _ => d.size - (k + (intOf s5).toNat))
        case atStart => exact ⟨k, 1, d, rfl, rfl, Nat.le_refl _, by omega, HH.out.drewN _, HBQ.out _, Lib.CompInv.start HA.out HN.out⟩
        case round =>
          obtain ⟨kk, k2, dk, rfl, rfl, hk2, hle, hhv, hbl, hinv⟩ := hrel
          have HV := Lib.hid hhv; have HB := Lib.hid hbl; have HI := Lib.hid hinv
          have hkk := hinv.lt
          have HDS := Lib.hid hinv.size
          have hkd : kk < dk.size := by rw [hinv.size]; omega
          clear hhv hbl hinv
          by_cases hlt2 : k + k2 < d.size
          · have hc := HV.out (k + k2) (by rw [HDS.out]; omega)
            have hc' := HV.out (k + k2 - 1) (by rw [HDS.out]; omega)
            have hcs := HV.out kk hkd
            rw [HI.out.high (k + k2) (by omega), show o + (k + k2) * 2 = o + k * 2 + k2 * 2 by omega] at hc
            rw [HI.out.high (k + k2 - 1) (by omega), show o + (k + k2 - 1) * 2 = o + k * 2 + (k2 - 1) * 2 by omega] at hc'
            have HK := Lib.hid (keepsV d (k + k2) (by omega))
            obtain ⟨⟨x0, x1⟩, _, _⟩ := hc
            obtain ⟨⟨y0, y1⟩, _, _⟩ := hc'
            obtain ⟨⟨s0, s1⟩, f0, f1⟩ := hcs
            have HX : Hid (∀ u : V, d[k + k2]! = u → Lib.keeps d (k + k2) = true → Lib.CompInv d (k + (k2 + 1)) (kk + 1) (dk.setIfInBounds kk u)) := Lib.hid (fun u hu hkp => by rw [← hu]; exact HI.out.keep hlt2 hkp)
            have HSK : Hid (Lib.keeps d (k + k2) = false → Lib.CompInv d (k + (k2 + 1)) kk dk) := Lib.hid (fun hkp => HI.out.skip hkp)
            have HX := Lib.hid (HX.out _ rfl)
            generalize d[k + k2]! = x at HK x0 x1 HX
            generalize d[k + k2 - 1]! = y at HK y0 y1
            generalize (dk[kk]!).1 = t0 at s0
            generalize (dk[kk]!).2 = t1 at s1
            obtain ⟨xa, xd⟩ := x
            obtain ⟨ya, yd⟩ := y
            simp only at x0 x1 y0 y1
            have hw1 : IntKind.i64.wrap ((k2 : Int) - 1) = ((k2 - 1 : Nat) : Int) := by simp [IntKind.wrap, IntKind.bits, IntKind.signed]; omega
            have hk0 : (0 : Int) ≤ ((k2 : Int) - 1) := by omega
            have ht1 : ((k2 : Int) - 1).toNat = k2 - 1 := by omega
            cases hv : ((xa : Int) == (ya : Int) && (xd : Int) == (yd : Int)) with
            | true =>
              have HM := Lib.hid (HSK.out (by rw [HK.out, hv]; rfl))
              clear HX HSK
              go_wp2
              go_quiet (fail)
              go_wp2
              exact ⟨⟨kk, k2 + 1, dk, rfl, by go_num, by omega, by omega, HV.out.drewN _, HB.out.trans (HBQ2 _ _), HM.out⟩, by simp [intOf]; omega⟩
            | false =>
              have HM := Lib.hid (HX.out (by rw [HK.out, hv]; rfl))
              clear HX HSK
              go_wp2
              go_quiet (fail)
              go_wp2
              exact ⟨⟨kk + 1, k2 + 1, dk.setIfInBounds kk (xa, xd), by go_num, by go_num, by omega, by omega, (HV.out.drewN _).set kk hkd (xa, xd), ((HB.out.trans (HBQ2 _ _)).setCell (Nat.le_refl _) _).setCell (Nat.le_refl _) _, HM.out⟩, by simp [intOf]; omega⟩
          · have hend : k + k2 = d.size := by omega
            have hI := HI.out
            rw [hend] at hI
            have HL := Lib.hid hI.len
            have HLW := Lib.hid hI.low
            have hcl : ∀ ty, (Builtin.clear_ #[25] ty #[.slice (some ⟨g, o + kk * 2, none⟩) (d.size - kk) (cap - kk)]).run Try.prog wr = .ok (.tuple #[]) (wr.setCells g (o + kk * 2) (Builtin.zeroCells #[.int .i64 0, .int .i64 0] (d.size - kk)).toList) :=
              fun ty => run_clearV wr g (o + kk * 2) (d.size - kk) (cap - kk) ty (by omega) (fun j hj => by
                have := HV.out (kk + j / 2) (by rw [HDS.out]; omega)
                rcases Nat.mod_two_eq_zero_or_one j with h' | h'
                · rw [show o + kk * 2 + j = o + (kk + j / 2) * 2 by omega, this.1.1]; rfl
                · rw [show o + kk * 2 + j = o + (kk + j / 2) * 2 + 1 by omega, this.1.2]; rfl) (fun j hj => by
                have := HV.out (kk + j / 2) (by rw [HDS.out]; omega)
                rcases Nat.mod_two_eq_zero_or_one j with h' | h'
                · rw [show o + kk * 2 + j = o + (kk + j / 2) * 2 by omega, this.2.1]
                · rw [show o + kk * 2 + j = o + (kk + j / 2) * 2 + 1 by omega, this.2.2])
            have HE : Hid (Hv (wr.setCells g (o + kk * 2) (Builtin.zeroCells #[.int .i64 0, .int .i64 0] (d.size - kk)).toList) g o (Lib.compactUpTo d d.size).toArray) := Lib.hid (fun j hj => by
              rw [List.size_toArray, HL.out] at hj
              have := HV.out j (by rw [HDS.out]; omega)
              have hlow := HLW.out j hj
              have e : (Lib.compactUpTo d d.size).toArray[j]! = dk[j]! := by
                rw [getElem!_pos _ j (by rw [List.size_toArray, HL.out]; exact hj)]
                rw [List.getElem?_eq_getElem (by rw [HL.out]; exact hj)] at hlow
                simpa using hlow
              rw [e, World.cell?_setCells_out _ _ _ _ _ (fun _ _ => Or.inl (by show o + j * 2 < _; omega)), World.cell?_setCells_out _ _ _ _ _ (fun _ _ => Or.inl (by show o + j * 2 + 1 < _; omega)), World.frozen?_setCells, World.frozen?_setCells]
              exact this)
            have HBE := Lib.hid (below_setCells g g (Nat.le_refl _) (Builtin.zeroCells #[.int .i64 0, .int .i64 0] (d.size - kk)).toList (o + kk * 2) w wr HB.out)
            clear hI
            generalize wr.setCells g (o + kk * 2) (Builtin.zeroCells #[.int .i64 0, .int .i64 0] (d.size - kk)).toList = wz at hcl HE HBE
            go_wp2
            go_ret
            exact ⟨by rw [HL.out]; rfl, HE.out, HBE.out⟩
    · obtain rfl : k = d.size := by omega
      have HE := Lib.hid (HS.out q HA.out)
      clear HS
      go_wp2
      go_ret
      exact ⟨by rw [HE.out.1]; rfl, HE.out.2, HBQ.out q⟩
end Go.Proofs.Ytgbpfknmdpkacaa.Clw

namespace Go.Proofs.Ytgbpfknmdpkacaa.Clw
set_option maxRecDepth 20000
open Go.RowKit
open Chg Vw Cl
open Chgw (hat hbe ret_bool vw Vi)
open Rg (bal)

theorem holds_own {w : World} {base g n c : Nat} {ds : List (Fin 64 × Fin 64)} (h : Rg.OwnG KV w base (some ⟨g, 0, none⟩) n c (ds.map toVC)) (cur : Array Value) (hh : w.heap[g]? = some (.cells cur 31)) : Sort.HoldsK encVC 2 w g 0 ds.toArray := by
  intro t ht
  rw [Sort.size_flatK, List.size_toArray] at ht
  rw [Sort.get_flatK _ _ _ t (by rw [List.size_toArray]; exact ht)]
  have hi : t / 2 < ds.length := by omega
  have hv : (ds.map toVC)[t / 2]? = some (toVC ds[t / 2]) := by rw [List.getElem?_map, List.getElem?_eq_getElem hi]; rfl
  have hd : ds.toArray[t / 2]! = ds[t / 2] := by rw [getElem!_pos ds.toArray (t / 2) (by simpa using hi)]; simp
  rw [hd]
  refine ⟨?_, frozen_of_row w g _ _ _ hh⟩
  have hf := Rg.flat_at KV (ds.map toVC) (t / 2) _ hv (t % 2) (by show t % 2 < 2; omega)
  generalize ds[t / 2] = x at hf ⊢
  have hk : KV.k = 2 := rfl
  rw [hk, show t / 2 * 2 + t % 2 = t by omega] at hf
  rcases Nat.mod_two_eq_zero_or_one t with h0 | h0
  · rw [h0] at hf ⊢
    have := h.2.cells (g := g) rfl t _ hf
    rw [Rg.add_at] at this
    exact this
  · rw [h0] at hf ⊢
    have := h.2.cells (g := g) rfl t _ hf
    rw [Rg.add_at] at this
    exact this
theorem compact_none (A : Option Addr) (c : Nat) (w : World) : Calls Try.prog 28 #[.slice A 0 c] w fun e w' => e = .returned (.slice A 0 c) ∧ w = w' := by
  go_enter Try.func28, Try.ntmps28
  go_wp2
  go_ret
  exact ⟨rfl, rfl⟩
/-- put in order -/
theorem sort_any (A : Option Addr) (n c base : Nat) (vs : List V) (hl : n ≤ 1000000) (h64 : ∀ v ∈ vs, v.1 < 64 ∧ v.2 < 64) (w : World) (h : Rg.OwnG KV w base A n c vs) :
    Calls Try.prog 26 #[.slice A n c, .func (.func 27) #[] #[]] w fun e w' => e = .returned (.tuple #[]) ∧ Below base w w' ∧ ((n = 0 ∧ vs = []) ∨ ∃ g, ∃ m : Array V, A = some ⟨g, 0, none⟩ ∧ base ≤ g ∧ g < w'.heap.size ∧ m.size = n ∧ m.toList.Perm vs ∧ (∀ i, i + 1 < m.size → less (m[i + 1]!) (m[i]!) = false) ∧ Hv w' g 0 m) := by
  rcases Nat.eq_zero_or_pos n with h0 | h0
  · subst h0
    have hv : vs = [] := List.eq_nil_of_length_eq_zero h.1.symm
    have hcon := AnyF.slices_SortFunc_none (P := Try.prog) (ρ := sortV_ren) { sortV with } A c (.func (.func 27) #[] #[]) w
    change Calls Try.prog 26 _ _ _ at hcon
    refine hcon.mono ?_
    rintro e w' ⟨rfl, rfl⟩
    exact ⟨rfl, Below.refl _ _, Or.inl ⟨rfl, hv⟩⟩
  · rcases h.2.2 with ⟨_, h1⟩ | ⟨g, cap, cur, e, hbg, hh, hcp, _⟩
    · omega
    · injection e with e1 e2 e3
      subst e1
      obtain ⟨ds, rfl⟩ := of_smallC vs h64
      have hn : n = ds.length := by have := h.1; rwa [List.length_map] at this
      subst hn
      have hlt := (h.2.lt g rfl).2
      refine (sort_own g c ds w (holds_own h cur hh) hlt (by omega)).mono ?_
      rintro e w' ⟨rfl, m, h1, h2, h3, h4, h5⟩
      exact ⟨rfl, h5.mono hbg, Or.inr ⟨g, m, rfl, hbg, Nat.lt_of_lt_of_le hlt h5.size, h1, h2, h3, h4⟩⟩
set_option maxHeartbeats 1000000 in
theorem changes_c (A : Option Addr) (n c : Nat) (es : List C) (w : World) (h1 : Sc w A n c es) (hcl : isCl es = true) : Calls Try.prog 10 #[.slice A n c] w (RetSrt w (chgs es)) := by
  have HN := Lib.hid h1.1; have HR := Lib.hid h1.2.2.2
  have hn6 : n ≤ 6 := by rw [h1.1]; exact cl_len hcl
  have H64 := Lib.hid (chgs_lt hcl)
  have HOK := Lib.hid (fun x hx => toV2_lt (isCl_mem hcl (x := x) hx))
  clear h1 hcl
  go_enter Try.func10, Try.ntmps10
  go_wp2
  go_loopw [3, 8] (fun x i wr => ∃ (A3 : Option Addr) (c3 k : Nat), x = .slice A3 k c3 ∧ i = .int .i64 k ∧ k ≤ n ∧ Rg.OwnG KV wr w.heap.size A3 k c3 (chgs (es.take k)) ∧ Below w.heap.size w wr) (fun _ i _ => n - (intOf i).toNat)
  case atStart => exact ⟨none, 0, 0, rfl, rfl, by omega, Rg.own_noneG KV _ _, Below.refl _ _⟩
  case round =>
    obtain ⟨A3, c3, k, rfl, rfl, hk, ho, hb⟩ := hrel
    have HB := Lib.hid hb; have HO := Lib.hid ho
    have hsz := hb.size
    clear hb ho
    by_cases h : k < n
    · obtain ⟨b, o, rfl, hbB, hcell⟩ := HR.out (by rw [← HN.out]; omega)
      have hkl : k < es.length := by rw [← HN.out]; exact h
      have hz : es[k]? = some es[k] := List.getElem?_eq_getElem hkl
      have hc0 := (tri_at (hcell k es[k] hz)).below HB.out hbB
      have hx4 := HOK.out es[k] (List.getElem_mem hkl)
      have HNT : Hid (chgs (es.take (k + 1)) = chgs (es.take k) ++ [toV2 es[k]]) := Lib.hid (by unfold chgs; rw [take_snocC hz, List.map_append]; rfl)
      generalize toV2 es[k] = v at hx4 HNT
      obtain ⟨va, vd⟩ := v
      obtain ⟨x0, x1, x2⟩ := hc0
      rw [show KC.k = 3 from rfl] at x0 x1 x2
      rw [← hx4.2.2.1] at x1
      rw [← hx4.2.2.2] at x2
      generalize es[k].1 = xk at x0
      clear hz hcell hkl hx4
      simp only at x1 x2
      go_wp2_with (at_builtin; refine Rg.wp_appG (K := KV) rfl (.tmp 12) (.tmp 15) rfl w.heap.size A3 k c3 _ rfl ((HO.out.alloc _).alloc _) _ _ 1 1 [(va, vd)] rfl rfl (one_vi_at _ _ va vd (by simp)) (by show _ * 16 ≤ _; omega) (Nat.le_trans HB.out.size (by simp; omega)) ?_; intro A4 c4 w9 ho4 hb4)
      refine ⟨⟨A4, c4, k + 1, rfl, by go_num, by omega, ?_, (bal (bal HB.out (Nat.le_refl _) _) (Nat.le_refl _) _).trans hb4⟩, by simp [intOf]; omega⟩
      rw [HNT.out]
      exact ho4
    · obtain rfl : k = n := by omega
      have HOF := Lib.hid (show Rg.OwnG KV wr w.heap.size A3 k c3 (chgs es) from by have := HO.out; rwa [List.take_of_length_le (by rw [← HN.out]; omega)] at this)
      have hkc := HOF.out.cap
      have hk1 : k ≤ 1000000 := by omega
      clear HO HR HN HOK
      go_wp2_with fail
      refine (sort_any A3 k c3 w.heap.size _ hk1 H64.out _ HOF.out).mono ?_
      rintro e w2 ⟨rfl, hb2, hr⟩
      have HB := Lib.hid (HB.out.trans hb2); clear hb2
      rcases hr with ⟨h0, hv⟩ | ⟨g, m, rfl, hbg, hgl, hm, hp, hs, hhv⟩
      · subst h0
        have HV := Lib.hid hv
        clear hv HOF
        go_wp2_with fail
        refine (compact_none A3 c3 _).mono ?_
        rintro e w3 ⟨rfl, rfl⟩
        go_wp2
        go_ret
        exact ⟨A3, 0, c3, [], rfl, by rw [HV.out]; exact srt_nil, ⟨rfl, Nat.zero_le _, by omega, fun h => by simp at h⟩, HB.out⟩
      · have HSR : Hid (Srt (chgs es) (Lib.compactUpTo m m.size)) := Lib.hid (Srt.perm (compact_srt m (fun j hj => by
          rw [getElem!_pos m j hj]
          exact H64.out _ (hp.mem_iff.1 (Array.getElem_mem_toList hj))) hs) hp)
        have HP := Lib.hid hp; have HHV := Lib.hid hhv
        clear hp hs hhv
        subst hm
        have hle : (Lib.compactUpTo m m.size).length ≤ m.size := by
          unfold Lib.compactUpTo
          rw [List.length_map]
          exact Nat.le_trans (List.length_filter_le _ _) (by rw [List.length_range]; exact Nat.le_refl _)
        have HLE := Lib.hid hle
        clear hle HOF
        go_wp2_with fail
        refine (compact_c g 0 c3 m _ HHV.out hk1 hkc).mono ?_
        rintro e w3 ⟨rfl, hv3, hb3⟩
        have HV3 := Lib.hid hv3
        have HB3 := Lib.hid hb3
        clear hv3 hb3
        generalize Lib.compactUpTo m m.size = q at HSR HLE HV3 ⊢
        go_wp2
        go_ret
        refine ⟨some ⟨g, 0, none⟩, q.length, c3, q, rfl, HSR.out, ⟨rfl, Nat.le_trans HLE.out hkc, by have := HLE.out; omega, ?_⟩, HB.out.trans (HB3.out.mono hbg)⟩
        have := HV3.out.rv (Nat.lt_of_lt_of_le hgl HB3.out.size)
        simpa using this
end Go.Proofs.Ytgbpfknmdpkacaa.Clw

namespace Go.Proofs.Ytgbpfknmdpkacaa.Clw
set_option maxRecDepth 20000
open Go.RowKit
open Chg Vw Cl
open Chgw (hat hbe ret_bool vw Vi)
open Rg (bal)

theorem merge_20 : mergeC [(2, 0, 1)] [(0, 0, 1)] = [(0, 0, 1), (2, 0, 1)] := by decide +kernel
theorem get_20 : getC [(0, 0, 1), (2, 0, 1)] 0 = (0, 0, 1) := by decide +kernel
theorem has_20 : hasC [(0, 0, 1), (2, 0, 1)] 0 = true := by decide +kernel
theorem chk_20 : isCl [(0, 0, 1), (2, 0, 1)] = true := by decide +kernel
theorem chk_00 : isCl [(0, 0, 0)] = false := by decide +kernel
theorem srt_20 (m : List V) (h : Srt (chgs [(0, 0, 1), (2, 0, 1)]) m) : m.length = 1 := by
  have : Srt (chgs [(0, 0, 1), (2, 0, 1)]) [(0, 1)] := ⟨by simp, fun v => by simp [chgs, toV2]⟩
  rw [h.eq this]
  rfl
theorem sc_one (w : World) (x : C) : Sc (w.alloc (.cells #[.int .i64 x.1, .int .i64 x.2.1, .int .i64 x.2.2] 38)) (some ⟨w.heap.size, 0, none⟩) 1 1 [x] := ⟨rfl, Nat.le_refl _, by omega, (one_tri w x).more (by simp)⟩
set_option maxHeartbeats 1000000 in
theorem cells_alive_c (w : World) : Calls Try.prog 8 #[] w fun e w' => e = .returned (.bool true) ∧ Below w.heap.size w w' := by
  go_enter Try.func8, Try.ntmps8
  go_wp2_with fail
  have S1 := Lib.hid (sc_one w (2, 0, 1))
  have S2 := Lib.hid (sc_one (w.alloc (.cells #[.int .i64 2, .int .i64 0, .int .i64 1] 38)) (0, 0, 1))
  have S1 := Lib.hid (S1.out.all (bal (Below.refl _ _) (Nat.le_refl _) (.cells #[.int .i64 0, .int .i64 0, .int .i64 1] 38)))
  have HB := Lib.hid (bal (bal (Below.refl w.heap.size w) (Nat.le_refl _) (.cells #[.int .i64 2, .int .i64 0, .int .i64 1] 38)) (Nat.le_refl _) (.cells #[.int .i64 0, .int .i64 0, .int .i64 1] 38))
  have e1 : (w.alloc (.cells #[.int .i64 2, .int .i64 0, .int .i64 1] 38)).heap.size = w.heap.size + 1 := by simp
  rw [e1] at S2
  simp only at S1 S2
  generalize ((w.alloc (.cells #[.int .i64 2, .int .i64 0, .int .i64 1] 38)).alloc (.cells #[.int .i64 0, .int .i64 0, .int .i64 1] 38)) = w1 at S1 S2 HB ⊢
  clear e1
  refine (merge_c _ 1 1 [(2, 0, 1)] _ 1 1 [(0, 0, 1)] _ S1.out S2.out).mono ?_
  rw [merge_20]
  rintro e w2 ⟨A, n, c, rfl, hs, hb⟩
  have HB := Lib.hid (HB.out.trans (hb.mono HB.out.size)); clear hb S1 S2
  obtain rfl : n = 2 := hs.1
  have HS := Lib.hid hs
  clear hs
  obtain ⟨b, o, rfl, hbB, hcell⟩ := HS.out.2.2.2 (by simp)
  clear hcell
  go_wp2_with fail
  refine (of_c _ 2 c _ 0 _ HS.out).mono ?_
  rw [get_20, has_20]
  rintro e w3 ⟨rfl, hb⟩
  have HS := Lib.hid (HS.out.all hb)
  have HB := Lib.hid (HB.out.trans (hb.mono HB.out.size)); clear hb
  unfold vw
  have HS4 := Lib.hid (HS.out.all (bal (Below.refl _ _) (Nat.le_refl _) (.cells #[.int .i64 0, .int .i64 1] 31)))
  have HB4 := Lib.hid (bal HB.out (Nat.le_refl _) (.cells #[.int .i64 0, .int .i64 1] 31))
  have HV := Lib.hid (show Vi (w3.alloc (.cells #[.int .i64 0, .int .i64 1] 31)) w3.heap.size 0 1 from hat _ _ _ rfl)
  have x0 : (w3.alloc (.cells #[.int .i64 0, .int .i64 1] 31)).cell? ⟨b, o, none⟩ = some (.int .i64 0) := by
    obtain ⟨b', o', e, _, hc⟩ := HS4.out.2.2.2 (by simp)
    injection e with e
    injection e with e1 e2
    subst e1
    subst e2
    have := hc 0 (0, 0, 1) rfl 0 _ rfl
    simpa using this
  have HK := Lib.hid chk_20
  go_wp2_with fail
  refine (changes_c _ 2 c _ _ HS4.out HK.out).mono ?_
  rintro e w5 ⟨A5, n5, c5, m5, rfl, hsrt, hsv, hb⟩
  obtain rfl : n5 = 1 := by rw [hsv.1]; exact srt_20 m5 hsrt
  have HS5 := Lib.hid (HS4.out.all hb)
  have HB5 := Lib.hid (HB4.out.trans (hb.mono HB4.out.size))
  clear hb hsrt hsv x0 HV HS4 HB4 HS HB
  go_wp2_with fail
  refine (check_c _ 2 c _ _ HS5.out).mono ?_
  rw [show chkM [(0, 0, 1), (2, 0, 1)] = 0 from by unfold chkM; rw [chk_20]; rfl]
  rintro e w6 ⟨rfl, hb⟩
  have HB6 := Lib.hid (HB5.out.trans (hb.mono HB5.out.size))
  clear hb HB5 HS5
  go_wp2_with fail
  have S3 := Lib.hid (sc_one w6 (0, 0, 0))
  have HB6 := Lib.hid (bal HB6.out (Nat.le_refl _) (.cells #[.int .i64 0, .int .i64 0, .int .i64 0] 38))
  simp only at S3
  refine (check_c _ 1 1 [(0, 0, 0)] _ S3.out).mono ?_
  rw [show chkM [(0, 0, 0)] = 101 from by unfold chkM; rw [chk_00]; rfl]
  rintro e w7 ⟨rfl, hb⟩
  have HB7 := Lib.hid (HB6.out.trans (hb.mono HB6.out.size))
  clear hb HB6 S3
  go_wp2
  go_ret
  exact ⟨rfl, HB7.out⟩
theorem wp_copyC {ops : Array Oper} {rest : List Oper} {o : Oper} {a : Act} {Q : Exit → Act → World → Prop} (hgd : o.guard = none) (s x : Operand)
    (ho : o.op = .call { callee := .builtin .append, args := #[s, x], argTypes := #[28, 28] })
    (w0 : World) (hs : a.eval s = .slice (some ⟨w0.heap.size, 0, none⟩) 0 0) (A : Option Addr) (m c : Nat) (es : List C) (hx : a.eval x = .slice A m c) (hr : Sc w0 A m c es)
    (h : ∀ A' c' w', Sc w' A' m c' es → Below w0.heap.size w0 w' → wpList Try.prog ops Q rest (a.put o.dst (.slice A' m c')) w') : wpList Try.prog ops Q (o :: rest) a (w0.alloc (.cells #[] 38)) :=
  Rg.wp_copyG (K := KC) hgd s x ho w0 hs _ A m c es hx hr.1 hr.2.2.2 (Nat.le_refl _) (by show m * 24 ≤ _; exact hr.2.2.1) fun A' c' w' h1 h2 => h A' c' w' (Sc.own h1 (by have := hr.1; have := hr.2.2.1; omega)) h2
theorem chkM_yes {es : List C} (h : isCl es = true) : chkM es = 0 := by unfold chkM; rw [h]; rfl
theorem chkM_no {es : List C} (h : isCl es = false) : chkM es = 101 := by unfold chkM; rw [h]; rfl
theorem drewN_sc {w : World} {A : Option Addr} {n c : Nat} {es : List C} (h : Sc w A n c es) (k : Nat) : Sc (w.drewN k) A n c es := h
end Go.Proofs.Ytgbpfknmdpkacaa.Clw
