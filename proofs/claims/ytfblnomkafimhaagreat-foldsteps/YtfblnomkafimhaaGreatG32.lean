/- Contracts and words on which the claims of this seat stand, part 32: FoO FoV FoE FoU. -/
import Derived.Test.YtfblnomkafimhaaGreatG04
import Derived.Test.YtfblnomkafimhaaGreatG24
import Derived.Test.YtfblnomkafimhaaGreatG31
set_option linter.unusedSimpArgs false
set_option linter.unusedVariables false
namespace Go.Proofs.YtfblnomkafimhaaGreat.Fow
set_option maxRecDepth 20000
open Go.RowKit
open Cl Bk Lg Fo Clw Bkw
open Lgw (rvv Rx KR Sr Elv elv_at)
open Chgw (hat hbe vw)
open Rg (bal)

def Bko (w : World) (base : Nat) (xs : List ((Nat × Nat) × Sl)) (l : List ((Nat × Nat) × List E)) : Prop := xs.length = l.length ∧ ∀ (i : Nat) x y, xs[i]? = some x → l[i]? = some y → x.1 = y.1 ∧ OwnE w base x.2.a x.2.n x.2.c y.2
def Cko (w : World) (base : Nat) (xs : List ((Nat × Nat) × Sl)) (l : List ((Nat × Nat) × List C)) : Prop := xs.length = l.length ∧ ∀ (i : Nat) x y, xs[i]? = some x → l[i]? = some y → x.1 = y.1 ∧ Rg.OwnG KC w base x.2.a x.2.n x.2.c y.2
theorem Bko.map {w w' : World} {base : Nat} {xs : List ((Nat × Nat) × Sl)} {l : List ((Nat × Nat) × List E)} (h : Bko w base xs l) (hk : ∀ (A : Option Addr) n c es, OwnE w base A n c es → OwnE w' base A n c es) : Bko w' base xs l := ⟨h.1, fun i x y hx hy => ⟨(h.2 i x y hx hy).1, hk _ _ _ _ (h.2 i x y hx hy).2⟩⟩
theorem Cko.map {w w' : World} {base : Nat} {xs : List ((Nat × Nat) × Sl)} {l : List ((Nat × Nat) × List C)} (h : Cko w base xs l) (hk : ∀ (A : Option Addr) n c es, Rg.OwnG KC w base A n c es → Rg.OwnG KC w' base A n c es) : Cko w' base xs l := ⟨h.1, fun i x y hx hy => ⟨(h.2 i x y hx hy).1, hk _ _ _ _ (h.2 i x y hx hy).2⟩⟩
theorem snoc_both {α β : Type} {xs : List α} {l : List β} {a : α} {b : β} (hl : xs.length = l.length) {i : Nat} {x : α} {y : β} (hx : (xs ++ [a])[i]? = some x) (hy : (l ++ [b])[i]? = some y) : (xs[i]? = some x ∧ l[i]? = some y) ∨ (x = a ∧ y = b) := by
  have hlt : ∀ {γ : Type} {m : List γ} {z : γ}, m[i]? = some z → i < m.length := fun {γ m z} h => by
    rcases Nat.lt_or_ge i m.length with h' | h'
    · exact h'
    · rw [List.getElem?_eq_none h'] at h; cases h
  rcases snoc_get hx with h1 | ⟨h1, rfl⟩
  · rcases snoc_get hy with h2 | ⟨h2, rfl⟩
    · exact Or.inl ⟨h1, h2⟩
    · have := hlt h1; omega
  · rcases snoc_get hy with h2 | ⟨h2, rfl⟩
    · have := hlt h2; omega
    · exact Or.inr ⟨rfl, rfl⟩
theorem Bko.snoc {w : World} {base : Nat} {xs : List ((Nat × Nat) × Sl)} {l : List ((Nat × Nat) × List E)} (h : Bko w base xs l) {v : (Nat × Nat)} {s : Sl} {b : List E} (hs : OwnE w base s.a s.n s.c b) : Bko w base (xs ++ [(v, s)]) (l ++ [(v, b)]) :=
  ⟨by simp [h.1], fun i x y hx hy => by
    rcases snoc_both h.1 hx hy with h1 | ⟨rfl, rfl⟩
    · exact h.2 i x y h1.1 h1.2
    · exact ⟨rfl, hs⟩⟩
theorem Cko.snoc {w : World} {base : Nat} {xs : List ((Nat × Nat) × Sl)} {l : List ((Nat × Nat) × List C)} (h : Cko w base xs l) {v : (Nat × Nat)} {s : Sl} {b : List C} (hs : Rg.OwnG KC w base s.a s.n s.c b) : Cko w base (xs ++ [(v, s)]) (l ++ [(v, b)]) :=
  ⟨by simp [h.1], fun i x y hx hy => by
    rcases snoc_both h.1 hx hy with h1 | ⟨rfl, rfl⟩
    · exact h.2 i x y h1.1 h1.2
    · exact ⟨rfl, hs⟩⟩
def nilS : Sl := ⟨none, 0, 0⟩
def zeroSt : St := ⟨[], [], [], (0, 0), 0, 0⟩
/-- a state under way -/
structure Ost (W : World) (base gs gz : Nat) (s : St) (b c i : Sl) (xs ys : List ((Nat × Nat) × Sl)) (A : Option Addr) (n cc : Nat) (vs : List (Nat × Nat)) : Prop where
  x : Sx W gs s b c i
  z : Sx W gz zeroSt nilS nilS nilS
  nz : gs ≠ gz
  v : Rg.OwnG KV W base A n cc vs
  ob : Rg.OwnG KB W base b.a b.n b.c xs
  ib : Bko W base xs s.books
  oc : Rg.OwnG KCs W base c.a c.n c.c ys
  ic : Cko W base ys s.cells
  oi : Rg.OwnG KI W base i.a i.n i.c s.ints
section
variable {W W' : World} {base gs gz : Nat} {s : St} {b c i : Sl} {xs ys : List ((Nat × Nat) × Sl)} {A : Option Addr} {n cc : Nat} {vs : List (Nat × Nat)}
theorem Ost.below (h : Ost W base gs gz s b c i xs ys A n cc vs) (hb : Below W.heap.size W W') : Ost W' base gs gz s b c i xs ys A n cc vs :=
  ⟨h.x.all hb, h.z.all hb, h.nz, h.v.below hb (Nat.le_refl _), h.ob.below hb (Nat.le_refl _), h.ib.map (fun _ _ _ _ ho => ho.below hb (Nat.le_refl _)), h.oc.below hb (Nat.le_refl _), h.ic.map (fun _ _ _ _ ho => ho.below hb (Nat.le_refl _)), h.oi.below hb (Nat.le_refl _)⟩
theorem Ost.alloc (h : Ost W base gs gz s b c i xs ys A n cc vs) (o : Obj) : Ost (W.alloc o) base gs gz s b c i xs ys A n cc vs := h.below (bal (Below.refl _ _) (Nat.le_refl _) o)
/-- a row keeps where a block of another type is stored to -/
theorem row_store {w : World} {g j k : Nat} {cs : Array Value} {T e : TypeId} {v : Value} {m : Nat} {l : List Value} (hg : w.heap[g]? = some (.cells cs T)) (h : w.ownsRow base e k v m l) (hne : T ≠ e) (u : Value) : (w.setCell ⟨g, j, none⟩ u).ownsRow base e k v m l := by
  refine ⟨h.1, ?_⟩
  rcases h.2 with h0 | ⟨r, cap, cur, hv, hr, hh, rest⟩
  · exact Or.inl h0
  · refine Or.inr ⟨r, cap, cur, hv, hr, ?_, rest⟩
    rw [Below.heap_setCell _ _ _ _ (fun e' => by
      have e'' : r = g := e'
      rw [e'', hg] at hh
      simp only [Option.some.injEq, Obj.cells.injEq] at hh
      exact hne hh.2.1)]
    exact hh
theorem Ost.pushB (h : Ost W base gs gz s b c i xs ys A n cc vs) {A' : Option Addr} {n' c' : Nat} {q : (Nat × Nat)} {sl : Sl} {bk : List E} (ho : Rg.OwnG KB W' base A' n' c' (xs ++ [(q, sl)])) (hg : W.grownBy W' (Value.slice b.a b.n b.c).ownBlock) (hi : OwnE W base sl.a sl.n sl.c bk) :
    Ost (W'.setCell ⟨gs, 0, none⟩ (.slice A' n' c')) base gs gz { s with books := s.books ++ [(q, bk)] } ⟨A', n', c'⟩ c i (xs ++ [(q, sl)]) ys A n cc vs := by
  have hx : Sx W' gs s b c i := Rg.blk_apart h.x h.ob.2 (by decide) hg
  have hE : ∀ (A : Option Addr) n c es, OwnE W base A n c es → OwnE (W'.setCell ⟨gs, 0, none⟩ (.slice A' n' c')) base A n c es := fun _ _ _ _ h1 => ⟨h1.1, row_store hx (Rg.rows_apart h1.2 h.ob.2 (by decide) hg) (by decide) _⟩
  have hC : ∀ (A : Option Addr) n c es, Rg.OwnG KC W base A n c es → Rg.OwnG KC (W'.setCell ⟨gs, 0, none⟩ (.slice A' n' c')) base A n c es := fun _ _ _ _ h1 => ⟨h1.1, row_store hx (Rg.rows_apart h1.2 h.ob.2 (by decide) hg) (by decide) _⟩
  exact ⟨hx.put1 0 (.slice A' n' c') _ _ _ _ rfl, Sx.other (Rg.blk_apart h.z h.ob.2 (by decide) hg) (fun e => h.nz e.symm) _, h.nz,
    ⟨h.v.1, row_store hx (Rg.rows_apart h.v.2 h.ob.2 (by decide) hg) (by decide) _⟩,
    ⟨ho.1, row_store hx ho.2 (by decide) _⟩, (h.ib.map hE).snoc (hE _ _ _ _ hi),
    ⟨h.oc.1, row_store hx (Rg.rows_apart h.oc.2 h.ob.2 (by decide) hg) (by decide) _⟩, h.ic.map hC,
    ⟨h.oi.1, row_store hx (Rg.rows_apart h.oi.2 h.ob.2 (by decide) hg) (by decide) _⟩⟩
theorem Ost.pushC (h : Ost W base gs gz s b c i xs ys A n cc vs) {A' : Option Addr} {n' c' : Nat} {q : (Nat × Nat)} {sl : Sl} {bk : List C} (ho : Rg.OwnG KCs W' base A' n' c' (ys ++ [(q, sl)])) (hg : W.grownBy W' (Value.slice c.a c.n c.c).ownBlock) (hi : Rg.OwnG KC W base sl.a sl.n sl.c bk) :
    Ost (W'.setCell ⟨gs, 1, none⟩ (.slice A' n' c')) base gs gz { s with cells := s.cells ++ [(q, bk)] } b ⟨A', n', c'⟩ i xs (ys ++ [(q, sl)]) A n cc vs := by
  have hx : Sx W' gs s b c i := Rg.blk_apart h.x h.oc.2 (by decide) hg
  have hE : ∀ (A : Option Addr) n c es, OwnE W base A n c es → OwnE (W'.setCell ⟨gs, 1, none⟩ (.slice A' n' c')) base A n c es := fun _ _ _ _ h1 => ⟨h1.1, row_store hx (Rg.rows_apart h1.2 h.oc.2 (by decide) hg) (by decide) _⟩
  have hC : ∀ (A : Option Addr) n c es, Rg.OwnG KC W base A n c es → Rg.OwnG KC (W'.setCell ⟨gs, 1, none⟩ (.slice A' n' c')) base A n c es := fun _ _ _ _ h1 => ⟨h1.1, row_store hx (Rg.rows_apart h1.2 h.oc.2 (by decide) hg) (by decide) _⟩
  exact ⟨hx.put1 1 (.slice A' n' c') _ _ _ _ rfl, Sx.other (Rg.blk_apart h.z h.oc.2 (by decide) hg) (fun e => h.nz e.symm) _, h.nz,
    ⟨h.v.1, row_store hx (Rg.rows_apart h.v.2 h.oc.2 (by decide) hg) (by decide) _⟩,
    ⟨h.ob.1, row_store hx (Rg.rows_apart h.ob.2 h.oc.2 (by decide) hg) (by decide) _⟩, h.ib.map hE,
    ⟨ho.1, row_store hx ho.2 (by decide) _⟩, (h.ic.map hC).snoc (hC _ _ _ _ hi),
    ⟨h.oi.1, row_store hx (Rg.rows_apart h.oi.2 h.oc.2 (by decide) hg) (by decide) _⟩⟩
theorem Ost.pushI (h : Ost W base gs gz s b c i xs ys A n cc vs) {A' : Option Addr} {n' c' : Nat} {q x : (Nat × Nat)} (ho : Rg.OwnG KI W' base A' n' c' (s.ints ++ [(q, x)])) (hg : W.grownBy W' (Value.slice i.a i.n i.c).ownBlock) :
    Ost (W'.setCell ⟨gs, 2, none⟩ (.slice A' n' c')) base gs gz { s with ints := s.ints ++ [(q, x)] } b c ⟨A', n', c'⟩ xs ys A n cc vs := by
  have hx : Sx W' gs s b c i := Rg.blk_apart h.x h.oi.2 (by decide) hg
  have hE : ∀ (A : Option Addr) n c es, OwnE W base A n c es → OwnE (W'.setCell ⟨gs, 2, none⟩ (.slice A' n' c')) base A n c es := fun _ _ _ _ h1 => ⟨h1.1, row_store hx (Rg.rows_apart h1.2 h.oi.2 (by decide) hg) (by decide) _⟩
  have hC : ∀ (A : Option Addr) n c es, Rg.OwnG KC W base A n c es → Rg.OwnG KC (W'.setCell ⟨gs, 2, none⟩ (.slice A' n' c')) base A n c es := fun _ _ _ _ h1 => ⟨h1.1, row_store hx (Rg.rows_apart h1.2 h.oi.2 (by decide) hg) (by decide) _⟩
  exact ⟨hx.put1 2 (.slice A' n' c') _ _ _ _ rfl, Sx.other (Rg.blk_apart h.z h.oi.2 (by decide) hg) (fun e => h.nz e.symm) _, h.nz,
    ⟨h.v.1, row_store hx (Rg.rows_apart h.v.2 h.oi.2 (by decide) hg) (by decide) _⟩,
    ⟨h.ob.1, row_store hx (Rg.rows_apart h.ob.2 h.oi.2 (by decide) hg) (by decide) _⟩, h.ib.map hE,
    ⟨h.oc.1, row_store hx (Rg.rows_apart h.oc.2 h.oi.2 (by decide) hg) (by decide) _⟩, h.ic.map hC,
    ⟨ho.1, row_store hx ho.2 (by decide) _⟩⟩
/-- a state whose rows are of the call's own is in memory -/
theorem Ost.sto (h : Ost W base gs gz s b c i xs ys A n cc vs) (hw : WfS s) (h1 : s.books.length ≤ 4096) (h2 : s.cells.length ≤ 4096) (h3 : s.ints.length ≤ 4096) : Sto W s b c i := by
  refine ⟨⟨xs, ?_, h.ob.cap, ?_, h.ob.rs, h.ib.1, fun j x y hx hy => ⟨(h.ib.2 j x y hx hy).1, ?_⟩⟩, ⟨ys, ?_, h.oc.cap, ?_, h.oc.rs, h.ic.1, fun j x y hx hy => ⟨(h.ic.2 j x y hx hy).1, ?_⟩⟩, h.oi.1, h.oi.cap, ?_, h.oi.rs⟩
  · rw [h.ob.1, h.ib.1]
  · rw [h.ob.1, h.ib.1]; omega
  · have hb := hw.bk y (List.mem_of_getElem? hy)
    exact so_ownE (h.ib.2 j x y hx hy).2 hb.2.2 (book_lenF hb.1)
  · rw [h.oc.1, h.ic.1]
  · rw [h.oc.1, h.ic.1]; omega
  · have hb := hw.cl y (List.mem_of_getElem? hy)
    exact Sc.own (h.ic.2 j x y hx hy).2 (by have := cl_len hb.1; omega)
  · rw [h.oi.1]; omega
end
end Go.Proofs.YtfblnomkafimhaaGreat.Fow

namespace Go.Proofs.YtfblnomkafimhaaGreat.Fow
set_option maxRecDepth 20000
open Go.RowKit
open Cl Bk Lg Fo Clw Bkw
open Lgw (rvv Rx KR Sr Elv elv_at)
open Chgw (hat hbe vw)
open Rg (bal)

section
variable {α β : Type} (f : α → β → Bool)
def zipA : List α → List β → Bool
  | [], [] => true
  | x :: a, y :: b => f x y && zipA a b
  | _, _ => false
variable {f}
theorem zip_true : ∀ {l : List α} {m : List β}, l.length = m.length → (∀ (i : Nat) x y, l[i]? = some x → m[i]? = some y → f x y = true) → zipA f l m = true
  | [], [], _, _ => rfl
  | [], _ :: _, h, _ => by simp at h
  | _ :: _, [], h, _ => by simp at h
  | x :: a, y :: b, h, hf => by
    unfold zipA
    rw [Bool.and_eq_true]
    exact ⟨hf 0 x y rfl rfl, zip_true (by simpa using h) (fun i u v hu hv => hf (i + 1) u v (by simpa using hu) (by simpa using hv))⟩
theorem zip_false : ∀ {l : List α} {m : List β} (i : Nat) {x : α} {y : β}, l[i]? = some x → m[i]? = some y → f x y = false → zipA f l m = false
  | [], _, i, _, _, hx, _, _ => by simp at hx
  | _ :: _, [], i, _, _, _, hy, _ => by simp at hy
  | u :: a, v :: b, 0, x, y, hx, hy, hf => by
    simp only [List.getElem?_cons_zero, Option.some.injEq] at hx hy
    subst hx; subst hy
    unfold zipA
    rw [hf]; rfl
  | u :: a, v :: b, i + 1, x, y, hx, hy, hf => by
    unfold zipA
    rw [zip_false i (by simpa using hx) (by simpa using hy) hf, Bool.and_false]
theorem zip_len : ∀ {l : List α} {m : List β}, l.length ≠ m.length → zipA f l m = false
  | [], [], h => absurd rfl h
  | [], _ :: _, _ => rfl
  | _ :: _, [], _ => rfl
  | x :: a, y :: b, h => by
    unfold zipA
    rw [zip_len (fun e => h (by simp [e])), Bool.and_false]
end
def eqB (x y : (Nat × Nat) × List E) : Bool := x.1 == y.1 && same x.2 y.2
def eqC (x y : (Nat × Nat) × List C) : Bool := x.1 == y.1 && sameC x.2 y.2
def eqI (x y : (Nat × Nat) × (Nat × Nat)) : Bool := x.1 == y.1 && x.2 == y.2
theorem sameB_zip : ∀ (l m : List ((Nat × Nat) × List E)), sameB l m = zipA eqB l m
  | [], [] => rfl
  | [], _ :: _ => rfl
  | _ :: _, [] => rfl
  | x :: a, y :: b => by unfold sameB zipA; rw [sameB_zip a b]; rfl
theorem sameCs_zip : ∀ (l m : List ((Nat × Nat) × List C)), sameCs l m = zipA eqC l m
  | [], [] => rfl
  | [], _ :: _ => rfl
  | _ :: _, [] => rfl
  | x :: a, y :: b => by unfold sameCs zipA; rw [sameCs_zip a b]; rfl
theorem sameI_zip : ∀ (l m : List ((Nat × Nat) × (Nat × Nat))), sameI l m = zipA eqI l m
  | [], [] => rfl
  | [], _ :: _ => rfl
  | _ :: _, [] => rfl
  | x :: a, y :: b => by unfold sameI zipA; rw [sameI_zip a b]; rfl
/-- what is unlike at once -/
def unl (a b : St) : Bool := !decide (a.books.length = b.books.length) || (!decide (a.cells.length = b.cells.length) || (!decide (a.ints.length = b.ints.length) || (!(a.held == b.held) || (!(a.inc == b.inc) || !(a.last == b.last)))))
theorem same_unl {a b : St} (h : unl a b = true) : sameS a b = false := by
  unfold unl at h
  simp only [Bool.or_eq_true, Bool.not_eq_true', decide_eq_false_iff_not] at h
  unfold sameS
  rw [sameB_zip, sameCs_zip, sameI_zip]
  rcases h with h | h | h | h | h | h
  · rw [zip_len h]; simp
  · rw [zip_len h]; simp
  · rw [zip_len h]; simp
  · rw [h]; simp
  · rw [h]; simp
  · rw [h]; simp
theorem same_rest {a b : St} (h : unl a b = false) : (a.books.length = b.books.length ∧ a.cells.length = b.cells.length ∧ a.ints.length = b.ints.length) ∧ sameS a b = (zipA eqB a.books b.books && (zipA eqC a.cells b.cells && zipA eqI a.ints b.ints)) := by
  unfold unl at h
  simp only [Bool.or_eq_false_iff, Bool.not_eq_false', decide_eq_true_iff] at h
  obtain ⟨h1, h2, h3, h4, h5, h6⟩ := h
  refine ⟨⟨h1, h2, h3⟩, ?_⟩
  unfold sameS
  rw [sameB_zip, sameCs_zip, sameI_zip, h4, h5, h6]
  rfl
end Go.Proofs.YtfblnomkafimhaaGreat.Fow

namespace Go.Proofs.YtfblnomkafimhaaGreat.Fow
set_option maxRecDepth 20000
open Go.RowKit
theorem eq_view_n (k : Nat) (a b c d : Int) (w : World) : (Op.equalIn (k + 5) 26 (.agg #[.int .i64 a, .int .i64 b]) (.agg #[.int .i64 c, .int .i64 d])).run Tryz.prog w = .ok (a == c && b == d) w := by
  have u3 := Tryz.underlying3
  have a3 := Tryz.isAgg3
  have z3 := Tryz.sizeOf3
  have hS : Tryz.prog.underlying 26 = some (.struct (Tryz.prog.fieldsOf 26)) := by kernel_rfl
  rw [show k + 5 = (k + 4) + 1 from rfl, run_equalIn_agg w (k + 4) 26 _ _ hS (by kernel_rfl)]
  simp only [Program.fieldsOf, Tryz.underlying26]
  go_simp
  by_cases h1 : a = c <;> by_cases h2 : b = d <;> simp [h1, h2]
theorem eq_intent (a b c d a2 b2 c2 d2 : Int) (w : World) : (Op.equalIn 10000 73 (.agg #[.int .i64 a, .int .i64 b, .int .i64 c, .int .i64 d]) (.agg #[.int .i64 a2, .int .i64 b2, .int .i64 c2, .int .i64 d2])).run Tryz.prog w = .ok ((a == a2 && b == b2) && (c == c2 && d == d2)) w := by
  have z4 := Tryz.sizeOf26
  have a4 := Tryz.isAgg26
  have e1 : ∀ (a b c d : Int) (w : World), (Op.equalIn 9998 26 (.agg #[.int .i64 a, .int .i64 b]) (.agg #[.int .i64 c, .int .i64 d])).run Tryz.prog w = .ok (a == c && b == d) w := eq_view_n 9993
  have e2 : ∀ (a b c d : Int) (w : World), (Op.equalIn 9999 26 (.agg #[.int .i64 a, .int .i64 b]) (.agg #[.int .i64 c, .int .i64 d])).run Tryz.prog w = .ok (a == c && b == d) w := eq_view_n 9994
  have hS : Tryz.prog.underlying 73 = some (.struct (Tryz.prog.fieldsOf 73)) := by kernel_rfl
  rw [show (10000 : Nat) = 9999 + 1 from rfl, run_equalIn_agg w 9999 73 _ _ hS (by kernel_rfl)]
  simp only [Program.fieldsOf, Tryz.underlying73]
  clear hS
  go_simp
  by_cases h1 : a = a2 <;> by_cases h2 : b = b2 <;> by_cases h3 : c = c2 <;> by_cases h4 : d = d2 <;> simp [h1, h2, h3, h4]
end Go.Proofs.YtfblnomkafimhaaGreat.Fow

namespace Go.Proofs.YtfblnomkafimhaaGreat.Fow
set_option maxRecDepth 20000
open Go.RowKit
open Cl Bk Lg Fo Clw Bkw
open Lgw (rvv Rx KR Sr Elv elv_at)
open Chgw (hat hbe vw)
open Rg (bal)

/-- the state of what records say of the node itself -/
def selfS (v : Nat × Nat) (l : List R) : St := ⟨[], [], [], heldL v l, incL l, lastL l⟩
theorem self_snoc (v : Nat × Nat) (l : List R) (r : R) : selfS v (l ++ [r]) = ⟨[], [], [], if r.kind = 3 ∧ Vw.within2 (heldL v l) (rvw r) = true then rvw r else heldL v l, if r.kind = 6 ∧ incL l < r.n then r.n else incL l, if r.kind = 4 ∧ lastL l < r.n then r.n else lastL l⟩ := by
  unfold selfS heldL incL lastL
  simp only [List.foldl_append, List.foldl_cons, List.foldl_nil]
theorem held64 {v : Nat × Nat} {l : List R} (hv : V64 v) (h : ∀ r ∈ l, OkR r) : V64 (heldL v l) := by
  have := (wf_of hv h).hv
  rwa [of_eq hv h] at this
theorem within_v2 (u v : Nat × Nat) : Chgw.withinV u.1 u.2 v.1 v.2 = Vw.within2 u v := by
  unfold Chgw.withinV Vw.within2
  rfl
/-- what a view adds to a state -/
def putB (s : St) (x : Nat × Nat) (b : List E) : St := if b = [] then s else { s with books := s.books ++ [(x, b)] }
def putC (s : St) (x : Nat × Nat) (b : List C) : St := if b = [] then s else { s with cells := s.cells ++ [(x, b)] }
def putI (s : St) (x : Nat × Nat) : Option (Nat × Nat) → St
  | none => s
  | some y => { s with ints := s.ints ++ [(x, y)] }
def ofV (vs : List (Nat × Nat)) (q : Nat × Nat) (l : List R) : St :=
  ⟨(vs.filter fun v => decide (bookL l v ≠ [])).map fun v => (v, bookL l v), (vs.filter fun v => decide (cellsL l v ≠ [])).map fun v => (v, cellsL l v), vs.filterMap fun v => (intL l v).map fun x => (v, x), heldL q l, incL l, lastL l⟩
theorem ofV_snoc (vs : List (Nat × Nat)) (x q : Nat × Nat) (l : List R) : ofV (vs ++ [x]) q l = putI (putC (putB (ofV vs q l) x (bookL l x)) x (cellsL l x)) x (intL l x) := by
  unfold ofV
  rw [List.filter_append, List.filter_append, List.map_append, List.map_append, List.filterMap_append]
  have e1 : ∀ s : St, putI s x (intL l x) = { s with ints := s.ints ++ [x].filterMap fun v => (intL l v).map fun x => (v, x) } := fun s => by
    cases h : intL l x with
    | none => simp [putI, h]
    | some y => simp [putI, h]
  rw [e1]
  unfold putC putB
  by_cases h1 : bookL l x = [] <;> by_cases h2 : cellsL l x = [] <;> simp [h1, h2]
theorem ofV_len (vs : List (Nat × Nat)) (q : Nat × Nat) (l : List R) : (ofV vs q l).books.length ≤ vs.length ∧ (ofV vs q l).cells.length ≤ vs.length ∧ (ofV vs q l).ints.length ≤ vs.length := by
  unfold ofV
  simp only [List.length_map]
  exact ⟨List.length_filter_le _ _, List.length_filter_le _ _, List.length_filterMap_le _ _⟩
theorem putB_ci (s : St) (x : Nat × Nat) (b : List E) : (putB s x b).cells = s.cells ∧ (putB s x b).ints = s.ints := by
  unfold putB; split <;> exact ⟨rfl, rfl⟩
theorem putC_i (s : St) (x : Nat × Nat) (b : List C) : (putC s x b).ints = s.ints := by
  unfold putC; split <;> rfl
theorem one_kb (w : World) (x : (Nat × Nat)) (sl : Sl) : Rg.Rs KB (w.alloc (.cells #[.int .i64 (x.1 : Int), .int .i64 (x.2 : Int), .slice sl.a sl.n sl.c] 69)) (w.heap.size + 1) (some ⟨w.heap.size, 0, none⟩) [(x, sl)] := Rg.rs_new KB w [(x, sl)]
theorem one_kc (w : World) (x : (Nat × Nat)) (sl : Sl) : Rg.Rs KCs (w.alloc (.cells #[.int .i64 (x.1 : Int), .int .i64 (x.2 : Int), .slice sl.a sl.n sl.c] 71)) (w.heap.size + 1) (some ⟨w.heap.size, 0, none⟩) [(x, sl)] := Rg.rs_new KCs w [(x, sl)]
theorem one_ki (w : World) (x y : (Nat × Nat)) : Rg.Rs KI (w.alloc (.cells #[.int .i64 (x.1 : Int), .int .i64 (x.2 : Int), .int .i64 (y.1 : Int), .int .i64 (y.2 : Int)] 73)) (w.heap.size + 1) (some ⟨w.heap.size, 0, none⟩) [(x, y)] := Rg.rs_new KI w [(x, y)]
theorem vi_grown {w w' : World} {gv gs j : Nat} {a d : Int} {base k : Nat} {e : TypeId} {v : Value} {n : Nat} {xs : List Value} (h : Chgw.Vi w gv a d) (h' : w.ownsRow base e k v n xs) (hne : 26 ≠ e) (hg : w.grownBy w' v.ownBlock) (hs : gv ≠ gs) (u : Value) : Chgw.Vi (w'.setCell ⟨gs, j, none⟩ u) gv a d :=
  (Below.heap_setCell w' ⟨gs, j, none⟩ u gv hs).trans (Rg.blk_apart h h' hne hg)
/-- rows of the call's own behind a state -/
def Ors (W : World) (base : Nat) (s : St) (b c i : Sl) (xs ys : List ((Nat × Nat) × Sl)) : Prop := (Rg.OwnG KB W base b.a b.n b.c xs ∧ Bko W base xs s.books) ∧ (Rg.OwnG KCs W base c.a c.n c.c ys ∧ Cko W base ys s.cells) ∧ Rg.OwnG KI W base i.a i.n i.c s.ints
theorem Ost.ors {W : World} {base gs gz : Nat} {s : St} {b c i : Sl} {xs ys : List ((Nat × Nat) × Sl)} {A : Option Addr} {n cc : Nat} {vs : List (Nat × Nat)} (h : Ost W base gs gz s b c i xs ys A n cc vs) : Ors W base s b c i xs ys := ⟨⟨h.ob, h.ib⟩, ⟨h.oc, h.ic⟩, h.oi⟩
section
variable {W : World} {base g : Nat} {s : St} {b c i : Sl} {xs ys : List ((Nat × Nat) × Sl)}
theorem Ors.put1 (h : Ors W base s b c i xs ys) {s0 : St} {b0 c0 i0 : Sl} (hx : Sx W g s0 b0 c0 i0) (j : Nat) (u : Value) : Ors (W.setCell ⟨g, j, none⟩ u) base s b c i xs ys :=
  ⟨⟨⟨h.1.1.1, row_store hx h.1.1.2 (by decide) _⟩, h.1.2.map (fun _ _ _ _ h1 => ⟨h1.1, row_store hx h1.2 (by decide) _⟩)⟩, ⟨⟨h.2.1.1.1, row_store hx h.2.1.1.2 (by decide) _⟩, h.2.1.2.map (fun _ _ _ _ h1 => ⟨h1.1, row_store hx h1.2 (by decide) _⟩)⟩, ⟨h.2.2.1, row_store hx h.2.2.2 (by decide) _⟩⟩
theorem Ors.put (h : Ors W base s b c i xs ys) {s0 : St} {b0 c0 i0 : Sl} (hx : Sx W g s0 b0 c0 i0) (s2 : St) (b2 c2 i2 : Sl) : Ors (((((((W.setCell ⟨g, 0, none⟩ (.slice b2.a b2.n b2.c)).setCell ⟨g, 1, none⟩ (.slice c2.a c2.n c2.c)).setCell ⟨g, 2, none⟩ (.slice i2.a i2.n i2.c)).setCell ⟨g, 3, none⟩ (.int .i64 (s2.held.1 : Int))).setCell ⟨g, 4, none⟩ (.int .i64 (s2.held.2 : Int))).setCell ⟨g, 5, none⟩ (.int .i64 s2.inc)).setCell ⟨g, 6, none⟩ (.int .i64 s2.last)) base s b c i xs ys ∧ Sx (((((((W.setCell ⟨g, 0, none⟩ (.slice b2.a b2.n b2.c)).setCell ⟨g, 1, none⟩ (.slice c2.a c2.n c2.c)).setCell ⟨g, 2, none⟩ (.slice i2.a i2.n i2.c)).setCell ⟨g, 3, none⟩ (.int .i64 (s2.held.1 : Int))).setCell ⟨g, 4, none⟩ (.int .i64 (s2.held.2 : Int))).setCell ⟨g, 5, none⟩ (.int .i64 s2.inc)).setCell ⟨g, 6, none⟩ (.int .i64 s2.last)) g s2 b2 c2 i2 := by
  have x1 := hx.put1 0 (.slice b2.a b2.n b2.c) s0 b2 c0 i0 rfl
  have x2 := x1.put1 1 (.slice c2.a c2.n c2.c) s0 b2 c2 i0 rfl
  have x3 := x2.put1 2 (.slice i2.a i2.n i2.c) s0 b2 c2 i2 rfl
  have x4 := x3.put1 3 (.int .i64 (s2.held.1 : Int)) ⟨[], [], [], (s2.held.1, s0.held.2), s0.inc, s0.last⟩ b2 c2 i2 rfl
  have x5 := x4.put1 4 (.int .i64 (s2.held.2 : Int)) ⟨[], [], [], s2.held, s0.inc, s0.last⟩ b2 c2 i2 rfl
  have x6 := x5.put1 5 (.int .i64 s2.inc) ⟨[], [], [], s2.held, s2.inc, s0.last⟩ b2 c2 i2 rfl
  exact ⟨((((((h.put1 hx 0 _).put1 x1 1 _).put1 x2 2 _).put1 x3 3 _).put1 x4 4 _).put1 x5 5 _).put1 x6 6 _, x6.put1 6 (.int .i64 s2.last) _ _ _ _ rfl⟩
theorem Ors.sto (h : Ors W base s b c i xs ys) (hw : WfS s) (h1 : s.books.length ≤ 4096) (h2 : s.cells.length ≤ 4096) (h3 : s.ints.length ≤ 4096) : Sto W s b c i := by
  obtain ⟨⟨ob, ib⟩, ⟨oc, ic⟩, oi⟩ := h
  refine ⟨⟨xs, ?_, ob.cap, ?_, ob.rs, ib.1, fun j x y hx hy => ⟨(ib.2 j x y hx hy).1, ?_⟩⟩, ⟨ys, ?_, oc.cap, ?_, oc.rs, ic.1, fun j x y hx hy => ⟨(ic.2 j x y hx hy).1, ?_⟩⟩, oi.1, oi.cap, ?_, oi.rs⟩
  · rw [ob.1, ib.1]
  · rw [ob.1, ib.1]; omega
  · have hb := hw.bk y (List.mem_of_getElem? hy)
    exact so_ownE (ib.2 j x y hx hy).2 hb.2.2 (book_lenF hb.1)
  · rw [oc.1, ic.1]
  · rw [oc.1, ic.1]; omega
  · have hb := hw.cl y (List.mem_of_getElem? hy)
    exact Sc.own (ic.2 j x y hx hy).2 (by have := cl_len hb.1; omega)
  · rw [oi.1]; omega
end
theorem wf_ofL {q : Nat × Nat} {l : List R} (hq : V64 q) (h : ∀ r ∈ l, OkR r) : WfS (ofL q l) := by rw [← of_eq hq h]; exact wf_of hq h
set_option maxHeartbeats 4000000 in
theorem of_o (q : Nat × Nat) (hq : V64 q) (A : Option Addr) (n c : Nat) (l : List R) (w : World) (h : Sr w A n c l) (hok : ∀ r ∈ l, OkR r) : Calls Tryz.prog 21 #[.agg #[.int .i64 (q.1 : Int), .int .i64 (q.2 : Int)], .slice A n c] w (RetSt w (ofL q l)) := by
  have hsf := Lgw.store_flt
  have HSR := Lib.hid h
  have HN := Lib.hid h.1; have HR := Lib.hid h.2.2.2.2; have HOK := Lib.hid hok; have HQ := Lib.hid hq
  have hl : n * 88 ≤ 140737488355328 := h.2.2.1
  clear h hok hq
  go_enter Tryz.func21, Tryz.ntmps21
  go_upto_region 2 with (fail)
  have HX := Lib.hid (show Sx (((w.alloc (.cells #[.int .i64 (q.1 : Int), .int .i64 (q.2 : Int)] 26)).alloc (.cells #[.slice none 0 0, .slice none 0 0, .slice none 0 0, .int .i64 0, .int .i64 0, .int .i64 0, .int .i64 0] 28)).alloc (.cells #[.slice none 0 0, .slice none 0 0, .slice none 0 0, .int .i64 (q.1 : Int), .int .i64 (q.2 : Int), .int .i64 0, .int .i64 0] 28)) (w.heap.size + 1 + 1) (selfS q (l.take 0)) nilS nilS nilS from hat _ _ _ (by simp))
  have HZ := Lib.hid (show Sx (((w.alloc (.cells #[.int .i64 (q.1 : Int), .int .i64 (q.2 : Int)] 26)).alloc (.cells #[.slice none 0 0, .slice none 0 0, .slice none 0 0, .int .i64 0, .int .i64 0, .int .i64 0, .int .i64 0] 28)).alloc (.cells #[.slice none 0 0, .slice none 0 0, .slice none 0 0, .int .i64 (q.1 : Int), .int .i64 (q.2 : Int), .int .i64 0, .int .i64 0] 28)) (w.heap.size + 1) zeroSt nilS nilS nilS from hbe (hat _ _ _ (by simp)))
  have HB := Lib.hid (bal (bal (bal (Below.refl w.heap.size w) (Nat.le_refl _) (.cells #[.int .i64 (q.1 : Int), .int .i64 (q.2 : Int)] 26)) (Nat.le_refl _) (.cells #[.slice none 0 0, .slice none 0 0, .slice none 0 0, .int .i64 0, .int .i64 0, .int .i64 0, .int .i64 0] 28)) (Nat.le_refl _) (.cells #[.slice none 0 0, .slice none 0 0, .slice none 0 0, .int .i64 (q.1 : Int), .int .i64 (q.2 : Int), .int .i64 0, .int .i64 0] 28))
  generalize ((w.alloc (.cells #[.int .i64 (q.1 : Int), .int .i64 (q.2 : Int)] 26)).alloc (.cells #[.slice none 0 0, .slice none 0 0, .slice none 0 0, .int .i64 0, .int .i64 0, .int .i64 0, .int .i64 0] 28)).alloc (.cells #[.slice none 0 0, .slice none 0 0, .slice none 0 0, .int .i64 (q.1 : Int), .int .i64 (q.2 : Int), .int .i64 0, .int .i64 0] 28) = w1 at HX HZ HB ⊢
  have HGZ := Lib.hid (show w.heap.size + 1 + 1 ≠ w.heap.size + 1 by omega)
  have HGS := Lib.hid (show w.heap.size ≤ w.heap.size + 1 + 1 by omega)
  have HGZS := Lib.hid (show w.heap.size ≤ w.heap.size + 1 by omega)
  generalize w.heap.size + 1 + 1 = gs at HX HGZ HGS ⊢
  generalize w.heap.size + 1 = gz at HZ HGZ HGZS ⊢
  go_wp2
  go_loopw [18] (fun i wr => ∃ k : Nat, i = .int .i64 k ∧ k ≤ n ∧ Sx wr gs (selfS q (l.take k)) nilS nilS nilS ∧ Sx wr gz zeroSt nilS nilS nilS ∧ Below w.heap.size w wr) (fun i _ => n - (intOf i).toNat)
  case atStart => exact ⟨0, rfl, by omega, HX.out, HZ.out, HB.out⟩
  case round =>
    clear HX HZ HB
    rename World => wl
    obtain ⟨k, rfl, hk, hx, hz0, hb⟩ := hrel
    have HX := Lib.hid hx; have HZ := Lib.hid hz0; have HB := Lib.hid hb
    clear hx hz0 hb
    by_cases h : k < n
    · obtain ⟨b, o, rfl, hbB, hcell⟩ := HR.out (by rw [← HN.out]; omega)
      have hkl : k < l.length := by rw [← HN.out]; exact h
      have hz : l[k]? = some l[k] := List.getElem?_eq_getElem hkl
      have hc0 := elv_at (fun j u hu => (HB.out.cell (p := ⟨b, o + k * KR.k + j, none⟩) hbB).trans (hcell k l[k] hz j u hu))
      have hor := HOK.out l[k] (List.getElem_mem hkl)
      have HNX : Hid (selfS q (l.take (k + 1)) = ⟨[], [], [], if l[k].kind = 3 ∧ Vw.within2 (heldL q (l.take k)) (rvw l[k]) = true then rvw l[k] else heldL q (l.take k), if l[k].kind = 6 ∧ incL (l.take k) < l[k].n then l[k].n else incL (l.take k), if l[k].kind = 4 ∧ lastL (l.take k) < l[k].n then l[k].n else lastL (l.take k)⟩) := Lib.hid (by rw [take_snocR hz]; exact self_snoc _ _ _)
      have HVH := Lib.hid (held64 (l := l.take k) HQ.out (fun r hr => HOK.out r (List.mem_of_mem_take hr)))
      have HX : Hid (Sx wl gs ⟨[], [], [], heldL q (l.take k), incL (l.take k), lastL (l.take k)⟩ nilS nilS nilS) := HX
      generalize l[k] = r at hc0 hor HNX
      have HOV := Lib.hid (okr_view hor).1
      have HV64 := Lib.hid (okr_view hor).2.1
      have HWI := Lib.hid (fun W => Chgw.within_r (heldL q (l.take k)).1 (heldL q (l.take k)).2 HVH.out.1 HVH.out.2 (rvw r).1 (rvw r).2 HV64.out.1 HV64.out.2 W)
      rw [within_v2] at HWI
      generalize heldL q (l.take k) = hd at HX HNX HWI
      generalize incL (l.take k) = ic at HX HNX
      generalize lastL (l.take k) = lt at HX HNX
      unfold vw at HWI
      clear hz hcell hkl hor hbB
      rw [show KR.k = 11 from rfl] at hc0
      obtain ⟨x0, x1, x2, x3, x4, x5, x6, x7, x8, x9, x10⟩ := hc0
      go_upto_region 5 with (fail)
      have HXR := Lib.hid (show Rx (wl.alloc (.cells #[.int .i64 r.kind, .int .i64 r.va, .int .i64 r.vd, .int .i64 r.cn, .int .i64 r.ca, .int .i64 r.cd, .int .i64 r.e.key, .int .i64 r.e.num, .int .i64 r.e.node, .float .f64 r.e.val, .int .i64 r.n] 60)) wl.heap.size r from hat _ _ _ rfl)
      have hbx := bal (Below.refl wl.heap.size wl) (Nat.le_refl _) (.cells #[.int .i64 r.kind, .int .i64 r.va, .int .i64 r.vd, .int .i64 r.cn, .int .i64 r.ca, .int .i64 r.cd, .int .i64 r.e.key, .int .i64 r.e.num, .int .i64 r.e.node, .float .f64 r.e.val, .int .i64 r.n] 60)
      have HX := Lib.hid (HX.out.all hbx); have HZ := Lib.hid (HZ.out.all hbx)
      have HB := Lib.hid (HB.out.trans (hbx.mono HB.out.size)); clear hbx x0 x1 x2 x3 x4 x5 x6 x7 x8 x9 x10
      generalize wl.alloc (.cells #[.int .i64 r.kind, .int .i64 r.va, .int .i64 r.vd, .int .i64 r.cn, .int .i64 r.ca, .int .i64 r.cd, .int .i64 r.e.key, .int .i64 r.e.num, .int .i64 r.e.node, .float .f64 r.e.val, .int .i64 r.n] 60) = wm at HX HZ HXR HB ⊢
      generalize wl.heap.size = gr at HXR ⊢
      obtain ⟨y0, y1, y2, y3, y4, y5, y6, y7, y8, y9, y10⟩ := HXR.out.cs
      obtain ⟨z0, z1, z2, z3, z4, z5, z6⟩ := HX.out.cs
      rw [HOV.out.1] at y1
      rw [HOV.out.2] at y2
      by_cases hk3 : r.kind = 3
      · have h3 : (r.kind == 3) = true := by rw [beq_iff_eq]; exact hk3
        have h4 : (r.kind == 4) = false := by rw [beq_eq_false_iff_ne]; omega
        have h6 : (r.kind == 6) = false := by rw [beq_eq_false_iff_ne]; omega
        rw [if_neg (c := r.kind = 6 ∧ _) (fun h => by have := h.1; omega), if_neg (c := r.kind = 4 ∧ _) (fun h => by have := h.1; omega)] at HNX
        go_wp2_with fail
        refine (HWI.out _).mono ?_
        rintro e w5 ⟨rfl, hb5⟩
        clear y0 y1 y2 y3 y4 y5 y6 y7 y8 y9 y10 z0 z1 z2 z3 z4 z5 z6 HWI
        have HXR := Lib.hid (show Rx w5 gr r from (hb5.block gr (Array.getElem?_eq_some_iff.1 HXR.out).1).trans HXR.out)
        have HX := Lib.hid (HX.out.all hb5); have HZ := Lib.hid (HZ.out.all hb5); have HB := Lib.hid (HB.out.trans (hb5.mono HB.out.size)); clear hb5
        obtain ⟨y0, y1, y2, y3, y4, y5, y6, y7, y8, y9, y10⟩ := HXR.out.cs
        obtain ⟨z0, z1, z2, z3, z4, z5, z6⟩ := HX.out.cs
        rw [HOV.out.1] at y1
        rw [HOV.out.2] at y2
        have f3 := HX.out.frozen 3; have f4 := HX.out.frozen 4
        generalize hwi : Vw.within2 hd (rvw r) = wi at HNX ⊢
        cases wi with
        | true =>
          rw [if_pos ⟨hk3, rfl⟩] at HNX
          have HXN := Lib.hid (show Sx ((w5.setCell ⟨gs, 3, none⟩ (.int .i64 ((rvw r).1 : Int))).setCell ⟨gs, 4, none⟩ (.int .i64 ((rvw r).2 : Int))) gs ⟨[], [], [], rvw r, ic, lt⟩ nilS nilS nilS from (HX.out.put1 3 (.int .i64 ((rvw r).1 : Int)) ⟨[], [], [], ((rvw r).1, hd.2), ic, lt⟩ nilS nilS nilS rfl).put1 4 (.int .i64 ((rvw r).2 : Int)) _ _ _ _ rfl)
          have HZN := Lib.hid ((HZ.out.other (p := ⟨gs, 3, none⟩) HGZ.out.symm (.int .i64 ((rvw r).1 : Int))).other (p := ⟨gs, 4, none⟩) HGZ.out.symm (.int .i64 ((rvw r).2 : Int)))
          have HBN := Lib.hid ((HB.out.setCell (p := ⟨gs, 3, none⟩) HGS.out (.int .i64 ((rvw r).1 : Int))).setCell (p := ⟨gs, 4, none⟩) HGS.out (.int .i64 ((rvw r).2 : Int)))
          have HK3 := Lib.hid hk3; clear hwi hk3
          go_wp2
          exact ⟨⟨k + 1, by go_num, by omega, by rw [HNX.out]; exact HXN.out, HZN.out, HBN.out⟩, by simp [intOf]; omega⟩
        | false =>
          rw [if_neg (fun h => by cases h.2)] at HNX
          clear hwi hk3
          go_wp2
          exact ⟨⟨k + 1, by go_num, by omega, by rw [HNX.out]; exact HX.out, HZ.out, HB.out⟩, by simp [intOf]; omega⟩
      · have h3 : (r.kind == 3) = false := by rw [beq_eq_false_iff_ne]; exact hk3
        rw [if_neg (c := r.kind = 3 ∧ _) (fun h => hk3 h.1)] at HNX
        clear HWI
        by_cases hk4 : r.kind = 4
        · have h4 : (r.kind == 4) = true := by rw [beq_iff_eq]; exact hk4
          have h6 : (r.kind == 6) = false := by rw [beq_eq_false_iff_ne]; omega
          rw [if_neg (c := r.kind = 6 ∧ _) (fun h => by have := h.1; omega)] at HNX
          have f6 := HX.out.frozen 6
          by_cases hn : lt < r.n
          · rw [if_pos ⟨hk4, hn⟩] at HNX
            have HXN := Lib.hid (HX.out.put1 6 (.int .i64 r.n) ⟨[], [], [], hd, ic, r.n⟩ nilS nilS nilS rfl)
            have HZN := Lib.hid (HZ.out.other (p := ⟨gs, 6, none⟩) HGZ.out.symm (.int .i64 r.n))
            have HBN := Lib.hid (HB.out.setCell (p := ⟨gs, 6, none⟩) HGS.out (.int .i64 r.n))
            have hdn : decide (lt < r.n) = true := decide_eq_true hn
            clear hk3 hk4
            go_wp2
            exact ⟨⟨k + 1, by go_num, by omega, by rw [HNX.out]; exact HXN.out, HZN.out, HBN.out⟩, by simp [intOf]; omega⟩
          · rw [if_neg (fun h => hn h.2)] at HNX
            have hdn : decide (lt < r.n) = false := decide_eq_false hn
            clear hk3 hk4
            go_wp2
            exact ⟨⟨k + 1, by go_num, by omega, by rw [HNX.out]; exact HX.out, HZ.out, HB.out⟩, by simp [intOf]; omega⟩
        · have h4 : (r.kind == 4) = false := by rw [beq_eq_false_iff_ne]; exact hk4
          rw [if_neg (c := r.kind = 4 ∧ _) (fun h => hk4 h.1)] at HNX
          by_cases hk6 : r.kind = 6
          · have h6 : (r.kind == 6) = true := by rw [beq_iff_eq]; exact hk6
            have f5 := HX.out.frozen 5
            by_cases hn : ic < r.n
            · rw [if_pos ⟨hk6, hn⟩] at HNX
              have HXN := Lib.hid (HX.out.put1 5 (.int .i64 r.n) ⟨[], [], [], hd, r.n, lt⟩ nilS nilS nilS rfl)
              have HZN := Lib.hid (HZ.out.other (p := ⟨gs, 5, none⟩) HGZ.out.symm (.int .i64 r.n))
              have HBN := Lib.hid (HB.out.setCell (p := ⟨gs, 5, none⟩) HGS.out (.int .i64 r.n))
              have hdn : decide (ic < r.n) = true := decide_eq_true hn
              clear hk3 hk4 hk6
              go_wp2
              exact ⟨⟨k + 1, by go_num, by omega, by rw [HNX.out]; exact HXN.out, HZN.out, HBN.out⟩, by simp [intOf]; omega⟩
            · rw [if_neg (fun h => hn h.2)] at HNX
              have hdn : decide (ic < r.n) = false := decide_eq_false hn
              clear hk3 hk4 hk6
              go_wp2
              exact ⟨⟨k + 1, by go_num, by omega, by rw [HNX.out]; exact HX.out, HZ.out, HB.out⟩, by simp [intOf]; omega⟩
          · have h6 : (r.kind == 6) = false := by rw [beq_eq_false_iff_ne]; exact hk6
            rw [if_neg (fun h => hk6 h.1)] at HNX
            clear hk3 hk4 hk6
            go_wp2
            exact ⟨⟨k + 1, by go_num, by omega, by rw [HNX.out]; exact HX.out, HZ.out, HB.out⟩, by simp [intOf]; omega⟩
    · have hkn : k = n := by omega
      have HX := Lib.hid (show Sx wl gs (selfS q l) nilS nilS nilS from by have := HX.out; rwa [List.take_of_length_le (by have := HN.out; omega)] at this)
      have hj : ¬ ((k : Int) < (n : Int)) := by omega
      clear hkn h hk
      have HVW := Lib.hid (views_o A n c l wl (HSR.out.all HB.out) HOK.out)
      go_wp2_with fail
      refine HVW.out.mono ?_
      rintro e w5 ⟨A3, n3, c3, rfl, hv5, hb5⟩
      have HOV := Lib.hid (hv5.base HB.out.size)
      have HX := Lib.hid (HX.out.all hb5); have HZ := Lib.hid (HZ.out.all hb5); have HB := Lib.hid (HB.out.trans (hb5.mono HB.out.size)); clear hv5 hb5
      have HVL := Lib.hid (show n3 = (viewsL l).length from HOV.out.1)
      have HV4 := Lib.hid (show n3 ≤ 4096 from by rw [HVL.out, views_up]; exact up_len _ _)
      have HO := Lib.hid (show Ost w5 w.heap.size gs gz (ofV ((viewsL l).take 0) q l) nilS nilS nilS [] [] A3 n3 c3 (viewsL l) from ⟨HX.out, HZ.out, HGZ.out, HOV.out, Rg.own_noneG KB _ _, ⟨rfl, by simp⟩, Rg.own_noneG KCs _ _, ⟨rfl, by simp [ofV]⟩, Rg.own_noneG KI _ _⟩)
      clear HX HZ HOV
      go_wp2
      go_loopw [65] (fun i wr => ∃ (b c1 c2 : Sl) (xs ys : List ((Nat × Nat) × Sl)) (k : Nat), i = .int .i64 k ∧ k ≤ n3 ∧ Ost wr w.heap.size gs gz (ofV ((viewsL l).take k) q l) b c1 c2 xs ys A3 n3 c3 (viewsL l) ∧ Below w.heap.size w wr) (fun i _ => n3 - (intOf i).toNat)
      case atStart => exact ⟨_, _, _, _, _, 0, rfl, by omega, HO.out, HB.out⟩
      case round =>
        clear HO HB
        rename World => wl
        obtain ⟨sb, sc, si, xs, ys, k, rfl, hk, ho, hb⟩ := hrel
        have HO := Lib.hid ho; have HB := Lib.hid hb
        clear ho hb
        have hk4 : n3 ≤ 4096 := HV4.out
        by_cases h : k < n3
        · obtain ⟨b, o, rfl, hbB, hcell⟩ := HO.out.v.rs (by rw [← HVL.out]; omega)
          have hkl : k < (viewsL l).length := by rw [← HVL.out]; exact h
          have hz : (viewsL l)[k]? = some (viewsL l)[k] := List.getElem?_eq_getElem hkl
          have hc0 : wl.cell? ⟨b, o + k * 2, none⟩ = some (.int .i64 ((viewsL l)[k].1 : Int)) := hcell k (viewsL l)[k] hz 0 _ rfl
          have hc1 : wl.cell? ⟨b, o + k * 2 + 1, none⟩ = some (.int .i64 ((viewsL l)[k].2 : Int)) := hcell k (viewsL l)[k] hz 1 _ rfl
          have HNX : Hid (ofV ((viewsL l).take (k + 1)) q l = putI (putC (putB (ofV ((viewsL l).take k) q l) (viewsL l)[k] (bookL l (viewsL l)[k])) (viewsL l)[k] (cellsL l (viewsL l)[k])) (viewsL l)[k] (intL l (viewsL l)[k])) := Lib.hid (by rw [take_snocR hz]; exact ofV_snoc _ _ _ _)
          have HLN : Hid (((ofV ((viewsL l).take k) q l).books.length ≤ 4095 ∧ (ofV ((viewsL l).take k) q l).cells.length ≤ 4095 ∧ (ofV ((viewsL l).take k) q l).ints.length ≤ 4095)) := Lib.hid (by
            have := ofV_len ((viewsL l).take k) q l
            rw [List.length_take] at this
            have := HV4.out
            omega)
          generalize (viewsL l)[k] = x at hc0 hc1 HNX
          generalize ofV ((viewsL l).take k) q l = s0 at HO HNX HLN
          clear hz hkl hcell hbB
          go_upto_region 15 with (fail)
          have HV := Lib.hid (show Chgw.Vi (wl.alloc (.cells #[.int .i64 (x.1 : Int), .int .i64 (x.2 : Int)] 26)) wl.heap.size (x.1 : Int) (x.2 : Int) from hat _ _ _ rfl)
          have HNE : Hid (wl.heap.size ≠ gs) := Lib.hid (by have := HO.out.x.lt; omega)
          have HO := Lib.hid (HO.out.alloc (.cells #[.int .i64 (x.1 : Int), .int .i64 (x.2 : Int)] 26))
          have HB := Lib.hid (bal HB.out (Nat.le_refl _) (.cells #[.int .i64 (x.1 : Int), .int .i64 (x.2 : Int)] 26))
          generalize wl.alloc (.cells #[.int .i64 (x.1 : Int), .int .i64 (x.2 : Int)] 26) = wm at HV HO HB ⊢
          generalize wl.heap.size = gv at HV HNE ⊢
          clear hc0 hc1
          refine wp_region_held_drew (S := fun W' => Below wm.heap.size wm W') (by kernel_rfl) (Below.refl _ _).drew (fun hHeld => ?_)
          generalize wm.drew = w5 at hHeld ⊢
          have HB5 : Hid (Below wm.heap.size wm w5) := hHeld
          clear hHeld
          have HQV : Hid (∀ W, Below wm.heap.size wm W → Chgw.Vi W gv (x.1 : Int) (x.2 : Int)) := Lib.hid (fun W hb => (hb.block gv (Array.getElem?_eq_some_iff.1 HV.out).1).trans HV.out)
          refine take_in (i := 0) (oi := ⟨_, _, _, _, _, _⟩) (v := ?_) rfl (by kernel_rfl) (by kernel_rfl) (by kernel_rfl) (fun _ _ _ h => h) (by rfl) ?_ HB5.out ?_
          rotate_left
          · intro W hW; have hv := HQV.out W hW; have v0 := hv.c0; have v1 := hv.c1; go_simp; with_reducible rfl
          simp only [Act.put, List.setIfInBounds_toArray, List.set_cons_zero, List.set_cons_succ]
          refine take_in (i := 1) (oi := ⟨_, _, _, _, _, _⟩) (v := ?_) rfl (by kernel_rfl) (by kernel_rfl) (by kernel_rfl) (fun _ _ _ h => h) (by rfl) ?_ HB5.out ?_
          rotate_left
          · intro W hW; have hv := HQV.out W hW; have v0 := hv.c0; have v1 := hv.c1; go_simp; with_reducible rfl
          simp only [Act.put, List.setIfInBounds_toArray, List.set_cons_zero, List.set_cons_succ]
          refine take_in (i := 3) (oi := ⟨_, _, _, _, _, _⟩) (v := ?_) rfl (by kernel_rfl) (by kernel_rfl) (by kernel_rfl) (fun _ _ _ h => h) (by rfl) ?_ HB5.out ?_
          rotate_left
          · intro W hW; have hv := HQV.out W hW; have v0 := hv.c0; have v1 := hv.c1; go_simp; with_reducible rfl
          simp only [Act.put, List.setIfInBounds_toArray, List.set_cons_zero, List.set_cons_succ]
          refine take_in (i := 4) (oi := ⟨_, _, _, _, _, _⟩) (v := ?_) rfl (by kernel_rfl) (by kernel_rfl) (by kernel_rfl) (fun _ _ _ h => h) (by rfl) ?_ HB5.out ?_
          rotate_left
          · intro W hW; have hv := HQV.out W hW; have v0 := hv.c0; have v1 := hv.c1; go_simp; with_reducible rfl
          simp only [Act.put, List.setIfInBounds_toArray, List.set_cons_zero, List.set_cons_succ]
          refine wpAnyH_ready (rs := [2]) (by kernel_rfl) (by simp) ?_
          refine AllReadyH.cons (o := ⟨_, _, _, _, _, _⟩) rfl (fun K hK => ?_) AllReadyH.nil
          go_simp
          refine (book_o _ n c l x w5 (HSR.out.all (HB.out.trans (HB5.out.mono HB.out.size))) HOK.out).mono ?_
          rintro e w6 ⟨b5, n5, d5, rfl, hs5, hb5⟩
          have HB6 := Lib.hid (HB5.out.trans (hb5.mono HB5.out.size)); clear hb5
          have HS5 := Lib.hid (hs5.base (Nat.le_trans HB.out.size HB5.out.size)); clear hs5
          refine hK.out _ _ HB6.out (fun _ => ?_)
          clear hK K
          refine wpAnyH_ready (rs := [5]) (by kernel_rfl) (by simp) ?_
          refine AllReadyH.cons (o := ⟨_, _, _, _, _, _⟩) rfl (fun K hK => ?_) AllReadyH.nil
          go_simp
          refine (cells_o _ n c l x w6 (HSR.out.all (HB.out.trans (HB6.out.mono HB.out.size))) HOK.out).mono ?_
          rintro e w7 ⟨b6, n6, d6, rfl, hs6, hb6⟩
          have HB7 := Lib.hid (HB6.out.trans (hb6.mono HB6.out.size))
          have HS5 := Lib.hid (HS5.out.below hb6 (Nat.le_refl _)); clear hb6
          have HS6 := Lib.hid (hs6.base (Nat.le_trans HB.out.size HB6.out.size)); clear hs6
          refine hK.out _ _ HB7.out (fun _ => ?_)
          clear hK K
          refine take_in (i := 6) (oi := ⟨_, _, _, _, _, _⟩) (v := ?_) rfl (by kernel_rfl) (by kernel_rfl) (by kernel_rfl) (fun _ _ _ h => h) (by rfl) ?_ HB7.out ?_
          rotate_left
          · intro W hW; go_simp; with_reducible rfl
          simp only [Act.put, List.setIfInBounds_toArray, List.set_cons_zero, List.set_cons_succ]
          refine take_in (i := 7) (oi := ⟨_, _, _, _, _, _⟩) (v := ?_) rfl (by kernel_rfl) (by kernel_rfl) (by kernel_rfl) (fun _ _ _ h => h) (by rfl) ?_ HB7.out ?_
          rotate_left
          · intro W hW; go_simp; with_reducible rfl
          simp only [Act.put, List.setIfInBounds_toArray, List.set_cons_zero, List.set_cons_succ]
          refine wpAnyH_done (by kernel_rfl) ?_ _
          have HO := Lib.hid (HO.out.below HB7.out)
          have HV := Lib.hid (HQV.out _ HB7.out)
          have HB := Lib.hid (HB.out.trans (HB7.out.mono HB.out.size))
          clear HB5 HB6 HB7 HQV
          have HN5 := Lib.hid (show n5 = (bookL l x).length from HS5.out.1)
          have HN6 := Lib.hid (show n6 = (cellsL l x).length from HS6.out.1)
          have HIX := Lib.hid (fun W h => intent_o A n c l x W h HOK.out)
          generalize bookL l x = bk at HNX HS5 HN5
          generalize cellsL l x = cl at HNX HS6 HN6
          generalize intL l x = io at HNX HIX
          go_upto_if 77 with (fail)
          go_cut [] (fun wq => ∃ (sb' : Sl) (xs' : List ((Nat × Nat) × Sl)), Ost wq w.heap.size gs gz (putB s0 x bk) sb' sc si xs' ys (some ⟨b, o, none⟩) n3 c3 (viewsL l) ∧ Rg.OwnG KC wq w.heap.size b6 n6 d6 cl ∧ Chgw.Vi wq gv (x.1 : Int) (x.2 : Int) ∧ Below w.heap.size w wq)
          case first =>
            have v0 := HV.out.c0; have v1 := HV.out.c1
            obtain ⟨z0, z1, z2, z3, z4, z5, z6⟩ := HO.out.x.cs
            by_cases hbk : bk = []
            · have HK := Lib.hid (show putB s0 x bk = s0 from if_pos hbk)
              have hn0 : n5 = 0 := by rw [HN5.out, hbk]; rfl
              subst hn0
              clear hbk
              go_wp2
              go_meet
              case rel => exact ⟨sb, xs, by rw [HK.out]; exact HO.out, HS6.out, HV.out, HB.out⟩
            · have HK := Lib.hid (show putB s0 x bk = { s0 with books := s0.books ++ [(x, bk)] } from if_neg hbk)
              have hn0 : (0 : Int) < (n5 : Int) := by
                have := HN5.out
                have := List.length_pos_iff.2 hbk
                omega
              have hdn : decide ((0 : Int) < (n5 : Int)) = true := decide_eq_true hn0
              clear hbk
              have HBN := Lib.hid (show (sb.n + 1) * 40 ≤ 140737488355328 from by have h1 := HO.out.ob.1; have h2 := HO.out.ib.1; have := HLN.out.1; omega)
              have HRW := Lib.hid (one_kb w7 x ⟨b5, n5, d5⟩)
              have HO7 := Lib.hid (HO.out.alloc (.cells #[.int .i64 (x.1 : Int), .int .i64 (x.2 : Int), .slice b5 n5 d5] 69))
              have HS57 := Lib.hid (HS5.out.alloc (.cells #[.int .i64 (x.1 : Int), .int .i64 (x.2 : Int), .slice b5 n5 d5] 69)); have HS67 := Lib.hid (HS6.out.alloc (.cells #[.int .i64 (x.1 : Int), .int .i64 (x.2 : Int), .slice b5 n5 d5] 69))
              have HV7 := Lib.hid (show Chgw.Vi (w7.alloc (.cells #[.int .i64 (x.1 : Int), .int .i64 (x.2 : Int), .slice b5 n5 d5] 69)) gv (x.1 : Int) (x.2 : Int) from hbe HV.out)
              have HB7 := Lib.hid (bal HB.out (Nat.le_refl _) (.cells #[.int .i64 (x.1 : Int), .int .i64 (x.2 : Int), .slice b5 n5 d5] 69))
              go_wp2_with (at_builtin; refine Rg.wp_appGg (K := KB) rfl (.tmp 79) (.tmp 83) rfl w.heap.size sb.a sb.n sb.c xs rfl HO7.out.ob _ _ 1 1 [(x, ⟨b5, n5, d5⟩)] rfl rfl HRW.out HBN.out HB7.out.size ?_; intro A9 c9 w9 ho9 hb9 hg9; have f0 : w9.frozen? ⟨gs, 0, none⟩ = false := frozen_of_row w9 gs 0 _ _ (Rg.blk_apart HO7.out.x HO7.out.ob.2 (by decide) hg9); have g0 : w9.cell? ⟨gs, 0, none⟩ = some (.slice sb.a sb.n sb.c) := by rw [cell_of_row _ _ _ _ _ _ (Rg.blk_apart HO7.out.x HO7.out.ob.2 (by decide) hg9)]; rfl)
              go_meet
              case rel =>
                have HP := HO7.out.pushB (q := x) (sl := ⟨b5, n5, d5⟩) (bk := bk) ho9 hg9 HS57.out
                refine ⟨⟨A9, sb.n + 1, c9⟩, _, by rw [HK.out]; exact HP, ⟨HS67.out.1, row_store (Rg.blk_apart HO7.out.x HO7.out.ob.2 (by decide) hg9) (Rg.rows_apart HS67.out.2 HO7.out.ob.2 (by decide) hg9) (by decide) _⟩, vi_grown HV7.out HO7.out.ob.2 (by decide) hg9 HNE.out _, (HB7.out.trans hb9).setCell HGS.out _⟩
          case rest =>
            clear HO HV HB HS5 HS6
            obtain ⟨sb', xs', ho, hs6, hv, hb⟩ := hcut
            have HO := Lib.hid ho; have HS6 := Lib.hid hs6; have HV := Lib.hid hv; have HB := Lib.hid hb
            clear ho hs6 hv hb
            have HLN : Hid ((putB s0 x bk).cells.length ≤ 4095 ∧ (putB s0 x bk).ints.length ≤ 4095) := Lib.hid (by rw [(putB_ci s0 x bk).1, (putB_ci s0 x bk).2]; exact HLN.out.2)
            generalize putB s0 x bk = s1 at HO HLN HNX
            go_upto_if 88 with (fail)
            go_cut [] (fun wq => ∃ (sc' : Sl) (ys' : List ((Nat × Nat) × Sl)), Ost wq w.heap.size gs gz (putC s1 x cl) sb' sc' si xs' ys' (some ⟨b, o, none⟩) n3 c3 (viewsL l) ∧ Chgw.Vi wq gv (x.1 : Int) (x.2 : Int) ∧ Below w.heap.size w wq)
            case first =>
              have v0 := HV.out.c0; have v1 := HV.out.c1
              obtain ⟨z0, z1, z2, z3, z4, z5, z6⟩ := HO.out.x.cs
              by_cases hbk : cl = []
              · have HK := Lib.hid (show putC s1 x cl = s1 from if_pos hbk)
                have hn0 : n6 = 0 := by rw [HN6.out, hbk]; rfl
                subst hn0
                clear hbk
                go_wp2
                go_meet
                case rel => exact ⟨sc, ys, by rw [HK.out]; exact HO.out, HV.out, HB.out⟩
              · have HK := Lib.hid (show putC s1 x cl = { s1 with cells := s1.cells ++ [(x, cl)] } from if_neg hbk)
                have hn0 : (0 : Int) < (n6 : Int) := by
                  have := HN6.out
                  have := List.length_pos_iff.2 hbk
                  omega
                have hdn : decide ((0 : Int) < (n6 : Int)) = true := decide_eq_true hn0
                clear hbk
                rename World => wy
                have HBN := Lib.hid (show (sc.n + 1) * 40 ≤ 140737488355328 from by have h1 := HO.out.oc.1; have h2 := HO.out.ic.1; have := HLN.out.1; omega)
                have HRW := Lib.hid (one_kc wy x ⟨b6, n6, d6⟩)
                have HO7 := Lib.hid (HO.out.alloc (.cells #[.int .i64 (x.1 : Int), .int .i64 (x.2 : Int), .slice b6 n6 d6] 71))
                have HS67 := Lib.hid (HS6.out.alloc (.cells #[.int .i64 (x.1 : Int), .int .i64 (x.2 : Int), .slice b6 n6 d6] 71))
                have HV7 := Lib.hid (show Chgw.Vi (wy.alloc (.cells #[.int .i64 (x.1 : Int), .int .i64 (x.2 : Int), .slice b6 n6 d6] 71)) gv (x.1 : Int) (x.2 : Int) from hbe HV.out)
                have HB7 := Lib.hid (bal HB.out (Nat.le_refl _) (.cells #[.int .i64 (x.1 : Int), .int .i64 (x.2 : Int), .slice b6 n6 d6] 71))
                go_wp2_with (at_builtin; refine Rg.wp_appGg (K := KCs) rfl (.tmp 90) (.tmp 94) rfl w.heap.size sc.a sc.n sc.c ys rfl HO7.out.oc _ _ 1 1 [(x, ⟨b6, n6, d6⟩)] rfl rfl HRW.out HBN.out HB7.out.size ?_; intro A9 c9 w9 ho9 hb9 hg9; have f0 : w9.frozen? ⟨gs, 1, none⟩ = false := frozen_of_row w9 gs 1 _ _ (Rg.blk_apart HO7.out.x HO7.out.oc.2 (by decide) hg9); have g0 : w9.cell? ⟨gs, 1, none⟩ = some (.slice sc.a sc.n sc.c) := by rw [cell_of_row _ _ _ _ _ _ (Rg.blk_apart HO7.out.x HO7.out.oc.2 (by decide) hg9)]; rfl)
                go_meet
                case rel =>
                  have HP := HO7.out.pushC (q := x) (sl := ⟨b6, n6, d6⟩) (bk := cl) ho9 hg9 HS67.out
                  refine ⟨⟨A9, sc.n + 1, c9⟩, _, by rw [HK.out]; exact HP, vi_grown HV7.out HO7.out.oc.2 (by decide) hg9 HNE.out _, (HB7.out.trans hb9).setCell HGS.out _⟩
            case rest =>
              clear HO HV HB HS6
              obtain ⟨sc', ys', ho, hv, hb⟩ := hcut
              have HO := Lib.hid ho; have HV := Lib.hid hv; have HB := Lib.hid hb
              clear ho hv hb
              have HLN : Hid ((putC s1 x cl).ints.length ≤ 4095) := Lib.hid (by rw [putC_i s1 x cl]; exact HLN.out.2)
              generalize putC s1 x cl = s2 at HO HLN HNX
              rename World => wy
              have v0 := HV.out.c0; have v1 := HV.out.c1
              have HIY := Lib.hid (HIX.out wy (HSR.out.all HB.out))
              go_wp2_with fail
              refine HIY.out.mono ?_
              rintro e w8 ⟨rfl, hb8⟩
              have HO := Lib.hid (HO.out.below hb8)
              have HV := Lib.hid (show Chgw.Vi w8 gv (x.1 : Int) (x.2 : Int) from (hb8.block gv (Array.getElem?_eq_some_iff.1 HV.out).1).trans HV.out)
              have HB := Lib.hid (HB.out.trans (hb8.mono HB.out.size)); clear hb8 v0 v1 HIY HIX
              cases io with
              | none =>
                have HK := Lib.hid (show putI s2 x none = s2 from rfl)
                go_wp2
                exact ⟨⟨_, _, _, _, _, k + 1, by go_num, by omega, by rw [HNX.out]; exact HO.out.alloc _, bal HB.out (Nat.le_refl _) _⟩, by simp [intOf]; omega⟩
              | some y =>
                simp only [inV, Option.getD_some, Option.isSome_some]
                have HNE2 := Lib.hid (show w8.heap.size ≠ gs from by have := HO.out.x.lt; omega)
                go_upto_region 21 with (fail)
                have HY := Lib.hid (show Chgw.Vi (w8.alloc (.cells #[.int .i64 (y.1 : Int), .int .i64 (y.2 : Int)] 26)) w8.heap.size (y.1 : Int) (y.2 : Int) from hat _ _ _ rfl)
                have HV := Lib.hid (show Chgw.Vi (w8.alloc (.cells #[.int .i64 (y.1 : Int), .int .i64 (y.2 : Int)] 26)) gv (x.1 : Int) (x.2 : Int) from hbe HV.out)
                have HO := Lib.hid (HO.out.alloc (.cells #[.int .i64 (y.1 : Int), .int .i64 (y.2 : Int)] 26))
                have HB := Lib.hid (bal HB.out (Nat.le_refl _) (.cells #[.int .i64 (y.1 : Int), .int .i64 (y.2 : Int)] 26))
                generalize w8.alloc (.cells #[.int .i64 (y.1 : Int), .int .i64 (y.2 : Int)] 26) = wz at HY HV HO HB ⊢
                generalize w8.heap.size = gy at HY HNE2 ⊢
                have v0 := HV.out.c0; have v1 := HV.out.c1
                have y0 := HY.out.c0; have y1 := HY.out.c1
                obtain ⟨z0, z1, z2, z3, z4, z5, z6⟩ := HO.out.x.cs
                have HK := Lib.hid (show putI s2 x (some y) = { s2 with ints := s2.ints ++ [(x, y)] } from rfl)
                have HBN := Lib.hid (show (si.n + 1) * 32 ≤ 140737488355328 from by have h1 := HO.out.oi.1; have := HLN.out; omega)
                have HRW := Lib.hid (one_ki wz x y)
                have HO7 := Lib.hid (HO.out.alloc (.cells #[.int .i64 (x.1 : Int), .int .i64 (x.2 : Int), .int .i64 (y.1 : Int), .int .i64 (y.2 : Int)] 73))
                have HB7 := Lib.hid (bal HB.out (Nat.le_refl _) (.cells #[.int .i64 (x.1 : Int), .int .i64 (x.2 : Int), .int .i64 (y.1 : Int), .int .i64 (y.2 : Int)] 73))
                go_wp2_with (at_builtin; refine Rg.wp_appGg (K := KI) rfl (.tmp 105) (.tmp 109) rfl w.heap.size si.a si.n si.c s2.ints rfl HO7.out.oi _ _ 1 1 [(x, y)] rfl rfl HRW.out HBN.out HB7.out.size ?_; intro A9 c9 w9 ho9 hb9 hg9; have f0 : w9.frozen? ⟨gs, 2, none⟩ = false := frozen_of_row w9 gs 2 _ _ (Rg.blk_apart HO7.out.x HO7.out.oi.2 (by decide) hg9); have g0 : w9.cell? ⟨gs, 2, none⟩ = some (.slice si.a si.n si.c) := by rw [cell_of_row _ _ _ _ _ _ (Rg.blk_apart HO7.out.x HO7.out.oi.2 (by decide) hg9)]; rfl)
                have HP := Lib.hid (HO7.out.pushI (q := x) (x := y) ho9 hg9)
                exact ⟨⟨_, _, ⟨A9, si.n + 1, c9⟩, _, _, k + 1, by go_num, by omega, by rw [HNX.out, HK.out]; exact HP.out, (HB7.out.trans hb9).setCell HGS.out _⟩, by simp [intOf]; omega⟩
        · have hkn : k = n3 := by omega
          have HO := Lib.hid (show Ost wl w.heap.size gs gz (ofL q l) sb sc si xs ys A3 n3 c3 (viewsL l) from by have := HO.out; rwa [List.take_of_length_le (by have := HVL.out; omega)] at this)
          have hj : ¬ ((k : Int) < (n3 : Int)) := by omega
          clear hkn h hk
          have HLN := Lib.hid (show ((ofL q l).books.length ≤ 4096 ∧ (ofL q l).cells.length ≤ 4096 ∧ (ofL q l).ints.length ≤ 4096) from by
            have := ofV_len (viewsL l) q l
            have := HVL.out
            have := HV4.out
            show (ofV (viewsL l) q l).books.length ≤ 4096 ∧ (ofV (viewsL l) q l).cells.length ≤ 4096 ∧ (ofV (viewsL l) q l).ints.length ≤ 4096
            omega)
          have HWF := Lib.hid (wf_ofL HQ.out HOK.out)
          have HP := Lib.hid (HO.out.ors.put HO.out.z (ofL q l) sb sc si)
          generalize hse : ofL q l = sf at HO HLN HWF HP
          have HSE := Lib.hid hse; clear hse
          have HBF := Lib.hid (show Below w.heap.size w (((((((wl.setCell ⟨gz, 0, none⟩ (.slice sb.a sb.n sb.c)).setCell ⟨gz, 1, none⟩ (.slice sc.a sc.n sc.c)).setCell ⟨gz, 2, none⟩ (.slice si.a si.n si.c)).setCell ⟨gz, 3, none⟩ (.int .i64 (sf.held.1 : Int))).setCell ⟨gz, 4, none⟩ (.int .i64 (sf.held.2 : Int))).setCell ⟨gz, 5, none⟩ (.int .i64 sf.inc)).setCell ⟨gz, 6, none⟩ (.int .i64 sf.last)) from (((((((HB.out.setCell HGZS.out _).setCell HGZS.out _).setCell HGZS.out _).setCell HGZS.out _).setCell HGZS.out _).setCell HGZS.out _).setCell HGZS.out _))
          obtain ⟨z0, z1, z2, z3, z4, z5, z6⟩ := HO.out.x.cs
          obtain ⟨y0, y1, y2, y3, y4, y5, y6⟩ := HO.out.z.cs
          have f0 := HO.out.z.frozen 0; have f1 := HO.out.z.frozen 1; have f2 := HO.out.z.frozen 2; have f3 := HO.out.z.frozen 3; have f4 := HO.out.z.frozen 4; have f5 := HO.out.z.frozen 5; have f6 := HO.out.z.frozen 6
          simp only [zeroSt, nilS] at y0 y1 y2 y3 y4 y5 y6
          go_wp2
          refine bodyPost_ret (results_state (g := gz) (s := sf) (b := sb) (c := sc) (i := si) rfl rfl HP.out.2) rfl ?_
          rw [HSE.out]
          exact ⟨sb, sc, si, rfl, HP.out.1.sto HWF.out HLN.out.1 HLN.out.2.1 HLN.out.2.2, HBF.out⟩
end Go.Proofs.YtfblnomkafimhaaGreat.Fow
