/- The answers of layer 2's functions in one form, whichever way they end; a copy of bytes. -/
import Derived.Test.YtlfolpbgekchjaaWireT
namespace Go.Proofs.Ytlfolpbgekchjaa
open Go.RowKit
open Wire

def gE {α : Type} (o : Option α) : Int := if o.isSome then 0 else 21
def gV (o : Option (Nat × List UInt8)) : Nat := (o.map (·.1)).getD 0
def gR {α : Type} (o : Option (α × List UInt8)) : List UInt8 := (o.map (·.2)).getD []
def gL {α : Type} (o : Option (List α × List UInt8)) : List α := (o.map (·.1)).getD []

theorem RetGet.flat {w : World} {o : Option (Nat × List UInt8)} {e : Ending} {w' : World} (h : RetGet w o e w') :
    ∃ A n c, e = .returned (.tuple #[.int .u64 (gV o), .slice A n c, .int .i64 (gE o)]) ∧ n = (gR o).length ∧ n ≤ c ∧ Rd w' w'.heap.size A ((gR o).map B8) ∧ Below w.heap.size w w' := by
  obtain ⟨hb, h⟩ := h
  cases o with
  | none => exact ⟨none, 0, 0, h, rfl, Nat.le_refl _, Rd.nil, hb⟩
  | some x =>
    obtain ⟨A, n, c, he, ho⟩ := h
    exact ⟨A, n, c, he, ho.1, ho.cap, ho.rd, hb⟩
theorem RetGets.flat {w : World} {o : Option (List Nat × List UInt8)} {e : Ending} {w' : World} (h : RetGets w o e w') :
    ∃ A n c A2 n2 c2, e = .returned (.tuple #[.slice A n c, .slice A2 n2 c2, .int .i64 (gE o)]) ∧ n = (gL o).length ∧ n2 = (gR o).length ∧ Rd w' w'.heap.size A ((gL o).map N64) ∧ Rd w' w'.heap.size A2 ((gR o).map B8) ∧ Below w.heap.size w w' := by
  obtain ⟨hb, h⟩ := h
  cases o with
  | none => exact ⟨none, 0, 0, none, 0, 0, h, rfl, rfl, Rd.nil, Rd.nil, hb⟩
  | some x =>
    obtain ⟨A, n, c, A2, n2, c2, he, ho, hp⟩ := h
    exact ⟨A, n, c, A2, n2, c2, he, ho.1, hp.1, ho.rd, hp.rd, hb⟩
theorem RetCut.flat {w : World} {o : Option (List UInt8 × List UInt8)} {e : Ending} {w' : World} (h : RetCut w o e w') :
    ∃ A n c A2 n2 c2, e = .returned (.tuple #[.slice A n c, .slice A2 n2 c2, .int .i64 (gE o)]) ∧ n = (gL o).length ∧ n2 = (gR o).length ∧ Rd w' w'.heap.size A ((gL o).map B8) ∧ Rd w' w'.heap.size A2 ((gR o).map B8) ∧ Below w.heap.size w w' := by
  obtain ⟨hb, h⟩ := h
  cases o with
  | none => exact ⟨none, 0, 0, none, 0, 0, h, rfl, rfl, Rd.nil, Rd.nil, hb⟩
  | some x =>
    obtain ⟨A, n, c, A2, n2, c2, he, ho, hp⟩ := h
    exact ⟨A, n, c, A2, n2, c2, he, ho.1, hp.1, ho.rd, hp.rd, hb⟩
theorem RetCutR.flat {w : World} {o : Option (List UInt8 × List UInt8)} {e : Ending} {w' : World} (h : RetCutR w o e w') :
    ∃ A n c A2 n2 c2, e = .returned (.tuple #[.slice A n c, .slice A2 n2 c2, .int .i64 (gE o)]) ∧ n = (gL o).length ∧ n2 = (gR o).length ∧ Rd w' w'.heap.size A ((gL o).map B8) ∧ Rd w' w'.heap.size A2 ((gR o).map B8) ∧ Below w.heap.size w w' := by
  obtain ⟨hb, h⟩ := h
  cases o with
  | none => exact ⟨none, 0, 0, none, 0, 0, h, rfl, rfl, Rd.nil, Rd.nil, hb⟩
  | some x =>
    obtain ⟨A, n, c, A2, n2, c2, he, h1, h2, h3, h4⟩ := h
    exact ⟨A, n, c, A2, n2, c2, he, h1, h2, h3, h4, hb⟩

theorem wp_copy8 {ops : Array Oper} {rest : List Oper} {o : Oper} {a : Act} {Q : Exit → Act → World → Prop} (hgd : o.guard = none) (s x : Operand)
    (ho : o.op = .call { callee := .builtin .append, args := #[s, x], argTypes := #[23, 23] })
    (w0 : World) (hs : a.eval s = .slice (some ⟨w0.heap.size, 0, none⟩) 0 0)
    (B : Nat) (A : Option Addr) (m c : Nat) (news : List UInt8) (hx : a.eval x = .slice A m c) (hm : m = news.length) (hr : Rd w0 B A (news.map B8)) (hB : B ≤ w0.heap.size) (hb : m ≤ big)
    (h : ∀ A' c' w', Own w' w0.heap.size A' m c' news → Below w0.heap.size w0 w' → wpList Try.prog ops Q rest (a.put o.dst (.slice A' m c')) w') : wpList Try.prog ops Q (o :: rest) a (w0.alloc (.cells #[] 5)) := by
  refine wp_app8 hgd s x ho w0.heap.size _ 0 0 [] hs (own_new w0 _ [] (Nat.le_refl _) (by simp)) B A m c news hx hm (hr.below ((Below.refl _ _).alloc hB _)) (by omega) (by simp) fun A' c' w' h1 h2 => ?_
  rw [Nat.zero_add] at h1 ⊢
  exact h A' c' w' h1 (((Below.refl _ _).alloc (Nat.le_refl _) _).trans h2)

/-- a slice of bytes as a string, in every world behind which it is read -/
theorem str8 {w : World} {B : Nat} {A : Option Addr} {n : Nat} (c : Nat) {bs : List UInt8} (hr : Rd w B A (bs.map B8)) (hn : n = bs.length) (q : Nat) : (convert 23 9 (.slice A n c)).run Try.prog (w.drewN q) = .ok (.string (str bs)) (w.drewN q) :=
  run_str (P := Try.prog) Try.underlying23 Try.underlying5 Try.underlying9 (hr.drewN q) hn
theorem str8' {w : World} {B : Nat} {A : Option Addr} {n : Nat} (c : Nat) {bs : List UInt8} (hr : Rd w B A (bs.map B8)) (hn : n = bs.length) : (convert 23 9 (.slice A n c)).run Try.prog w = .ok (.string (str bs)) w :=
  run_str (P := Try.prog) Try.underlying23 Try.underlying5 Try.underlying9 hr hn
end Go.Proofs.Ytlfolpbgekchjaa
