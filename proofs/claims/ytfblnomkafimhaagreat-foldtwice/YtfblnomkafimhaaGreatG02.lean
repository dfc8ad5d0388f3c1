/- Contracts and words on which the claims of this seat stand, part 2: WireC WireG WireH WireR WireS WireT WireF. -/
import Derived.Test.YtfblnomkafimhaaGreatG01
import Derived.BigQuiet
import Derived.Deep.QuietTactic
import Derived.WalkSpells
import Derived.Laws.BitsAllLaws
import Derived.Deep.RegionWith
set_option linter.unusedSimpArgs false
set_option linter.unusedVariables false
namespace Go.Proofs.YtfblnomkafimhaaGreat
set_option maxRecDepth 20000
open Go.RowKit
open Wire

theorem info64 : (Tryz.prog.info? 148).map (fun i => (i.zero, i.size, i.bytes)) = some (some (.int .u64 0), 1, 8) := by kernel_rfl

theorem take_flat (ns : List Nat) (k : Nat) (x : Nat) (h : ns[k]? = some x) : (ns.take (k + 1)).flatMap form = (ns.take k).flatMap form ++ form x := by
  rw [List.take_add_one, h]; simp

end Go.Proofs.YtfblnomkafimhaaGreat

namespace Go.Proofs.YtfblnomkafimhaaGreat
set_option maxRecDepth 20000
open Go.RowKit
open Wire

/-- a head and the rest in memory -/
theorem Rd.head {w : World} {B : Nat} {A : Option Addr} {s : UInt8} {l : List UInt8} (h : Rd w B A ((s :: l).map B8)) : ∃ b o, A = some ⟨b, o, none⟩ ∧ b < B ∧ w.cell? ⟨b, o, none⟩ = some (.int .u8 (s.toNat : Int)) := by
  obtain ⟨b, o, e, hb, hc⟩ := h (by simp)
  exact ⟨b, o, e, hb, hc 0 (B8 s) (by simp)⟩

def RetNo (w : World) (e : Ending) (w' : World) : Prop := e = .returned (.tuple #[.int .u64 0, .slice none 0 0, .bool false]) ∧ ∃ k, w' = w.drewN k
def RetYes (w : World) (B v : Nat) (r : List UInt8) (e : Ending) (w' : World) : Prop :=
  ∃ A n c, e = .returned (.tuple #[.int .u64 v, .slice A n c, .bool true]) ∧ n = r.length ∧ n ≤ c ∧ Rd w B A (r.map B8) ∧ ∃ k, w' = w.drewN k

theorem wrap_u64 (a : Int) (h0 : 0 ≤ a) (h : a < 18446744073709551616) : IntKind.u64.wrap a = a := by
  simp [IntKind.wrap, IntKind.signed, IntKind.bits]
  omega
theorem or_byte (a : Nat) (x : UInt8) (h : a < 256 ^ 7) : bits .or .u64 (IntKind.u64.wrap ((a : Int) * 256)) (IntKind.u64.wrap (x.toNat : Int)) = ((a * 256 + x.toNat : Nat) : Int) := by
  have hx := UInt8.toNat_lt x
  rw [wrap_u64 _ (by omega) (by omega), wrap_u64 _ (by omega) (by omega), show (a : Int) * 256 = ((a * 256 : Nat) : Int) by omega, u64_or_nat _ _ (by omega) (by omega)]
  have e := Nat.shiftLeft_add_eq_or_of_lt (show x.toNat < 2 ^ 8 by omega) a
  rw [Nat.shiftLeft_eq] at e
  rw [← e]

end Go.Proofs.YtfblnomkafimhaaGreat

namespace Go.Proofs.YtfblnomkafimhaaGreat
set_option maxRecDepth 20000
open Go.RowKit
open Wire

/-- the slice A holds the numbers ns, in a row of the call's own -/
def OwnN (w : World) (base : Nat) (A : Option Addr) (n c : Nat) (ns : List Nat) : Prop := n = ns.length ∧ w.ownsRow base 148 1 (.slice A n c) n (ns.map N64)
theorem OwnN.rd {w : World} {base : Nat} {A : Option Addr} {n c : Nat} {ns : List Nat} (h : OwnN w base A n c ns) : Rd w w.heap.size A (ns.map N64) := Rd.of_own h.2
theorem OwnN.below {w w' : World} {base B : Nat} {A : Option Addr} {n c : Nat} {ns : List Nat} (h : OwnN w base A n c ns) (hb : Below B w w') (hB : w.heap.size ≤ B) : OwnN w' base A n c ns := ⟨h.1, own_below h.2 hb hB⟩
theorem OwnN.base {w : World} {base base' : Nat} {A : Option Addr} {n c : Nat} {ns : List Nat} (h : OwnN w base A n c ns) (hB : base' ≤ base) : OwnN w base' A n c ns := ⟨h.1, own_base h.2 hB⟩
theorem OwnN.alloc {w : World} {base : Nat} {A : Option Addr} {n c : Nat} {ns : List Nat} (h : OwnN w base A n c ns) (o : Obj) : OwnN (w.alloc o) base A n c ns := ⟨h.1, h.2.alloc o⟩
theorem ownN_new (w : World) (base : Nat) (ns : List Nat) (hb : base ≤ w.heap.size) (hm : ns.length ≤ maxLen) : OwnN (w.alloc (.cells (ns.map N64).toArray 148)) base (some ⟨w.heap.size, 0, none⟩) ns.length ns.length ns :=
  ⟨rfl, by have := own_lit w base 148 (ns.map N64) hb (by simpa using hm); simpa using this⟩
theorem rd_num (w : World) (v : Int) (x : Nat) (h : v = (x : Int)) : Rd (w.alloc (.cells #[.int .u64 v] 148)) (w.heap.size + 1) (some ⟨w.heap.size, 0, none⟩) ([x].map N64) := by
  subst h
  intro _
  refine ⟨_, _, rfl, by omega, fun j u hu => ?_⟩
  rw [cell_of_row _ _ _ _ _ _ (heap_alloc_new w _)]
  simpa [N64] using hu
theorem Rd.below_back {w w' : World} {B B' : Nat} {A : Option Addr} {xs : List Value} (h : Rd w' B A xs) (hb : Below B' w w') (hB : B ≤ B') : Rd w B A xs := h.keep fun _ hp => ((hb.mono hB).cell hp).symm

/-- what Get answers -/
def RetGet (w : World) (o : Option (Nat × List UInt8)) (e : Ending) (w' : World) : Prop :=
  Below w.heap.size w w' ∧ match o with
  | none => e = .returned (.tuple #[.int .u64 0, .slice none 0 0, .int .i64 21])
  | some (v, r) => ∃ A n c, e = .returned (.tuple #[.int .u64 v, .slice A n c, .int .i64 0]) ∧ Own w' w.heap.size A n c r
/-- what Gets answers -/
def RetGets (w : World) (o : Option (List Nat × List UInt8)) (e : Ending) (w' : World) : Prop :=
  Below w.heap.size w w' ∧ match o with
  | none => e = .returned (.tuple #[.slice none 0 0, .slice none 0 0, .int .i64 21])
  | some (ns, r) => ∃ A n c A2 n2 c2, e = .returned (.tuple #[.slice A n c, .slice A2 n2 c2, .int .i64 0]) ∧ OwnN w' w.heap.size A n c ns ∧ Own w' w.heap.size A2 n2 c2 r
/-- what Text answers -/
def RetText (w : World) (b t : List UInt8) (e : Ending) (w' : World) : Prop :=
  Below w.heap.size w w' ∧ ((4000 < t.length ∧ e = .returned (.tuple #[.slice none 0 0, .int .i64 21])) ∨
    (t.length ≤ 4000 ∧ ∃ A n c, e = .returned (.tuple #[.slice A n c, .int .i64 0]) ∧ Own w' w.heap.size A n c (textF b t)))
/-- what Cut answers -/
def RetCut (w : World) (o : Option (List UInt8 × List UInt8)) (e : Ending) (w' : World) : Prop :=
  Below w.heap.size w w' ∧ match o with
  | none => e = .returned (.tuple #[.slice none 0 0, .slice none 0 0, .int .i64 21])
  | some (t, r) => ∃ A n c A2 n2 c2, e = .returned (.tuple #[.slice A n c, .slice A2 n2 c2, .int .i64 0]) ∧ Own w' w.heap.size A n c t ∧ Own w' w.heap.size A2 n2 c2 r

/-- so many numbers, many any number -/
def getsI (many : Int) (bs : List UInt8) : Option (List Nat × List UInt8) := if many < 0 ∨ 100 < many then none else getsF many.toNat bs

theorem getsF_step (m k : Nat) (bs rs : List UInt8) (ns : List Nat) (v : Nat) (r : List UInt8) (hk : k < m) (ht : takeF rs = some (v, r))
    (h : getsF m bs = (getsF (m - k) rs).map fun y => (ns ++ y.1, y.2)) : getsF m bs = (getsF (m - (k + 1)) r).map fun y => ((ns ++ [v]) ++ y.1, y.2) := by
  rw [h, show m - k = (m - (k + 1)) + 1 by omega, getsF, ht]
  simp only [Option.bind_some, Option.map_map]
  congr 1
  funext y
  simp

theorem text_aid {w w1 : World} {o : Obj} {B n m : Nat} {A1 : Option Addr} {n1 c1 : Nat} {bs : List UInt8} (_hB : B ≤ w.heap.size) (hn : n = bs.length) (ho1 : Own w1 (w.alloc o).heap.size A1 n1 c1 (bs ++ [m].flatMap form)) (hb1 : Below (w.alloc o).heap.size (w.alloc o) w1) :
    Hid (Own w1 w.heap.size A1 n1 c1 (bs ++ form m)) ∧ Hid (Below w.heap.size w w1) ∧ n1 ≤ n + 9 ∧ w.heap.size ≤ w1.heap.size := by
  have h1 : w.heap.size ≤ (w.alloc o).heap.size := by simp
  have e := ho1.1
  have h8 := sz_le m
  refine ⟨?_, ((Below.refl _ _).alloc (Nat.le_refl _) _).trans (hb1.mono h1), ?_, ?_⟩
  · show Own w1 w.heap.size A1 n1 c1 (bs ++ form m)
    have := ho1.base h1
    simpa using this
  · simp [form_len] at e; omega
  · have := hb1.size; simp at this; omega

end Go.Proofs.YtfblnomkafimhaaGreat

namespace Go.Proofs.YtfblnomkafimhaaGreat
set_option maxRecDepth 20000
open Go.RowKit
open Wire

theorem own_one (w : World) (base : Nat) (v : Int) (x : UInt8) (h : v = (x.toNat : Int)) (hb : base ≤ w.heap.size) : Own (w.alloc (.cells #[.int .u8 v] 5)) base (some ⟨w.heap.size, 0, none⟩) 1 1 [x] := by
  subst h
  exact own_new w base [x] hb (by simp [maxLen])

theorem byte_mod (k : Nat) : ((k : Int) % 256) = ((UInt8.ofNat (k % 256)).toNat : Int) := by
  rw [UInt8.toNat_ofNat', Nat.mod_mod_of_dvd _ (by decide)]; omega

end Go.Proofs.YtfblnomkafimhaaGreat

namespace Go.Proofs.YtfblnomkafimhaaGreat
set_option maxRecDepth 20000
open Go.RowKit
open Wire

theorem str_beq (a b : List UInt8) : ((str a).toList == (str b).toList) = decide (a = b) := by
  rw [str_toList, str_toList, Bool.eq_iff_iff, beq_iff_eq, decide_eq_true_iff]

theorem mul_byte (a : Nat) (x : UInt8) (h : a < 256 ^ 7) : IntKind.u64.wrap (IntKind.u64.wrap ((a : Int) * 256) + IntKind.u64.wrap (x.toNat : Int)) = ((a * 256 + x.toNat : Nat) : Int) := by
  have hx := UInt8.toNat_lt x
  rw [wrap_u64 ((a : Int) * 256) (by omega) (by omega), wrap_u64 (x.toNat : Int) (by omega) (by omega), wrap_u64 _ (by omega) (by omega)]
  omega

def sliceLen : Value → Nat | .slice _ n _ => n | _ => 0
theorem OwnN.keep {w w' : World} {base B : Nat} {A : Option Addr} {n c : Nat} {ns : List Nat} (h : OwnN w base A n c ns) (hb : Below B w w') (hB : ∀ b o, A = some ⟨b, o, none⟩ → b < B) : OwnN w' base A n c ns := by
  refine ⟨h.1, h.2.1, ?_⟩
  rcases h.2.2 with h0 | ⟨g, cap, cur, hv, hg, hh, r⟩
  · exact .inl h0
  · refine .inr ⟨g, cap, cur, hv, hg, ?_, r⟩
    injection hv with e1
    rw [hb.block g (hB g 0 e1)]
    exact hh

end Go.Proofs.YtfblnomkafimhaaGreat

namespace Go.Proofs.YtfblnomkafimhaaGreat
set_option maxRecDepth 20000
open Go.RowKit
open Wire

/-- what the document's Cut answers: two parts of one row -/
def RetCutR (w : World) (o : Option (List UInt8 × List UInt8)) (e : Ending) (w' : World) : Prop :=
  Below w.heap.size w w' ∧ match o with
  | none => e = .returned (.tuple #[.slice none 0 0, .slice none 0 0, .int .i64 21])
  | some (t, r) => ∃ A n c A2 n2 c2, e = .returned (.tuple #[.slice A n c, .slice A2 n2 c2, .int .i64 0]) ∧ n = t.length ∧ n2 = r.length ∧ Rd w' w'.heap.size A (t.map B8) ∧ Rd w' w'.heap.size A2 (r.map B8)

/-- the same, with what the slices can hold -/
def RetCutRC (w : World) (o : Option (List UInt8 × List UInt8)) (e : Ending) (w' : World) : Prop :=
  Below w.heap.size w w' ∧ match o with
  | none => e = .returned (.tuple #[.slice none 0 0, .slice none 0 0, .int .i64 21])
  | some (t, r) => ∃ A n c A2 n2 c2, e = .returned (.tuple #[.slice A n c, .slice A2 n2 c2, .int .i64 0]) ∧ n = t.length ∧ n2 = r.length ∧ Rd w' w'.heap.size A (t.map B8) ∧ Rd w' w'.heap.size A2 (r.map B8) ∧ n ≤ c ∧ n2 ≤ c2
theorem retCut_of {w : World} {o : Option (List UInt8 × List UInt8)} {e : Ending} {w' : World} (h : RetCutRC w o e w') : RetCutR w o e w' := by
  obtain ⟨h1, h2⟩ := h
  refine ⟨h1, ?_⟩
  cases o with
  | none => exact h2
  | some x =>
    obtain ⟨A, n, c, A2, n2, c2, h3, h4, h5, h6, h7, _⟩ := h2
    exact ⟨A, n, c, A2, n2, c2, h3, h4, h5, h6, h7⟩
theorem same_step (a b : List Nat) (k : Nat) (h : a.take k = b.take k) (x y : Nat) (hx : a[k]? = some x) (hy : b[k]? = some y) (e : x = y) : a.take (k + 1) = b.take (k + 1) := by
  rw [List.take_add_one, List.take_add_one, h, hx, hy, e]

def RetBool (w : World) (b : Bool) (e : Ending) (w' : World) : Prop := e = .returned (.bool b) ∧ ∃ k, w' = w.drewN k

theorem rd_nums (w : World) (ns : List Nat) : Rd (w.alloc (.cells (ns.map N64).toArray 148)) (w.heap.size + 1) (some ⟨w.heap.size, 0, none⟩) (ns.map N64) := by
  intro _
  refine ⟨_, _, rfl, by omega, fun j u hu => ?_⟩
  rw [cell_of_row _ _ _ _ _ _ (heap_alloc_new w _)]
  simpa using hu

theorem alive_take : takeF [2, 1, 44, 9] = some (300, [9]) := by decide
theorem alive_form : [] ++ [0, 300].flatMap form = [0, 2, 1, 44] := by decide

end Go.Proofs.YtfblnomkafimhaaGreat

namespace Go.Proofs.YtfblnomkafimhaaGreat
set_option maxRecDepth 20000
open Go.RowKit
open Wire

def gE {α : Type} (o : Option α) : Int := if o.isSome then 0 else 21
def gV (o : Option (Nat × List UInt8)) : Nat := (o.map (·.1)).getD 0
def gR {α : Type} (o : Option (α × List UInt8)) : List UInt8 := (o.map (·.2)).getD []
def gL {α : Type} (o : Option (List α × List UInt8)) : List α := (o.map (·.1)).getD []

theorem RetGet.flat {w : World} {o : Option (Nat × List UInt8)} {e : Ending} {w' : World} (h : RetGet w o e w') :
    ∃ A n c, e = .returned (.tuple #[.int .u64 (gV o), .slice A n c, .int .i64 (gE o)]) ∧ n = (gR o).length ∧ n ≤ c ∧ Rd w' w'.heap.size A ((gR o).map B8) ∧ Below w.heap.size w w' := by
  obtain ⟨hb, h⟩ := h
  cases o with
  | none => exact ⟨none, 0, 0, h, rfl, Nat.le_refl _, Rd.nil, hb⟩
  | some x =>
    obtain ⟨A, n, c, he, ho⟩ := h
    exact ⟨A, n, c, he, ho.1, ho.cap, ho.rd, hb⟩
theorem RetGets.flat {w : World} {o : Option (List Nat × List UInt8)} {e : Ending} {w' : World} (h : RetGets w o e w') :
    ∃ A n c A2 n2 c2, e = .returned (.tuple #[.slice A n c, .slice A2 n2 c2, .int .i64 (gE o)]) ∧ n = (gL o).length ∧ n2 = (gR o).length ∧ Rd w' w'.heap.size A ((gL o).map N64) ∧ Rd w' w'.heap.size A2 ((gR o).map B8) ∧ Below w.heap.size w w' := by
  obtain ⟨hb, h⟩ := h
  cases o with
  | none => exact ⟨none, 0, 0, none, 0, 0, h, rfl, rfl, Rd.nil, Rd.nil, hb⟩
  | some x =>
    obtain ⟨A, n, c, A2, n2, c2, he, ho, hp⟩ := h
    exact ⟨A, n, c, A2, n2, c2, he, ho.1, hp.1, ho.rd, hp.rd, hb⟩
theorem RetCut.flat {w : World} {o : Option (List UInt8 × List UInt8)} {e : Ending} {w' : World} (h : RetCut w o e w') :
    ∃ A n c A2 n2 c2, e = .returned (.tuple #[.slice A n c, .slice A2 n2 c2, .int .i64 (gE o)]) ∧ n = (gL o).length ∧ n2 = (gR o).length ∧ Rd w' w'.heap.size A ((gL o).map B8) ∧ Rd w' w'.heap.size A2 ((gR o).map B8) ∧ Below w.heap.size w w' := by
  obtain ⟨hb, h⟩ := h
  cases o with
  | none => exact ⟨none, 0, 0, none, 0, 0, h, rfl, rfl, Rd.nil, Rd.nil, hb⟩
  | some x =>
    obtain ⟨A, n, c, A2, n2, c2, he, ho, hp⟩ := h
    exact ⟨A, n, c, A2, n2, c2, he, ho.1, hp.1, ho.rd, hp.rd, hb⟩
theorem RetCutR.flat {w : World} {o : Option (List UInt8 × List UInt8)} {e : Ending} {w' : World} (h : RetCutR w o e w') :
    ∃ A n c A2 n2 c2, e = .returned (.tuple #[.slice A n c, .slice A2 n2 c2, .int .i64 (gE o)]) ∧ n = (gL o).length ∧ n2 = (gR o).length ∧ Rd w' w'.heap.size A ((gL o).map B8) ∧ Rd w' w'.heap.size A2 ((gR o).map B8) ∧ Below w.heap.size w w' := by
  obtain ⟨hb, h⟩ := h
  cases o with
  | none => exact ⟨none, 0, 0, none, 0, 0, h, rfl, rfl, Rd.nil, Rd.nil, hb⟩
  | some x =>
    obtain ⟨A, n, c, A2, n2, c2, he, h1, h2, h3, h4⟩ := h
    exact ⟨A, n, c, A2, n2, c2, he, h1, h2, h3, h4, hb⟩

end Go.Proofs.YtfblnomkafimhaaGreat
