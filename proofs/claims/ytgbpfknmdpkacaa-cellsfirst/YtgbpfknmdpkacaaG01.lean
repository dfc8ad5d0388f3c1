/- Contracts and words on which the claims of this seat stand, part 1: Mem Row8 Reg Wf RowI ChgP. -/
import Derived.Test.YtgbpfknmdpkacaaChecked
import Derived.WalkKit
import Derived.Lib.Hide
import Derived.Laws.AppendOwnNone
import Derived.Laws.BytesArg
import Derived.Laws.OwnMore
import Derived.OwnWalk
import Derived.Deep.Draws
import Derived.Lib.SliceRun
import Derived.BigQuiet
import Derived.Deep.QuietTactic
import Derived.WalkSpells
import Derived.Lib.SlBytesConst
import Derived.Deep.RegionHeld3
set_option linter.unusedSimpArgs false
set_option linter.unusedVariables false
namespace Go.Proofs.Ytgbpfknmdpkacaa
set_option maxRecDepth 20000
open Go.RowKit

/-- a byte's cell, a 64-bit number's cell -/
def B8 (c : UInt8) : Value := .int .u8 (c.toNat : Int)
def N64 (n : Nat) : Value := .int .u64 (n : Int)
theorem B8_one (bs : List UInt8) : ∀ u ∈ bs.map B8, u.oneCell' = true := by
  intro u hu
  obtain ⟨c, _, rfl⟩ := List.mem_map.1 hu
  rfl
theorem N64_one (ns : List Nat) : ∀ u ∈ ns.map N64, u.oneCell' = true := by
  intro u hu
  obtain ⟨c, _, rfl⟩ := List.mem_map.1 hu
  rfl

/-- the address A leads to the cells xs, in a block below B (nothing is asked where there are none) -/
def Rd (w : World) (B : Nat) (A : Option Addr) (xs : List Value) : Prop :=
  0 < xs.length → ∃ b o, A = some ⟨b, o, none⟩ ∧ b < B ∧ ∀ j u, xs[j]? = some u → w.cell? ⟨b, o + j, none⟩ = some u

section
variable {w w' : World} {B B' : Nat} {A : Option Addr} {xs : List Value}
theorem Rd.keep (h : Rd w B A xs) (hk : ∀ p : Addr, p.block < B → w'.cell? p = w.cell? p) : Rd w' B A xs := by
  intro hn
  obtain ⟨b, o, e, hb, hc⟩ := h hn
  exact ⟨b, o, e, hb, fun j u hu => (hk _ hb).trans (hc j u hu)⟩
theorem Rd.below (h : Rd w B A xs) (hb : Below B w w') : Rd w' B A xs := h.keep fun _ hp => hb.cell hp
theorem Rd.more (h : Rd w B A xs) (hB : B ≤ B') : Rd w B' A xs := by
  intro hn
  obtain ⟨b, o, e, hb, hc⟩ := h hn
  exact ⟨b, o, e, by omega, hc⟩
theorem Rd.drewN (h : Rd w B A xs) (k : Nat) : Rd (w.drewN k) B A xs := h
theorem Rd.nil : Rd w B A [] := fun h => absurd h (by simp)
theorem Rd.take (h : Rd w B A xs) (k : Nat) : Rd w B A (xs.take k) := by
  intro hn
  obtain ⟨b, o, e, hb, hc⟩ := h (by simp at hn; omega)
  refine ⟨b, o, e, hb, fun j u hu => hc j u ?_⟩
  rw [List.getElem?_take] at hu
  split at hu
  · exact hu
  · cases hu
theorem Rd.drop (h : Rd w B A xs) (k c : Nat) (hc : xs.length ≤ c) : Rd w B (if c = k then A else A.map (·.add k)) (xs.drop k) := by
  intro hn
  rw [List.length_drop] at hn
  obtain ⟨b, o, rfl, hb, hcell⟩ := h (by omega)
  rw [if_neg (by omega)]
  refine ⟨b, o + k, ?_, hb, fun j u hu => ?_⟩
  · simp only [Option.map_some, Option.some.injEq]
    unfold Addr.add
    split <;> simp_all
  · rw [List.getElem?_drop] at hu
    rw [Nat.add_assoc]
    exact hcell (k + j) u hu
theorem Rd.cells (h : Rd w B A xs) (hn : 0 < xs.length) : ∃ b o, A = some ⟨b, o, none⟩ ∧ b < B ∧ ∀ j u, xs[j]? = some u → w.cell? ((⟨b, o, none⟩ : Addr).add j) = some u := by
  obtain ⟨b, o, e, hb, hc⟩ := h hn
  refine ⟨b, o, e, hb, fun j u hu => ?_⟩
  have : (⟨b, o, none⟩ : Addr).add j = ⟨b, o + j, none⟩ := by unfold Addr.add; split <;> simp_all
  rw [this]; exact hc j u hu
theorem Rd.of_own {base n : Nat} {e : TypeId} {c : Nat} (h : w.ownsRow base e 1 (.slice A n c) n xs) : Rd w w.heap.size A xs := by
  intro hn
  rcases h.2 with ⟨_, h0⟩ | ⟨g, cap, cur, hv, _, hg, _, _, _, _⟩
  · have := h.1; omega
  · injection hv with hA
    subst hA
    have hlt := (h.lt g rfl).2
    refine ⟨g, 0, rfl, hlt, fun j u hu => ?_⟩
    have hc := h.cells (g := g) rfl j u hu
    have : (⟨g, 0, none⟩ : Addr).add j = ⟨g, 0 + j, none⟩ := by unfold Addr.add; split <;> simp_all
    rwa [this] at hc
end

/-- cuts of a slice whose elements have one cell: the address behind one name -/
theorem run_from {P : Program} {t e : TypeId} (ht : P.underlying t = some (.slice e)) (hs : ∀ w, (sizeOf e).run P w = .ok 1 w) (A : Option Addr) (n c k : Nat) (j : Int) (q : IntKind) (hj : j = (k : Int)) (hk : k ≤ n) (hc : n ≤ c) :
    ∃ A', (∀ w, (Instr.slice t (.slice A n c) (some (.int q j)) none none).run P w = .ok (.slice A' (n - k) (c - k)) w) ∧ ∀ w B xs, xs.length = n → Rd w B A xs → Rd w B A' (xs.drop k) := by
  subst hj
  have he : P.elem t = e := by simp [Program.elem, ht]
  refine ⟨_, fun w => ?_, fun w B xs hl hr => hr.drop k c (by omega)⟩
  rw [run_slice_l (P := P) w t A n c (by rw [he]; exact ht) q k (by omega) (by omega), he, hs]
  simp [Result.andThen, sliced]
theorem run_upto {P : Program} {t e : TypeId} (ht : P.underlying t = some (.slice e)) (hs : ∀ w, (sizeOf e).run P w = .ok 1 w) (A : Option Addr) (n c k : Nat) (j : Int) (q : IntKind) (hj : j = (k : Int)) (hk : k ≤ c) :
    ∃ A', (∀ w, (Instr.slice t (.slice A n c) none (some (.int q j)) none).run P w = .ok (.slice A' k c) w) ∧ ∀ w B xs, Rd w B A xs → Rd w B A' xs := by
  subst hj
  have he : P.elem t = e := by simp [Program.elem, ht]
  refine ⟨A, fun w => ?_, fun w B xs hr => hr⟩
  rw [run_slice_h (P := P) w t A n c (by rw [he]; exact ht) q k (by omega) (by omega), he, hs]
  simp [Result.andThen, sliced]
  intro _
  cases A <;> simp [Addr.add]

/-- a row of the call's own: kept below, over a new block -/
theorem own_below {w w' : World} {base : Nat} {e : TypeId} {v : Value} {n : Nat} {xs : List Value} {B : Nat} (h : w.ownsRow base e 1 v n xs) (hb : Below B w w') (hB : w.heap.size ≤ B) : w'.ownsRow base e 1 v n xs := by
  refine ⟨h.1, ?_⟩
  rcases h.2 with h0 | ⟨g, cap, cur, hv, hg, hh, r⟩
  · exact .inl h0
  · exact .inr ⟨g, cap, cur, hv, hg, by rw [hb.block g (by have := (h.lt g (by rw [hv]; rfl)).2; omega)]; exact hh, r⟩
theorem own_base {w : World} {base base' : Nat} {e : TypeId} {v : Value} {n : Nat} {xs : List Value} (h : w.ownsRow base e 1 v n xs) (hB : base' ≤ base) : w.ownsRow base' e 1 v n xs := by
  refine ⟨h.1, ?_⟩
  rcases h.2 with h0 | ⟨g, cap, cur, hv, hg, r⟩
  · exact .inl h0
  · exact .inr ⟨g, cap, cur, hv, by omega, r⟩
theorem own_slice {w : World} {base : Nat} {e : TypeId} {v : Value} {n : Nat} {xs : List Value} (h : w.ownsRow base e 1 v n xs) : ∃ A c, v = .slice A n c ∧ n ≤ c ∧ c ≤ maxLen := by
  rcases h.2 with ⟨rfl, rfl⟩ | ⟨g, cap, cur, hv, _, _, h1, h2, _⟩
  · exact ⟨none, 0, rfl, Nat.le_refl _, by simp [maxLen]⟩
  · exact ⟨_, cap, hv, h1, h2⟩
theorem own_drewN {w : World} {base : Nat} {e : TypeId} {v : Value} {n : Nat} {xs : List Value} (h : w.ownsRow base e 1 v n xs) (k : Nat) : (w.drewN k).ownsRow base e 1 v n xs := h

/-- rows of unlike elements lie in unlike blocks: the one stays while the other grows -/
theorem own_other {w w' : World} {base base' : Nat} {e e' : TypeId} {v v' : Value} {n n' : Nat} {xs xs' : List Value} (h : w.ownsRow base e 1 v n xs) (h' : w.ownsRow base' e' 1 v' n' xs') (hne : e ≠ e') (hg : w.grownBy w' v'.ownBlock) : w'.ownsRow base e 1 v n xs := by
  refine h.kept hg ?_
  rcases h.2 with ⟨rfl, _⟩ | ⟨g, cap, cur, rfl, _, hh, _⟩
  · exact Or.inl rfl
  · right
    rcases h'.2 with ⟨rfl, _⟩ | ⟨g', cap', cur', rfl, _, hh', _⟩
    · simp [Value.ownBlock]
    · simp only [Value.ownBlock, ne_eq, Option.some.injEq]
      rintro rfl
      rw [hh] at hh'
      simp only [Option.some.injEq, Obj.cells.injEq] at hh'
      exact hne hh'.2.1

/-- a new literal row -/
theorem own_lit (w : World) (base : Nat) (e : TypeId) (xs : List Value) (hb : base ≤ w.heap.size) (hm : xs.length ≤ maxLen) :
    (w.alloc (.cells xs.toArray e)).ownsRow base e 1 (.slice (some ⟨w.heap.size, 0, none⟩) xs.length xs.length) xs.length xs :=
  ⟨by simp, .inr ⟨w.heap.size, xs.length, xs.toArray, rfl, hb, heap_alloc_new w _, Nat.le_refl _, hm, by simp, by simp⟩⟩

/-- append onto a row of the call's own: the source nil, empty or not -/
theorem run_app {P : Program} (w : World) (base : Nat) (t ty e : TypeId) (i : TypeInfo) (z : Value) (bytes : Nat) (ht : P.underlying t = some (.slice e)) (hi : P.info? e = some i) (hz : i.zero = some z)
    (hsize : i.size = 1) (hby : i.bytes = bytes) (hzs : z.cells.size = 1) (v : Value) (n : Nat) (xs : List Value) (hown : w.ownsRow base e 1 v n xs)
    (B : Nat) (A : Option Addr) (m c : Nat) (news : List Value) (hm : m = news.length) (hr : Rd w B A news) (h1 : ∀ u ∈ news, u.oneCell' = true)
    (h63 : n + m ≤ maxLen) (hbytes : (n + m) * bytes ≤ 140737488355328) (hbase : base ≤ w.heap.size) :
    ∃ A' c' w', (Builtin.append_ #[t, t] ty #[v, .slice A m c]).run P w = .ok (.slice A' (n + m) c') w' ∧ w'.ownsRow base e 1 (.slice A' (n + m) c') (n + m) (xs ++ news) ∧ Below base w w' ∧ w.grownBy w' v.ownBlock := by
  have hrow : ∀ k, v.ownBlock = some k → base ≤ k := fun k hk => (hown.lt k hk).1
  have key : ∀ ad : Addr, A = some ad → (∀ j u, news[j]? = some u → w.cell? (ad.add j) = some u) →
      ∃ A' c' w', (Builtin.append_ #[t, t] ty #[v, .slice A m c]).run P w = .ok (.slice A' (n + m) c') w' ∧ w'.ownsRow base e 1 (.slice A' (n + m) c') (n + m) (xs ++ news) ∧ Below base w w' ∧ w.grownBy w' v.ownBlock := by
    rintro ad rfl hc
    obtain ⟨v', w', hrun, ho, hg, _⟩ := run_append_own (P := P) w base t ty e i z 1 bytes ht hi hz hsize hby hzs (by omega) v n xs hown ad m c news (by omega) hc h1 h63 hbytes hbase
    obtain ⟨A', c', rfl, _, _⟩ := own_slice ho
    exact ⟨A', c', w', hrun, ho, (Below.refl _ _).grown hg hbase hrow, hg⟩
  rcases Nat.eq_zero_or_pos news.length with h0 | h0
  · have hn : news = [] := List.eq_nil_of_length_eq_zero h0
    subst hn
    cases A with
    | some ad => exact key ad rfl (fun j u hu => by simp at hu)
    | none =>
      obtain ⟨A', c', rfl, _, _⟩ := own_slice hown
      have hm0 : m = 0 := by simpa using hm
      subst hm0
      refine ⟨A', c', w, ?_, by simpa using hown, Below.refl _ _, ⟨rfl, rfl, rfl, Nat.le_refl _, fun _ _ _ => rfl⟩⟩
      rcases hown.2 with ⟨hv, rfl⟩ | ⟨g, cap, cur, hv, _, _, hnc, _⟩
      · injection hv with h1 h2 h3
        subst h1
        subst h3
        simp [Builtin.append_, run_underlying ht, sizeOf, typeInfo, hi, Builtin.lenOf, Builtin.firstCells]
      · injection hv with h1 h2 h3
        subst h1
        subst h3
        simp [Builtin.append_, run_underlying ht, sizeOf, typeInfo, hi, Builtin.lenOf, Builtin.firstCells, hnc, storeCells]
  · obtain ⟨b, o, e1, _, hc⟩ := hr.cells h0
    exact key _ e1 hc

theorem op_app {P : Program} {w : World} {o : Oper} {a : Act} {K : Act → World → Prop} {Q : Exit → Act → World → Prop} (s x : Operand) (t : TypeId)
    (ho : o.op = .call { callee := .builtin .append, args := #[s, x], argTypes := #[t, t] })
    (base : Nat) (e : TypeId) (i : TypeInfo) (z : Value) (bytes : Nat) (ht : P.underlying t = some (.slice e)) (hi : P.info? e = some i) (hz : i.zero = some z)
    (hsize : i.size = 1) (hby : i.bytes = bytes) (hzs : z.cells.size = 1) (v : Value) (n : Nat) (xs : List Value) (hs : a.eval s = v) (hown : w.ownsRow base e 1 v n xs)
    (B : Nat) (A : Option Addr) (m c : Nat) (news : List Value) (hx : a.eval x = .slice A m c) (hm : m = news.length) (hr : Rd w B A news) (h1 : ∀ u ∈ news, u.oneCell' = true)
    (h63 : n + m ≤ maxLen) (hbytes : (n + m) * bytes ≤ 140737488355328) (hbase : base ≤ w.heap.size)
    (h : ∀ A' c' w', w'.ownsRow base e 1 (.slice A' (n + m) c') (n + m) (xs ++ news) → Below base w w' → w.grownBy w' v.ownBlock → K (a.put o.dst (.slice A' (n + m) c')) w') : o.wp P a w K Q := by
  obtain ⟨A', c', w', hrun, h2, h3, h4⟩ := run_app (P := P) w base t o.type e i z bytes ht hi hz hsize hby hzs v n xs hown B A m c news hm hr h1 h63 hbytes hbase
  unfold Oper.wp execOp
  simp only [ho, resolve, invoke, builtin, Sem.run_bind, Sem.run_pure, Result.andThen_ok, List.map_toArray, List.map_cons, List.map_nil, hs, hx, hrun]
  exact h A' c' w' h2 h3 h4
theorem wp_app {P : Program} {w : World} {ops : Array Oper} {rest : List Oper} {o : Oper} {a : Act} {Q : Exit → Act → World → Prop} (hgd : o.guard = none) (s x : Operand) (t : TypeId)
    (ho : o.op = .call { callee := .builtin .append, args := #[s, x], argTypes := #[t, t] })
    (base : Nat) (e : TypeId) (i : TypeInfo) (z : Value) (bytes : Nat) (ht : P.underlying t = some (.slice e)) (hi : P.info? e = some i) (hz : i.zero = some z)
    (hsize : i.size = 1) (hby : i.bytes = bytes) (hzs : z.cells.size = 1) (v : Value) (n : Nat) (xs : List Value) (hs : a.eval s = v) (hown : w.ownsRow base e 1 v n xs)
    (B : Nat) (A : Option Addr) (m c : Nat) (news : List Value) (hx : a.eval x = .slice A m c) (hm : m = news.length) (hr : Rd w B A news) (h1 : ∀ u ∈ news, u.oneCell' = true)
    (h63 : n + m ≤ maxLen) (hbytes : (n + m) * bytes ≤ 140737488355328) (hbase : base ≤ w.heap.size)
    (h : ∀ A' c' w', w'.ownsRow base e 1 (.slice A' (n + m) c') (n + m) (xs ++ news) → Below base w w' → w.grownBy w' v.ownBlock → wpList P ops Q rest (a.put o.dst (.slice A' (n + m) c')) w') : wpList P ops Q (o :: rest) a w :=
  wpList_plain hgd fun _ hK => op_app s x t ho base e i z bytes ht hi hz hsize hby hzs v n xs hs hown B A m c news hx hm hr h1 h63 hbytes hbase fun A' c' w' h2 h3 h4 => hK _ _ (h A' c' w' h2 h3 h4)

/-- a slice of bytes as a string -/
def str (bs : List UInt8) : ByteArray := ⟨bs.toArray⟩
theorem str_toList (bs : List UInt8) : (str bs).toList = bs := by
  simp [str, ByteArray.toList_eq]
theorem str_size (bs : List UInt8) : (str bs).size = bs.length := by simp [str, ByteArray.size]
theorem run_str {P : Program} {w : World} {src dst e : TypeId} (hs : P.underlying src = some (.slice e)) (he : P.underlying e = some (.int .u8)) (hd : P.underlying dst = some .string)
    {B : Nat} {A : Option Addr} {n c : Nat} {bs : List UInt8} (hr : Rd w B A (bs.map B8)) (hn : n = bs.length) :
    (convert src dst (.slice A n c)).run P w = .ok (.string (str bs)) w := by
  subst hn
  rcases Nat.eq_zero_or_pos bs.length with h0 | h0
  · have hb : bs = [] := List.eq_nil_of_length_eq_zero h0
    subst hb
    cases A with
    | none => exact run_convert_bytes_nil w src e hs he _ c dst hd
    | some ad =>
      rw [run_convert_bytes_string w src dst e _ _ c hs he hd]
      have := run_bytesToString (P := P) w ad 0 c [] (by simp [loadCells, loadCellsFrom])
      exact this
  · obtain ⟨b, o, rfl, _, hc⟩ := hr (by simpa using h0)
    have h := run_convert_bytes_arg (P := P) w src e hs he b o bs.length c (bs.map fun x => (x.toNat : Int)) (by simp) (fun i hi => by
      rw [hc i (B8 bs[i]) (by simp [hi])]
      simp [B8, List.getD, hi]) dst hd
    rw [h]
    congr 2
    simp [strOfNums, str, List.map_map, Function.comp_def]
end Go.Proofs.Ytgbpfknmdpkacaa

namespace Go.Proofs.Ytgbpfknmdpkacaa
set_option maxRecDepth 20000
open Go.RowKit

theorem info8 : (Try.prog.info? 5).map (fun i => (i.zero, i.size, i.bytes)) = some (some (.int .u8 0), 1, 1) := by kernel_rfl

theorem size8 (w : World) : (sizeOf 5).run Try.prog w = .ok 1 w := by
  obtain ⟨i0, hi, hz0, hz1, hz2⟩ := info_parts info8
  simp [sizeOf, typeInfo, hi, hz1]
theorem below_drewN (B : Nat) (w : World) (k : Nat) : Below B w (w.drewN k) := ⟨rfl, rfl, rfl, Nat.le_refl _, fun _ _ => rfl⟩
/-- a cut from k on, its length given -/
theorem run_from' {P : Program} {t e : TypeId} (ht : P.underlying t = some (.slice e)) (hs : ∀ w, (sizeOf e).run P w = .ok 1 w) (A : Option Addr) (n c k r : Nat) (j : Int) (q : IntKind) (hj : j = (k : Int)) (hk : k ≤ n) (hc : n ≤ c) (hr : n - k = r) :
    ∃ A' c', (∀ w, (Instr.slice t (.slice A n c) (some (.int q j)) none none).run P w = .ok (.slice A' r c') w) ∧ ∀ w B xs, xs.length = n → Rd w B A xs → Rd w B A' (xs.drop k) := by
  obtain ⟨A', h1, h2⟩ := run_from ht hs A n c k j q hj hk hc
  exact ⟨A', c - k, by rw [← hr]; exact h1, h2⟩

/-- the most bytes that an append grows to -/
def big : Nat := 140737488355328
/-- the slice A holds the bytes bs, in a row of the call's own from block base on -/
def Own (w : World) (base : Nat) (A : Option Addr) (n c : Nat) (bs : List UInt8) : Prop := n = bs.length ∧ w.ownsRow base 5 1 (.slice A n c) n (bs.map B8)
/-- it returns a slice of its own with the bytes bs; below base nothing has turned -/
def RetOwn (w : World) (base : Nat) (bs : List UInt8) (e : Ending) (w' : World) : Prop :=
  ∃ A n c, e = .returned (.slice A n c) ∧ Own w' base A n c bs ∧ Below base w w'
theorem Own.rd {w : World} {base : Nat} {A : Option Addr} {n c : Nat} {bs : List UInt8} (h : Own w base A n c bs) : Rd w w.heap.size A (bs.map B8) := Rd.of_own h.2
theorem Own.cap {w : World} {base : Nat} {A : Option Addr} {n c : Nat} {bs : List UInt8} (h : Own w base A n c bs) : n ≤ c := by
  obtain ⟨A', c', e, h1, _⟩ := own_slice h.2
  injection e with e1 e2 e3
  omega
theorem Own.below {w w' : World} {base B : Nat} {A : Option Addr} {n c : Nat} {bs : List UInt8} (h : Own w base A n c bs) (hb : Below B w w') (hB : w.heap.size ≤ B) : Own w' base A n c bs := ⟨h.1, own_below h.2 hb hB⟩
theorem Own.base {w : World} {base base' : Nat} {A : Option Addr} {n c : Nat} {bs : List UInt8} (h : Own w base A n c bs) (hB : base' ≤ base) : Own w base' A n c bs := ⟨h.1, own_base h.2 hB⟩
theorem Own.alloc {w : World} {base : Nat} {A : Option Addr} {n c : Nat} {bs : List UInt8} (h : Own w base A n c bs) (o : Obj) : Own (w.alloc o) base A n c bs := ⟨h.1, h.2.alloc o⟩
theorem Own.len {w : World} {base : Nat} {A : Option Addr} {n n' c : Nat} {bs : List UInt8} (h : Own w base A n c bs) (e : n = n') : Own w base A n' c bs := e ▸ h
theorem own_new (w : World) (base : Nat) (bs : List UInt8) (hb : base ≤ w.heap.size) (hm : bs.length ≤ maxLen) : Own (w.alloc (.cells (bs.map B8).toArray 5)) base (some ⟨w.heap.size, 0, none⟩) bs.length bs.length bs :=
  ⟨rfl, by have := own_lit w base 5 (bs.map B8) hb (by simpa using hm); simpa using this⟩
theorem own_at (w : World) (base g : Nat) (bs : List UInt8) (hg : g = w.heap.size) (hb : base ≤ w.heap.size) (hm : bs.length ≤ maxLen) : Own (w.alloc (.cells (bs.map B8).toArray 5)) base (some ⟨g, 0, none⟩) bs.length bs.length bs := by
  subst hg
  exact own_new w base bs hb hm
theorem own_none (w : World) (base : Nat) : Own w base none 0 0 [] := ⟨rfl, World.ownsRow_nil _ _ _ _⟩
theorem rd_new (w : World) (xs : List Value) : Rd (w.alloc (.cells xs.toArray 5)) (w.heap.size + 1) (some ⟨w.heap.size, 0, none⟩) xs := by
  intro _
  refine ⟨_, _, rfl, by omega, fun j u hu => ?_⟩
  rw [cell_of_row _ _ _ _ _ _ (heap_alloc_new w _)]
  simpa using hu

/-- a row of a constant text bears a mark behind its last cell -/
theorem rd_mark (w : World) (xs : List Value) (m : Nat × Nat) : Rd (w.alloc (.cells xs.toArray 5 m)) (w.heap.size + 1) (some ⟨w.heap.size, 0, none⟩) xs := by
  intro _
  refine ⟨_, _, rfl, by omega, fun j u hu => ?_⟩
  rw [cell_of_row _ _ _ _ _ _ (heap_alloc_new w _)]
  simpa using hu
theorem rd_one (w : World) (v : Int) (x : UInt8) (h : v = (x.toNat : Int)) : Rd (w.alloc (.cells #[.int .u8 v] 5)) (w.heap.size + 1) (some ⟨w.heap.size, 0, none⟩) ([x].map B8) := by
  subst h
  exact rd_new w ([x].map B8)

theorem ret_int {k : IntKind} {a b : Int} (h : a = b) : Ending.returned (.int k a) = .returned (.int k b) := by rw [h]

end Go.Proofs.Ytgbpfknmdpkacaa

namespace Go.Proofs.Ytgbpfknmdpkacaa
set_option maxRecDepth 20000
section
variable {P : Program} {ops : Array Oper} {Q : Exit → Act → World → Prop} {md : Region.Mode}
/-- the next operation in the text's order: it yields in every world that meets S -/
theorem take_in {S : World → Prop} {i : Nat} {oi : Oper} {v : Value} {fuel : Nat} {listed : Array Bool} {a : Act} {w : World} (hi : ops[i]? = some oi) (hs : Region.noSelect ops = true) (hf : Region.free md ops listed i = true)
    (hr : (Region.ready md ops listed).contains i = true) (hQ : ∀ c a w, Q (.panic c) (a.put oi.dst v) w → Q (.panic c) a w) (hw : Region.wanted oi (yielded ops a.tmps) = true) (hy : ∀ W, S W → (execOp a.eval oi).run P W = .ok (.value v) W) (hS : S w)
    (h : wpAnyH P md ops Q S fuel (listed.setIfInBounds i true) (a.put oi.dst v) w) : wpAnyH P md ops Q S (fuel + 1) listed a w :=
  wpAnyH_take hi hs hf hr hQ (Or.inl ⟨hw, hy⟩) hS h
/-- the next operation in the text's order, where its guard says no -/
theorem skip_in {S : World → Prop} {i : Nat} {oi : Oper} {fuel : Nat} {listed : Array Bool} {a : Act} {w : World} (hi : ops[i]? = some oi) (hs : Region.noSelect ops = true) (hf : Region.free md ops listed i = true)
    (hr : (Region.ready md ops listed).contains i = true) (hQ : ∀ c a w, Q (.panic c) (a.put oi.dst undef) w → Q (.panic c) a w) (hw : Region.wanted oi (yielded ops a.tmps) = false) (hS : S w)
    (h : wpAnyH P md ops Q S fuel (listed.setIfInBounds i true) (a.put oi.dst undef) w) : wpAnyH P md ops Q S (fuel + 1) listed a w :=
  wpAnyH_take hi hs hf hr hQ (Or.inr ⟨hw, rfl⟩) hS h
/-- where nothing more changes the world -/
theorem switch {S : World → Prop} {w0 : World} (h0 : S w0) : ∀ (fuel : Nat) (listed : Array Bool) (a : Act) (w : World), w = w0 → wpAnyH P md ops Q (fun W => W = w0) fuel listed a w → wpAnyH P md ops Q S fuel listed a w
  | 0, _, _, _, _, h => h
  | fuel + 1, _, _, _, _, h => ⟨h.1, fun i hi => wpOp_mono (fun a' w' h' => ⟨by rw [h'.1]; exact h0, switch h0 fuel _ a' w' h'.1 h'.2⟩) (h.2 i hi)⟩
/-- from here on a narrower condition is kept -/
theorem tighten {S S' : World → Prop} (h0 : ∀ W, S' W → S W) : ∀ (fuel : Nat) (listed : Array Bool) (a : Act) (w : World), wpAnyH P md ops Q S' fuel listed a w → wpAnyH P md ops Q S fuel listed a w
  | 0, _, _, _, h => h
  | fuel + 1, _, _, _, h => ⟨h.1, fun i hi => wpOp_mono (fun a' w' h' => ⟨h0 _ h'.1, tighten h0 fuel _ a' w' h'.2⟩) (h.2 i hi)⟩
end
end Go.Proofs.Ytgbpfknmdpkacaa

namespace Go.Proofs.Ytgbpfknmdpkacaa
set_option maxRecDepth 20000
open Go.RowKit
theorem wf_i64 {a : Int} (h : (Lit.int .i64 a).wf = true) : -9223372036854775808 ≤ a ∧ a ≤ 9223372036854775807 := by
  simpa [Lit.wf, IntKind.min, IntKind.max, IntKind.signed, IntKind.bits] using h
theorem wf_u32 {a : Int} (h : (Lit.int .u32 a).wf = true) : ∃ m : Nat, a = (m : Int) ∧ m < 2 ^ 32 := by
  have : 0 ≤ a ∧ a ≤ 4294967295 := by simpa [Lit.wf, IntKind.min, IntKind.max, IntKind.signed, IntKind.bits] using h
  exact ⟨a.toNat, by omega, by omega⟩
end Go.Proofs.Ytgbpfknmdpkacaa

namespace Go.Proofs.Ytgbpfknmdpkacaa
set_option maxRecDepth 20000
open Go.RowKit

theorem I_one (ns : List Int) : ∀ u ∈ ns.map (Value.int .i64), u.oneCell' = true := by
  intro u hu
  obtain ⟨c, _, rfl⟩ := List.mem_map.1 hu
  rfl
theorem infoI : (Try.prog.info? 3).map (fun i => (i.zero, i.size, i.bytes)) = some (some (.int .i64 0), 1, 8) := by kernel_rfl

/-- the slice A holds the numbers bs, in a row of the call's own from block base on -/
def OwnI (w : World) (base : Nat) (A : Option Addr) (n c : Nat) (bs : List Int) : Prop := n = bs.length ∧ w.ownsRow base 3 1 (.slice A n c) n (bs.map (Value.int .i64))
/-- it returns a slice of its own with the numbers bs; below base nothing has turned -/
def RetOwnI (w : World) (base : Nat) (bs : List Int) (e : Ending) (w' : World) : Prop :=
  ∃ A n c, e = .returned (.slice A n c) ∧ OwnI w' base A n c bs ∧ Below base w w'
theorem OwnI.rd {w : World} {base : Nat} {A : Option Addr} {n c : Nat} {bs : List Int} (h : OwnI w base A n c bs) : Rd w w.heap.size A (bs.map (Value.int .i64)) := Rd.of_own h.2
theorem OwnI.cap {w : World} {base : Nat} {A : Option Addr} {n c : Nat} {bs : List Int} (h : OwnI w base A n c bs) : n ≤ c := by
  obtain ⟨A', c', e, h1, _⟩ := own_slice h.2
  injection e with e1 e2 e3
  omega
theorem OwnI.below {w w' : World} {base B : Nat} {A : Option Addr} {n c : Nat} {bs : List Int} (h : OwnI w base A n c bs) (hb : Below B w w') (hB : w.heap.size ≤ B) : OwnI w' base A n c bs := ⟨h.1, own_below h.2 hb hB⟩
theorem OwnI.base {w : World} {base base' : Nat} {A : Option Addr} {n c : Nat} {bs : List Int} (h : OwnI w base A n c bs) (hB : base' ≤ base) : OwnI w base' A n c bs := ⟨h.1, own_base h.2 hB⟩
theorem OwnI.alloc {w : World} {base : Nat} {A : Option Addr} {n c : Nat} {bs : List Int} (h : OwnI w base A n c bs) (o : Obj) : OwnI (w.alloc o) base A n c bs := ⟨h.1, h.2.alloc o⟩
theorem OwnI.len {w : World} {base : Nat} {A : Option Addr} {n n' c : Nat} {bs : List Int} (h : OwnI w base A n c bs) (e : n = n') : OwnI w base A n' c bs := e ▸ h
theorem ownI_new (w : World) (base : Nat) (bs : List Int) (hb : base ≤ w.heap.size) (hm : bs.length ≤ maxLen) : OwnI (w.alloc (.cells (bs.map (Value.int .i64)).toArray 3)) base (some ⟨w.heap.size, 0, none⟩) bs.length bs.length bs :=
  ⟨rfl, by have := own_lit w base 3 (bs.map (Value.int .i64)) hb (by simpa using hm); simpa using this⟩
theorem ownI_at (w : World) (base g : Nat) (bs : List Int) (hg : g = w.heap.size) (hb : base ≤ w.heap.size) (hm : bs.length ≤ maxLen) : OwnI (w.alloc (.cells (bs.map (Value.int .i64)).toArray 3)) base (some ⟨g, 0, none⟩) bs.length bs.length bs := by
  subst hg
  exact ownI_new w base bs hb hm
theorem ownI_none (w : World) (base : Nat) : OwnI w base none 0 0 [] := ⟨rfl, World.ownsRow_nil _ _ _ _⟩
theorem rdI_new (w : World) (xs : List Value) : Rd (w.alloc (.cells xs.toArray 3)) (w.heap.size + 1) (some ⟨w.heap.size, 0, none⟩) xs := by
  intro _
  refine ⟨_, _, rfl, by omega, fun j u hu => ?_⟩
  rw [cell_of_row _ _ _ _ _ _ (heap_alloc_new w _)]
  simpa using hu

theorem op_appI {w : World} {o : Oper} {a : Act} {K : Act → World → Prop} {Q : Exit → Act → World → Prop} (s x : Operand)
    (ho : o.op = .call { callee := .builtin .append, args := #[s, x], argTypes := #[68, 68] })
    (base : Nat) (A0 : Option Addr) (n0 c0 : Nat) (bs0 : List Int) (hs : a.eval s = .slice A0 n0 c0) (hown : OwnI w base A0 n0 c0 bs0)
    (B : Nat) (A : Option Addr) (m c : Nat) (news : List Int) (hx : a.eval x = .slice A m c) (hm : m = news.length) (hr : Rd w B A (news.map (Value.int .i64)))
    (hb : (n0 + m) * 8 ≤ 140737488355328) (hbase : base ≤ w.heap.size)
    (h : ∀ A' c' w', OwnI w' base A' (n0 + m) c' (bs0 ++ news) → Below base w w' → K (a.put o.dst (.slice A' (n0 + m) c')) w') : o.wp Try.prog a w K Q := by
  obtain ⟨i0, hi, hz0, hz1, hz2⟩ := info_parts infoI
  refine op_app s x 68 ho base 3 i0 (.int .i64 0) 8 Try.underlying68 hi hz0 hz1 hz2 rfl (.slice A0 n0 c0) n0 (bs0.map (Value.int .i64)) hs hown.2 B A m c (news.map (Value.int .i64)) hx (by simpa using hm) hr (I_one news)
    (by unfold maxLen; omega) hb hbase fun A' c' w' h1 h2 _ => h A' c' w' ⟨?_, ?_⟩ h2
  · rw [List.length_append, hown.1, hm]
  · rw [List.map_append]; exact h1
theorem wp_appI {w : World} {ops : Array Oper} {rest : List Oper} {o : Oper} {a : Act} {Q : Exit → Act → World → Prop} (hgd : o.guard = none) (s x : Operand)
    (ho : o.op = .call { callee := .builtin .append, args := #[s, x], argTypes := #[68, 68] })
    (base : Nat) (A0 : Option Addr) (n0 c0 : Nat) (bs0 : List Int) (hs : a.eval s = .slice A0 n0 c0) (hown : OwnI w base A0 n0 c0 bs0)
    (B : Nat) (A : Option Addr) (m c : Nat) (news : List Int) (hx : a.eval x = .slice A m c) (hm : m = news.length) (hr : Rd w B A (news.map (Value.int .i64)))
    (hb : (n0 + m) * 8 ≤ 140737488355328) (hbase : base ≤ w.heap.size)
    (h : ∀ A' c' w', OwnI w' base A' (n0 + m) c' (bs0 ++ news) → Below base w w' → wpList Try.prog ops Q rest (a.put o.dst (.slice A' (n0 + m) c')) w') : wpList Try.prog ops Q (o :: rest) a w :=
  wpList_plain hgd fun _ hK => op_appI s x ho base A0 n0 c0 bs0 hs hown B A m c news hx hm hr hb hbase fun A' c' w' h1 h2 => hK _ _ (h A' c' w' h1 h2)

/-- append([]int{}, x...): a copy -/
theorem op_copyI {o : Oper} {a : Act} {K : Act → World → Prop} {Q : Exit → Act → World → Prop} (s x : Operand)
    (ho : o.op = .call { callee := .builtin .append, args := #[s, x], argTypes := #[68, 68] })
    (w0 : World) (hs : a.eval s = .slice (some ⟨w0.heap.size, 0, none⟩) 0 0)
    (B : Nat) (A : Option Addr) (m c : Nat) (news : List Int) (hx : a.eval x = .slice A m c) (hm : m = news.length) (hr : Rd w0 B A (news.map (Value.int .i64))) (hB : B ≤ w0.heap.size) (hb : m * 8 ≤ 140737488355328)
    (h : ∀ A' c' w', OwnI w' w0.heap.size A' m c' news → Below w0.heap.size w0 w' → K (a.put o.dst (.slice A' m c')) w') : o.wp Try.prog a (w0.alloc (.cells #[] 3)) K Q := by
  refine op_appI s x ho w0.heap.size _ 0 0 [] hs (ownI_new w0 _ [] (Nat.le_refl _) (by simp)) B A m c news hx hm (hr.below ((Below.refl _ _).alloc hB _)) (by omega) (by simp) fun A' c' w' h1 h2 => ?_
  rw [Nat.zero_add] at h1 ⊢
  exact h A' c' w' h1 (((Below.refl _ _).alloc (Nat.le_refl _) _).trans h2)
theorem wp_copyI {ops : Array Oper} {rest : List Oper} {o : Oper} {a : Act} {Q : Exit → Act → World → Prop} (hgd : o.guard = none) (s x : Operand)
    (ho : o.op = .call { callee := .builtin .append, args := #[s, x], argTypes := #[68, 68] })
    (w0 : World) (hs : a.eval s = .slice (some ⟨w0.heap.size, 0, none⟩) 0 0)
    (B : Nat) (A : Option Addr) (m c : Nat) (news : List Int) (hx : a.eval x = .slice A m c) (hm : m = news.length) (hr : Rd w0 B A (news.map (Value.int .i64))) (hB : B ≤ w0.heap.size) (hb : m * 8 ≤ 140737488355328)
    (h : ∀ A' c' w', OwnI w' w0.heap.size A' m c' news → Below w0.heap.size w0 w' → wpList Try.prog ops Q rest (a.put o.dst (.slice A' m c')) w') : wpList Try.prog ops Q (o :: rest) a (w0.alloc (.cells #[] 3)) :=
  wpList_plain hgd fun _ hK => op_copyI s x ho w0 hs B A m c news hx hm hr hB hb fun A' c' w' h1 h2 => hK _ _ (h A' c' w' h1 h2)
/-- the same, guarded, where the guard says yes -/
theorem wp_copyI_g {ops : Array Oper} {rest : List Oper} {o : Oper} {a : Act} {Q : Exit → Act → World → Prop} (hgd : Region.wanted o (yielded ops a.tmps) = true) (s x : Operand)
    (ho : o.op = .call { callee := .builtin .append, args := #[s, x], argTypes := #[68, 68] })
    (w0 : World) (hs : a.eval s = .slice (some ⟨w0.heap.size, 0, none⟩) 0 0)
    (B : Nat) (A : Option Addr) (m c : Nat) (news : List Int) (hx : a.eval x = .slice A m c) (hm : m = news.length) (hr : Rd w0 B A (news.map (Value.int .i64))) (hB : B ≤ w0.heap.size) (hb : m * 8 ≤ 140737488355328)
    (h : ∀ A' c' w', OwnI w' w0.heap.size A' m c' news → Below w0.heap.size w0 w' → wpList Try.prog ops Q rest (a.put o.dst (.slice A' m c')) w') : wpList Try.prog ops Q (o :: rest) a (w0.alloc (.cells #[] 3)) :=
  BigFrame.wpList_want hgd fun _ hK => op_copyI s x ho w0 hs B A m c news hx hm hr hB hb fun A' c' w' h1 h2 => hK _ _ (h A' c' w' h1 h2)

end Go.Proofs.Ytgbpfknmdpkacaa

namespace Chg
set_option maxRecDepth 20000

/-- the set of the nodes for which f holds -/
def setF (f : Nat → Bool) : Nat := (if f 0 then 1 else 0) + (if f 1 then 2 else 0) + (if f 2 then 4 else 0) + (if f 3 then 8 else 0) + (if f 4 then 16 else 0) + (if f 5 then 32 else 0)
theorem setF_lt (f : Nat → Bool) : setF f < 64 := by
  unfold setF
  cases f 0 <;> cases f 1 <;> cases f 2 <;> cases f 3 <;> cases f 4 <;> cases f 5 <;> decide
/-- how many nodes -/
def cnt (n : Nat) : Nat := (if n.testBit 0 then 1 else 0) + (if n.testBit 1 then 1 else 0) + (if n.testBit 2 then 1 else 0) + (if n.testBit 3 then 1 else 0) + (if n.testBit 4 then 1 else 0) + (if n.testBit 5 then 1 else 0)
def minus (a b : Nat) : Nat := setF fun k => a.testBit k && !b.testBit k
def within (a b : Nat) : Bool := a ||| b == b
theorem setF_bit (f : Nat → Bool) (k : Nat) (hk : k < 6) : (setF f).testBit k = f k := by
  unfold setF
  obtain rfl | rfl | rfl | rfl | rfl | rfl : k = 0 ∨ k = 1 ∨ k = 2 ∨ k = 3 ∨ k = 4 ∨ k = 5 := by omega
  all_goals (cases f 0 <;> cases f 1 <;> cases f 2 <;> cases f 3 <;> cases f 4 <;> cases f 5 <;> decide)
theorem setF_congr {f g : Nat → Bool} (h : ∀ k, k < 6 → f k = g k) : setF f = setF g := by
  unfold setF
  rw [h 0 (by omega), h 1 (by omega), h 2 (by omega), h 3 (by omega), h 4 (by omega), h 5 (by omega)]
theorem all64 {p : Nat → Bool} (h : ∀ a : Fin 64, p a.val = true) (a : Nat) (ha : a < 64) : p a = true := h ⟨a, ha⟩
theorem setF_self (a : Nat) (ha : a < 64) : setF a.testBit = a := by
  have h : ∀ a : Fin 64, (setF a.val.testBit == a.val) = true := by decide +kernel
  exact eq_of_beq (h ⟨a, ha⟩)
theorem ext64 {a b : Nat} (ha : a < 64) (hb : b < 64) (h : ∀ k, k < 6 → a.testBit k = b.testBit k) : a = b := by
  rw [← setF_self a ha, ← setF_self b hb]
  exact setF_congr h
theorem or_lt {a b : Nat} (ha : a < 64) (hb : b < 64) : a ||| b < 64 := Nat.or_lt_two_pow (n := 6) ha hb
theorem setF_or (a b : Nat) (ha : a < 64) (hb : b < 64) : setF (fun k => a.testBit k || b.testBit k) = a ||| b := by
  apply ext64 (setF_lt _) (or_lt ha hb)
  intro k hk
  rw [setF_bit _ k hk, Nat.testBit_or]
theorem minus_lt (a b : Nat) : minus a b < 64 := setF_lt _
theorem minus_bit (a b k : Nat) (hk : k < 6) : (minus a b).testBit k = (a.testBit k && !b.testBit k) := setF_bit _ k hk
theorem minus_zero (a b : Nat) (ha : a < 64) (hb : b < 64) : (minus a b == 0) = within a b := by
  have h : ∀ a b : Fin 64, ((minus a.val b.val == 0) == within a.val b.val) = true := by decide +kernel
  exact eq_of_beq (h ⟨a, ha⟩ ⟨b, hb⟩)
theorem minus_or (a b : Nat) (ha : a < 64) (hb : b < 64) : minus a b ||| b = a ||| b := by
  have h : ∀ a b : Fin 64, ((minus a.val b.val ||| b.val) == (a.val ||| b.val)) = true := by decide +kernel
  exact eq_of_beq (h ⟨a, ha⟩ ⟨b, hb⟩)
theorem minus_minus (a b : Nat) (ha : a < 64) (hb : b < 64) : minus (minus a b) b = minus a b := by
  have h : ∀ a b : Fin 64, (minus (minus a.val b.val) b.val == minus a.val b.val) = true := by decide +kernel
  exact eq_of_beq (h ⟨a, ha⟩ ⟨b, hb⟩)
theorem cnt_or (a b : Nat) (ha : a < 64) (hb : b < 64) : cnt (a ||| b) = cnt b + cnt (minus a b) := by
  have h : ∀ a b : Fin 64, (cnt (a.val ||| b.val) == cnt b.val + cnt (minus a.val b.val)) = true := by decide +kernel
  exact eq_of_beq (h ⟨a, ha⟩ ⟨b, hb⟩)
theorem cnt_within (a b : Nat) (ha : a < 64) (hb : b < 64) (h : within a b = true) : cnt a ≤ cnt b := by
  have h2 : ∀ a b : Fin 64, (!(within a.val b.val) || decide (cnt a.val ≤ cnt b.val)) = true := by decide +kernel
  have := h2 ⟨a, ha⟩ ⟨b, hb⟩
  simp only [h, Bool.not_true, Bool.false_or, decide_eq_true_iff] at this
  exact this
theorem within_both (a b : Nat) (ha : a < 64) (hb : b < 64) : (within a b && within b a) = (a == b) := by
  have h : ∀ a b : Fin 64, ((within a.val b.val && within b.val a.val) == (a.val == b.val)) = true := by decide +kernel
  exact eq_of_beq (h ⟨a, ha⟩ ⟨b, hb⟩)
theorem within_iff (a b : Nat) : within a b = true ↔ a ||| b = b := by unfold within; simp
theorem cnt_le (a : Nat) : cnt a ≤ 6 := by
  unfold cnt
  split <;> split <;> split <;> split <;> split <;> split <;> decide
/-- the set of a list of nodes: none if one isn't from 0 to 5 -/
def setL (l : List Int) : Option Nat := if l.all (fun n => decide (0 ≤ n ∧ n ≤ 5)) then some (setF fun k => l.any fun n => n == (k : Int)) else none
end Chg
