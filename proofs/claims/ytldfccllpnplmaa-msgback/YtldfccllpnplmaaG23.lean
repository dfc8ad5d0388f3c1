/- Contracts and words on which the claims of this seat stand, part 23: MsP MsX MsW MsR MsS. -/
import Derived.Test.YtldfccllpnplmaaG01
import Derived.Test.YtldfccllpnplmaaG04
import Derived.Test.YtldfccllpnplmaaG05
import Derived.Test.YtldfccllpnplmaaG19
import Derived.Test.YtldfccllpnplmaaG20
set_option linter.unusedSimpArgs false
set_option linter.unusedVariables false
namespace Go.Proofs.Ytldfccllpnplmaa.Ms
set_option maxRecDepth 20000
open Cl Bk Wire Lg
open Crc hiding zero

structure M where
  kind : Int
  src : Int
  dst : Int
  inc : Int
  seq : Int
  va : Int
  vd : Int
  cells : List C
  book : List E
def zeroM : M := ⟨0, 0, 0, 0, 0, 0, 0, [], []⟩
def headM (m : M) : Bool := decide ((0 ≤ m.kind ∧ m.kind ≤ 7) ∧ (0 ≤ m.src ∧ m.src ≤ 5) ∧ (0 ≤ m.dst ∧ m.dst ≤ 5) ∧ (1 ≤ m.inc ∧ m.inc ≤ 1000000) ∧ 1 ≤ m.seq ∧ m.seq ≤ 1000000)
def listsM (m : M) : Bool := rvC m.va m.vd && (isCl m.cells && isBook m.book)
def kindsM (m : M) : Bool := (decide (m.kind = 1 ∨ m.kind = 5) || decide (m.cells.length = 0)) && (decide (m.kind = 3 ∨ m.kind = 6) || decide (m.book.length = 0))
/-- can it be? -/
def rightM (m : M) : Bool := headM m && (listsM m && kindsM m)
def intsM (a b : M) : Bool := decide (a.kind = b.kind ∧ a.src = b.src ∧ a.dst = b.dst ∧ a.inc = b.inc ∧ a.seq = b.seq ∧ a.va = b.va ∧ a.vd = b.vd)
/-- are two the same? -/
def sameM (a b : M) : Bool := intsM a b && (sameC a.cells b.cells && same a.book b.book)
def cellN (x : C) : List Nat := [x.1.toNat, nm x.2.1 x.2.2]
def entN (e : E) : List Nat := [e.key.toNat, e.num.toNat, e.node.toNat, Flt.clean e.val]
def headN (m : M) : List Nat := [m.kind.toNat, m.src.toNat, m.dst.toNat, m.inc.toNat, m.seq.toNat, nm m.va m.vd, m.cells.length]
def numsM (m : M) : List Nat := headN m ++ (m.cells.flatMap cellN ++ (m.book.length :: m.book.flatMap entN))
def bodyM (m : M) : List UInt8 := (numsM m).flatMap form
def frameM (m : M) : List UInt8 := seal_ (bodyM m)
def cnE (e : E) : E := { e with val := Flt.clean e.val }
/-- the same with its values in their one form -/
def cnM (m : M) : M := { m with book := m.book.map cnE }
def Ok (m : M) : Prop := rightM m = true ∧ ∀ e ∈ m.book, Flt.U64 e.val
/-- does one answer another? -/
def fitsM (q a : Int) : Bool := decide ((q = 0 ∧ a = 5) ∨ (q = 2 ∧ a = 6) ∨ ((q = 1 ∨ q = 3 ∨ q = 4) ∧ a = 7))
def ansM (q a : M) : Bool := fitsM q.kind a.kind && decide (q.src = a.dst ∧ q.dst = a.src ∧ q.inc = a.inc ∧ q.seq = a.seq ∧ q.va = a.va ∧ q.vd = a.vd)

theorem headM_iff (m : M) : headM m = true ↔ (0 ≤ m.kind ∧ m.kind ≤ 7) ∧ (0 ≤ m.src ∧ m.src ≤ 5) ∧ (0 ≤ m.dst ∧ m.dst ≤ 5) ∧ (1 ≤ m.inc ∧ m.inc ≤ 1000000) ∧ 1 ≤ m.seq ∧ m.seq ≤ 1000000 := decide_eq_true_iff
theorem rightM_iff (m : M) : rightM m = true ↔ headM m = true ∧ rvC m.va m.vd = true ∧ isCl m.cells = true ∧ isBook m.book = true ∧ kindsM m = true := by
  unfold rightM listsM
  simp only [Bool.and_eq_true]
  constructor
  · rintro ⟨h1, ⟨h2, h3, h4⟩, h5⟩; exact ⟨h1, h2, h3, h4, h5⟩
  · rintro ⟨h1, h2, h3, h4, h5⟩; exact ⟨h1, ⟨h2, h3, h4⟩, h5⟩
theorem book_len {l : List E} (h : isBook l = true) : l.length ≤ 4 := by
  have key : ∀ (l : List E) (p : Int), chk p l = true → (l = [] ∨ (l.length : Int) ≤ 3 - p) := by
    intro l
    induction l with
    | nil => intro p _; exact Or.inl rfl
    | cons x l ih =>
      intro p hp
      right
      have hx := (chk_mem (x :: l) p hp x (by simp))
      have h1 := (okE_iff x).1 hx.1
      unfold chk at hp
      rw [Bool.and_eq_true] at hp
      rcases ih x.key hp.2 with h2 | h2
      · subst h2; simp; omega
      · rw [List.length_cons]; omega
  rcases key l (-1) h with h1 | h1
  · subst h1; simp
  · omega
theorem cnE_alike (e : E) : alike (cnE e) e = true := alike_clean e
theorem cn_book : ∀ (l : List E) (p : Int), chk p (l.map cnE) = chk p l
  | [], _ => rfl
  | x :: l, p => by
    show ((okE (cnE x) && decide (p < (cnE x).key)) && chk (cnE x).key (l.map cnE)) = ((okE x && decide (p < x.key)) && chk x.key l)
    rw [show (cnE x).key = x.key from rfl, cn_book l x.key]
    rfl
theorem right_cn (m : M) : rightM (cnM m) = rightM m := by
  unfold rightM listsM kindsM headM cnM
  simp only [List.length_map]
  have : isBook (m.book.map cnE) = isBook m.book := cn_book m.book (-1)
  rw [this]
theorem nums_cn (m : M) : numsM (cnM m) = numsM m := by
  unfold numsM headN cnM
  have e : (fun a => entN (cnE a)) = entN := by
    funext e
    unfold entN cnE
    simp only [clean_clean]
  simp only [List.length_map, List.flatMap_map, e]
theorem frame_cn (m : M) : frameM (cnM m) = frameM m := by unfold frameM bodyM; rw [nums_cn]
theorem ok_cn {m : M} (h : Ok m) : Ok (cnM m) := by
  refine ⟨by rw [right_cn]; exact h.1, fun e he => ?_⟩
  obtain ⟨x, hx, rfl⟩ := List.mem_map.1 he
  exact u64_clean (h.2 x hx)
theorem cn_cn (m : M) : cnM (cnM m) = cnM m := by
  unfold cnM
  simp only [List.map_map]
  congr 1
  apply List.map_congr_left
  intro e _
  unfold cnE
  simp only [Function.comp_apply, clean_clean]
theorem same_cn (m : M) : sameM (cnM m) m = true := by
  unfold sameM intsM
  rw [decide_eq_true (by simp [cnM]), Bool.true_and, Bool.and_eq_true]
  refine ⟨sameC_refl _, ?_⟩
  show same (m.book.map cnE) m.book = true
  generalize m.book = l
  induction l with
  | nil => rfl
  | cons x l ih => show (alike (cnE x) x && same (l.map cnE) l) = true; rw [cnE_alike, ih]; rfl
theorem sameM_refl (m : M) : sameM m m = true := by
  unfold sameM intsM
  rw [decide_eq_true (by simp), sameC_refl, same_refl]; rfl
theorem cellN_ok {x : C} (h : okC x = true) : ∀ n ∈ cellN x, n < 4096 := by
  rw [okC_iff] at h
  have h2 := of_decide_eq_true h.2.1
  intro n hn
  unfold cellN nm at hn
  simp only [List.mem_cons, List.not_mem_nil, or_false] at hn
  rcases hn with rfl | rfl <;> omega
theorem entN_ok {e : E} (h : okE e = true) (hv : Flt.U64 e.val) : ∀ n ∈ entN e, W64 n := by
  rw [okE_iff] at h
  have h2 : Flt.clean e.val < 18446744073709551616 := u64_clean hv
  intro n hn
  unfold entN at hn
  simp only [List.mem_cons, List.not_mem_nil, or_false] at hn
  unfold W64
  rw [show (256 : Nat) ^ 8 = 18446744073709551616 from rfl]
  rcases hn with rfl | rfl | rfl | rfl <;> omega
theorem w64_small {n : Nat} (h : n < 1099511627776) : W64 n := by unfold W64; rw [show (256 : Nat) ^ 8 = 18446744073709551616 from rfl]; omega
theorem numsM_ok {m : M} (h : Ok m) : ∀ n ∈ numsM m, W64 n := by
  obtain ⟨h0, hv⟩ := h
  rw [rightM_iff, headM_iff] at h0
  obtain ⟨h1, h2, h3, h4, _⟩ := h0
  have h2 := of_decide_eq_true h2
  have hl := cl_len h3
  have hb := book_len h4
  intro n hn
  unfold numsM headN at hn
  rw [List.mem_append, List.mem_append] at hn
  rcases hn with hn | hn | hn
  · simp only [List.mem_cons, List.not_mem_nil, or_false] at hn
    unfold nm at hn
    refine w64_small ?_
    rcases hn with rfl | rfl | rfl | rfl | rfl | rfl | rfl <;> omega
  · obtain ⟨x, hx, hn⟩ := List.mem_flatMap.1 hn
    have := cellN_ok (isCl_mem h3 hx) n hn
    exact w64_small (by omega)
  · rcases List.mem_cons.1 hn with rfl | hn
    · exact w64_small (by omega)
    · obtain ⟨x, hx, hn⟩ := List.mem_flatMap.1 hn
      exact entN_ok (chk_mem m.book (-1) h4 x hx).1 (hv x hx) n hn
theorem flat_cellN : ∀ (l : List C), (l.flatMap cellN).length = 2 * l.length
  | [] => rfl
  | x :: l => by rw [List.flatMap_cons, List.length_append, flat_cellN l, List.length_cons]; simp [cellN]; omega
theorem flat_entN : ∀ (l : List E), (l.flatMap entN).length = 4 * l.length
  | [] => rfl
  | x :: l => by rw [List.flatMap_cons, List.length_append, flat_entN l, List.length_cons]; simp [entN]; omega
theorem numsM_len (m : M) : (numsM m).length = 8 + 2 * m.cells.length + 4 * m.book.length := by
  unfold numsM
  rw [List.length_append, List.length_append, List.length_cons, flat_cellN, flat_entN]
  simp [headN]
  omega
theorem numsM_le {m : M} (h : rightM m = true) : (numsM m).length ≤ 36 := by
  rw [rightM_iff] at h
  have := cl_len h.2.2.1
  have := book_len h.2.2.2.1
  rw [numsM_len]
  omega
/-- a number at a place; a great one, if there is none -/
def atN (n : List Nat) (i : Nat) : Nat := match n[i]? with
  | none => 1099511627776
  | some x => if 1099511627776 < x then 1099511627776 else x
def namV (x : Nat) : Int × Int := if x < 4096 then (((x / 64 : Nat) : Int), ((x % 64 : Nat) : Int)) else (0, 0)
def cellD (n : List Nat) (p : Nat) : C := ((atN n p : Int), namV (atN n (p + 1)))
def entD (n : List Nat) (p : Nat) : E := ⟨(atN n p : Int), (atN n (p + 1) : Int), (atN n (p + 2) : Int), (n[p + 3]?).getD 0⟩
def manyD (n : List Nat) : Nat := min (atN n 6) 6
def placeD (n : List Nat) : Nat := 7 + 2 * manyD n
def bookD (n : List Nat) : Nat := min (atN n (placeD n)) 4
/-- what numbers seem to say -/
def decM (n : List Nat) : M := ⟨(atN n 0 : Int), (atN n 1 : Int), (atN n 2 : Int), (atN n 3 : Int), (atN n 4 : Int), (namV (atN n 5)).1, (namV (atN n 5)).2,
  (List.range (manyD n)).map fun k => cellD n (7 + 2 * k), (List.range (bookD n)).map fun k => entD n (placeD n + 1 + 4 * k)⟩
theorem atN_eq {n : List Nat} {i x : Nat} (h : n[i]? = some x) (hx : x ≤ 1099511627776) : atN n i = x := by
  unfold atN
  rw [h]
  simp only
  rw [if_neg (by omega)]
theorem nm_name {a d : Int} (h : rvC a d = true) : namV (nm a d) = (a, d) ∧ nm a d < 4096 := by
  have h := of_decide_eq_true h
  unfold nm
  have e : (64 * a + d).toNat = 64 * a.toNat + d.toNat := by omega
  rw [e]
  refine ⟨?_, by omega⟩
  unfold namV
  rw [if_pos (by omega)]
  have e1 : (64 * a.toNat + d.toNat) / 64 = a.toNat := by omega
  have e2 : (64 * a.toNat + d.toNat) % 64 = d.toNat := by omega
  rw [e1, e2, Prod.mk.injEq]
  omega
/-- numbers in a list of lists of as many -/
theorem flat_get {α : Type} {f : α → List Nat} {c : Nat} (hf : ∀ x, (f x).length = c) : ∀ (l : List α) (k : Nat) (x : α), l[k]? = some x → ∀ i, i < c → (l.flatMap f)[c * k + i]? = (f x)[i]?
  | [], _, _, h, _, _ => by simp at h
  | y :: l, 0, x, h, i, hi => by
    simp only [List.getElem?_cons_zero, Option.some.injEq] at h
    subst h
    rw [List.flatMap_cons, Nat.mul_zero, Nat.zero_add, List.getElem?_append_left (by rw [hf]; exact hi)]
  | y :: l, k + 1, x, h, i, hi => by
    have ih := flat_get hf l k x (by simpa using h) i hi
    rw [List.flatMap_cons, Nat.mul_add, Nat.mul_one, List.getElem?_append_right (by rw [hf]; omega), hf, show c * k + c + i - c = c * k + i by omega]
    exact ih
theorem lt_ofM {α : Type} {l : List α} {k : Nat} {x : α} (h : l[k]? = some x) : k < l.length := by
  rcases Nat.lt_or_ge k l.length with h' | h'
  · exact h'
  · rw [List.getElem?_eq_none h'] at h; cases h
theorem decM_nums {m : M} (h : rightM m = true) : decM (numsM m) = cnM m := by
  have h0 := h
  rw [rightM_iff, headM_iff] at h0
  obtain ⟨h1, h2, h3, h4, _⟩ := h0
  have hl := cl_len h3
  have hb := book_len h4
  have hnm := nm_name h2
  have hH : ∀ i x, (headN m)[i]? = some x → (numsM m)[i]? = some x := fun i x hx => by
    unfold numsM
    rw [List.getElem?_append_left (lt_ofM hx)]
    exact hx
  have a0 := atN_eq (hH 0 _ rfl) (by show m.kind.toNat ≤ _; omega)
  have a1 := atN_eq (hH 1 _ rfl) (by show m.src.toNat ≤ _; omega)
  have a2 := atN_eq (hH 2 _ rfl) (by show m.dst.toNat ≤ _; omega)
  have a3 := atN_eq (hH 3 _ rfl) (by show m.inc.toNat ≤ _; omega)
  have a4 := atN_eq (hH 4 _ rfl) (by show m.seq.toNat ≤ _; omega)
  have a5 := atN_eq (hH 5 _ rfl) (by show nm m.va m.vd ≤ _; omega)
  have a6 := atN_eq (hH 6 _ rfl) (by show m.cells.length ≤ _; omega)
  have hm : manyD (numsM m) = m.cells.length := by unfold manyD; rw [a6]; omega
  have hp : placeD (numsM m) = 7 + 2 * m.cells.length := by unfold placeD; rw [hm]
  have hC : ∀ i, i < 2 * m.cells.length → (numsM m)[7 + i]? = (m.cells.flatMap cellN)[i]? := fun i hi => by
    unfold numsM
    rw [List.getElem?_append_right (by simp [headN]), show 7 + i - (headN m).length = i by simp [headN], List.getElem?_append_left (by rw [flat_cellN]; exact hi)]
  have hB : ∀ i, (numsM m)[7 + 2 * m.cells.length + i]? = (m.book.length :: m.book.flatMap entN)[i]? := fun i => by
    unfold numsM
    rw [List.getElem?_append_right (by simp [headN]; omega), List.getElem?_append_right (by rw [flat_cellN]; simp [headN]; omega), flat_cellN, show 7 + 2 * m.cells.length + i - (headN m).length - 2 * m.cells.length = i by simp [headN]; omega]
  have ab := atN_eq ((hB 0).trans rfl) (by show m.book.length ≤ _; omega)
  have hbd : bookD (numsM m) = m.book.length := by
    unfold bookD
    rw [hp, ← Nat.add_zero (7 + 2 * m.cells.length), ab]
    omega
  have eC : ((List.range (manyD (numsM m))).map fun k => cellD (numsM m) (7 + 2 * k)) = m.cells := by
    rw [hm]
    apply List.ext_getElem
    · simp
    · intro k hk1 hk2
      rw [List.getElem_map, List.getElem_range]
      have hz : m.cells[k]? = some m.cells[k] := List.getElem?_eq_getElem hk2
      have hok := isCl_mem h3 (List.getElem_mem hk2)
      have hlt := cellN_ok hok
      rw [okC_iff] at hok
      have g0 := (hC (2 * k) (by omega)).trans (flat_get (f := cellN) (c := 2) (fun _ => rfl) m.cells k _ hz 0 (by omega))
      have g1 := (hC (2 * k + 1) (by omega)).trans (flat_get (f := cellN) (c := 2) (fun _ => rfl) m.cells k _ hz 1 (by omega))
      generalize m.cells[k] = x at g0 g1 hok hlt
      have e0 := atN_eq (g0.trans rfl) (by have := hlt x.1.toNat (by simp [cellN]); omega)
      have e1 := atN_eq (i := 7 + (2 * k + 1)) (g1.trans rfl) (by have := hlt (nm x.2.1 x.2.2) (by simp [cellN]); omega)
      unfold cellD
      rw [e0, show 7 + 2 * k + 1 = 7 + (2 * k + 1) by omega, e1, (nm_name hok.2.1).1]
      obtain ⟨x1, x2, x3⟩ := x
      simp only
      rw [Prod.mk.injEq]
      simp only at hok
      exact ⟨by omega, rfl⟩
  have eB : ((List.range (bookD (numsM m))).map fun k => entD (numsM m) (placeD (numsM m) + 1 + 4 * k)) = m.book.map cnE := by
    rw [hbd, hp]
    apply List.ext_getElem
    · simp
    · intro k hk1 hk2
      rw [List.getElem_map, List.getElem_range, List.getElem_map]
      have hk3 : k < m.book.length := by simpa using hk2
      have hz : m.book[k]? = some m.book[k] := List.getElem?_eq_getElem hk3
      have hok := (chk_mem m.book (-1) h4 _ (List.getElem_mem hk3)).1
      rw [okE_iff] at hok
      have gg : ∀ i, i < 4 → (numsM m)[7 + 2 * m.cells.length + 1 + 4 * k + i]? = (entN m.book[k])[i]? := fun i hi => by
        rw [show 7 + 2 * m.cells.length + 1 + 4 * k + i = 7 + 2 * m.cells.length + (4 * k + i + 1) by omega, hB, List.getElem?_cons_succ]
        exact flat_get (f := entN) (c := 4) (fun _ => rfl) m.book k _ hz i hi
      generalize m.book[k] = x at gg hok
      have e0 := atN_eq ((gg 0 (by omega)).trans rfl) (by show x.key.toNat ≤ _; omega)
      have e1 := atN_eq ((gg 1 (by omega)).trans rfl) (by show x.num.toNat ≤ _; omega)
      have e2 := atN_eq ((gg 2 (by omega)).trans rfl) (by show x.node.toNat ≤ _; omega)
      have e3 := (gg 3 (by omega)).trans (show (entN x)[3]? = some (Flt.clean x.val) from rfl)
      rw [Nat.add_zero] at e0
      unfold entD
      rw [e0, e1, e2, e3]
      obtain ⟨x1, x2, x3, x4⟩ := x
      simp only [cnE, Option.getD_some]
      simp only at hok
      rw [E.mk.injEq]
      omega
  unfold decM
  rw [eC, eB, a0, a1, a2, a3, a4, a5, hnm.1]
  unfold cnM
  obtain ⟨k, s, d, i, q, va, vd, cs, bs⟩ := m
  simp only [M.mk.injEq, and_true, true_and]
  simp only at h1
  omega
/-- so many numbers at most, off bytes -/
def numsU : Nat → List UInt8 → Option (List Nat)
  | 0, _ => some []
  | _ + 1, [] => some []
  | k + 1, b => match takeF b with
    | none => none
    | some (x, r) => (numsU k r).map (x :: ·)
theorem numsU_forms : ∀ (k : Nat) (ns : List Nat), ns.length ≤ k → (∀ n ∈ ns, W64 n) → numsU k (ns.flatMap form) = some ns
  | 0, ns, hk, _ => by
    have : ns = [] := List.eq_nil_of_length_eq_zero (by omega)
    subst this
    rfl
  | k + 1, [], _, _ => rfl
  | k + 1, x :: ns, hk, hw => by
    have h1 := takeF_form x (ns.flatMap form) (hw x (by simp))
    have h2 := numsU_forms k ns (by simpa using hk) (fun n hn => hw n (by simp [hn]))
    rw [List.flatMap_cons]
    cases hf : form x ++ ns.flatMap form with
    | nil => exact absurd (List.append_eq_nil_iff.1 hf).1 (form_ne x)
    | cons y l =>
      rw [hf] at h1
      show (match takeF (y :: l) with | none => none | some (x, r) => (numsU k r).map (x :: ·)) = _
      rw [h1]
      simp only [h2, Option.map_some]
theorem numsU_some : ∀ (k : Nat) (b : List UInt8) (ns : List Nat), numsU k b = some ns → (∀ n ∈ ns, W64 n) ∧ ∃ r, b = ns.flatMap form ++ r ∧ (r = [] ∨ ns.length = k)
  | 0, b, ns, h => by
    cases h
    exact ⟨by simp, b, rfl, Or.inr rfl⟩
  | k + 1, [], ns, h => by
    cases h
    exact ⟨by simp, [], rfl, Or.inl rfl⟩
  | k + 1, y :: l, ns, h => by
    have h' : (match takeF (y :: l) with | none => none | some (x, r) => (numsU k r).map (x :: ·)) = some ns := h
    cases ht : takeF (y :: l) with
    | none => rw [ht] at h'; cases h'
    | some p =>
      obtain ⟨x, r⟩ := p
      rw [ht] at h'
      simp only [Option.map_eq_some_iff] at h'
      obtain ⟨ms, hm, rfl⟩ := h'
      obtain ⟨hx, hb⟩ := takeF_some ht
      obtain ⟨h1, r', h2, h3⟩ := numsU_some k r ms hm
      refine ⟨fun n hn => ?_, r', ?_, ?_⟩
      · rcases List.mem_cons.1 hn with rfl | hn
        · exact hx
        · exact h1 n hn
      · rw [hb, h2, List.flatMap_cons, List.append_assoc]
      · rcases h3 with h3 | h3
        · exact Or.inl h3
        · exact Or.inr (by rw [List.length_cons, h3])
theorem forms_pre : ∀ (a b : List Nat) (r : List UInt8), (∀ x ∈ a, W64 x) → (∀ x ∈ b, W64 x) → a.flatMap form = b.flatMap form ++ r → ∃ c, a = b ++ c ∧ r = c.flatMap form
  | a, [], r, _, _, h => ⟨a, rfl, h.symm⟩
  | [], y :: b, r, _, _, h => by
    rw [List.flatMap_nil, List.flatMap_cons, List.append_assoc] at h
    exact absurd (List.append_eq_nil_iff.1 h.symm).1 (form_ne y)
  | x :: a, y :: b, r, ha, hb, h => by
    rw [List.flatMap_cons, List.flatMap_cons, List.append_assoc] at h
    have h1 := takeF_form x (a.flatMap form) (ha x (by simp))
    have h2 := takeF_form y (b.flatMap form ++ r) (hb y (by simp))
    rw [h, h2] at h1
    have := Option.some.inj h1
    simp only [Prod.mk.injEq] at this
    obtain ⟨c, hc1, hc2⟩ := forms_pre a b r (fun z hz => ha z (by simp [hz])) (fun z hz => hb z (by simp [hz])) this.2.symm
    exact ⟨c, by rw [this.1, hc1]; rfl, hc2⟩
/-- the message of a frame -/
def readF (x : List UInt8) : Option M := match openF x with
  | none => none
  | some b => match numsU 60 b with
    | none => none
    | some n => if rightM (decM n) = true ∧ frameM (decM n) = x then some (decM n) else none
theorem decM_val {n : List Nat} (hn : ∀ x ∈ n, W64 x) : ∀ e ∈ (decM n).book, Flt.U64 e.val := by
  intro e he
  obtain ⟨k, _, rfl⟩ := List.mem_map.1 he
  show (n[placeD n + 1 + 4 * k + 3]?).getD 0 < 18446744073709551616
  cases h : n[placeD n + 1 + 4 * k + 3]? with
  | none => simp
  | some x => exact hn x (List.mem_of_getElem? h)
theorem readF_yes {m : M} (h : Ok m) : readF (frameM m) = some (cnM m) := by
  unfold readF frameM
  rw [open_seal]
  simp only
  rw [show bodyM m = (numsM m).flatMap form from rfl, numsU_forms 60 (numsM m) (by have := numsM_le h.1; omega) (numsM_ok h)]
  simp only
  rw [decM_nums h.1, if_pos ⟨by rw [right_cn]; exact h.1, frame_cn m⟩]
theorem readF_some {x : List UInt8} {m : M} (h : readF x = some m) : Ok m ∧ cnM m = m ∧ frameM m = x := by
  unfold readF at h
  cases ho : openF x with
  | none => rw [ho] at h; cases h
  | some b =>
    rw [ho] at h
    simp only at h
    cases hn : numsU 60 b with
    | none => rw [hn] at h; cases h
    | some n =>
      rw [hn] at h
      simp only at h
      by_cases hc : rightM (decM n) = true ∧ frameM (decM n) = x
      · rw [if_pos hc] at h
        cases h
        obtain ⟨hw, r, hb, hr⟩ := numsU_some 60 b n hn
        have hok : Ok (decM n) := ⟨hc.1, decM_val hw⟩
        refine ⟨hok, ?_, hc.2⟩
        have h1 := open_some ho
        have h2 := hc.2
        rw [h1] at h2
        have h3 : bodyM (decM n) = b := by
          have := congrArg openF h2
          unfold frameM at this
          rw [open_seal, open_seal] at this
          exact Option.some.inj this
        rw [hb] at h3
        obtain ⟨c, hc1, hc2⟩ := forms_pre _ _ _ (numsM_ok hok) hw h3
        have hle := numsM_le hok.1
        have hcn : c = [] := by
          rcases hr with hr | hr
          · rw [hr] at hc2
            cases c with
            | nil => rfl
            | cons y l =>
              rw [List.flatMap_cons] at hc2
              exact absurd (List.append_eq_nil_iff.1 hc2.symm).1 (form_ne y)
          · rw [hc1, List.length_append, hr] at hle
            omega
        rw [hcn, List.append_nil] at hc1
        rw [← decM_nums hok.1, hc1]
      · rw [if_neg hc] at h
        cases h
theorem readF_none {x : List UInt8} (h : ∀ m, Ok m → frameM m ≠ x) : readF x = none := by
  cases hr : readF x with
  | none => rfl
  | some m =>
    have := readF_some hr
    exact absurd this.2.2 (h m this.1)
/-- unlike messages have unlike frames -/
theorem frame_inj {a b : M} (ha : Ok a) (hb : Ok b) (h : frameM a = frameM b) : cnM a = cnM b := by
  have h1 := readF_yes ha
  rw [h, readF_yes hb] at h1
  exact (Option.some.inj h1).symm
end Go.Proofs.Ytldfccllpnplmaa.Ms

namespace Go.Proofs.Ytldfccllpnplmaa.Ms
set_option maxRecDepth 20000
open Cl Bk Wire Lg
open Crc hiding zero

theorem sz_2 {n : Nat} (h : n < 65536) : sz n ≤ 2 := szk_ge 8 n 2 (by omega) (by omega)
theorem flen_cell {x : C} (h : okC x = true) : ((cellN x).flatMap form).length ≤ 7 := by
  have hn := cellN_ok h
  unfold cellN at hn ⊢
  simp only [List.mem_cons, List.not_mem_nil, or_false, forall_eq_or_imp, forall_eq] at hn
  have h1 := sz_2 (n := x.1.toNat) (by omega)
  have h2 := sz_2 (n := nm x.2.1 x.2.2) (by omega)
  simp only [List.flatMap_cons, List.flatMap_nil, List.length_append, form_len, List.length_nil]
  omega
theorem sz_1 {n : Nat} (h : n < 256) : sz n ≤ 1 := szk_ge 8 n 1 (by omega) (by omega)
theorem sz_3 {n : Nat} (h : n < 16777216) : sz n ≤ 3 := szk_ge 8 n 3 (by omega) (by omega)
theorem flen_ent {e : E} (h : okE e = true) : ((entN e).flatMap form).length ≤ 19 := by
  rw [okE_iff] at h
  unfold entN
  have h1 := sz_1 (n := e.key.toNat) (by omega)
  have h2 := sz_3 (n := e.num.toNat) (by omega)
  have h3 := sz_1 (n := e.node.toNat) (by omega)
  have h4 := sz_le (Flt.clean e.val)
  simp only [List.flatMap_cons, List.flatMap_nil, List.length_append, form_len, List.length_nil]
  omega
theorem flen_cells : ∀ (l : List C), (∀ x ∈ l, okC x = true) → ((l.flatMap cellN).flatMap form).length ≤ 7 * l.length
  | [], _ => by simp
  | x :: l, h => by
    rw [List.flatMap_cons, List.flatMap_append, List.length_append, List.length_cons]
    have := flen_cells l (fun y hy => h y (List.mem_cons_of_mem _ hy))
    have := flen_cell (h x (List.mem_cons_self ..))
    omega
theorem flen_ents : ∀ (l : List E), (∀ x ∈ l, okE x = true) → ((l.flatMap entN).flatMap form).length ≤ 19 * l.length
  | [], _ => by simp
  | x :: l, h => by
    rw [List.flatMap_cons, List.flatMap_append, List.length_append, List.length_cons]
    have := flen_ents l (fun y hy => h y (List.mem_cons_of_mem _ hy))
    have := flen_ent (h x (List.mem_cons_self ..))
    omega
theorem flen_head {m : M} (h : rightM m = true) : ((headN m).flatMap form).length ≤ 28 := by
  rw [rightM_iff, headM_iff] at h
  obtain ⟨h1, h2, h3, h4, _⟩ := h
  have h2 := of_decide_eq_true h2
  have hl := cl_len h3
  unfold headN nm
  have e1 := sz_1 (n := m.kind.toNat) (by omega)
  have e2 := sz_1 (n := m.src.toNat) (by omega)
  have e3 := sz_1 (n := m.dst.toNat) (by omega)
  have e4 := sz_3 (n := m.inc.toNat) (by omega)
  have e5 := sz_3 (n := m.seq.toNat) (by omega)
  have e6 := sz_3 (n := 64 * m.va.toNat + m.vd.toNat) (by omega)
  have e7 := sz_1 (n := m.cells.length) (by omega)
  have e6' : ∀ k, k < 16777216 → sz k ≤ 3 := fun k hk => sz_3 hk
  simp only [List.flatMap_cons, List.flatMap_nil, List.length_append, form_len, List.length_nil]
  have e8 := e6' (nm m.va m.vd) (by unfold nm; omega)
  unfold nm at e8
  omega
/-- how long a frame is -/
theorem frame_size {m : M} (h : rightM m = true) : 12 ≤ (frameM m).length ∧ (frameM m).length ≤ 40 + 7 * m.cells.length + 19 * m.book.length := by
  have h1 := flen_head h
  have h0 := forms_ge (numsM m)
  have hn := numsM_len m
  have hr := (rightM_iff m).1 h
  have h2 := flen_cells m.cells (fun x hx => isCl_mem hr.2.2.1 hx)
  have h3 := flen_ents m.book (fun x hx => (chk_mem m.book (-1) hr.2.2.2.1 x hx).1)
  have hb := book_len hr.2.2.2.1
  have h4 := sz_1 (n := m.book.length) (by omega)
  have e : (bodyM m).length = ((headN m).flatMap form).length + (((m.cells.flatMap cellN).flatMap form).length + ((form m.book.length).length + ((m.book.flatMap entN).flatMap form).length)) := by
    unfold bodyM numsM
    rw [List.flatMap_append, List.flatMap_append, List.flatMap_cons, List.length_append, List.length_append, List.length_append]
  rw [form_len] at e
  have e0 : (bodyM m).length = ((numsM m).flatMap form).length := rfl
  unfold frameM
  rw [Crc.seal_len]
  omega
/-- the same to another node -/
def toM (m : M) (d : Int) : M := { m with dst := d }
theorem to_right {m : M} (h : rightM m = true) (d : Int) : rightM (toM m d) = decide (0 ≤ d ∧ d ≤ 5) := by
  have h2 := (rightM_iff m).1 h
  have h1 := (headM_iff m).1 h2.1
  by_cases hd : 0 ≤ d ∧ d ≤ 5
  · rw [decide_eq_true hd]
    exact (rightM_iff _).2 ⟨(headM_iff _).2 ⟨h1.1, h1.2.1, hd, h1.2.2.2⟩, h2.2⟩
  · rw [decide_eq_false hd]
    cases hr : rightM (toM m d) with
    | false => rfl
    | true => exact absurd ((headM_iff _).1 ((rightM_iff _).1 hr).1).2.2.1 hd
theorem to_back (m : M) (d : Int) : sameM (toM (cnM (toM m d)) m.dst) m = true := same_cn m
theorem to_frame {m : M} (h : Ok m) (d : Int) (hd : 0 ≤ d ∧ d ≤ 5) : frameM m = frameM (toM m d) ↔ d = m.dst := by
  constructor
  · intro e
    have hb : Ok (toM m d) := ⟨by rw [to_right h.1, decide_eq_true hd], h.2⟩
    have := frame_inj h hb e
    exact (congrArg M.dst this).symm
  · rintro rfl; rfl
/-- which kind answers a kind -/
def tgt (k : Int) : Nat := if k = 0 then 5 else if k = 2 then 6 else if k = 1 ∨ k = 3 ∨ k = 4 then 7 else 8
def cntO (k d : Int) (i j : Nat) : Nat := if tgt k < i ∨ (tgt k = i ∧ d < j) then 1 else 0
def xM (m : M) (i j : Nat) : M := ⟨i, j, m.src, m.inc, m.seq, m.va, m.vd, [], []⟩
theorem tgt_fits (k : Int) (i : Nat) (hi : i < 8) : fitsM k i = true ↔ tgt k = i := by
  unfold fitsM tgt
  rw [decide_eq_true_iff]
  split
  · omega
  · split
    · omega
    · split <;> omega
theorem tgt_ge (k : Int) : 5 ≤ tgt k := by
  unfold tgt
  split
  · omega
  · split
    · omega
    · split <;> omega
theorem tgt_lt (k : Int) (h0 : 0 ≤ k) : tgt k < 8 ↔ k < 5 := by
  unfold tgt
  split
  · omega
  · split
    · omega
    · split <;> omega
theorem one_ans (m : M) (i j : Nat) (hi : i < 8) : ansM m (xM m i j) = decide (tgt m.kind = i ∧ m.dst = j) := by
  have h := tgt_fits m.kind i hi
  unfold ansM xM
  simp only
  by_cases h1 : tgt m.kind = i
  · rw [h.2 h1]
    simp [h1]
  · have : fitsM m.kind i = false := by
      cases hf : fitsM m.kind i with
      | false => rfl
      | true => exact absurd (h.1 hf) h1
    rw [this]
    simp [h1]
theorem fits_late (a b : Int) (h : 5 ≤ a) : fitsM a b = false := by
  unfold fitsM
  rw [decide_eq_false_iff_not]
  omega
theorem one_back (m : M) (i j : Nat) (hi : 5 ≤ i) : ansM (xM m i j) m = false := by
  unfold ansM
  rw [fits_late _ _ (by show (5 : Int) ≤ (i : Int); omega)]
  rfl
theorem ans_zero {m f : M} (h : ansM m f = false) (h1 : f.inc = m.inc) (h2 : f.seq = m.seq) (h3 : f.va = m.va) (h4 : f.vd = m.vd) (h5 : f.src = m.dst) (h6 : f.dst = m.src) (h7 : f.kind = 5) : (m.kind != 0) = true := by
  cases hm : (m.kind != 0) with
  | true => rfl
  | false =>
    have h0 : m.kind = 0 := by simpa using hm
    unfold ansM fitsM at h
    rw [h0, h1, h2, h3, h4, h5, h6, h7] at h
    simp at h
theorem cnt_zero (k d : Int) : cntO k d 0 0 = 0 := by
  have := tgt_ge k
  unfold cntO
  rw [if_neg (by omega)]
theorem cnt_row (k d : Int) (i : Nat) (hd : 0 ≤ d ∧ d ≤ 5) : cntO k d i 6 = cntO k d (i + 1) 0 := by
  unfold cntO
  by_cases h : tgt k < i ∨ (tgt k = i ∧ d < 6)
  · rw [if_pos (by omega), if_pos (by omega)]
  · rw [if_neg (by omega), if_neg (by omega)]
theorem cnt_hit (k d : Int) (i j : Nat) (h : tgt k = i ∧ d = j) : cntO k d i j = 0 ∧ cntO k d i (j + 1) = 1 := by
  unfold cntO
  exact ⟨if_neg (by omega), if_pos (by omega)⟩
theorem cnt_miss (k d : Int) (i j : Nat) (h : ¬ (tgt k = i ∧ d = j)) : cntO k d i (j + 1) = cntO k d i j := by
  unfold cntO
  by_cases h1 : tgt k < i ∨ (tgt k = i ∧ d < j)
  · rw [if_pos (by omega), if_pos h1]
  · rw [if_neg (by omega), if_neg h1]
theorem cnt_end (k d : Int) (h0 : 0 ≤ k) (hd : 0 ≤ d) : cntO k d 8 0 = if k < 5 then 1 else 0 := by
  have := tgt_lt k h0
  unfold cntO
  by_cases h : k < 5
  · rw [if_pos h, if_pos (by omega)]
  · rw [if_neg h, if_neg (by omega)]
theorem cnE_iff (x y : E) : cnE x = cnE y ↔ alike x y = true := by
  rw [alike_iff]
  cases x
  cases y
  simp [cnE]
theorem same_map : ∀ (a b : List E), a.map cnE = b.map cnE ↔ same a b = true
  | [], [] => by simp [same]
  | [], _ :: _ => by simp [same]
  | _ :: _, [] => by simp [same]
  | x :: a, y :: b => by
    rw [List.map_cons, List.map_cons, List.cons.injEq, cnE_iff, same_map a b]
    simp [same]
theorem cn_same (a b : M) : cnM a = cnM b ↔ sameM a b = true := by
  unfold sameM intsM cnM
  rw [Bool.and_eq_true, Bool.and_eq_true, decide_eq_true_iff, sameC_eq, ← same_map]
  cases a
  cases b
  simp
  constructor
  · rintro ⟨h1, h2, h3, h4, h5, h6, h7, h8, h9⟩; exact ⟨⟨h1, h2, h3, h4, h5, h6, h7⟩, h8, h9⟩
  · rintro ⟨⟨h1, h2, h3, h4, h5, h6, h7⟩, h8, h9⟩; exact ⟨h1, h2, h3, h4, h5, h6, h7, h8, h9⟩
theorem frame_same {a b : M} (ha : Ok a) (hb : Ok b) : frameM a = frameM b ↔ sameM a b = true := by
  rw [← cn_same]
  exact ⟨frame_inj ha hb, fun h => by rw [← (readF_some (readF_yes ha)).2.2, ← (readF_some (readF_yes hb)).2.2, h]⟩
end Go.Proofs.Ytldfccllpnplmaa.Ms

namespace Go.Proofs.Ytldfccllpnplmaa.Msw
set_option maxRecDepth 20000
open Go.RowKit
open Cl Bk Ms Clw Bkw
open Chgw (hat hbe)
open Rg (bal)

/-- where a slice lies -/
structure S3 where
  a : Option Addr
  n : Nat
  c : Nat
/-- a message as a value -/
def mvv (m : M) (s t : S3) : Value := .agg #[.int .i64 m.kind, .int .i64 m.src, .int .i64 m.dst, .int .i64 m.inc, .int .i64 m.seq, .int .i64 m.va, .int .i64 m.vd, .slice s.a s.n s.c, .slice t.a t.n t.c]
/-- a message in a block of its own -/
def Mx (w : World) (g : Nat) (m : M) (s t : S3) : Prop := w.heap[g]? = some (.cells #[.int .i64 m.kind, .int .i64 m.src, .int .i64 m.dst, .int .i64 m.inc, .int .i64 m.seq, .int .i64 m.va, .int .i64 m.vd, .slice s.a s.n s.c, .slice t.a t.n t.c] 29)
section
variable {w : World} {g : Nat} {m : M} {s t : S3}
theorem Mx.c0 (h : Mx w g m s t) : w.cell? ⟨g, 0, none⟩ = some (.int .i64 m.kind) := by rw [cell_of_row _ _ _ _ _ _ h]; rfl
theorem Mx.c1 (h : Mx w g m s t) : w.cell? ⟨g, 1, none⟩ = some (.int .i64 m.src) := by rw [cell_of_row _ _ _ _ _ _ h]; rfl
theorem Mx.c2 (h : Mx w g m s t) : w.cell? ⟨g, 2, none⟩ = some (.int .i64 m.dst) := by rw [cell_of_row _ _ _ _ _ _ h]; rfl
theorem Mx.c3 (h : Mx w g m s t) : w.cell? ⟨g, 3, none⟩ = some (.int .i64 m.inc) := by rw [cell_of_row _ _ _ _ _ _ h]; rfl
theorem Mx.c4 (h : Mx w g m s t) : w.cell? ⟨g, 4, none⟩ = some (.int .i64 m.seq) := by rw [cell_of_row _ _ _ _ _ _ h]; rfl
theorem Mx.c5 (h : Mx w g m s t) : w.cell? ⟨g, 5, none⟩ = some (.int .i64 m.va) := by rw [cell_of_row _ _ _ _ _ _ h]; rfl
theorem Mx.c6 (h : Mx w g m s t) : w.cell? ⟨g, 6, none⟩ = some (.int .i64 m.vd) := by rw [cell_of_row _ _ _ _ _ _ h]; rfl
theorem Mx.c7 (h : Mx w g m s t) : w.cell? ⟨g, 7, none⟩ = some (.slice s.a s.n s.c) := by rw [cell_of_row _ _ _ _ _ _ h]; rfl
theorem Mx.c8 (h : Mx w g m s t) : w.cell? ⟨g, 8, none⟩ = some (.slice t.a t.n t.c) := by rw [cell_of_row _ _ _ _ _ _ h]; rfl
theorem Mx.cs (h : Mx w g m s t) : w.cell? ⟨g, 0, none⟩ = some (.int .i64 m.kind) ∧ w.cell? ⟨g, 1, none⟩ = some (.int .i64 m.src) ∧ w.cell? ⟨g, 2, none⟩ = some (.int .i64 m.dst) ∧ w.cell? ⟨g, 3, none⟩ = some (.int .i64 m.inc) ∧ w.cell? ⟨g, 4, none⟩ = some (.int .i64 m.seq) ∧ w.cell? ⟨g, 5, none⟩ = some (.int .i64 m.va) ∧ w.cell? ⟨g, 6, none⟩ = some (.int .i64 m.vd) ∧ w.cell? ⟨g, 7, none⟩ = some (.slice s.a s.n s.c) ∧ w.cell? ⟨g, 8, none⟩ = some (.slice t.a t.n t.c) :=
  ⟨h.c0, h.c1, h.c2, h.c3, h.c4, h.c5, h.c6, h.c7, h.c8⟩
theorem Mx.lt (h : Mx w g m s t) : g < w.heap.size := by
  rcases Nat.lt_or_ge g w.heap.size with h' | h'
  · exact h'
  · unfold Mx at h; rw [Array.getElem?_eq_none h'] at h; cases h
theorem Mx.all {w' : World} (h : Mx w g m s t) (hb : Below w.heap.size w w') : Mx w' g m s t := (hb.block g h.lt).trans h
theorem Mx.below {w' : World} {B : Nat} (h : Mx w g m s t) (hb : Below B w w') (hg : g < B) : Mx w' g m s t := (hb.block g hg).trans h
theorem Mx.other (h : Mx w g m s t) {p : Addr} (hp : g ≠ p.block) (u : Value) : Mx (w.setCell p u) g m s t := (Below.heap_setCell w p u g hp).trans h
theorem Mx.frozen (h : Mx w g m s t) (i : Nat) : w.frozen? ⟨g, i, none⟩ = false := frozen_of_row w g i _ _ h
/-- one of its cells is stored to -/
theorem Mx.put1 (h : Mx w g m s t) (i : Nat) (u : Value) (m2 : M) (s2 t2 : S3) (he : (#[.int .i64 m.kind, .int .i64 m.src, .int .i64 m.dst, .int .i64 m.inc, .int .i64 m.seq, .int .i64 m.va, .int .i64 m.vd, .slice s.a s.n s.c, .slice t.a t.n t.c] : Array Value).setIfInBounds i u = #[.int .i64 m2.kind, .int .i64 m2.src, .int .i64 m2.dst, .int .i64 m2.inc, .int .i64 m2.seq, .int .i64 m2.va, .int .i64 m2.vd, .slice s2.a s2.n s2.c, .slice t2.a t2.n t2.c]) : Mx (w.setCell ⟨g, i, none⟩ u) g m2 s2 t2 := by
  unfold Mx at h ⊢
  rw [heap_setCell_same w g i _ _ _ h]
  exact congrArg (fun c => some (Obj.cells c 29 (0, 0))) he
/-- another message is stored there -/
theorem Mx.put (h : Mx w g m s t) (f : M) (p q : S3) : Mx (((((((((w.setCell ⟨g, 0, none⟩ (.int .i64 f.kind)).setCell ⟨g, 1, none⟩ (.int .i64 f.src)).setCell ⟨g, 2, none⟩ (.int .i64 f.dst)).setCell ⟨g, 3, none⟩ (.int .i64 f.inc)).setCell ⟨g, 4, none⟩ (.int .i64 f.seq)).setCell ⟨g, 5, none⟩ (.int .i64 f.va)).setCell ⟨g, 6, none⟩ (.int .i64 f.vd)).setCell ⟨g, 7, none⟩ (.slice p.a p.n p.c)).setCell ⟨g, 8, none⟩ (.slice q.a q.n q.c)) g f p q :=
  (((((((((h.put1 0 (.int .i64 f.kind) ⟨f.kind, m.src, m.dst, m.inc, m.seq, m.va, m.vd, f.cells, f.book⟩ s t rfl).put1 1 (.int .i64 f.src) ⟨f.kind, f.src, m.dst, m.inc, m.seq, m.va, m.vd, f.cells, f.book⟩ s t rfl).put1 2 (.int .i64 f.dst) ⟨f.kind, f.src, f.dst, m.inc, m.seq, m.va, m.vd, f.cells, f.book⟩ s t rfl).put1 3 (.int .i64 f.inc) ⟨f.kind, f.src, f.dst, f.inc, m.seq, m.va, m.vd, f.cells, f.book⟩ s t rfl).put1 4 (.int .i64 f.seq) ⟨f.kind, f.src, f.dst, f.inc, f.seq, m.va, m.vd, f.cells, f.book⟩ s t rfl).put1 5 (.int .i64 f.va) ⟨f.kind, f.src, f.dst, f.inc, f.seq, f.va, m.vd, f.cells, f.book⟩ s t rfl).put1 6 (.int .i64 f.vd) f s t rfl).put1 7 (.slice p.a p.n p.c) f p t rfl).put1 8 (.slice q.a q.n q.c) f p q rfl)
theorem results_msg {fn : Func} {p : Tmp} (h : fn.results = #[.cell p 29]) {tmps : Array Value} (hp : tmps.getD p undef = .pointer (some ⟨g, 0, none⟩)) (hv : Mx w g m s t) : (results fn tmps).run Try.prog w = .ok (mvv m s t) w := by
  obtain ⟨z0, z1, z2, z3, z4, z5, z6, z7, z8⟩ := hv.cs
  have u3 := Try.sizeOf29
  have hp' : tmps[p]?.getD undef = .pointer (some ⟨g, 0, none⟩) := by rw [← hp, Array.getD_eq_getD_getElem?]
  unfold results mvv
  simp only [h]
  simp [hp', go_sem, z0, z1, z2, z3, z4, z5, z6, z7, z8]
theorem results_msg2 {fn : Func} {p u : Tmp} (h : fn.results = #[.cell p 29, .tmp u]) {tmps : Array Value} {x : Value} (hp : tmps.getD p undef = .pointer (some ⟨g, 0, none⟩)) (hx : tmps.getD u undef = x) (hv : Mx w g m s t) : (results fn tmps).run Try.prog w = .ok (.tuple #[mvv m s t, x]) w := by
  obtain ⟨z0, z1, z2, z3, z4, z5, z6, z7, z8⟩ := hv.cs
  have u3 := Try.sizeOf29
  have hp' : tmps[p]?.getD undef = .pointer (some ⟨g, 0, none⟩) := by rw [← hp, Array.getD_eq_getD_getElem?]
  have hx' : tmps[u]?.getD undef = x := by rw [← hx, Array.getD_eq_getD_getElem?]
  unfold results mvv
  simp only [h]
  simp [hp', hx', go_sem, z0, z1, z2, z3, z4, z5, z6, z7, z8]
end
theorem chain9 {w : World} {g : Nat} {v0 v1 v2 v3 v4 v5 v6 v7 v8 : Value} {k : Nat} (hk : k ≠ g) : (((((((((w.setCell ⟨g, 0, none⟩ v0).setCell ⟨g, 1, none⟩ v1).setCell ⟨g, 2, none⟩ v2).setCell ⟨g, 3, none⟩ v3).setCell ⟨g, 4, none⟩ v4).setCell ⟨g, 5, none⟩ v5).setCell ⟨g, 6, none⟩ v6).setCell ⟨g, 7, none⟩ v7).setCell ⟨g, 8, none⟩ v8).heap[k]? = w.heap[k]? := by
  rw [Below.heap_setCell _ _ _ _ hk, Below.heap_setCell _ _ _ _ hk, Below.heap_setCell _ _ _ _ hk, Below.heap_setCell _ _ _ _ hk, Below.heap_setCell _ _ _ _ hk, Below.heap_setCell _ _ _ _ hk, Below.heap_setCell _ _ _ _ hk, Below.heap_setCell _ _ _ _ hk, Below.heap_setCell _ _ _ _ hk]
/-- a message's lists are in memory now -/
def Mo (w : World) (m : M) (s t : S3) : Prop := Sc w s.a s.n s.c m.cells ∧ So w t.a t.n t.c m.book
theorem Mo.all {w w' : World} {m : M} {s t : S3} (h : Mo w m s t) (hb : Below w.heap.size w w') : Mo w' m s t := ⟨h.1.all hb, h.2.all hb⟩
theorem Mo.ok {w : World} {m : M} {s t : S3} (h : Mo w m s t) (hr : rightM m = true) : Ms.Ok m := ⟨hr, h.2.u64⟩
def frE (m : M) : Int := if rightM m then 0 else 111
def frB (m : M) : List UInt8 := if rightM m then frameM m else []
theorem fr_yes {m : M} (h : rightM m = true) : frE m = 0 ∧ frB m = frameM m := by unfold frE frB; rw [h]; exact ⟨rfl, rfl⟩
theorem fr_no {m : M} (h : rightM m = false) : frE m = 111 ∧ frB m = [] := by unfold frE frB; rw [h]; exact ⟨rfl, rfl⟩
/-- a frame is answered -/
def RetFr (w : World) (m : M) (e : Ending) (w' : World) : Prop := ∃ A n c, e = .returned (.tuple #[.slice A n c, .int .i64 (frE m)]) ∧ n = (frB m).length ∧ n ≤ c ∧ Rd w' w'.heap.size A ((frB m).map B8) ∧ Below w.heap.size w w'
def rdE (o : Option M) : Int := if o.isSome then 0 else 111
def rdM (o : Option M) : M := o.getD zeroM
/-- a message is answered -/
def RetRd (w : World) (o : Option M) (e : Ending) (w' : World) : Prop := ∃ s t, e = .returned (.tuple #[mvv (rdM o) s t, .int .i64 (rdE o)]) ∧ Mo w' (rdM o) s t ∧ Below w.heap.size w w'
/-- a copy is answered, its lists in rows of its own -/
def RetCp (w : World) (m : M) (e : Ending) (w' : World) : Prop := ∃ s t, e = .returned (mvv m s t) ∧ Rg.OwnG KC w' w.heap.size s.a s.n s.c m.cells ∧ OwnE w' w.heap.size t.a t.n t.c m.book ∧ s.n ≤ s.c ∧ t.n ≤ t.c ∧ Below w.heap.size w w'
theorem frB_len (m : M) : (frB m).length ≤ 1000 := by
  unfold frB
  by_cases h : rightM m = true
  · rw [if_pos h]
    have h1 := numsM_le h
    have h2 := Lg.forms_len (numsM m)
    unfold frameM bodyM
    rw [Crc.seal_len]
    omega
  · rw [if_neg h]; simp
end Go.Proofs.Ytldfccllpnplmaa.Msw

namespace Go.Proofs.Ytldfccllpnplmaa.Msw
set_option maxRecDepth 20000
open Go.RowKit
open Cl Bk Ms Clw Bkw
open Chgw (hat hbe ret_bool vw)
open Rg (bal)

theorem not_head {m : M} (h : headM m = false) : rightM m = false := by unfold rightM; rw [h]; rfl
set_option maxHeartbeats 4000000 in
set_option maxRecDepth 100000 in
theorem right_o (m : M) (s t : S3) (w : World) (h : Mo w m s t) : Calls Try.prog 14 #[mvv m s t] w fun e w' => e = .returned (.bool (rightM m)) ∧ Below w.heap.size w w' := by
  have HMO := Lib.hid h; clear h
  have HNH : Hid (¬ ((0 ≤ m.kind ∧ m.kind ≤ 7) ∧ (0 ≤ m.src ∧ m.src ≤ 5) ∧ (0 ≤ m.dst ∧ m.dst ≤ 5) ∧ (1 ≤ m.inc ∧ m.inc ≤ 1000000) ∧ 1 ≤ m.seq ∧ m.seq ≤ 1000000) → rightM m = false) := Lib.hid (fun h => not_head (decide_eq_false h))
  have HR : Hid (headM m = true → rightM m = ((rvC m.va m.vd && (isCl m.cells && isBook m.book)) && kindsM m)) := Lib.hid (fun h => by unfold rightM listsM; rw [h]; rfl)
  have HHM := Lib.hid (headM_iff m)
  have HKM : Hid (kindsM m = ((decide (m.kind = 1 ∨ m.kind = 5) || decide (m.cells.length = 0)) && (decide (m.kind = 3 ∨ m.kind = 6) || decide (m.book.length = 0)))) := Lib.hid rfl
  generalize rightM m = r at HNH HR ⊢
  generalize headM m = hd at HR HHM
  generalize kindsM m = km at HR HKM
  obtain ⟨kd, sr, ds, ic, sq, va, vd, cs, bk⟩ := m
  simp only at HNH HR HHM HKM
  unfold mvv
  simp only
  go_enter Try.func14, Try.ntmps14
  by_cases h1 : kd < 0
  · have HE := Lib.hid (HNH.out (by omega)); clear HNH HR HHM HKM; go_wp2; go_ret; exact ⟨ret_bool HE.out.symm, bal (Below.refl _ _) (Nat.le_refl _) _⟩
  by_cases h2 : 7 < kd
  · have HE := Lib.hid (HNH.out (by omega)); clear HNH HR HHM HKM; go_wp2; go_ret; exact ⟨ret_bool HE.out.symm, bal (Below.refl _ _) (Nat.le_refl _) _⟩
  by_cases h3 : sr < 0
  · have HE := Lib.hid (HNH.out (by omega)); clear HNH HR HHM HKM; go_wp2; go_ret; exact ⟨ret_bool HE.out.symm, bal (Below.refl _ _) (Nat.le_refl _) _⟩
  by_cases h4 : 5 < sr
  · have HE := Lib.hid (HNH.out (by omega)); clear HNH HR HHM HKM; go_wp2; go_ret; exact ⟨ret_bool HE.out.symm, bal (Below.refl _ _) (Nat.le_refl _) _⟩
  by_cases h5 : ds < 0
  · have HE := Lib.hid (HNH.out (by omega)); clear HNH HR HHM HKM; go_wp2; go_ret; exact ⟨ret_bool HE.out.symm, bal (Below.refl _ _) (Nat.le_refl _) _⟩
  by_cases h6 : 5 < ds
  · have HE := Lib.hid (HNH.out (by omega)); clear HNH HR HHM HKM; go_wp2; go_ret; exact ⟨ret_bool HE.out.symm, bal (Below.refl _ _) (Nat.le_refl _) _⟩
  by_cases h7 : ic < 1
  · have HE := Lib.hid (HNH.out (by omega)); clear HNH HR HHM HKM; go_wp2; go_ret; exact ⟨ret_bool HE.out.symm, bal (Below.refl _ _) (Nat.le_refl _) _⟩
  by_cases h8 : 1000000 < ic
  · have HE := Lib.hid (HNH.out (by omega)); clear HNH HR HHM HKM; go_wp2; go_ret; exact ⟨ret_bool HE.out.symm, bal (Below.refl _ _) (Nat.le_refl _) _⟩
  by_cases h9 : sq < 1
  · have HE := Lib.hid (HNH.out (by omega)); clear HNH HR HHM HKM; go_wp2; go_ret; exact ⟨ret_bool HE.out.symm, bal (Below.refl _ _) (Nat.le_refl _) _⟩
  by_cases h10 : 1000000 < sq
  · have HE := Lib.hid (HNH.out (by omega)); clear HNH HR HHM HKM; go_wp2; go_ret; exact ⟨ret_bool HE.out.symm, bal (Below.refl _ _) (Nat.le_refl _) _⟩
  have HR := Lib.hid (HR.out (HHM.out.2 (by omega)))
  clear HNH HHM
  go_wp2_with fail
  have HX := Lib.hid (show Mx (w.alloc (.cells #[.int .i64 kd, .int .i64 sr, .int .i64 ds, .int .i64 ic, .int .i64 sq, .int .i64 va, .int .i64 vd, .slice s.a s.n s.c, .slice t.a t.n t.c] 29)) w.heap.size ⟨kd, sr, ds, ic, sq, va, vd, cs, bk⟩ s t from hat _ _ _ rfl)
  have HB := Lib.hid (bal (Below.refl w.heap.size w) (Nat.le_refl _) (.cells #[.int .i64 kd, .int .i64 sr, .int .i64 ds, .int .i64 ic, .int .i64 sq, .int .i64 va, .int .i64 vd, .slice s.a s.n s.c, .slice t.a t.n t.c] 29))
  have HMO := Lib.hid (HMO.out.all HB.out)
  generalize w.alloc (.cells #[.int .i64 kd, .int .i64 sr, .int .i64 ds, .int .i64 ic, .int .i64 sq, .int .i64 va, .int .i64 vd, .slice s.a s.n s.c, .slice t.a t.n t.c] 29) = w1 at HX HB HMO ⊢
  generalize w.heap.size = gx at HX ⊢
  have HBT : Hid (∀ W, Below w1.heap.size w1 W → Below w.heap.size w W) := Lib.hid (fun W h => HB.out.trans (h.mono HB.out.size))
  clear HB h1 h2 h3 h4 h5 h6 h7 h8 h9 h10
  have HB := Lib.hid (Below.refl w1.heap.size w1)
  refine (Chgw.right_r va vd _).mono ?_
  rw [rv_right]
  rintro e w2 ⟨rfl, hb⟩
  have HX := Lib.hid (HX.out.all hb)
  have HMO := Lib.hid (HMO.out.all hb)
  have HB := Lib.hid (HB.out.trans (hb.mono HB.out.size)); clear hb
  cases hv : rvC va vd with
  | false =>
    rw [hv] at HR
    have HE := Lib.hid (show r = false from HR.out)
    clear HR HKM hv
    go_wp2; go_ret; exact ⟨ret_bool HE.out.symm, HBT.out _ HB.out⟩
  | true =>
  rw [hv] at HR
  clear hv
  have z0 := HX.out.c7
  go_wp2_with fail
  refine (check_o s.a s.n s.c cs _ HMO.out.1).mono ?_
  rintro e w3 ⟨rfl, hb⟩
  have HX := Lib.hid (HX.out.all hb)
  have HMO := Lib.hid (HMO.out.all hb)
  have HB := Lib.hid (HB.out.trans (hb.mono HB.out.size)); clear hb z0
  cases hv : isCl cs with
  | false =>
    rw [hv] at HR
    have HE := Lib.hid (show r = false from HR.out)
    rw [show chkM cs = 101 from by unfold chkM; rw [hv]; rfl]
    clear HR HKM hv
    go_wp2; go_ret; exact ⟨ret_bool HE.out.symm, HBT.out _ HB.out⟩
  | true =>
  rw [hv] at HR
  rw [show chkM cs = 0 from by unfold chkM; rw [hv]; rfl]
  clear hv
  have z0 := HX.out.c8
  go_wp2_with fail
  refine (Bkw.check_o t.a t.n t.c bk _ HMO.out.2).mono ?_
  rintro e w4 ⟨rfl, hb⟩
  have HX := Lib.hid (HX.out.all hb)
  have HMO := Lib.hid (HMO.out.all hb)
  have HB := Lib.hid (HB.out.trans (hb.mono HB.out.size)); clear hb z0
  cases hv : isBook bk with
  | false =>
    rw [hv] at HR
    have HE := Lib.hid (show r = false from HR.out)
    rw [show chkN bk = 71 from by unfold chkN; rw [hv]; rfl]
    clear HR HKM hv
    go_wp2; go_ret; exact ⟨ret_bool HE.out.symm, HBT.out _ HB.out⟩
  | true =>
  rw [hv] at HR
  rw [show chkN bk = 0 from by unfold chkN; rw [hv]; rfl]
  clear hv
  have HE : Hid (r = ((decide (kd = 1 ∨ kd = 5) || decide (s.n = 0)) && (decide (kd = 3 ∨ kd = 6) || decide (t.n = 0)))) := Lib.hid (by
    have h1 := HMO.out.1.1
    have h2 := HMO.out.2.1
    simp only at h1 h2
    rw [h1, h2, ← HKM.out, HR.out]; rfl)
  clear HR HKM HMO
  have z0 := HX.out.c0; have z7 := HX.out.c7; have z8 := HX.out.c8
  simp only at z0
  obtain ⟨sa, sn, sc⟩ := s
  obtain ⟨ta, tn, tc⟩ := t
  simp only at z7 z8 HE
  have hcase : (kd = 1 ∨ kd = 5) ∨ (kd = 3 ∨ kd = 6) ∨ (kd ≠ 1 ∧ kd ≠ 5 ∧ kd ≠ 3 ∧ kd ≠ 6) := by omega
  rcases hcase with (hk | hk) | (hk | hk) | ⟨hk1, hk5, hk3, hk6⟩
  · subst hk
    cases tn with
    | zero => have HF := Lib.hid (show r = true from by rw [HE.out]; simp); clear HE; go_wp2; go_ret; exact ⟨ret_bool HF.out.symm, HBT.out _ HB.out⟩
    | succ j => have hj : (((j + 1 : Nat) : Int) == 0) = false := by rw [beq_eq_false_iff_ne]; omega
                have HF := Lib.hid (show r = false from by rw [HE.out]; simp); clear HE; go_wp2; go_ret; exact ⟨ret_bool HF.out.symm, HBT.out _ HB.out⟩
  · subst hk
    cases tn with
    | zero => have HF := Lib.hid (show r = true from by rw [HE.out]; simp); clear HE; go_wp2; go_ret; exact ⟨ret_bool HF.out.symm, HBT.out _ HB.out⟩
    | succ j => have hj : (((j + 1 : Nat) : Int) == 0) = false := by rw [beq_eq_false_iff_ne]; omega
                have HF := Lib.hid (show r = false from by rw [HE.out]; simp); clear HE; go_wp2; go_ret; exact ⟨ret_bool HF.out.symm, HBT.out _ HB.out⟩
  · subst hk
    cases sn with
    | zero => have HF := Lib.hid (show r = true from by rw [HE.out]; simp); clear HE; go_wp2; go_ret; exact ⟨ret_bool HF.out.symm, HBT.out _ HB.out⟩
    | succ j => have hj : (((j + 1 : Nat) : Int) == 0) = false := by rw [beq_eq_false_iff_ne]; omega
                have HF := Lib.hid (show r = false from by rw [HE.out]; simp); clear HE; go_wp2; go_ret; exact ⟨ret_bool HF.out.symm, HBT.out _ HB.out⟩
  · subst hk
    cases sn with
    | zero => have HF := Lib.hid (show r = true from by rw [HE.out]; simp); clear HE; go_wp2; go_ret; exact ⟨ret_bool HF.out.symm, HBT.out _ HB.out⟩
    | succ j => have hj : (((j + 1 : Nat) : Int) == 0) = false := by rw [beq_eq_false_iff_ne]; omega
                have HF := Lib.hid (show r = false from by rw [HE.out]; simp); clear HE; go_wp2; go_ret; exact ⟨ret_bool HF.out.symm, HBT.out _ HB.out⟩
  · have q1 : (kd == 1) = false := by rw [beq_eq_false_iff_ne]; exact hk1
    have q5 : (kd == 5) = false := by rw [beq_eq_false_iff_ne]; exact hk5
    have q3 : (kd == 3) = false := by rw [beq_eq_false_iff_ne]; exact hk3
    have q6 : (kd == 6) = false := by rw [beq_eq_false_iff_ne]; exact hk6
    have HE : Hid (r = (decide (sn = 0) && decide (tn = 0))) := Lib.hid (by rw [HE.out]; simp [hk1, hk5, hk3, hk6])
    clear hk1 hk5 hk3 hk6
    cases sn with
    | succ j => have hj : (((j + 1 : Nat) : Int) == 0) = false := by rw [beq_eq_false_iff_ne]; omega
                have HF := Lib.hid (show r = false from by rw [HE.out]; simp); clear HE; go_wp2; go_ret; exact ⟨ret_bool HF.out.symm, HBT.out _ HB.out⟩
    | zero =>
      cases tn with
      | zero => have HF := Lib.hid (show r = true from by rw [HE.out]; simp); clear HE; go_wp2; go_ret; exact ⟨ret_bool HF.out.symm, HBT.out _ HB.out⟩
      | succ j => have hj : (((j + 1 : Nat) : Int) == 0) = false := by rw [beq_eq_false_iff_ne]; omega
                  have HF := Lib.hid (show r = false from by rw [HE.out]; simp); clear HE; go_wp2; go_ret; exact ⟨ret_bool HF.out.symm, HBT.out _ HB.out⟩
theorem not_ints {a b : M} (h : ¬ (a.kind = b.kind ∧ a.src = b.src ∧ a.dst = b.dst ∧ a.inc = b.inc ∧ a.seq = b.seq ∧ a.va = b.va ∧ a.vd = b.vd)) : sameM a b = false := by unfold sameM intsM; rw [decide_eq_false h]; rfl
theorem yes_ints {a b : M} (h : a.kind = b.kind ∧ a.src = b.src ∧ a.dst = b.dst ∧ a.inc = b.inc ∧ a.seq = b.seq ∧ a.va = b.va ∧ a.vd = b.vd) : sameM a b = (sameC a.cells b.cells && same a.book b.book) := by unfold sameM intsM; rw [decide_eq_true h]; rfl
set_option maxHeartbeats 4000000 in
set_option maxRecDepth 100000 in
theorem same_o (a b : M) (s t s2 t2 : S3) (w : World) (h : Mo w a s t) (h2 : Mo w b s2 t2) : Calls Try.prog 16 #[mvv a s t, mvv b s2 t2] w fun e w' => e = .returned (.bool (sameM a b)) ∧ Below w.heap.size w w' := by
  have heq := Chgw.eq_view
  have HMO := Lib.hid h; have HMP := Lib.hid h2; clear h h2
  have HN := Lib.hid (not_ints (a := a) (b := b))
  have HY := Lib.hid (yes_ints (a := a) (b := b))
  generalize sameM a b = r at HN HY ⊢
  obtain ⟨k1, r1, d1, i1, q1, a1, e1, cs1, bk1⟩ := a
  obtain ⟨k2, r2, d2, i2, q2, a2, e2, cs2, bk2⟩ := b
  simp only at HN HY
  unfold mvv
  simp only
  have HB := Lib.hid (bal (bal (Below.refl w.heap.size w) (Nat.le_refl _) (.cells #[.int .i64 k1, .int .i64 r1, .int .i64 d1, .int .i64 i1, .int .i64 q1, .int .i64 a1, .int .i64 e1, .slice s.a s.n s.c, .slice t.a t.n t.c] 29)) (Nat.le_refl _) (.cells #[.int .i64 k2, .int .i64 r2, .int .i64 d2, .int .i64 i2, .int .i64 q2, .int .i64 a2, .int .i64 e2, .slice s2.a s2.n s2.c, .slice t2.a t2.n t2.c] 29))
  go_enter Try.func16, Try.ntmps16
  by_cases h0 : k1 = k2
  case neg =>
    have HE := Lib.hid (HN.out (by omega)); have hq : (k1 == k2) = false := by rw [beq_eq_false_iff_ne]; exact h0
    have hq' : (k1 != k2) = true := by rw [bne_iff_ne]; exact h0
    clear HN HY h0; go_wp2; go_ret; exact ⟨ret_bool HE.out.symm, HB.out⟩
  have e0' : (k1 == k2) = true := by rw [beq_iff_eq]; exact h0
  have f0' : (k1 != k2) = false := by rw [bne_eq_false_iff_eq]; exact h0
  have H0 := Lib.hid h0; clear h0
  by_cases h1 : r1 = r2
  case neg =>
    have HE := Lib.hid (HN.out (by have := H0.out; omega)); have hq : (r1 == r2) = false := by rw [beq_eq_false_iff_ne]; exact h1
    have hq' : (r1 != r2) = true := by rw [bne_iff_ne]; exact h1
    clear HN HY h1; go_wp2; go_ret; exact ⟨ret_bool HE.out.symm, HB.out⟩
  have e1' : (r1 == r2) = true := by rw [beq_iff_eq]; exact h1
  have f1' : (r1 != r2) = false := by rw [bne_eq_false_iff_eq]; exact h1
  have H1 := Lib.hid h1; clear h1
  by_cases h2 : d1 = d2
  case neg =>
    have HE := Lib.hid (HN.out (by omega)); have hq : (d1 == d2) = false := by rw [beq_eq_false_iff_ne]; exact h2
    have hq' : (d1 != d2) = true := by rw [bne_iff_ne]; exact h2
    clear HN HY h2; go_wp2; go_ret; exact ⟨ret_bool HE.out.symm, HB.out⟩
  have e2' : (d1 == d2) = true := by rw [beq_iff_eq]; exact h2
  have f2' : (d1 != d2) = false := by rw [bne_eq_false_iff_eq]; exact h2
  have H2 := Lib.hid h2; clear h2
  by_cases h3 : i1 = i2
  case neg =>
    have HE := Lib.hid (HN.out (by omega)); have hq : (i1 == i2) = false := by rw [beq_eq_false_iff_ne]; exact h3
    have hq' : (i1 != i2) = true := by rw [bne_iff_ne]; exact h3
    clear HN HY h3; go_wp2; go_ret; exact ⟨ret_bool HE.out.symm, HB.out⟩
  have e3' : (i1 == i2) = true := by rw [beq_iff_eq]; exact h3
  have f3' : (i1 != i2) = false := by rw [bne_eq_false_iff_eq]; exact h3
  have H3 := Lib.hid h3; clear h3
  by_cases h4 : q1 = q2
  case neg =>
    have HE := Lib.hid (HN.out (by omega)); have hq : (q1 == q2) = false := by rw [beq_eq_false_iff_ne]; exact h4
    have hq' : (q1 != q2) = true := by rw [bne_iff_ne]; exact h4
    clear HN HY h4; go_wp2; go_ret; exact ⟨ret_bool HE.out.symm, HB.out⟩
  have e4' : (q1 == q2) = true := by rw [beq_iff_eq]; exact h4
  have f4' : (q1 != q2) = false := by rw [bne_eq_false_iff_eq]; exact h4
  have H4 := Lib.hid h4; clear h4
  cases hv : (a1 == a2 && e1 == e2) with
  | false =>
    have HE := Lib.hid (HN.out (by
      rintro ⟨_, _, _, _, _, rfl, rfl⟩
      simp at hv))
    clear HN HY; go_wp2; go_ret; exact ⟨ret_bool HE.out.symm, HB.out⟩
  | true =>
  have HE := Lib.hid (HY.out (by simp only [Bool.and_eq_true, beq_iff_eq] at hv; exact ⟨H0.out, H1.out, H2.out, H3.out, H4.out, hv.1, hv.2⟩))
  clear HN HY
  go_wp2_with fail
  clear hv e0' e1' e2' e3' e4' f0' f1' f2' f3' f4'
  have HX := Lib.hid (show Mx ((w.alloc (.cells #[.int .i64 k1, .int .i64 r1, .int .i64 d1, .int .i64 i1, .int .i64 q1, .int .i64 a1, .int .i64 e1, .slice s.a s.n s.c, .slice t.a t.n t.c] 29)).alloc (.cells #[.int .i64 k2, .int .i64 r2, .int .i64 d2, .int .i64 i2, .int .i64 q2, .int .i64 a2, .int .i64 e2, .slice s2.a s2.n s2.c, .slice t2.a t2.n t2.c] 29)) w.heap.size ⟨k1, r1, d1, i1, q1, a1, e1, cs1, bk1⟩ s t from hbe (hat _ _ _ rfl))
  have HY := Lib.hid (show Mx ((w.alloc (.cells #[.int .i64 k1, .int .i64 r1, .int .i64 d1, .int .i64 i1, .int .i64 q1, .int .i64 a1, .int .i64 e1, .slice s.a s.n s.c, .slice t.a t.n t.c] 29)).alloc (.cells #[.int .i64 k2, .int .i64 r2, .int .i64 d2, .int .i64 i2, .int .i64 q2, .int .i64 a2, .int .i64 e2, .slice s2.a s2.n s2.c, .slice t2.a t2.n t2.c] 29)) (w.heap.size + 1) ⟨k2, r2, d2, i2, q2, a2, e2, cs2, bk2⟩ s2 t2 from hat _ _ _ (by simp))
  have HMO := Lib.hid (HMO.out.all HB.out)
  have HMP := Lib.hid (HMP.out.all HB.out)
  generalize ((w.alloc (.cells #[.int .i64 k1, .int .i64 r1, .int .i64 d1, .int .i64 i1, .int .i64 q1, .int .i64 a1, .int .i64 e1, .slice s.a s.n s.c, .slice t.a t.n t.c] 29)).alloc (.cells #[.int .i64 k2, .int .i64 r2, .int .i64 d2, .int .i64 i2, .int .i64 q2, .int .i64 a2, .int .i64 e2, .slice s2.a s2.n s2.c, .slice t2.a t2.n t2.c] 29)) = w1 at HX HY HMO HMP HB ⊢
  refine (Clw.same_o s.a s.n s.c cs1 s2.a s2.n s2.c cs2 _ HMO.out.1 HMP.out.1).mono ?_
  rintro e w2 ⟨rfl, hb⟩
  have HX := Lib.hid (HX.out.all hb); have HY := Lib.hid (HY.out.all hb)
  have HMO := Lib.hid (HMO.out.all hb); have HMP := Lib.hid (HMP.out.all hb)
  have HB := Lib.hid (HB.out.trans (hb.mono HB.out.size)); clear hb
  cases hs : sameC cs1 cs2 with
  | false =>
    rw [hs] at HE
    have HF := Lib.hid (show r = false from HE.out)
    clear HE hs
    go_wp2; go_ret; exact ⟨ret_bool HF.out.symm, HB.out⟩
  | true =>
    rw [hs] at HE
    have HF := Lib.hid (show r = same bk1 bk2 from HE.out)
    clear HE hs
    have z0 := HX.out.c8; have z1 := HY.out.c8
    go_wp2_with fail
    refine (Bkw.same_o t.a t.n t.c bk1 t2.a t2.n t2.c bk2 _ HMO.out.2 HMP.out.2).mono ?_
    rw [← HF.out]
    rintro e w3 ⟨rfl, hb⟩
    have HB := Lib.hid (HB.out.trans (hb.mono HB.out.size)); clear hb z0 z1
    go_wp2; go_ret; exact ⟨rfl, HB.out⟩
end Go.Proofs.Ytldfccllpnplmaa.Msw

namespace Go.Proofs.Ytldfccllpnplmaa.Msw
set_option maxRecDepth 20000
open Go.RowKit
open Cl Bk Ms Clw Bkw
open Chgw (hat hbe ret_bool vw)
open Rg (bal)

theorem ans_no {q a : M} (h : fitsM q.kind a.kind = false) : ansM q a = false := by unfold ansM; rw [h]; rfl
theorem ans_not {q a : M} (h : ¬ (q.src = a.dst ∧ q.dst = a.src ∧ q.inc = a.inc ∧ q.seq = a.seq ∧ q.va = a.va ∧ q.vd = a.vd)) : ansM q a = false := by unfold ansM; rw [decide_eq_false h, Bool.and_false]
theorem ans_yes {q a : M} (h0 : fitsM q.kind a.kind = true) (h : q.src = a.dst ∧ q.dst = a.src ∧ q.inc = a.inc ∧ q.seq = a.seq ∧ q.va = a.va ∧ q.vd = a.vd) : ansM q a = true := by unfold ansM; rw [decide_eq_true h, h0]; rfl
set_option maxHeartbeats 4000000 in
set_option maxRecDepth 100000 in
theorem answers_o (a b : M) (s t s2 t2 : S3) (w : World) : Calls Try.prog 19 #[mvv a s t, mvv b s2 t2] w fun e w' => e = .returned (.bool (ansM a b)) ∧ Below w.heap.size w w' := by
  have heq := Chgw.eq_view
  have HF := Lib.hid (ans_no (q := a) (a := b)); have HN := Lib.hid (ans_not (q := a) (a := b)); have HY := Lib.hid (ans_yes (q := a) (a := b))
  generalize ansM a b = r at HF HN HY ⊢
  obtain ⟨k1, r1, d1, i1, q1, a1, e1, cs1, bk1⟩ := a
  obtain ⟨k2, r2, d2, i2, q2, a2, e2, cs2, bk2⟩ := b
  simp only at HF HN HY
  unfold mvv
  simp only
  go_enter Try.func19, Try.ntmps19
  go_upto_region 1 with (fail)
  have HB := Lib.hid (bal (bal (Below.refl w.heap.size w) (Nat.le_refl _) (.cells #[.int .i64 k1, .int .i64 r1, .int .i64 d1, .int .i64 i1, .int .i64 q1, .int .i64 a1, .int .i64 e1, .slice s.a s.n s.c, .slice t.a t.n t.c] 29)) (Nat.le_refl _) (.cells #[.int .i64 k2, .int .i64 r2, .int .i64 d2, .int .i64 i2, .int .i64 q2, .int .i64 a2, .int .i64 e2, .slice s2.a s2.n s2.c, .slice t2.a t2.n t2.c] 29))
  have HX := Lib.hid (show Mx ((w.alloc (.cells #[.int .i64 k1, .int .i64 r1, .int .i64 d1, .int .i64 i1, .int .i64 q1, .int .i64 a1, .int .i64 e1, .slice s.a s.n s.c, .slice t.a t.n t.c] 29)).alloc (.cells #[.int .i64 k2, .int .i64 r2, .int .i64 d2, .int .i64 i2, .int .i64 q2, .int .i64 a2, .int .i64 e2, .slice s2.a s2.n s2.c, .slice t2.a t2.n t2.c] 29)) w.heap.size ⟨k1, r1, d1, i1, q1, a1, e1, cs1, bk1⟩ s t from hbe (hat _ _ _ rfl))
  have HZ := Lib.hid (show Mx ((w.alloc (.cells #[.int .i64 k1, .int .i64 r1, .int .i64 d1, .int .i64 i1, .int .i64 q1, .int .i64 a1, .int .i64 e1, .slice s.a s.n s.c, .slice t.a t.n t.c] 29)).alloc (.cells #[.int .i64 k2, .int .i64 r2, .int .i64 d2, .int .i64 i2, .int .i64 q2, .int .i64 a2, .int .i64 e2, .slice s2.a s2.n s2.c, .slice t2.a t2.n t2.c] 29)) (w.heap.size + 1) ⟨k2, r2, d2, i2, q2, a2, e2, cs2, bk2⟩ s2 t2 from hat _ _ _ (by simp))
  generalize ((w.alloc (.cells #[.int .i64 k1, .int .i64 r1, .int .i64 d1, .int .i64 i1, .int .i64 q1, .int .i64 a1, .int .i64 e1, .slice s.a s.n s.c, .slice t.a t.n t.c] 29)).alloc (.cells #[.int .i64 k2, .int .i64 r2, .int .i64 d2, .int .i64 i2, .int .i64 q2, .int .i64 a2, .int .i64 e2, .slice s2.a s2.n s2.c, .slice t2.a t2.n t2.c] 29)) = w1 at HX HZ HB ⊢
  generalize hgx : w.heap.size = gx at HX HZ ⊢
  have HGX := Lib.hid hgx; clear hgx
  obtain ⟨x0, x1, x2, x3, x4, x5, x6, _, _⟩ := HX.out.cs
  obtain ⟨y0, y1, y2, y3, y4, y5, y6, _, _⟩ := HZ.out.cs
  simp only at x0 x1 x2 x3 x4 x5 x6 y0 y1 y2 y3 y4 y5 y6
  have HFI : Hid (fitsM k1 k2 = decide ((k1 = 0 ∧ k2 = 5) ∨ (k1 = 2 ∧ k2 = 6) ∨ ((k1 = 1 ∨ k1 = 3 ∨ k1 = 4) ∧ k2 = 7))) := Lib.hid rfl
  generalize fitsM k1 k2 = ft at HF HN HY HFI
  go_cut [5] (fun s5 wq => ∃ fb : Bool, s5 = .bool fb ∧ fb = ft ∧ wq = w1)
  case first =>
    clear HF HN HY HX HZ HB HGX x1 x2 x3 x4 x5 x6 y1 y2 y3 y4 y5 y6
    by_cases hk : k1 = 0
    · have qs := hk
      have qk10 : (k1 == 0) = true := by rw [beq_iff_eq]; omega
      have qk11 : (k1 == 1) = false := by rw [beq_eq_false_iff_ne]; omega
      have qk12 : (k1 == 2) = false := by rw [beq_eq_false_iff_ne]; omega
      have qk13 : (k1 == 3) = false := by rw [beq_eq_false_iff_ne]; omega
      have qk14 : (k1 == 4) = false := by rw [beq_eq_false_iff_ne]; omega
      clear qs
      by_cases hz : k2 = 5
      · have qk25 : (k2 == 5) = true := by rw [beq_iff_eq]; omega
        have HE := Lib.hid (show true = ft from by rw [HFI.out]; symm; simp only [decide_eq_true_iff, decide_eq_false_iff_not]; omega)
        clear HFI hk hz
        go_wp2
        go_meet
        case rel => exact ⟨true, rfl, HE.out, rfl⟩
      · have qk25 : (k2 == 5) = false := by rw [beq_eq_false_iff_ne]; omega
        have HE := Lib.hid (show false = ft from by rw [HFI.out]; symm; simp only [decide_eq_true_iff, decide_eq_false_iff_not]; omega)
        clear HFI hk hz
        go_wp2
        go_meet
        case rel => exact ⟨false, rfl, HE.out, rfl⟩
    have h0 := hk; clear hk
    by_cases hk : k1 = 2
    · have qs := hk
      have qk10 : (k1 == 0) = false := by rw [beq_eq_false_iff_ne]; omega
      have qk11 : (k1 == 1) = false := by rw [beq_eq_false_iff_ne]; omega
      have qk12 : (k1 == 2) = true := by rw [beq_iff_eq]; omega
      have qk13 : (k1 == 3) = false := by rw [beq_eq_false_iff_ne]; omega
      have qk14 : (k1 == 4) = false := by rw [beq_eq_false_iff_ne]; omega
      clear qs
      by_cases hz : k2 = 6
      · have qk26 : (k2 == 6) = true := by rw [beq_iff_eq]; omega
        have HE := Lib.hid (show true = ft from by rw [HFI.out]; symm; simp only [decide_eq_true_iff, decide_eq_false_iff_not]; omega)
        clear HFI hk hz
        go_wp2
        go_meet
        case rel => exact ⟨true, rfl, HE.out, rfl⟩
      · have qk26 : (k2 == 6) = false := by rw [beq_eq_false_iff_ne]; omega
        have HE := Lib.hid (show false = ft from by rw [HFI.out]; symm; simp only [decide_eq_true_iff, decide_eq_false_iff_not]; omega)
        clear HFI hk hz
        go_wp2
        go_meet
        case rel => exact ⟨false, rfl, HE.out, rfl⟩
    have h2 := hk; clear hk
    by_cases hk : k1 = 1
    · have qs := hk
      have qk10 : (k1 == 0) = false := by rw [beq_eq_false_iff_ne]; omega
      have qk11 : (k1 == 1) = true := by rw [beq_iff_eq]; omega
      have qk12 : (k1 == 2) = false := by rw [beq_eq_false_iff_ne]; omega
      have qk13 : (k1 == 3) = false := by rw [beq_eq_false_iff_ne]; omega
      have qk14 : (k1 == 4) = false := by rw [beq_eq_false_iff_ne]; omega
      clear qs
      by_cases hz : k2 = 7
      · have qk27 : (k2 == 7) = true := by rw [beq_iff_eq]; omega
        have HE := Lib.hid (show true = ft from by rw [HFI.out]; symm; simp only [decide_eq_true_iff, decide_eq_false_iff_not]; omega)
        clear HFI hk hz
        go_wp2
        go_meet
        case rel => exact ⟨true, rfl, HE.out, rfl⟩
      · have qk27 : (k2 == 7) = false := by rw [beq_eq_false_iff_ne]; omega
        have HE := Lib.hid (show false = ft from by rw [HFI.out]; symm; simp only [decide_eq_true_iff, decide_eq_false_iff_not]; omega)
        clear HFI hk hz
        go_wp2
        go_meet
        case rel => exact ⟨false, rfl, HE.out, rfl⟩
    have h1 := hk; clear hk
    by_cases hk : k1 = 3
    · have qs := hk
      have qk10 : (k1 == 0) = false := by rw [beq_eq_false_iff_ne]; omega
      have qk11 : (k1 == 1) = false := by rw [beq_eq_false_iff_ne]; omega
      have qk12 : (k1 == 2) = false := by rw [beq_eq_false_iff_ne]; omega
      have qk13 : (k1 == 3) = true := by rw [beq_iff_eq]; omega
      have qk14 : (k1 == 4) = false := by rw [beq_eq_false_iff_ne]; omega
      clear qs
      by_cases hz : k2 = 7
      · have qk27 : (k2 == 7) = true := by rw [beq_iff_eq]; omega
        have HE := Lib.hid (show true = ft from by rw [HFI.out]; symm; simp only [decide_eq_true_iff, decide_eq_false_iff_not]; omega)
        clear HFI hk hz
        go_wp2
        go_meet
        case rel => exact ⟨true, rfl, HE.out, rfl⟩
      · have qk27 : (k2 == 7) = false := by rw [beq_eq_false_iff_ne]; omega
        have HE := Lib.hid (show false = ft from by rw [HFI.out]; symm; simp only [decide_eq_true_iff, decide_eq_false_iff_not]; omega)
        clear HFI hk hz
        go_wp2
        go_meet
        case rel => exact ⟨false, rfl, HE.out, rfl⟩
    have h3 := hk; clear hk
    by_cases hk : k1 = 4
    · have qs := hk
      have qk10 : (k1 == 0) = false := by rw [beq_eq_false_iff_ne]; omega
      have qk11 : (k1 == 1) = false := by rw [beq_eq_false_iff_ne]; omega
      have qk12 : (k1 == 2) = false := by rw [beq_eq_false_iff_ne]; omega
      have qk13 : (k1 == 3) = false := by rw [beq_eq_false_iff_ne]; omega
      have qk14 : (k1 == 4) = true := by rw [beq_iff_eq]; omega
      clear qs
      by_cases hz : k2 = 7
      · have qk27 : (k2 == 7) = true := by rw [beq_iff_eq]; omega
        have HE := Lib.hid (show true = ft from by rw [HFI.out]; symm; simp only [decide_eq_true_iff, decide_eq_false_iff_not]; omega)
        clear HFI hk hz
        go_wp2
        go_meet
        case rel => exact ⟨true, rfl, HE.out, rfl⟩
      · have qk27 : (k2 == 7) = false := by rw [beq_eq_false_iff_ne]; omega
        have HE := Lib.hid (show false = ft from by rw [HFI.out]; symm; simp only [decide_eq_true_iff, decide_eq_false_iff_not]; omega)
        clear HFI hk hz
        go_wp2
        go_meet
        case rel => exact ⟨false, rfl, HE.out, rfl⟩
    have h4 := hk; clear hk
    have qk10 : (k1 == 0) = false := by rw [beq_eq_false_iff_ne]; omega
    have qk11 : (k1 == 1) = false := by rw [beq_eq_false_iff_ne]; omega
    have qk12 : (k1 == 2) = false := by rw [beq_eq_false_iff_ne]; omega
    have qk13 : (k1 == 3) = false := by rw [beq_eq_false_iff_ne]; omega
    have qk14 : (k1 == 4) = false := by rw [beq_eq_false_iff_ne]; omega
    have HE := Lib.hid (show false = ft from by rw [HFI.out]; symm; simp only [decide_eq_true_iff, decide_eq_false_iff_not]; omega)
    clear HFI h0 h1 h2 h3 h4
    go_wp2
    go_meet
    case rel => exact ⟨false, rfl, HE.out, rfl⟩
  case rest =>
    obtain ⟨fb, rfl, hfb, rfl⟩ := hcut
    subst hfb
    clear HFI x0 y0
    cases fb with
    | false =>
      have HE := Lib.hid (HF.out rfl)
      clear HF HN HY
      go_wp2; go_ret; exact ⟨ret_bool HE.out.symm, HB.out⟩
    | true =>
    have HY := Lib.hid (HY.out rfl)
    clear HF
    by_cases h0 : r1 = d2
    case neg =>
      have HE := Lib.hid (HN.out (by omega)); have hq : (r1 == d2) = false := by rw [beq_eq_false_iff_ne]; exact h0
      clear HN HY h0; go_wp2; go_ret; exact ⟨ret_bool HE.out.symm, HB.out⟩
    have e0' : (r1 == d2) = true := by rw [beq_iff_eq]; exact h0
    have H0 := Lib.hid h0; clear h0
    by_cases h1 : d1 = r2
    case neg =>
      have HE := Lib.hid (HN.out (by omega)); have hq : (d1 == r2) = false := by rw [beq_eq_false_iff_ne]; exact h1
      clear HN HY h1; go_wp2; go_ret; exact ⟨ret_bool HE.out.symm, HB.out⟩
    have e1' : (d1 == r2) = true := by rw [beq_iff_eq]; exact h1
    have H1 := Lib.hid h1; clear h1
    by_cases h2 : i1 = i2
    case neg =>
      have HE := Lib.hid (HN.out (by omega)); have hq : (i1 == i2) = false := by rw [beq_eq_false_iff_ne]; exact h2
      clear HN HY h2; go_wp2; go_ret; exact ⟨ret_bool HE.out.symm, HB.out⟩
    have e2' : (i1 == i2) = true := by rw [beq_iff_eq]; exact h2
    have H2 := Lib.hid h2; clear h2
    by_cases h3 : q1 = q2
    case neg =>
      have HE := Lib.hid (HN.out (by omega)); have hq : (q1 == q2) = false := by rw [beq_eq_false_iff_ne]; exact h3
      clear HN HY h3; go_wp2; go_ret; exact ⟨ret_bool HE.out.symm, HB.out⟩
    have e3' : (q1 == q2) = true := by rw [beq_iff_eq]; exact h3
    have H3 := Lib.hid h3; clear h3
    cases hv : (a1 == a2 && e1 == e2) with
    | false =>
      have HE := Lib.hid (HN.out (by
        rintro ⟨_, _, _, _, rfl, rfl⟩
        simp at hv))
      clear HN HY; go_wp2; go_ret; exact ⟨ret_bool HE.out.symm, HB.out⟩
    | true =>
    have HE := Lib.hid (HY.out (by simp only [Bool.and_eq_true, beq_iff_eq] at hv; exact ⟨H0.out, H1.out, H2.out, H3.out, hv.1, hv.2⟩))
    clear HN HY
    go_wp2; go_ret; exact ⟨ret_bool HE.out.symm, HB.out⟩
end Go.Proofs.Ytldfccllpnplmaa.Msw
