/- Contracts and words on which the claims of this seat stand, part 30: FoP FoQ FoR. -/
import Derived.Test.YtfblnomkafimhaaGreatG01
import Derived.Test.YtfblnomkafimhaaGreatG18
import Derived.Test.YtfblnomkafimhaaGreatG19
set_option linter.unusedSimpArgs false
set_option linter.unusedVariables false
namespace Go.Proofs.YtfblnomkafimhaaGreat.Fo
set_option maxRecDepth 20000
open Chg Vw Cl Bk Lg

def V64 (v : (Nat × Nat)) : Prop := v.1 < 64 ∧ v.2 < 64
theorem name_inj {u v : (Nat × Nat)} (hu : V64 u) (hv : V64 v) (h : name2 u = name2 v) : u = v := by
  unfold name2 V64 at *
  exact Prod.ext (by omega) (by omega)
theorem name_lt {u : (Nat × Nat)} (hu : V64 u) : name2 u < 4096 := by unfold name2 V64 at *; omega
section
variable {α : Type}
/-- lists of what belongs to views -/
def lk (l : List ((Nat × Nat) × α)) (v : (Nat × Nat)) : Option α := (l.find? fun x => x.1 == v).map (·.2)
def Sd (l : List ((Nat × Nat) × α)) : Prop := l.Pairwise fun x y => name2 x.1 < name2 y.1
def A64 (l : List ((Nat × Nat) × α)) : Prop := ∀ x ∈ l, V64 x.1
def putK (one : Option α → α) (v : (Nat × Nat)) : List ((Nat × Nat) × α) → List ((Nat × Nat) × α)
  | [] => [(v, one none)]
  | x :: l => if x.1 = v then (v, one (some x.2)) :: l else if name2 v < name2 x.1 then (v, one none) :: x :: l else x :: putK one v l
theorem lk_nil (v : (Nat × Nat)) : lk ([] : List ((Nat × Nat) × α)) v = none := rfl
theorem lk_cons (x : (Nat × Nat) × α) (l : List ((Nat × Nat) × α)) (v : (Nat × Nat)) : lk (x :: l) v = if x.1 = v then some x.2 else lk l v := by
  unfold lk
  rw [List.find?_cons]
  by_cases h : x.1 = v
  · rw [if_pos h, beq_iff_eq.2 h]; rfl
  · rw [if_neg h, beq_eq_false_iff_ne.2 h]
theorem lk_none {l : List ((Nat × Nat) × α)} {v : (Nat × Nat)} (h : ∀ x ∈ l, x.1 ≠ v) : lk l v = none := by
  induction l with
  | nil => rfl
  | cons x l ih => rw [lk_cons, if_neg (h x (by simp)), ih (fun y hy => h y (by simp [hy]))]
theorem lk_some {l : List ((Nat × Nat) × α)} {v : (Nat × Nat)} {a : α} (h : lk l v = some a) : (v, a) ∈ l := by
  induction l with
  | nil => cases h
  | cons x l ih =>
    rw [lk_cons] at h
    by_cases e : x.1 = v
    · rw [if_pos e] at h
      cases h
      rw [← e]
      simp
    · rw [if_neg e] at h
      exact List.mem_cons_of_mem _ (ih h)
theorem lk_mem {l : List ((Nat × Nat) × α)} (hs : Sd l) {v : (Nat × Nat)} {a : α} (h : (v, a) ∈ l) : lk l v = some a := by
  induction l with
  | nil => cases h
  | cons x l ih =>
    rw [lk_cons]
    have hp := List.pairwise_cons.1 hs
    rcases List.mem_cons.1 h with h | h
    · rw [← h, if_pos rfl]
    · have := hp.1 _ h
      rw [if_neg (fun e => by rw [e] at this; exact Nat.lt_irrefl _ this), ih hp.2 h]
theorem sd_nil : Sd ([] : List ((Nat × Nat) × α)) := List.Pairwise.nil
theorem put_mem (one : Option α → α) (v : (Nat × Nat)) : ∀ (l : List ((Nat × Nat) × α)) (y : (Nat × Nat) × α), y ∈ putK one v l → y.1 = v ∨ y ∈ l
  | [], y, h => by
    unfold putK at h
    rw [List.mem_singleton] at h
    exact Or.inl (by rw [h])
  | x :: l, y, h => by
    unfold putK at h
    by_cases e : x.1 = v
    · rw [if_pos e] at h
      rcases List.mem_cons.1 h with h | h
      · exact Or.inl (by rw [h])
      · exact Or.inr (List.mem_cons_of_mem _ h)
    · rw [if_neg e] at h
      by_cases e2 : name2 v < name2 x.1
      · rw [if_pos e2] at h
        rcases List.mem_cons.1 h with h | h
        · exact Or.inl (by rw [h])
        · exact Or.inr h
      · rw [if_neg e2] at h
        rcases List.mem_cons.1 h with h | h
        · exact Or.inr (by rw [h]; simp)
        · rcases put_mem one v l y h with h | h
          · exact Or.inl h
          · exact Or.inr (List.mem_cons_of_mem _ h)
theorem a64_put {one : Option α → α} {v : (Nat × Nat)} (hv : V64 v) {l : List ((Nat × Nat) × α)} (h : A64 l) : A64 (putK one v l) := fun y hy => by
  rcases put_mem one v l y hy with e | hm
  · rw [e]; exact hv
  · exact h y hm
theorem sd_put {one : Option α → α} {v : (Nat × Nat)} (hv : V64 v) : ∀ {l : List ((Nat × Nat) × α)}, A64 l → Sd l → Sd (putK one v l)
  | [], _, _ => List.pairwise_singleton _ _
  | x :: l, ha, hs => by
    have hp := List.pairwise_cons.1 hs
    have hx := ha x (by simp)
    unfold putK
    by_cases e : x.1 = v
    · rw [if_pos e]
      exact List.pairwise_cons.2 ⟨fun y hy => by have := hp.1 y hy; rwa [e] at this, hp.2⟩
    · rw [if_neg e]
      by_cases e2 : name2 v < name2 x.1
      · rw [if_pos e2]
        refine List.pairwise_cons.2 ⟨fun y hy => ?_, hs⟩
        rcases List.mem_cons.1 hy with h | h
        · rw [h]; exact e2
        · exact Nat.lt_trans e2 (hp.1 y h)
      · rw [if_neg e2]
        refine List.pairwise_cons.2 ⟨fun y hy => ?_, sd_put hv (fun y hy => ha y (by simp [hy])) hp.2⟩
        rcases put_mem one v l y hy with h | h
        · rw [h]
          have : name2 x.1 ≠ name2 v := fun h' => e (name_inj hx hv h')
          omega
        · exact hp.1 y h
theorem lk_put {one : Option α → α} {v : (Nat × Nat)} : ∀ {l : List ((Nat × Nat) × α)}, Sd l → ∀ u, lk (putK one v l) u = if u = v then some (one (lk l v)) else lk l u
  | [], _, u => by
    unfold putK
    rw [lk_cons, lk_nil, lk_nil]
    by_cases e : u = v
    · rw [if_pos e, if_pos e.symm]
    · rw [if_neg e, if_neg (fun h => e h.symm)]
  | x :: l, hs, u => by
    have hp := List.pairwise_cons.1 hs
    unfold putK
    by_cases e : x.1 = v
    · rw [if_pos e, lk_cons, lk_cons, lk_cons, if_pos e]
      by_cases e2 : u = v
      · rw [if_pos e2, if_pos e2.symm]
      · rw [if_neg e2, if_neg (fun h => e2 h.symm), if_neg (fun h => e2 (h.symm.trans e))]
    · rw [if_neg e]
      by_cases e2 : name2 v < name2 x.1
      · rw [if_pos e2]
        have hn : lk (x :: l) v = none := lk_none (fun y hy h => by
          rcases List.mem_cons.1 hy with h' | h'
          · rw [h'] at h; exact e h
          · have := hp.1 y h'; rw [h] at this; omega)
        rw [lk_cons, hn]
        by_cases e3 : u = v
        · rw [if_pos e3, if_pos e3.symm]
        · rw [if_neg e3, if_neg (fun h => e3 h.symm)]
      · rw [if_neg e2, lk_cons, lk_cons, lk_cons, if_neg e, lk_put hp.2 u]
        by_cases e3 : x.1 = u
        · rw [if_pos e3, if_neg (fun h => e (e3.trans h)), if_pos e3]
        · rw [if_neg e3, if_neg e3]
theorem sd_ext : ∀ {l m : List ((Nat × Nat) × α)}, A64 l → A64 m → Sd l → Sd m → (∀ v, lk l v = lk m v) → l = m
  | [], [], _, _, _, _, _ => rfl
  | [], y :: m, _, _, _, _, h => by
    have := h y.1
    rw [lk_nil, lk_cons, if_pos rfl] at this
    cases this
  | x :: l, [], _, _, _, _, h => by
    have := h x.1
    rw [lk_nil, lk_cons, if_pos rfl] at this
    cases this
  | x :: l, y :: m, hal, ham, hl, hm, h => by
    have hp := List.pairwise_cons.1 hl
    have hq := List.pairwise_cons.1 hm
    have hxy : x.1 = y.1 := by
      by_cases e : x.1 = y.1
      · exact e
      · exfalso
        rcases Nat.lt_trichotomy (name2 x.1) (name2 y.1) with h1 | h1 | h1
        · have := h x.1
          rw [lk_cons, if_pos rfl, lk_none (fun z hz hzx => by
            rcases List.mem_cons.1 hz with h' | h'
            · rw [h'] at hzx; exact e hzx.symm
            · have := hq.1 z h'; rw [hzx] at this; omega)] at this
          cases this
        · exact e (name_inj (hal x (by simp)) (ham y (by simp)) h1)
        · have := h y.1
          rw [lk_cons y, if_pos rfl, lk_none (fun z hz hzx => by
            rcases List.mem_cons.1 hz with h' | h'
            · rw [h'] at hzx; exact e hzx
            · have := hp.1 z h'; rw [hzx] at this; omega)] at this
          cases this
    have h2 : x.2 = y.2 := by
      have := h x.1
      rw [lk_cons, if_pos rfl, lk_cons, if_pos hxy.symm] at this
      exact Option.some.inj this
    have hlm : l = m := sd_ext (fun z hz => hal z (by simp [hz])) (fun z hz => ham z (by simp [hz])) hp.2 hq.2 (fun v => by
      by_cases e : x.1 = v
      · rw [lk_none (fun z hz hzv => by have := hp.1 z hz; rw [hzv, e] at this; exact Nat.lt_irrefl _ this), lk_none (fun z hz hzv => by have := hq.1 z hz; rw [hzv, ← e, hxy] at this; exact Nat.lt_irrefl _ this)]
      · have := h v
        rwa [lk_cons, if_neg e, lk_cons, if_neg (fun h' => e (hxy.trans h'))] at this)
    rw [Prod.ext hxy h2, hlm]
end

/-- a state -/
structure St where
  books : List ((Nat × Nat) × List E)
  cells : List ((Nat × Nat) × List C)
  ints : List ((Nat × Nat) × (Nat × Nat))
  held : (Nat × Nat)
  inc : Int
  last : Int
def newS (v : (Nat × Nat)) : St := ⟨[], [], [], v, 0, 0⟩
def rvw (r : R) : (Nat × Nat) := (r.va.toNat, r.vd.toNat)
def rch (r : R) : (Nat × Nat) := (r.ca.toNat, r.cd.toNat)
def rcell (r : R) : C := (r.cn, r.ca, r.cd)
def oneB (e : E) (o : Option (List E)) : List E := merge (o.getD []) [e]
def oneC (c : C) (o : Option (List C)) : List C := mergeC (o.getD []) [c]
def oneI (v : (Nat × Nat)) (o : Option (Nat × Nat)) : (Nat × Nat) := o.getD v
def applyS (s : St) (r : R) : St :=
  if r.kind = 1 then { s with books := putK (oneB r.e) (rvw r) s.books }
  else if r.kind = 2 then { s with cells := putK (oneC (rcell r)) (rvw r) s.cells }
  else if r.kind = 3 then (if within2 s.held (rvw r) then { s with held := rvw r } else s)
  else if r.kind = 4 then (if s.last < r.n then { s with last := r.n } else s)
  else if r.kind = 5 then { s with ints := putK (oneI (rch r)) (rvw r) s.ints }
  else if r.kind = 6 then (if s.inc < r.n then { s with inc := r.n } else s)
  else s
def ofS (v : (Nat × Nat)) (l : List R) : St := l.foldl applyS (newS v)
/-- a record that can be, with its values in their range -/
def OkR (r : R) : Prop := rightR r = true ∧ WfE r.e
/-- what the states are that New and Apply answer -/
structure WfS (s : St) : Prop where
  sb : Sd s.books
  sc : Sd s.cells
  si : Sd s.ints
  ab : A64 s.books
  ac : A64 s.cells
  ai : A64 s.ints
  bk : ∀ x ∈ s.books, isBook x.2 = true ∧ x.2 ≠ [] ∧ ∀ e ∈ x.2, WfE e
  cl : ∀ x ∈ s.cells, isCl x.2 = true ∧ x.2 ≠ []
  iv : ∀ x ∈ s.ints, V64 x.2
  hv : V64 s.held
  ic : 0 ≤ s.inc ∧ s.inc ≤ 1000000
  lt : 0 ≤ s.last ∧ s.last ≤ 1000000
theorem wf_new {v : (Nat × Nat)} (h : V64 v) : WfS (newS v) := ⟨sd_nil, sd_nil, sd_nil, by simp [newS, A64], by simp [newS, A64], by simp [newS, A64], by simp [newS], by simp [newS], by simp [newS], h, by simp [newS], by simp [newS]⟩
/-- what the document says, out of all records -/
def bookL (l : List R) (v : (Nat × Nat)) : List E := l.foldl (fun o r => if r.kind = 1 ∧ rvw r = v then merge o [r.e] else o) []
def cellsL (l : List R) (v : (Nat × Nat)) : List C := l.foldl (fun o r => if r.kind = 2 ∧ rvw r = v then mergeC o [rcell r] else o) []
def intL (l : List R) (v : (Nat × Nat)) : Option (Nat × Nat) := (l.find? fun r => decide (r.kind = 5 ∧ rvw r = v)).map rch
def writes (r : R) : Prop := r.kind = 1 ∨ r.kind = 2 ∨ r.kind = 5
instance (r : R) : Decidable (writes r) := by unfold writes; infer_instance
def named2 (n : Nat) : (Nat × Nat) := (n / 64, n % 64)
def viewsL (l : List R) : List (Nat × Nat) := ((List.range 4096).filter fun n => l.any fun r => decide (writes r ∧ name2 (rvw r) = n)).map named2
def heldL (v : (Nat × Nat)) (l : List R) : (Nat × Nat) := l.foldl (fun h r => if r.kind = 3 ∧ within2 h (rvw r) = true then rvw r else h) v
def lastL (l : List R) : Int := l.foldl (fun x r => if r.kind = 4 ∧ x < r.n then r.n else x) 0
def incL (l : List R) : Int := l.foldl (fun x r => if r.kind = 6 ∧ x < r.n then r.n else x) 0
def ofL (v : (Nat × Nat)) (l : List R) : St :=
  ⟨((viewsL l).filter fun v => decide (bookL l v ≠ [])).map fun v => (v, bookL l v), ((viewsL l).filter fun v => decide (cellsL l v ≠ [])).map fun v => (v, cellsL l v), (viewsL l).filterMap fun v => (intL l v).map fun x => (v, x), heldL v l, incL l, lastL l⟩
def sameB : List ((Nat × Nat) × List E) → List ((Nat × Nat) × List E) → Bool
  | [], [] => true
  | x :: a, y :: b => (x.1 == y.1 && same x.2 y.2) && sameB a b
  | _, _ => false
def sameCs : List ((Nat × Nat) × List C) → List ((Nat × Nat) × List C) → Bool
  | [], [] => true
  | x :: a, y :: b => (x.1 == y.1 && sameC x.2 y.2) && sameCs a b
  | _, _ => false
def sameI : List ((Nat × Nat) × (Nat × Nat)) → List ((Nat × Nat) × (Nat × Nat)) → Bool
  | [], [] => true
  | x :: a, y :: b => (x.1 == y.1 && x.2 == y.2) && sameI a b
  | _, _ => false
def sameS (a b : St) : Bool := (a.held == b.held && (a.inc == b.inc && a.last == b.last)) && (sameB a.books b.books && (sameCs a.cells b.cells && sameI a.ints b.ints))
end Go.Proofs.YtfblnomkafimhaaGreat.Fo

namespace Go.Proofs.YtfblnomkafimhaaGreat.Fo
set_option maxRecDepth 20000
open Chg Vw Cl Bk Lg

theorem one_book {e : E} (h : okE e = true) : isBook [e] = true := by
  have := (okE_iff e).1 h
  show ((okE e && decide ((-1 : Int) < e.key)) && chk e.key []) = true
  rw [h, decide_eq_true (by omega)]; rfl
theorem one_cl {c : C} (h : okC c = true) : isCl [c] = true := by
  have := (okC_iff c).1 h
  show ((okC c && decide ((-1 : Int) < c.1)) && chkC c.1 []) = true
  rw [h, decide_eq_true (by omega)]; rfl
theorem merge_ne {o : List E} {e : E} (ho : isBook o = true) (h : okE e = true) : merge o [e] ≠ [] := by
  intro hm
  have h1 := find_merge o [e] ho (one_book h) e.key
  rw [hm] at h1
  have h2 : find [e] e.key = e := by rw [find_cons, if_pos rfl]
  have h3 := (okE_iff e).1 h
  have h4 : find ([] : List E) e.key = zero e.key := rfl
  rw [h4] at h1
  unfold pick at h1
  rw [h2] at h1
  by_cases hl : Tg.less (find o e.key).tag e.tag = true
  · rw [if_pos hl] at h1
    exact ok_tag e h (by rw [← h1]; rfl)
  · rw [if_neg hl] at h1
    rw [← h1] at hl
    apply hl
    unfold Tg.less
    show decide ((0 : Int) < e.num ∨ ((0 : Int) = e.num ∧ (0 : Int) < e.node)) = true
    exact decide_eq_true (by omega)
theorem mergeC_ne {o : List C} {c : C} (ho : isCl o = true) (h : okC c = true) : mergeC o [c] ≠ [] := by
  intro hm
  have h1 := fnd_merge ho (one_cl h) c.1
  rw [hm] at h1
  have h2 : fnd [c] c.1 = some c := by rw [fnd_cons, if_pos rfl]
  rw [h2] at h1
  have h3 : fnd ([] : List C) c.1 = none := rfl
  rw [h3] at h1
  cases hf : fnd o c.1 with
  | none => rw [hf] at h1; cases h1
  | some y => rw [hf] at h1; cases h1
/-- what a record that can be says -/
theorem okr {r : R} (h : OkR r) : (r.kind = 1 → V64 (rvw r) ∧ okE r.e = true) ∧ (r.kind = 2 → V64 (rvw r) ∧ okC (rcell r) = true) ∧ (r.kind = 3 → V64 (rvw r)) ∧ (r.kind = 5 → V64 (rvw r) ∧ V64 (rch r)) ∧ (r.kind = 4 ∨ r.kind = 6 → 1 ≤ r.n ∧ r.n ≤ 1000000) ∧ 1 ≤ r.kind ∧ r.kind ≤ 6 := by
  have hv : (0 ≤ r.va ∧ r.va ≤ 63 ∧ 0 ≤ r.vd ∧ r.vd ≤ 63) → V64 (rvw r) := fun h => by unfold V64 rvw; simp only; omega
  have hc : (0 ≤ r.ca ∧ r.ca ≤ 63 ∧ 0 ≤ r.cd ∧ r.cd ≤ 63) → V64 (rch r) := fun h => by unfold V64 rch; simp only; omega
  rcases right_cases r h.1 with h | h | h | h | h
  · exact ⟨fun _ => ⟨hv h.2.1, h.2.2.1⟩, fun k => by omega, fun k => by omega, fun k => by omega, fun k => by omega, by omega, by omega⟩
  · refine ⟨fun k => by omega, fun _ => ⟨hv h.2.1, ?_⟩, fun k => by omega, fun k => by omega, fun k => by omega, by omega, by omega⟩
    rw [okC_iff]
    exact ⟨h.2.2.2.2.1, decide_eq_true h.2.2.1, h.2.2.2.1⟩
  · exact ⟨fun k => by omega, fun k => by omega, fun _ => hv h.2.1, fun k => by omega, fun k => by omega, by omega, by omega⟩
  · exact ⟨fun k => by omega, fun k => by omega, fun k => by omega, fun k => by omega, fun _ => h.2.1, by omega, by omega⟩
  · exact ⟨fun k => by omega, fun k => by omega, fun k => by omega, fun _ => ⟨hv h.2.1, hc h.2.2.1⟩, fun k => by omega, by omega, by omega⟩
theorem wfe_merge {a b : List E} (ha : isBook a = true) (hb : isBook b = true) (h1 : ∀ e ∈ a, WfE e) (h2 : ∀ e ∈ b, WfE e) : ∀ e ∈ merge a b, WfE e := fun e he => by
  rcases merge_mem a b ha hb e he with h | h
  · exact h1 e h
  · exact h2 e h
theorem put_all {α : Type} {one : Option α → α} {v : (Nat × Nat)} {Q : α → Prop} (h0 : Q (one none)) (h1 : ∀ a, Q a → Q (one (some a))) : ∀ {l : List ((Nat × Nat) × α)}, (∀ x ∈ l, Q x.2) → ∀ x ∈ putK one v l, Q x.2
  | [], _, x, hx => by
    unfold putK at hx
    rw [List.mem_singleton] at hx
    rw [hx]; exact h0
  | y :: l, h, x, hx => by
    unfold putK at hx
    by_cases e : y.1 = v
    · rw [if_pos e] at hx
      rcases List.mem_cons.1 hx with hx | hx
      · rw [hx]; exact h1 _ (h y (by simp))
      · exact h x (by simp [hx])
    · rw [if_neg e] at hx
      by_cases e2 : name2 v < name2 y.1
      · rw [if_pos e2] at hx
        rcases List.mem_cons.1 hx with hx | hx
        · rw [hx]; exact h0
        · exact h x hx
      · rw [if_neg e2] at hx
        rcases List.mem_cons.1 hx with hx | hx
        · rw [hx]; exact h y (by simp)
        · exact put_all h0 h1 (fun z hz => h z (by simp [hz])) x hx
theorem wf_apply {s : St} {r : R} (h : WfS s) (hr : OkR r) : WfS (applyS s r) := by
  obtain ⟨k1, k2, k3, k5, k46, _⟩ := okr hr
  unfold applyS
  by_cases e1 : r.kind = 1
  · rw [if_pos e1]
    obtain ⟨hv, he⟩ := k1 e1
    refine { h with sb := sd_put hv h.ab h.sb, ab := a64_put hv h.ab, bk := ?_ }
    refine put_all (Q := fun b => isBook b = true ∧ b ≠ [] ∧ ∀ e ∈ b, WfE e) ⟨merge_book _ _ rfl (one_book he), merge_ne rfl he, wfe_merge rfl (one_book he) (by simp [oneB]) (by simp; exact hr.2)⟩ (fun a ha => ⟨merge_book _ _ ha.1 (one_book he), merge_ne ha.1 he, wfe_merge ha.1 (one_book he) ha.2.2 (by simp; exact hr.2)⟩) h.bk
  rw [if_neg e1]
  by_cases e2 : r.kind = 2
  · rw [if_pos e2]
    obtain ⟨hv, he⟩ := k2 e2
    refine { h with sc := sd_put hv h.ac h.sc, ac := a64_put hv h.ac, cl := ?_ }
    exact put_all (Q := fun b => isCl b = true ∧ b ≠ []) ⟨merge_cl rfl (one_cl he), mergeC_ne rfl he⟩ (fun a ha => ⟨merge_cl ha.1 (one_cl he), mergeC_ne ha.1 he⟩) h.cl
  rw [if_neg e2]
  by_cases e3 : r.kind = 3
  · rw [if_pos e3]
    by_cases hw : within2 s.held (rvw r) = true
    · rw [if_pos hw]; exact { h with hv := k3 e3 }
    · rw [if_neg hw]; exact h
  rw [if_neg e3]
  by_cases e4 : r.kind = 4
  · rw [if_pos e4]
    by_cases hw : s.last < r.n
    · rw [if_pos hw]; exact { h with lt := by have := k46 (Or.inl e4); show 0 ≤ r.n ∧ r.n ≤ 1000000; omega }
    · rw [if_neg hw]; exact h
  rw [if_neg e4]
  by_cases e5 : r.kind = 5
  · rw [if_pos e5]
    obtain ⟨hv, hc⟩ := k5 e5
    refine { h with si := sd_put hv h.ai h.si, ai := a64_put hv h.ai, iv := ?_ }
    exact put_all (Q := fun b => V64 b) hc (fun a ha => ha) h.iv
  rw [if_neg e5]
  by_cases e6 : r.kind = 6
  · rw [if_pos e6]
    by_cases hw : s.inc < r.n
    · rw [if_pos hw]; exact { h with ic := by have := k46 (Or.inr e6); show 0 ≤ r.n ∧ r.n ≤ 1000000; omega }
    · rw [if_neg hw]; exact h
  rw [if_neg e6]
  exact h
theorem wf_fold : ∀ (l : List R) {s : St}, WfS s → (∀ r ∈ l, OkR r) → WfS (l.foldl applyS s)
  | [], _, h, _ => h
  | r :: l, _, h, hr => wf_fold l (wf_apply h (hr r (by simp))) (fun x hx => hr x (by simp [hx]))
theorem wf_of {v : (Nat × Nat)} {l : List R} (hv : V64 v) (h : ∀ r ∈ l, OkR r) : WfS (ofS v l) := wf_fold l (wf_new hv) h

/-! ### the parts of a state, record by record -/
theorem lk_books {s : St} (h : WfS s) (r : R) (u : (Nat × Nat)) : lk (applyS s r).books u = if r.kind = 1 ∧ rvw r = u then some (oneB r.e (lk s.books u)) else lk s.books u := by
  unfold applyS
  by_cases e1 : r.kind = 1
  · rw [if_pos e1]
    show lk (putK (oneB r.e) (rvw r) s.books) u = _
    rw [lk_put h.sb]
    by_cases e : u = rvw r
    · rw [if_pos e, if_pos ⟨e1, e.symm⟩, e]
    · rw [if_neg e, if_neg (fun h => e h.2.symm)]
  rw [if_neg e1, if_neg (fun h : r.kind = 1 ∧ rvw r = u => e1 h.1)]
  repeat' split
  all_goals rfl
theorem lk_cells {s : St} (h : WfS s) (r : R) (u : (Nat × Nat)) : lk (applyS s r).cells u = if r.kind = 2 ∧ rvw r = u then some (oneC (rcell r) (lk s.cells u)) else lk s.cells u := by
  unfold applyS
  by_cases e2 : r.kind = 2
  · rw [if_neg (by omega), if_pos e2]
    show lk (putK (oneC (rcell r)) (rvw r) s.cells) u = _
    rw [lk_put h.sc]
    by_cases e : u = rvw r
    · rw [if_pos e, if_pos ⟨e2, e.symm⟩, e]
    · rw [if_neg e, if_neg (fun h => e h.2.symm)]
  rw [if_neg e2, if_neg (fun h : r.kind = 2 ∧ rvw r = u => e2 h.1)]
  repeat' split
  all_goals rfl
theorem lk_ints {s : St} (h : WfS s) (r : R) (u : (Nat × Nat)) : lk (applyS s r).ints u = if r.kind = 5 ∧ rvw r = u then some (oneI (rch r) (lk s.ints u)) else lk s.ints u := by
  unfold applyS
  by_cases e5 : r.kind = 5
  · rw [if_neg (by omega), if_neg (by omega), if_neg (by omega), if_neg (by omega), if_pos e5]
    show lk (putK (oneI (rch r)) (rvw r) s.ints) u = _
    rw [lk_put h.si]
    by_cases e : u = rvw r
    · rw [if_pos e, if_pos ⟨e5, e.symm⟩, e]
    · rw [if_neg e, if_neg (fun h => e h.2.symm)]
  rw [if_neg e5, if_neg (fun h : r.kind = 5 ∧ rvw r = u => e5 h.1)]
  repeat' split
  all_goals rfl
theorem held_apply (s : St) (r : R) : (applyS s r).held = if r.kind = 3 ∧ within2 s.held (rvw r) = true then rvw r else s.held := by
  unfold applyS
  by_cases e : r.kind = 3
  · rw [if_neg (by omega), if_neg (by omega), if_pos e]
    by_cases hw : within2 s.held (rvw r) = true
    · rw [if_pos hw, if_pos ⟨e, hw⟩]
    · rw [if_neg hw, if_neg (fun h => hw h.2)]
  rw [if_neg e, if_neg (fun h : r.kind = 3 ∧ _ => e h.1)]
  repeat' split
  all_goals rfl
theorem last_apply (s : St) (r : R) : (applyS s r).last = if r.kind = 4 ∧ s.last < r.n then r.n else s.last := by
  unfold applyS
  by_cases e : r.kind = 4
  · rw [if_neg (by omega), if_neg (by omega), if_neg (by omega), if_pos e]
    by_cases hw : s.last < r.n
    · rw [if_pos hw, if_pos ⟨e, hw⟩]
    · rw [if_neg hw, if_neg (fun h => hw h.2)]
  rw [if_neg e, if_neg (fun h : r.kind = 4 ∧ _ => e h.1)]
  repeat' split
  all_goals rfl
theorem inc_apply (s : St) (r : R) : (applyS s r).inc = if r.kind = 6 ∧ s.inc < r.n then r.n else s.inc := by
  unfold applyS
  by_cases e : r.kind = 6
  · rw [if_neg (by omega), if_neg (by omega), if_neg (by omega), if_neg (by omega), if_neg (by omega), if_pos e]
    by_cases hw : s.inc < r.n
    · rw [if_pos hw, if_pos ⟨e, hw⟩]
    · rw [if_neg hw, if_neg (fun h => hw h.2)]
  rw [if_neg e, if_neg (fun h : r.kind = 6 ∧ _ => e h.1)]
  repeat' split
  all_goals rfl
def bookFrom (o : List E) (l : List R) (v : (Nat × Nat)) : List E := l.foldl (fun o r => if r.kind = 1 ∧ rvw r = v then merge o [r.e] else o) o
def cellsFrom (o : List C) (l : List R) (v : (Nat × Nat)) : List C := l.foldl (fun o r => if r.kind = 2 ∧ rvw r = v then mergeC o [rcell r] else o) o
/-- none, if there is nothing -/
def nzo {β : Type} : List β → Option (List β)
  | [] => none
  | b => some b
theorem nzo_ne {β : Type} {b : List β} (h : b ≠ []) : nzo b = some b := by
  cases b with
  | nil => exact absurd rfl h
  | cons x l => rfl
theorem fold_books : ∀ (l : List R) {s : St}, WfS s → (∀ r ∈ l, OkR r) → ∀ u, lk (l.foldl applyS s).books u = nzo (bookFrom ((lk s.books u).getD []) l u)
  | [], s, h, _, u => by
    show lk s.books u = nzo ((lk s.books u).getD [])
    cases hl : lk s.books u with
    | none => rfl
    | some b => exact (nzo_ne (h.bk _ (lk_some hl)).2.1).symm
  | r :: l, s, h, hr, u => by
    rw [List.foldl_cons, fold_books l (wf_apply h (hr r (by simp))) (fun x hx => hr x (by simp [hx])) u, lk_books h]
    unfold bookFrom
    rw [List.foldl_cons]
    by_cases e : r.kind = 1 ∧ rvw r = u
    · rw [if_pos e, if_pos e]; rfl
    · rw [if_neg e, if_neg e]
theorem fold_cells : ∀ (l : List R) {s : St}, WfS s → (∀ r ∈ l, OkR r) → ∀ u, lk (l.foldl applyS s).cells u = nzo (cellsFrom ((lk s.cells u).getD []) l u)
  | [], s, h, _, u => by
    show lk s.cells u = nzo ((lk s.cells u).getD [])
    cases hl : lk s.cells u with
    | none => rfl
    | some b => exact (nzo_ne (h.cl _ (lk_some hl)).2).symm
  | r :: l, s, h, hr, u => by
    rw [List.foldl_cons, fold_cells l (wf_apply h (hr r (by simp))) (fun x hx => hr x (by simp [hx])) u, lk_cells h]
    unfold cellsFrom
    rw [List.foldl_cons]
    by_cases e : r.kind = 2 ∧ rvw r = u
    · rw [if_pos e, if_pos e]; rfl
    · rw [if_neg e, if_neg e]
theorem intL_cons (r : R) (l : List R) (u : (Nat × Nat)) : intL (r :: l) u = if r.kind = 5 ∧ rvw r = u then some (rch r) else intL l u := by
  unfold intL
  rw [List.find?_cons]
  by_cases e : r.kind = 5 ∧ rvw r = u
  · rw [decide_eq_true e, if_pos e]; rfl
  · rw [decide_eq_false e, if_neg e]
theorem fold_ints : ∀ (l : List R) {s : St}, WfS s → (∀ r ∈ l, OkR r) → ∀ u, lk (l.foldl applyS s).ints u = (lk s.ints u).or (intL l u)
  | [], s, _, _, u => by
    show lk s.ints u = (lk s.ints u).or none
    cases lk s.ints u <;> rfl
  | r :: l, s, h, hr, u => by
    rw [List.foldl_cons, fold_ints l (wf_apply h (hr r (by simp))) (fun x hx => hr x (by simp [hx])) u, lk_ints h, intL_cons]
    by_cases e : r.kind = 5 ∧ rvw r = u
    · rw [if_pos e, if_pos e]
      cases lk s.ints u <;> rfl
    · rw [if_neg e, if_neg e]
theorem fold_held : ∀ (l : List R) (s : St), (l.foldl applyS s).held = heldL s.held l
  | [], _ => rfl
  | r :: l, s => by
    rw [List.foldl_cons, fold_held l, held_apply]
    rfl
theorem fold_last : ∀ (l : List R) (s : St), (l.foldl applyS s).last = l.foldl (fun x r => if r.kind = 4 ∧ x < r.n then r.n else x) s.last
  | [], _ => rfl
  | r :: l, s => by
    rw [List.foldl_cons, fold_last l, last_apply]
    rfl
theorem fold_inc : ∀ (l : List R) (s : St), (l.foldl applyS s).inc = l.foldl (fun x r => if r.kind = 6 ∧ x < r.n then r.n else x) s.inc
  | [], _ => rfl
  | r :: l, s => by
    rw [List.foldl_cons, fold_inc l, inc_apply]
    rfl
/-! ### the document's list of views -/
theorem named_name {u : (Nat × Nat)} (h : V64 u) : named2 (name2 u) = u := by
  unfold named2 name2 V64 at *
  exact Prod.ext (by omega) (by omega)
theorem name_named {n : Nat} : name2 (named2 n) = n := by unfold named2 name2; simp only; omega
theorem writes_v64 {r : R} (h : OkR r) (hw : writes r) : V64 (rvw r) := by
  obtain ⟨k1, k2, k3, k5, _⟩ := okr h
  rcases hw with e | e | e
  · exact (k1 e).1
  · exact (k2 e).1
  · exact (k5 e).1
theorem mem_views {l : List R} (h : ∀ r ∈ l, OkR r) (u : (Nat × Nat)) : u ∈ viewsL l ↔ ∃ r ∈ l, writes r ∧ rvw r = u := by
  unfold viewsL
  rw [List.mem_map]
  constructor
  · rintro ⟨n, hn, rfl⟩
    rw [List.mem_filter, List.any_eq_true] at hn
    obtain ⟨r, hr, hd⟩ := hn.2
    have hd := of_decide_eq_true hd
    exact ⟨r, hr, hd.1, by rw [← hd.2, named_name (writes_v64 (h r hr) hd.1)]⟩
  · rintro ⟨r, hr, hw, rfl⟩
    have hv := writes_v64 (h r hr) hw
    refine ⟨name2 (rvw r), ?_, named_name hv⟩
    rw [List.mem_filter, List.any_eq_true]
    exact ⟨List.mem_range.2 (name_lt hv), r, hr, decide_eq_true ⟨hw, rfl⟩⟩
theorem views_sd (l : List R) : (viewsL l).Pairwise fun u v => name2 u < name2 v := by
  unfold viewsL
  rw [List.pairwise_map]
  refine List.Pairwise.imp ?_ (List.Pairwise.filter _ List.pairwise_lt_range)
  intro a b hab
  rw [name_named, name_named]
  exact hab
theorem views_64 (l : List R) : ∀ u ∈ viewsL l, V64 u := by
  intro u hu
  unfold viewsL at hu
  obtain ⟨n, hn, rfl⟩ := List.mem_map.1 hu
  have := List.mem_range.1 (List.mem_filter.1 hn).1
  unfold named2 V64
  simp only
  omega
theorem bookL_ne {l : List R} {u : (Nat × Nat)} (h : bookL l u ≠ []) : ∃ r ∈ l, r.kind = 1 ∧ rvw r = u := by
  apply Classical.byContradiction
  intro hn
  apply h
  have key : ∀ (l : List R) (o : List E), (∀ r ∈ l, ¬ (r.kind = 1 ∧ rvw r = u)) → l.foldl (fun o r => if r.kind = 1 ∧ rvw r = u then merge o [r.e] else o) o = o := by
    intro l
    induction l with
    | nil => intro o _; rfl
    | cons r l ih => intro o hr; rw [List.foldl_cons, if_neg (hr r (by simp))]; exact ih o (fun x hx => hr x (by simp [hx]))
  exact key l [] (fun r hr hh => hn ⟨r, hr, hh⟩)
theorem cellsL_ne {l : List R} {u : (Nat × Nat)} (h : cellsL l u ≠ []) : ∃ r ∈ l, r.kind = 2 ∧ rvw r = u := by
  apply Classical.byContradiction
  intro hn
  apply h
  have key : ∀ (l : List R) (o : List C), (∀ r ∈ l, ¬ (r.kind = 2 ∧ rvw r = u)) → l.foldl (fun o r => if r.kind = 2 ∧ rvw r = u then mergeC o [rcell r] else o) o = o := by
    intro l
    induction l with
    | nil => intro o _; rfl
    | cons r l ih => intro o hr; rw [List.foldl_cons, if_neg (hr r (by simp))]; exact ih o (fun x hx => hr x (by simp [hx]))
  exact key l [] (fun r hr hh => hn ⟨r, hr, hh⟩)
theorem intL_some {l : List R} {u x : (Nat × Nat)} (h : intL l u = some x) : ∃ r ∈ l, (r.kind = 5 ∧ rvw r = u) ∧ rch r = x := by
  unfold intL at h
  rw [Option.map_eq_some_iff] at h
  obtain ⟨r, hr, hx⟩ := h
  have hd := List.find?_some hr
  exact ⟨r, List.mem_of_find?_eq_some hr, of_decide_eq_true hd, hx⟩
/-- lists made for each view in order -/
theorem lk_made {α : Type} (f : (Nat × Nat) → Option α) : ∀ (vs : List (Nat × Nat)), vs.Pairwise (fun u v => name2 u < name2 v) → (∀ u ∈ vs, V64 u) →
    Sd (vs.filterMap fun v => (f v).map fun x => (v, x)) ∧ A64 (vs.filterMap fun v => (f v).map fun x => (v, x)) ∧ ∀ u, lk (vs.filterMap fun v => (f v).map fun x => (v, x)) u = if u ∈ vs then f u else none
  | [], _, _ => ⟨sd_nil, by simp [A64], fun u => by simp [lk]⟩
  | v :: vs, hp, h64 => by
    have hp := List.pairwise_cons.1 hp
    obtain ⟨h1, h2, h3⟩ := lk_made f vs hp.2 (fun u hu => h64 u (by simp [hu]))
    have hm : ∀ y ∈ (vs.filterMap fun v => (f v).map fun x => (v, x)), y.1 ∈ vs := fun y hy => by
      obtain ⟨z, hz, hzy⟩ := List.mem_filterMap.1 hy
      rw [Option.map_eq_some_iff] at hzy
      obtain ⟨x, _, rfl⟩ := hzy
      exact hz
    have hnv : v ∉ vs := fun hv => Nat.lt_irrefl _ (hp.1 v hv)
    rw [List.filterMap_cons]
    cases hf : f v with
    | none =>
      simp only [Option.map_none]
      refine ⟨h1, h2, fun u => ?_⟩
      rw [h3 u]
      by_cases e : u = v
      · rw [e, if_neg hnv, if_pos (by simp), hf]
      · by_cases e2 : u ∈ vs
        · rw [if_pos e2, if_pos (by simp [e2])]
        · rw [if_neg e2, if_neg (by simp [e, e2])]
    | some a =>
      simp only [Option.map_some]
      refine ⟨List.pairwise_cons.2 ⟨fun y hy => hp.1 _ (hm y hy), h1⟩, fun y hy => ?_, fun u => ?_⟩
      · rcases List.mem_cons.1 hy with rfl | hy
        · exact h64 v (by simp)
        · exact h2 y hy
      · rw [lk_cons, h3 u]
        by_cases e : v = u
        · rw [if_pos e, ← e, if_pos (by simp), hf]
        · rw [if_neg e]
          by_cases e2 : u ∈ vs
          · rw [if_pos e2, if_pos (by simp [e2])]
          · rw [if_neg e2, if_neg (by simp [e2]; exact fun h => e h.symm)]
theorem made_filter {β : Type} (f : (Nat × Nat) → List β) [∀ v, Decidable (f v ≠ [])] : ∀ (vs : List (Nat × Nat)), ((vs.filter fun v => decide (f v ≠ [])).map fun v => (v, f v)) = vs.filterMap fun v => (nzo (f v)).map fun x => (v, x)
  | [] => rfl
  | v :: vs => by
    rw [List.filter_cons, List.filterMap_cons, ← made_filter f vs]
    by_cases e : f v = []
    · rw [if_neg (by simp [e]), e]; rfl
    · rw [if_pos (by simp [e]), nzo_ne e]; rfl
/-- ONE RECORD AFTER THE OTHER IS ALL OF THEM -/
theorem of_eq {v : (Nat × Nat)} {l : List R} (hv : V64 v) (h : ∀ r ∈ l, OkR r) : ofS v l = ofL v l := by
  have hw := wf_of hv h
  have hb : (ofS v l).books = (ofL v l).books := by
    have e : (ofL v l).books = (viewsL l).filterMap fun v => (nzo (bookL l v)).map fun x => (v, x) := made_filter (fun v => bookL l v) (viewsL l)
    obtain ⟨h1, h2, h3⟩ := lk_made (fun v => nzo (bookL l v)) (viewsL l) (views_sd l) (views_64 l)
    rw [e]
    refine sd_ext hw.ab h2 hw.sb h1 (fun u => ?_)
    rw [h3 u]
    have := fold_books l (wf_new hv) h u
    rw [show lk (newS v).books u = none from rfl] at this
    refine this.trans ?_
    show nzo (bookL l u) = _
    by_cases e2 : u ∈ viewsL l
    · rw [if_pos e2]
    · rw [if_neg e2]
      by_cases e3 : bookL l u = []
      · rw [e3]; rfl
      · obtain ⟨r, hr, hk, hu⟩ := bookL_ne e3
        exact absurd ((mem_views h u).2 ⟨r, hr, Or.inl hk, hu⟩) e2
  have hc : (ofS v l).cells = (ofL v l).cells := by
    have e : (ofL v l).cells = (viewsL l).filterMap fun v => (nzo (cellsL l v)).map fun x => (v, x) := made_filter (fun v => cellsL l v) (viewsL l)
    obtain ⟨h1, h2, h3⟩ := lk_made (fun v => nzo (cellsL l v)) (viewsL l) (views_sd l) (views_64 l)
    rw [e]
    refine sd_ext hw.ac h2 hw.sc h1 (fun u => ?_)
    rw [h3 u]
    have := fold_cells l (wf_new hv) h u
    rw [show lk (newS v).cells u = none from rfl] at this
    refine this.trans ?_
    show nzo (cellsL l u) = _
    by_cases e2 : u ∈ viewsL l
    · rw [if_pos e2]
    · rw [if_neg e2]
      by_cases e3 : cellsL l u = []
      · rw [e3]; rfl
      · obtain ⟨r, hr, hk, hu⟩ := cellsL_ne e3
        exact absurd ((mem_views h u).2 ⟨r, hr, Or.inr (Or.inl hk), hu⟩) e2
  have hi : (ofS v l).ints = (ofL v l).ints := by
    obtain ⟨h1, h2, h3⟩ := lk_made (fun v => intL l v) (viewsL l) (views_sd l) (views_64 l)
    refine sd_ext hw.ai h2 hw.si h1 (fun u => ?_)
    refine Eq.trans ?_ (h3 u).symm
    have := fold_ints l (wf_new hv) h u
    rw [show lk (newS v).ints u = none from rfl] at this
    refine this.trans ?_
    show intL l u = _
    by_cases e2 : u ∈ viewsL l
    · rw [if_pos e2]
    · rw [if_neg e2]
      cases e3 : intL l u with
      | none => rfl
      | some x =>
        obtain ⟨r, hr, hk, hx⟩ := intL_some e3
        exact absurd ((mem_views h u).2 ⟨r, hr, Or.inr (Or.inr hk.1), hk.2⟩) e2
  have h4 := fold_held l (newS v)
  have h5 := fold_inc l (newS v)
  have h6 := fold_last l (newS v)
  show ofS v l = ofL v l
  generalize hs : ofS v l = s at hb hc hi
  unfold ofS at hs
  rw [hs] at h4 h5 h6
  obtain ⟨b, c, i, hd, ic, lt⟩ := s
  simp only at hb hc hi h4 h5 h6
  subst hb hc hi h4 h5 h6
  rfl
end Go.Proofs.YtfblnomkafimhaaGreat.Fo

namespace Go.Proofs.YtfblnomkafimhaaGreat.Fo
set_option maxRecDepth 20000
open Chg Vw Cl Bk Lg

def bookS (s : St) (v : (Nat × Nat)) : List E := (lk s.books v).getD []
def cellsS (s : St) (v : (Nat × Nat)) : List C := (lk s.cells v).getD []
def intS (s : St) (v : (Nat × Nat)) : Option (Nat × Nat) := lk s.ints v
theorem bookS_book {s : St} (h : WfS s) (v : (Nat × Nat)) : isBook (bookS s v) = true ∧ ∀ e ∈ bookS s v, WfE e := by
  unfold bookS
  cases hl : lk s.books v with
  | none => exact ⟨rfl, by simp⟩
  | some b => exact ⟨(h.bk _ (lk_some hl)).1, (h.bk _ (lk_some hl)).2.2⟩
theorem cellsS_cl {s : St} (h : WfS s) (v : (Nat × Nat)) : isCl (cellsS s v) = true := by
  unfold cellsS
  cases hl : lk s.cells v with
  | none => rfl
  | some b => exact (h.cl _ (lk_some hl)).1
theorem bookS_apply {s : St} (h : WfS s) (r : R) (u : (Nat × Nat)) : bookS (applyS s r) u = if r.kind = 1 ∧ rvw r = u then merge (bookS s u) [r.e] else bookS s u := by
  unfold bookS
  rw [lk_books h]
  by_cases e : r.kind = 1 ∧ rvw r = u
  · rw [if_pos e, if_pos e]; rfl
  · rw [if_neg e, if_neg e]
theorem cellsS_apply {s : St} (h : WfS s) (r : R) (u : (Nat × Nat)) : cellsS (applyS s r) u = if r.kind = 2 ∧ rvw r = u then mergeC (cellsS s u) [rcell r] else cellsS s u := by
  unfold cellsS
  rw [lk_cells h]
  by_cases e : r.kind = 2 ∧ rvw r = u
  · rw [if_pos e, if_pos e]; rfl
  · rw [if_neg e, if_neg e]
theorem bookS_of {v : (Nat × Nat)} {l : List R} (hv : V64 v) (h : ∀ r ∈ l, OkR r) (u : (Nat × Nat)) : bookS (ofS v l) u = bookL l u := by
  unfold bookS ofS
  rw [fold_books l (wf_new hv) h u]
  show (nzo (bookL l u)).getD [] = bookL l u
  cases bookL l u <;> rfl
theorem cellsS_of {v : (Nat × Nat)} {l : List R} (hv : V64 v) (h : ∀ r ∈ l, OkR r) (u : (Nat × Nat)) : cellsS (ofS v l) u = cellsL l u := by
  unfold cellsS ofS
  rw [fold_cells l (wf_new hv) h u]
  show (nzo (cellsL l u)).getD [] = cellsL l u
  cases cellsL l u <;> rfl
theorem intS_of {v : (Nat × Nat)} {l : List R} (hv : V64 v) (h : ∀ r ∈ l, OkR r) (u : (Nat × Nat)) : intS (ofS v l) u = intL l u := by
  unfold intS ofS
  rw [fold_ints l (wf_new hv) h u]
  rfl
/-- states with the same parts are one -/
theorem st_ext {s t : St} (hs : WfS s) (ht : WfS t) (h1 : ∀ u, lk s.books u = lk t.books u) (h2 : ∀ u, lk s.cells u = lk t.cells u) (h3 : ∀ u, lk s.ints u = lk t.ints u) (h4 : s.held = t.held) (h5 : s.inc = t.inc) (h6 : s.last = t.last) : s = t := by
  have e1 := sd_ext hs.ab ht.ab hs.sb ht.sb h1
  have e2 := sd_ext hs.ac ht.ac hs.sc ht.sc h2
  have e3 := sd_ext hs.ai ht.ai hs.si ht.si h3
  obtain ⟨a1, a2, a3, a4, a5, a6⟩ := s
  obtain ⟨b1, b2, b3, b4, b5, b6⟩ := t
  simp only at e1 e2 e3 h4 h5 h6
  subst e1 e2 e3 h4 h5 h6
  rfl
/-! ### within -/
theorem w2_refl {u : (Nat × Nat)} (h : V64 u) : within2 u u = true := by unfold within2; rw [within_self h.1, within_self h.2]; rfl
theorem within_trN {a b c : Nat} (h1 : within a b = true) (h2 : within b c = true) : within a c = true := by
  rw [Chg.within_iff] at *
  rw [← h2, ← Nat.or_assoc, h1]
theorem within_as_all : ∀ a b : Fin 64, within a.1 b.1 = true → within b.1 a.1 = true → a = b := by decide +kernel
theorem w2_tr {u v x : (Nat × Nat)} (_ : V64 u) (_ : V64 v) (_ : V64 x) (h1 : within2 u v = true) (h2 : within2 v x = true) : within2 u x = true := by
  unfold within2 at *
  rw [Bool.and_eq_true] at *
  exact ⟨within_trN h1.1 h2.1, within_trN h1.2 h2.2⟩
theorem w2_as {u v : (Nat × Nat)} (hu : V64 u) (hv : V64 v) (h1 : within2 u v = true) (h2 : within2 v u = true) : u = v := by
  unfold within2 at *
  rw [Bool.and_eq_true] at *
  have e1 := congrArg Fin.val (within_as_all ⟨u.1, hu.1⟩ ⟨v.1, hv.1⟩ h1.1 h2.1)
  have e2 := congrArg Fin.val (within_as_all ⟨u.2, hu.2⟩ ⟨v.2, hv.2⟩ h1.2 h2.2)
  exact Prod.ext e1 e2
/-! ### nothing is less -/
structure Le (s t : St) : Prop where
  bk : ∀ u k, Tg.less (find (bookS t u) k).tag (find (bookS s u) k).tag = false
  cl : ∀ u k x, fnd (cellsS s u) k = some x → fnd (cellsS t u) k = some x
  it : ∀ u x, lk s.ints u = some x → lk t.ints u = some x
  hd : within2 s.held t.held = true
  ic : s.inc ≤ t.inc
  lt : s.last ≤ t.last
theorem tag_le_refl (t : Int × Int) : Tg.less t t = false := less_self t
theorem tag_le_tr {a b c : Int × Int} (h1 : Tg.less b a = false) (h2 : Tg.less c b = false) : Tg.less c a = false := by
  unfold Tg.less at *
  rw [decide_eq_false_iff_not] at *
  omega
theorem tag_merge (a b : List E) (ha : isBook a = true) (hb : isBook b = true) (k : Int) : Tg.less (find (merge a b) k).tag (find a k).tag = false ∧ Tg.less (find (merge a b) k).tag (find b k).tag = false := by
  rw [find_merge a b ha hb]
  unfold pick
  by_cases h : Tg.less (find a k).tag (find b k).tag = true
  · rw [if_pos h]
    refine ⟨?_, less_self _⟩
    unfold Tg.less at *
    rw [decide_eq_false_iff_not]
    have := of_decide_eq_true h
    omega
  · rw [if_neg h]
    exact ⟨less_self _, by rwa [Bool.not_eq_true] at h⟩
theorem le_refl {s : St} (h : WfS s) : Le s s := ⟨fun _ _ => less_self _, fun _ _ _ h => h, fun _ _ h => h, w2_refl h.hv, Int.le_refl _, Int.le_refl _⟩
theorem le_tr {s t u : St} (h1 : Le s t) (h2 : Le t u) (hs : WfS s) (ht : WfS t) (hu : WfS u) : Le s u :=
  ⟨fun v k => tag_le_tr (h1.bk v k) (h2.bk v k), fun v k x h => h2.cl v k x (h1.cl v k x h), fun v x h => h2.it v x (h1.it v x h), w2_tr hs.hv ht.hv hu.hv h1.hd h2.hd, Int.le_trans h1.ic h2.ic, Int.le_trans h1.lt h2.lt⟩
theorem le_apply {s : St} {r : R} (h : WfS s) (hr : OkR r) : Le s (applyS s r) := by
  obtain ⟨k1, k2, k3, _⟩ := okr hr
  refine ⟨fun u k => ?_, fun u k x hx => ?_, fun u x hx => ?_, ?_, ?_, ?_⟩
  · rw [bookS_apply h]
    by_cases e : r.kind = 1 ∧ rvw r = u
    · rw [if_pos e]; exact (tag_merge _ _ (bookS_book h u).1 (one_book (k1 e.1).2) k).1
    · rw [if_neg e]; exact less_self _
  · rw [cellsS_apply h]
    by_cases e : r.kind = 2 ∧ rvw r = u
    · rw [if_pos e, fnd_merge (cellsS_cl h u) (one_cl (k2 e.1).2), hx]; rfl
    · rw [if_neg e]; exact hx
  · rw [lk_ints h]
    by_cases e : r.kind = 5 ∧ rvw r = u
    · rw [if_pos e, hx]; rfl
    · rw [if_neg e]; exact hx
  · rw [held_apply]
    by_cases e : r.kind = 3 ∧ within2 s.held (rvw r) = true
    · rw [if_pos e]; exact e.2
    · rw [if_neg e]; exact w2_refl h.hv
  · rw [inc_apply]
    by_cases e : r.kind = 6 ∧ s.inc < r.n
    · rw [if_pos e]; omega
    · rw [if_neg e]; exact Int.le_refl _
  · rw [last_apply]
    by_cases e : r.kind = 4 ∧ s.last < r.n
    · rw [if_pos e]; omega
    · rw [if_neg e]; exact Int.le_refl _
theorem le_fold : ∀ (l : List R) {s : St}, WfS s → (∀ r ∈ l, OkR r) → Le s (l.foldl applyS s)
  | [], _, h, _ => le_refl h
  | r :: l, _, h, hr => le_tr (le_apply h (hr r (by simp))) (le_fold l (wf_apply h (hr r (by simp))) (fun x hx => hr x (by simp [hx]))) h (wf_apply h (hr r (by simp))) (wf_fold (r :: l) h hr)
theorem le_of {v : (Nat × Nat)} {l : List R} (hv : V64 v) (h : ∀ r ∈ l, OkR r) (k : Nat) : Le (ofS v (l.take k)) (ofS v l) := by
  have e : ofS v l = (l.drop k).foldl applyS (ofS v (l.take k)) := by
    unfold ofS
    rw [← List.foldl_append, List.take_append_drop]
  rw [e]
  exact le_fold _ (wf_of hv (fun r hr => h r (List.mem_of_mem_take hr))) (fun r hr => h r (List.mem_of_mem_drop hr))
theorem le_within {s t : St} (hs : WfS s) (ht : WfS t) (h : Le s t) (u : (Nat × Nat)) : Bk.within (bookS s u) (bookS t u) = true := (Bk.within_iff _ _ (bookS_book hs u).1 (bookS_book ht u).1).2 (fun k => h.bk u k)
theorem le_news {s t : St} (hs : WfS s) (h : Le s t) (u : (Nat × Nat)) : newsC (cellsS t u) (cellsS s u) = [] := by
  unfold newsC
  rw [List.filter_eq_nil_iff]
  intro x hx
  have h1 := fnd_mem (cellsS s u) (-1) (cellsS_cl hs u) x hx
  rw [hasC_some (h.cl u x.1 x h1)]
  simp
theorem le_clash {s t : St} (hs : WfS s) (h : Le s t) (u : (Nat × Nat)) : clashC (cellsS s u) (cellsS t u) = false :=
  (clashC_not (cellsS_cl hs u)).2 (fun k x y hx hy => by have := h.cl u k x hx; rw [this] at hy; exact Option.some.inj hy)
/-! ### the same log behind itself -/
def Has (s : St) (r : R) : Prop :=
  (r.kind = 1 → Tg.less (find (bookS s (rvw r)) r.e.key).tag r.e.tag = false) ∧ (r.kind = 2 → ∃ x, fnd (cellsS s (rvw r)) r.cn = some x) ∧ (r.kind = 3 → within2 s.held (rvw r) = true → rvw r = s.held) ∧
  (r.kind = 4 → r.n ≤ s.last) ∧ (r.kind = 5 → ∃ x, lk s.ints (rvw r) = some x) ∧ (r.kind = 6 → r.n ≤ s.inc)
theorem find_one (e : E) (k : Int) : find [e] k = if e.key = k then e else zero k := find_cons e [] k
theorem tag_nn {s : List E} (h : isBook s = true) (k : Int) : Tg.less (find s k).tag (0, 0) = false := by
  rcases find_tag s h k with h | h
  · show decide _ = false
    rw [decide_eq_false_iff_not]
    show ¬ ((find s k).num < 0 ∨ (find s k).num = 0 ∧ (find s k).node < 0)
    omega
  · show decide _ = false
    rw [decide_eq_false_iff_not]
    show ¬ ((find s k).num < 0 ∨ (find s k).num = 0 ∧ (find s k).node < 0)
    omega
theorem merge_in {b : List E} {e : E} (hb : isBook b = true) (he : okE e = true) (h : Tg.less (find b e.key).tag e.tag = false) : merge b [e] = b := by
  refine book_ext _ _ (-1) (merge_book b [e] hb (one_book he)) hb (fun k => ?_)
  rw [find_merge b [e] hb (one_book he)]
  unfold pick
  rw [find_one]
  by_cases hk : e.key = k
  · rw [if_pos hk, ← hk, h]; rfl
  · rw [if_neg hk, show (zero k).tag = (0, 0) from rfl, tag_nn hb]; rfl
theorem mergeC_in {b : List C} {c x : C} (hb : isCl b = true) (hc : okC c = true) (h : fnd b c.1 = some x) : mergeC b [c] = b := by
  refine cl_ext _ _ (-1) (merge_cl hb (one_cl hc)) hb (fun k => ?_)
  rw [fnd_merge hb (one_cl hc), fnd_cons]
  by_cases hk : c.1 = k
  · rw [← hk, h]; rfl
  · rw [if_neg hk]
    show (fnd b k).or none = fnd b k
    cases fnd b k <;> rfl
theorem has_in {s : St} {r : R} (h : WfS s) (hr : OkR r) (hh : Has s r) : applyS s r = s := by
  obtain ⟨k1, k2, k3, k5, k46, _⟩ := okr hr
  obtain ⟨h1, h2, h3, h4, h5, h6⟩ := hh
  refine st_ext (wf_apply h hr) h (fun u => ?_) (fun u => ?_) (fun u => ?_) ?_ ?_ ?_
  · rw [lk_books h]
    by_cases e : r.kind = 1 ∧ rvw r = u
    · rw [if_pos e]
      obtain ⟨e1, rfl⟩ := e
      have hm := merge_in (bookS_book h (rvw r)).1 (k1 e1).2 (h1 e1)
      unfold oneB
      unfold bookS at hm
      rw [hm]
      cases hl : lk s.books (rvw r) with
      | some b => rfl
      | none =>
        rw [hl] at hm
        exact absurd hm (merge_ne rfl (k1 e1).2)
    · rw [if_neg e]
  · rw [lk_cells h]
    by_cases e : r.kind = 2 ∧ rvw r = u
    · rw [if_pos e]
      obtain ⟨e1, rfl⟩ := e
      obtain ⟨x, hx⟩ := h2 e1
      have hm := mergeC_in (cellsS_cl h (rvw r)) (k2 e1).2 (c := rcell r) hx
      unfold oneC
      unfold cellsS at hm
      rw [hm]
      cases hl : lk s.cells (rvw r) with
      | some b => rfl
      | none =>
        rw [hl] at hm
        exact absurd hm (mergeC_ne rfl (k2 e1).2)
    · rw [if_neg e]
  · rw [lk_ints h]
    by_cases e : r.kind = 5 ∧ rvw r = u
    · rw [if_pos e]
      obtain ⟨e1, rfl⟩ := e
      obtain ⟨x, hx⟩ := h5 e1
      rw [hx]; rfl
    · rw [if_neg e]
  · rw [held_apply]
    by_cases e : r.kind = 3 ∧ within2 s.held (rvw r) = true
    · rw [if_pos e]; exact h3 e.1 e.2
    · rw [if_neg e]
  · rw [inc_apply, if_neg (fun e => by have := h6 e.1; omega)]
  · rw [last_apply, if_neg (fun e => by have := h4 e.1; omega)]
theorem has_apply {s : St} {r : R} (h : WfS s) (hr : OkR r) : Has (applyS s r) r := by
  obtain ⟨k1, k2, k3, k5, k46, _⟩ := okr hr
  refine ⟨fun e => ?_, fun e => ?_, fun e hw => ?_, fun e => ?_, fun e => ?_, fun e => ?_⟩
  · rw [bookS_apply h, if_pos ⟨e, rfl⟩]
    have := (tag_merge _ _ (bookS_book h (rvw r)).1 (one_book (k1 e).2) r.e.key).2
    rwa [find_one, if_pos rfl] at this
  · rw [cellsS_apply h, if_pos ⟨e, rfl⟩, fnd_merge (cellsS_cl h _) (one_cl (k2 e).2), fnd_cons, if_pos (show (rcell r).1 = r.cn from rfl)]
    cases fnd (cellsS s (rvw r)) r.cn with
    | none => exact ⟨_, rfl⟩
    | some x => exact ⟨_, rfl⟩
  · rw [held_apply] at hw ⊢
    by_cases e2 : r.kind = 3 ∧ within2 s.held (rvw r) = true
    · rw [if_pos e2]
    · rw [if_neg e2] at hw
      exact absurd ⟨e, hw⟩ e2
  · rw [last_apply]
    by_cases e2 : r.kind = 4 ∧ s.last < r.n
    · rw [if_pos e2]; exact Int.le_refl _
    · rw [if_neg e2]
      by_cases h3 : s.last < r.n
      · exact absurd ⟨e, h3⟩ e2
      · omega
  · rw [lk_ints h, if_pos ⟨e, rfl⟩]
    exact ⟨_, rfl⟩
  · rw [inc_apply]
    by_cases e2 : r.kind = 6 ∧ s.inc < r.n
    · rw [if_pos e2]; exact Int.le_refl _
    · rw [if_neg e2]
      by_cases h3 : s.inc < r.n
      · exact absurd ⟨e, h3⟩ e2
      · omega
theorem has_le {s t : St} {r : R} (hs : WfS s) (ht : WfS t) (hr : OkR r) (hle : Le s t) (h : Has s r) : Has t r := by
  obtain ⟨_, _, k3, _⟩ := okr hr
  obtain ⟨h1, h2, h3, h4, h5, h6⟩ := h
  refine ⟨fun e => tag_le_tr (h1 e) (hle.bk _ _), fun e => ?_, fun e hw => ?_, fun e => Int.le_trans (h4 e) hle.lt, fun e => ?_, fun e => Int.le_trans (h6 e) hle.ic⟩
  · obtain ⟨x, hx⟩ := h2 e
    exact ⟨x, hle.cl _ _ _ hx⟩
  · have h7 := h3 e (w2_tr hs.hv ht.hv (k3 e) hle.hd hw)
    rw [h7] at hw ⊢
    exact w2_as hs.hv ht.hv hle.hd hw
  · obtain ⟨x, hx⟩ := h5 e
    exact ⟨x, hle.it _ _ hx⟩
theorem has_all : ∀ (l : List R) {s : St}, WfS s → (∀ r ∈ l, OkR r) → ∀ r ∈ l, Has (l.foldl applyS s) r
  | x :: l, s, h, hr, r, hm => by
    have hx := hr x (by simp)
    have hw := wf_apply h hx
    have hl : ∀ r ∈ l, OkR r := fun y hy => hr y (by simp [hy])
    rcases List.mem_cons.1 hm with rfl | hm
    · exact has_le hw (wf_fold l hw hl) hx (le_fold l hw hl) (has_apply h hx)
    · exact has_all l hw hl r hm
theorem fold_in : ∀ (l : List R) {s : St}, WfS s → (∀ r ∈ l, OkR r ∧ Has s r) → l.foldl applyS s = s
  | [], _, _, _ => rfl
  | r :: l, s, h, hr => by
    have := hr r (by simp)
    rw [List.foldl_cons, has_in h this.1 this.2]
    exact fold_in l h (fun x hx => hr x (by simp [hx]))
/-- THE SAME LOG BEHIND ITSELF -/
theorem twice {v : (Nat × Nat)} {l : List R} (hv : V64 v) (h : ∀ r ∈ l, OkR r) : l.foldl applyS (ofS v l) = ofS v l :=
  fold_in l (wf_of hv h) (fun r hr => ⟨h r hr, has_all l (wf_new hv) h r hr⟩)
/-- EITHER WAY -/
theorem turns {s : St} {a b : R} (h : WfS s) (ha : OkR a) (hb : OkR b) (hne : a.kind ≠ b.kind ∨ (rvw a ≠ rvw b ∧ (a.kind = 1 ∨ a.kind = 2 ∨ a.kind = 5))) : applyS (applyS s a) b = applyS (applyS s b) a := by
  have wa := wf_apply h ha
  have wb := wf_apply h hb
  refine st_ext (wf_apply wa hb) (wf_apply wb ha) (fun u => ?_) (fun u => ?_) (fun u => ?_) ?_ ?_ ?_
  · rw [lk_books wa, lk_books wb, lk_books h, lk_books h]
    by_cases e1 : a.kind = 1 ∧ rvw a = u
    · by_cases e2 : b.kind = 1 ∧ rvw b = u
      · exfalso
        rcases hne with h1 | h1
        · exact h1 (e1.1.trans e2.1.symm)
        · exact h1.1 (e1.2.trans e2.2.symm)
      · simp only [if_pos e1, if_neg e2]
    · by_cases e2 : b.kind = 1 ∧ rvw b = u
      · simp only [if_neg e1, if_pos e2]
      · simp only [if_neg e1, if_neg e2]
  · rw [lk_cells wa, lk_cells wb, lk_cells h, lk_cells h]
    by_cases e1 : a.kind = 2 ∧ rvw a = u
    · by_cases e2 : b.kind = 2 ∧ rvw b = u
      · exfalso
        rcases hne with h1 | h1
        · exact h1 (e1.1.trans e2.1.symm)
        · exact h1.1 (e1.2.trans e2.2.symm)
      · simp only [if_pos e1, if_neg e2]
    · by_cases e2 : b.kind = 2 ∧ rvw b = u
      · simp only [if_neg e1, if_pos e2]
      · simp only [if_neg e1, if_neg e2]
  · rw [lk_ints wa, lk_ints wb, lk_ints h, lk_ints h]
    by_cases e1 : a.kind = 5 ∧ rvw a = u
    · by_cases e2 : b.kind = 5 ∧ rvw b = u
      · exfalso
        rcases hne with h1 | h1
        · exact h1 (e1.1.trans e2.1.symm)
        · exact h1.1 (e1.2.trans e2.2.symm)
      · simp only [if_pos e1, if_neg e2]
    · by_cases e2 : b.kind = 5 ∧ rvw b = u
      · simp only [if_neg e1, if_pos e2]
      · simp only [if_neg e1, if_neg e2]
  · rw [held_apply, held_apply s a, held_apply (applyS s b), held_apply s b]
    by_cases e1 : a.kind = 3
    · have e2 : ¬ b.kind = 3 := fun e2 => by rcases hne with h1 | h1 <;> omega
      simp only [e2, false_and, if_false]
    · simp only [e1, false_and, if_false]
  · rw [inc_apply, inc_apply s a, inc_apply (applyS s b), inc_apply s b]
    by_cases e1 : a.kind = 6
    · have e2 : ¬ b.kind = 6 := fun e2 => by rcases hne with h1 | h1 <;> omega
      simp only [e2, false_and, if_false]
    · simp only [e1, false_and, if_false]
  · rw [last_apply, last_apply s a, last_apply (applyS s b), last_apply s b]
    by_cases e1 : a.kind = 4
    · have e2 : ¬ b.kind = 4 := fun e2 => by rcases hne with h1 | h1 <;> omega
      simp only [e2, false_and, if_false]
    · simp only [e1, false_and, if_false]
end Go.Proofs.YtfblnomkafimhaaGreat.Fo
