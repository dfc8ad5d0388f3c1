/- Layer 7, plain: entries and books (no program here). -/
import Derived.Test.YtjcpdhekilkhgaaTgP
import Derived.Test.YtjcpdhekilkhgaaNumP
namespace Go.Proofs.Ytjcpdhekilkhgaa.Bk
open Tg

structure E where
  key : Int
  num : Int
  node : Int
  val : Nat
def E.tag (e : E) : Int × Int := (e.num, e.node)
def zero (k : Int) : E := ⟨k, 0, 0, 0⟩
/-- what comes in -/
def WfE (e : E) : Prop := I64 e.key ∧ I64 e.num ∧ I64 e.node ∧ Flt.U64 e.val
def okE (e : E) : Bool := decide (0 ≤ e.key ∧ e.key ≤ 3) && (right e.num e.node && decide (e.num ≠ 0))
/-- a book behind a key -/
def chk (last : Int) : List E → Bool
  | [] => true
  | x :: l => (okE x && decide (last < x.key)) && chk x.key l
def isBook (l : List E) : Bool := chk (-1) l
def find (l : List E) (k : Int) : E := (l.find? fun x => x.key == k).getD (zero k)
def pick (a b : List E) (k : Int) : E := if less (find a k).tag (find b k).tag then find b k else find a k
/-- the first k keys of two merged -/
def mergeK (a b : List E) : Nat → List E
  | 0 => []
  | k + 1 => mergeK a b k ++ if (pick a b k).tag = (0, 0) then [] else [pick a b k]
def merge (a b : List E) : List E := mergeK a b 4
def isNew (old : List E) (x : E) : Bool := less (find old x.key).tag x.tag
def news (old l : List E) : List E := l.filter (isNew old)
def within (a b : List E) : Bool := a.all fun x => !isNew b x
def alike (x y : E) : Bool := decide (x.key = y.key) && (decide (x.num = y.num ∧ x.node = y.node) && decide (Flt.clean x.val = Flt.clean y.val))
def same : List E → List E → Bool
  | [], [] => true
  | x :: a, y :: b => alike x y && same a b
  | _, _ => false
theorem alike_iff (x y : E) : alike x y = true ↔ x.key = y.key ∧ x.num = y.num ∧ x.node = y.node ∧ Flt.clean x.val = Flt.clean y.val := by
  unfold alike
  simp only [Bool.and_eq_true, decide_eq_true_eq]
  omega
theorem alike_refl (x : E) : alike x x = true := (alike_iff x x).2 ⟨rfl, rfl, rfl, rfl⟩
theorem alike_symm {x y : E} (h : alike x y = true) : alike y x = true := by
  rw [alike_iff] at h ⊢
  exact ⟨h.1.symm, h.2.1.symm, h.2.2.1.symm, h.2.2.2.symm⟩
theorem alike_trans {x y z : E} (h : alike x y = true) (k : alike y z = true) : alike x z = true := by
  rw [alike_iff] at h k ⊢
  exact ⟨h.1.trans k.1, h.2.1.trans k.2.1, h.2.2.1.trans k.2.2.1, h.2.2.2.trans k.2.2.2⟩
theorem same_refl : ∀ l : List E, same l l = true
  | [] => rfl
  | x :: l => by unfold same; rw [alike_refl, same_refl l]; rfl
theorem same_len : ∀ {a b : List E}, same a b = true → a.length = b.length
  | [], [], _ => rfl
  | [], _ :: _, h => by simp [same] at h
  | _ :: _, [], h => by simp [same] at h
  | x :: a, y :: b, h => by
    unfold same at h
    rw [Bool.and_eq_true] at h
    rw [List.length_cons, List.length_cons, same_len h.2]
/-- one by one -/
theorem same_iff : ∀ (a b : List E), same a b = true ↔ a.length = b.length ∧ ∀ (i : Nat) x y, a[i]? = some x → b[i]? = some y → alike x y = true
  | [], [] => by simp [same]
  | [], _ :: _ => by simp [same]
  | _ :: _, [] => by simp [same]
  | x :: a, y :: b => by
    unfold same
    rw [Bool.and_eq_true, same_iff a b, List.length_cons, List.length_cons]
    constructor
    · rintro ⟨h1, h2, h3⟩
      refine ⟨by omega, fun i u v hu hv => ?_⟩
      cases i with
      | zero => simp at hu hv; subst hu; subst hv; exact h1
      | succ i => exact h3 i u v (by simpa using hu) (by simpa using hv)
    · rintro ⟨h1, h2⟩
      exact ⟨h2 0 x y rfl rfl, by omega, fun i u v hu hv => h2 (i + 1) u v (by simpa using hu) (by simpa using hv)⟩
theorem chk_mem : ∀ (l : List E) (last : Int), chk last l = true → ∀ x ∈ l, okE x = true ∧ last < x.key
  | [], _, _, x, hx => by cases hx
  | y :: l, last, h, x, hx => by
    unfold chk at h
    rw [Bool.and_eq_true, Bool.and_eq_true, decide_eq_true_iff] at h
    rcases List.mem_cons.1 hx with rfl | hx
    · exact ⟨h.1.1, h.1.2⟩
    · have := chk_mem l y.key h.2 x hx
      exact ⟨this.1, by omega⟩
/-- in a book a key is found where it stands -/
theorem find_of_mem : ∀ (l : List E) (last : Int), chk last l = true → ∀ x ∈ l, find l x.key = x
  | [], _, _, x, hx => by cases hx
  | y :: l, last, h, x, hx => by
    have hc := h
    unfold chk at h
    rw [Bool.and_eq_true, Bool.and_eq_true] at h
    rcases List.mem_cons.1 hx with rfl | hx
    · unfold find; simp
    · have h2 := (chk_mem l y.key h.2 x hx).2
      have ih := find_of_mem l y.key h.2 x hx
      unfold find at ih ⊢
      rw [List.find?_cons_of_neg (by simp; omega)]
      exact ih
theorem find_key (l : List E) (k : Int) : (find l k).key = k := by
  unfold find
  cases h : l.find? fun x => x.key == k with
  | none => rfl
  | some x => simpa using List.find?_some h
theorem find_in (l : List E) (k : Int) : find l k ∈ l ∨ find l k = zero k := by
  unfold find
  cases h : l.find? fun x => x.key == k with
  | none => exact Or.inr rfl
  | some x => exact Or.inl (List.mem_of_find?_eq_some h)
end Go.Proofs.Ytjcpdhekilkhgaa.Bk
