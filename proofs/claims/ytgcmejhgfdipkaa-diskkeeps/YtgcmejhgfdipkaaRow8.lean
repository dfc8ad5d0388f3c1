/- Slices of bytes: a row of the call's own, an append onto it, a copy, bytes.Clone, a slice of bytes as a string. -/
import Derived.Test.YtgcmejhgfdipkaaMem
import Derived.BigQuiet
import Derived.Deep.QuietTactic
import Derived.WalkSpells
import Derived.Lib.SlBytesConst
namespace Go.Proofs.Ytgcmejhgfdipkaa
open Go.RowKit

theorem info8 : (Try.prog.info? 5).map (fun i => (i.zero, i.size, i.bytes)) = some (some (.int .u8 0), 1, 1) := by kernel_rfl

theorem size8 (w : World) : (sizeOf 5).run Try.prog w = .ok 1 w := by
  obtain ⟨i0, hi, hz0, hz1, hz2⟩ := info_parts info8
  simp [sizeOf, typeInfo, hi, hz1]
theorem below_drewN (B : Nat) (w : World) (k : Nat) : Below B w (w.drewN k) := ⟨rfl, rfl, rfl, Nat.le_refl _, fun _ _ => rfl⟩
/-- a cut from k on, its length given -/
theorem run_from' {P : Program} {t e : TypeId} (ht : P.underlying t = some (.slice e)) (hs : ∀ w, (sizeOf e).run P w = .ok 1 w) (A : Option Addr) (n c k r : Nat) (j : Int) (q : IntKind) (hj : j = (k : Int)) (hk : k ≤ n) (hc : n ≤ c) (hr : n - k = r) :
    ∃ A' c', (∀ w, (Instr.slice t (.slice A n c) (some (.int q j)) none none).run P w = .ok (.slice A' r c') w) ∧ ∀ w B xs, xs.length = n → Rd w B A xs → Rd w B A' (xs.drop k) := by
  obtain ⟨A', h1, h2⟩ := run_from ht hs A n c k j q hj hk hc
  exact ⟨A', c - k, by rw [← hr]; exact h1, h2⟩

/-- the most bytes that an append grows to -/
def big : Nat := 140737488355328
/-- the slice A holds the bytes bs, in a row of the call's own from block base on -/
def Own (w : World) (base : Nat) (A : Option Addr) (n c : Nat) (bs : List UInt8) : Prop := n = bs.length ∧ w.ownsRow base 5 1 (.slice A n c) n (bs.map B8)
/-- it returns a slice of its own with the bytes bs; below base nothing has turned -/
def RetOwn (w : World) (base : Nat) (bs : List UInt8) (e : Ending) (w' : World) : Prop :=
  ∃ A n c, e = .returned (.slice A n c) ∧ Own w' base A n c bs ∧ Below base w w'
theorem Own.rd {w : World} {base : Nat} {A : Option Addr} {n c : Nat} {bs : List UInt8} (h : Own w base A n c bs) : Rd w w.heap.size A (bs.map B8) := Rd.of_own h.2
theorem Own.cap {w : World} {base : Nat} {A : Option Addr} {n c : Nat} {bs : List UInt8} (h : Own w base A n c bs) : n ≤ c := by
  obtain ⟨A', c', e, h1, _⟩ := own_slice h.2
  injection e with e1 e2 e3
  omega
theorem Own.below {w w' : World} {base B : Nat} {A : Option Addr} {n c : Nat} {bs : List UInt8} (h : Own w base A n c bs) (hb : Below B w w') (hB : w.heap.size ≤ B) : Own w' base A n c bs := ⟨h.1, own_below h.2 hb hB⟩
theorem Own.base {w : World} {base base' : Nat} {A : Option Addr} {n c : Nat} {bs : List UInt8} (h : Own w base A n c bs) (hB : base' ≤ base) : Own w base' A n c bs := ⟨h.1, own_base h.2 hB⟩
theorem Own.alloc {w : World} {base : Nat} {A : Option Addr} {n c : Nat} {bs : List UInt8} (h : Own w base A n c bs) (o : Obj) : Own (w.alloc o) base A n c bs := ⟨h.1, h.2.alloc o⟩
theorem Own.len {w : World} {base : Nat} {A : Option Addr} {n n' c : Nat} {bs : List UInt8} (h : Own w base A n c bs) (e : n = n') : Own w base A n' c bs := e ▸ h
theorem own_new (w : World) (base : Nat) (bs : List UInt8) (hb : base ≤ w.heap.size) (hm : bs.length ≤ maxLen) : Own (w.alloc (.cells (bs.map B8).toArray 5)) base (some ⟨w.heap.size, 0, none⟩) bs.length bs.length bs :=
  ⟨rfl, by have := own_lit w base 5 (bs.map B8) hb (by simpa using hm); simpa using this⟩
theorem own_at (w : World) (base g : Nat) (bs : List UInt8) (hg : g = w.heap.size) (hb : base ≤ w.heap.size) (hm : bs.length ≤ maxLen) : Own (w.alloc (.cells (bs.map B8).toArray 5)) base (some ⟨g, 0, none⟩) bs.length bs.length bs := by
  subst hg
  exact own_new w base bs hb hm
theorem own_none (w : World) (base : Nat) : Own w base none 0 0 [] := ⟨rfl, World.ownsRow_nil _ _ _ _⟩
theorem rd_new (w : World) (xs : List Value) : Rd (w.alloc (.cells xs.toArray 5)) (w.heap.size + 1) (some ⟨w.heap.size, 0, none⟩) xs := by
  intro _
  refine ⟨_, _, rfl, by omega, fun j u hu => ?_⟩
  rw [cell_of_row _ _ _ _ _ _ (heap_alloc_new w _)]
  simpa using hu

/-- a row of a constant text bears a mark behind its last cell -/
theorem rd_mark (w : World) (xs : List Value) (m : Nat × Nat) : Rd (w.alloc (.cells xs.toArray 5 m)) (w.heap.size + 1) (some ⟨w.heap.size, 0, none⟩) xs := by
  intro _
  refine ⟨_, _, rfl, by omega, fun j u hu => ?_⟩
  rw [cell_of_row _ _ _ _ _ _ (heap_alloc_new w _)]
  simpa using hu
theorem text_const (w : World) (C : Array Value) (n c : Nat) : (convert 27 27 (.slice (some ⟨w.heap.size, 0, none⟩) n c)).run Try.prog (w.alloc (.cells C 5)) = .ok (.slice (some ⟨w.heap.size, 0, none⟩) n c) (w.alloc (.cells C 5 (C.size, C.size + 1))) :=
  Lib.run_convert_bytes_const (P := Try.prog) w 27 5 C n c Try.underlying27 Try.underlying5

theorem rd_one (w : World) (v : Int) (x : UInt8) (h : v = (x.toNat : Int)) : Rd (w.alloc (.cells #[.int .u8 v] 5)) (w.heap.size + 1) (some ⟨w.heap.size, 0, none⟩) ([x].map B8) := by
  subst h
  exact rd_new w ([x].map B8)

theorem op_app8 {w : World} {o : Oper} {a : Act} {K : Act → World → Prop} {Q : Exit → Act → World → Prop} (s x : Operand)
    (ho : o.op = .call { callee := .builtin .append, args := #[s, x], argTypes := #[27, 27] })
    (base : Nat) (A0 : Option Addr) (n0 c0 : Nat) (bs0 : List UInt8) (hs : a.eval s = .slice A0 n0 c0) (hown : Own w base A0 n0 c0 bs0)
    (B : Nat) (A : Option Addr) (m c : Nat) (news : List UInt8) (hx : a.eval x = .slice A m c) (hm : m = news.length) (hr : Rd w B A (news.map B8))
    (hb : n0 + m ≤ big) (hbase : base ≤ w.heap.size)
    (h : ∀ A' c' w', Own w' base A' (n0 + m) c' (bs0 ++ news) → Below base w w' → K (a.put o.dst (.slice A' (n0 + m) c')) w') : o.wp Try.prog a w K Q := by
  obtain ⟨i0, hi, hz0, hz1, hz2⟩ := info_parts info8
  refine op_app s x 27 ho base 5 i0 (.int .u8 0) 1 Try.underlying27 hi hz0 hz1 hz2 rfl (.slice A0 n0 c0) n0 (bs0.map B8) hs hown.2 B A m c (news.map B8) hx (by simpa using hm) hr (B8_one news)
    (by unfold big at hb; unfold maxLen; omega) (by unfold big at hb; omega) hbase fun A' c' w' h1 h2 _ => h A' c' w' ⟨?_, ?_⟩ h2
  · rw [List.length_append, hown.1, hm]
  · rw [List.map_append]; exact h1
theorem wp_app8 {w : World} {ops : Array Oper} {rest : List Oper} {o : Oper} {a : Act} {Q : Exit → Act → World → Prop} (hgd : o.guard = none) (s x : Operand)
    (ho : o.op = .call { callee := .builtin .append, args := #[s, x], argTypes := #[27, 27] })
    (base : Nat) (A0 : Option Addr) (n0 c0 : Nat) (bs0 : List UInt8) (hs : a.eval s = .slice A0 n0 c0) (hown : Own w base A0 n0 c0 bs0)
    (B : Nat) (A : Option Addr) (m c : Nat) (news : List UInt8) (hx : a.eval x = .slice A m c) (hm : m = news.length) (hr : Rd w B A (news.map B8))
    (hb : n0 + m ≤ big) (hbase : base ≤ w.heap.size)
    (h : ∀ A' c' w', Own w' base A' (n0 + m) c' (bs0 ++ news) → Below base w w' → wpList Try.prog ops Q rest (a.put o.dst (.slice A' (n0 + m) c')) w') : wpList Try.prog ops Q (o :: rest) a w :=
  wpList_plain hgd fun _ hK => op_app8 s x ho base A0 n0 c0 bs0 hs hown B A m c news hx hm hr hb hbase fun A' c' w' h1 h2 => hK _ _ (h A' c' w' h1 h2)

theorem ret_int {k : IntKind} {a b : Int} (h : a = b) : Ending.returned (.int k a) = .returned (.int k b) := by rw [h]

/-- append([]byte{}, x...): a copy -/
theorem op_copy8 {o : Oper} {a : Act} {K : Act → World → Prop} {Q : Exit → Act → World → Prop} (s x : Operand)
    (ho : o.op = .call { callee := .builtin .append, args := #[s, x], argTypes := #[27, 27] })
    (w0 : World) (hs : a.eval s = .slice (some ⟨w0.heap.size, 0, none⟩) 0 0)
    (B : Nat) (A : Option Addr) (m c : Nat) (news : List UInt8) (hx : a.eval x = .slice A m c) (hm : m = news.length) (hr : Rd w0 B A (news.map B8)) (hB : B ≤ w0.heap.size) (hb : m ≤ big)
    (h : ∀ A' c' w', Own w' w0.heap.size A' m c' news → Below w0.heap.size w0 w' → K (a.put o.dst (.slice A' m c')) w') : o.wp Try.prog a (w0.alloc (.cells #[] 5)) K Q := by
  refine op_app8 s x ho w0.heap.size _ 0 0 [] hs (own_new w0 _ [] (Nat.le_refl _) (by simp)) B A m c news hx hm (hr.below ((Below.refl _ _).alloc hB _)) (by omega) (by simp) fun A' c' w' h1 h2 => ?_
  rw [Nat.zero_add] at h1 ⊢
  exact h A' c' w' h1 (((Below.refl _ _).alloc (Nat.le_refl _) _).trans h2)
theorem wp_copy8 {ops : Array Oper} {rest : List Oper} {o : Oper} {a : Act} {Q : Exit → Act → World → Prop} (hgd : o.guard = none) (s x : Operand)
    (ho : o.op = .call { callee := .builtin .append, args := #[s, x], argTypes := #[27, 27] })
    (w0 : World) (hs : a.eval s = .slice (some ⟨w0.heap.size, 0, none⟩) 0 0)
    (B : Nat) (A : Option Addr) (m c : Nat) (news : List UInt8) (hx : a.eval x = .slice A m c) (hm : m = news.length) (hr : Rd w0 B A (news.map B8)) (hB : B ≤ w0.heap.size) (hb : m ≤ big)
    (h : ∀ A' c' w', Own w' w0.heap.size A' m c' news → Below w0.heap.size w0 w' → wpList Try.prog ops Q rest (a.put o.dst (.slice A' m c')) w') : wpList Try.prog ops Q (o :: rest) a (w0.alloc (.cells #[] 5)) :=
  wpList_plain hgd fun _ hK => op_copy8 s x ho w0 hs B A m c news hx hm hr hB hb fun A' c' w' h1 h2 => hK _ _ (h A' c' w' h1 h2)
/-- the same, guarded, where the guard says yes -/
theorem wp_copy8_g {ops : Array Oper} {rest : List Oper} {o : Oper} {a : Act} {Q : Exit → Act → World → Prop} (hgd : Region.wanted o (yielded ops a.tmps) = true) (s x : Operand)
    (ho : o.op = .call { callee := .builtin .append, args := #[s, x], argTypes := #[27, 27] })
    (w0 : World) (hs : a.eval s = .slice (some ⟨w0.heap.size, 0, none⟩) 0 0)
    (B : Nat) (A : Option Addr) (m c : Nat) (news : List UInt8) (hx : a.eval x = .slice A m c) (hm : m = news.length) (hr : Rd w0 B A (news.map B8)) (hB : B ≤ w0.heap.size) (hb : m ≤ big)
    (h : ∀ A' c' w', Own w' w0.heap.size A' m c' news → Below w0.heap.size w0 w' → wpList Try.prog ops Q rest (a.put o.dst (.slice A' m c')) w') : wpList Try.prog ops Q (o :: rest) a (w0.alloc (.cells #[] 5)) :=
  BigFrame.wpList_want hgd fun _ hK => op_copy8 s x ho w0 hs B A m c news hx hm hr hB hb fun A' c' w' h1 h2 => hK _ _ (h A' c' w' h1 h2)

/-- a slice of bytes as a string, in every world behind which it is read -/
theorem str8 {w : World} {B : Nat} {A : Option Addr} {n : Nat} (c : Nat) {bs : List UInt8} (hr : Rd w B A (bs.map B8)) (hn : n = bs.length) (q : Nat) : (convert 27 9 (.slice A n c)).run Try.prog (w.drewN q) = .ok (.string (str bs)) (w.drewN q) :=
  run_str (P := Try.prog) Try.underlying27 Try.underlying5 Try.underlying9 (hr.drewN q) hn
theorem str8' {w : World} {B : Nat} {A : Option Addr} {n : Nat} (c : Nat) {bs : List UInt8} (hr : Rd w B A (bs.map B8)) (hn : n = bs.length) : (convert 27 9 (.slice A n c)).run Try.prog w = .ok (.string (str bs)) w :=
  run_str (P := Try.prog) Try.underlying27 Try.underlying5 Try.underlying9 hr hn
end Go.Proofs.Ytgcmejhgfdipkaa
