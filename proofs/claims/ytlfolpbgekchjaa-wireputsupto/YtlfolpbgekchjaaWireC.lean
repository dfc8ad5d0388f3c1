/- What the functions of package wire answer: contracts by walks. -/
import Derived.Test.YtlfolpbgekchjaaMem
import Derived.Test.YtlfolpbgekchjaaWireP
import Derived.BigQuiet
import Derived.Deep.QuietTactic
import Derived.WalkSpells
namespace Go.Proofs.Ytlfolpbgekchjaa
open Go.RowKit
open Wire

theorem info8 : (Try.prog.info? 5).map (fun i => (i.zero, i.size, i.bytes)) = some (some (.int .u8 0), 1, 1) := by kernel_rfl
theorem info64 : (Try.prog.info? 22).map (fun i => (i.zero, i.size, i.bytes)) = some (some (.int .u64 0), 1, 8) := by kernel_rfl

/-- the most bytes that an append grows to -/
def big : Nat := 140737488355328
/-- the slice A holds the bytes bs, in a row of the call's own from block base on -/
def Own (w : World) (base : Nat) (A : Option Addr) (n c : Nat) (bs : List UInt8) : Prop := n = bs.length ∧ w.ownsRow base 5 1 (.slice A n c) n (bs.map B8)
/-- it returns a slice of its own with the bytes bs; below base nothing has turned -/
def RetOwn (w : World) (base : Nat) (bs : List UInt8) (e : Ending) (w' : World) : Prop :=
  ∃ A n c, e = .returned (.slice A n c) ∧ Own w' base A n c bs ∧ Below base w w'
theorem Own.rd {w : World} {base : Nat} {A : Option Addr} {n c : Nat} {bs : List UInt8} (h : Own w base A n c bs) : Rd w w.heap.size A (bs.map B8) := Rd.of_own h.2
theorem Own.cap {w : World} {base : Nat} {A : Option Addr} {n c : Nat} {bs : List UInt8} (h : Own w base A n c bs) : n ≤ c := by
  obtain ⟨A', c', e, h1, _⟩ := own_slice h.2
  injection e with e1 e2 e3
  omega
theorem Own.below {w w' : World} {base B : Nat} {A : Option Addr} {n c : Nat} {bs : List UInt8} (h : Own w base A n c bs) (hb : Below B w w') (hB : w.heap.size ≤ B) : Own w' base A n c bs := ⟨h.1, own_below h.2 hb hB⟩
theorem Own.base {w : World} {base base' : Nat} {A : Option Addr} {n c : Nat} {bs : List UInt8} (h : Own w base A n c bs) (hB : base' ≤ base) : Own w base' A n c bs := ⟨h.1, own_base h.2 hB⟩
theorem Own.alloc {w : World} {base : Nat} {A : Option Addr} {n c : Nat} {bs : List UInt8} (h : Own w base A n c bs) (o : Obj) : Own (w.alloc o) base A n c bs := ⟨h.1, h.2.alloc o⟩
theorem Own.len {w : World} {base : Nat} {A : Option Addr} {n n' c : Nat} {bs : List UInt8} (h : Own w base A n c bs) (e : n = n') : Own w base A n' c bs := e ▸ h
theorem own_new (w : World) (base : Nat) (bs : List UInt8) (hb : base ≤ w.heap.size) (hm : bs.length ≤ maxLen) : Own (w.alloc (.cells (bs.map B8).toArray 5)) base (some ⟨w.heap.size, 0, none⟩) bs.length bs.length bs :=
  ⟨rfl, by have := own_lit w base 5 (bs.map B8) hb (by simpa using hm); simpa using this⟩
theorem own_at (w : World) (base g : Nat) (bs : List UInt8) (hg : g = w.heap.size) (hb : base ≤ w.heap.size) (hm : bs.length ≤ maxLen) : Own (w.alloc (.cells (bs.map B8).toArray 5)) base (some ⟨g, 0, none⟩) bs.length bs.length bs := by
  subst hg
  exact own_new w base bs hb hm
theorem own_none (w : World) (base : Nat) : Own w base none 0 0 [] := ⟨rfl, World.ownsRow_nil _ _ _ _⟩
theorem rd_new (w : World) (xs : List Value) : Rd (w.alloc (.cells xs.toArray 5)) (w.heap.size + 1) (some ⟨w.heap.size, 0, none⟩) xs := by
  intro _
  refine ⟨_, _, rfl, by omega, fun j u hu => ?_⟩
  rw [cell_of_row _ _ _ _ _ _ (heap_alloc_new w _)]
  simpa using hu

theorem rd_one (w : World) (v : Int) (x : UInt8) (h : v = (x.toNat : Int)) : Rd (w.alloc (.cells #[.int .u8 v] 5)) (w.heap.size + 1) (some ⟨w.heap.size, 0, none⟩) ([x].map B8) := by
  subst h
  exact rd_new w ([x].map B8)

theorem wp_app8 {w : World} {ops : Array Oper} {rest : List Oper} {o : Oper} {a : Act} {Q : Exit → Act → World → Prop} (hgd : o.guard = none) (s x : Operand)
    (ho : o.op = .call { callee := .builtin .append, args := #[s, x], argTypes := #[23, 23] })
    (base : Nat) (A0 : Option Addr) (n0 c0 : Nat) (bs0 : List UInt8) (hs : a.eval s = .slice A0 n0 c0) (hown : Own w base A0 n0 c0 bs0)
    (B : Nat) (A : Option Addr) (m c : Nat) (news : List UInt8) (hx : a.eval x = .slice A m c) (hm : m = news.length) (hr : Rd w B A (news.map B8))
    (hb : n0 + m ≤ big) (hbase : base ≤ w.heap.size)
    (h : ∀ A' c' w', Own w' base A' (n0 + m) c' (bs0 ++ news) → Below base w w' → wpList Try.prog ops Q rest (a.put o.dst (.slice A' (n0 + m) c')) w') : wpList Try.prog ops Q (o :: rest) a w := by
  obtain ⟨i0, hi, hz0, hz1, hz2⟩ := info_parts info8
  refine wp_app hgd s x 23 ho base 5 i0 (.int .u8 0) 1 Try.underlying23 hi hz0 hz1 hz2 rfl (.slice A0 n0 c0) n0 (bs0.map B8) hs hown.2 B A m c (news.map B8) hx (by simpa using hm) hr (B8_one news)
    (by unfold big at hb; unfold maxLen; omega) (by unfold big at hb; omega) hbase fun A' c' w' h1 h2 _ => h A' c' w' ⟨?_, ?_⟩ h2
  · rw [List.length_append, hown.1, hm]
  · rw [List.map_append]; exact h1

theorem ret_int {k : IntKind} {a b : Int} (h : a = b) : Ending.returned (.int k a) = .returned (.int k b) := by rw [h]

theorem size_c (n : Nat) (w : World) (hn : W64 n) : Calls Try.prog 26 #[.int .u64 n] w fun e w' => e = .returned (.int .i64 (sz n)) ∧ w = w' := by
  have HN := Lib.hid hn; clear hn
  go_enter Try.func26, Try.ntmps26
  go_wp2
  go_loop [0, 3] (fun m s => ∃ (k j : Nat), m = .int .u64 k ∧ s = .int .i64 j ∧ W64 k ∧ j + sz k = sz n) (fun m _ => (intOf m).toNat)
  case atStart => exact ⟨n, 0, rfl, rfl, HN.out, by simp⟩
  case round =>
    obtain ⟨k, j, rfl, rfl, hk, hj⟩ := hrel
    have h8 := sz_le n
    have hj8 : j ≤ 8 := by omega
    have HK := Lib.hid hk
    have HJ := Lib.hid hj
    clear hk hj h8
    by_cases h0 : 0 < k
    · go_wp2
      have h1 := sz_step k HK.out (by omega)
      have h2 := HJ.out
      exact ⟨⟨k / 256, j + 1, by go_num, by go_num, by have := HK.out; unfold W64 at this ⊢; omega, by omega⟩, by simp [intOf]; omega⟩
    · go_wp2
      go_ret
      obtain rfl : k = 0 := by omega
      exact ⟨ret_int (by have := HJ.out; rw [sz_zero] at this; omega), rfl⟩

theorem clone_c (A : Option Addr) (n c : Nat) (bs : List UInt8) (hn : n = bs.length) (B : Nat) (w : World) (hr : Rd w B A (bs.map B8)) (hB : B ≤ w.heap.size) (hl : n ≤ big) :
    Calls Try.prog 23 #[.slice A n c] w (RetOwn w w.heap.size bs) := by
  have HN := Lib.hid hn; clear hn
  have heq := fun w => Lib.run_eql_slice_nil (P := Try.prog) w 23 5 A n c 0 0 Try.underlying23
  cases A with
  | none =>
    have h0 : bs = [] := by
      cases bs with
      | nil => rfl
      | cons x y => obtain ⟨b, o, h, _⟩ := hr (by simp); cases h
    subst h0
    simp only [Option.isNone_none] at heq
    have hr' := Lib.hid hr; clear hr
    go_enter Try.func23, Try.ntmps23
    go_wp2
    go_ret
    exact ⟨none, 0, 0, rfl, own_none _ _, Below.refl _ _⟩
  | some ad =>
    simp only [Option.isNone_some] at heq
    have HR := Lib.hid hr; clear hr
    go_enter Try.func23, Try.ntmps23
    go_wp2_with (at_builtin; refine wp_app8 rfl (.tmp 5) (.tmp 6) rfl w.heap.size (some ⟨w.heap.size, 0, none⟩) 0 0 [] rfl (own_new w _ [] (Nat.le_refl _) (by simp)) B (some ad) n c bs rfl HN.out (HR.out.below ((Below.refl _ _).alloc hB _)) (by omega) (by simp) ?_; intro A' c' w' ho hb)
    go_ret
    exact ⟨A', _, c', rfl, by simpa using ho, ((Below.refl _ _).alloc (Nat.le_refl _) _).trans hb⟩

theorem putForm_c (A : Option Addr) (n c : Nat) (bs : List UInt8) (num base : Nat) (w : World) (hnum : W64 num) (ho : Own w base A n c bs) (hbase : base ≤ w.heap.size) (hl : n + 9 ≤ big) :
    Calls Try.prog 24 #[.slice A n c, .int .u64 num] w (RetOwn w base (bs ++ form num)) := by
  have HW := Lib.hid hnum; clear hnum
  have HO := Lib.hid ho; clear ho
  have h8 := sz_le num
  have hsb := Lib.hid (sz_byte num)
  go_enter Try.func24, Try.ntmps24
  go_wp2_with (first
    | (go_at_call 26; refine (size_c _ _ HW.out).mono ?_; rintro e w' ⟨rfl, rfl⟩)
    | (at_builtin; refine wp_app8 rfl (.tmp 9) (.tmp 12) rfl base A n c bs rfl (HO.out.alloc _) _ _ 1 1 [UInt8.ofNat (sz num)] rfl rfl (rd_one w _ _ (by rw [hsb.out])) (by omega) (by simp; omega) ?_; intro A1 c1 w1 ho1 hb1))
  have HO1 := Lib.hid ho1; clear ho1
  have HB1 := Lib.hid (((Below.refl base w).alloc hbase _).trans hb1)
  clear hb1
  go_loopw [0, 6] (fun v i wr => ∃ (A : Option Addr) (n' c k : Nat) (j : Int), v = .slice A n' c ∧ i = .int .i64 j ∧ j = (k : Int) - 1 ∧ k ≤ sz num ∧ n' = n + 1 + (sz num - k) ∧ Own wr base A n' c (bs ++ [UInt8.ofNat (sz num)] ++ (dg (sz num) num).take (sz num - k)) ∧ Below base w wr)
    (fun _ i _ => (intOf i + 1).toNat)
  case atStart => exact ⟨A1, n + 1, c1, sz num, _, rfl, rfl, rfl, Nat.le_refl _, by omega, by simpa using HO1.out, HB1.out⟩
  case round =>
    obtain ⟨A, n', c, k, j, rfl, rfl, hj, hk, hn', ho, hb⟩ := hrel
    have HO := Lib.hid ho; clear ho
    have hbw := hb.size
    have HB := Lib.hid hb; clear hb
    have HN' := Lib.hid hn'
    have hn2 : 0 < k → n' + 1 ≤ big := by omega
    clear hn'
    rcases Nat.eq_zero_or_pos k with h0 | h0
    · subst h0
      obtain rfl : j = -1 := by omega
      clear hj
      go_wp2
      go_ret
      have o := HO.out
      rw [Nat.sub_zero, List.take_of_length_le (by rw [dg_len]; omega), List.append_assoc, List.singleton_append] at o
      exact ⟨A, _, c, rfl, o, HB.out⟩
    · obtain ⟨q, rfl⟩ : ∃ q, k = q + 1 := ⟨k - 1, by omega⟩
      obtain rfl : j = (q : Int) := by omega
      clear hj
      have hn3 := hn2 h0
      clear hn2
      go_wp2_with (at_builtin; refine wp_app8 rfl (.tmp 20) (.tmp 26) rfl base A n' c _ rfl (HO.out.alloc _) _ _ 1 1 [UInt8.ofNat (num / 256 ^ q % 256)] rfl rfl (rd_one wr _ _ (byte_at num q)) (by omega) (by simp; omega) ?_; intro A1 c1 w1 ho1 hb1)
      have e2 := HN'.out
      rw [List.append_assoc, ← dg_take _ _ _ (by omega)] at ho1
      have hb2 := (HB.out.alloc (by omega) _).trans hb1
      exact ⟨⟨A1, n' + 1, c1, q, _, rfl, rfl, by omega, by omega, by omega, ho1, hb2⟩, by simp [intOf]⟩

theorem take_flat (ns : List Nat) (k : Nat) (x : Nat) (h : ns[k]? = some x) : (ns.take (k + 1)).flatMap form = (ns.take k).flatMap form ++ form x := by
  rw [List.take_add_one, h]; simp

theorem put_c (A : Option Addr) (n c : Nat) (bs : List UInt8) (hn : n = bs.length) (A2 : Option Addr) (m c2 : Nat) (ns : List Nat) (hm : m = ns.length) (hw : ∀ x ∈ ns, W64 x) (B : Nat) (w : World)
    (hr : Rd w B A (bs.map B8)) (hr2 : Rd w B A2 (ns.map N64)) (hB : B ≤ w.heap.size) (hl : n + 9 * m ≤ big) :
    Calls Try.prog 12 #[.slice A n c, .slice A2 m c2] w (RetOwn w w.heap.size (bs ++ ns.flatMap form)) := by
  have HN := Lib.hid hn; clear hn
  have HM := Lib.hid hm
  have HR := Lib.hid hr; clear hr
  have HW := Lib.hid hw; clear hw
  have HR2 := Lib.hid hr2; clear hr2
  have h47 : m ≤ 140737488355328 := by unfold big at hl; omega
  clear hm
  go_enter Try.func12, Try.ntmps12
  go_wp2_with (go_at_call 23; refine (clone_c _ _ _ bs HN.out B _ HR.out hB (by omega)).mono ?_; rintro e w1 ⟨A1, n1, c1, rfl, ho, hb⟩)
  have HO := Lib.hid ho; clear ho
  have HB := Lib.hid hb; clear hb
  go_loopw [5, 12] (fun v i wr => ∃ (A' : Option Addr) (n' c' k : Nat), v = .slice A' n' c' ∧ i = .int .i64 k ∧ k ≤ m ∧ n' ≤ n + 9 * k ∧ Own wr w.heap.size A' n' c' (bs ++ (ns.take k).flatMap form) ∧ Below w.heap.size w wr)
    (fun _ i _ => m - (intOf i).toNat)
  case atStart => exact ⟨A1, n1, c1, 0, rfl, rfl, Nat.zero_le _, by rw [HN.out, HO.out.1]; omega, by simpa using HO.out, HB.out⟩
  case round =>
    obtain ⟨A', n', c', k, rfl, rfl, hk, hn', ho, hb⟩ := hrel
    have HO' := Lib.hid ho; clear ho
    have hbw := hb.size
    have HB' := Lib.hid hb; clear hb
    by_cases hlt : k < m
    · obtain ⟨b, o, rfl, hbB, hcell⟩ := HR2.out (by rw [List.length_map, ← HM.out]; omega)
      have hkl : k < ns.length := by rw [← HM.out]; exact hlt
      have hx : ns[k]? = some ns[k] := List.getElem?_eq_getElem hkl
      have hc0 := hcell k (N64 ns[k]) (by simp [hkl])
      have hwx := HW.out ns[k] (List.getElem_mem hkl)
      generalize ns[k] = x at hx hc0 hwx
      have hcx : wr.cell? ⟨b, o + k, none⟩ = some (.int .u64 (x : Int)) := (HB'.out.cell (by show b < _; omega)).trans hc0
      have HX := Lib.hid hx
      have HWX := Lib.hid hwx
      clear hx hc0 hwx hcell hkl
      go_wp2_with (go_at_call 24; refine (putForm_c _ _ _ _ x w.heap.size _ HWX.out HO'.out (by omega) (by omega)).mono ?_; rintro e w2 ⟨A2, n2, c2, rfl, ho2, hb2⟩)
      go_roundw
      case rel =>
        refine ⟨A2, _, c2, k + 1, rfl, by go_num, by omega, ?_, ?_, HB'.out.trans hb2⟩
        · have e1 := HO'.out.1
          have e2 := ho2.1
          rw [List.length_append, form_len, ← e1] at e2
          have := sz_le x
          omega
        · rw [take_flat _ _ _ HX.out, ← List.append_assoc]; exact ho2
      case measure => simp [intOf]; omega
    · go_wp2
      go_ret
      obtain rfl : k = m := by omega
      have o := HO'.out
      rw [List.take_of_length_le (by rw [HM.out]; exact Nat.le_refl _)] at o
      exact ⟨A', _, c', rfl, o, HB'.out⟩
end Go.Proofs.Ytlfolpbgekchjaa
