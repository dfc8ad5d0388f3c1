/- Contracts and words on which the claims of this seat stand, part 2: WireC WireG WireH WireR WireS WireT WireF. -/
import Derived.Test.YtldfccllpnplmaaG01
import Derived.BigQuiet
import Derived.Deep.QuietTactic
import Derived.WalkSpells
import Derived.Laws.BitsAllLaws
import Derived.Deep.RegionWith
set_option linter.unusedSimpArgs false
set_option linter.unusedVariables false
namespace Go.Proofs.Ytldfccllpnplmaa
set_option maxRecDepth 20000
open Go.RowKit
open Wire

theorem info64 : (Try.prog.info? 56).map (fun i => (i.zero, i.size, i.bytes)) = some (some (.int .u64 0), 1, 8) := by kernel_rfl

theorem size_c (n : Nat) (w : World) (hn : W64 n) : Calls Try.prog 92 #[.int .u64 n] w fun e w' => e = .returned (.int .i64 (sz n)) ∧ w = w' := by
  have HN := Lib.hid hn; clear hn
  go_enter Try.func92, Try.ntmps92
  go_wp2
  go_loop [0, 3] (fun m s => ∃ (k j : Nat), m = .int .u64 k ∧ s = .int .i64 j ∧ W64 k ∧ j + sz k = sz n) (fun m _ => (intOf m).toNat)
  case atStart => exact ⟨n, 0, rfl, rfl, HN.out, by simp⟩
  case round =>
    obtain ⟨k, j, rfl, rfl, hk, hj⟩ := hrel
    have h8 := sz_le n
    have hj8 : j ≤ 8 := by omega
    have HK := Lib.hid hk
    have HJ := Lib.hid hj
    clear hk hj h8
    by_cases h0 : 0 < k
    · go_wp2
      have h1 := sz_step k HK.out (by omega)
      have h2 := HJ.out
      exact ⟨⟨k / 256, j + 1, by go_num, by go_num, by have := HK.out; unfold W64 at this ⊢; omega, by omega⟩, by simp [intOf]; omega⟩
    · go_wp2
      go_ret
      obtain rfl : k = 0 := by omega
      exact ⟨ret_int (by have := HJ.out; rw [sz_zero] at this; omega), rfl⟩

theorem putForm_c (A : Option Addr) (n c : Nat) (bs : List UInt8) (num base : Nat) (w : World) (hnum : W64 num) (ho : Own w base A n c bs) (hbase : base ≤ w.heap.size) (hl : n + 9 ≤ big) :
    Calls Try.prog 82 #[.slice A n c, .int .u64 num] w (RetOwn w base (bs ++ form num)) := by
  have HW := Lib.hid hnum; clear hnum
  have HO := Lib.hid ho; clear ho
  have h8 := sz_le num
  have hsb := Lib.hid (sz_byte num)
  go_enter Try.func82, Try.ntmps82
  go_wp2_with (first
    | (go_at_call 92; refine (size_c _ _ HW.out).mono ?_; rintro e w' ⟨rfl, rfl⟩)
    | (at_builtin; refine wp_app8 rfl (.tmp 9) (.tmp 12) rfl base A n c bs rfl (HO.out.alloc _) _ _ 1 1 [UInt8.ofNat (sz num)] rfl rfl (rd_one w _ _ (by rw [hsb.out])) (by omega) (by simp; omega) ?_; intro A1 c1 w1 ho1 hb1))
  have HO1 := Lib.hid ho1; clear ho1
  have HB1 := Lib.hid (((Below.refl base w).alloc hbase _).trans hb1)
  clear hb1
  go_loopw [0, 6] (fun v i wr => ∃ (A : Option Addr) (n' c k : Nat) (j : Int), v = .slice A n' c ∧ i = .int .i64 j ∧ j = (k : Int) - 1 ∧ k ≤ sz num ∧ n' = n + 1 + (sz num - k) ∧ Own wr base A n' c (bs ++ [UInt8.ofNat (sz num)] ++ (dg (sz num) num).take (sz num - k)) ∧ Below base w wr)
    (fun _ i _ => (intOf i + 1).toNat)
  case atStart => exact ⟨A1, n + 1, c1, sz num, _, rfl, rfl, rfl, Nat.le_refl _, by omega, by simpa using HO1.out, HB1.out⟩
  case round =>
    obtain ⟨A, n', c, k, j, rfl, rfl, hj, hk, hn', ho, hb⟩ := hrel
    have HO := Lib.hid ho; clear ho
    have hbw := hb.size
    have HB := Lib.hid hb; clear hb
    have HN' := Lib.hid hn'
    have hn2 : 0 < k → n' + 1 ≤ big := by omega
    clear hn'
    rcases Nat.eq_zero_or_pos k with h0 | h0
    · subst h0
      obtain rfl : j = -1 := by omega
      clear hj
      go_wp2
      go_ret
      have o := HO.out
      rw [Nat.sub_zero, List.take_of_length_le (by rw [dg_len]; omega), List.append_assoc, List.singleton_append] at o
      exact ⟨A, _, c, rfl, o, HB.out⟩
    · obtain ⟨q, rfl⟩ : ∃ q, k = q + 1 := ⟨k - 1, by omega⟩
      obtain rfl : j = (q : Int) := by omega
      clear hj
      have hn3 := hn2 h0
      clear hn2
      go_wp2_with (at_builtin; refine wp_app8 rfl (.tmp 20) (.tmp 26) rfl base A n' c _ rfl (HO.out.alloc _) _ _ 1 1 [UInt8.ofNat (num / 256 ^ q % 256)] rfl rfl (rd_one wr _ _ (byte_at num q)) (by omega) (by simp; omega) ?_; intro A1 c1 w1 ho1 hb1)
      have e2 := HN'.out
      rw [List.append_assoc, ← dg_take _ _ _ (by omega)] at ho1
      have hb2 := (HB.out.alloc (by omega) _).trans hb1
      exact ⟨⟨A1, n' + 1, c1, q, _, rfl, rfl, by omega, by omega, by omega, ho1, hb2⟩, by simp [intOf]⟩

theorem take_flat (ns : List Nat) (k : Nat) (x : Nat) (h : ns[k]? = some x) : (ns.take (k + 1)).flatMap form = (ns.take k).flatMap form ++ form x := by
  rw [List.take_add_one, h]; simp

theorem put_c (A : Option Addr) (n c : Nat) (bs : List UInt8) (hn : n = bs.length) (A2 : Option Addr) (m c2 : Nat) (ns : List Nat) (hm : m = ns.length) (hw : ∀ x ∈ ns, W64 x) (B : Nat) (w : World)
    (hr : Rd w B A (bs.map B8)) (hr2 : Rd w B A2 (ns.map N64)) (hB : B ≤ w.heap.size) (hl : n + 9 * m ≤ big) :
    Calls Try.prog 61 #[.slice A n c, .slice A2 m c2] w (RetOwn w w.heap.size (bs ++ ns.flatMap form)) := by
  have HN := Lib.hid hn; clear hn
  have HM := Lib.hid hm
  have HR := Lib.hid hr; clear hr
  have HW := Lib.hid hw; clear hw
  have HR2 := Lib.hid hr2; clear hr2
  have h47 : m ≤ 140737488355328 := by unfold big at hl; omega
  clear hm
  go_enter Try.func61, Try.ntmps61
  go_wp2_with (go_at_call 51; refine (clone_c _ _ _ bs HN.out B _ HR.out hB (by omega)).mono ?_; rintro e w1 ⟨A1, n1, c1, rfl, ho, hb⟩)
  have HO := Lib.hid ho; clear ho
  have HB := Lib.hid hb; clear hb
  go_loopw [5, 12] (fun v i wr => ∃ (A' : Option Addr) (n' c' k : Nat), v = .slice A' n' c' ∧ i = .int .i64 k ∧ k ≤ m ∧ n' ≤ n + 9 * k ∧ Own wr w.heap.size A' n' c' (bs ++ (ns.take k).flatMap form) ∧ Below w.heap.size w wr)
    (fun _ i _ => m - (intOf i).toNat)
  case atStart => exact ⟨A1, n1, c1, 0, rfl, rfl, Nat.zero_le _, by rw [HN.out, HO.out.1]; omega, by simpa using HO.out, HB.out⟩
  case round =>
    obtain ⟨A', n', c', k, rfl, rfl, hk, hn', ho, hb⟩ := hrel
    have HO' := Lib.hid ho; clear ho
    have hbw := hb.size
    have HB' := Lib.hid hb; clear hb
    by_cases hlt : k < m
    · obtain ⟨b, o, rfl, hbB, hcell⟩ := HR2.out (by rw [List.length_map, ← HM.out]; omega)
      have hkl : k < ns.length := by rw [← HM.out]; exact hlt
      have hx : ns[k]? = some ns[k] := List.getElem?_eq_getElem hkl
      have hc0 := hcell k (N64 ns[k]) (by simp [hkl])
      have hwx := HW.out ns[k] (List.getElem_mem hkl)
      generalize ns[k] = x at hx hc0 hwx
      have hcx : wr.cell? ⟨b, o + k, none⟩ = some (.int .u64 (x : Int)) := (HB'.out.cell (by show b < _; omega)).trans hc0
      have HX := Lib.hid hx
      have HWX := Lib.hid hwx
      clear hx hc0 hwx hcell hkl
      go_wp2_with (go_at_call 82; refine (putForm_c _ _ _ _ x w.heap.size _ HWX.out HO'.out (by omega) (by omega)).mono ?_; rintro e w2 ⟨A2, n2, c2, rfl, ho2, hb2⟩)
      go_roundw
      case rel =>
        refine ⟨A2, _, c2, k + 1, rfl, by go_num, by omega, ?_, ?_, HB'.out.trans hb2⟩
        · have e1 := HO'.out.1
          have e2 := ho2.1
          rw [List.length_append, form_len, ← e1] at e2
          have := sz_le x
          omega
        · rw [take_flat _ _ _ HX.out, ← List.append_assoc]; exact ho2
      case measure => simp [intOf]; omega
    · go_wp2
      go_ret
      obtain rfl : k = m := by omega
      have o := HO'.out
      rw [List.take_of_length_le (by rw [HM.out]; exact Nat.le_refl _)] at o
      exact ⟨A', _, c', rfl, o, HB'.out⟩
end Go.Proofs.Ytldfccllpnplmaa

namespace Go.Proofs.Ytldfccllpnplmaa
set_option maxRecDepth 20000
open Go.RowKit
open Wire

/-- a head and the rest in memory -/
theorem Rd.head {w : World} {B : Nat} {A : Option Addr} {s : UInt8} {l : List UInt8} (h : Rd w B A ((s :: l).map B8)) : ∃ b o, A = some ⟨b, o, none⟩ ∧ b < B ∧ w.cell? ⟨b, o, none⟩ = some (.int .u8 (s.toNat : Int)) := by
  obtain ⟨b, o, e, hb, hc⟩ := h (by simp)
  exact ⟨b, o, e, hb, hc 0 (B8 s) (by simp)⟩

def RetNo (w : World) (e : Ending) (w' : World) : Prop := e = .returned (.tuple #[.int .u64 0, .slice none 0 0, .bool false]) ∧ ∃ k, w' = w.drewN k
def RetYes (w : World) (B v : Nat) (r : List UInt8) (e : Ending) (w' : World) : Prop :=
  ∃ A n c, e = .returned (.tuple #[.int .u64 v, .slice A n c, .bool true]) ∧ n = r.length ∧ n ≤ c ∧ Rd w B A (r.map B8) ∧ ∃ k, w' = w.drewN k

theorem take_no (A : Option Addr) (n c : Nat) (bs : List UInt8) (hn : n = bs.length) (hc : n ≤ c) (B : Nat) (w : World) (hr : Rd w B A (bs.map B8)) (h : takeF bs = none) :
    Calls Try.prog 84 #[.slice A n c] w (RetNo w) := by
  cases bs with
  | nil =>
    subst hn
    have HR := Lib.hid hr; clear hr
    have HH := Lib.hid h; clear h
    go_enter Try.func84, Try.ntmps84
    go_wp2
    go_ret3
    exact ⟨rfl, 0, rfl⟩
  | cons s l =>
    obtain ⟨b, o, rfl, hb, hc0⟩ := hr.head
    have HR := Lib.hid hr; clear hr
    have hn1 : 1 ≤ n := by rw [hn]; simp
    have HN := Lib.hid hn; clear hn
    have HH := Lib.hid h; clear h
    have hne : ((n : Int) == 0) = false := by rw [beq_eq_false_iff_ne]; omega
    by_cases h8 : 8 < s.toNat
    · go_enter Try.func84, Try.ntmps84
      go_wp2
      go_ret3
      exact ⟨rfl, 0, rfl⟩
    · obtain ⟨A1, hs1, hr1⟩ := run_from Try.underlying30 size8 (some ⟨b, o, none⟩) n c 1 1 .i64 rfl hn1 hc
      have HR1 : Hid (Rd w B A1 (l.map B8)) := hr1 w B _ (by have := HN.out; simpa using this.symm) HR.out
      clear hr1
      have h8' : (s.toNat : Int) ≤ 8 := by omega
      by_cases hlen : l.length < s.toNat
      · have hlt : n - 1 < s.toNat := by have := HN.out; simp at this; omega
        go_enter Try.func84, Try.ntmps84
        go_wp2
        go_ret3
        exact ⟨rfl, 0, rfl⟩
      · have hlt : ¬ n - 1 < s.toNat := by have := HN.out; simp at this; omega
        have h0 : 0 < s.toNat ∧ l.head? = some 0 := by
          have h := HH.out
          rw [takeF_cons] at h
          split at h
          · rename_i hq
            rcases hq with hq | hq | hq
            · omega
            · omega
            · exact hq
          · cases h
        cases l with
        | nil => simp at h0
        | cons x l' =>
          obtain ⟨h0, hx⟩ := h0
          simp only [List.head?_cons, Option.some.injEq] at hx
          subst hx
          obtain ⟨b1, o1, rfl, hb1, hc1⟩ := Rd.head HR1.out
          have hn2 : 0 < n - 1 := by omega
          have hc1' : w.cell? ⟨b1, o1, none⟩ = some (.int .u8 0) := hc1
          clear hc1
          go_enter Try.func84, Try.ntmps84
          go_wp2
          go_ret3
          exact ⟨rfl, 0, rfl⟩

theorem wrap_u64 (a : Int) (h0 : 0 ≤ a) (h : a < 18446744073709551616) : IntKind.u64.wrap a = a := by
  simp [IntKind.wrap, IntKind.signed, IntKind.bits]
  omega
theorem or_byte (a : Nat) (x : UInt8) (h : a < 256 ^ 7) : bits .or .u64 (IntKind.u64.wrap ((a : Int) * 256)) (IntKind.u64.wrap (x.toNat : Int)) = ((a * 256 + x.toNat : Nat) : Int) := by
  have hx := UInt8.toNat_lt x
  rw [wrap_u64 _ (by omega) (by omega), wrap_u64 _ (by omega) (by omega), show (a : Int) * 256 = ((a * 256 : Nat) : Int) by omega, u64_or_nat _ _ (by omega) (by omega)]
  have e := Nat.shiftLeft_add_eq_or_of_lt (show x.toNat < 2 ^ 8 by omega) a
  rw [Nat.shiftLeft_eq] at e
  rw [← e]

theorem take_yes (A : Option Addr) (n c : Nat) (bs : List UInt8) (hn : n = bs.length) (hc : n ≤ c) (B v : Nat) (r : List UInt8) (w : World) (hr : Rd w B A (bs.map B8)) (h : takeF bs = some (v, r)) :
    Calls Try.prog 84 #[.slice A n c] w (RetYes w B v r) := by
  cases bs with
  | nil => cases h
  | cons s l =>
    obtain ⟨b, o, rfl, hb, hc0⟩ := hr.head
    have HR := Lib.hid hr; clear hr
    have hn1 : 1 ≤ n := by rw [hn]; simp
    have HN := Lib.hid hn; clear hn
    rw [takeF_cons] at h
    split at h
    · cases h
    rename_i hcond
    simp only [Option.some.injEq, Prod.mk.injEq] at h
    obtain ⟨rfl, rfl⟩ := h
    have h8' : (s.toNat : Int) ≤ 8 := by omega
    have hlt : ¬ n - 1 < s.toNat := by have := HN.out; simp at this; omega
    have h0 : 0 < s.toNat → l.head? ≠ some 0 := by intro h1 h2; exact hcond (Or.inr (Or.inr ⟨h1, h2⟩))
    have H0 := Lib.hid h0; clear h0 hcond
    have hne : ((n : Int) == 0) = false := by rw [beq_eq_false_iff_ne]; omega
    obtain ⟨A1, hs1, hr1⟩ := run_from Try.underlying30 size8 (some ⟨b, o, none⟩) n c 1 1 .i64 rfl hn1 hc
    have HR1 : Hid (Rd w B A1 (l.map B8)) := hr1 w B _ (by have := HN.out; simpa using this.symm) HR.out
    clear hr1
    obtain ⟨A2, hs2, hr2⟩ := run_upto Try.underlying30 size8 A1 (n - 1) (c - 1) s.toNat (s.toNat : Int) .i64 rfl (by omega)
    have HR2 : Hid (Rd w B A2 (l.map B8)) := hr2 w B _ HR1.out
    clear hr2
    obtain ⟨A3, hs3, hr3⟩ := run_from Try.underlying30 size8 A1 (n - 1) (c - 1) s.toNat (s.toNat : Int) .i64 rfl (by omega) (by omega)
    have HR3 : Hid (Rd w B A3 ((l.drop s.toNat).map B8)) := by rw [List.map_drop]; exact hr3 w B _ (by have := HN.out; simp at this ⊢; omega) HR1.out
    clear hr3
    have hll : s.toNat ≤ l.length := by have := HN.out; simp at this; omega
    have hd8 : decide (8 < (s.toNat : Int)) = false := by simp; omega
    have key : ∀ (fr : s.toNat = 0 ∨ (0 < s.toNat ∧ ∃ b1 o1 x, A1 = some ⟨b1, o1, none⟩ ∧ w.cell? ⟨b1, o1, none⟩ = some (.int .u8 x) ∧ (x == 0) = false)),
        Calls Try.prog 84 #[.slice (some ⟨b, o, none⟩) n c] w (RetYes w B (val (l.take s.toNat)) (l.drop s.toNat)) := by
      rintro (hs0 | ⟨hs0, b1, o1, x, rfl, hc1, hx0⟩)
      · have hs0' : ¬ 0 < s.toNat := by omega
        have hs00 : s.toNat = 0 := hs0
        have HS := Lib.hid hs00
        clear hs0 hs00
        go_enter Try.func84, Try.ntmps84
        go_wp2
        refine wp_loop_rounds 1 ?_
        rw [rounds_succ]
        go_wp2
        go_quiet (fail)
        go_wp2
        go_ret3
        refine ⟨A3, n - 1 - s.toNat, c - 1 - s.toNat, ?_, ?_, by omega, HR3.out, ⟨_, rfl⟩⟩
        · rw [HS.out]; rfl
        · have := HN.out; simp at this ⊢; omega
      · have hn2 : 0 < n - 1 := by omega
        go_enter Try.func84, Try.ntmps84
        go_wp2
        go_loop [2, 39] (fun a i => ∃ k : Nat, k ≤ s.toNat ∧ i = .int .i64 k ∧ a = .int .u64 (val (l.take k))) (fun _ i => s.toNat - (intOf i).toNat)
        case atStart => exact ⟨0, Nat.zero_le _, rfl, rfl⟩
        case round =>
          obtain ⟨k, hk, rfl, rfl⟩ := hrel
          by_cases hlt2 : k < s.toNat
          · obtain ⟨b2, o2, rfl, hb2, hcell⟩ := HR2.out (by rw [List.length_map]; omega)
            have hkl : k < l.length := by omega
            have hx : l[k]? = some l[k] := List.getElem?_eq_getElem hkl
            have hcx := hcell k (B8 l[k]) (by simp [hkl])
            clear hcell
            generalize l[k] = y at hx hcx
            have hcy : w.cell? ⟨b2, o2 + k, none⟩ = some (.int .u8 (y.toNat : Int)) := hcx
            clear hcx
            have HX := Lib.hid hx; clear hx
            have hv7 : val (l.take k) < 256 ^ 7 := Nat.lt_of_lt_of_le (val_lt _) (Nat.pow_le_pow_right (by omega) (by rw [List.length_take]; omega))
            have HV7 := Lib.hid hv7; clear hv7
            generalize hv : val (l.take k) = v0 at HV7
            have HV := Lib.hid hv; clear hv
            go_wp2
            have hst : val (l.take (k + 1)) = v0 * 256 + y.toNat := by rw [List.take_add_one, HX.out, Option.toList_some, val_snoc, HV.out]
            exact ⟨⟨k + 1, by omega, by go_num, by rw [or_byte _ _ HV7.out, hst]⟩, by simp [intOf]; omega⟩
          · go_wp2
            go_quiet (fail)
            go_wp2
            go_ret3
            obtain rfl : k = s.toNat := by omega
            refine ⟨A3, n - 1 - s.toNat, c - 1 - s.toNat, rfl, ?_, by omega, HR3.out, ⟨_, rfl⟩⟩
            have := HN.out; simp at this ⊢; omega
    refine key ?_
    rcases Nat.eq_zero_or_pos s.toNat with hs0 | hs0
    · exact Or.inl hs0
    · cases l with
      | nil => have := HN.out; simp at this; omega
      | cons x l' =>
        obtain ⟨b1, o1, rfl, hb1, hc1⟩ := Rd.head HR1.out
        refine Or.inr ⟨hs0, b1, o1, _, rfl, hc1, ?_⟩
        rw [beq_eq_false_iff_ne]
        intro h
        exact H0.out hs0 (by simp; exact UInt8.toNat_inj.1 (by simpa using h))
end Go.Proofs.Ytldfccllpnplmaa

namespace Go.Proofs.Ytldfccllpnplmaa
set_option maxRecDepth 20000
open Go.RowKit
open Wire

/-- the slice A holds the numbers ns, in a row of the call's own -/
def OwnN (w : World) (base : Nat) (A : Option Addr) (n c : Nat) (ns : List Nat) : Prop := n = ns.length ∧ w.ownsRow base 56 1 (.slice A n c) n (ns.map N64)
theorem OwnN.rd {w : World} {base : Nat} {A : Option Addr} {n c : Nat} {ns : List Nat} (h : OwnN w base A n c ns) : Rd w w.heap.size A (ns.map N64) := Rd.of_own h.2
theorem OwnN.below {w w' : World} {base B : Nat} {A : Option Addr} {n c : Nat} {ns : List Nat} (h : OwnN w base A n c ns) (hb : Below B w w') (hB : w.heap.size ≤ B) : OwnN w' base A n c ns := ⟨h.1, own_below h.2 hb hB⟩
theorem OwnN.base {w : World} {base base' : Nat} {A : Option Addr} {n c : Nat} {ns : List Nat} (h : OwnN w base A n c ns) (hB : base' ≤ base) : OwnN w base' A n c ns := ⟨h.1, own_base h.2 hB⟩
theorem OwnN.alloc {w : World} {base : Nat} {A : Option Addr} {n c : Nat} {ns : List Nat} (h : OwnN w base A n c ns) (o : Obj) : OwnN (w.alloc o) base A n c ns := ⟨h.1, h.2.alloc o⟩
theorem ownN_new (w : World) (base : Nat) (ns : List Nat) (hb : base ≤ w.heap.size) (hm : ns.length ≤ maxLen) : OwnN (w.alloc (.cells (ns.map N64).toArray 56)) base (some ⟨w.heap.size, 0, none⟩) ns.length ns.length ns :=
  ⟨rfl, by have := own_lit w base 56 (ns.map N64) hb (by simpa using hm); simpa using this⟩
theorem rd_num (w : World) (v : Int) (x : Nat) (h : v = (x : Int)) : Rd (w.alloc (.cells #[.int .u64 v] 56)) (w.heap.size + 1) (some ⟨w.heap.size, 0, none⟩) ([x].map N64) := by
  subst h
  intro _
  refine ⟨_, _, rfl, by omega, fun j u hu => ?_⟩
  rw [cell_of_row _ _ _ _ _ _ (heap_alloc_new w _)]
  simpa [N64] using hu
theorem wp_app64 {w : World} {ops : Array Oper} {rest : List Oper} {o : Oper} {a : Act} {Q : Exit → Act → World → Prop} (hgd : o.guard = none) (s x : Operand)
    (ho : o.op = .call { callee := .builtin .append, args := #[s, x], argTypes := #[58, 58] })
    (base : Nat) (A0 : Option Addr) (n0 c0 : Nat) (ns0 : List Nat) (hs : a.eval s = .slice A0 n0 c0) (hown : OwnN w base A0 n0 c0 ns0)
    (B : Nat) (A : Option Addr) (m c : Nat) (news : List Nat) (hx : a.eval x = .slice A m c) (hm : m = news.length) (hr : Rd w B A (news.map N64))
    (hb : (n0 + m) * 8 ≤ big) (hbase : base ≤ w.heap.size)
    (h : ∀ A' c' w', OwnN w' base A' (n0 + m) c' (ns0 ++ news) → Below base w w' → w.grownBy w' (Value.slice A0 n0 c0).ownBlock → wpList Try.prog ops Q rest (a.put o.dst (.slice A' (n0 + m) c')) w') : wpList Try.prog ops Q (o :: rest) a w := by
  obtain ⟨i0, hi, hz0, hz1, hz2⟩ := info_parts info64
  refine wp_app hgd s x 58 ho base 56 i0 (.int .u64 0) 8 Try.underlying58 hi hz0 hz1 hz2 rfl (.slice A0 n0 c0) n0 (ns0.map N64) hs hown.2 B A m c (news.map N64) hx (by simpa using hm) hr (N64_one news)
    (by unfold big at hb; unfold maxLen; omega) (by unfold big at hb; omega) hbase fun A' c' w' h1 h2 h3 => h A' c' w' ⟨?_, ?_⟩ h2 h3
  · rw [List.length_append, hown.1, hm]
  · rw [List.map_append]; exact h1

theorem Rd.below_back {w w' : World} {B B' : Nat} {A : Option Addr} {xs : List Value} (h : Rd w' B A xs) (hb : Below B' w w') (hB : B ≤ B') : Rd w B A xs := h.keep fun _ hp => ((hb.mono hB).cell hp).symm

/-- what Get answers -/
def RetGet (w : World) (o : Option (Nat × List UInt8)) (e : Ending) (w' : World) : Prop :=
  Below w.heap.size w w' ∧ match o with
  | none => e = .returned (.tuple #[.int .u64 0, .slice none 0 0, .int .i64 21])
  | some (v, r) => ∃ A n c, e = .returned (.tuple #[.int .u64 v, .slice A n c, .int .i64 0]) ∧ Own w' w.heap.size A n c r
/-- what Gets answers -/
def RetGets (w : World) (o : Option (List Nat × List UInt8)) (e : Ending) (w' : World) : Prop :=
  Below w.heap.size w w' ∧ match o with
  | none => e = .returned (.tuple #[.slice none 0 0, .slice none 0 0, .int .i64 21])
  | some (ns, r) => ∃ A n c A2 n2 c2, e = .returned (.tuple #[.slice A n c, .slice A2 n2 c2, .int .i64 0]) ∧ OwnN w' w.heap.size A n c ns ∧ Own w' w.heap.size A2 n2 c2 r
/-- what Text answers -/
def RetText (w : World) (b t : List UInt8) (e : Ending) (w' : World) : Prop :=
  Below w.heap.size w w' ∧ ((4000 < t.length ∧ e = .returned (.tuple #[.slice none 0 0, .int .i64 21])) ∨
    (t.length ≤ 4000 ∧ ∃ A n c, e = .returned (.tuple #[.slice A n c, .int .i64 0]) ∧ Own w' w.heap.size A n c (textF b t)))
/-- what Cut answers -/
def RetCut (w : World) (o : Option (List UInt8 × List UInt8)) (e : Ending) (w' : World) : Prop :=
  Below w.heap.size w w' ∧ match o with
  | none => e = .returned (.tuple #[.slice none 0 0, .slice none 0 0, .int .i64 21])
  | some (t, r) => ∃ A n c A2 n2 c2, e = .returned (.tuple #[.slice A n c, .slice A2 n2 c2, .int .i64 0]) ∧ Own w' w.heap.size A n c t ∧ Own w' w.heap.size A2 n2 c2 r

theorem get_c (A : Option Addr) (n c : Nat) (bs : List UInt8) (hn : n = bs.length) (hc : n ≤ c) (B : Nat) (w : World) (hr : Rd w B A (bs.map B8)) (hB : B ≤ w.heap.size) (hl : n ≤ big) :
    Calls Try.prog 85 #[.slice A n c] w (RetGet w (takeF bs)) := by
  have HN := Lib.hid hn; clear hn
  have HR := Lib.hid hr; clear hr
  cases ht : takeF bs with
  | none =>
    have HT := Lib.hid ht; clear ht
    go_enter Try.func85, Try.ntmps85
    go_wp2_with (go_at_call 84; refine (take_no _ _ _ bs HN.out hc B _ HR.out HT.out).mono ?_; rintro e w1 ⟨rfl, k, rfl⟩)
    go_ret3
    exact ⟨below_drewN _ _ _, rfl⟩
  | some x =>
    obtain ⟨v, r⟩ := x
    have hrl := takeF_len ht
    have HT := Lib.hid ht; clear ht
    have hrb : r.length ≤ big := by have := HN.out; omega
    go_enter Try.func85, Try.ntmps85
    go_wp2_with (first
      | (go_at_call 84; refine (take_yes _ _ _ bs HN.out hc B v r _ HR.out HT.out).mono ?_; rintro e w1 ⟨A1, n1, c1, rfl, hn1, hc1, hr1, k, rfl⟩; have HN1 := Lib.hid hn1; clear hn1; have HR1 := Lib.hid hr1; clear hr1)
      | (go_at_call 51; refine (clone_c _ _ _ r HN1.out B _ (HR1.out.drewN k) hB (by rw [HN1.out]; exact hrb)).mono ?_; rintro e w2 ⟨A2, n2, c2, rfl, ho2, hb2⟩; have HO2 := Lib.hid ho2; clear ho2; have HB2 := Lib.hid hb2; clear hb2))
    go_ret3
    exact ⟨(below_drewN _ _ k).trans HB2.out, A2, n2, c2, rfl, HO2.out⟩

/-- so many numbers, many any number -/
def getsI (many : Int) (bs : List UInt8) : Option (List Nat × List UInt8) := if many < 0 ∨ 100 < many then none else getsF many.toNat bs

theorem getsF_step (m k : Nat) (bs rs : List UInt8) (ns : List Nat) (v : Nat) (r : List UInt8) (hk : k < m) (ht : takeF rs = some (v, r))
    (h : getsF m bs = (getsF (m - k) rs).map fun y => (ns ++ y.1, y.2)) : getsF m bs = (getsF (m - (k + 1)) r).map fun y => ((ns ++ [v]) ++ y.1, y.2) := by
  rw [h, show m - k = (m - (k + 1)) + 1 by omega, getsF, ht]
  simp only [Option.bind_some, Option.map_map]
  congr 1
  funext y
  simp

theorem gets_out (A : Option Addr) (n c : Nat) (many : Int) (bs : List UInt8) (w : World) (h : many < 0 ∨ 100 < many) :
    Calls Try.prog 72 #[.slice A n c, .int .i64 many] w (RetGets w (getsI many bs)) := by
  have hg : getsI many bs = none := if_pos h
  rw [hg]
  clear hg
  rcases h with h | h
  · go_enter Try.func72, Try.ntmps72
    go_wp2
    go_ret3
    exact ⟨Below.refl _ _, rfl⟩
  · have h' : ¬ many < 0 := by omega
    go_enter Try.func72, Try.ntmps72
    go_wp2
    go_ret3
    exact ⟨Below.refl _ _, rfl⟩

theorem gets_in (A : Option Addr) (n c m : Nat) (bs : List UInt8) (hn : n = bs.length) (hc : n ≤ c) (B : Nat) (w : World) (hr : Rd w B A (bs.map B8)) (hB : B ≤ w.heap.size) (hl : n ≤ big) (hm : m ≤ 100) :
    Calls Try.prog 72 #[.slice A n c, .int .i64 m] w (RetGets w (getsF m bs)) := by
  obtain ⟨i0, hi, hz0, hz1, hz2⟩ := info_parts info64
  have hr' := Lib.hid hr; clear hr
  have HN := Lib.hid hn; clear hn
  have hmz : ¬ (m : Int) < 0 := by omega
  have hmh : ¬ 100 < (m : Int) := by omega
  go_enter Try.func72, Try.ntmps72
  go_wp2_with (at_make; refine wpList_make_own _ rfl _ _ 58 rfl w.heap.size 56 i0 (.int .u64 0) 1 Try.underlying58 hi hz0 hz1 .i64 .i64 _ m rfl rfl rfl (by rw [hz2]; omega) (by unfold maxLen; omega) (Nat.le_refl _) ?_; intro w0 hown0 hgrow0)
  have HO0 : Hid (OwnN w0 w.heap.size (some ⟨w.heap.size, 0, none⟩) 0 m []) := ⟨rfl, hown0⟩
  have HB0 := Lib.hid ((Below.refl w.heap.size w).grown hgrow0 (Nat.le_refl _) (by simp))
  clear hown0 hgrow0 hi hz0 hz1 hz2
  go_loopw [7, 8, 22] (fun v s i wr => ∃ (A1 : Option Addr) (n1 c1 : Nat) (ns : List Nat) (A2 : Option Addr) (n2 c2 : Nat) (rs : List UInt8) (k : Nat), v = .slice A1 n1 c1 ∧ s = .slice A2 n2 c2 ∧ i = .int .i64 k ∧ k ≤ m ∧ n1 = k ∧ n2 = rs.length ∧ n2 ≤ c2 ∧ n2 ≤ n ∧
      OwnN wr w.heap.size A1 n1 c1 ns ∧ Rd w B A2 (rs.map B8) ∧ (getsF m bs = (getsF (m - k) rs).map fun y => (ns ++ y.1, y.2)) ∧ Below w.heap.size w wr)
    (fun _ _ i _ => m - (intOf i).toNat)
  case atStart => exact ⟨_, 0, m, [], A, n, c, bs, 0, rfl, rfl, rfl, Nat.zero_le _, rfl, HN.out, hc, Nat.le_refl _, HO0.out, hr'.out, by simp, HB0.out⟩
  case round =>
    obtain ⟨A1, n1, c1, ns, A2, n2, c2, rs, k, rfl, rfl, rfl, hk, hn1, hn2, hc2, hn2n, ho, hr2, hg, hb⟩ := hrel
    subst hn1
    have HO := Lib.hid ho; clear ho
    have HR2 := Lib.hid hr2; clear hr2
    have HG := Lib.hid hg; clear hg
    have hbw := hb.size
    have HB := Lib.hid hb; clear hb
    have HN2 := Lib.hid hn2; clear hn2
    by_cases hlt : n1 < m
    · cases ht : takeF rs with
      | none =>
        have hgn : getsF m bs = none := by rw [HG.out, show m - n1 = (m - n1 - 1) + 1 by omega, getsF, ht]; rfl
        have HGN := Lib.hid hgn; clear hgn
        have HT := Lib.hid ht; clear ht
        go_wp2_with (go_at_call 84; refine (take_no _ _ _ rs HN2.out hc2 B _ (HR2.out.below (HB.out.mono hB)) HT.out).mono ?_; rintro e w1 ⟨rfl, q, rfl⟩)
        go_ret3
        rw [HGN.out]
        exact ⟨HB.out.trans (below_drewN _ _ _), rfl⟩
      | some x =>
        obtain ⟨v, r⟩ := x
        have hgs := getsF_step m n1 bs rs ns v r hlt ht HG.out
        have HGS := Lib.hid hgs; clear hgs
        have hrl := takeF_len ht
        have hr3 : r.length ≤ n := by have := HN2.out; omega
        clear hrl
        have HT := Lib.hid ht; clear ht
        have h8 : (n1 + 1) * 8 ≤ big := by unfold big; omega
        go_wp2_with (first
          | (go_at_call 84; refine (take_yes _ _ _ rs HN2.out hc2 B v r _ (HR2.out.below (HB.out.mono hB)) HT.out).mono ?_; rintro e w1 ⟨A3, n3, c3, rfl, hn3, hc3, hr4, q, rfl⟩; have HN3 := Lib.hid hn3; clear hn3; have HR4 := Lib.hid hr4; clear hr4)
          | (at_builtin; refine wp_app64 rfl (.tmp 32) (.tmp 34) rfl w.heap.size A1 n1 c1 ns rfl (OwnN.alloc (w := wr.drewN q) HO.out _) _ _ 1 1 [v] rfl rfl (rd_num _ _ _ rfl) (by omega) (by simp; omega) ?_; intro A4 c4 w4 ho4 hb4 _))
        have hb5 := ((HB.out.trans (below_drewN _ _ q)).alloc (show _ ≤ (wr.drewN q).heap.size from hbw) _).trans hb4
        exact ⟨⟨A4, n1 + 1, c4, ns ++ [v], A3, n3, c3, r, n1 + 1, rfl, rfl, by go_num, by omega, rfl, HN3.out, hc3, by have := HN3.out; omega, ho4, HR4.out.below_back HB.out hB, HGS.out, hb5⟩, by simp [intOf]; omega⟩
    · go_wp2_with (go_at_call 51; refine (clone_c _ _ _ rs HN2.out B _ (HR2.out.below (HB.out.mono hB)) (by omega) (by omega)).mono ?_; rintro e w2 ⟨A5, n5, c5, rfl, ho5, hb5⟩; have HO5 := Lib.hid ho5; clear ho5; have HB5 := Lib.hid hb5; clear hb5)
      go_ret3
      obtain rfl : n1 = m := by omega
      have hg := HG.out
      rw [Nat.sub_self] at hg
      simp only [getsF, Option.map_some, List.append_nil] at hg
      rw [hg]
      exact ⟨HB.out.trans (HB5.out.mono hbw), A1, n1, c1, A5, n5, c5, rfl, HO.out.below HB5.out (Nat.le_refl _), HO5.out.base hbw⟩

theorem gets_c (A : Option Addr) (n c : Nat) (many : Int) (bs : List UInt8) (hn : n = bs.length) (hc : n ≤ c) (B : Nat) (w : World) (hr : Rd w B A (bs.map B8)) (hB : B ≤ w.heap.size) (hl : n ≤ big) :
    Calls Try.prog 72 #[.slice A n c, .int .i64 many] w (RetGets w (getsI many bs)) := by
  by_cases h : many < 0 ∨ 100 < many
  · exact gets_out A n c many bs w h
  · have hg : getsI many bs = getsF many.toNat bs := if_neg h
    obtain ⟨m, rfl⟩ := Int.eq_ofNat_of_zero_le (show 0 ≤ many by omega)
    rw [hg]
    exact gets_in A n c m bs hn hc B w hr hB hl (by omega)

theorem text_aid {w w1 : World} {o : Obj} {B n m : Nat} {A1 : Option Addr} {n1 c1 : Nat} {bs : List UInt8} (_hB : B ≤ w.heap.size) (hn : n = bs.length) (ho1 : Own w1 (w.alloc o).heap.size A1 n1 c1 (bs ++ [m].flatMap form)) (hb1 : Below (w.alloc o).heap.size (w.alloc o) w1) :
    Hid (Own w1 w.heap.size A1 n1 c1 (bs ++ form m)) ∧ Hid (Below w.heap.size w w1) ∧ n1 ≤ n + 9 ∧ w.heap.size ≤ w1.heap.size := by
  have h1 : w.heap.size ≤ (w.alloc o).heap.size := by simp
  have e := ho1.1
  have h8 := sz_le m
  refine ⟨?_, ((Below.refl _ _).alloc (Nat.le_refl _) _).trans (hb1.mono h1), ?_, ?_⟩
  · show Own w1 w.heap.size A1 n1 c1 (bs ++ form m)
    have := ho1.base h1
    simpa using this
  · simp [form_len] at e; omega
  · have := hb1.size; simp at this; omega

end Go.Proofs.Ytldfccllpnplmaa

namespace Go.Proofs.Ytldfccllpnplmaa
set_option maxRecDepth 20000
open Go.RowKit
open Wire

theorem own_one (w : World) (base : Nat) (v : Int) (x : UInt8) (h : v = (x.toNat : Int)) (hb : base ≤ w.heap.size) : Own (w.alloc (.cells #[.int .u8 v] 5)) base (some ⟨w.heap.size, 0, none⟩) 1 1 [x] := by
  subst h
  exact own_new w base [x] hb (by simp [maxLen])

theorem byte_mod (k : Nat) : ((k : Int) % 256) = ((UInt8.ofNat (k % 256)).toNat : Int) := by
  rw [UInt8.toNat_ofNat', Nat.mod_mod_of_dvd _ (by decide)]; omega

theorem form_r (n : Nat) (w : World) (hn : W64 n) : Calls Try.prog 65 #[.int .u64 n] w (RetOwn w w.heap.size (form n)) := by
  have HN := Lib.hid hn; clear hn
  have hb8 : 20 ≤ big := by unfold big; omega
  go_enter Try.func65, Try.ntmps65
  go_wp2
  go_loopw [0, 3] (fun u v wr => ∃ (k : Nat) (A : Option Addr) (m c : Nat) (ds : List UInt8), u = .int .u64 k ∧ v = .slice A m c ∧ W64 k ∧ Own wr w.heap.size A m c ds ∧ dg (sz n) n = dg (sz k) k ++ ds ∧ sz n = sz k + m ∧ Below w.heap.size w wr)
    (fun u _ _ => (intOf u).toNat)
  case atStart => exact ⟨n, _, 0, 0, [], rfl, rfl, HN.out, own_new w _ [] (Nat.le_refl _) (by simp), by simp, rfl, (Below.refl _ _).alloc (Nat.le_refl _) _⟩
  case round =>
    obtain ⟨k, A, m, c, ds, rfl, rfl, hk, ho, hd, hs, hb⟩ := hrel
    have h8 := sz_le n
    have hm8 : m ≤ 8 := by omega
    have hbw := hb.size
    have HK := Lib.hid hk; clear hk
    have HO := Lib.hid ho; clear ho
    have HD := Lib.hid hd; clear hd
    have HS := Lib.hid hs; clear hs
    have HB := Lib.hid hb; clear hb h8
    by_cases h0 : 0 < k
    · go_wp2_with (at_builtin; refine wp_app8 rfl (.tmp 10) (.tmp 11) rfl w.heap.size _ 1 1 [UInt8.ofNat (k % 256)] rfl (own_one wr _ _ _ (byte_mod k) hbw) (wr.heap.size) A m c ds rfl HO.out.1 (HO.out.rd.below ((Below.refl _ _).alloc (Nat.le_refl _) _)) (by omega) (by simp; omega) ?_; intro A1 c1 w1 ho1 hb1)
      have hst := sz_step k HK.out (by omega)
      have hd : dg (sz n) n = dg (sz (k / 256)) (k / 256) ++ ([UInt8.ofNat (k % 256)] ++ ds) := by rw [HD.out, hst, dg, List.append_assoc]
      have hs := HS.out
      have hwr : IntKind.u64.wrap ((k : Int) / 256) = ((k / 256 : Nat) : Int) := by
        have := HK.out
        unfold W64 at this
        rw [wrap_u64 _ (by omega) (by omega)]
        omega
      exact ⟨⟨k / 256, A1, 1 + m, c1, _, by rw [hwr], rfl, by have := HK.out; unfold W64 at this ⊢; omega, ho1, hd, by omega, (HB.out.alloc hbw _).trans hb1⟩, by rw [hwr]; simp [intOf]; omega⟩
    · have hk0 : k = 0 := by omega
      have hs := HS.out
      rw [hk0, sz_zero, Nat.zero_add] at hs
      have hd := HD.out
      rw [hk0, sz_zero] at hd
      have HF : Hid ([UInt8.ofNat (sz n)] ++ ds = form n) := by show _ = _; unfold form; rw [hd]; rfl
      have HM : Hid ((m : Int) = ((UInt8.ofNat (sz n)).toNat : Int)) := by show _ = _; rw [sz_byte, hs]
      clear hs hd hk0
      go_wp2_with (at_builtin; refine wp_app8 rfl (.tmp 18) (.tmp 19) rfl w.heap.size _ 1 1 [UInt8.ofNat (sz n)] rfl (own_one wr _ _ _ HM.out hbw) (wr.heap.size) A m c ds rfl HO.out.1 (HO.out.rd.below ((Below.refl _ _).alloc (Nat.le_refl _) _)) (by omega) (by simp; omega) ?_; intro A1 c1 w1 ho1 hb1)
      go_ret
      rw [HF.out] at ho1
      exact ⟨A1, _, c1, rfl, ho1, (HB.out.alloc hbw _).trans hb1⟩

theorem put_r (A : Option Addr) (n c : Nat) (bs : List UInt8) (hn : n = bs.length) (A2 : Option Addr) (m c2 : Nat) (ns : List Nat) (hm : m = ns.length) (hw : ∀ x ∈ ns, W64 x) (B : Nat) (w : World)
    (hr : Rd w B A (bs.map B8)) (hr2 : Rd w B A2 (ns.map N64)) (hB : B ≤ w.heap.size) (hl : n + 9 * m ≤ big) :
    Calls Try.prog 32 #[.slice A n c, .slice A2 m c2] w (RetOwn w w.heap.size (bs ++ ns.flatMap form)) := by
  have HN := Lib.hid hn; clear hn
  have HM := Lib.hid hm
  have HR := Lib.hid hr; clear hr
  have HW := Lib.hid hw; clear hw
  have HR2 := Lib.hid hr2; clear hr2
  have h47 : m ≤ 140737488355328 := by unfold big at hl; omega
  clear hm
  go_enter Try.func32, Try.ntmps32
  go_wp2_with (at_builtin; refine wp_app8 rfl (.tmp 8) (.tmp 9) rfl w.heap.size (some ⟨w.heap.size, 0, none⟩) 0 0 [] rfl (own_new w _ [] (Nat.le_refl _) (by simp)) B A n c bs rfl HN.out (HR.out.below ((Below.refl _ _).alloc hB _)) (by omega) (by simp) ?_; intro A1 c1 w1 ho hb)
  have HO := Lib.hid ho; clear ho
  have HB := Lib.hid (((Below.refl _ _).alloc (Nat.le_refl _) _).trans hb); clear hb
  go_loopw [5, 13] (fun v i wr => ∃ (A' : Option Addr) (n' c' k : Nat), v = .slice A' n' c' ∧ i = .int .i64 k ∧ k ≤ m ∧ n' ≤ n + 9 * k ∧ Own wr w.heap.size A' n' c' (bs ++ (ns.take k).flatMap form) ∧ Below w.heap.size w wr)
    (fun _ i _ => m - (intOf i).toNat)
  case atStart => exact ⟨A1, _, c1, 0, rfl, rfl, Nat.zero_le _, by omega, by simpa using HO.out, HB.out⟩
  case round =>
    obtain ⟨A', n', c', k, rfl, rfl, hk, hn', ho, hb⟩ := hrel
    have HO' := Lib.hid ho; clear ho
    have hbw := hb.size
    have HB' := Lib.hid hb; clear hb
    by_cases hlt : k < m
    · obtain ⟨b, o, rfl, hbB, hcell⟩ := HR2.out (by rw [List.length_map, ← HM.out]; omega)
      have hkl : k < ns.length := by rw [← HM.out]; exact hlt
      have hx : ns[k]? = some ns[k] := List.getElem?_eq_getElem hkl
      have hc0 := hcell k (N64 ns[k]) (by simp [hkl])
      have hwx := HW.out ns[k] (List.getElem_mem hkl)
      generalize ns[k] = x at hx hc0 hwx
      have hcx : wr.cell? ⟨b, o + k, none⟩ = some (.int .u64 (x : Int)) := (HB'.out.cell (by show b < _; omega)).trans hc0
      have HX := Lib.hid hx
      have HWX := Lib.hid hwx
      clear hx hc0 hwx hcell hkl
      go_wp2_with fail
      refine (form_r x _ HWX.out).mono ?_
      rintro e w2 ⟨A2, n2, c2, rfl, ho2, hb2⟩
      have hn2 : n2 ≤ 9 := by have e2 := ho2.1; rw [form_len] at e2; have := sz_le x; omega
      have hb3 : w.heap.size ≤ w2.heap.size := by have := hb2.size; omega
      have HO2 := Lib.hid ho2; clear ho2
      have HB2 := Lib.hid hb2; clear hb2
      go_wp2_with (at_builtin; refine wp_app8 rfl (.tmp 17) (.tmp 19) rfl w.heap.size A' n' c' _ rfl (HO'.out.below HB2.out (Nat.le_refl _)) w2.heap.size A2 n2 c2 (form x) rfl HO2.out.1 HO2.out.rd (by omega) hb3 ?_; intro A3 c3 w3 ho3 hb3)
      go_roundw
      case rel =>
        refine ⟨A3, _, c3, k + 1, rfl, by go_num, by omega, by omega, ?_, (HB'.out.trans (HB2.out.mono hbw)).trans hb3⟩
        rw [take_flat _ _ _ HX.out, ← List.append_assoc]; exact ho3
      case measure => simp [intOf]; omega
    · go_wp2
      go_ret
      obtain rfl : k = m := by omega
      have o := HO'.out
      rw [List.take_of_length_le (by rw [HM.out]; exact Nat.le_refl _)] at o
      exact ⟨A', _, c', rfl, o, HB'.out⟩

end Go.Proofs.Ytldfccllpnplmaa

namespace Go.Proofs.Ytldfccllpnplmaa
set_option maxRecDepth 20000
open Go.RowKit
open Wire

theorem str_beq (a b : List UInt8) : ((str a).toList == (str b).toList) = decide (a = b) := by
  rw [str_toList, str_toList, Bool.eq_iff_iff, beq_iff_eq, decide_eq_true_iff]

theorem mul_byte (a : Nat) (x : UInt8) (h : a < 256 ^ 7) : IntKind.u64.wrap (IntKind.u64.wrap ((a : Int) * 256) + IntKind.u64.wrap (x.toNat : Int)) = ((a * 256 + x.toNat : Nat) : Int) := by
  have hx := UInt8.toNat_lt x
  rw [wrap_u64 ((a : Int) * 256) (by omega) (by omega), wrap_u64 (x.toNat : Int) (by omega) (by omega), wrap_u64 _ (by omega) (by omega)]
  omega

theorem get_r (A : Option Addr) (n c : Nat) (bs : List UInt8) (hn : n = bs.length) (hc : n ≤ c) (B : Nat) (w : World) (hr : Rd w B A (bs.map B8)) (hB : B ≤ w.heap.size) (hl : n ≤ big) :
    Calls Try.prog 47 #[.slice A n c] w (RetGet w (takeF bs)) := by
  have hl47 : n ≤ 140737488355328 := hl
  cases bs with
  | nil =>
    subst hn
    have HR := Lib.hid hr; clear hr
    have ht : takeF [] = none := rfl
    rw [ht]
    clear ht
    go_enter Try.func47, Try.ntmps47
    go_wp2
    go_ret3
    exact ⟨Below.refl _ _, rfl⟩
  | cons s l =>
    obtain ⟨b, o, rfl, hb, hc0⟩ := hr.head
    have HR := Lib.hid hr; clear hr
    have hn1 : 1 ≤ n := by rw [hn]; simp
    have HN := Lib.hid hn; clear hn
    have hne : ((n : Int) == 0) = false := by rw [beq_eq_false_iff_ne]; omega
    by_cases h8 : 8 < s.toNat
    · have ht : takeF (s :: l) = none := by rw [takeF_cons, if_pos (Or.inl h8)]
      rw [ht]
      clear ht
      go_enter Try.func47, Try.ntmps47
      go_wp2
      go_ret3
      exact ⟨Below.refl _ _, rfl⟩
    · have h8' : (s.toNat : Int) ≤ 8 := by omega
      have hd8 : decide (8 < (s.toNat : Int)) = false := by simp; omega
      have hln := HN.out
      rw [List.length_cons] at hln
      by_cases hlen : l.length < s.toNat
      · have ht : takeF (s :: l) = none := by rw [takeF_cons, if_pos (Or.inr (Or.inl hlen))]
        rw [ht]
        clear ht
        have hlt : (n : Int) - 1 < (s.toNat : Int) := by omega
        clear hln
        go_enter Try.func47, Try.ntmps47
        go_wp2
        go_ret3
        exact ⟨Below.refl _ _, rfl⟩
      · have hlt : ¬ (n : Int) - 1 < (s.toNat : Int) := by omega
        have hdl : decide ((n : Int) - 1 < (s.toNat : Int)) = false := by simp; omega
        have hsn : s.toNat + 1 ≤ n := by omega
        clear hln
        go_enter Try.func47, Try.ntmps47
        go_wp2
        go_loop [5, 6] (fun a i => ∃ j : Nat, 1 ≤ j ∧ j ≤ s.toNat + 1 ∧ i = .int .i64 j ∧ a = .int .u64 (val (l.take (j - 1)))) (fun _ i => s.toNat + 1 - (intOf i).toNat)
        case atStart => exact ⟨1, by omega, by omega, rfl, rfl⟩
        case round =>
          obtain ⟨j, hj1, hj2, rfl, rfl⟩ := hrel
          by_cases hlt2 : j ≤ s.toNat
          · obtain ⟨b', o', he, _, hcell⟩ := HR.out (by simp)
            injection he with he
            injection he with e1 e2
            subst e1
            subst e2
            have hjl : j < (s :: l).length := by rw [← HN.out]; omega
            have hx : (s :: l)[j]? = some (s :: l)[j] := List.getElem?_eq_getElem hjl
            have hcx := hcell j (B8 (s :: l)[j]) (by rw [List.getElem?_map, hx]; rfl)
            clear hcell
            generalize (s :: l)[j] = y at hx hcx
            have hcy : w.cell? ⟨b, o + j, none⟩ = some (.int .u8 (y.toNat : Int)) := hcx
            clear hcx
            have hx' : l[j - 1]? = some y := by rw [show j = (j - 1) + 1 by omega, List.getElem?_cons_succ] at hx; exact hx
            have HX := Lib.hid hx'; clear hx hx' hjl
            have hv7 : val (l.take (j - 1)) < 256 ^ 7 := Nat.lt_of_lt_of_le (val_lt _) (Nat.pow_le_pow_right (by omega) (by rw [List.length_take]; omega))
            have HV7 := Lib.hid hv7; clear hv7
            generalize hv : val (l.take (j - 1)) = v0 at HV7
            have HV := Lib.hid hv; clear hv
            have hjn : j < n := by omega
            go_wp2
            have hst : val (l.take (j + 1 - 1)) = v0 * 256 + y.toNat := by rw [show j + 1 - 1 = j - 1 + 1 by omega, List.take_add_one, HX.out, Option.toList_some, val_snoc, HV.out]
            exact ⟨⟨j + 1, by omega, by omega, by go_num, by rw [mul_byte _ _ HV7.out, hst]⟩, by simp [intOf]; omega⟩
          · obtain rfl : j = s.toNat + 1 := by omega
            have hlt3 : s.toNat ≤ l.length := by omega
            have hv8 : (l.take s.toNat).length ≤ 8 := by rw [List.length_take]; omega
            have hsz := sz_val_le _ hv8
            have HV := Lib.hid (val_w64 _ hv8)
            have HY := Lib.hid (fun h => ref_yes (bs := s :: l) (val_w64 _ hv8) h)
            have HNO := Lib.hid (ref_no (s := s) (l := l))
            rw [List.length_take] at hsz
            generalize hg : val (l.take s.toNat) = v at hsz HV HY HNO
            rw [show s.toNat + 1 - 1 = s.toNat by omega, hg]
            clear hg hv8
            have hfl := form_len v
            have hf9 : (form v).length ≤ s.toNat + 1 := by omega
            clear hfl hsz
            go_wp2_with fail
            refine (form_r v _ HV.out).mono ?_
            rintro e w1 ⟨A1, n1, c1, rfl, ho1, hb1⟩
            have hn1f : n1 = (form v).length := ho1.1
            have hn1n : n1 ≤ n := by omega
            have HF := Lib.hid hn1f; clear hn1f
            obtain ⟨A2, hs2, hr2⟩ := run_upto Try.underlying30 size8 (some ⟨b, o, none⟩) n c n1 (n1 : Int) .i64 rfl (by omega)
            have HR2 : Hid (Rd w1 B A2 (((s :: l).take n1).map B8)) := by rw [List.map_take]; exact hr2 w1 B _ ((HR.out.below (hb1.mono hB)).take n1)
            clear hr2
            obtain ⟨A3, hs3, hr3⟩ := run_from Try.underlying30 size8 (some ⟨b, o, none⟩) n c n1 (n1 : Int) .i64 rfl hn1n hc
            have HR3 : Hid (Rd w1 B A3 (((s :: l).drop n1).map B8)) := by rw [List.map_drop]; exact hr3 w1 B _ (by have := HN.out; simpa using this.symm) (HR.out.below (hb1.mono hB))
            clear hr3
            have hcv1 := fun q => run_str (P := Try.prog) (c := c1) Try.underlying30 Try.underlying5 Try.underlying9 (ho1.rd.drewN q) ho1.1
            have hcv2 := fun q => run_str (P := Try.prog) (c := c) (n := n1) Try.underlying30 Try.underlying5 Try.underlying9 (HR2.out.drewN q) (by rw [List.length_take, ← HN.out]; omega)
            have HO1 := Lib.hid ho1; clear ho1
            have HB1 := Lib.hid hb1; clear hb1
            by_cases heq : form v = (s :: l).take n1
            · have hsq : ((str (form v)).toList == (str ((s :: l).take n1)).toList) = true := by rw [str_beq, decide_eq_true heq]
              have hy := HY.out (by rw [← HF.out]; exact heq)
              rw [← HF.out] at hy
              have HY' := Lib.hid hy; clear hy
              have hnb : n - n1 ≤ big := by omega
              have hbs : w.heap.size ≤ w1.heap.size := HB1.out.size
              have HL : Hid (n - n1 = ((s :: l).drop n1).length) := by show _ = _; rw [List.length_drop, ← HN.out]
              clear heq
              go_wp2
              go_quiet (fail)
              go_wp2_with (at_builtin; refine wp_app8 rfl (.tmp 54) (.tmp 58) rfl w.heap.size (some ⟨w1.heap.size, 0, none⟩) 0 0 [] rfl (own_new w1 _ [] hbs (by simp)) B A3 (n - n1) (c - n1) ((s :: l).drop n1) rfl HL.out ((HR3.out.below ((Below.refl _ _).alloc (by omega) _)).drewN _) (by omega) (by simp; omega) ?_; intro A4 c4 w4 ho4 hb4)
              go_ret3
              rw [HY'.out]
              exact ⟨((HB1.out.alloc hbs _).trans (below_drewN _ _ _)).trans hb4, A4, _, c4, rfl, by simpa using ho4⟩
            · have hsq : ((str (form v)).toList == (str ((s :: l).take n1)).toList) = false := by rw [str_beq, decide_eq_false heq]
              have hnn := HNO.out (by rw [← HF.out]; exact heq)
              have HNN := Lib.hid hnn
              clear hnn heq
              go_wp2
              go_quiet (fail)
              go_wp2
              go_ret3
              rw [HNN.out]
              exact ⟨HB1.out.trans (below_drewN _ _ _), rfl⟩

def sliceLen : Value → Nat | .slice _ n _ => n | _ => 0
theorem OwnN.keep {w w' : World} {base B : Nat} {A : Option Addr} {n c : Nat} {ns : List Nat} (h : OwnN w base A n c ns) (hb : Below B w w') (hB : ∀ b o, A = some ⟨b, o, none⟩ → b < B) : OwnN w' base A n c ns := by
  refine ⟨h.1, h.2.1, ?_⟩
  rcases h.2.2 with h0 | ⟨g, cap, cur, hv, hg, hh, r⟩
  · exact .inl h0
  · refine .inr ⟨g, cap, cur, hv, hg, ?_, r⟩
    injection hv with e1
    rw [hb.block g (hB g 0 e1)]
    exact hh

end Go.Proofs.Ytldfccllpnplmaa

namespace Go.Proofs.Ytldfccllpnplmaa
set_option maxRecDepth 20000
open Go.RowKit
open Wire

/-- what the document's Cut answers: two parts of one row -/
def RetCutR (w : World) (o : Option (List UInt8 × List UInt8)) (e : Ending) (w' : World) : Prop :=
  Below w.heap.size w w' ∧ match o with
  | none => e = .returned (.tuple #[.slice none 0 0, .slice none 0 0, .int .i64 21])
  | some (t, r) => ∃ A n c A2 n2 c2, e = .returned (.tuple #[.slice A n c, .slice A2 n2 c2, .int .i64 0]) ∧ n = t.length ∧ n2 = r.length ∧ Rd w' w'.heap.size A (t.map B8) ∧ Rd w' w'.heap.size A2 (r.map B8)

/-- the same, with what the slices can hold -/
def RetCutRC (w : World) (o : Option (List UInt8 × List UInt8)) (e : Ending) (w' : World) : Prop :=
  Below w.heap.size w w' ∧ match o with
  | none => e = .returned (.tuple #[.slice none 0 0, .slice none 0 0, .int .i64 21])
  | some (t, r) => ∃ A n c A2 n2 c2, e = .returned (.tuple #[.slice A n c, .slice A2 n2 c2, .int .i64 0]) ∧ n = t.length ∧ n2 = r.length ∧ Rd w' w'.heap.size A (t.map B8) ∧ Rd w' w'.heap.size A2 (r.map B8) ∧ n ≤ c ∧ n2 ≤ c2
theorem retCut_of {w : World} {o : Option (List UInt8 × List UInt8)} {e : Ending} {w' : World} (h : RetCutRC w o e w') : RetCutR w o e w' := by
  obtain ⟨h1, h2⟩ := h
  refine ⟨h1, ?_⟩
  cases o with
  | none => exact h2
  | some x =>
    obtain ⟨A, n, c, A2, n2, c2, h3, h4, h5, h6, h7, _⟩ := h2
    exact ⟨A, n, c, A2, n2, c2, h3, h4, h5, h6, h7⟩
theorem same_step (a b : List Nat) (k : Nat) (h : a.take k = b.take k) (x y : Nat) (hx : a[k]? = some x) (hy : b[k]? = some y) (e : x = y) : a.take (k + 1) = b.take (k + 1) := by
  rw [List.take_add_one, List.take_add_one, h, hx, hy, e]

def RetBool (w : World) (b : Bool) (e : Ending) (w' : World) : Prop := e = .returned (.bool b) ∧ ∃ k, w' = w.drewN k

theorem rd_nums (w : World) (ns : List Nat) : Rd (w.alloc (.cells (ns.map N64).toArray 56)) (w.heap.size + 1) (some ⟨w.heap.size, 0, none⟩) (ns.map N64) := by
  intro _
  refine ⟨_, _, rfl, by omega, fun j u hu => ?_⟩
  rw [cell_of_row _ _ _ _ _ _ (heap_alloc_new w _)]
  simpa using hu

theorem alive_take : takeF [2, 1, 44, 9] = some (300, [9]) := by decide
theorem alive_form : [] ++ [0, 300].flatMap form = [0, 2, 1, 44] := by decide

end Go.Proofs.Ytldfccllpnplmaa

namespace Go.Proofs.Ytldfccllpnplmaa
set_option maxRecDepth 20000
open Go.RowKit
open Wire

def gE {α : Type} (o : Option α) : Int := if o.isSome then 0 else 21
def gV (o : Option (Nat × List UInt8)) : Nat := (o.map (·.1)).getD 0
def gR {α : Type} (o : Option (α × List UInt8)) : List UInt8 := (o.map (·.2)).getD []
def gL {α : Type} (o : Option (List α × List UInt8)) : List α := (o.map (·.1)).getD []

theorem RetGet.flat {w : World} {o : Option (Nat × List UInt8)} {e : Ending} {w' : World} (h : RetGet w o e w') :
    ∃ A n c, e = .returned (.tuple #[.int .u64 (gV o), .slice A n c, .int .i64 (gE o)]) ∧ n = (gR o).length ∧ n ≤ c ∧ Rd w' w'.heap.size A ((gR o).map B8) ∧ Below w.heap.size w w' := by
  obtain ⟨hb, h⟩ := h
  cases o with
  | none => exact ⟨none, 0, 0, h, rfl, Nat.le_refl _, Rd.nil, hb⟩
  | some x =>
    obtain ⟨A, n, c, he, ho⟩ := h
    exact ⟨A, n, c, he, ho.1, ho.cap, ho.rd, hb⟩
theorem RetGets.flat {w : World} {o : Option (List Nat × List UInt8)} {e : Ending} {w' : World} (h : RetGets w o e w') :
    ∃ A n c A2 n2 c2, e = .returned (.tuple #[.slice A n c, .slice A2 n2 c2, .int .i64 (gE o)]) ∧ n = (gL o).length ∧ n2 = (gR o).length ∧ Rd w' w'.heap.size A ((gL o).map N64) ∧ Rd w' w'.heap.size A2 ((gR o).map B8) ∧ Below w.heap.size w w' := by
  obtain ⟨hb, h⟩ := h
  cases o with
  | none => exact ⟨none, 0, 0, none, 0, 0, h, rfl, rfl, Rd.nil, Rd.nil, hb⟩
  | some x =>
    obtain ⟨A, n, c, A2, n2, c2, he, ho, hp⟩ := h
    exact ⟨A, n, c, A2, n2, c2, he, ho.1, hp.1, ho.rd, hp.rd, hb⟩
theorem RetCut.flat {w : World} {o : Option (List UInt8 × List UInt8)} {e : Ending} {w' : World} (h : RetCut w o e w') :
    ∃ A n c A2 n2 c2, e = .returned (.tuple #[.slice A n c, .slice A2 n2 c2, .int .i64 (gE o)]) ∧ n = (gL o).length ∧ n2 = (gR o).length ∧ Rd w' w'.heap.size A ((gL o).map B8) ∧ Rd w' w'.heap.size A2 ((gR o).map B8) ∧ Below w.heap.size w w' := by
  obtain ⟨hb, h⟩ := h
  cases o with
  | none => exact ⟨none, 0, 0, none, 0, 0, h, rfl, rfl, Rd.nil, Rd.nil, hb⟩
  | some x =>
    obtain ⟨A, n, c, A2, n2, c2, he, ho, hp⟩ := h
    exact ⟨A, n, c, A2, n2, c2, he, ho.1, hp.1, ho.rd, hp.rd, hb⟩
theorem RetCutR.flat {w : World} {o : Option (List UInt8 × List UInt8)} {e : Ending} {w' : World} (h : RetCutR w o e w') :
    ∃ A n c A2 n2 c2, e = .returned (.tuple #[.slice A n c, .slice A2 n2 c2, .int .i64 (gE o)]) ∧ n = (gL o).length ∧ n2 = (gR o).length ∧ Rd w' w'.heap.size A ((gL o).map B8) ∧ Rd w' w'.heap.size A2 ((gR o).map B8) ∧ Below w.heap.size w w' := by
  obtain ⟨hb, h⟩ := h
  cases o with
  | none => exact ⟨none, 0, 0, none, 0, 0, h, rfl, rfl, Rd.nil, Rd.nil, hb⟩
  | some x =>
    obtain ⟨A, n, c, A2, n2, c2, he, h1, h2, h3, h4⟩ := h
    exact ⟨A, n, c, A2, n2, c2, he, h1, h2, h3, h4, hb⟩

end Go.Proofs.Ytldfccllpnplmaa
