/- Contracts and words on which the claims of this seat stand, part 11: LgK LgL LgM LgN. -/
import Derived.Test.YtldfccllpnplmaaG02
import Derived.Test.YtldfccllpnplmaaG10
set_option linter.unusedSimpArgs false
set_option linter.unusedVariables false
namespace Go.Proofs.Ytldfccllpnplmaa.Lgw
set_option maxRecDepth 20000
open Go.RowKit
open Bk Lg Wire
open Tgw (hat hbe)
open Rg (bal)

theorem cnt_pos (a d : Nat) (ha : a < 64) (hd : d < 64) : decide ((0 : Int) < ((Chg.cnt a + Chg.cnt d : Nat) : Int)) = !decide (a = 0 ∧ d = 0) := by
  have h : ∀ a d : Fin 64, decide ((0 : Int) < ((Chg.cnt a.val + Chg.cnt d.val : Nat) : Int)) = !decide (a.val = 0 ∧ d.val = 0) := by decide +kernel
  exact h ⟨a, ha⟩ ⟨d, hd⟩
theorem sw1 (r : R) (h : r.kind = 1) : swR r = okE r.e := by unfold swR; rw [if_pos h]
theorem sw2 (r : R) (h : r.kind = 2 ∨ r.kind = 5) (a d : Nat) (ea : r.ca = a) (ed : r.cd = d) : swR r = (!decide (a = 0 ∧ d = 0) && decide (0 ≤ r.cn ∧ r.cn ≤ 5)) := by
  unfold swR
  rw [if_neg (by omega), if_pos h]
  have : (r.ca = 0 ∧ r.cd = 0) ↔ (a = 0 ∧ d = 0) := by omega
  simp only [this]
theorem sw3 (r : R) (h : r.kind = 3) : swR r = true := by unfold swR; rw [if_neg (by omega), if_neg (by omega), if_pos h]
theorem sw4 (r : R) (h : r.kind = 4 ∨ r.kind = 6) : swR r = nok r := by unfold swR; rw [if_neg (by omega), if_neg (by omega), if_neg (by omega), if_pos h]
theorem sw0 (r : R) (h : ¬ (1 ≤ r.kind ∧ r.kind ≤ 6)) : swR r = false := by unfold swR; rw [if_neg (by omega), if_neg (by omega), if_neg (by omega), if_neg (by omega)]
theorem rv_nat {a d : Int} (h : rv a d = true) : ∃ m n : Nat, a = m ∧ d = n ∧ m < 64 ∧ n < 64 := by
  have := of_decide_eq_true h
  exact ⟨a.toNat, d.toNat, by omega, by omega, by omega, by omega⟩
end Go.Proofs.Ytldfccllpnplmaa.Lgw

namespace Go.Proofs.Ytldfccllpnplmaa.Lgw
set_option maxRecDepth 20000
open Go.RowKit
open Bk Lg Wire
open Tgw (hat hbe)
open Rg (bal)

/-- numbers put from a row of their own -/
theorem put_row (xs : List Value) (ns : List Nat) (hx : xs = ns.map N64) (hw : ∀ x ∈ ns, W64 x) (n : Nat) (hn : n = ns.length) (h6 : n ≤ 6) (W : World) : Calls Try.prog 61 #[.slice none 0 0, .slice (some ⟨W.heap.size, 0, none⟩) n n] (W.alloc (.cells xs.toArray 56)) (RetOwn (W.alloc (.cells xs.toArray 56)) (W.alloc (.cells xs.toArray 56)).heap.size (ns.flatMap form)) := by
  subst hx
  have := put_c none 0 0 [] rfl (some ⟨W.heap.size, 0, none⟩) n n ns hn hw (W.heap.size + 1) (W.alloc (.cells (ns.map N64).toArray 56)) Rd.nil (rd_row W (ns.map N64) 56) (by simp) (by unfold big; omega)
  rwa [List.nil_append] at this
theorem retOwn_trans {w w1 : World} {bs : List UInt8} {e : Ending} {w' : World} (hb : Below w.heap.size w w1) (h : RetOwn w1 w1.heap.size bs e w') : RetOwn w w.heap.size bs e w' := by
  obtain ⟨A, n, c, he, ho, hb2⟩ := h
  exact ⟨A, n, c, he, ho.base hb.size, hb.trans (hb2.mono hb.size)⟩
end Go.Proofs.Ytldfccllpnplmaa.Lgw

namespace Go.Proofs.Ytldfccllpnplmaa.Lgw
set_option maxRecDepth 20000
open Go.RowKit
open Bk Lg Wire
open Tgw (hat hbe)
open Rg (bal)

theorem wrap_iw (n : Nat) (h : n < 18446744073709551616) : IntKind.i64.wrap (n : Int) = iw n := by
  rw [IntKind.wrap_i64]
  unfold iw
  split <;> omega
theorem iw_i64 (n : Nat) (h : n < 18446744073709551616) : -9223372036854775808 ≤ iw n ∧ iw n ≤ 9223372036854775807 := by
  unfold iw
  split <;> omega
theorem named_iw (n : Int) : (Chgw.gv (Chgw.namedF n)).1 = vA n ∧ (Chgw.gv (Chgw.namedF n)).2 = vD n := by
  unfold Chgw.namedF vA vD
  by_cases h : 0 ≤ n ∧ n < 4096
  · rw [if_pos h, if_pos h, if_pos h]
    exact ⟨rfl, rfl⟩
  · rw [if_neg h, if_neg h, if_neg h]
    exact ⟨rfl, rfl⟩
theorem frombits (n : Int) (w : World) : (callFunc 50 #[.int .u64 n]).run Try.prog w = .ok (.value (.float .f64 n.toNat)) w :=
  run_callFunc_extern Try.func50 (by kernel_rfl) (by kernel_rfl) (by kernel_rfl) (e := Extern.MathFloatBits.float64frombits) (by kernel_rfl) _ w
theorem num_of_c (n : Int) (w : World) : Calls Try.prog 75 #[.int .u64 n] w fun e w' => e = .returned (.float .f64 (Flt.clean n.toNat)) ∧ w = w' := by
  have h1 := frombits
  by_cases hn : Flt.isNan n.toNat = true
  · have hc := Flt.clean_nan n.toNat hn
    go_enter Try.func75, Try.ntmps75
    go_wp2_with (go_at_call 81; refine (Nmw.isnan_c _ _).mono ?_; rintro e w' ⟨rfl, rfl⟩)
    go_ret
    exact ⟨by rw [hc]; rfl, rfl⟩
  · have hn : Flt.isNan n.toNat = false := by simpa using hn
    have hc := Flt.clean_num n.toNat hn
    go_enter Try.func75, Try.ntmps75
    go_wp2_with (go_at_call 81; refine (Nmw.isnan_c _ _).mono ?_; rintro e w' ⟨rfl, rfl⟩)
    go_ret
    exact ⟨by rw [hc]; rfl, rfl⟩
theorem equal8_c (A : Option Addr) (n c : Nat) (bs : List UInt8) (hn : n = bs.length) (A2 : Option Addr) (n2 c2 : Nat) (ts : List UInt8) (hn2 : n2 = ts.length) (B : Nat) (w : World) (hr : Rd w B A (bs.map B8)) (hr2 : Rd w B A2 (ts.map B8)) :
    Calls Try.prog 45 #[.slice A n c, .slice A2 n2 c2] w fun e w' => e = .returned (.bool (decide (bs = ts))) ∧ w = w' := by
  have h1 := str8' c hr hn
  have h2 := str8' c2 hr2 hn2
  have HE : Hid (((str bs).toList == (str ts).toList) = decide (bs = ts)) := Lib.hid (by
    rw [str_toList, str_toList]
    exact Bool.eq_iff_iff.2 (by simp))
  generalize str bs = S1 at h1 HE
  generalize str ts = S2 at h2 HE
  generalize hq : decide (bs = ts) = q at HE ⊢
  clear hr hr2 hn hn2 hq
  go_enter Try.func45, Try.ntmps45
  go_wp2
  go_ret
  exact ⟨ret_bool HE.out, rfl⟩
end Go.Proofs.Ytldfccllpnplmaa.Lgw

namespace Go.Proofs.Ytldfccllpnplmaa.Lgw
set_option maxRecDepth 20000
open Go.RowKit
open Bk Lg Wire
open Tgw (hat hbe)
open Rg (bal)

/-- numbers in a block, from its first cell on -/
def Nc (w : World) (b : Nat) (ns : List Nat) : Prop := ∀ (i x : Nat), ns[i]? = some x → w.cell? ⟨b, i, none⟩ = some (.int .u64 (x : Int))
theorem Nc.all {w w' : World} {b : Nat} {ns : List Nat} (h : Nc w b ns) (hl : b < w.heap.size) (hb : Below w.heap.size w w') : Nc w' b ns := fun i x hx => (hb.cell (p := ⟨b, i, none⟩) hl).trans (h i x hx)
theorem Nc.drew {w : World} {b : Nat} {ns : List Nat} (h : Nc w b ns) : Nc w.drew b ns := h
theorem Nc.set {w : World} {b : Nat} {ns : List Nat} (h : Nc w b ns) {p : Addr} (hp : b ≠ p.block) (u : Value) : Nc (w.setCell p u) b ns := fun i x hx => (Dkw.cell_block (Below.heap_setCell w p u b hp)).trans (h i x hx)
theorem own_nums {w : World} {base : Nat} {A : Option Addr} {n c : Nat} {ns : List Nat} (h : OwnN w base A n c ns) (hp : 0 < ns.length) : ∃ b, A = some ⟨b, 0, none⟩ ∧ base ≤ b ∧ b < w.heap.size ∧ Nc w b ns := by
  rcases h.2.2 with ⟨_, h0⟩ | ⟨g, cap, cur, e, hg, hh, _⟩
  · have := h.1; omega
  · injection e with e1 e2 e3
    subst e1
    refine ⟨g, rfl, hg, (h.2.lt g rfl).2, fun i x hx => ?_⟩
    have h1 := h.2.cells (g := g) rfl i (N64 x) (by rw [List.getElem?_map, hx]; rfl)
    rw [Rg.add_at, Nat.zero_add] at h1
    exact h1
theorem gets_len : ∀ (m : Nat) (b : List UInt8) (ns : List Nat) (r : List UInt8), getsF m b = some (ns, r) → ns.length = m ∧ ∀ x ∈ ns, W64 x
  | 0, b, ns, r, h => by
    unfold getsF at h
    simp only [Option.some.injEq, Prod.mk.injEq] at h
    rw [← h.1]
    exact ⟨rfl, by simp⟩
  | m + 1, b, ns, r, h => by
    unfold getsF at h
    cases ht : takeF b with
    | none => rw [ht] at h; cases h
    | some x =>
      obtain ⟨v, s⟩ := x
      rw [ht] at h
      simp only [Option.bind_some] at h
      cases hg : getsF m s with
      | none => rw [hg] at h; cases h
      | some y =>
        obtain ⟨l, t⟩ := y
        rw [hg] at h
        simp only [Option.map_some, Option.some.injEq, Prod.mk.injEq] at h
        have ih := gets_len m s l t hg
        rw [← h.1]
        refine ⟨by simp [ih.1], fun x hx => ?_⟩
        rcases List.mem_cons.1 hx with rfl | hx
        · exact (takeF_some ht).1
        · exact ih.2 x hx
/-- the record that forms seem to be, and whether there is one -/
def RetGuess (w : World) (bs : List UInt8) (e : Ending) (w' : World) : Prop :=
  Below w.heap.size w w' ∧ ((guessP bs = none ∧ e = .returned (.tuple #[rvv zeroR, .bool false])) ∨ ∃ r, guessP bs = some r ∧ e = .returned (.tuple #[rvv r, .bool true]))
theorem guess_none {bs : List UInt8} {v : Nat} {rest : List UInt8} (ht : takeF bs = some (v, rest)) {k : Int} (hk : iw v = k) {m : Nat} (hm : behind k = m) (h : getsF m rest = none) : guessP bs = none := by
  unfold guessP
  rw [ht]
  simp only
  rw [hk, hm, h]
theorem guess_some {bs : List UInt8} {v : Nat} {rest : List UInt8} (ht : takeF bs = some (v, rest)) {k : Int} (hk : iw v = k) {m : Nat} (hm : behind k = m) {ns : List Nat} {s : List UInt8} (h : getsF m rest = some (ns, s)) : guessP bs = some (gp k ns) := by
  unfold guessP
  rw [ht]
  simp only
  rw [hk, hm, h]
theorem getsI_in (m : Nat) (h : m ≤ 100) (bs : List UInt8) : getsI (m : Int) bs = getsF m bs := by
  unfold getsI
  rw [if_neg (by omega)]
  rfl
theorem list1 {ns : List Nat} (h : ns.length = 1) : ∃ a, ns = [a] := by
  match ns, h with
  | [a], _ => exact ⟨a, rfl⟩
theorem list2 {ns : List Nat} (h : ns.length = 2) : ∃ a b, ns = [a, b] := by
  match ns, h with
  | [a, b], _ => exact ⟨a, b, rfl⟩
theorem list3 {ns : List Nat} (h : ns.length = 3) : ∃ a b c, ns = [a, b, c] := by
  match ns, h with
  | [a, b, c], _ => exact ⟨a, b, c, rfl⟩
theorem list5 {ns : List Nat} (h : ns.length = 5) : ∃ a b c d e, ns = [a, b, c, d, e] := by
  match ns, h with
  | [a, b, c, d, e], _ => exact ⟨a, b, c, d, e, rfl⟩
end Go.Proofs.Ytldfccllpnplmaa.Lgw
