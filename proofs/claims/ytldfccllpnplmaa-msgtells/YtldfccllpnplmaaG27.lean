/- Contracts and words on which the claims of this seat stand, part 27: MsCd MsCf MsCg MsCh. -/
import Derived.Test.YtldfccllpnplmaaG02
import Derived.Test.YtldfccllpnplmaaG07
import Derived.Test.YtldfccllpnplmaaG11
import Derived.Test.YtldfccllpnplmaaG26
import Derived.RangeFuncBox
import Derived.RangeFuncLeaves
import Derived.Shelf.Abstract
import Derived.WalkKit
import Derived.OwnWalkIn
import Derived.TacticsInMore
import Derived.LoopNIn
import Derived.LoopIn
import Derived.Maps.AppendAt
import Derived.BigRegionIn
set_option linter.unusedSimpArgs false
set_option linter.unusedVariables false
namespace Go.Proofs.Ytldfccllpnplmaa.Msi
set_option maxRecDepth 20000
open Go.RowKit Go.Shelf Go.Maps
attribute [local go_sem] Oper.semAt_some

/-- where the j-th row lies -/
def rowS (A : Option Addr) (wide j : Nat) : Value := .slice (A.map (·.add (wide * j))) wide wide
theorem size64 (w : World) : (sizeOf 56).run Try.prog w = .ok 1 w := Try.sizeOf56 w
theorem cut_row (A : Option Addr) (n c wide q : Nat) (i h m : Int) (hi : i = ((wide * q : Nat) : Int)) (hh : h = ((wide * q + wide : Nat) : Int)) (hm : m = ((wide * q + wide : Nat) : Int)) (hw : 1 ≤ wide) (hn : wide * q + wide ≤ n) (hc : n ≤ c) (w : World) :
    (Instr.slice 58 (.slice A n c) (some (.int .i64 i)) (some (.int .i64 h)) (some (.int .i64 m))).run Try.prog w = .ok (rowS A wide q) w := by
  subst hi hh hm
  have he : Try.prog.elem 58 = 56 := by simp [Program.elem, Try.underlying58]
  rw [run_slice_lhm (P := Try.prog) (w := w) 58 A n c (by rw [he]; exact Try.underlying58) .i64 .i64 .i64 _ _ _ (by omega) (by omega) (by omega) (by omega), he, size64]
  simp only [Result.andThen, sliced, rowS, Int.toNat_natCast, Nat.mul_one]
  rw [if_neg (by omega)]
  congr 2 <;> omega
theorem cut_len (A : Option Addr) (n c k : Nat) (i : Int) (hi : i = (k : Int)) (hk : k ≤ n) (hc : n ≤ c) : ∃ A' c', ∀ w, (Instr.slice 58 (.slice A n c) (some (.int .i64 i)) none none).run Try.prog w = .ok (.slice A' (n - k) c') w := by
  obtain ⟨A', h1, _⟩ := run_from (P := Try.prog) Try.underlying58 size64 A n c k i .i64 hi hk hc
  exact ⟨A', c - k, h1⟩
theorem mul_lt_of {wide q k : Nat} (h : q < k) : wide * q + wide ≤ wide * k := by
  have : wide * (q + 1) ≤ wide * k := Nat.mul_le_mul_left _ h
  rw [Nat.mul_add, Nat.mul_one] at this
  exact this
set_option maxRecDepth 100000 in
set_option maxHeartbeats 2000000 in
theorem chunk1_in (F : Fence) (n : Nat) (h94 : F.fn 94) (hro : F.round = none) (hn : 1 ≤ n) (l Bs Bn n₀ : Nat) (A : Option Addr) (len c wide k : Nat) (hlen : len = wide * k) (hw : 1 ≤ wide) (hcap : len ≤ c) (hbig : len ≤ 4611686018427387904) (hw2 : wide ≤ 4611686018427387904) (hBsn : Bs < n₀) (hBnn : Bn < n₀) (J Jx : List Nat → World → Prop)
    (hY : ∀ pre x W, J pre W → pre.length < k → YieldAt F (n - 1) Try.prog l #[rowS A wide x] W fun e W' =>
      (e = .returned (.bool true) ∧ J (pre ++ [x]) W' ∧ Below n₀ W W') ∨ (e = .returned (.bool false) ∧ Jx (pre ++ [x]) W'))
    (W : World) (hAb : AbidesFrom W.heap.size J) (hBs : W.cell? ⟨Bs, 0, none⟩ = some (.slice A len c)) (hBn : W.cell? ⟨Bn, 0, none⟩ = some (.int .i64 wide)) (h0 : J [] W) :
    CallsIn F n Try.prog 94 #[.func (.yield l) #[] #[], .pointer (some ⟨Bs, 0, none⟩), .pointer (some ⟨Bn, 0, none⟩)] W fun e W' => (∃ v, e = .returned v) ∧
      ((∃ ys, ys = List.range k ∧ J ys W') ∨ (∃ pre, (∃ q, q ≤ k ∧ pre = List.range q) ∧ Jx pre W')) := by
  refine callsIn_of_wp Try.func94 rfl h94 ?_ hro
  simp only [Try.ntmps94, List.size_toArray, List.length_cons, List.length_nil, Nat.reduceAdd, Nat.reduceSub, Array.replicate_succ, Array.replicate_zero, List.push_toArray, List.append_toArray, List.nil_append, List.cons_append]
  gi_wp2
  gi_loopw [4] (fun i wr => ∃ q : Nat, q ≤ k ∧ i = .int .i64 ((wide * q : Nat) : Int) ∧ J (List.range q) wr ∧ Below n₀ W wr)
    (fun i _ => len - (intOf i).toNat)
  case atStart => exact ⟨0, Nat.zero_le _, by simp, h0, Below.refl _ _⟩
  case round =>
    obtain ⟨q, hq, rfl, hJs, hnx⟩ := hrel
    have hb1 := (hnx.cell (p := ⟨Bs, 0, none⟩) hBsn).trans hBs
    have hb2 := (hnx.cell (p := ⟨Bn, 0, none⟩) hBnn).trans hBn
    by_cases hlt : q < k
    · obtain ⟨fn, tmps, assign, body, hy, hR⟩ := hY _ q wr.drew (hAb _ _ _ none hJs ⟨rfl, rfl, rfl, Nat.le_refl _, fun _ _ _ => rfl⟩ (fun r e => by cases e)) (by rw [List.length_range]; exact hlt)
      have hml := mul_lt_of (wide := wide) hlt
      rw [← hlen] at hml
      have HP : Hid (wide * q + wide = wide * (q + 1)) := Lib.hid (by rw [Nat.mul_add, Nat.mul_one])
      obtain ⟨A2, c2, hcut1⟩ := cut_len A len c (wide * q) _ rfl (by omega) hcap
      have hcut2 := cut_row A len c wide q _ (((wide * q : Nat) : Int) + (wide : Int)) (((wide * q : Nat) : Int) + (wide : Int)) rfl (by omega) (by omega) hw hml hcap
      generalize hp : wide * q = p at *
      have hlt' : (p : Int) < (len : Int) := by omega
      have HPQ := Lib.hid hp; have HL := Lib.hid hlen
      have hmn : ¬ (((len - p : Nat) : Int) < (wide : Int)) := by omega
      have HQK := Lib.hid hlt
      clear hp hlen hlt
      gi_wp2
      gi_region
      all_goals gi_wp2
      all_goals refine hR.mono ?_
      all_goals rintro e W3 (⟨rfl, hJ3, hk3⟩ | ⟨rfl, hJx3⟩)
      all_goals try have hq2 : W3.cell? ⟨Bn, 0, none⟩ = some (.int .i64 wide) := (hk3.cell (p := ⟨Bn, 0, none⟩) hBnn).trans hb2
      all_goals gi_wp2
      all_goals first
        | exact ⟨⟨q + 1, HQK.out, by rw [← HP.out]; simp, by rw [List.range_succ]; exact hJ3, hnx.drew.trans hk3⟩, by simp [intOf]; omega⟩
        | (refine bodyPost_ret (results_none rfl _ _ _) rfl ?_; exact ⟨⟨_, rfl⟩, .inr ⟨_, ⟨q + 1, HQK.out, rfl⟩, by rw [List.range_succ]; exact hJx3⟩⟩)
    · obtain rfl : q = k := by omega
      have hle : ¬ (((wide * q : Nat) : Int) < (len : Int)) := by omega
      gi_wp2
      go_end0
      exact ⟨⟨_, rfl⟩, .inl hJs⟩
end Go.Proofs.Ytldfccllpnplmaa.Msi

namespace Go.Proofs.Ytldfccllpnplmaa.Msi
set_option maxRecDepth 20000
open Go.RowKit Go.Shelf Go.Maps
attribute [local go_sem] Oper.semAt_some

set_option maxHeartbeats 1000000 in
theorem chunk_in (F : Fence) (n : Nat) (h87 : F.fn 87) (hro : F.round = none) (A : Option Addr) (len c wide : Nat) (hw : 1 ≤ wide) (w : World) :
    CallsIn F n Try.prog 87 #[.slice A len c, .int .i64 wide] w fun e w' => e = .returned (.func (.func 94) #[] #[.pointer (some ⟨w.heap.size, 0, none⟩), .pointer (some ⟨w.heap.size + 1, 0, none⟩)]) ∧ w' = (w.alloc (.cells #[.slice A len c] 58)).alloc (.cells #[.int .i64 wide] 3) := by
  refine callsIn_of_wp Try.func87 rfl h87 ?_ hro
  simp only [Try.ntmps87, List.size_toArray, List.length_cons, List.length_nil, Nat.reduceAdd, Nat.reduceSub, Array.replicate_succ, Array.replicate_zero, List.push_toArray, List.append_toArray, List.nil_append, List.cons_append]
  have hlt : ¬ ((wide : Int) < 1) := by omega
  gi_wp2
  go_ret
  exact ⟨rfl, rfl⟩
/-- Chunk's value hands the rows on, in their order -/
theorem chunk_stops (F : Fence) (n : Nat) (h94 : F.fn 94) (hro : F.round = none) (hn : 1 ≤ n) (Bs Bn n₀ : Nat) (A : Option Addr) (len c wide k : Nat) (hlen : len = wide * k) (hw : 1 ≤ wide) (hcap : len ≤ c) (hbig : len ≤ 4611686018427387904) (hw2 : wide ≤ 4611686018427387904) (hBsn : Bs < n₀) (hBnn : Bn < n₀) (w : World) (hn₀ : n₀ ≤ w.heap.size)
    (hBs : w.cell? ⟨Bs, 0, none⟩ = some (.slice A len c)) (hBn : w.cell? ⟨Bn, 0, none⟩ = some (.int .i64 wide)) :
    SeqStopsK F n Try.prog 94 #[.pointer (some ⟨Bs, 0, none⟩), .pointer (some ⟨Bn, 0, none⟩)] (fun x : Nat => #[rowS A wide x]) (Below n₀) (fun ys => ys = List.range k) (fun pre => ∃ q, q ≤ k ∧ pre = List.range q) k w := fun l J Jx W hW hJ _ hY h0 =>
  chunk1_in F n h94 hro hn l Bs Bn n₀ A len c wide k hlen hw hcap hbig hw2 hBsn hBnn J Jx hY W hJ ((hW.cell (p := ⟨Bs, 0, none⟩) (by show Bs < w.heap.size; omega)).trans hBs) ((hW.cell (p := ⟨Bn, 0, none⟩) (by show Bn < w.heap.size; omega)).trans hBn) h0
theorem infoS : (Try.prog.info? 58).map (fun i => (i.zero, i.size, i.bytes)) = some (some (.slice none 0 0), 1, 24) := by kernel_rfl
def rowsS (A : Option Addr) (wide k : Nat) : List Value := (List.range k).map (rowS A wide)
theorem rowsS_succ (A : Option Addr) (wide : Nat) (pre : List Nat) (x : Nat) : (pre ++ [x]).map (rowS A wide) = pre.map (rowS A wide) ++ [rowS A wide x] := by simp
set_option maxRecDepth 100000 in
set_option maxHeartbeats 2000000 in
theorem appseq_in (F : Fence) (n : Nat) (h93 : F.fn 93) (h94 : F.fn 94) (hro : F.round = none) (hn : 3 ≤ n) (Bs Bn : Nat) (A : Option Addr) (len c wide k : Nat) (hlen : len = wide * k) (hw : 1 ≤ wide) (hcap : len ≤ c) (hbig : len ≤ 4611686018427387904) (hw2 : wide ≤ 4611686018427387904) (hk : k ≤ 1000000) (w : World) (hBsn : Bs < w.heap.size) (hBnn : Bn < w.heap.size)
    (hBs : w.cell? ⟨Bs, 0, none⟩ = some (.slice A len c)) (hBn : w.cell? ⟨Bn, 0, none⟩ = some (.int .i64 wide)) :
    CallsIn F n Try.prog 93 #[.slice none 0 0, .func (.func 94) #[] #[.pointer (some ⟨Bs, 0, none⟩), .pointer (some ⟨Bn, 0, none⟩)]] w fun e W' => ∃ v, e = .returned v ∧ W'.ownsRow w.heap.size 58 1 v k (rowsS A wide k) ∧ Below w.heap.size w W' := by
  have h1 : 1 ≤ n := by omega
  obtain ⟨i0, hi, hz0, hz1, hz2⟩ := info_parts infoS
  refine callsIn_of_wp_marks Try.func93 rfl h93 ?_ hro
  simp only [Try.ntmps93, List.size_toArray, List.length_cons, List.length_nil, Nat.reduceAdd, Nat.reduceSub, Array.replicate_succ, Array.replicate_zero, List.push_toArray, List.append_toArray, List.nil_append, List.cons_append]
  gi_wp2
  have bO := Boxed.new w 98 (.slice none 0 0)
  have hB0 : Below w.heap.size w (w.alloc (.cells #[.slice none 0 0] 98)) := (Below.refl _ w).alloc (Nat.le_refl _) _
  refine wpIn_rangeFunc_ownG hro h1 (gf := 94) (lb := #[.pointer (some ⟨Bs, 0, none⟩), .pointer (some ⟨Bn, 0, none⟩)]) rfl h94 (enters_of Try.func94 (by kernel_rfl) rfl)
    (chunk_stops F (n - 1) h94 hro (by omega) Bs Bn w.heap.size A len c wide k hlen hw hcap hbig hw2 hBsn hBnn _ (by simp) ((hB0.cell (p := ⟨Bs, 0, none⟩) hBsn).trans hBs) ((hB0.cell (p := ⟨Bn, 0, none⟩) hBnn).trans hBn)) belowK_t (belowK_b (by simp)) (Below.refl _ _) (fun _ => rfl)
    (fun pre W => (∃ v, Boxed W w.heap.size 98 v ∧ W.ownsRow w.heap.size 58 1 v pre.length (pre.map (rowS A wide)) ∧ True) ∧ Below w.heap.size w W)
    (fun _ _ _ => False)
    (OwnFrom.and (Own.from (holdsRow_own w.heap.size w.heap.size 98 58 1 (fun pre : List Nat => pre.length) (fun pre : List Nat => pre.map (rowS A wide)) (fun _ _ => True)) _) (ownFrom_below (Nat.le_refl _) (by simp)))
    (fun _ _ _ _ _ hs _ _ => hs)
    ⟨⟨_, bO, World.ownsRow_nil _ _ _ _, trivial⟩, hB0⟩
    (fun x => { tmps := #[.slice none 0 0, .func (.func 94) #[] #[.pointer (some ⟨Bs, 0, none⟩), .pointer (some ⟨Bn, 0, none⟩)], .pointer (some ⟨w.heap.size, 0, none⟩), undef, .slice none 0 0, rowS A wide x, .func (.func 94) #[] #[.pointer (some ⟨Bs, 0, none⟩), .pointer (some ⟨Bn, 0, none⟩)], rowS A wide x, undef, undef, undef, undef, undef], defers := [] }) ?assign ?body ?done ?stop
  case assign =>
    intro l x W K hK
    gi_wp2
    exact hK
  case body =>
    rintro l pre x W ⟨⟨v, hv, hrow, -⟩, hB⟩ hlt
    have hc := hv.cell
    have HX := Lib.hid (rowsS_succ A wide pre x)
    unfold rowS at HX ⊢
    generalize A.map (·.add (wide * x)) = AX at HX ⊢
    have hh2 : pre.length + 1 ≤ maxLen := by simp [maxLen]; omega
    have hh3 : (pre.length + 1) * 24 ≤ 140737488355328 := by omega
    have hh4 : w.heap.size ≤ (W.alloc (.cells #[.slice AX wide wide] 58)).heap.size := by have := hB.size; simp; omega
    gi_wp2_with (gi_at_builtin; refine wpListIn_append_own _ rfl _ _ 98 rfl w.heap.size 58 i0 (.slice none 0 0) 1 24 Try.underlying98 hi hz0 hz1 hz2 rfl (by decide) _ _ _ rfl (hrow.alloc _) ⟨W.heap.size, 0, none⟩ 1 1 [.slice AX wide wide] rfl rfl (cell_one_new _ _ _) (by simp [Value.oneCell']) hh2 hh3 hh4 ?_; intro v' w1 hown' hgrow _; obtain ⟨g', cap', rfl⟩ := ownsRow_succ hown'; obtain ⟨hv1, hv2, hr2, hk2, hb2⟩ := hv.appended (by decide) hrow hB.size (Nat.le_refl _) hown' hgrow; have hc1 := hv1.cell; have hf1 := hv1.frozen)
    exact ⟨hk2.from _, hb2, ⟨_, hv2, by
      have e := HX.out
      rw [e, List.length_append]; exact hr2, trivial⟩, hB.trans hb2⟩
  case done =>
    rintro D ys W hD rfl ⟨⟨v, hv, hrow, -⟩, hB⟩ hK
    have hc := hv.cell
    gi_wp2
    refine ⟨by simp, .inl ⟨_, _, rfl, run_takeDeferred hK, ?_⟩⟩
    refine ⟨_, results_tmp rfl _ _ _, v, rfl, ?_, hB.trans (belowK_b (w := w) (Nat.le_refl _) W D _ _ (by simp at hD; omega) hK rfl rfl)⟩
    have hr3 := ownsRow_putObj hrow (.deferred none) hK rfl
    rw [List.length_range] at hr3
    exact hr3
  case stop =>
    rintro D c pre W _ _ h _
    exact h.elim
set_option maxHeartbeats 1000000 in
theorem collect_in (F : Fence) (n : Nat) (h86 : F.fn 86) (h93 : F.fn 93) (h94 : F.fn 94) (hro : F.round = none) (hn : 4 ≤ n) (Bs Bn : Nat) (A : Option Addr) (len c wide k : Nat) (hlen : len = wide * k) (hw : 1 ≤ wide) (hcap : len ≤ c) (hbig : len ≤ 4611686018427387904) (hw2 : wide ≤ 4611686018427387904) (hk : k ≤ 1000000) (w : World) (hBsn : Bs < w.heap.size) (hBnn : Bn < w.heap.size)
    (hBs : w.cell? ⟨Bs, 0, none⟩ = some (.slice A len c)) (hBn : w.cell? ⟨Bn, 0, none⟩ = some (.int .i64 wide)) :
    CallsIn F n Try.prog 86 #[.func (.func 94) #[] #[.pointer (some ⟨Bs, 0, none⟩), .pointer (some ⟨Bn, 0, none⟩)]] w fun e W' => ∃ v, e = .returned v ∧ W'.ownsRow w.heap.size 58 1 v k (rowsS A wide k) ∧ Below w.heap.size w W' := by
  have HC := Lib.hid (appseq_in F (n - 1) h93 h94 hro (by omega) Bs Bn A len c wide k hlen hw hcap hbig hw2 hk w hBsn hBnn hBs hBn)
  have h1 : 1 ≤ n := by omega
  refine callsIn_of_wp Try.func86 rfl h86 ?_ hro
  simp only [Try.ntmps86, List.size_toArray, List.length_cons, List.length_nil, Nat.reduceAdd, Nat.reduceSub, Array.replicate_succ, Array.replicate_zero, List.push_toArray, List.append_toArray, List.nil_append, List.cons_append]
  gi_wp2_with (gi_at_call 93; refine HC.out.mono ?_; rintro e w2 ⟨v, rfl, hrow, hb⟩)
  go_ret
  exact ⟨_, rfl, hrow, hb⟩
theorem collect_c (Bs Bn : Nat) (A : Option Addr) (len c wide k : Nat) (hlen : len = wide * k) (hw : 1 ≤ wide) (hcap : len ≤ c) (hbig : len ≤ 4611686018427387904) (hw2 : wide ≤ 4611686018427387904) (hk : k ≤ 1000000) (w : World) (hBsn : Bs < w.heap.size) (hBnn : Bn < w.heap.size)
    (hBs : w.cell? ⟨Bs, 0, none⟩ = some (.slice A len c)) (hBn : w.cell? ⟨Bn, 0, none⟩ = some (.int .i64 wide)) :
    Calls Try.prog 86 #[.func (.func 94) #[] #[.pointer (some ⟨Bs, 0, none⟩), .pointer (some ⟨Bn, 0, none⟩)]] w fun e W' => ∃ v, e = .returned v ∧ W'.ownsRow w.heap.size 58 1 v k (rowsS A wide k) ∧ Below w.heap.size w W' :=
  (callsIn_wide (n := 4)).1 (collect_in Fence.wide 4 trivial trivial trivial rfl (by omega) Bs Bn A len c wide k hlen hw hcap hbig hw2 hk w hBsn hBnn hBs hBn)
theorem chunk_c (A : Option Addr) (len c wide : Nat) (hw : 1 ≤ wide) (w : World) :
    Calls Try.prog 87 #[.slice A len c, .int .i64 wide] w fun e w' => e = .returned (.func (.func 94) #[] #[.pointer (some ⟨w.heap.size, 0, none⟩), .pointer (some ⟨w.heap.size + 1, 0, none⟩)]) ∧ w' = (w.alloc (.cells #[.slice A len c] 58)).alloc (.cells #[.int .i64 wide] 3) :=
  (callsIn_wide (n := 4)).1 (chunk_in Fence.wide 4 trivial rfl A len c wide hw w)
end Go.Proofs.Ytldfccllpnplmaa.Msi

namespace Go.Proofs.Ytldfccllpnplmaa.Msw
set_option maxRecDepth 20000
open Go.RowKit
open Cl Bk Ms Clw Bkw Wire
open Chgw (hat hbe ret_bool vw)
open Rg (bal)

/-- the numbers of the rows that bytes begin with, behind the number that counts them -/
def rowsG (wide most : Nat) (b : List UInt8) : Option (List Nat × List UInt8) := match takeF b with
  | none => none
  | some (v, r) => if most < v then none else getsF (wide * v) r
theorem getsF_len : ∀ (k : Nat) (b : List UInt8) (ns : List Nat) (r : List UInt8), getsF k b = some (ns, r) → ns.length = k
  | 0, b, ns, r, h => by cases h; rfl
  | k + 1, b, ns, r, h => by
    rw [getsF] at h
    simp only [Option.bind_eq_some_iff, Option.map_eq_some_iff] at h
    obtain ⟨x, _, y, hy, e⟩ := h
    cases e
    rw [List.length_cons, getsF_len k _ y.1 y.2 hy]
/-- rows of numbers in slices -/
def RetRows (w : World) (wide : Nat) (o : Option (List Nat × List UInt8)) (e : Ending) (w' : World) : Prop :=
  Below w.heap.size w w' ∧ match o with
  | none => e = .returned (.tuple #[.slice none 0 0, .slice none 0 0, .bool false])
  | some (ns, r) => ∃ A0 k c0 AN A n c, e = .returned (.tuple #[.slice A0 k c0, .slice A n c, .bool true]) ∧ ns.length = wide * k ∧ Rd w' w'.heap.size A0 ((List.range k).map (Msi.rowS AN wide)) ∧ Rd w' w'.heap.size AN (ns.map N64) ∧ Own w' w.heap.size A n c r
theorem ownN_cap {w : World} {base : Nat} {A : Option Addr} {n c : Nat} {ns : List Nat} (h : OwnN w base A n c ns) : n ≤ c := by
  rcases h.2.2 with ⟨_, h0⟩ | ⟨g, cap, cur, e, _, _, hcp, _⟩
  · omega
  · injection e with e1 e2 e3
    omega
theorem own_slice {w : World} {base : Nat} {T : TypeId} {v : Value} {k : Nat} {xs : List Value} (h : w.ownsRow base T 1 v k xs) : ∃ A c, v = .slice A k c := by
  rcases h.2 with ⟨rfl, h0⟩ | ⟨g, cap, cur, rfl, _⟩
  · subst h0; exact ⟨none, 0, rfl⟩
  · exact ⟨_, _, rfl⟩
set_option maxHeartbeats 400000 in
set_option maxRecDepth 100000 in
theorem takerows_c (wide most : Nat) (hw : 1 ≤ wide) (hw2 : wide ≤ 10) (hm : most ≤ 10) (hwm : wide * most ≤ 100) (A : Option Addr) (n c : Nat) (bs : List UInt8) (hn : n = bs.length) (hc : n ≤ c) (B : Nat) (w : World) (hr : Rd w B A (bs.map B8)) (hB : B ≤ w.heap.size) (hl : n ≤ big) :
    Calls Try.prog 73 #[.slice A n c, .int .i64 wide, .int .i64 most] w (RetRows w wide (rowsG wide most bs)) := by
  have HGC := Lib.hid (get_c A n c bs hn hc B w hr hB hl)
  have HLB : Hid (∀ v r, takeF bs = some (v, r) → r.length ≤ n) := Lib.hid (fun v r h => by have := takeF_len h; omega)
  have wm : IntKind.u64.wrap (most : Int) = most := Lgw.wrapu most (by omega)
  clear hr hn
  cases ht : takeF bs with
  | none =>
    have HG := Lib.hid (show rowsG wide most bs = none from by unfold rowsG; rw [ht])
    rw [ht] at HGC
    clear ht HLB
    go_enter Try.func73, Try.ntmps73
    go_wp2_with fail
    refine HGC.out.mono ?_
    rintro e w2 ⟨hb, h3⟩
    have h3' : e = .returned (.tuple #[.int .u64 0, .slice none 0 0, .int .i64 21]) := h3
    subst h3'
    clear h3
    have HB := Lib.hid hb; clear hb
    go_wp2
    go_ret3
    rw [HG.out]
    exact ⟨HB.out, rfl⟩
  | some x =>
  obtain ⟨v, r⟩ := x
  rw [ht] at HGC
  have HRL := Lib.hid (HLB.out v r ht)
  by_cases hv : most < v
  · have HG := Lib.hid (show rowsG wide most bs = none from by unfold rowsG; rw [ht]; exact if_pos hv)
    have hgt : (most : Int) < (v : Int) := by omega
    clear ht HLB hv
    go_enter Try.func73, Try.ntmps73
    go_wp2_with fail
    refine HGC.out.mono ?_
    rintro e w2 ⟨hb, h3⟩
    obtain ⟨A2, n2, c2, h3', ho⟩ : ∃ A n c, e = .returned (.tuple #[.int .u64 v, .slice A n c, .int .i64 0]) ∧ Own w2 w.heap.size A n c r := h3
    subst h3'
    have HB := Lib.hid hb; clear hb ho
    go_wp2
    go_ret3
    rw [HG.out]
    exact ⟨HB.out, rfl⟩
  have HG := Lib.hid (show rowsG wide most bs = getsF (wide * v) r from by unfold rowsG; rw [ht]; exact if_neg hv)
  have hgt : ¬ (most : Int) < (v : Int) := by omega
  have hvm : v ≤ most := by omega
  have hwv : wide * v ≤ 100 := Nat.le_trans (Nat.mul_le_mul_left _ hvm) hwm
  have wv : IntKind.i64.wrap (v : Int) = v := by rw [IntKind.wrap_i64]; omega
  have hmul : (wide : Int) * (v : Int) = ((wide * v : Nat) : Int) := by simp
  have HGL := Lib.hid (fun ns r2 h => getsF_len (wide * v) r ns r2 h)
  clear ht HLB hv hwm
  generalize hp : wide * v = p at hwv hmul HG HGL
  have HPV := Lib.hid hp; clear hp
  go_enter Try.func73, Try.ntmps73
  go_wp2_with fail
  refine HGC.out.mono ?_
  rintro e w2 ⟨hb, h3⟩
  obtain ⟨A2, n2, c2, h3', ho⟩ : ∃ A n c, e = .returned (.tuple #[.int .u64 v, .slice A n c, .int .i64 0]) ∧ Own w2 w.heap.size A n c r := h3
  subst h3'
  have HB := Lib.hid hb; have HO := Lib.hid ho; clear hb ho
  go_wp2_with fail
  refine (gets_in A2 n2 c2 p r HO.out.1 HO.out.cap w2.heap.size w2 HO.out.rd (Nat.le_refl _) (by have := HO.out.1; have := HRL.out; omega) hwv).mono ?_
  rintro e w3 ⟨hb, h3⟩
  cases hg : getsF p r with
  | none =>
    rw [hg] at h3 HG
    have h3' : e = .returned (.tuple #[.slice none 0 0, .slice none 0 0, .int .i64 21]) := h3
    subst h3'
    have HB := Lib.hid (HB.out.trans (hb.mono HB.out.size)); clear hb h3 hg
    go_wp2
    go_ret3
    rw [HG.out]
    exact ⟨HB.out, rfl⟩
  | some x =>
    obtain ⟨ns, r2⟩ := x
    rw [hg] at h3 HG
    have HNL := Lib.hid (HGL.out ns r2 hg)
    obtain ⟨A4, n4, c4, A5, n5, c5, h3', ho4, ho5⟩ : ∃ A n c A2 n2 c2, e = .returned (.tuple #[.slice A n c, .slice A2 n2 c2, .int .i64 0]) ∧ OwnN w3 w2.heap.size A n c ns ∧ Own w3 w2.heap.size A2 n2 c2 r2 := h3
    subst h3'
    have HO4 := Lib.hid ho4; have HO5 := Lib.hid (ho5.base HB.out.size)
    have HB := Lib.hid (HB.out.trans (hb.mono HB.out.size)); clear hb hg ho4 ho5
    have hn4 : n4 = p := by rw [HO4.out.1, HNL.out]
    subst hn4
    go_wp2_with fail
    refine (Msi.chunk_c A4 n4 c4 wide hw w3).mono ?_
    rintro e w4 ⟨rfl, hw4⟩
    have bN := Boxed.new (w3.alloc (.cells #[.slice A4 n4 c4] 58)) 3 (.int .i64 wide)
    have bS := (Boxed.new w3 58 (.slice A4 n4 c4)).alloc (.cells #[.int .i64 wide] 3)
    rw [World.size_alloc] at bN
    have hb4 : Below w3.heap.size w3 w4 := by rw [hw4]; exact bal (bal (Below.refl _ _) (Nat.le_refl _) _) (Nat.le_refl _) _
    rw [← hw4] at bN bS
    have HC := Lib.hid (Msi.collect_c w3.heap.size (w3.heap.size + 1) A4 n4 c4 wide v HPV.out.symm hw (ownN_cap HO4.out) (by omega) (by omega) (by omega) w4 bS.lt bN.lt bS.cell bN.cell)
    have HB4 := Lib.hid hb4
    clear hw4 bN bS hb4
    generalize w3.heap.size + 1 = g2 at HC ⊢
    generalize hg1 : w3.heap.size = g1 at HC ⊢
    clear hg1
    go_wp2_with fail
    refine HC.out.mono ?_
    rintro e w5 ⟨v0, rfl, hrow, hb5⟩
    obtain ⟨A6, c6, rfl⟩ := own_slice hrow
    have HROW := Lib.hid hrow; have HB5 := Lib.hid (HB4.out.trans (hb5.mono HB4.out.size)); clear hrow hb5
    go_wp2
    go_ret3
    rw [HG.out]
    refine ⟨HB.out.trans (HB5.out.mono HB.out.size), A6, v, c6, A4, A5, n5, c5, rfl, ?_, Rd.of_own HROW.out, ?_, ?_⟩
    · rw [HNL.out, HPV.out]
    · exact (HO4.out.rd.below HB5.out).more HB5.out.size
    · exact HO5.out.below HB5.out (Nat.le_refl _)
end Go.Proofs.Ytldfccllpnplmaa.Msw

namespace Go.Proofs.Ytldfccllpnplmaa.Msw
set_option maxRecDepth 20000
open Go.RowKit
open Cl Bk Ms Clw Bkw Wire
open Crc hiding zero
open Lg (iw vA vD iw_to)
open Chgw (hat hbe ret_bool vw)
open Rg (bal)

def gt (n : List Nat) (i : Nat) : Nat := (n[i]?).getD 0
def vwG (x : Nat) : Int × Int := ((vA (iw x) : Int), (vD (iw x) : Int))
def cellG (c : List Nat) (j : Nat) : C := (iw (gt c (2 * j)), vwG (gt c (2 * j + 1)))
def entG (e : List Nat) (j : Nat) : E := ⟨iw (gt e (4 * j)), iw (gt e (4 * j + 1)), iw (gt e (4 * j + 2)), Flt.clean (gt e (4 * j + 3))⟩
def cellsG (c : List Nat) (k : Nat) : List C := (List.range k).map (cellG c)
def entsG (e : List Nat) (k : Nat) : List E := (List.range k).map (entG e)
def mkG (h c e : List Nat) : M := ⟨iw (gt h 0), iw (gt h 1), iw (gt h 2), iw (gt h 3), iw (gt h 4), (vwG (gt h 5)).1, (vwG (gt h 5)).2, cellsG c (c.length / 2), entsG e (e.length / 4)⟩
/-- what a message's forms seem to say -/
def guessG (b : List UInt8) : Option M := match getsF 6 b with
  | none => none
  | some (h, r) => match rowsG 2 6 r with
    | none => none
    | some (c, r2) => match rowsG 4 4 r2 with
      | none => none
      | some (e, _) => some (mkG h c e)
def readG (x : List UInt8) : Option M := if 328 < x.length then none else match openF x with
  | none => none
  | some b => match guessG b with
    | none => none
    | some m => if rightM m = true ∧ frameM m = x then some m else none
theorem cellsG_succ (c : List Nat) (k : Nat) : cellsG c (k + 1) = cellsG c k ++ [cellG c k] := by unfold cellsG; rw [List.range_succ, List.map_append]; rfl
theorem entsG_succ (c : List Nat) (k : Nat) : entsG c (k + 1) = entsG c k ++ [entG c k] := by unfold entsG; rw [List.range_succ, List.map_append]; rfl
theorem vwG_nm {a d : Int} (h : rvC a d = true) : vwG (Lg.nm a d) = (a, d) := by
  have h := of_decide_eq_true h
  have e : Lg.nm a d = 64 * a.toNat + d.toNat := by unfold Lg.nm; omega
  unfold vwG
  rw [e, Lg.iw_small _ (by omega)]
  unfold vA vD
  rw [if_pos (by omega), if_pos (by omega), Prod.mk.injEq]
  omega
theorem rowsG_yes (wide most v : Nat) (ns : List Nat) (r : List UInt8) (hv : v ≤ most) (hm : most ≤ 10) (hl : ns.length = wide * v) (hw : ∀ n ∈ ns, W64 n) : rowsG wide most (form v ++ (ns.flatMap form ++ r)) = some (ns, r) := by
  unfold rowsG
  rw [takeF_form v _ (w64_small (by omega))]
  simp only
  rw [if_neg (by omega), ← hl, getsF_form ns r hw]
theorem flat_gt {α : Type} {f : α → List Nat} {c : Nat} (hf : ∀ x, (f x).length = c) (l : List α) (k : Nat) (x : α) (h : l[k]? = some x) (i : Nat) (hi : i < c) : gt (l.flatMap f) (c * k + i) = gt (f x) i := by
  unfold gt
  rw [flat_get hf l k x h i hi]
theorem guess_yes {m : M} (h : Ok m) (hc : cnM m = m) : guessG (bodyM m) = some m := by
  have h0 := h.1
  rw [rightM_iff, headM_iff] at h0
  obtain ⟨h1, h2, h3, h4, _⟩ := h0
  have hl := cl_len h3
  have hb := book_len h4
  have hW := numsM_ok h
  have eB : bodyM m = [m.kind.toNat, m.src.toNat, m.dst.toNat, m.inc.toNat, m.seq.toNat, Lg.nm m.va m.vd].flatMap form ++ (form m.cells.length ++ ((m.cells.flatMap cellN).flatMap form ++ (form m.book.length ++ ((m.book.flatMap entN).flatMap form ++ [])))) := by
    unfold bodyM numsM headN
    simp
  have w1 : ∀ n ∈ [m.kind.toNat, m.src.toNat, m.dst.toNat, m.inc.toNat, m.seq.toNat, Lg.nm m.va m.vd], W64 n := fun n hn => hW n (by
    unfold numsM headN
    simp only [List.mem_append, List.mem_cons] at hn ⊢
    simp only [List.not_mem_nil, or_false] at hn
    rcases hn with h | h | h | h | h | h <;> simp [h])
  have w2 : ∀ n ∈ m.cells.flatMap cellN, W64 n := fun n hn => hW n (by unfold numsM; simp only [List.mem_append]; exact Or.inr (Or.inl hn))
  have w3 : ∀ n ∈ m.book.flatMap entN, W64 n := fun n hn => hW n (by unfold numsM; simp only [List.mem_append, List.mem_cons]; exact Or.inr (Or.inr (Or.inr hn)))
  unfold guessG
  rw [eB, show (6 : Nat) = [m.kind.toNat, m.src.toNat, m.dst.toNat, m.inc.toNat, m.seq.toNat, Lg.nm m.va m.vd].length from rfl, getsF_form _ _ w1]
  simp only [List.length_cons, List.length_nil]
  rw [rowsG_yes 2 6 m.cells.length _ _ hl (by omega) (flat_cellN _) w2]
  simp only
  rw [rowsG_yes 4 4 m.book.length _ _ hb (by omega) (flat_entN _) w3]
  simp only
  have eC : cellsG (m.cells.flatMap cellN) ((m.cells.flatMap cellN).length / 2) = m.cells := by
    rw [flat_cellN, Nat.mul_div_cancel_left _ (by omega)]
    unfold cellsG
    apply List.ext_getElem
    · simp
    · intro k hk1 hk2
      rw [List.getElem_map, List.getElem_range]
      have hz : m.cells[k]? = some m.cells[k] := List.getElem?_eq_getElem hk2
      have hok := isCl_mem h3 (List.getElem_mem hk2)
      rw [okC_iff] at hok
      unfold cellG
      have g0 := flat_gt (f := cellN) (c := 2) (fun _ => rfl) m.cells k _ hz 0 (by omega)
      have g1 := flat_gt (f := cellN) (c := 2) (fun _ => rfl) m.cells k _ hz 1 (by omega)
      rw [Nat.add_zero] at g0
      rw [g0, g1]
      generalize m.cells[k] = x at hok
      obtain ⟨x1, x2, x3⟩ := x
      show ((iw x1.toNat, vwG (Lg.nm x2 x3)) : C) = _
      simp only at hok
      rw [vwG_nm hok.2.1, iw_to x1 (by omega)]
  have eE : entsG (m.book.flatMap entN) ((m.book.flatMap entN).length / 4) = m.book := by
    rw [flat_entN, Nat.mul_div_cancel_left _ (by omega)]
    unfold entsG
    have hcb : m.book.map cnE = m.book := congrArg M.book hc
    apply List.ext_getElem
    · simp
    · intro k hk1 hk2
      rw [List.getElem_map, List.getElem_range]
      have hz : m.book[k]? = some m.book[k] := List.getElem?_eq_getElem hk2
      have hok := (chk_mem m.book (-1) h4 _ (List.getElem_mem hk2)).1
      rw [okE_iff] at hok
      unfold entG
      have g0 := flat_gt (f := entN) (c := 4) (fun _ => rfl) m.book k _ hz 0 (by omega)
      have g1 := flat_gt (f := entN) (c := 4) (fun _ => rfl) m.book k _ hz 1 (by omega)
      have g2 := flat_gt (f := entN) (c := 4) (fun _ => rfl) m.book k _ hz 2 (by omega)
      have g3 := flat_gt (f := entN) (c := 4) (fun _ => rfl) m.book k _ hz 3 (by omega)
      have hcl : cnE m.book[k] = m.book[k] := by
        have : (m.book.map cnE)[k]? = m.book[k]? := by rw [hcb]
        rw [List.getElem?_map, hz] at this
        exact Option.some.inj this
      rw [Nat.add_zero] at g0
      rw [g0, g1, g2, g3]
      generalize m.book[k] = x at hok hcl
      obtain ⟨x1, x2, x3, x4⟩ := x
      show (⟨iw x1.toNat, iw x2.toNat, iw x3.toNat, Flt.clean (Flt.clean x4)⟩ : E) = _
      unfold cnE at hcl
      simp only [E.mk.injEq, true_and] at hcl hok
      rw [hcl, hcl, iw_to x1 (by omega), iw_to x2 (by omega), iw_to x3 (by omega)]
  unfold mkG
  rw [eC, eE]
  show some (⟨iw m.kind.toNat, iw m.src.toNat, iw m.dst.toNat, iw m.inc.toNat, iw m.seq.toNat, (vwG (Lg.nm m.va m.vd)).1, (vwG (Lg.nm m.va m.vd)).2, m.cells, m.book⟩ : M) = some m
  rw [vwG_nm h2, iw_to m.kind (by omega), iw_to m.src (by omega), iw_to m.dst (by omega), iw_to m.inc (by omega), iw_to m.seq (by omega)]
theorem gt_w {n : List Nat} (h : ∀ x ∈ n, W64 x) (i : Nat) : gt n i < 18446744073709551616 := by
  unfold gt
  cases hi : n[i]? with
  | none => simp
  | some x => exact h x (List.mem_of_getElem? hi)
theorem rowsG_w {wide most : Nat} {b : List UInt8} {ns : List Nat} {r : List UInt8} (h : rowsG wide most b = some (ns, r)) : ∀ x ∈ ns, W64 x := by
  unfold rowsG at h
  cases ht : takeF b with
  | none => rw [ht] at h; cases h
  | some y =>
    obtain ⟨v, s⟩ := y
    rw [ht] at h
    simp only at h
    by_cases hv : most < v
    · rw [if_pos hv] at h; cases h
    · rw [if_neg hv] at h
      exact (Lgw.gets_len _ _ _ _ h).2
theorem guess_cn {b : List UInt8} {m : M} (h : guessG b = some m) : cnM m = m ∧ ∀ e ∈ m.book, Flt.U64 e.val := by
  unfold guessG at h
  cases h1 : getsF 6 b with
  | none => rw [h1] at h; cases h
  | some x =>
    obtain ⟨hd, r⟩ := x
    rw [h1] at h
    simp only at h
    cases h2 : rowsG 2 6 r with
    | none => rw [h2] at h; cases h
    | some y =>
      obtain ⟨c, r2⟩ := y
      rw [h2] at h
      simp only at h
      cases h3 : rowsG 4 4 r2 with
      | none => rw [h3] at h; cases h
      | some z =>
        obtain ⟨e, r3⟩ := z
        rw [h3] at h
        simp only [Option.some.injEq] at h
        subst h
        have hw := rowsG_w h3
        refine ⟨?_, ?_⟩
        · unfold cnM mkG entsG
          simp only [List.map_map]
          congr 1
          apply List.map_congr_left
          intro k _
          unfold cnE entG
          simp only [Function.comp_apply, Lg.clean_clean]
        · intro x hx
          obtain ⟨k, _, rfl⟩ := List.mem_map.1 hx
          exact Lg.u64_clean (gt_w hw _)
theorem frame_short {m : M} (h : rightM m = true) : (frameM m).length ≤ 328 := by
  have h1 := numsM_le h
  have h2 := Lg.forms_len (numsM m)
  unfold frameM bodyM
  rw [Crc.seal_len]
  omega
theorem readG_eq (x : List UInt8) : readG x = readF x := by
  cases hr : readF x with
  | some m =>
    obtain ⟨hok, hcn, hf⟩ := readF_some hr
    unfold readG
    have h1 : ¬ 328 < x.length := by have := frame_short hok.1; rw [hf] at this; omega
    have h2 : openF x = some (bodyM m) := by rw [← hf]; exact open_seal _
    rw [if_neg h1, h2]
    simp only
    rw [guess_yes hok hcn]
    simp only
    rw [if_pos ⟨hok.1, hf⟩]
  | none =>
    unfold readG
    by_cases h1 : 328 < x.length
    · rw [if_pos h1]
    · rw [if_neg h1]
      cases h2 : openF x with
      | none => rfl
      | some b =>
        simp only
        cases h3 : guessG b with
        | none => rfl
        | some m =>
          simp only
          by_cases hc : rightM m = true ∧ frameM m = x
          · exfalso
            obtain ⟨hcn, hv⟩ := guess_cn h3
            have := readF_yes (m := m) ⟨hc.1, hv⟩
            rw [hc.2, hr] at this
            cases this
          · rw [if_neg hc]
set_option maxHeartbeats 1000000 in
theorem viewof_c (n : Nat) (h : n < 18446744073709551616) (w : World) : Calls Try.prog 74 #[.int .u64 (n : Int)] w fun e w' => e = .returned (.agg #[.int .i64 (vwG n).1, .int .i64 (vwG n).2]) ∧ Below w.heap.size w w' := by
  unfold vwG
  have hw := Lgw.wrap_iw n h
  have HNM := Lib.hid (fun W => Chgw.named_c (iw n) (Lgw.iw_i64 n h) W)
  have HNS := Lib.hid (Lgw.named_iw (iw n))
  generalize iw n = t at *
  go_enter Try.func74, Try.ntmps74
  go_wp2_with fail
  have HV := Lib.hid (show Chgw.Vx (w.alloc (.cells #[.int .i64 0, .int .i64 0] 25)) w.heap.size 0 0 from hat _ _ _ rfl)
  have HB := Lib.hid (bal (Below.refl w.heap.size w) (Nat.le_refl _) (.cells #[.int .i64 0, .int .i64 0] 25))
  generalize w.alloc (.cells #[.int .i64 0, .int .i64 0] 25) = w0 at HV HB ⊢
  refine (HNM.out _).mono ?_
  rintro e w2 ⟨rfl, hb2⟩
  have HV := Lib.hid (HV.out.below hb2 HV.out.lt)
  have HB := Lib.hid (HB.out.trans (hb2.mono HB.out.size)); clear hb2
  rw [HNS.out.1, HNS.out.2]
  unfold Chgw.vw
  generalize Chgw.ge (Chgw.namedF t) = u
  have HV3 := Lib.hid (show Chgw.Vx (w2.alloc (.cells #[.int .i64 (vA t : Int), .int .i64 (vD t : Int)] 25)) w.heap.size 0 0 from hbe HV.out)
  have y0 := HV3.out.c0; have y1 := HV3.out.c1
  have f0 := frozen_of_row _ w.heap.size 0 _ _ HV3.out
  have f1 := frozen_of_row _ w.heap.size 1 _ _ HV3.out
  go_wp2
  refine bodyPost_ret (Chgw.results_view (g := w.heap.size) (a := vA t) (d := vD t) rfl rfl (HV3.out.put (vA t) (vD t))) rfl ?_
  exact ⟨rfl, (((bal HB.out (Nat.le_refl _) _).setCell (Nat.le_refl _) _).setCell (Nat.le_refl _) _)⟩
end Go.Proofs.Ytldfccllpnplmaa.Msw
