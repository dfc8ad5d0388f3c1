/- Contracts and words on which the claims of this seat stand, part 10: LgJ LgJb LgJc. -/
import Derived.Test.YtjcbdnbbdhjoiaaG01
import Derived.Test.YtjcbdnbbdhjoiaaG09
set_option linter.unusedSimpArgs false
set_option linter.unusedVariables false
namespace Go.Proofs.Ytjcbdnbbdhjoiaa.Lgw
set_option maxRecDepth 20000
open Go.RowKit
open Bk Lg Wire
open Tgw (hat hbe)
open Rg (bal)

theorem eqv (d : Nat) (a b c e : Int) (w : World) : (Op.equalIn (d + 2) 31 (.agg #[.int .i64 a, .int .i64 b]) (.agg #[.int .i64 c, .int .i64 e])).run Try.prog w = .ok (a == c && b == e) w := by
  have u3 := Try.underlying3
  have a3 := Try.isAgg3
  have z3 := Try.sizeOf3
  have hS : Try.prog.underlying 31 = some (.struct (Try.prog.fieldsOf 31)) := by kernel_rfl
  rw [run_equalIn_agg w (d + 1) 31 _ _ hS (by kernel_rfl)]
  simp only [Program.fieldsOf, Try.underlying31]
  go_simp
  by_cases h1 : a = c <;> by_cases h2 : b = e <;> simp [h1, h2]
theorem eqt (d : Nat) (a b c e : Int) (w : World) : (Op.equalIn (d + 2) 35 (.agg #[.int .i64 a, .int .i64 b]) (.agg #[.int .i64 c, .int .i64 e])).run Try.prog w = .ok (a == c && b == e) w := by
  have u3 := Try.underlying3
  have a3 := Try.isAgg3
  have z3 := Try.sizeOf3
  have hS : Try.prog.underlying 35 = some (.struct (Try.prog.fieldsOf 35)) := by kernel_rfl
  rw [run_equalIn_agg w (d + 1) 35 _ _ hS (by kernel_rfl)]
  simp only [Program.fieldsOf, Try.underlying35]
  go_simp
  by_cases h1 : a = c <;> by_cases h2 : b = e <;> simp [h1, h2]
theorem eqf (d : Nat) (w : World) : (Op.equalIn (d + 1) 36 (.float .f64 0) (.float .f64 0)).run Try.prog w = .ok true w := by
  simp [Op.equalIn, run_underlying Try.underlying36]
  decide +kernel
theorem eqc (d : Nat) (n a b m c e : Int) (w : World) : (Op.equalIn (d + 3) 33 (.agg #[.int .i64 n, .int .i64 a, .int .i64 b]) (.agg #[.int .i64 m, .int .i64 c, .int .i64 e])).run Try.prog w = .ok (n == m && (a == c && b == e)) w := by
  have u3 := Try.underlying3
  have a3 := Try.isAgg3
  have z3 := Try.sizeOf3
  have a4 := Try.isAgg31
  have z4 := Try.sizeOf31
  have hv := eqv d a b c e
  have hS : Try.prog.underlying 33 = some (.struct (Try.prog.fieldsOf 33)) := by kernel_rfl
  rw [run_equalIn_agg w (d + 2) 33 _ _ hS (by kernel_rfl)]
  simp only [Program.fieldsOf, Try.underlying33]
  go_simp
  by_cases h1 : n = m <;> by_cases h2 : a = c <;> by_cases h3 : b = e <;> simp [h1, h2, h3]
theorem eqe (d : Nat) (k a b l c e : Int) (w : World) : (Op.equalIn (d + 3) 38 (.agg #[.int .i64 k, .int .i64 a, .int .i64 b, .float .f64 0]) (.agg #[.int .i64 l, .int .i64 c, .int .i64 e, .float .f64 0])).run Try.prog w = .ok (k == l && (a == c && b == e)) w := by
  have u3 := Try.underlying3
  have a3 := Try.isAgg3
  have z3 := Try.sizeOf3
  have a4 := Try.isAgg35
  have z4 := Try.sizeOf35
  have a5 := Try.isAgg36
  have z5 := Try.sizeOf36
  have hv := eqt d a b c e
  have hf := eqf (d + 1)
  have hS : Try.prog.underlying 38 = some (.struct (Try.prog.fieldsOf 38)) := by kernel_rfl
  rw [run_equalIn_agg w (d + 2) 38 _ _ hS (by kernel_rfl)]
  simp only [Program.fieldsOf, Try.underlying38]
  go_simp
  by_cases h1 : k = l <;> by_cases h2 : a = c <;> by_cases h3 : b = e <;> simp [h1, h2, h3]
end Go.Proofs.Ytjcbdnbbdhjoiaa.Lgw

namespace Go.Proofs.Ytjcbdnbbdhjoiaa.Lgw
set_option maxRecDepth 20000
open Go.RowKit
open Bk Lg Wire
open Tgw (hat hbe)
open Rg (bal)

/-- the same record but for the value -/
def eqR (x y : R) : Bool := x.kind == y.kind && ((x.va == y.va && x.vd == y.vd) && ((x.cn == y.cn && (x.ca == y.ca && x.cd == y.cd)) && ((x.e.key == y.e.key && (x.e.num == y.e.num && x.e.node == y.e.node)) && x.n == y.n)))
theorem eq_rec (x y : R) (w : World) : (Op.equalIn 10000 40 (.agg #[.int .i64 x.kind, .int .i64 x.va, .int .i64 x.vd, .int .i64 x.cn, .int .i64 x.ca, .int .i64 x.cd, .int .i64 x.e.key, .int .i64 x.e.num, .int .i64 x.e.node, .float .f64 0, .int .i64 x.n]) (.agg #[.int .i64 y.kind, .int .i64 y.va, .int .i64 y.vd, .int .i64 y.cn, .int .i64 y.ca, .int .i64 y.cd, .int .i64 y.e.key, .int .i64 y.e.num, .int .i64 y.e.node, .float .f64 0, .int .i64 y.n])).run Try.prog w = .ok (eqR x y) w := by
  have u3 := Try.underlying3
  have a3 := Try.isAgg3
  have z3 := Try.sizeOf3
  have a4 := Try.isAgg31
  have z4 := Try.sizeOf31
  have a5 := Try.isAgg33
  have z5 := Try.sizeOf33
  have a6 := Try.isAgg38
  have z6 := Try.sizeOf38
  have hv := eqv 9997 x.va x.vd y.va y.vd
  have hc := eqc 9996 x.cn x.ca x.cd y.cn y.ca y.cd
  have he := eqe 9996 x.e.key x.e.num x.e.node y.e.key y.e.num y.e.node
  have hS : Try.prog.underlying 40 = some (.struct (Try.prog.fieldsOf 40)) := by kernel_rfl
  unfold eqR
  rw [show (10000 : Nat) = 9999 + 1 from rfl, run_equalIn_agg w 9999 40 _ _ hS (by kernel_rfl)]
  simp only [Program.fieldsOf, Try.underlying40]
  generalize (x.va == y.va && x.vd == y.vd) = p at *
  generalize (x.cn == y.cn && (x.ca == y.ca && x.cd == y.cd)) = q at *
  generalize (x.e.key == y.e.key && (x.e.num == y.e.num && x.e.node == y.e.node)) = t at *
  go_simp
  cases p <;> cases q <;> cases t <;> by_cases h1 : x.kind = y.kind <;> by_cases h2 : x.n = y.n <;> simp [h1, h2]
theorem alikeR_eq (x y : R) : alikeR x y = (Flt.sameB x.e.val y.e.val && eqR x y) := by
  refine Bool.eq_iff_iff.2 ?_
  rw [alikeR_iff, alike_iff]
  unfold Flt.sameB eqR
  simp only [Bool.and_eq_true, decide_eq_true_eq, beq_iff_eq]
  constructor
  · rintro ⟨h1, h2, h3, h4, h5, h6, h7, h8, h9, h10, h11⟩
    exact ⟨h11, h1, ⟨h2, h3⟩, ⟨h4, h5, h6⟩, ⟨h8, h9, h10⟩, h7⟩
  · rintro ⟨h11, h1, ⟨h2, h3⟩, ⟨h4, h5, h6⟩, ⟨h8, h9, h10⟩, h7⟩
    exact ⟨h1, h2, h3, h4, h5, h6, h7, h8, h9, h10, h11⟩
set_option maxHeartbeats 1000000 in
theorem same_rec_c (x y : R) (w : World) : Calls Try.prog 48 #[rvv x, rvv y] w fun e w' => e = .returned (.bool (alikeR x y)) ∧ Below w.heap.size w w' := by
  have heq := eq_rec x y
  have HA := Lib.hid (alikeR_eq x y)
  have hsf := store_flt
  generalize alikeR x y = r at HA ⊢
  generalize eqR x y = q at HA heq
  have HS := Lib.hid (fun W => Nmw.same_c x.e.val y.e.val W)
  generalize Flt.sameB x.e.val y.e.val = v at HA HS
  unfold rvv
  go_enter Try.func48, Try.ntmps48
  go_wp2_with fail
  have HX := Lib.hid (show Rx ((w.alloc (.cells #[.int .i64 x.kind, .int .i64 x.va, .int .i64 x.vd, .int .i64 x.cn, .int .i64 x.ca, .int .i64 x.cd, .int .i64 x.e.key, .int .i64 x.e.num, .int .i64 x.e.node, .float .f64 x.e.val, .int .i64 x.n] 40)).alloc (.cells #[.int .i64 y.kind, .int .i64 y.va, .int .i64 y.vd, .int .i64 y.cn, .int .i64 y.ca, .int .i64 y.cd, .int .i64 y.e.key, .int .i64 y.e.num, .int .i64 y.e.node, .float .f64 y.e.val, .int .i64 y.n] 40)) w.heap.size x from hbe (hat _ _ _ rfl))
  have HY := Lib.hid (show Rx ((w.alloc (.cells #[.int .i64 x.kind, .int .i64 x.va, .int .i64 x.vd, .int .i64 x.cn, .int .i64 x.ca, .int .i64 x.cd, .int .i64 x.e.key, .int .i64 x.e.num, .int .i64 x.e.node, .float .f64 x.e.val, .int .i64 x.n] 40)).alloc (.cells #[.int .i64 y.kind, .int .i64 y.va, .int .i64 y.vd, .int .i64 y.cn, .int .i64 y.ca, .int .i64 y.cd, .int .i64 y.e.key, .int .i64 y.e.num, .int .i64 y.e.node, .float .f64 y.e.val, .int .i64 y.n] 40)) (w.heap.size + 1) y from hat _ _ _ (by simp))
  have HB := Lib.hid (bal (bal (Below.refl w.heap.size w) (Nat.le_refl _) (.cells #[.int .i64 x.kind, .int .i64 x.va, .int .i64 x.vd, .int .i64 x.cn, .int .i64 x.ca, .int .i64 x.cd, .int .i64 x.e.key, .int .i64 x.e.num, .int .i64 x.e.node, .float .f64 x.e.val, .int .i64 x.n] 40)) (Nat.le_refl _) (.cells #[.int .i64 y.kind, .int .i64 y.va, .int .i64 y.vd, .int .i64 y.cn, .int .i64 y.ca, .int .i64 y.cd, .int .i64 y.e.key, .int .i64 y.e.num, .int .i64 y.e.node, .float .f64 y.e.val, .int .i64 y.n] 40))
  generalize (w.alloc (.cells #[.int .i64 x.kind, .int .i64 x.va, .int .i64 x.vd, .int .i64 x.cn, .int .i64 x.ca, .int .i64 x.cd, .int .i64 x.e.key, .int .i64 x.e.num, .int .i64 x.e.node, .float .f64 x.e.val, .int .i64 x.n] 40)).alloc (.cells #[.int .i64 y.kind, .int .i64 y.va, .int .i64 y.vd, .int .i64 y.cn, .int .i64 y.ca, .int .i64 y.cd, .int .i64 y.e.key, .int .i64 y.e.num, .int .i64 y.e.node, .float .f64 y.e.val, .int .i64 y.n] 40) = w1 at HX HY HB ⊢
  refine (HS.out _).mono ?_
  rintro e w2 ⟨rfl, rfl⟩
  obtain ⟨x0, x1, x2, x3, x4, x5, x6, x7, x8, x9, x10⟩ := HX.out.cs
  obtain ⟨y0, y1, y2, y3, y4, y5, y6, y7, y8, y9, y10⟩ := HY.out.cs
  have f0 := HX.out.frozen 0; have f1 := HX.out.frozen 1; have f2 := HX.out.frozen 2; have f3 := HX.out.frozen 3; have f4 := HX.out.frozen 4; have f5 := HX.out.frozen 5; have f6 := HX.out.frozen 6; have f7 := HX.out.frozen 7; have f8 := HX.out.frozen 8; have f9 := HX.out.frozen 9; have f10 := HX.out.frozen 10
  have g0 := HY.out.frozen 0; have g1 := HY.out.frozen 1; have g2 := HY.out.frozen 2; have g3 := HY.out.frozen 3; have g4 := HY.out.frozen 4; have g5 := HY.out.frozen 5; have g6 := HY.out.frozen 6; have g7 := HY.out.frozen 7; have g8 := HY.out.frozen 8; have g9 := HY.out.frozen 9; have g10 := HY.out.frozen 10
  cases v with
  | false =>
    go_wp2
    go_ret
    exact ⟨by rw [HA.out]; rfl, (HB.out.setCell (Nat.le_refl _) _).setCell (Nat.le_succ _) _⟩
  | true =>
    go_wp2
    all_goals
      go_ret
      exact ⟨by rw [HA.out]; rfl, (HB.out.setCell (Nat.le_refl _) _).setCell (Nat.le_succ _) _⟩
theorem right_node_c (a : Int) (w : World) : Calls Try.prog 52 #[.int .i64 a] w fun e w' => e = .returned (.bool (decide (0 ≤ a ∧ a ≤ 5))) ∧ w = w' := by
  go_enter Try.func52, Try.ntmps52
  go_wp2
  all_goals go_ret
  all_goals refine ⟨ret_bool ?_, rfl⟩
  all_goals
    rw [Bool.eq_iff_iff]
    simp only [Bool.and_eq_true, decide_eq_true_eq, Bool.false_eq_true, false_iff]
    omega
end Go.Proofs.Ytjcbdnbbdhjoiaa.Lgw

namespace Go.Proofs.Ytjcbdnbbdhjoiaa.Lgw
set_option maxRecDepth 20000
open Go.RowKit
open Bk Lg Wire
open Tgw (hat hbe)
open Rg (bal)

theorem Rx.drew {w : World} {g : Nat} {r : R} (h : Rx w g r) : Rx w.drew g r := h
set_option maxHeartbeats 6000000 in
theorem own_of_c (r : R) (w : World) : Calls Try.prog 49 #[rvv r] w fun e w' => e = .returned (rvv (ownR r)) ∧ Below w.heap.size w w' := by
  have hsf := store_flt
  have HPO : Hid (∀ s, ownR r = s → ∀ w', Below w.heap.size w w' → (fun (e : Ending) w' => e = .returned (rvv (ownR r)) ∧ Below w.heap.size w w') (.returned (rvv s)) w') := Lib.hid (fun s h w' hb => by subst h; exact ⟨rfl, hb⟩)
  generalize (fun (e : Ending) w' => e = .returned (rvv (ownR r)) ∧ Below w.heap.size w w') = PP at HPO ⊢
  unfold rvv
  go_enter Try.func49, Try.ntmps49
  go_upto_region 2 with (fail)
  have HX := Lib.hid (show Rx (((w.alloc (.cells #[.int .i64 r.kind, .int .i64 r.va, .int .i64 r.vd, .int .i64 r.cn, .int .i64 r.ca, .int .i64 r.cd, .int .i64 r.e.key, .int .i64 r.e.num, .int .i64 r.e.node, .float .f64 r.e.val, .int .i64 r.n] 40)).alloc (.cells #[.int .i64 0, .int .i64 0, .int .i64 0, .int .i64 0, .int .i64 0, .int .i64 0, .int .i64 0, .int .i64 0, .int .i64 0, .float .f64 0, .int .i64 0] 40)).alloc (.cells #[.int .i64 r.kind, .int .i64 0, .int .i64 0, .int .i64 0, .int .i64 0, .int .i64 0, .int .i64 0, .int .i64 0, .int .i64 0, .float .f64 0, .int .i64 0] 40)) w.heap.size r from hbe (hbe (hat _ _ _ rfl)))
  have HZ := Lib.hid (show Rx (((w.alloc (.cells #[.int .i64 r.kind, .int .i64 r.va, .int .i64 r.vd, .int .i64 r.cn, .int .i64 r.ca, .int .i64 r.cd, .int .i64 r.e.key, .int .i64 r.e.num, .int .i64 r.e.node, .float .f64 r.e.val, .int .i64 r.n] 40)).alloc (.cells #[.int .i64 0, .int .i64 0, .int .i64 0, .int .i64 0, .int .i64 0, .int .i64 0, .int .i64 0, .int .i64 0, .int .i64 0, .float .f64 0, .int .i64 0] 40)).alloc (.cells #[.int .i64 r.kind, .int .i64 0, .int .i64 0, .int .i64 0, .int .i64 0, .int .i64 0, .int .i64 0, .int .i64 0, .int .i64 0, .float .f64 0, .int .i64 0] 40)) (w.heap.size + 1) zeroR from hbe (hat _ _ _ (by simp)))
  have HO := Lib.hid (show Rx (((w.alloc (.cells #[.int .i64 r.kind, .int .i64 r.va, .int .i64 r.vd, .int .i64 r.cn, .int .i64 r.ca, .int .i64 r.cd, .int .i64 r.e.key, .int .i64 r.e.num, .int .i64 r.e.node, .float .f64 r.e.val, .int .i64 r.n] 40)).alloc (.cells #[.int .i64 0, .int .i64 0, .int .i64 0, .int .i64 0, .int .i64 0, .int .i64 0, .int .i64 0, .int .i64 0, .int .i64 0, .float .f64 0, .int .i64 0] 40)).alloc (.cells #[.int .i64 r.kind, .int .i64 0, .int .i64 0, .int .i64 0, .int .i64 0, .int .i64 0, .int .i64 0, .int .i64 0, .int .i64 0, .float .f64 0, .int .i64 0] 40)) (w.heap.size + 1 + 1) ⟨r.kind, 0, 0, 0, 0, 0, zero 0, 0⟩ from hat _ _ _ (by simp))
  have HB := Lib.hid (bal (bal (bal (Below.refl w.heap.size w) (Nat.le_refl _) (.cells #[.int .i64 r.kind, .int .i64 r.va, .int .i64 r.vd, .int .i64 r.cn, .int .i64 r.ca, .int .i64 r.cd, .int .i64 r.e.key, .int .i64 r.e.num, .int .i64 r.e.node, .float .f64 r.e.val, .int .i64 r.n] 40)) (Nat.le_refl _) (.cells #[.int .i64 0, .int .i64 0, .int .i64 0, .int .i64 0, .int .i64 0, .int .i64 0, .int .i64 0, .int .i64 0, .int .i64 0, .float .f64 0, .int .i64 0] 40)) (Nat.le_refl _) (.cells #[.int .i64 r.kind, .int .i64 0, .int .i64 0, .int .i64 0, .int .i64 0, .int .i64 0, .int .i64 0, .int .i64 0, .int .i64 0, .float .f64 0, .int .i64 0] 40))
  generalize ((w.alloc (.cells #[.int .i64 r.kind, .int .i64 r.va, .int .i64 r.vd, .int .i64 r.cn, .int .i64 r.ca, .int .i64 r.cd, .int .i64 r.e.key, .int .i64 r.e.num, .int .i64 r.e.node, .float .f64 r.e.val, .int .i64 r.n] 40)).alloc (.cells #[.int .i64 0, .int .i64 0, .int .i64 0, .int .i64 0, .int .i64 0, .int .i64 0, .int .i64 0, .int .i64 0, .int .i64 0, .float .f64 0, .int .i64 0] 40)).alloc (.cells #[.int .i64 r.kind, .int .i64 0, .int .i64 0, .int .i64 0, .int .i64 0, .int .i64 0, .int .i64 0, .int .i64 0, .int .i64 0, .float .f64 0, .int .i64 0] 40) = w1 at HX HZ HO HB ⊢
  generalize hgo : w.heap.size + 1 + 1 = go at HO ⊢
  generalize hgz : w.heap.size + 1 = gz at HZ ⊢
  have hne : w.heap.size ≠ go := by omega
  have hne2 : go ≠ w.heap.size := by omega
  have HNZ : Hid (gz ≠ go) := Lib.hid (by omega)
  have HG2 : Hid (w.heap.size ≤ go) := Lib.hid (by omega)
  have HG1 : Hid (w.heap.size ≤ gz) := Lib.hid (by omega)
  clear hgo hgz
  obtain ⟨k, hk⟩ : ∃ k, k = r.kind := ⟨_, rfl⟩
  rw [← hk] at HO
  obtain ⟨x0, x1, x2, x3, x4, x5, x6, x7, x8, x9, x10⟩ := HX.out.cs
  rw [← hk] at x0
  by_cases h3 : k = 3
  · have HE := Lib.hid (HPO.out ⟨3, r.va, r.vd, 0, 0, 0, zero 0, 0⟩ (by unfold ownR; rw [if_neg (by omega), if_neg (by omega), if_pos (by omega)]))
    subst h3
    clear hk
    obtain ⟨q0, q1, q2, q3, q4, q5, q6, q7, q8, q9, q10⟩ := HO.out.cs
    have e0 := HO.out.frozen 0; have e1 := HO.out.frozen 1; have e2 := HO.out.frozen 2; have e3 := HO.out.frozen 3; have e4 := HO.out.frozen 4; have e5 := HO.out.frozen 5; have e6 := HO.out.frozen 6; have e7 := HO.out.frozen 7; have e8 := HO.out.frozen 8; have e9 := HO.out.frozen 9; have e10 := HO.out.frozen 10
    go_upto_region 14 with (fail)
    clear q0 q1 q2 q3 q4 q5 q6 q7 q8 q9 q10 x0 x1 x2 x3 x4 x5 x6 x7 x8 x9 x10 e0 e1 e2 e3 e4 e5 e6 e7 e8 e9 e10
    have HY := Lib.hid ((HO.out.put1 1 (.int .i64 r.va) ⟨3, r.va, 0, 0, 0, 0, zero 0, 0⟩ rfl).put1 2 (.int .i64 r.vd) ⟨3, r.va, r.vd, 0, 0, 0, zero 0, 0⟩ rfl)
    have HZ := Lib.hid ((HZ.out.other (p := ⟨go, 1, none⟩) HNZ.out (.int .i64 r.va)).other (p := ⟨go, 2, none⟩) HNZ.out (.int .i64 r.vd))
    have HB := Lib.hid ((HB.out.setCell (p := ⟨go, 1, none⟩) HG2.out (.int .i64 r.va)).setCell (p := ⟨go, 2, none⟩) HG2.out (.int .i64 r.vd))
    generalize ((w1.setCell ⟨go, 1, none⟩ (.int .i64 r.va)).setCell ⟨go, 2, none⟩ (.int .i64 r.vd)) = wl at HY HZ HB ⊢
    obtain ⟨y0, y1, y2, y3, y4, y5, y6, y7, y8, y9, y10⟩ := HY.out.cs
    obtain ⟨z0, z1, z2, z3, z4, z5, z6, z7, z8, z9, z10⟩ := HZ.out.cs
    have f0 := HZ.out.frozen 0; have f1 := HZ.out.frozen 1; have f2 := HZ.out.frozen 2; have f3 := HZ.out.frozen 3; have f4 := HZ.out.frozen 4; have f5 := HZ.out.frozen 5; have f6 := HZ.out.frozen 6; have f7 := HZ.out.frozen 7; have f8 := HZ.out.frozen 8; have f9 := HZ.out.frozen 9; have f10 := HZ.out.frozen 10
    go_wp2
    refine bodyPost_ret (results_rec (g := gz) rfl rfl (HZ.out.put ⟨3, r.va, r.vd, 0, 0, 0, zero 0, 0⟩)) rfl ?_
    exact HE.out _ (((((((((((HB.out.setCell HG1.out _).setCell HG1.out _).setCell HG1.out _).setCell HG1.out _).setCell HG1.out _).setCell HG1.out _).setCell HG1.out _).setCell HG1.out _).setCell HG1.out _).setCell HG1.out _).setCell HG1.out _)
  by_cases h2 : k = 2
  · have HE := Lib.hid (HPO.out ⟨2, r.va, r.vd, r.cn, r.ca, r.cd, zero 0, 0⟩ (by unfold ownR; rw [if_neg (by omega), if_pos (by omega)]))
    subst h2
    clear hk
    obtain ⟨q0, q1, q2, q3, q4, q5, q6, q7, q8, q9, q10⟩ := HO.out.cs
    have e0 := HO.out.frozen 0; have e1 := HO.out.frozen 1; have e2 := HO.out.frozen 2; have e3 := HO.out.frozen 3; have e4 := HO.out.frozen 4; have e5 := HO.out.frozen 5; have e6 := HO.out.frozen 6; have e7 := HO.out.frozen 7; have e8 := HO.out.frozen 8; have e9 := HO.out.frozen 9; have e10 := HO.out.frozen 10
    go_upto_region 14 with (fail)
    clear q0 q1 q2 q3 q4 q5 q6 q7 q8 q9 q10 x0 x1 x2 x3 x4 x5 x6 x7 x8 x9 x10 e0 e1 e2 e3 e4 e5 e6 e7 e8 e9 e10
    have HY := Lib.hid (((((HO.out.put1 3 (.int .i64 r.cn) ⟨2, 0, 0, r.cn, 0, 0, zero 0, 0⟩ rfl).put1 4 (.int .i64 r.ca) ⟨2, 0, 0, r.cn, r.ca, 0, zero 0, 0⟩ rfl).put1 5 (.int .i64 r.cd) ⟨2, 0, 0, r.cn, r.ca, r.cd, zero 0, 0⟩ rfl).put1 1 (.int .i64 r.va) ⟨2, r.va, 0, r.cn, r.ca, r.cd, zero 0, 0⟩ rfl).put1 2 (.int .i64 r.vd) ⟨2, r.va, r.vd, r.cn, r.ca, r.cd, zero 0, 0⟩ rfl)
    have HZ := Lib.hid (((((HZ.out.other (p := ⟨go, 3, none⟩) HNZ.out (.int .i64 r.cn)).other (p := ⟨go, 4, none⟩) HNZ.out (.int .i64 r.ca)).other (p := ⟨go, 5, none⟩) HNZ.out (.int .i64 r.cd)).other (p := ⟨go, 1, none⟩) HNZ.out (.int .i64 r.va)).other (p := ⟨go, 2, none⟩) HNZ.out (.int .i64 r.vd))
    have HB := Lib.hid (((((HB.out.setCell (p := ⟨go, 3, none⟩) HG2.out (.int .i64 r.cn)).setCell (p := ⟨go, 4, none⟩) HG2.out (.int .i64 r.ca)).setCell (p := ⟨go, 5, none⟩) HG2.out (.int .i64 r.cd)).setCell (p := ⟨go, 1, none⟩) HG2.out (.int .i64 r.va)).setCell (p := ⟨go, 2, none⟩) HG2.out (.int .i64 r.vd))
    generalize (((((w1.setCell ⟨go, 3, none⟩ (.int .i64 r.cn)).setCell ⟨go, 4, none⟩ (.int .i64 r.ca)).setCell ⟨go, 5, none⟩ (.int .i64 r.cd)).setCell ⟨go, 1, none⟩ (.int .i64 r.va)).setCell ⟨go, 2, none⟩ (.int .i64 r.vd)) = wl at HY HZ HB ⊢
    obtain ⟨y0, y1, y2, y3, y4, y5, y6, y7, y8, y9, y10⟩ := HY.out.cs
    obtain ⟨z0, z1, z2, z3, z4, z5, z6, z7, z8, z9, z10⟩ := HZ.out.cs
    have f0 := HZ.out.frozen 0; have f1 := HZ.out.frozen 1; have f2 := HZ.out.frozen 2; have f3 := HZ.out.frozen 3; have f4 := HZ.out.frozen 4; have f5 := HZ.out.frozen 5; have f6 := HZ.out.frozen 6; have f7 := HZ.out.frozen 7; have f8 := HZ.out.frozen 8; have f9 := HZ.out.frozen 9; have f10 := HZ.out.frozen 10
    go_wp2
    refine bodyPost_ret (results_rec (g := gz) rfl rfl (HZ.out.put ⟨2, r.va, r.vd, r.cn, r.ca, r.cd, zero 0, 0⟩)) rfl ?_
    exact HE.out _ (((((((((((HB.out.setCell HG1.out _).setCell HG1.out _).setCell HG1.out _).setCell HG1.out _).setCell HG1.out _).setCell HG1.out _).setCell HG1.out _).setCell HG1.out _).setCell HG1.out _).setCell HG1.out _).setCell HG1.out _)
  by_cases h5 : k = 5
  · have HE := Lib.hid (HPO.out ⟨5, r.va, r.vd, 0, r.ca, r.cd, zero 0, 0⟩ (by unfold ownR; rw [if_neg (by omega), if_neg (by omega), if_neg (by omega), if_neg (by omega), if_pos (by omega)]))
    subst h5
    clear hk
    obtain ⟨q0, q1, q2, q3, q4, q5, q6, q7, q8, q9, q10⟩ := HO.out.cs
    have e0 := HO.out.frozen 0; have e1 := HO.out.frozen 1; have e2 := HO.out.frozen 2; have e3 := HO.out.frozen 3; have e4 := HO.out.frozen 4; have e5 := HO.out.frozen 5; have e6 := HO.out.frozen 6; have e7 := HO.out.frozen 7; have e8 := HO.out.frozen 8; have e9 := HO.out.frozen 9; have e10 := HO.out.frozen 10
    go_upto_region 14 with (fail)
    clear q0 q1 q2 q3 q4 q5 q6 q7 q8 q9 q10 x0 x1 x2 x3 x4 x5 x6 x7 x8 x9 x10 e0 e1 e2 e3 e4 e5 e6 e7 e8 e9 e10
    have HY := Lib.hid ((((HO.out.put1 4 (.int .i64 r.ca) ⟨5, 0, 0, 0, r.ca, 0, zero 0, 0⟩ rfl).put1 5 (.int .i64 r.cd) ⟨5, 0, 0, 0, r.ca, r.cd, zero 0, 0⟩ rfl).put1 1 (.int .i64 r.va) ⟨5, r.va, 0, 0, r.ca, r.cd, zero 0, 0⟩ rfl).put1 2 (.int .i64 r.vd) ⟨5, r.va, r.vd, 0, r.ca, r.cd, zero 0, 0⟩ rfl)
    have HZ := Lib.hid ((((HZ.out.other (p := ⟨go, 4, none⟩) HNZ.out (.int .i64 r.ca)).other (p := ⟨go, 5, none⟩) HNZ.out (.int .i64 r.cd)).other (p := ⟨go, 1, none⟩) HNZ.out (.int .i64 r.va)).other (p := ⟨go, 2, none⟩) HNZ.out (.int .i64 r.vd))
    have HB := Lib.hid ((((HB.out.setCell (p := ⟨go, 4, none⟩) HG2.out (.int .i64 r.ca)).setCell (p := ⟨go, 5, none⟩) HG2.out (.int .i64 r.cd)).setCell (p := ⟨go, 1, none⟩) HG2.out (.int .i64 r.va)).setCell (p := ⟨go, 2, none⟩) HG2.out (.int .i64 r.vd))
    generalize ((((w1.setCell ⟨go, 4, none⟩ (.int .i64 r.ca)).setCell ⟨go, 5, none⟩ (.int .i64 r.cd)).setCell ⟨go, 1, none⟩ (.int .i64 r.va)).setCell ⟨go, 2, none⟩ (.int .i64 r.vd)) = wl at HY HZ HB ⊢
    obtain ⟨y0, y1, y2, y3, y4, y5, y6, y7, y8, y9, y10⟩ := HY.out.cs
    obtain ⟨z0, z1, z2, z3, z4, z5, z6, z7, z8, z9, z10⟩ := HZ.out.cs
    have f0 := HZ.out.frozen 0; have f1 := HZ.out.frozen 1; have f2 := HZ.out.frozen 2; have f3 := HZ.out.frozen 3; have f4 := HZ.out.frozen 4; have f5 := HZ.out.frozen 5; have f6 := HZ.out.frozen 6; have f7 := HZ.out.frozen 7; have f8 := HZ.out.frozen 8; have f9 := HZ.out.frozen 9; have f10 := HZ.out.frozen 10
    go_wp2
    refine bodyPost_ret (results_rec (g := gz) rfl rfl (HZ.out.put ⟨5, r.va, r.vd, 0, r.ca, r.cd, zero 0, 0⟩)) rfl ?_
    exact HE.out _ (((((((((((HB.out.setCell HG1.out _).setCell HG1.out _).setCell HG1.out _).setCell HG1.out _).setCell HG1.out _).setCell HG1.out _).setCell HG1.out _).setCell HG1.out _).setCell HG1.out _).setCell HG1.out _).setCell HG1.out _)
  by_cases h4 : k = 4
  · have HE := Lib.hid (HPO.out ⟨4, 0, 0, 0, 0, 0, zero 0, r.n⟩ (by unfold ownR; rw [if_neg (by omega), if_neg (by omega), if_neg (by omega), if_pos (by omega)]))
    subst h4
    clear hk
    obtain ⟨q0, q1, q2, q3, q4, q5, q6, q7, q8, q9, q10⟩ := HO.out.cs
    have e0 := HO.out.frozen 0; have e1 := HO.out.frozen 1; have e2 := HO.out.frozen 2; have e3 := HO.out.frozen 3; have e4 := HO.out.frozen 4; have e5 := HO.out.frozen 5; have e6 := HO.out.frozen 6; have e7 := HO.out.frozen 7; have e8 := HO.out.frozen 8; have e9 := HO.out.frozen 9; have e10 := HO.out.frozen 10
    go_upto_region 14 with (fail)
    clear q0 q1 q2 q3 q4 q5 q6 q7 q8 q9 q10 x0 x1 x2 x3 x4 x5 x6 x7 x8 x9 x10 e0 e1 e2 e3 e4 e5 e6 e7 e8 e9 e10
    have HY := Lib.hid (HO.out.put1 10 (.int .i64 r.n) ⟨4, 0, 0, 0, 0, 0, zero 0, r.n⟩ rfl)
    have HZ := Lib.hid (HZ.out.other (p := ⟨go, 10, none⟩) HNZ.out (.int .i64 r.n))
    have HB := Lib.hid (HB.out.setCell (p := ⟨go, 10, none⟩) HG2.out (.int .i64 r.n))
    generalize (w1.setCell ⟨go, 10, none⟩ (.int .i64 r.n)) = wl at HY HZ HB ⊢
    obtain ⟨y0, y1, y2, y3, y4, y5, y6, y7, y8, y9, y10⟩ := HY.out.cs
    obtain ⟨z0, z1, z2, z3, z4, z5, z6, z7, z8, z9, z10⟩ := HZ.out.cs
    have f0 := HZ.out.frozen 0; have f1 := HZ.out.frozen 1; have f2 := HZ.out.frozen 2; have f3 := HZ.out.frozen 3; have f4 := HZ.out.frozen 4; have f5 := HZ.out.frozen 5; have f6 := HZ.out.frozen 6; have f7 := HZ.out.frozen 7; have f8 := HZ.out.frozen 8; have f9 := HZ.out.frozen 9; have f10 := HZ.out.frozen 10
    go_wp2
    refine bodyPost_ret (results_rec (g := gz) rfl rfl (HZ.out.put ⟨4, 0, 0, 0, 0, 0, zero 0, r.n⟩)) rfl ?_
    exact HE.out _ (((((((((((HB.out.setCell HG1.out _).setCell HG1.out _).setCell HG1.out _).setCell HG1.out _).setCell HG1.out _).setCell HG1.out _).setCell HG1.out _).setCell HG1.out _).setCell HG1.out _).setCell HG1.out _).setCell HG1.out _)
  by_cases h6 : k = 6
  · have HE := Lib.hid (HPO.out ⟨6, 0, 0, 0, 0, 0, zero 0, r.n⟩ (by unfold ownR; rw [if_neg (by omega), if_neg (by omega), if_neg (by omega), if_neg (by omega), if_neg (by omega), if_pos (by omega)]))
    subst h6
    clear hk
    obtain ⟨q0, q1, q2, q3, q4, q5, q6, q7, q8, q9, q10⟩ := HO.out.cs
    have e0 := HO.out.frozen 0; have e1 := HO.out.frozen 1; have e2 := HO.out.frozen 2; have e3 := HO.out.frozen 3; have e4 := HO.out.frozen 4; have e5 := HO.out.frozen 5; have e6 := HO.out.frozen 6; have e7 := HO.out.frozen 7; have e8 := HO.out.frozen 8; have e9 := HO.out.frozen 9; have e10 := HO.out.frozen 10
    go_upto_region 14 with (fail)
    clear q0 q1 q2 q3 q4 q5 q6 q7 q8 q9 q10 x0 x1 x2 x3 x4 x5 x6 x7 x8 x9 x10 e0 e1 e2 e3 e4 e5 e6 e7 e8 e9 e10
    have HY := Lib.hid (HO.out.put1 10 (.int .i64 r.n) ⟨6, 0, 0, 0, 0, 0, zero 0, r.n⟩ rfl)
    have HZ := Lib.hid (HZ.out.other (p := ⟨go, 10, none⟩) HNZ.out (.int .i64 r.n))
    have HB := Lib.hid (HB.out.setCell (p := ⟨go, 10, none⟩) HG2.out (.int .i64 r.n))
    generalize (w1.setCell ⟨go, 10, none⟩ (.int .i64 r.n)) = wl at HY HZ HB ⊢
    obtain ⟨y0, y1, y2, y3, y4, y5, y6, y7, y8, y9, y10⟩ := HY.out.cs
    obtain ⟨z0, z1, z2, z3, z4, z5, z6, z7, z8, z9, z10⟩ := HZ.out.cs
    have f0 := HZ.out.frozen 0; have f1 := HZ.out.frozen 1; have f2 := HZ.out.frozen 2; have f3 := HZ.out.frozen 3; have f4 := HZ.out.frozen 4; have f5 := HZ.out.frozen 5; have f6 := HZ.out.frozen 6; have f7 := HZ.out.frozen 7; have f8 := HZ.out.frozen 8; have f9 := HZ.out.frozen 9; have f10 := HZ.out.frozen 10
    go_wp2
    refine bodyPost_ret (results_rec (g := gz) rfl rfl (HZ.out.put ⟨6, 0, 0, 0, 0, 0, zero 0, r.n⟩)) rfl ?_
    exact HE.out _ (((((((((((HB.out.setCell HG1.out _).setCell HG1.out _).setCell HG1.out _).setCell HG1.out _).setCell HG1.out _).setCell HG1.out _).setCell HG1.out _).setCell HG1.out _).setCell HG1.out _).setCell HG1.out _).setCell HG1.out _)
  by_cases h1 : k = 1
  · have HE := Lib.hid (HPO.out ⟨1, r.va, r.vd, 0, 0, 0, r.e, 0⟩ (by unfold ownR; rw [if_pos (by omega)]))
    subst h1
    clear hk
    go_upto_region 9 with (fail)
    obtain ⟨q0, q1, q2, q3, q4, q5, q6, q7, q8, q9, q10⟩ := HO.out.cs
    have e0 := HO.out.frozen 0; have e1 := HO.out.frozen 1; have e2 := HO.out.frozen 2; have e3 := HO.out.frozen 3; have e4 := HO.out.frozen 4; have e5 := HO.out.frozen 5; have e6 := HO.out.frozen 6; have e7 := HO.out.frozen 7; have e8 := HO.out.frozen 8; have e9 := HO.out.frozen 9; have e10 := HO.out.frozen 10
    go_region
    go_upto_region 14 with (fail)
    clear q0 q1 q2 q3 q4 q5 q6 q7 q8 q9 q10 x0 x1 x2 x3 x4 x5 x6 x7 x8 x9 x10 e0 e1 e2 e3 e4 e5 e6 e7 e8 e9 e10
    have HY : Hid (Rx ((((((w1.setCell ⟨go, 1, none⟩ (.int .i64 r.va)).setCell ⟨go, 2, none⟩ (.int .i64 r.vd)).setCell ⟨go, 6, none⟩ (.int .i64 r.e.key)).setCell ⟨go, 7, none⟩ (.int .i64 r.e.num)).setCell ⟨go, 8, none⟩ (.int .i64 r.e.node)).setCell ⟨go, 9, none⟩ (.float .f64 r.e.val)).drew go ⟨1, r.va, r.vd, 0, 0, 0, r.e, 0⟩) := Lib.hid ((((((HO.out.put1 1 (.int .i64 r.va) ⟨1, r.va, 0, 0, 0, 0, zero 0, 0⟩ rfl).put1 2 (.int .i64 r.vd) ⟨1, r.va, r.vd, 0, 0, 0, zero 0, 0⟩ rfl).put1 6 (.int .i64 r.e.key) ⟨1, r.va, r.vd, 0, 0, 0, ⟨r.e.key, 0, 0, 0⟩, 0⟩ rfl).put1 7 (.int .i64 r.e.num) ⟨1, r.va, r.vd, 0, 0, 0, ⟨r.e.key, r.e.num, 0, 0⟩, 0⟩ rfl).put1 8 (.int .i64 r.e.node) ⟨1, r.va, r.vd, 0, 0, 0, ⟨r.e.key, r.e.num, r.e.node, 0⟩, 0⟩ rfl).put1 9 (.float .f64 r.e.val) ⟨1, r.va, r.vd, 0, 0, 0, r.e, 0⟩ rfl).drew
    have HZ : Hid (Rx ((((((w1.setCell ⟨go, 1, none⟩ (.int .i64 r.va)).setCell ⟨go, 2, none⟩ (.int .i64 r.vd)).setCell ⟨go, 6, none⟩ (.int .i64 r.e.key)).setCell ⟨go, 7, none⟩ (.int .i64 r.e.num)).setCell ⟨go, 8, none⟩ (.int .i64 r.e.node)).setCell ⟨go, 9, none⟩ (.float .f64 r.e.val)).drew gz zeroR) := Lib.hid ((((((HZ.out.other (p := ⟨go, 1, none⟩) HNZ.out (.int .i64 r.va)).other (p := ⟨go, 2, none⟩) HNZ.out (.int .i64 r.vd)).other (p := ⟨go, 6, none⟩) HNZ.out (.int .i64 r.e.key)).other (p := ⟨go, 7, none⟩) HNZ.out (.int .i64 r.e.num)).other (p := ⟨go, 8, none⟩) HNZ.out (.int .i64 r.e.node)).other (p := ⟨go, 9, none⟩) HNZ.out (.float .f64 r.e.val)).drew
    have HB : Hid (Below w.heap.size w ((((((w1.setCell ⟨go, 1, none⟩ (.int .i64 r.va)).setCell ⟨go, 2, none⟩ (.int .i64 r.vd)).setCell ⟨go, 6, none⟩ (.int .i64 r.e.key)).setCell ⟨go, 7, none⟩ (.int .i64 r.e.num)).setCell ⟨go, 8, none⟩ (.int .i64 r.e.node)).setCell ⟨go, 9, none⟩ (.float .f64 r.e.val)).drew) := Lib.hid ((((((HB.out.setCell (p := ⟨go, 1, none⟩) HG2.out (.int .i64 r.va)).setCell (p := ⟨go, 2, none⟩) HG2.out (.int .i64 r.vd)).setCell (p := ⟨go, 6, none⟩) HG2.out (.int .i64 r.e.key)).setCell (p := ⟨go, 7, none⟩) HG2.out (.int .i64 r.e.num)).setCell (p := ⟨go, 8, none⟩) HG2.out (.int .i64 r.e.node)).setCell (p := ⟨go, 9, none⟩) HG2.out (.float .f64 r.e.val)).drew
    generalize ((((((w1.setCell ⟨go, 1, none⟩ (.int .i64 r.va)).setCell ⟨go, 2, none⟩ (.int .i64 r.vd)).setCell ⟨go, 6, none⟩ (.int .i64 r.e.key)).setCell ⟨go, 7, none⟩ (.int .i64 r.e.num)).setCell ⟨go, 8, none⟩ (.int .i64 r.e.node)).setCell ⟨go, 9, none⟩ (.float .f64 r.e.val)).drew = wl at HY HZ HB ⊢
    obtain ⟨y0, y1, y2, y3, y4, y5, y6, y7, y8, y9, y10⟩ := HY.out.cs
    obtain ⟨z0, z1, z2, z3, z4, z5, z6, z7, z8, z9, z10⟩ := HZ.out.cs
    have f0 := HZ.out.frozen 0; have f1 := HZ.out.frozen 1; have f2 := HZ.out.frozen 2; have f3 := HZ.out.frozen 3; have f4 := HZ.out.frozen 4; have f5 := HZ.out.frozen 5; have f6 := HZ.out.frozen 6; have f7 := HZ.out.frozen 7; have f8 := HZ.out.frozen 8; have f9 := HZ.out.frozen 9; have f10 := HZ.out.frozen 10
    go_wp2
    refine bodyPost_ret (results_rec (g := gz) rfl rfl (HZ.out.put ⟨1, r.va, r.vd, 0, 0, 0, r.e, 0⟩)) rfl ?_
    exact HE.out _ (((((((((((HB.out.setCell HG1.out _).setCell HG1.out _).setCell HG1.out _).setCell HG1.out _).setCell HG1.out _).setCell HG1.out _).setCell HG1.out _).setCell HG1.out _).setCell HG1.out _).setCell HG1.out _).setCell HG1.out _)
  · skip
    have HE := Lib.hid (HPO.out ⟨k, 0, 0, 0, 0, 0, zero 0, 0⟩ (by unfold ownR; rw [if_neg (by omega), if_neg (by omega), if_neg (by omega), if_neg (by omega), if_neg (by omega), if_neg (by omega)]; try rw [hk]))
    have k1 : (k == 1) = false := by rw [beq_eq_false_iff_ne]; exact h1
    have k2 : (k == 2) = false := by rw [beq_eq_false_iff_ne]; exact h2
    have k3 : (k == 3) = false := by rw [beq_eq_false_iff_ne]; exact h3
    have k4 : (k == 4) = false := by rw [beq_eq_false_iff_ne]; exact h4
    have k5 : (k == 5) = false := by rw [beq_eq_false_iff_ne]; exact h5
    have k6 : (k == 6) = false := by rw [beq_eq_false_iff_ne]; exact h6
    clear hk
    go_upto_region 14 with (fail)
    clear x0 x1 x2 x3 x4 x5 x6 x7 x8 x9 x10
    have HY := HO
    obtain ⟨y0, y1, y2, y3, y4, y5, y6, y7, y8, y9, y10⟩ := HY.out.cs
    obtain ⟨z0, z1, z2, z3, z4, z5, z6, z7, z8, z9, z10⟩ := HZ.out.cs
    have f0 := HZ.out.frozen 0; have f1 := HZ.out.frozen 1; have f2 := HZ.out.frozen 2; have f3 := HZ.out.frozen 3; have f4 := HZ.out.frozen 4; have f5 := HZ.out.frozen 5; have f6 := HZ.out.frozen 6; have f7 := HZ.out.frozen 7; have f8 := HZ.out.frozen 8; have f9 := HZ.out.frozen 9; have f10 := HZ.out.frozen 10
    go_wp2
    refine bodyPost_ret (results_rec (g := gz) rfl rfl (HZ.out.put ⟨k, 0, 0, 0, 0, 0, zero 0, 0⟩)) rfl ?_
    exact HE.out _ (((((((((((HB.out.setCell HG1.out _).setCell HG1.out _).setCell HG1.out _).setCell HG1.out _).setCell HG1.out _).setCell HG1.out _).setCell HG1.out _).setCell HG1.out _).setCell HG1.out _).setCell HG1.out _).setCell HG1.out _)
end Go.Proofs.Ytjcbdnbbdhjoiaa.Lgw
