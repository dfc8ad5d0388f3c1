/- Contracts and words on which the claims of this seat stand, part 8: LgU LgUo LgUv. -/
import Derived.Test.YtjcbdnbbdhjoiaaG01
import Derived.Test.YtjcbdnbbdhjoiaaG07
set_option linter.unusedSimpArgs false
set_option linter.unusedVariables false
namespace Go.Proofs.Ytjcbdnbbdhjoiaa.Lgw
set_option maxRecDepth 20000
open Go.RowKit
open Bk Lg Wire
open Tgw (hat hbe)
open Rg (bal)

/-- numbers that are in memory now -/
def Sn (w : World) (A : Option Addr) (n c : Nat) (ns : List Nat) : Prop := n = ns.length ∧ n ≤ c ∧ n ≤ 140737488355328 ∧ (∀ x ∈ ns, W64 x) ∧ Rd w w.heap.size A (ns.map N64)
theorem Sn.all {w w' : World} {A : Option Addr} {n c : Nat} {ns : List Nat} (h : Sn w A n c ns) (hb : Below w.heap.size w w') : Sn w' A n c ns := ⟨h.1, h.2.1, h.2.2.1, h.2.2.2.1, (h.2.2.2.2.below hb).more hb.size⟩
set_option maxHeartbeats 1000000 in
theorem at_r (A : Option Addr) (n c : Nat) (ns : List Nat) (i : Nat) (hi : i ≤ 10) (w : World) (h : Sn w A n c ns) : Calls Try.prog 99 #[.slice A n c, .int .i64 i] w fun e w' => e = .returned (.int .i64 (atN ns i)) ∧ Below w.heap.size w w' := by
  obtain ⟨hn, _, hl, hw, hr⟩ := h
  by_cases h1 : i < n
  · obtain ⟨b, o, rfl, hb, hc⟩ := hr (by rw [List.length_map, ← hn]; omega)
    have hz : ns[i]? = some ns[i] := List.getElem?_eq_getElem (by omega)
    have hcell := hc i (N64 ns[i]) (by rw [List.getElem?_map, hz]; rfl)
    have hwx := hw ns[i] (List.getElem_mem _)
    have HA : Hid (atN ns i = if top < ns[i] then top else ns[i]) := Lib.hid (by unfold atN; rw [hz])
    generalize ns[i] = x at hcell hwx HA
    unfold W64 at hwx
    unfold top at HA
    have hcell' : w.cell? ⟨b, o + i, none⟩ = some (.int .u64 (x : Int)) := hcell
    clear hz hc hr hw hcell
    generalize atN ns i = t at HA ⊢
    go_enter Try.func99, Try.ntmps99
    go_wp2
    all_goals
      go_ret
      refine ⟨ret_int ?_, Below.refl _ _⟩
      rw [HA.out]
      split <;> omega
  · have HA : Hid (atN ns i = 1099511627776) := Lib.hid (by unfold atN top; rw [List.getElem?_eq_none (by omega)])
    have h2 : n ≤ i := by omega
    clear hr hw hn
    generalize atN ns i = t at HA ⊢
    go_enter Try.func99, Try.ntmps99
    go_wp2
    all_goals
      go_ret
      exact ⟨ret_int (by rw [HA.out]; rfl), Below.refl _ _⟩
theorem named_set (n : Nat) : (Chgw.gv (Chgw.namedF (n : Int))).1 = setA n ∧ (Chgw.gv (Chgw.namedF (n : Int))).2 = setD n := by
  unfold Chgw.namedF setA setD
  by_cases h : n < 4096
  · rw [if_pos (by omega), if_pos h, if_pos h]
    exact ⟨rfl, rfl⟩
  · rw [if_neg (by omega), if_neg h, if_neg h]
    exact ⟨rfl, rfl⟩
theorem atN_le (ns : List Nat) (i : Nat) : atN ns i ≤ 1099511627776 := by
  unfold atN top
  split
  · split <;> omega
  · omega
set_option maxHeartbeats 1000000 in
theorem set_r (A : Option Addr) (n c : Nat) (ns : List Nat) (i : Nat) (hi : i ≤ 10) (w : World) (h : Sn w A n c ns) : Calls Try.prog 100 #[.slice A n c, .int .i64 i] w fun e w' => e = .returned (.agg #[.int .i64 (setA (atN ns i)), .int .i64 (setD (atN ns i))]) ∧ Below w.heap.size w w' := by
  have HAT := Lib.hid (fun W hW => at_r A n c ns i hi W (Sn.all (w' := W) h hW))
  have hle := atN_le ns i
  have HNM := Lib.hid (fun W => Chgw.named_r (atN ns i : Int) (by omega) W)
  have HNS := Lib.hid (named_set (atN ns i))
  clear h
  generalize atN ns i = t at *
  go_enter Try.func100, Try.ntmps100
  go_wp2_with fail
  have HV := Lib.hid (show Chgw.Vx (w.alloc (.cells #[.int .i64 0, .int .i64 0] 31)) w.heap.size 0 0 from hat _ _ _ rfl)
  have HB := Lib.hid (bal (Below.refl w.heap.size w) (Nat.le_refl _) (.cells #[.int .i64 0, .int .i64 0] 31))
  generalize w.alloc (.cells #[.int .i64 0, .int .i64 0] 31) = w0 at HV HB ⊢
  refine (HAT.out _ HB.out).mono ?_
  rintro e w1 ⟨rfl, hb1⟩
  have HV := Lib.hid (HV.out.below hb1 HV.out.lt)
  have HB := Lib.hid (HB.out.trans (hb1.mono HB.out.size)); clear hb1
  go_wp2_with fail
  refine (HNM.out _).mono ?_
  rintro e w2 ⟨rfl, hb2⟩
  have HV := Lib.hid (HV.out.below hb2 HV.out.lt)
  have HB := Lib.hid (HB.out.trans (hb2.mono HB.out.size)); clear hb2
  rw [HNS.out.1, HNS.out.2]
  unfold Chgw.vw
  generalize Chgw.ge (Chgw.namedF (t : Int)) = u
  have HV3 := Lib.hid (show Chgw.Vx (w2.alloc (.cells #[.int .i64 (setA t : Int), .int .i64 (setD t : Int)] 31)) w.heap.size 0 0 from hbe HV.out)
  have y0 := HV3.out.c0; have y1 := HV3.out.c1
  have f0 := frozen_of_row _ w.heap.size 0 _ _ HV3.out
  have f1 := frozen_of_row _ w.heap.size 1 _ _ HV3.out
  go_wp2
  refine bodyPost_ret (Chgw.results_view (g := w.heap.size) (a := setA t) (d := setD t) rfl rfl (HV3.out.put (setA t) (setD t))) rfl ?_
  exact ⟨rfl, (((bal HB.out (Nat.le_refl _) _).setCell (Nat.le_refl _) _).setCell (Nat.le_refl _) _)⟩
/-- a record is answered -/
def RetRec (w : World) (r : R) (e : Ending) (w' : World) : Prop := e = .returned (rvv r) ∧ Below w.heap.size w w'
end Go.Proofs.Ytjcbdnbbdhjoiaa.Lgw

namespace Go.Proofs.Ytjcbdnbbdhjoiaa.Lgw
set_option maxRecDepth 20000
open Go.RowKit
open Bk Lg Wire
open Tgw (hat hbe)
open Rg (bal)

set_option maxHeartbeats 4000000 in
theorem guess_o (A : Option Addr) (n c : Nat) (ns : List Nat) (w : World) (h : Sn w A n c ns) (hne1 : ¬ atN ns 0 = 1) : Calls Try.prog 78 #[.slice A n c] w (RetRec w (guessR ns)) := by
  have HNE1 := Lib.hid hne1; clear hne1
  have HPO : Hid (∀ r', guessR ns = r' → ∀ w', Below w.heap.size w w' → RetRec w (guessR ns) (.returned (rvv r')) w') := Lib.hid (fun r' h w' hb => by rw [h]; exact ⟨rfl, hb⟩)
  generalize RetRec w (guessR ns) = PP at HPO ⊢
  have HAT := Lib.hid (fun (i : Nat) (hi : i ≤ 10) W hW => at_r A n c ns i hi W (Sn.all (w' := W) h hW))
  have HST := Lib.hid (fun (i : Nat) (hi : i ≤ 10) W hW => set_r A n c ns i hi W (Sn.all (w' := W) h hW))
  have HS := Lib.hid h
  clear h
  have hsf := store_flt
  go_enter Try.func78, Try.ntmps78
  go_wp2_with fail
  have HX := Lib.hid (show Rx (w.alloc (.cells #[.int .i64 0, .int .i64 0, .int .i64 0, .int .i64 0, .int .i64 0, .int .i64 0, .int .i64 0, .int .i64 0, .int .i64 0, .float .f64 0, .int .i64 0] 40)) w.heap.size zeroR from hat _ _ _ rfl)
  have HB := Lib.hid (bal (Below.refl w.heap.size w) (Nat.le_refl _) (.cells #[.int .i64 0, .int .i64 0, .int .i64 0, .int .i64 0, .int .i64 0, .int .i64 0, .int .i64 0, .int .i64 0, .int .i64 0, .float .f64 0, .int .i64 0] 40))
  generalize w.alloc (.cells #[.int .i64 0, .int .i64 0, .int .i64 0, .int .i64 0, .int .i64 0, .int .i64 0, .int .i64 0, .int .i64 0, .int .i64 0, .float .f64 0, .int .i64 0] 40) = w0 at HX HB ⊢
  refine (HAT.out 0 (by omega) _ HB.out).mono ?_
  rintro e w1 ⟨rfl, hb1⟩
  have HX := Lib.hid (HX.out.all hb1)
  have HB := Lib.hid (HB.out.trans (hb1.mono HB.out.size)); clear hb1
  obtain ⟨k, hk⟩ : ∃ k, k = atN ns 0 := ⟨_, rfl⟩
  rw [← hk]
  by_cases h3 : k = 3
  · have HE := Lib.hid (HPO.out ⟨3, setA (atN ns 1), setD (atN ns 1), 0, 0, 0, zero 0, 0⟩ (by unfold guessR; rw [← hk, if_neg (by omega), if_neg (by omega), if_pos h3]))
    subst h3
    clear hk
    go_wp2_with fail
    have HX1 := Lib.hid (show Rx (w1.alloc (.cells #[.int .i64 3, .int .i64 0, .int .i64 0, .int .i64 0, .int .i64 0, .int .i64 0, .int .i64 0, .int .i64 0, .int .i64 0, .float .f64 0, .int .i64 0] 40)) w1.heap.size ⟨3, 0, 0, 0, 0, 0, zero 0, 0⟩ from hat _ _ _ rfl)
    have HX0 := Lib.hid (show Rx (w1.alloc (.cells #[.int .i64 3, .int .i64 0, .int .i64 0, .int .i64 0, .int .i64 0, .int .i64 0, .int .i64 0, .int .i64 0, .int .i64 0, .float .f64 0, .int .i64 0] 40)) w.heap.size zeroR from hbe HX.out)
    have HB2 := Lib.hid (bal HB.out (Nat.le_refl _) (.cells #[.int .i64 3, .int .i64 0, .int .i64 0, .int .i64 0, .int .i64 0, .int .i64 0, .int .i64 0, .int .i64 0, .int .i64 0, .float .f64 0, .int .i64 0] 40))
    have HG1 := Lib.hid HB.out.size
    have HNE : Hid (w.heap.size ≠ w1.heap.size) := Lib.hid (by have := HX.out.lt; omega)
    generalize w1.alloc (.cells #[.int .i64 3, .int .i64 0, .int .i64 0, .int .i64 0, .int .i64 0, .int .i64 0, .int .i64 0, .int .i64 0, .int .i64 0, .float .f64 0, .int .i64 0] 40) = w2 at HX1 HX0 HB2 ⊢
    generalize w1.heap.size = g1 at *
    refine (HST.out 1 (by omega) _ HB2.out).mono ?_
    rintro e w3 ⟨rfl, hbq⟩
    have HX1 := Lib.hid (HX1.out.all hbq); have HX0 := Lib.hid (HX0.out.all hbq)
    have HB3 := Lib.hid (HB2.out.trans (hbq.mono HB2.out.size)); clear hbq
    generalize setA (atN ns 1) = a at *
    generalize setD (atN ns 1) = d at *
    obtain ⟨x0, x1, x2, x3, x4, x5, x6, x7, x8, x9, x10⟩ := HX1.out.cs
    have e0 := HX1.out.frozen 0; have e1 := HX1.out.frozen 1; have e2 := HX1.out.frozen 2; have e3 := HX1.out.frozen 3; have e4 := HX1.out.frozen 4; have e5 := HX1.out.frozen 5; have e6 := HX1.out.frozen 6; have e7 := HX1.out.frozen 7; have e8 := HX1.out.frozen 8; have e9 := HX1.out.frozen 9; have e10 := HX1.out.frozen 10
    go_upto_region 17 with (fail)
    clear x0 x1 x2 x3 x4 x5 x6 x7 x8 x9 x10 e0 e1 e2 e3 e4 e5 e6 e7 e8 e9 e10
    have HY := Lib.hid ((HX1.out.put1 1 (.int .i64 (a : Int)) ⟨3, a, 0, 0, 0, 0, zero 0, 0⟩ rfl).put1 2 (.int .i64 (d : Int)) ⟨3, a, d, 0, 0, 0, zero 0, 0⟩ rfl)
    have HZ := Lib.hid ((HX0.out.other (p := ⟨g1, 1, none⟩) HNE.out (.int .i64 (a : Int))).other (p := ⟨g1, 2, none⟩) HNE.out (.int .i64 (d : Int)))
    have HBL := Lib.hid ((HB3.out.setCell (p := ⟨g1, 1, none⟩) HG1.out (.int .i64 (a : Int))).setCell (p := ⟨g1, 2, none⟩) HG1.out (.int .i64 (d : Int)))
    generalize ((w3.setCell ⟨g1, 1, none⟩ (.int .i64 (a : Int))).setCell ⟨g1, 2, none⟩ (.int .i64 (d : Int))) = wl at HY HZ HBL ⊢
    obtain ⟨y0, y1, y2, y3, y4, y5, y6, y7, y8, y9, y10⟩ := HY.out.cs
    obtain ⟨z0, z1, z2, z3, z4, z5, z6, z7, z8, z9, z10⟩ := HZ.out.cs
    have f0 := HZ.out.frozen 0; have f1 := HZ.out.frozen 1; have f2 := HZ.out.frozen 2; have f3 := HZ.out.frozen 3; have f4 := HZ.out.frozen 4; have f5 := HZ.out.frozen 5; have f6 := HZ.out.frozen 6; have f7 := HZ.out.frozen 7; have f8 := HZ.out.frozen 8; have f9 := HZ.out.frozen 9; have f10 := HZ.out.frozen 10
    go_wp2
    refine bodyPost_ret (results_rec (g := w.heap.size) rfl rfl (HZ.out.put ⟨3, a, d, 0, 0, 0, zero 0, 0⟩)) rfl ?_
    exact HE.out _ (((((((((((HBL.out.setCell (Nat.le_refl _) _).setCell (Nat.le_refl _) _).setCell (Nat.le_refl _) _).setCell (Nat.le_refl _) _).setCell (Nat.le_refl _) _).setCell (Nat.le_refl _) _).setCell (Nat.le_refl _) _).setCell (Nat.le_refl _) _).setCell (Nat.le_refl _) _).setCell (Nat.le_refl _) _).setCell (Nat.le_refl _) _)
  by_cases h4 : k = 4
  · have HE := Lib.hid (HPO.out ⟨4, 0, 0, 0, 0, 0, zero 0, atN ns 1⟩ (by unfold guessR; rw [← hk, if_neg (by omega), if_neg (by omega), if_neg (by omega), if_pos (by omega), h4]; rfl))
    subst h4
    clear hk h3
    go_wp2_with fail
    have HX1 := Lib.hid (show Rx (w1.alloc (.cells #[.int .i64 4, .int .i64 0, .int .i64 0, .int .i64 0, .int .i64 0, .int .i64 0, .int .i64 0, .int .i64 0, .int .i64 0, .float .f64 0, .int .i64 0] 40)) w1.heap.size ⟨4, 0, 0, 0, 0, 0, zero 0, 0⟩ from hat _ _ _ rfl)
    have HX0 := Lib.hid (show Rx (w1.alloc (.cells #[.int .i64 4, .int .i64 0, .int .i64 0, .int .i64 0, .int .i64 0, .int .i64 0, .int .i64 0, .int .i64 0, .int .i64 0, .float .f64 0, .int .i64 0] 40)) w.heap.size zeroR from hbe HX.out)
    have HB2 := Lib.hid (bal HB.out (Nat.le_refl _) (.cells #[.int .i64 4, .int .i64 0, .int .i64 0, .int .i64 0, .int .i64 0, .int .i64 0, .int .i64 0, .int .i64 0, .int .i64 0, .float .f64 0, .int .i64 0] 40))
    have HG1 := Lib.hid HB.out.size
    have HNE : Hid (w.heap.size ≠ w1.heap.size) := Lib.hid (by have := HX.out.lt; omega)
    generalize w1.alloc (.cells #[.int .i64 4, .int .i64 0, .int .i64 0, .int .i64 0, .int .i64 0, .int .i64 0, .int .i64 0, .int .i64 0, .int .i64 0, .float .f64 0, .int .i64 0] 40) = w2 at HX1 HX0 HB2 ⊢
    generalize w1.heap.size = g1 at *
    refine (HAT.out 1 (by omega) _ HB2.out).mono ?_
    rintro e w3 ⟨rfl, hbq⟩
    have HX1 := Lib.hid (HX1.out.all hbq); have HX0 := Lib.hid (HX0.out.all hbq)
    have HB3 := Lib.hid (HB2.out.trans (hbq.mono HB2.out.size)); clear hbq
    generalize atN ns 1 = a at *
    obtain ⟨x0, x1, x2, x3, x4, x5, x6, x7, x8, x9, x10⟩ := HX1.out.cs
    have e0 := HX1.out.frozen 0; have e1 := HX1.out.frozen 1; have e2 := HX1.out.frozen 2; have e3 := HX1.out.frozen 3; have e4 := HX1.out.frozen 4; have e5 := HX1.out.frozen 5; have e6 := HX1.out.frozen 6; have e7 := HX1.out.frozen 7; have e8 := HX1.out.frozen 8; have e9 := HX1.out.frozen 9; have e10 := HX1.out.frozen 10
    go_upto_region 17 with (fail)
    clear x0 x1 x2 x3 x4 x5 x6 x7 x8 x9 x10 e0 e1 e2 e3 e4 e5 e6 e7 e8 e9 e10
    have HY := Lib.hid (HX1.out.put1 10 (.int .i64 (a : Int)) ⟨4, 0, 0, 0, 0, 0, zero 0, a⟩ rfl)
    have HZ := Lib.hid (HX0.out.other (p := ⟨g1, 10, none⟩) HNE.out (.int .i64 (a : Int)))
    have HBL := Lib.hid (HB3.out.setCell (p := ⟨g1, 10, none⟩) HG1.out (.int .i64 (a : Int)))
    generalize (w3.setCell ⟨g1, 10, none⟩ (.int .i64 (a : Int))) = wl at HY HZ HBL ⊢
    obtain ⟨y0, y1, y2, y3, y4, y5, y6, y7, y8, y9, y10⟩ := HY.out.cs
    obtain ⟨z0, z1, z2, z3, z4, z5, z6, z7, z8, z9, z10⟩ := HZ.out.cs
    have f0 := HZ.out.frozen 0; have f1 := HZ.out.frozen 1; have f2 := HZ.out.frozen 2; have f3 := HZ.out.frozen 3; have f4 := HZ.out.frozen 4; have f5 := HZ.out.frozen 5; have f6 := HZ.out.frozen 6; have f7 := HZ.out.frozen 7; have f8 := HZ.out.frozen 8; have f9 := HZ.out.frozen 9; have f10 := HZ.out.frozen 10
    go_wp2
    refine bodyPost_ret (results_rec (g := w.heap.size) rfl rfl (HZ.out.put ⟨4, 0, 0, 0, 0, 0, zero 0, a⟩)) rfl ?_
    exact HE.out _ (((((((((((HBL.out.setCell (Nat.le_refl _) _).setCell (Nat.le_refl _) _).setCell (Nat.le_refl _) _).setCell (Nat.le_refl _) _).setCell (Nat.le_refl _) _).setCell (Nat.le_refl _) _).setCell (Nat.le_refl _) _).setCell (Nat.le_refl _) _).setCell (Nat.le_refl _) _).setCell (Nat.le_refl _) _).setCell (Nat.le_refl _) _)
  by_cases h6 : k = 6
  · have HE := Lib.hid (HPO.out ⟨6, 0, 0, 0, 0, 0, zero 0, atN ns 1⟩ (by unfold guessR; rw [← hk, if_neg (by omega), if_neg (by omega), if_neg (by omega), if_pos (by omega), h6]; rfl))
    subst h6
    clear hk h3
    go_wp2_with fail
    have HX1 := Lib.hid (show Rx (w1.alloc (.cells #[.int .i64 6, .int .i64 0, .int .i64 0, .int .i64 0, .int .i64 0, .int .i64 0, .int .i64 0, .int .i64 0, .int .i64 0, .float .f64 0, .int .i64 0] 40)) w1.heap.size ⟨6, 0, 0, 0, 0, 0, zero 0, 0⟩ from hat _ _ _ rfl)
    have HX0 := Lib.hid (show Rx (w1.alloc (.cells #[.int .i64 6, .int .i64 0, .int .i64 0, .int .i64 0, .int .i64 0, .int .i64 0, .int .i64 0, .int .i64 0, .int .i64 0, .float .f64 0, .int .i64 0] 40)) w.heap.size zeroR from hbe HX.out)
    have HB2 := Lib.hid (bal HB.out (Nat.le_refl _) (.cells #[.int .i64 6, .int .i64 0, .int .i64 0, .int .i64 0, .int .i64 0, .int .i64 0, .int .i64 0, .int .i64 0, .int .i64 0, .float .f64 0, .int .i64 0] 40))
    have HG1 := Lib.hid HB.out.size
    have HNE : Hid (w.heap.size ≠ w1.heap.size) := Lib.hid (by have := HX.out.lt; omega)
    generalize w1.alloc (.cells #[.int .i64 6, .int .i64 0, .int .i64 0, .int .i64 0, .int .i64 0, .int .i64 0, .int .i64 0, .int .i64 0, .int .i64 0, .float .f64 0, .int .i64 0] 40) = w2 at HX1 HX0 HB2 ⊢
    generalize w1.heap.size = g1 at *
    refine (HAT.out 1 (by omega) _ HB2.out).mono ?_
    rintro e w3 ⟨rfl, hbq⟩
    have HX1 := Lib.hid (HX1.out.all hbq); have HX0 := Lib.hid (HX0.out.all hbq)
    have HB3 := Lib.hid (HB2.out.trans (hbq.mono HB2.out.size)); clear hbq
    generalize atN ns 1 = a at *
    obtain ⟨x0, x1, x2, x3, x4, x5, x6, x7, x8, x9, x10⟩ := HX1.out.cs
    have e0 := HX1.out.frozen 0; have e1 := HX1.out.frozen 1; have e2 := HX1.out.frozen 2; have e3 := HX1.out.frozen 3; have e4 := HX1.out.frozen 4; have e5 := HX1.out.frozen 5; have e6 := HX1.out.frozen 6; have e7 := HX1.out.frozen 7; have e8 := HX1.out.frozen 8; have e9 := HX1.out.frozen 9; have e10 := HX1.out.frozen 10
    go_upto_region 17 with (fail)
    clear x0 x1 x2 x3 x4 x5 x6 x7 x8 x9 x10 e0 e1 e2 e3 e4 e5 e6 e7 e8 e9 e10
    have HY := Lib.hid (HX1.out.put1 10 (.int .i64 (a : Int)) ⟨6, 0, 0, 0, 0, 0, zero 0, a⟩ rfl)
    have HZ := Lib.hid (HX0.out.other (p := ⟨g1, 10, none⟩) HNE.out (.int .i64 (a : Int)))
    have HBL := Lib.hid (HB3.out.setCell (p := ⟨g1, 10, none⟩) HG1.out (.int .i64 (a : Int)))
    generalize (w3.setCell ⟨g1, 10, none⟩ (.int .i64 (a : Int))) = wl at HY HZ HBL ⊢
    obtain ⟨y0, y1, y2, y3, y4, y5, y6, y7, y8, y9, y10⟩ := HY.out.cs
    obtain ⟨z0, z1, z2, z3, z4, z5, z6, z7, z8, z9, z10⟩ := HZ.out.cs
    have f0 := HZ.out.frozen 0; have f1 := HZ.out.frozen 1; have f2 := HZ.out.frozen 2; have f3 := HZ.out.frozen 3; have f4 := HZ.out.frozen 4; have f5 := HZ.out.frozen 5; have f6 := HZ.out.frozen 6; have f7 := HZ.out.frozen 7; have f8 := HZ.out.frozen 8; have f9 := HZ.out.frozen 9; have f10 := HZ.out.frozen 10
    go_wp2
    refine bodyPost_ret (results_rec (g := w.heap.size) rfl rfl (HZ.out.put ⟨6, 0, 0, 0, 0, 0, zero 0, a⟩)) rfl ?_
    exact HE.out _ (((((((((((HBL.out.setCell (Nat.le_refl _) _).setCell (Nat.le_refl _) _).setCell (Nat.le_refl _) _).setCell (Nat.le_refl _) _).setCell (Nat.le_refl _) _).setCell (Nat.le_refl _) _).setCell (Nat.le_refl _) _).setCell (Nat.le_refl _) _).setCell (Nat.le_refl _) _).setCell (Nat.le_refl _) _).setCell (Nat.le_refl _) _)
  by_cases h5 : k = 5
  · have HE := Lib.hid (HPO.out ⟨5, setA (atN ns 1), setD (atN ns 1), 0, setA (atN ns 2), setD (atN ns 2), zero 0, 0⟩ (by unfold guessR; rw [← hk, if_neg (by omega), if_neg (by omega), if_neg (by omega), if_neg (by omega), if_pos h5]))
    subst h5
    clear hk h3 h4 h6
    go_wp2_with fail
    have HX1 := Lib.hid (show Rx (w1.alloc (.cells #[.int .i64 5, .int .i64 0, .int .i64 0, .int .i64 0, .int .i64 0, .int .i64 0, .int .i64 0, .int .i64 0, .int .i64 0, .float .f64 0, .int .i64 0] 40)) w1.heap.size ⟨5, 0, 0, 0, 0, 0, zero 0, 0⟩ from hat _ _ _ rfl)
    have HX0 := Lib.hid (show Rx (w1.alloc (.cells #[.int .i64 5, .int .i64 0, .int .i64 0, .int .i64 0, .int .i64 0, .int .i64 0, .int .i64 0, .int .i64 0, .int .i64 0, .float .f64 0, .int .i64 0] 40)) w.heap.size zeroR from hbe HX.out)
    have HB2 := Lib.hid (bal HB.out (Nat.le_refl _) (.cells #[.int .i64 5, .int .i64 0, .int .i64 0, .int .i64 0, .int .i64 0, .int .i64 0, .int .i64 0, .int .i64 0, .int .i64 0, .float .f64 0, .int .i64 0] 40))
    have HG1 := Lib.hid HB.out.size
    have HNE : Hid (w.heap.size ≠ w1.heap.size) := Lib.hid (by have := HX.out.lt; omega)
    generalize w1.alloc (.cells #[.int .i64 5, .int .i64 0, .int .i64 0, .int .i64 0, .int .i64 0, .int .i64 0, .int .i64 0, .int .i64 0, .int .i64 0, .float .f64 0, .int .i64 0] 40) = w2 at HX1 HX0 HB2 ⊢
    generalize w1.heap.size = g1 at *
    refine (HST.out 1 (by omega) _ HB2.out).mono ?_
    rintro e w3 ⟨rfl, hbq⟩
    have HX1 := Lib.hid (HX1.out.all hbq); have HX0 := Lib.hid (HX0.out.all hbq)
    have HB3 := Lib.hid (HB2.out.trans (hbq.mono HB2.out.size)); clear hbq
    go_wp2_with fail
    refine (HST.out 2 (by omega) _ HB3.out).mono ?_
    rintro e w4 ⟨rfl, hbq⟩
    have HX1 := Lib.hid (HX1.out.all hbq); have HX0 := Lib.hid (HX0.out.all hbq)
    have HB4 := Lib.hid (HB3.out.trans (hbq.mono HB3.out.size)); clear hbq
    generalize setA (atN ns 1) = a at *
    generalize setD (atN ns 1) = d at *
    generalize setA (atN ns 2) = x at *
    generalize setD (atN ns 2) = y at *
    obtain ⟨x0, x1, x2, x3, x4, x5, x6, x7, x8, x9, x10⟩ := HX1.out.cs
    have e0 := HX1.out.frozen 0; have e1 := HX1.out.frozen 1; have e2 := HX1.out.frozen 2; have e3 := HX1.out.frozen 3; have e4 := HX1.out.frozen 4; have e5 := HX1.out.frozen 5; have e6 := HX1.out.frozen 6; have e7 := HX1.out.frozen 7; have e8 := HX1.out.frozen 8; have e9 := HX1.out.frozen 9; have e10 := HX1.out.frozen 10
    go_upto_region 17 with (fail)
    clear x0 x1 x2 x3 x4 x5 x6 x7 x8 x9 x10 e0 e1 e2 e3 e4 e5 e6 e7 e8 e9 e10
    have HY := Lib.hid ((((HX1.out.put1 1 (.int .i64 (a : Int)) ⟨5, a, 0, 0, 0, 0, zero 0, 0⟩ rfl).put1 2 (.int .i64 (d : Int)) ⟨5, a, d, 0, 0, 0, zero 0, 0⟩ rfl).put1 4 (.int .i64 (x : Int)) ⟨5, a, d, 0, x, 0, zero 0, 0⟩ rfl).put1 5 (.int .i64 (y : Int)) ⟨5, a, d, 0, x, y, zero 0, 0⟩ rfl)
    have HZ := Lib.hid ((((HX0.out.other (p := ⟨g1, 1, none⟩) HNE.out (.int .i64 (a : Int))).other (p := ⟨g1, 2, none⟩) HNE.out (.int .i64 (d : Int))).other (p := ⟨g1, 4, none⟩) HNE.out (.int .i64 (x : Int))).other (p := ⟨g1, 5, none⟩) HNE.out (.int .i64 (y : Int)))
    have HBL := Lib.hid ((((HB4.out.setCell (p := ⟨g1, 1, none⟩) HG1.out (.int .i64 (a : Int))).setCell (p := ⟨g1, 2, none⟩) HG1.out (.int .i64 (d : Int))).setCell (p := ⟨g1, 4, none⟩) HG1.out (.int .i64 (x : Int))).setCell (p := ⟨g1, 5, none⟩) HG1.out (.int .i64 (y : Int)))
    generalize ((((w4.setCell ⟨g1, 1, none⟩ (.int .i64 (a : Int))).setCell ⟨g1, 2, none⟩ (.int .i64 (d : Int))).setCell ⟨g1, 4, none⟩ (.int .i64 (x : Int))).setCell ⟨g1, 5, none⟩ (.int .i64 (y : Int))) = wl at HY HZ HBL ⊢
    obtain ⟨y0, y1, y2, y3, y4, y5, y6, y7, y8, y9, y10⟩ := HY.out.cs
    obtain ⟨z0, z1, z2, z3, z4, z5, z6, z7, z8, z9, z10⟩ := HZ.out.cs
    have f0 := HZ.out.frozen 0; have f1 := HZ.out.frozen 1; have f2 := HZ.out.frozen 2; have f3 := HZ.out.frozen 3; have f4 := HZ.out.frozen 4; have f5 := HZ.out.frozen 5; have f6 := HZ.out.frozen 6; have f7 := HZ.out.frozen 7; have f8 := HZ.out.frozen 8; have f9 := HZ.out.frozen 9; have f10 := HZ.out.frozen 10
    go_wp2
    refine bodyPost_ret (results_rec (g := w.heap.size) rfl rfl (HZ.out.put ⟨5, a, d, 0, x, y, zero 0, 0⟩)) rfl ?_
    exact HE.out _ (((((((((((HBL.out.setCell (Nat.le_refl _) _).setCell (Nat.le_refl _) _).setCell (Nat.le_refl _) _).setCell (Nat.le_refl _) _).setCell (Nat.le_refl _) _).setCell (Nat.le_refl _) _).setCell (Nat.le_refl _) _).setCell (Nat.le_refl _) _).setCell (Nat.le_refl _) _).setCell (Nat.le_refl _) _).setCell (Nat.le_refl _) _)
  by_cases h2 : k = 2
  · have HE := Lib.hid (HPO.out ⟨2, setA (atN ns 1), setD (atN ns 1), atN ns 2, setA (atN ns 3), setD (atN ns 3), zero 0, 0⟩ (by unfold guessR; rw [← hk, if_neg (by omega), if_pos h2]))
    subst h2
    clear hk h3 h4 h6
    go_wp2_with fail
    have HX1 := Lib.hid (show Rx (w1.alloc (.cells #[.int .i64 2, .int .i64 0, .int .i64 0, .int .i64 0, .int .i64 0, .int .i64 0, .int .i64 0, .int .i64 0, .int .i64 0, .float .f64 0, .int .i64 0] 40)) w1.heap.size ⟨2, 0, 0, 0, 0, 0, zero 0, 0⟩ from hat _ _ _ rfl)
    have HX0 := Lib.hid (show Rx (w1.alloc (.cells #[.int .i64 2, .int .i64 0, .int .i64 0, .int .i64 0, .int .i64 0, .int .i64 0, .int .i64 0, .int .i64 0, .int .i64 0, .float .f64 0, .int .i64 0] 40)) w.heap.size zeroR from hbe HX.out)
    have HB2 := Lib.hid (bal HB.out (Nat.le_refl _) (.cells #[.int .i64 2, .int .i64 0, .int .i64 0, .int .i64 0, .int .i64 0, .int .i64 0, .int .i64 0, .int .i64 0, .int .i64 0, .float .f64 0, .int .i64 0] 40))
    have HG1 := Lib.hid HB.out.size
    have HNE : Hid (w.heap.size ≠ w1.heap.size) := Lib.hid (by have := HX.out.lt; omega)
    generalize w1.alloc (.cells #[.int .i64 2, .int .i64 0, .int .i64 0, .int .i64 0, .int .i64 0, .int .i64 0, .int .i64 0, .int .i64 0, .int .i64 0, .float .f64 0, .int .i64 0] 40) = w2 at HX1 HX0 HB2 ⊢
    generalize w1.heap.size = g1 at *
    refine (HST.out 1 (by omega) _ HB2.out).mono ?_
    rintro e w3 ⟨rfl, hbq⟩
    have HX1 := Lib.hid (HX1.out.all hbq); have HX0 := Lib.hid (HX0.out.all hbq)
    have HB3 := Lib.hid (HB2.out.trans (hbq.mono HB2.out.size)); clear hbq
    go_wp2_with fail
    refine (HAT.out 2 (by omega) _ HB3.out).mono ?_
    rintro e w4 ⟨rfl, hbq⟩
    have HX1 := Lib.hid (HX1.out.all hbq); have HX0 := Lib.hid (HX0.out.all hbq)
    have HB4 := Lib.hid (HB3.out.trans (hbq.mono HB3.out.size)); clear hbq
    go_wp2_with fail
    refine (HST.out 3 (by omega) _ HB4.out).mono ?_
    rintro e w5 ⟨rfl, hbq⟩
    have HX1 := Lib.hid (HX1.out.all hbq); have HX0 := Lib.hid (HX0.out.all hbq)
    have HB5 := Lib.hid (HB4.out.trans (hbq.mono HB4.out.size)); clear hbq
    generalize setA (atN ns 1) = a at *
    generalize setD (atN ns 1) = d at *
    generalize setA (atN ns 3) = x at *
    generalize setD (atN ns 3) = y at *
    generalize atN ns 2 = q at *
    obtain ⟨x0, x1, x2, x3, x4, x5, x6, x7, x8, x9, x10⟩ := HX1.out.cs
    have e0 := HX1.out.frozen 0; have e1 := HX1.out.frozen 1; have e2 := HX1.out.frozen 2; have e3 := HX1.out.frozen 3; have e4 := HX1.out.frozen 4; have e5 := HX1.out.frozen 5; have e6 := HX1.out.frozen 6; have e7 := HX1.out.frozen 7; have e8 := HX1.out.frozen 8; have e9 := HX1.out.frozen 9; have e10 := HX1.out.frozen 10
    go_upto_region 17 with (fail)
    clear x0 x1 x2 x3 x4 x5 x6 x7 x8 x9 x10 e0 e1 e2 e3 e4 e5 e6 e7 e8 e9 e10
    have HY := Lib.hid (((((HX1.out.put1 1 (.int .i64 (a : Int)) ⟨2, a, 0, 0, 0, 0, zero 0, 0⟩ rfl).put1 2 (.int .i64 (d : Int)) ⟨2, a, d, 0, 0, 0, zero 0, 0⟩ rfl).put1 3 (.int .i64 (q : Int)) ⟨2, a, d, q, 0, 0, zero 0, 0⟩ rfl).put1 4 (.int .i64 (x : Int)) ⟨2, a, d, q, x, 0, zero 0, 0⟩ rfl).put1 5 (.int .i64 (y : Int)) ⟨2, a, d, q, x, y, zero 0, 0⟩ rfl)
    have HZ := Lib.hid (((((HX0.out.other (p := ⟨g1, 1, none⟩) HNE.out (.int .i64 (a : Int))).other (p := ⟨g1, 2, none⟩) HNE.out (.int .i64 (d : Int))).other (p := ⟨g1, 3, none⟩) HNE.out (.int .i64 (q : Int))).other (p := ⟨g1, 4, none⟩) HNE.out (.int .i64 (x : Int))).other (p := ⟨g1, 5, none⟩) HNE.out (.int .i64 (y : Int)))
    have HBL := Lib.hid (((((HB5.out.setCell (p := ⟨g1, 1, none⟩) HG1.out (.int .i64 (a : Int))).setCell (p := ⟨g1, 2, none⟩) HG1.out (.int .i64 (d : Int))).setCell (p := ⟨g1, 3, none⟩) HG1.out (.int .i64 (q : Int))).setCell (p := ⟨g1, 4, none⟩) HG1.out (.int .i64 (x : Int))).setCell (p := ⟨g1, 5, none⟩) HG1.out (.int .i64 (y : Int)))
    generalize (((((w5.setCell ⟨g1, 1, none⟩ (.int .i64 (a : Int))).setCell ⟨g1, 2, none⟩ (.int .i64 (d : Int))).setCell ⟨g1, 3, none⟩ (.int .i64 (q : Int))).setCell ⟨g1, 4, none⟩ (.int .i64 (x : Int))).setCell ⟨g1, 5, none⟩ (.int .i64 (y : Int))) = wl at HY HZ HBL ⊢
    obtain ⟨y0, y1, y2, y3, y4, y5, y6, y7, y8, y9, y10⟩ := HY.out.cs
    obtain ⟨z0, z1, z2, z3, z4, z5, z6, z7, z8, z9, z10⟩ := HZ.out.cs
    have f0 := HZ.out.frozen 0; have f1 := HZ.out.frozen 1; have f2 := HZ.out.frozen 2; have f3 := HZ.out.frozen 3; have f4 := HZ.out.frozen 4; have f5 := HZ.out.frozen 5; have f6 := HZ.out.frozen 6; have f7 := HZ.out.frozen 7; have f8 := HZ.out.frozen 8; have f9 := HZ.out.frozen 9; have f10 := HZ.out.frozen 10
    go_wp2
    refine bodyPost_ret (results_rec (g := w.heap.size) rfl rfl (HZ.out.put ⟨2, a, d, q, x, y, zero 0, 0⟩)) rfl ?_
    exact HE.out _ (((((((((((HBL.out.setCell (Nat.le_refl _) _).setCell (Nat.le_refl _) _).setCell (Nat.le_refl _) _).setCell (Nat.le_refl _) _).setCell (Nat.le_refl _) _).setCell (Nat.le_refl _) _).setCell (Nat.le_refl _) _).setCell (Nat.le_refl _) _).setCell (Nat.le_refl _) _).setCell (Nat.le_refl _) _).setCell (Nat.le_refl _) _)
  by_cases h1 : k = 1
  · exact absurd (hk.symm.trans h1) HNE1.out
  · have HE := Lib.hid (HPO.out ⟨k, 0, 0, 0, 0, 0, zero 0, 0⟩ (by unfold guessR; rw [← hk, if_neg h1, if_neg h2, if_neg h3, if_neg (by omega), if_neg h5]))
    clear hk
    have k1 : ((k : Int) == 1) = false := by rw [beq_eq_false_iff_ne]; omega
    have k2 : ((k : Int) == 2) = false := by rw [beq_eq_false_iff_ne]; omega
    have k3 : ((k : Int) == 3) = false := by rw [beq_eq_false_iff_ne]; omega
    have k4 : ((k : Int) == 4) = false := by rw [beq_eq_false_iff_ne]; omega
    have k5 : ((k : Int) == 5) = false := by rw [beq_eq_false_iff_ne]; omega
    have k6 : ((k : Int) == 6) = false := by rw [beq_eq_false_iff_ne]; omega
    have HZ := Lib.hid (show Rx (w1.alloc (.cells #[.int .i64 (k : Int), .int .i64 0, .int .i64 0, .int .i64 0, .int .i64 0, .int .i64 0, .int .i64 0, .int .i64 0, .int .i64 0, .float .f64 0, .int .i64 0] 40)) w.heap.size zeroR from hbe HX.out)
    obtain ⟨z0, z1, z2, z3, z4, z5, z6, z7, z8, z9, z10⟩ := HZ.out.cs
    have f0 := HZ.out.frozen 0; have f1 := HZ.out.frozen 1; have f2 := HZ.out.frozen 2; have f3 := HZ.out.frozen 3; have f4 := HZ.out.frozen 4; have f5 := HZ.out.frozen 5; have f6 := HZ.out.frozen 6; have f7 := HZ.out.frozen 7; have f8 := HZ.out.frozen 8; have f9 := HZ.out.frozen 9; have f10 := HZ.out.frozen 10
    go_wp2
    refine bodyPost_ret (results_rec (g := w.heap.size) rfl rfl (HZ.out.put ⟨k, 0, 0, 0, 0, 0, zero 0, 0⟩)) rfl ?_
    exact HE.out _ ((((((((((((bal HB.out (Nat.le_refl _) _).setCell (Nat.le_refl _) _).setCell (Nat.le_refl _) _).setCell (Nat.le_refl _) _).setCell (Nat.le_refl _) _).setCell (Nat.le_refl _) _).setCell (Nat.le_refl _) _).setCell (Nat.le_refl _) _).setCell (Nat.le_refl _) _).setCell (Nat.le_refl _) _).setCell (Nat.le_refl _) _).setCell (Nat.le_refl _) _)
end Go.Proofs.Ytjcbdnbbdhjoiaa.Lgw

namespace Go.Proofs.Ytjcbdnbbdhjoiaa.Lgw
set_option maxRecDepth 20000
open Go.RowKit
open Bk Lg Wire
open Tgw (hat hbe)
open Rg (bal)

theorem frombits9 (n : Int) (w : World) : (callFunc 101 #[.int .u64 n]).run Try.prog w = .ok (.value (.float .f64 n.toNat)) w :=
  run_callFunc_extern Try.func101 (by kernel_rfl) (by kernel_rfl) (by kernel_rfl) (e := Extern.MathFloatBits.float64frombits) (by kernel_rfl) _ w
set_option maxHeartbeats 2000000 in
theorem guess_1 (A : Option Addr) (n c : Nat) (ns : List Nat) (w : World) (h : Sn w A n c ns) (h1 : atN ns 0 = 1) : Calls Try.prog 78 #[.slice A n c] w (RetRec w (guessR ns)) := by
  have HPO : Hid (∀ r', guessR ns = r' → ∀ w', Below w.heap.size w w' → RetRec w (guessR ns) (.returned (rvv r')) w') := Lib.hid (fun r' h w' hb => by rw [h]; exact ⟨rfl, hb⟩)
  generalize RetRec w (guessR ns) = PP at HPO ⊢
  have HAT := Lib.hid (fun (i : Nat) (hi : i ≤ 10) W hW => at_r A n c ns i hi W (Sn.all (w' := W) h hW))
  have HST := Lib.hid (fun (i : Nat) (hi : i ≤ 10) W hW => set_r A n c ns i hi W (Sn.all (w' := W) h hW))
  have HS := Lib.hid h
  have HK1 := Lib.hid h1
  have HE := Lib.hid (HPO.out ⟨1, setA (atN ns 1), setD (atN ns 1), 0, 0, 0, ⟨atN ns 2, atN ns 3, atN ns 4, (ns[5]?).getD 0⟩, 0⟩ (by unfold guessR; rw [if_pos h1]))
  clear h1
  clear h
  have hsf := store_flt
  go_enter Try.func78, Try.ntmps78
  go_wp2_with fail
  have HX := Lib.hid (show Rx (w.alloc (.cells #[.int .i64 0, .int .i64 0, .int .i64 0, .int .i64 0, .int .i64 0, .int .i64 0, .int .i64 0, .int .i64 0, .int .i64 0, .float .f64 0, .int .i64 0] 40)) w.heap.size zeroR from hat _ _ _ rfl)
  have HB := Lib.hid (bal (Below.refl w.heap.size w) (Nat.le_refl _) (.cells #[.int .i64 0, .int .i64 0, .int .i64 0, .int .i64 0, .int .i64 0, .int .i64 0, .int .i64 0, .int .i64 0, .int .i64 0, .float .f64 0, .int .i64 0] 40))
  generalize w.alloc (.cells #[.int .i64 0, .int .i64 0, .int .i64 0, .int .i64 0, .int .i64 0, .int .i64 0, .int .i64 0, .int .i64 0, .int .i64 0, .float .f64 0, .int .i64 0] 40) = w0 at HX HB ⊢
  refine (HAT.out 0 (by omega) _ HB.out).mono ?_
  rintro e w1 ⟨rfl, hb1⟩
  have HX := Lib.hid (HX.out.all hb1)
  have HB := Lib.hid (HB.out.trans (hb1.mono HB.out.size)); clear hb1
  rw [HK1.out]
  go_wp2_with fail
  have HX1 := Lib.hid (show Rx (w1.alloc (.cells #[.int .i64 1, .int .i64 0, .int .i64 0, .int .i64 0, .int .i64 0, .int .i64 0, .int .i64 0, .int .i64 0, .int .i64 0, .float .f64 0, .int .i64 0] 40)) w1.heap.size ⟨1, 0, 0, 0, 0, 0, zero 0, 0⟩ from hat _ _ _ rfl)
  have HX0 := Lib.hid (show Rx (w1.alloc (.cells #[.int .i64 1, .int .i64 0, .int .i64 0, .int .i64 0, .int .i64 0, .int .i64 0, .int .i64 0, .int .i64 0, .int .i64 0, .float .f64 0, .int .i64 0] 40)) w.heap.size zeroR from hbe HX.out)
  have HB2 := Lib.hid (bal HB.out (Nat.le_refl _) (.cells #[.int .i64 1, .int .i64 0, .int .i64 0, .int .i64 0, .int .i64 0, .int .i64 0, .int .i64 0, .int .i64 0, .int .i64 0, .float .f64 0, .int .i64 0] 40))
  have HG1 := Lib.hid HB.out.size
  have HNE : Hid (w.heap.size ≠ w1.heap.size) := Lib.hid (by have := HX.out.lt; omega)
  generalize w1.alloc (.cells #[.int .i64 1, .int .i64 0, .int .i64 0, .int .i64 0, .int .i64 0, .int .i64 0, .int .i64 0, .int .i64 0, .int .i64 0, .float .f64 0, .int .i64 0] 40) = w2 at HX1 HX0 HB2 ⊢
  generalize w1.heap.size = g1 at *
  refine (HST.out 1 (by omega) _ HB2.out).mono ?_
  rintro e w3 ⟨rfl, hbq⟩
  have HX1 := Lib.hid (HX1.out.all hbq); have HX0 := Lib.hid (HX0.out.all hbq)
  have HB3 := Lib.hid (HB2.out.trans (hbq.mono HB2.out.size)); clear hbq
  generalize setA (atN ns 1) = a at *
  generalize setD (atN ns 1) = d at *
  have HY := Lib.hid ((HX1.out.put1 1 (.int .i64 (a : Int)) ⟨1, a, 0, 0, 0, 0, zero 0, 0⟩ rfl).put1 2 (.int .i64 (d : Int)) ⟨1, a, d, 0, 0, 0, zero 0, 0⟩ rfl)
  have HZ := Lib.hid ((HX0.out.other (p := ⟨g1, 1, none⟩) HNE.out (.int .i64 (a : Int))).other (p := ⟨g1, 2, none⟩) HNE.out (.int .i64 (d : Int)))
  have HB4 := Lib.hid ((HB3.out.setCell (p := ⟨g1, 1, none⟩) HG1.out (.int .i64 (a : Int))).setCell (p := ⟨g1, 2, none⟩) HG1.out (.int .i64 (d : Int)))
  obtain ⟨x0, x1, x2, x3, x4, x5, x6, x7, x8, x9, x10⟩ := HX1.out.cs
  have e0 := HX1.out.frozen 0; have e1 := HX1.out.frozen 1; have e2 := HX1.out.frozen 2; have e3 := HX1.out.frozen 3; have e4 := HX1.out.frozen 4; have e5 := HX1.out.frozen 5; have e6 := HX1.out.frozen 6; have e7 := HX1.out.frozen 7; have e8 := HX1.out.frozen 8; have e9 := HX1.out.frozen 9; have e10 := HX1.out.frozen 10
  go_wp2_with fail
  clear x0 x1 x2 x3 x4 x5 x6 x7 x8 x9 x10 e0 e1 e2 e3 e4 e5 e6 e7 e8 e9 e10
  generalize ((w3.setCell ⟨g1, 1, none⟩ (.int .i64 (a : Int))).setCell ⟨g1, 2, none⟩ (.int .i64 (d : Int))) = w4 at HY HZ HB4 ⊢
  clear HX1 HX0
  have HX1 := HY; have HX0 := HZ
  clear HY HZ
  refine (HAT.out 2 (by omega) _ HB4.out).mono ?_
  rintro e w5 ⟨rfl, hbq⟩
  have HX1 := Lib.hid (HX1.out.all hbq); have HX0 := Lib.hid (HX0.out.all hbq)
  have HB5 := Lib.hid (HB4.out.trans (hbq.mono HB4.out.size)); clear hbq
  go_wp2_with fail
  refine (HAT.out 3 (by omega) _ HB5.out).mono ?_
  rintro e w6 ⟨rfl, hbq⟩
  have HX1 := Lib.hid (HX1.out.all hbq); have HX0 := Lib.hid (HX0.out.all hbq)
  have HB6 := Lib.hid (HB5.out.trans (hbq.mono HB5.out.size)); clear hbq
  go_wp2_with fail
  refine (HAT.out 4 (by omega) _ HB6.out).mono ?_
  rintro e w7 ⟨rfl, hbq⟩
  have HX1 := Lib.hid (HX1.out.all hbq); have HX0 := Lib.hid (HX0.out.all hbq)
  have HB7 := Lib.hid (HB6.out.trans (hbq.mono HB6.out.size)); clear hbq
  have HRE := Lib.hid (HS.out.all HB7.out)
  generalize atN ns 2 = p at *
  generalize atN ns 3 = q at *
  generalize atN ns 4 = t at *
  obtain ⟨x0, x1, x2, x3, x4, x5, x6, x7, x8, x9, x10⟩ := HX1.out.cs
  have e0 := HX1.out.frozen 0; have e1 := HX1.out.frozen 1; have e2 := HX1.out.frozen 2; have e3 := HX1.out.frozen 3; have e4 := HX1.out.frozen 4; have e5 := HX1.out.frozen 5; have e6 := HX1.out.frozen 6; have e7 := HX1.out.frozen 7; have e8 := HX1.out.frozen 8; have e9 := HX1.out.frozen 9; have e10 := HX1.out.frozen 10
  go_upto_region 6 with (fail)
  clear x0 x1 x2 x3 x4 x5 x6 x7 x8 x9 x10 e0 e1 e2 e3 e4 e5 e6 e7 e8 e9 e10
  have HY := Lib.hid ((((HX1.out.put1 6 (.int .i64 (p : Int)) ⟨1, a, d, 0, 0, 0, ⟨p, 0, 0, 0⟩, 0⟩ rfl).put1 7 (.int .i64 (q : Int)) ⟨1, a, d, 0, 0, 0, ⟨p, q, 0, 0⟩, 0⟩ rfl).put1 8 (.int .i64 (t : Int)) ⟨1, a, d, 0, 0, 0, ⟨p, q, t, 0⟩, 0⟩ rfl).put1 9 (.float .f64 0) ⟨1, a, d, 0, 0, 0, ⟨p, q, t, 0⟩, 0⟩ rfl)
  have HZ := Lib.hid ((((HX0.out.other (p := ⟨g1, 6, none⟩) HNE.out (.int .i64 (p : Int))).other (p := ⟨g1, 7, none⟩) HNE.out (.int .i64 (q : Int))).other (p := ⟨g1, 8, none⟩) HNE.out (.int .i64 (t : Int))).other (p := ⟨g1, 9, none⟩) HNE.out (.float .f64 0))
  have HB8 := Lib.hid ((((HB7.out.setCell (p := ⟨g1, 6, none⟩) HG1.out (.int .i64 (p : Int))).setCell (p := ⟨g1, 7, none⟩) HG1.out (.int .i64 (q : Int))).setCell (p := ⟨g1, 8, none⟩) HG1.out (.int .i64 (t : Int))).setCell (p := ⟨g1, 9, none⟩) HG1.out (.float .f64 0))
  generalize ((((w7.setCell ⟨g1, 6, none⟩ (.int .i64 (p : Int))).setCell ⟨g1, 7, none⟩ (.int .i64 (q : Int))).setCell ⟨g1, 8, none⟩ (.int .i64 (t : Int))).setCell ⟨g1, 9, none⟩ (.float .f64 0)) = w8 at HY HZ HB8 ⊢
  clear HX1 HX0
  have HX1 := HY; have HX0 := HZ
  clear HY HZ
  by_cases hl5 : 5 < n
  · have HSS := Lib.hid (HS.out.all HB8.out)
    obtain ⟨b, o, rfl, hbl, hcl⟩ := HSS.out.2.2.2.2 (by rw [List.length_map, ← HSS.out.1]; omega)
    have h5l : 5 < ns.length := by have := HSS.out.1; omega
    obtain ⟨u, hz⟩ : ∃ u, ns[5]? = some u := ⟨_, List.getElem?_eq_getElem h5l⟩
    have hc5 := hcl 5 (N64 u) (by rw [List.getElem?_map, hz]; rfl)
    have hg5 : (ns[5]?).getD 0 = u := by rw [hz]; rfl
    rw [hg5] at HE
    clear h5l
    clear hz hg5 hcl
    have hc5' : w8.cell? ⟨b, o + 5, none⟩ = some (.int .u64 (u : Int)) := hc5
    clear hc5
    have hfb := frombits9
    have hsf := store_flt
    obtain ⟨x0, x1, x2, x3, x4, x5, x6, x7, x8, x9, x10⟩ := HX1.out.cs
    have e0 := HX1.out.frozen 0; have e1 := HX1.out.frozen 1; have e2 := HX1.out.frozen 2; have e3 := HX1.out.frozen 3; have e4 := HX1.out.frozen 4; have e5 := HX1.out.frozen 5; have e6 := HX1.out.frozen 6; have e7 := HX1.out.frozen 7; have e8 := HX1.out.frozen 8; have e9 := HX1.out.frozen 9; have e10 := HX1.out.frozen 10
    go_upto_region 17 with (fail)
    clear x0 x1 x2 x3 x4 x5 x6 x7 x8 x9 x10 e0 e1 e2 e3 e4 e5 e6 e7 e8 e9 e10
    have HY := Lib.hid (HX1.out.put1 9 (.float .f64 u) ⟨1, a, d, 0, 0, 0, ⟨p, q, t, u⟩, 0⟩ rfl)
    have HZ := Lib.hid (HX0.out.other (p := ⟨g1, 9, none⟩) HNE.out (.float .f64 u))
    have HB9 := Lib.hid (HB8.out.setCell (p := ⟨g1, 9, none⟩) HG1.out (.float .f64 u))
    generalize w8.setCell ⟨g1, 9, none⟩ (.float .f64 u) = w9 at HY HZ HB9 ⊢
    obtain ⟨x0, x1, x2, x3, x4, x5, x6, x7, x8, x9, x10⟩ := HY.out.cs
    obtain ⟨z0, z1, z2, z3, z4, z5, z6, z7, z8, z9, z10⟩ := HZ.out.cs
    have f0 := HZ.out.frozen 0; have f1 := HZ.out.frozen 1; have f2 := HZ.out.frozen 2; have f3 := HZ.out.frozen 3; have f4 := HZ.out.frozen 4; have f5 := HZ.out.frozen 5; have f6 := HZ.out.frozen 6; have f7 := HZ.out.frozen 7; have f8 := HZ.out.frozen 8; have f9 := HZ.out.frozen 9; have f10 := HZ.out.frozen 10
    go_wp2
    refine bodyPost_ret (results_rec (g := w.heap.size) rfl rfl (HZ.out.put ⟨1, a, d, 0, 0, 0, ⟨p, q, t, u⟩, 0⟩)) rfl ?_
    exact HE.out _ (((((((((((HB9.out.setCell (Nat.le_refl _) _).setCell (Nat.le_refl _) _).setCell (Nat.le_refl _) _).setCell (Nat.le_refl _) _).setCell (Nat.le_refl _) _).setCell (Nat.le_refl _) _).setCell (Nat.le_refl _) _).setCell (Nat.le_refl _) _).setCell (Nat.le_refl _) _).setCell (Nat.le_refl _) _).setCell (Nat.le_refl _) _)
  · have hg5 : (ns[5]?).getD 0 = 0 := by rw [List.getElem?_eq_none (by have := HS.out.1; omega)]; rfl
    rw [hg5] at HE
    have hn5 : n ≤ 5 := by omega
    go_upto_region 17 with (fail)
    obtain ⟨x0, x1, x2, x3, x4, x5, x6, x7, x8, x9, x10⟩ := HX1.out.cs
    obtain ⟨z0, z1, z2, z3, z4, z5, z6, z7, z8, z9, z10⟩ := HX0.out.cs
    have f0 := HX0.out.frozen 0; have f1 := HX0.out.frozen 1; have f2 := HX0.out.frozen 2; have f3 := HX0.out.frozen 3; have f4 := HX0.out.frozen 4; have f5 := HX0.out.frozen 5; have f6 := HX0.out.frozen 6; have f7 := HX0.out.frozen 7; have f8 := HX0.out.frozen 8; have f9 := HX0.out.frozen 9; have f10 := HX0.out.frozen 10
    go_wp2
    refine bodyPost_ret (results_rec (g := w.heap.size) rfl rfl (HX0.out.put ⟨1, a, d, 0, 0, 0, ⟨p, q, t, 0⟩, 0⟩)) rfl ?_
    exact HE.out _ (((((((((((HB8.out.setCell (Nat.le_refl _) _).setCell (Nat.le_refl _) _).setCell (Nat.le_refl _) _).setCell (Nat.le_refl _) _).setCell (Nat.le_refl _) _).setCell (Nat.le_refl _) _).setCell (Nat.le_refl _) _).setCell (Nat.le_refl _) _).setCell (Nat.le_refl _) _).setCell (Nat.le_refl _) _).setCell (Nat.le_refl _) _)
end Go.Proofs.Ytjcbdnbbdhjoiaa.Lgw
