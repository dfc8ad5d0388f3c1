/- Contracts and words on which the claims of this seat stand, part 12: LgNa. -/
import Derived.Test.YtjcbdnbbdhjoiaaG01
import Derived.Test.YtjcbdnbbdhjoiaaG11
set_option linter.unusedSimpArgs false
set_option linter.unusedVariables false
namespace Go.Proofs.Ytjcbdnbbdhjoiaa.Lgw
set_option maxRecDepth 20000
open Go.RowKit
open Bk Lg Wire
open Tgw (hat hbe)
open Rg (bal)

set_option maxHeartbeats 8000000 in
theorem guess_k1 (A : Option Addr) (n c : Nat) (bs : List UInt8) (hn : n = bs.length) (hc : n ≤ c) (hl : n ≤ big) (w : World) (hr : Rd w w.heap.size A (bs.map B8)) (v : Nat) (rest : List UInt8) (ht : takeF bs = some (v, rest)) (hk : iw v = 1) : Calls Try.prog 65 #[.slice A n c] w (RetGuess w bs) := by
  have hbk : behind 1 = 5 := by decide +kernel
  have HR := Lib.hid hr; have HN := Lib.hid hn
  have HNO : Hid (getsF 5 rest = none → ∀ w', Below w.heap.size w w' → RetGuess w bs (.returned (.tuple #[rvv ⟨0, 0, 0, 0, 0, 0, zero 0, 0⟩, .bool false])) w') := Lib.hid (fun h w' hb => ⟨hb, Or.inl ⟨guess_none ht hk hbk h, rfl⟩⟩)
  have HYES : Hid (∀ ns s, getsF 5 rest = some (ns, s) → ∀ r, gp 1 ns = r → ∀ w', Below w.heap.size w w' → RetGuess w bs (.returned (.tuple #[rvv r, .bool true])) w') := Lib.hid (fun ns s h r hr w' hb => ⟨hb, Or.inr ⟨r, by rw [← hr]; exact guess_some ht hk hbk h, rfl⟩⟩)
  generalize RetGuess w bs = PP at HNO HYES ⊢
  have HT := Lib.hid ht
  have hwv := wrap_iw v (takeF_some ht).1
  have hlr : rest.length < bs.length := takeF_len ht
  rw [hk] at hwv
  have HBK := Lib.hid (fun W => behind_c 1 W)
  rw [hbk] at HBK
  unfold big at hl
  have hlb : rest.length ≤ 140737488355328 := by omega
  clear hr hn ht hk hbk hlr
  have hsf := store_flt
  go_enter Try.func65, Try.ntmps65
  go_wp2_with fail
  have HX0 := Lib.hid (show Rx (w.alloc (.cells #[.int .i64 0, .int .i64 0, .int .i64 0, .int .i64 0, .int .i64 0, .int .i64 0, .int .i64 0, .int .i64 0, .int .i64 0, .float .f64 0, .int .i64 0] 40)) w.heap.size zeroR from hat _ _ _ rfl)
  have HB := Lib.hid (bal (Below.refl w.heap.size w) (Nat.le_refl _) (.cells #[.int .i64 0, .int .i64 0, .int .i64 0, .int .i64 0, .int .i64 0, .int .i64 0, .int .i64 0, .int .i64 0, .int .i64 0, .float .f64 0, .int .i64 0] 40))
  generalize w.alloc (.cells #[.int .i64 0, .int .i64 0, .int .i64 0, .int .i64 0, .int .i64 0, .int .i64 0, .int .i64 0, .int .i64 0, .int .i64 0, .float .f64 0, .int .i64 0] 40) = w0 at HX0 HB ⊢
  have HR0 := Lib.hid ((HR.out.below HB.out).more HB.out.size)
  refine (get_c A n c bs HN.out hc _ w0 HR0.out (Nat.le_refl _) (by unfold big; omega)).mono ?_
  rintro e w1 ⟨hb1, h1⟩
  rw [HT.out] at h1
  obtain ⟨A1, n1, c1, rfl, ho1⟩ := h1
  have HX0 := Lib.hid (HX0.out.all hb1)
  have HB := Lib.hid (HB.out.trans (hb1.mono HB.out.size)); clear hb1
  have HO1 := Lib.hid ho1; clear ho1 HR0
  go_wp2_with fail
  have HX1 := Lib.hid (show Rx (w1.alloc (.cells #[.int .i64 1, .int .i64 0, .int .i64 0, .int .i64 0, .int .i64 0, .int .i64 0, .int .i64 0, .int .i64 0, .int .i64 0, .float .f64 0, .int .i64 0] 40)) w1.heap.size ⟨1, 0, 0, 0, 0, 0, zero 0, 0⟩ from hat _ _ _ rfl)
  have HX0 := Lib.hid (show Rx (w1.alloc (.cells #[.int .i64 1, .int .i64 0, .int .i64 0, .int .i64 0, .int .i64 0, .int .i64 0, .int .i64 0, .int .i64 0, .int .i64 0, .float .f64 0, .int .i64 0] 40)) w.heap.size zeroR from hbe HX0.out)
  have HG1 := Lib.hid HB.out.size
  have HNE : Hid (w.heap.size ≠ w1.heap.size) := Lib.hid (by obtain ⟨_, h⟩ : ∃ o, w1.heap[w.heap.size]? = some o := ⟨_, (by assumption : Hid (Rx w1 w.heap.size zeroR)).out⟩; intro e; rw [e, Array.getElem?_eq_none (Nat.le_refl _)] at h; cases h)
  have HB := Lib.hid (bal HB.out (Nat.le_refl _) (.cells #[.int .i64 1, .int .i64 0, .int .i64 0, .int .i64 0, .int .i64 0, .int .i64 0, .int .i64 0, .int .i64 0, .int .i64 0, .float .f64 0, .int .i64 0] 40))
  have HO1 := Lib.hid (HO1.out.alloc (.cells #[.int .i64 1, .int .i64 0, .int .i64 0, .int .i64 0, .int .i64 0, .int .i64 0, .int .i64 0, .int .i64 0, .int .i64 0, .float .f64 0, .int .i64 0] 40))
  have hg12 : w1.heap.size < (w1.alloc (.cells #[.int .i64 1, .int .i64 0, .int .i64 0, .int .i64 0, .int .i64 0, .int .i64 0, .int .i64 0, .int .i64 0, .int .i64 0, .float .f64 0, .int .i64 0] 40)).heap.size := by simp
  generalize w1.alloc (.cells #[.int .i64 1, .int .i64 0, .int .i64 0, .int .i64 0, .int .i64 0, .int .i64 0, .int .i64 0, .int .i64 0, .int .i64 0, .float .f64 0, .int .i64 0] 40) = w2 at HX1 HX0 HB HO1 hg12 ⊢
  generalize w1.heap.size = g1 at HX1 HG1 HNE hg12 ⊢
  refine (HBK.out _).mono ?_
  rintro e w2b ⟨rfl, hw2b⟩
  subst hw2b
  go_wp2_with fail
  refine (gets_c A1 n1 c1 _ rest HO1.out.1 HO1.out.cap _ w2 HO1.out.rd (Nat.le_refl _) (by have := HO1.out.1; unfold big; omega)).mono ?_
  rintro e w3 ⟨hb3, h3⟩
  rw [show getsI 5 rest = getsF 5 rest from getsI_in 5 (by omega) rest] at h3
  have hgw : w.heap.size < w2.heap.size := HX0.out.lt
  have HX1 := Lib.hid (HX1.out.all hb3); have HX0 := Lib.hid (HX0.out.all hb3)
  have HB := Lib.hid (HB.out.trans (hb3.mono HB.out.size)); clear hb3
  cases hg : getsF 5 rest with
  | none =>
    rw [hg] at h3
    have h3' : e = .returned (.tuple #[.slice none 0 0, .slice none 0 0, .int .i64 21]) := h3
    subst h3'
    clear h3
    have HN0 := Lib.hid (HNO.out hg)
    obtain ⟨z0, z1, z2, z3, z4, z5, z6, z7, z8, z9, z10⟩ := HX0.out.cs
    have f0 := HX0.out.frozen 0; have f1 := HX0.out.frozen 1; have f2 := HX0.out.frozen 2; have f3 := HX0.out.frozen 3; have f4 := HX0.out.frozen 4; have f5 := HX0.out.frozen 5; have f6 := HX0.out.frozen 6; have f7 := HX0.out.frozen 7; have f8 := HX0.out.frozen 8; have f9 := HX0.out.frozen 9; have f10 := HX0.out.frozen 10
    go_wp2
    refine bodyPost_ret (results_rec2 (g := w.heap.size) (r := ⟨0, 0, 0, 0, 0, 0, zero 0, 0⟩) rfl rfl rfl (HX0.out.put ⟨0, 0, 0, 0, 0, 0, zero 0, 0⟩)) rfl ?_
    exact HN0.out _ (((((((((((HB.out.setCell (Nat.le_refl _) _).setCell (Nat.le_refl _) _).setCell (Nat.le_refl _) _).setCell (Nat.le_refl _) _).setCell (Nat.le_refl _) _).setCell (Nat.le_refl _) _).setCell (Nat.le_refl _) _).setCell (Nat.le_refl _) _).setCell (Nat.le_refl _) _).setCell (Nat.le_refl _) _).setCell (Nat.le_refl _) _)
  | some nr =>
    obtain ⟨ns, s⟩ := nr
    rw [hg] at h3
    obtain ⟨A3, n3, c3, A4, n4, c4, rfl, ho3, _⟩ := h3
    have hle := gets_len 5 rest ns s hg
    have HYES := Lib.hid (HYES.out ns s hg)
    obtain ⟨a0, a1, a2, a3, a4, rfl⟩ := list5 hle.1
    have HW := Lib.hid hle
    obtain ⟨b, rfl, hbb, hbl, hnc⟩ := own_nums ho3 (by simp)
    have hn3 : n3 = 5 := ho3.1
    subst hn3
    have HNC := Lib.hid hnc; have HBL := Lib.hid hbl
    have HNB : Hid (b ≠ g1) := Lib.hid (by omega)
    have HNW : Hid (b ≠ w.heap.size) := Lib.hid (by omega)
    have hne1 : b ≠ g1 := by omega
    have hne2 : g1 ≠ b := by omega
    clear hle hbb hbl hnc hg ho3 hgw hg12
    have hw0 := wrap_iw a0 (HW.out.2 a0 (by simp))
    have hw1 := wrap_iw a1 (HW.out.2 a1 (by simp))
    have hw2 := wrap_iw a2 (HW.out.2 a2 (by simp))
    have hw3 := wrap_iw a3 (HW.out.2 a3 (by simp))
    have HYES := Lib.hid (HYES.out ⟨1, vA (iw a0), vD (iw a0), 0, 0, 0, ⟨iw a1, iw a2, iw a3, Flt.clean a4⟩, 0⟩ (by unfold gp; rw [if_pos rfl]; rfl))
    obtain ⟨x0, x1, x2, x3, x4, x5, x6, x7, x8, x9, x10⟩ := HX1.out.cs
    have e0 := HX1.out.frozen 0; have e1 := HX1.out.frozen 1; have e2 := HX1.out.frozen 2; have e3 := HX1.out.frozen 3; have e4 := HX1.out.frozen 4; have e5 := HX1.out.frozen 5; have e6 := HX1.out.frozen 6; have e7 := HX1.out.frozen 7; have e8 := HX1.out.frozen 8; have e9 := HX1.out.frozen 9; have e10 := HX1.out.frozen 10
    have m0 := HNC.out 0 a0 rfl
    go_wp2_with fail
    clear x0 x1 x2 x3 x4 x5 x6 x7 x8 x9 x10 e0 e1 e2 e3 e4 e5 e6 e7 e8 e9 e10 m0
    refine (view_of_c a0 (HW.out.2 a0 (by simp)) _).mono ?_
    rintro e w4 ⟨rfl, hbq⟩
    have HX1 := Lib.hid (HX1.out.all hbq); have HX0 := Lib.hid (HX0.out.all hbq)
    have HNC := Lib.hid (HNC.out.all HBL.out hbq); have HBL := Lib.hid (Nat.lt_of_lt_of_le HBL.out hbq.size)
    have HB := Lib.hid (HB.out.trans (hbq.mono HB.out.size)); clear hbq
    generalize (vA (iw a0) : Int) = pa0 at HYES ⊢
    generalize (vD (iw a0) : Int) = pd0 at HYES ⊢
    generalize iw a1 = q1 at hw1 HYES
    generalize iw a2 = q2 at hw2 HYES
    generalize iw a3 = q3 at hw3 HYES
    obtain ⟨x0, x1, x2, x3, x4, x5, x6, x7, x8, x9, x10⟩ := HX1.out.cs
    have e0 := HX1.out.frozen 0; have e1 := HX1.out.frozen 1; have e2 := HX1.out.frozen 2; have e3 := HX1.out.frozen 3; have e4 := HX1.out.frozen 4; have e5 := HX1.out.frozen 5; have e6 := HX1.out.frozen 6; have e7 := HX1.out.frozen 7; have e8 := HX1.out.frozen 8; have e9 := HX1.out.frozen 9; have e10 := HX1.out.frozen 10
    have m1 := HNC.out 1 a1 rfl
    go_upto_region 12 with (fail)
    clear x0 x1 x2 x3 x4 x5 x6 x7 x8 x9 x10 e0 e1 e2 e3 e4 e5 e6 e7 e8 e9 e10 m1
    have HY : Hid (Rx (((w4.setCell ⟨g1, 1, none⟩ (.int .i64 pa0)).setCell ⟨g1, 2, none⟩ (.int .i64 pd0)).setCell ⟨g1, 6, none⟩ (.int .i64 q1)) g1 ⟨1, pa0, pd0, 0, 0, 0, ⟨q1, 0, 0, 0⟩, 0⟩) := Lib.hid (((HX1.out.put1 1 (.int .i64 pa0) ⟨1, pa0, 0, 0, 0, 0, zero 0, 0⟩ rfl).put1 2 (.int .i64 pd0) ⟨1, pa0, pd0, 0, 0, 0, zero 0, 0⟩ rfl).put1 6 (.int .i64 q1) ⟨1, pa0, pd0, 0, 0, 0, ⟨q1, 0, 0, 0⟩, 0⟩ rfl)
    have HZ : Hid (Rx (((w4.setCell ⟨g1, 1, none⟩ (.int .i64 pa0)).setCell ⟨g1, 2, none⟩ (.int .i64 pd0)).setCell ⟨g1, 6, none⟩ (.int .i64 q1)) w.heap.size zeroR) := Lib.hid (((HX0.out.other (p := ⟨g1, 1, none⟩) HNE.out (.int .i64 pa0)).other (p := ⟨g1, 2, none⟩) HNE.out (.int .i64 pd0)).other (p := ⟨g1, 6, none⟩) HNE.out (.int .i64 q1))
    have HBB : Hid (Below w.heap.size w (((w4.setCell ⟨g1, 1, none⟩ (.int .i64 pa0)).setCell ⟨g1, 2, none⟩ (.int .i64 pd0)).setCell ⟨g1, 6, none⟩ (.int .i64 q1))) := Lib.hid (((HB.out.setCell (p := ⟨g1, 1, none⟩) HG1.out (.int .i64 pa0)).setCell (p := ⟨g1, 2, none⟩) HG1.out (.int .i64 pd0)).setCell (p := ⟨g1, 6, none⟩) HG1.out (.int .i64 q1))
    have HNN : Hid (Nc (((w4.setCell ⟨g1, 1, none⟩ (.int .i64 pa0)).setCell ⟨g1, 2, none⟩ (.int .i64 pd0)).setCell ⟨g1, 6, none⟩ (.int .i64 q1)) b [a0, a1, a2, a3, a4]) := Lib.hid (((HNC.out.set (p := ⟨g1, 1, none⟩) HNB.out (.int .i64 pa0)).set (p := ⟨g1, 2, none⟩) HNB.out (.int .i64 pd0)).set (p := ⟨g1, 6, none⟩) HNB.out (.int .i64 q1))
    have HSZ : Hid (b < (((w4.setCell ⟨g1, 1, none⟩ (.int .i64 pa0)).setCell ⟨g1, 2, none⟩ (.int .i64 pd0)).setCell ⟨g1, 6, none⟩ (.int .i64 q1)).heap.size) := Lib.hid (by have := HBL.out; simpa using this)
    generalize (((w4.setCell ⟨g1, 1, none⟩ (.int .i64 pa0)).setCell ⟨g1, 2, none⟩ (.int .i64 pd0)).setCell ⟨g1, 6, none⟩ (.int .i64 q1)) = w5 at HY HZ HBB HNN HSZ ⊢
    clear HX1 HX0 HB HNC HBL
    have HX1 := HY; have HX0 := HZ; have HB := HBB; have HNC := HNN; have HBL := HSZ
    clear HY HZ HBB HNN HSZ
    refine wp_region_held_drew (S := fun W' => Below w.heap.size w W' ∧ Nc W' b [a0, a1, a2, a3, a4]) (by kernel_rfl) ⟨HB.out.drew, HNC.out.drew⟩ (fun hHeld => ?_)
    have HY := Lib.hid HX1.out.drew; have HZ := Lib.hid HX0.out.drew; have HQ := Lib.hid (show b < w5.drew.heap.size from HBL.out)
    generalize w5.drew = w6 at hHeld HY HZ HQ ⊢
    have HB5 : Hid (Below w.heap.size w w6 ∧ Nc w6 b [a0, a1, a2, a3, a4]) := hHeld
    clear HX1 HX0 HB HNC HBL hHeld
    have HX1 := HY; have HX0 := HZ; have HBL := HQ; have HB := Lib.hid HB5.out.1; have HNC := Lib.hid HB5.out.2
    clear HY HZ HQ
    refine take_in (i := 0) (oi := ⟨_, _, _, _, _, _⟩) (v := ?_) rfl (by kernel_rfl) (by kernel_rfl) (by kernel_rfl) (fun _ _ _ h => h) (by rfl) ?_ HB5.out ?_
    rotate_left
    · intro W hW; have hq2 := hW.2 2 a2 rfl; have hq3 := hW.2 3 a3 rfl; go_simp; with_reducible rfl
    simp only [Act.put, List.setIfInBounds_toArray, List.set_cons_zero, List.set_cons_succ]
    refine take_in (i := 1) (oi := ⟨_, _, _, _, _, _⟩) (v := ?_) rfl (by kernel_rfl) (by kernel_rfl) (by kernel_rfl) (fun _ _ _ h => h) (by rfl) ?_ HB5.out ?_
    rotate_left
    · intro W hW; have hq2 := hW.2 2 a2 rfl; have hq3 := hW.2 3 a3 rfl; go_simp; with_reducible rfl
    simp only [Act.put, List.setIfInBounds_toArray, List.set_cons_zero, List.set_cons_succ]
    refine take_in (i := 2) (oi := ⟨_, _, _, _, _, _⟩) (v := ?_) rfl (by kernel_rfl) (by kernel_rfl) (by kernel_rfl) (fun _ _ _ h => h) (by rfl) ?_ HB5.out ?_
    rotate_left
    · intro W hW; have hq2 := hW.2 2 a2 rfl; have hq3 := hW.2 3 a3 rfl; go_simp; with_reducible rfl
    simp only [Act.put, List.setIfInBounds_toArray, List.set_cons_zero, List.set_cons_succ]
    refine take_in (i := 3) (oi := ⟨_, _, _, _, _, _⟩) (v := ?_) rfl (by kernel_rfl) (by kernel_rfl) (by kernel_rfl) (fun _ _ _ h => h) (by rfl) ?_ HB5.out ?_
    rotate_left
    · intro W hW; have hq2 := hW.2 2 a2 rfl; have hq3 := hW.2 3 a3 rfl; go_simp; with_reducible rfl
    simp only [Act.put, List.setIfInBounds_toArray, List.set_cons_zero, List.set_cons_succ]
    refine take_in (i := 4) (oi := ⟨_, _, _, _, _, _⟩) (v := ?_) rfl (by kernel_rfl) (by kernel_rfl) (by kernel_rfl) (fun _ _ _ h => h) (by rfl) ?_ HB5.out ?_
    rotate_left
    · intro W hW; have hq2 := hW.2 2 a2 rfl; have hq3 := hW.2 3 a3 rfl; go_simp; with_reducible rfl
    simp only [Act.put, List.setIfInBounds_toArray, List.set_cons_zero, List.set_cons_succ]
    refine take_in (i := 5) (oi := ⟨_, _, _, _, _, _⟩) (v := ?_) rfl (by kernel_rfl) (by kernel_rfl) (by kernel_rfl) (fun _ _ _ h => h) (by rfl) ?_ HB5.out ?_
    rotate_left
    · intro W hW; have hq2 := hW.2 2 a2 rfl; have hq3 := hW.2 3 a3 rfl; go_simp; with_reducible rfl
    simp only [Act.put, List.setIfInBounds_toArray, List.set_cons_zero, List.set_cons_succ]
    refine take_in (i := 6) (oi := ⟨_, _, _, _, _, _⟩) (v := ?_) rfl (by kernel_rfl) (by kernel_rfl) (by kernel_rfl) (fun _ _ _ h => h) (by rfl) ?_ HB5.out ?_
    rotate_left
    · intro W hW; have hq2 := hW.2 2 a2 rfl; have hq3 := hW.2 3 a3 rfl; go_simp; with_reducible rfl
    simp only [Act.put, List.setIfInBounds_toArray, List.set_cons_zero, List.set_cons_succ]
    refine take_in (i := 7) (oi := ⟨_, _, _, _, _, _⟩) (v := ?_) rfl (by kernel_rfl) (by kernel_rfl) (by kernel_rfl) (fun _ _ _ h => h) (by rfl) ?_ HB5.out ?_
    rotate_left
    · intro W hW; have hq2 := hW.2 2 a2 rfl; have hq3 := hW.2 3 a3 rfl; go_simp; with_reducible rfl
    simp only [Act.put, List.setIfInBounds_toArray, List.set_cons_zero, List.set_cons_succ]
    refine take_in (i := 8) (oi := ⟨_, _, _, _, _, _⟩) (v := ?_) rfl (by kernel_rfl) (by kernel_rfl) (by kernel_rfl) (fun _ _ _ h => h) (by rfl) ?_ HB5.out ?_
    rotate_left
    · intro W hW; have hq2 := hW.2 2 a2 rfl; have hq3 := hW.2 3 a3 rfl; go_simp; with_reducible rfl
    simp only [Act.put, List.setIfInBounds_toArray, List.set_cons_zero, List.set_cons_succ]
    refine take_in (i := 9) (oi := ⟨_, _, _, _, _, _⟩) (v := ?_) rfl (by kernel_rfl) (by kernel_rfl) (by kernel_rfl) (fun _ _ _ h => h) (by rfl) ?_ HB5.out ?_
    rotate_left
    · intro W hW; have hq2 := hW.2 2 a2 rfl; have hq3 := hW.2 3 a3 rfl; go_simp; with_reducible rfl
    simp only [Act.put, List.setIfInBounds_toArray, List.set_cons_zero, List.set_cons_succ]
    refine take_in (i := 10) (oi := ⟨_, _, _, _, _, _⟩) (v := ?_) rfl (by kernel_rfl) (by kernel_rfl) (by kernel_rfl) (fun _ _ _ h => h) (by rfl) ?_ HB5.out ?_
    rotate_left
    · intro W hW; have hq2 := hW.2 2 a2 rfl; have hq3 := hW.2 3 a3 rfl; go_simp; with_reducible rfl
    simp only [Act.put, List.setIfInBounds_toArray, List.set_cons_zero, List.set_cons_succ]
    refine wpAnyH_ready (rs := [11]) (by kernel_rfl) (by simp) ?_
    refine AllReadyH.cons (o := ⟨_, _, _, _, _, _⟩) rfl (fun K hK => ?_) AllReadyH.nil
    obtain ⟨x0, x1, x2, x3, x4, x5, x6, x7, x8, x9, x10⟩ := HX1.out.cs
    have e0 := HX1.out.frozen 0; have e1 := HX1.out.frozen 1; have e2 := HX1.out.frozen 2; have e3 := HX1.out.frozen 3; have e4 := HX1.out.frozen 4; have e5 := HX1.out.frozen 5; have e6 := HX1.out.frozen 6; have e7 := HX1.out.frozen 7; have e8 := HX1.out.frozen 8; have e9 := HX1.out.frozen 9; have e10 := HX1.out.frozen 10
    go_simp
    clear x0 x1 x2 x3 x4 x5 x6 x7 x8 x9 x10 e0 e1 e2 e3 e4 e5 e6 e7 e8 e9 e10
    have HY : Hid (Rx ((w6.setCell ⟨g1, 7, none⟩ (.int .i64 q2)).setCell ⟨g1, 8, none⟩ (.int .i64 q3)) g1 ⟨1, pa0, pd0, 0, 0, 0, ⟨q1, q2, q3, 0⟩, 0⟩) := Lib.hid ((HX1.out.put1 7 (.int .i64 q2) ⟨1, pa0, pd0, 0, 0, 0, ⟨q1, q2, 0, 0⟩, 0⟩ rfl).put1 8 (.int .i64 q3) ⟨1, pa0, pd0, 0, 0, 0, ⟨q1, q2, q3, 0⟩, 0⟩ rfl)
    have HZ : Hid (Rx ((w6.setCell ⟨g1, 7, none⟩ (.int .i64 q2)).setCell ⟨g1, 8, none⟩ (.int .i64 q3)) w.heap.size zeroR) := Lib.hid ((HX0.out.other (p := ⟨g1, 7, none⟩) HNE.out (.int .i64 q2)).other (p := ⟨g1, 8, none⟩) HNE.out (.int .i64 q3))
    have HBB : Hid (Below w.heap.size w ((w6.setCell ⟨g1, 7, none⟩ (.int .i64 q2)).setCell ⟨g1, 8, none⟩ (.int .i64 q3))) := Lib.hid ((HB.out.setCell (p := ⟨g1, 7, none⟩) HG1.out (.int .i64 q2)).setCell (p := ⟨g1, 8, none⟩) HG1.out (.int .i64 q3))
    have HNN : Hid (Nc ((w6.setCell ⟨g1, 7, none⟩ (.int .i64 q2)).setCell ⟨g1, 8, none⟩ (.int .i64 q3)) b [a0, a1, a2, a3, a4]) := Lib.hid ((HNC.out.set (p := ⟨g1, 7, none⟩) HNB.out (.int .i64 q2)).set (p := ⟨g1, 8, none⟩) HNB.out (.int .i64 q3))
    have HSZ : Hid (b < ((w6.setCell ⟨g1, 7, none⟩ (.int .i64 q2)).setCell ⟨g1, 8, none⟩ (.int .i64 q3)).heap.size) := Lib.hid (by have := HBL.out; simpa using this)
    generalize ((w6.setCell ⟨g1, 7, none⟩ (.int .i64 q2)).setCell ⟨g1, 8, none⟩ (.int .i64 q3)) = w7 at HY HZ HBB HNN HSZ ⊢
    clear HX1 HX0 HB HNC HBL
    have HX1 := HY; have HX0 := HZ; have HB := HBB; have HNC := HNN; have HBL := HSZ
    clear HY HZ HBB HNN HSZ
    refine hK.out _ _ ⟨HB.out, HNC.out⟩ (fun _ => ?_)
    clear hK K HB5
    refine wpAnyH_done (by kernel_rfl) ?_ _
    obtain ⟨x0, x1, x2, x3, x4, x5, x6, x7, x8, x9, x10⟩ := HX1.out.cs
    have e0 := HX1.out.frozen 0; have e1 := HX1.out.frozen 1; have e2 := HX1.out.frozen 2; have e3 := HX1.out.frozen 3; have e4 := HX1.out.frozen 4; have e5 := HX1.out.frozen 5; have e6 := HX1.out.frozen 6; have e7 := HX1.out.frozen 7; have e8 := HX1.out.frozen 8; have e9 := HX1.out.frozen 9; have e10 := HX1.out.frozen 10
    have m4 := HNC.out 4 a4 rfl
    go_wp2_with fail
    clear x0 x1 x2 x3 x4 x5 x6 x7 x8 x9 x10 e0 e1 e2 e3 e4 e5 e6 e7 e8 e9 e10 m4
    refine (num_of_c (a4 : Int) _).mono ?_
    rintro e w4z ⟨rfl, hwz⟩
    subst hwz
    rw [Int.toNat_natCast]
    generalize Flt.clean a4 = q4 at HYES ⊢
    obtain ⟨x0, x1, x2, x3, x4, x5, x6, x7, x8, x9, x10⟩ := HX1.out.cs
    have e0 := HX1.out.frozen 0; have e1 := HX1.out.frozen 1; have e2 := HX1.out.frozen 2; have e3 := HX1.out.frozen 3; have e4 := HX1.out.frozen 4; have e5 := HX1.out.frozen 5; have e6 := HX1.out.frozen 6; have e7 := HX1.out.frozen 7; have e8 := HX1.out.frozen 8; have e9 := HX1.out.frozen 9; have e10 := HX1.out.frozen 10
    go_upto_region 25 with (fail)
    clear x0 x1 x2 x3 x4 x5 x6 x7 x8 x9 x10 e0 e1 e2 e3 e4 e5 e6 e7 e8 e9 e10
    have HY : Hid (Rx (w7.setCell ⟨g1, 9, none⟩ (.float .f64 q4)) g1 ⟨1, pa0, pd0, 0, 0, 0, ⟨q1, q2, q3, q4⟩, 0⟩) := Lib.hid (HX1.out.put1 9 (.float .f64 q4) ⟨1, pa0, pd0, 0, 0, 0, ⟨q1, q2, q3, q4⟩, 0⟩ rfl)
    have HZ : Hid (Rx (w7.setCell ⟨g1, 9, none⟩ (.float .f64 q4)) w.heap.size zeroR) := Lib.hid (HX0.out.other (p := ⟨g1, 9, none⟩) HNE.out (.float .f64 q4))
    have HBB : Hid (Below w.heap.size w (w7.setCell ⟨g1, 9, none⟩ (.float .f64 q4))) := Lib.hid (HB.out.setCell (p := ⟨g1, 9, none⟩) HG1.out (.float .f64 q4))
    have HNN : Hid (Nc (w7.setCell ⟨g1, 9, none⟩ (.float .f64 q4)) b [a0, a1, a2, a3, a4]) := Lib.hid (HNC.out.set (p := ⟨g1, 9, none⟩) HNB.out (.float .f64 q4))
    have HSZ : Hid (b < (w7.setCell ⟨g1, 9, none⟩ (.float .f64 q4)).heap.size) := Lib.hid (by have := HBL.out; simpa using this)
    generalize (w7.setCell ⟨g1, 9, none⟩ (.float .f64 q4)) = w8 at HY HZ HBB HNN HSZ ⊢
    clear HX1 HX0 HB HNC HBL
    have HX1 := HY; have HX0 := HZ; have HB := HBB; have HNC := HNN; have HBL := HSZ
    clear HY HZ HBB HNN HSZ
    obtain ⟨x0, x1, x2, x3, x4, x5, x6, x7, x8, x9, x10⟩ := HX1.out.cs
    obtain ⟨z0, z1, z2, z3, z4, z5, z6, z7, z8, z9, z10⟩ := HX0.out.cs
    have f0 := HX0.out.frozen 0; have f1 := HX0.out.frozen 1; have f2 := HX0.out.frozen 2; have f3 := HX0.out.frozen 3; have f4 := HX0.out.frozen 4; have f5 := HX0.out.frozen 5; have f6 := HX0.out.frozen 6; have f7 := HX0.out.frozen 7; have f8 := HX0.out.frozen 8; have f9 := HX0.out.frozen 9; have f10 := HX0.out.frozen 10
    go_wp2
    refine bodyPost_ret (results_rec2 (g := w.heap.size) rfl rfl rfl (HX0.out.put ⟨1, pa0, pd0, 0, 0, 0, ⟨q1, q2, q3, q4⟩, 0⟩)) rfl ?_
    exact HYES.out _ (((((((((((HB.out.setCell (Nat.le_refl _) _).setCell (Nat.le_refl _) _).setCell (Nat.le_refl _) _).setCell (Nat.le_refl _) _).setCell (Nat.le_refl _) _).setCell (Nat.le_refl _) _).setCell (Nat.le_refl _) _).setCell (Nat.le_refl _) _).setCell (Nat.le_refl _) _).setCell (Nat.le_refl _) _).setCell (Nat.le_refl _) _)
end Go.Proofs.Ytjcbdnbbdhjoiaa.Lgw
