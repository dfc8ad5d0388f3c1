/- Contracts and words on which the claims of this seat stand, part 14: LgNd LgNe LgNf. -/
import Derived.Test.YtjcbdnbbdhjoiaaG01
import Derived.Test.YtjcbdnbbdhjoiaaG11
import Derived.Test.YtjcbdnbbdhjoiaaG12
import Derived.Test.YtjcbdnbbdhjoiaaG13
set_option linter.unusedSimpArgs false
set_option linter.unusedVariables false
namespace Go.Proofs.Ytjcbdnbbdhjoiaa.Lgw
set_option maxRecDepth 20000
open Go.RowKit
open Bk Lg Wire
open Tgw (hat hbe)
open Rg (bal)

set_option maxHeartbeats 8000000 in
theorem guess_k5 (A : Option Addr) (n c : Nat) (bs : List UInt8) (hn : n = bs.length) (hc : n ≤ c) (hl : n ≤ big) (w : World) (hr : Rd w w.heap.size A (bs.map B8)) (v : Nat) (rest : List UInt8) (ht : takeF bs = some (v, rest)) (hk : iw v = 5) : Calls Try.prog 65 #[.slice A n c] w (RetGuess w bs) := by
  have hbk : behind 5 = 2 := by decide +kernel
  have HR := Lib.hid hr; have HN := Lib.hid hn
  have HNO : Hid (getsF 2 rest = none → ∀ w', Below w.heap.size w w' → RetGuess w bs (.returned (.tuple #[rvv ⟨0, 0, 0, 0, 0, 0, zero 0, 0⟩, .bool false])) w') := Lib.hid (fun h w' hb => ⟨hb, Or.inl ⟨guess_none ht hk hbk h, rfl⟩⟩)
  have HYES : Hid (∀ ns s, getsF 2 rest = some (ns, s) → ∀ r, gp 5 ns = r → ∀ w', Below w.heap.size w w' → RetGuess w bs (.returned (.tuple #[rvv r, .bool true])) w') := Lib.hid (fun ns s h r hr w' hb => ⟨hb, Or.inr ⟨r, by rw [← hr]; exact guess_some ht hk hbk h, rfl⟩⟩)
  generalize RetGuess w bs = PP at HNO HYES ⊢
  have HT := Lib.hid ht
  have hwv := wrap_iw v (takeF_some ht).1
  have hlr : rest.length < bs.length := takeF_len ht
  rw [hk] at hwv
  have HBK := Lib.hid (fun W => behind_c 5 W)
  rw [hbk] at HBK
  unfold big at hl
  have hlb : rest.length ≤ 140737488355328 := by omega
  clear hr hn ht hk hbk hlr
  have hsf := store_flt
  go_enter Try.func65, Try.ntmps65
  go_wp2_with fail
  have HX0 := Lib.hid (show Rx (w.alloc (.cells #[.int .i64 0, .int .i64 0, .int .i64 0, .int .i64 0, .int .i64 0, .int .i64 0, .int .i64 0, .int .i64 0, .int .i64 0, .float .f64 0, .int .i64 0] 40)) w.heap.size zeroR from hat _ _ _ rfl)
  have HB := Lib.hid (bal (Below.refl w.heap.size w) (Nat.le_refl _) (.cells #[.int .i64 0, .int .i64 0, .int .i64 0, .int .i64 0, .int .i64 0, .int .i64 0, .int .i64 0, .int .i64 0, .int .i64 0, .float .f64 0, .int .i64 0] 40))
  generalize w.alloc (.cells #[.int .i64 0, .int .i64 0, .int .i64 0, .int .i64 0, .int .i64 0, .int .i64 0, .int .i64 0, .int .i64 0, .int .i64 0, .float .f64 0, .int .i64 0] 40) = w0 at HX0 HB ⊢
  have HR0 := Lib.hid ((HR.out.below HB.out).more HB.out.size)
  refine (get_c A n c bs HN.out hc _ w0 HR0.out (Nat.le_refl _) (by unfold big; omega)).mono ?_
  rintro e w1 ⟨hb1, h1⟩
  rw [HT.out] at h1
  obtain ⟨A1, n1, c1, rfl, ho1⟩ := h1
  have HX0 := Lib.hid (HX0.out.all hb1)
  have HB := Lib.hid (HB.out.trans (hb1.mono HB.out.size)); clear hb1
  have HO1 := Lib.hid ho1; clear ho1 HR0
  go_wp2_with fail
  have HX1 := Lib.hid (show Rx (w1.alloc (.cells #[.int .i64 5, .int .i64 0, .int .i64 0, .int .i64 0, .int .i64 0, .int .i64 0, .int .i64 0, .int .i64 0, .int .i64 0, .float .f64 0, .int .i64 0] 40)) w1.heap.size ⟨5, 0, 0, 0, 0, 0, zero 0, 0⟩ from hat _ _ _ rfl)
  have HX0 := Lib.hid (show Rx (w1.alloc (.cells #[.int .i64 5, .int .i64 0, .int .i64 0, .int .i64 0, .int .i64 0, .int .i64 0, .int .i64 0, .int .i64 0, .int .i64 0, .float .f64 0, .int .i64 0] 40)) w.heap.size zeroR from hbe HX0.out)
  have HG1 := Lib.hid HB.out.size
  have HNE : Hid (w.heap.size ≠ w1.heap.size) := Lib.hid (by obtain ⟨_, h⟩ : ∃ o, w1.heap[w.heap.size]? = some o := ⟨_, (by assumption : Hid (Rx w1 w.heap.size zeroR)).out⟩; intro e; rw [e, Array.getElem?_eq_none (Nat.le_refl _)] at h; cases h)
  have HB := Lib.hid (bal HB.out (Nat.le_refl _) (.cells #[.int .i64 5, .int .i64 0, .int .i64 0, .int .i64 0, .int .i64 0, .int .i64 0, .int .i64 0, .int .i64 0, .int .i64 0, .float .f64 0, .int .i64 0] 40))
  have HO1 := Lib.hid (HO1.out.alloc (.cells #[.int .i64 5, .int .i64 0, .int .i64 0, .int .i64 0, .int .i64 0, .int .i64 0, .int .i64 0, .int .i64 0, .int .i64 0, .float .f64 0, .int .i64 0] 40))
  have hg12 : w1.heap.size < (w1.alloc (.cells #[.int .i64 5, .int .i64 0, .int .i64 0, .int .i64 0, .int .i64 0, .int .i64 0, .int .i64 0, .int .i64 0, .int .i64 0, .float .f64 0, .int .i64 0] 40)).heap.size := by simp
  generalize w1.alloc (.cells #[.int .i64 5, .int .i64 0, .int .i64 0, .int .i64 0, .int .i64 0, .int .i64 0, .int .i64 0, .int .i64 0, .int .i64 0, .float .f64 0, .int .i64 0] 40) = w2 at HX1 HX0 HB HO1 hg12 ⊢
  generalize w1.heap.size = g1 at HX1 HG1 HNE hg12 ⊢
  refine (HBK.out _).mono ?_
  rintro e w2b ⟨rfl, hw2b⟩
  subst hw2b
  go_wp2_with fail
  refine (gets_c A1 n1 c1 _ rest HO1.out.1 HO1.out.cap _ w2 HO1.out.rd (Nat.le_refl _) (by have := HO1.out.1; unfold big; omega)).mono ?_
  rintro e w3 ⟨hb3, h3⟩
  rw [show getsI 2 rest = getsF 2 rest from getsI_in 2 (by omega) rest] at h3
  have hgw : w.heap.size < w2.heap.size := HX0.out.lt
  have HX1 := Lib.hid (HX1.out.all hb3); have HX0 := Lib.hid (HX0.out.all hb3)
  have HB := Lib.hid (HB.out.trans (hb3.mono HB.out.size)); clear hb3
  cases hg : getsF 2 rest with
  | none =>
    rw [hg] at h3
    have h3' : e = .returned (.tuple #[.slice none 0 0, .slice none 0 0, .int .i64 21]) := h3
    subst h3'
    clear h3
    have HN0 := Lib.hid (HNO.out hg)
    obtain ⟨z0, z1, z2, z3, z4, z5, z6, z7, z8, z9, z10⟩ := HX0.out.cs
    have f0 := HX0.out.frozen 0; have f1 := HX0.out.frozen 1; have f2 := HX0.out.frozen 2; have f3 := HX0.out.frozen 3; have f4 := HX0.out.frozen 4; have f5 := HX0.out.frozen 5; have f6 := HX0.out.frozen 6; have f7 := HX0.out.frozen 7; have f8 := HX0.out.frozen 8; have f9 := HX0.out.frozen 9; have f10 := HX0.out.frozen 10
    go_wp2
    refine bodyPost_ret (results_rec2 (g := w.heap.size) (r := ⟨0, 0, 0, 0, 0, 0, zero 0, 0⟩) rfl rfl rfl (HX0.out.put ⟨0, 0, 0, 0, 0, 0, zero 0, 0⟩)) rfl ?_
    exact HN0.out _ (((((((((((HB.out.setCell (Nat.le_refl _) _).setCell (Nat.le_refl _) _).setCell (Nat.le_refl _) _).setCell (Nat.le_refl _) _).setCell (Nat.le_refl _) _).setCell (Nat.le_refl _) _).setCell (Nat.le_refl _) _).setCell (Nat.le_refl _) _).setCell (Nat.le_refl _) _).setCell (Nat.le_refl _) _).setCell (Nat.le_refl _) _)
  | some nr =>
    obtain ⟨ns, s⟩ := nr
    rw [hg] at h3
    obtain ⟨A3, n3, c3, A4, n4, c4, rfl, ho3, _⟩ := h3
    have hle := gets_len 2 rest ns s hg
    have HYES := Lib.hid (HYES.out ns s hg)
    obtain ⟨a0, a1, rfl⟩ := list2 hle.1
    have HW := Lib.hid hle
    obtain ⟨b, rfl, hbb, hbl, hnc⟩ := own_nums ho3 (by simp)
    have hn3 : n3 = 2 := ho3.1
    subst hn3
    have HNC := Lib.hid hnc; have HBL := Lib.hid hbl
    have HNB : Hid (b ≠ g1) := Lib.hid (by omega)
    have HNW : Hid (b ≠ w.heap.size) := Lib.hid (by omega)
    have hne1 : b ≠ g1 := by omega
    have hne2 : g1 ≠ b := by omega
    clear hle hbb hbl hnc hg ho3 hgw hg12
    have hw0 := wrap_iw a0 (HW.out.2 a0 (by simp))
    have hw1 := wrap_iw a1 (HW.out.2 a1 (by simp))
    have HYES := Lib.hid (HYES.out ⟨5, vA (iw a0), vD (iw a0), 0, vA (iw a1), vD (iw a1), zero 0, 0⟩ (by unfold gp; rw [if_neg (by omega), if_neg (by omega), if_neg (by omega), if_neg (by omega), if_pos rfl]; rfl))
    obtain ⟨x0, x1, x2, x3, x4, x5, x6, x7, x8, x9, x10⟩ := HX1.out.cs
    have e0 := HX1.out.frozen 0; have e1 := HX1.out.frozen 1; have e2 := HX1.out.frozen 2; have e3 := HX1.out.frozen 3; have e4 := HX1.out.frozen 4; have e5 := HX1.out.frozen 5; have e6 := HX1.out.frozen 6; have e7 := HX1.out.frozen 7; have e8 := HX1.out.frozen 8; have e9 := HX1.out.frozen 9; have e10 := HX1.out.frozen 10
    have m0 := HNC.out 0 a0 rfl
    go_wp2_with fail
    clear x0 x1 x2 x3 x4 x5 x6 x7 x8 x9 x10 e0 e1 e2 e3 e4 e5 e6 e7 e8 e9 e10 m0
    refine (view_of_c a0 (HW.out.2 a0 (by simp)) _).mono ?_
    rintro e w4 ⟨rfl, hbq⟩
    have HX1 := Lib.hid (HX1.out.all hbq); have HX0 := Lib.hid (HX0.out.all hbq)
    have HNC := Lib.hid (HNC.out.all HBL.out hbq); have HBL := Lib.hid (Nat.lt_of_lt_of_le HBL.out hbq.size)
    have HB := Lib.hid (HB.out.trans (hbq.mono HB.out.size)); clear hbq
    generalize (vA (iw a0) : Int) = pa0 at HYES ⊢
    generalize (vD (iw a0) : Int) = pd0 at HYES ⊢
    obtain ⟨x0, x1, x2, x3, x4, x5, x6, x7, x8, x9, x10⟩ := HX1.out.cs
    have e0 := HX1.out.frozen 0; have e1 := HX1.out.frozen 1; have e2 := HX1.out.frozen 2; have e3 := HX1.out.frozen 3; have e4 := HX1.out.frozen 4; have e5 := HX1.out.frozen 5; have e6 := HX1.out.frozen 6; have e7 := HX1.out.frozen 7; have e8 := HX1.out.frozen 8; have e9 := HX1.out.frozen 9; have e10 := HX1.out.frozen 10
    have m1 := HNC.out 1 a1 rfl
    go_wp2_with fail
    clear x0 x1 x2 x3 x4 x5 x6 x7 x8 x9 x10 e0 e1 e2 e3 e4 e5 e6 e7 e8 e9 e10 m1
    have HY : Hid (Rx ((w4.setCell ⟨g1, 1, none⟩ (.int .i64 pa0)).setCell ⟨g1, 2, none⟩ (.int .i64 pd0)) g1 ⟨5, pa0, pd0, 0, 0, 0, zero 0, 0⟩) := Lib.hid ((HX1.out.put1 1 (.int .i64 pa0) ⟨5, pa0, 0, 0, 0, 0, zero 0, 0⟩ rfl).put1 2 (.int .i64 pd0) ⟨5, pa0, pd0, 0, 0, 0, zero 0, 0⟩ rfl)
    have HZ : Hid (Rx ((w4.setCell ⟨g1, 1, none⟩ (.int .i64 pa0)).setCell ⟨g1, 2, none⟩ (.int .i64 pd0)) w.heap.size zeroR) := Lib.hid ((HX0.out.other (p := ⟨g1, 1, none⟩) HNE.out (.int .i64 pa0)).other (p := ⟨g1, 2, none⟩) HNE.out (.int .i64 pd0))
    have HBB : Hid (Below w.heap.size w ((w4.setCell ⟨g1, 1, none⟩ (.int .i64 pa0)).setCell ⟨g1, 2, none⟩ (.int .i64 pd0))) := Lib.hid ((HB.out.setCell (p := ⟨g1, 1, none⟩) HG1.out (.int .i64 pa0)).setCell (p := ⟨g1, 2, none⟩) HG1.out (.int .i64 pd0))
    have HNN : Hid (Nc ((w4.setCell ⟨g1, 1, none⟩ (.int .i64 pa0)).setCell ⟨g1, 2, none⟩ (.int .i64 pd0)) b [a0, a1]) := Lib.hid ((HNC.out.set (p := ⟨g1, 1, none⟩) HNB.out (.int .i64 pa0)).set (p := ⟨g1, 2, none⟩) HNB.out (.int .i64 pd0))
    have HSZ : Hid (b < ((w4.setCell ⟨g1, 1, none⟩ (.int .i64 pa0)).setCell ⟨g1, 2, none⟩ (.int .i64 pd0)).heap.size) := Lib.hid (by have := HBL.out; simpa using this)
    generalize ((w4.setCell ⟨g1, 1, none⟩ (.int .i64 pa0)).setCell ⟨g1, 2, none⟩ (.int .i64 pd0)) = w5 at HY HZ HBB HNN HSZ ⊢
    clear HX1 HX0 HB HNC HBL
    have HX1 := HY; have HX0 := HZ; have HB := HBB; have HNC := HNN; have HBL := HSZ
    clear HY HZ HBB HNN HSZ
    refine (view_of_c a1 (HW.out.2 a1 (by simp)) _).mono ?_
    rintro e w6 ⟨rfl, hbq⟩
    have HX1 := Lib.hid (HX1.out.all hbq); have HX0 := Lib.hid (HX0.out.all hbq)
    have HNC := Lib.hid (HNC.out.all HBL.out hbq); have HBL := Lib.hid (Nat.lt_of_lt_of_le HBL.out hbq.size)
    have HB := Lib.hid (HB.out.trans (hbq.mono HB.out.size)); clear hbq
    generalize (vA (iw a1) : Int) = pa1 at HYES ⊢
    generalize (vD (iw a1) : Int) = pd1 at HYES ⊢
    obtain ⟨x0, x1, x2, x3, x4, x5, x6, x7, x8, x9, x10⟩ := HX1.out.cs
    have e0 := HX1.out.frozen 0; have e1 := HX1.out.frozen 1; have e2 := HX1.out.frozen 2; have e3 := HX1.out.frozen 3; have e4 := HX1.out.frozen 4; have e5 := HX1.out.frozen 5; have e6 := HX1.out.frozen 6; have e7 := HX1.out.frozen 7; have e8 := HX1.out.frozen 8; have e9 := HX1.out.frozen 9; have e10 := HX1.out.frozen 10
    go_upto_region 25 with (fail)
    clear x0 x1 x2 x3 x4 x5 x6 x7 x8 x9 x10 e0 e1 e2 e3 e4 e5 e6 e7 e8 e9 e10
    have HY : Hid (Rx ((w6.setCell ⟨g1, 4, none⟩ (.int .i64 pa1)).setCell ⟨g1, 5, none⟩ (.int .i64 pd1)) g1 ⟨5, pa0, pd0, 0, pa1, pd1, zero 0, 0⟩) := Lib.hid ((HX1.out.put1 4 (.int .i64 pa1) ⟨5, pa0, pd0, 0, pa1, 0, zero 0, 0⟩ rfl).put1 5 (.int .i64 pd1) ⟨5, pa0, pd0, 0, pa1, pd1, zero 0, 0⟩ rfl)
    have HZ : Hid (Rx ((w6.setCell ⟨g1, 4, none⟩ (.int .i64 pa1)).setCell ⟨g1, 5, none⟩ (.int .i64 pd1)) w.heap.size zeroR) := Lib.hid ((HX0.out.other (p := ⟨g1, 4, none⟩) HNE.out (.int .i64 pa1)).other (p := ⟨g1, 5, none⟩) HNE.out (.int .i64 pd1))
    have HBB : Hid (Below w.heap.size w ((w6.setCell ⟨g1, 4, none⟩ (.int .i64 pa1)).setCell ⟨g1, 5, none⟩ (.int .i64 pd1))) := Lib.hid ((HB.out.setCell (p := ⟨g1, 4, none⟩) HG1.out (.int .i64 pa1)).setCell (p := ⟨g1, 5, none⟩) HG1.out (.int .i64 pd1))
    have HNN : Hid (Nc ((w6.setCell ⟨g1, 4, none⟩ (.int .i64 pa1)).setCell ⟨g1, 5, none⟩ (.int .i64 pd1)) b [a0, a1]) := Lib.hid ((HNC.out.set (p := ⟨g1, 4, none⟩) HNB.out (.int .i64 pa1)).set (p := ⟨g1, 5, none⟩) HNB.out (.int .i64 pd1))
    have HSZ : Hid (b < ((w6.setCell ⟨g1, 4, none⟩ (.int .i64 pa1)).setCell ⟨g1, 5, none⟩ (.int .i64 pd1)).heap.size) := Lib.hid (by have := HBL.out; simpa using this)
    generalize ((w6.setCell ⟨g1, 4, none⟩ (.int .i64 pa1)).setCell ⟨g1, 5, none⟩ (.int .i64 pd1)) = w7 at HY HZ HBB HNN HSZ ⊢
    clear HX1 HX0 HB HNC HBL
    have HX1 := HY; have HX0 := HZ; have HB := HBB; have HNC := HNN; have HBL := HSZ
    clear HY HZ HBB HNN HSZ
    obtain ⟨x0, x1, x2, x3, x4, x5, x6, x7, x8, x9, x10⟩ := HX1.out.cs
    obtain ⟨z0, z1, z2, z3, z4, z5, z6, z7, z8, z9, z10⟩ := HX0.out.cs
    have f0 := HX0.out.frozen 0; have f1 := HX0.out.frozen 1; have f2 := HX0.out.frozen 2; have f3 := HX0.out.frozen 3; have f4 := HX0.out.frozen 4; have f5 := HX0.out.frozen 5; have f6 := HX0.out.frozen 6; have f7 := HX0.out.frozen 7; have f8 := HX0.out.frozen 8; have f9 := HX0.out.frozen 9; have f10 := HX0.out.frozen 10
    go_wp2
    refine bodyPost_ret (results_rec2 (g := w.heap.size) rfl rfl rfl (HX0.out.put ⟨5, pa0, pd0, 0, pa1, pd1, zero 0, 0⟩)) rfl ?_
    exact HYES.out _ (((((((((((HB.out.setCell (Nat.le_refl _) _).setCell (Nat.le_refl _) _).setCell (Nat.le_refl _) _).setCell (Nat.le_refl _) _).setCell (Nat.le_refl _) _).setCell (Nat.le_refl _) _).setCell (Nat.le_refl _) _).setCell (Nat.le_refl _) _).setCell (Nat.le_refl _) _).setCell (Nat.le_refl _) _).setCell (Nat.le_refl _) _)
end Go.Proofs.Ytjcbdnbbdhjoiaa.Lgw

namespace Go.Proofs.Ytjcbdnbbdhjoiaa.Lgw
set_option maxRecDepth 20000
open Go.RowKit
open Bk Lg Wire
open Tgw (hat hbe)
open Rg (bal)

set_option maxHeartbeats 8000000 in
theorem guess_k6 (A : Option Addr) (n c : Nat) (bs : List UInt8) (hn : n = bs.length) (hc : n ≤ c) (hl : n ≤ big) (w : World) (hr : Rd w w.heap.size A (bs.map B8)) (v : Nat) (rest : List UInt8) (ht : takeF bs = some (v, rest)) (hk : iw v = 6) : Calls Try.prog 65 #[.slice A n c] w (RetGuess w bs) := by
  have hbk : behind 6 = 1 := by decide +kernel
  have HR := Lib.hid hr; have HN := Lib.hid hn
  have HNO : Hid (getsF 1 rest = none → ∀ w', Below w.heap.size w w' → RetGuess w bs (.returned (.tuple #[rvv ⟨0, 0, 0, 0, 0, 0, zero 0, 0⟩, .bool false])) w') := Lib.hid (fun h w' hb => ⟨hb, Or.inl ⟨guess_none ht hk hbk h, rfl⟩⟩)
  have HYES : Hid (∀ ns s, getsF 1 rest = some (ns, s) → ∀ r, gp 6 ns = r → ∀ w', Below w.heap.size w w' → RetGuess w bs (.returned (.tuple #[rvv r, .bool true])) w') := Lib.hid (fun ns s h r hr w' hb => ⟨hb, Or.inr ⟨r, by rw [← hr]; exact guess_some ht hk hbk h, rfl⟩⟩)
  generalize RetGuess w bs = PP at HNO HYES ⊢
  have HT := Lib.hid ht
  have hwv := wrap_iw v (takeF_some ht).1
  have hlr : rest.length < bs.length := takeF_len ht
  rw [hk] at hwv
  have HBK := Lib.hid (fun W => behind_c 6 W)
  rw [hbk] at HBK
  unfold big at hl
  have hlb : rest.length ≤ 140737488355328 := by omega
  clear hr hn ht hk hbk hlr
  have hsf := store_flt
  go_enter Try.func65, Try.ntmps65
  go_wp2_with fail
  have HX0 := Lib.hid (show Rx (w.alloc (.cells #[.int .i64 0, .int .i64 0, .int .i64 0, .int .i64 0, .int .i64 0, .int .i64 0, .int .i64 0, .int .i64 0, .int .i64 0, .float .f64 0, .int .i64 0] 40)) w.heap.size zeroR from hat _ _ _ rfl)
  have HB := Lib.hid (bal (Below.refl w.heap.size w) (Nat.le_refl _) (.cells #[.int .i64 0, .int .i64 0, .int .i64 0, .int .i64 0, .int .i64 0, .int .i64 0, .int .i64 0, .int .i64 0, .int .i64 0, .float .f64 0, .int .i64 0] 40))
  generalize w.alloc (.cells #[.int .i64 0, .int .i64 0, .int .i64 0, .int .i64 0, .int .i64 0, .int .i64 0, .int .i64 0, .int .i64 0, .int .i64 0, .float .f64 0, .int .i64 0] 40) = w0 at HX0 HB ⊢
  have HR0 := Lib.hid ((HR.out.below HB.out).more HB.out.size)
  refine (get_c A n c bs HN.out hc _ w0 HR0.out (Nat.le_refl _) (by unfold big; omega)).mono ?_
  rintro e w1 ⟨hb1, h1⟩
  rw [HT.out] at h1
  obtain ⟨A1, n1, c1, rfl, ho1⟩ := h1
  have HX0 := Lib.hid (HX0.out.all hb1)
  have HB := Lib.hid (HB.out.trans (hb1.mono HB.out.size)); clear hb1
  have HO1 := Lib.hid ho1; clear ho1 HR0
  go_wp2_with fail
  have HX1 := Lib.hid (show Rx (w1.alloc (.cells #[.int .i64 6, .int .i64 0, .int .i64 0, .int .i64 0, .int .i64 0, .int .i64 0, .int .i64 0, .int .i64 0, .int .i64 0, .float .f64 0, .int .i64 0] 40)) w1.heap.size ⟨6, 0, 0, 0, 0, 0, zero 0, 0⟩ from hat _ _ _ rfl)
  have HX0 := Lib.hid (show Rx (w1.alloc (.cells #[.int .i64 6, .int .i64 0, .int .i64 0, .int .i64 0, .int .i64 0, .int .i64 0, .int .i64 0, .int .i64 0, .int .i64 0, .float .f64 0, .int .i64 0] 40)) w.heap.size zeroR from hbe HX0.out)
  have HG1 := Lib.hid HB.out.size
  have HNE : Hid (w.heap.size ≠ w1.heap.size) := Lib.hid (by obtain ⟨_, h⟩ : ∃ o, w1.heap[w.heap.size]? = some o := ⟨_, (by assumption : Hid (Rx w1 w.heap.size zeroR)).out⟩; intro e; rw [e, Array.getElem?_eq_none (Nat.le_refl _)] at h; cases h)
  have HB := Lib.hid (bal HB.out (Nat.le_refl _) (.cells #[.int .i64 6, .int .i64 0, .int .i64 0, .int .i64 0, .int .i64 0, .int .i64 0, .int .i64 0, .int .i64 0, .int .i64 0, .float .f64 0, .int .i64 0] 40))
  have HO1 := Lib.hid (HO1.out.alloc (.cells #[.int .i64 6, .int .i64 0, .int .i64 0, .int .i64 0, .int .i64 0, .int .i64 0, .int .i64 0, .int .i64 0, .int .i64 0, .float .f64 0, .int .i64 0] 40))
  have hg12 : w1.heap.size < (w1.alloc (.cells #[.int .i64 6, .int .i64 0, .int .i64 0, .int .i64 0, .int .i64 0, .int .i64 0, .int .i64 0, .int .i64 0, .int .i64 0, .float .f64 0, .int .i64 0] 40)).heap.size := by simp
  generalize w1.alloc (.cells #[.int .i64 6, .int .i64 0, .int .i64 0, .int .i64 0, .int .i64 0, .int .i64 0, .int .i64 0, .int .i64 0, .int .i64 0, .float .f64 0, .int .i64 0] 40) = w2 at HX1 HX0 HB HO1 hg12 ⊢
  generalize w1.heap.size = g1 at HX1 HG1 HNE hg12 ⊢
  refine (HBK.out _).mono ?_
  rintro e w2b ⟨rfl, hw2b⟩
  subst hw2b
  go_wp2_with fail
  refine (gets_c A1 n1 c1 _ rest HO1.out.1 HO1.out.cap _ w2 HO1.out.rd (Nat.le_refl _) (by have := HO1.out.1; unfold big; omega)).mono ?_
  rintro e w3 ⟨hb3, h3⟩
  rw [show getsI 1 rest = getsF 1 rest from getsI_in 1 (by omega) rest] at h3
  have hgw : w.heap.size < w2.heap.size := HX0.out.lt
  have HX1 := Lib.hid (HX1.out.all hb3); have HX0 := Lib.hid (HX0.out.all hb3)
  have HB := Lib.hid (HB.out.trans (hb3.mono HB.out.size)); clear hb3
  cases hg : getsF 1 rest with
  | none =>
    rw [hg] at h3
    have h3' : e = .returned (.tuple #[.slice none 0 0, .slice none 0 0, .int .i64 21]) := h3
    subst h3'
    clear h3
    have HN0 := Lib.hid (HNO.out hg)
    obtain ⟨z0, z1, z2, z3, z4, z5, z6, z7, z8, z9, z10⟩ := HX0.out.cs
    have f0 := HX0.out.frozen 0; have f1 := HX0.out.frozen 1; have f2 := HX0.out.frozen 2; have f3 := HX0.out.frozen 3; have f4 := HX0.out.frozen 4; have f5 := HX0.out.frozen 5; have f6 := HX0.out.frozen 6; have f7 := HX0.out.frozen 7; have f8 := HX0.out.frozen 8; have f9 := HX0.out.frozen 9; have f10 := HX0.out.frozen 10
    go_wp2
    refine bodyPost_ret (results_rec2 (g := w.heap.size) (r := ⟨0, 0, 0, 0, 0, 0, zero 0, 0⟩) rfl rfl rfl (HX0.out.put ⟨0, 0, 0, 0, 0, 0, zero 0, 0⟩)) rfl ?_
    exact HN0.out _ (((((((((((HB.out.setCell (Nat.le_refl _) _).setCell (Nat.le_refl _) _).setCell (Nat.le_refl _) _).setCell (Nat.le_refl _) _).setCell (Nat.le_refl _) _).setCell (Nat.le_refl _) _).setCell (Nat.le_refl _) _).setCell (Nat.le_refl _) _).setCell (Nat.le_refl _) _).setCell (Nat.le_refl _) _).setCell (Nat.le_refl _) _)
  | some nr =>
    obtain ⟨ns, s⟩ := nr
    rw [hg] at h3
    obtain ⟨A3, n3, c3, A4, n4, c4, rfl, ho3, _⟩ := h3
    have hle := gets_len 1 rest ns s hg
    have HYES := Lib.hid (HYES.out ns s hg)
    obtain ⟨a0, rfl⟩ := list1 hle.1
    have HW := Lib.hid hle
    obtain ⟨b, rfl, hbb, hbl, hnc⟩ := own_nums ho3 (by simp)
    have hn3 : n3 = 1 := ho3.1
    subst hn3
    have HNC := Lib.hid hnc; have HBL := Lib.hid hbl
    have HNB : Hid (b ≠ g1) := Lib.hid (by omega)
    have HNW : Hid (b ≠ w.heap.size) := Lib.hid (by omega)
    have hne1 : b ≠ g1 := by omega
    have hne2 : g1 ≠ b := by omega
    clear hle hbb hbl hnc hg ho3 hgw hg12
    have hw0 := wrap_iw a0 (HW.out.2 a0 (by simp))
    have HYES := Lib.hid (HYES.out ⟨6, 0, 0, 0, 0, 0, zero 0, iw a0⟩ (by unfold gp; rw [if_neg (by omega), if_neg (by omega), if_neg (by omega), if_neg (by omega), if_neg (by omega), if_pos rfl]; rfl))
    generalize iw a0 = q0 at hw0 HYES
    obtain ⟨x0, x1, x2, x3, x4, x5, x6, x7, x8, x9, x10⟩ := HX1.out.cs
    have e0 := HX1.out.frozen 0; have e1 := HX1.out.frozen 1; have e2 := HX1.out.frozen 2; have e3 := HX1.out.frozen 3; have e4 := HX1.out.frozen 4; have e5 := HX1.out.frozen 5; have e6 := HX1.out.frozen 6; have e7 := HX1.out.frozen 7; have e8 := HX1.out.frozen 8; have e9 := HX1.out.frozen 9; have e10 := HX1.out.frozen 10
    have m0 := HNC.out 0 a0 rfl
    go_upto_region 25 with (fail)
    clear x0 x1 x2 x3 x4 x5 x6 x7 x8 x9 x10 e0 e1 e2 e3 e4 e5 e6 e7 e8 e9 e10 m0
    have HY : Hid (Rx (w3.setCell ⟨g1, 10, none⟩ (.int .i64 q0)) g1 ⟨6, 0, 0, 0, 0, 0, zero 0, q0⟩) := Lib.hid (HX1.out.put1 10 (.int .i64 q0) ⟨6, 0, 0, 0, 0, 0, zero 0, q0⟩ rfl)
    have HZ : Hid (Rx (w3.setCell ⟨g1, 10, none⟩ (.int .i64 q0)) w.heap.size zeroR) := Lib.hid (HX0.out.other (p := ⟨g1, 10, none⟩) HNE.out (.int .i64 q0))
    have HBB : Hid (Below w.heap.size w (w3.setCell ⟨g1, 10, none⟩ (.int .i64 q0))) := Lib.hid (HB.out.setCell (p := ⟨g1, 10, none⟩) HG1.out (.int .i64 q0))
    have HNN : Hid (Nc (w3.setCell ⟨g1, 10, none⟩ (.int .i64 q0)) b [a0]) := Lib.hid (HNC.out.set (p := ⟨g1, 10, none⟩) HNB.out (.int .i64 q0))
    have HSZ : Hid (b < (w3.setCell ⟨g1, 10, none⟩ (.int .i64 q0)).heap.size) := Lib.hid (by have := HBL.out; simpa using this)
    generalize (w3.setCell ⟨g1, 10, none⟩ (.int .i64 q0)) = w4 at HY HZ HBB HNN HSZ ⊢
    clear HX1 HX0 HB HNC HBL
    have HX1 := HY; have HX0 := HZ; have HB := HBB; have HNC := HNN; have HBL := HSZ
    clear HY HZ HBB HNN HSZ
    obtain ⟨x0, x1, x2, x3, x4, x5, x6, x7, x8, x9, x10⟩ := HX1.out.cs
    obtain ⟨z0, z1, z2, z3, z4, z5, z6, z7, z8, z9, z10⟩ := HX0.out.cs
    have f0 := HX0.out.frozen 0; have f1 := HX0.out.frozen 1; have f2 := HX0.out.frozen 2; have f3 := HX0.out.frozen 3; have f4 := HX0.out.frozen 4; have f5 := HX0.out.frozen 5; have f6 := HX0.out.frozen 6; have f7 := HX0.out.frozen 7; have f8 := HX0.out.frozen 8; have f9 := HX0.out.frozen 9; have f10 := HX0.out.frozen 10
    go_wp2
    refine bodyPost_ret (results_rec2 (g := w.heap.size) rfl rfl rfl (HX0.out.put ⟨6, 0, 0, 0, 0, 0, zero 0, q0⟩)) rfl ?_
    exact HYES.out _ (((((((((((HB.out.setCell (Nat.le_refl _) _).setCell (Nat.le_refl _) _).setCell (Nat.le_refl _) _).setCell (Nat.le_refl _) _).setCell (Nat.le_refl _) _).setCell (Nat.le_refl _) _).setCell (Nat.le_refl _) _).setCell (Nat.le_refl _) _).setCell (Nat.le_refl _) _).setCell (Nat.le_refl _) _).setCell (Nat.le_refl _) _)
set_option maxHeartbeats 8000000 in
theorem guess_k0 (A : Option Addr) (n c : Nat) (bs : List UInt8) (hn : n = bs.length) (hc : n ≤ c) (hl : n ≤ big) (w : World) (hr : Rd w w.heap.size A (bs.map B8)) (v : Nat) (rest : List UInt8) (ht : takeF bs = some (v, rest)) (k : Int) (hk : iw v = k) (hk0 : ¬ (1 ≤ k ∧ k ≤ 6)) : Calls Try.prog 65 #[.slice A n c] w (RetGuess w bs) := by
  have hbk : behind k = 1 := by unfold behind; rw [if_neg (by omega), if_neg (by omega), if_neg (by omega)]
  have HR := Lib.hid hr; have HN := Lib.hid hn
  have HNO : Hid (getsF 1 rest = none → ∀ w', Below w.heap.size w w' → RetGuess w bs (.returned (.tuple #[rvv ⟨0, 0, 0, 0, 0, 0, zero 0, 0⟩, .bool false])) w') := Lib.hid (fun h w' hb => ⟨hb, Or.inl ⟨guess_none ht hk hbk h, rfl⟩⟩)
  have HYES : Hid (∀ ns s, getsF 1 rest = some (ns, s) → ∀ r, gp k ns = r → ∀ w', Below w.heap.size w w' → RetGuess w bs (.returned (.tuple #[rvv r, .bool true])) w') := Lib.hid (fun ns s h r hr w' hb => ⟨hb, Or.inr ⟨r, by rw [← hr]; exact guess_some ht hk hbk h, rfl⟩⟩)
  generalize RetGuess w bs = PP at HNO HYES ⊢
  have HT := Lib.hid ht
  have hwv := wrap_iw v (takeF_some ht).1
  have hlr : rest.length < bs.length := takeF_len ht
  rw [hk] at hwv
  have HBK := Lib.hid (fun W => behind_c k W)
  rw [hbk] at HBK
  unfold big at hl
  have hlb : rest.length ≤ 140737488355328 := by omega
  clear hr hn ht hk hbk hlr
  have hsf := store_flt
  go_enter Try.func65, Try.ntmps65
  go_wp2_with fail
  have HX0 := Lib.hid (show Rx (w.alloc (.cells #[.int .i64 0, .int .i64 0, .int .i64 0, .int .i64 0, .int .i64 0, .int .i64 0, .int .i64 0, .int .i64 0, .int .i64 0, .float .f64 0, .int .i64 0] 40)) w.heap.size zeroR from hat _ _ _ rfl)
  have HB := Lib.hid (bal (Below.refl w.heap.size w) (Nat.le_refl _) (.cells #[.int .i64 0, .int .i64 0, .int .i64 0, .int .i64 0, .int .i64 0, .int .i64 0, .int .i64 0, .int .i64 0, .int .i64 0, .float .f64 0, .int .i64 0] 40))
  generalize w.alloc (.cells #[.int .i64 0, .int .i64 0, .int .i64 0, .int .i64 0, .int .i64 0, .int .i64 0, .int .i64 0, .int .i64 0, .int .i64 0, .float .f64 0, .int .i64 0] 40) = w0 at HX0 HB ⊢
  have HR0 := Lib.hid ((HR.out.below HB.out).more HB.out.size)
  refine (get_c A n c bs HN.out hc _ w0 HR0.out (Nat.le_refl _) (by unfold big; omega)).mono ?_
  rintro e w1 ⟨hb1, h1⟩
  rw [HT.out] at h1
  obtain ⟨A1, n1, c1, rfl, ho1⟩ := h1
  have HX0 := Lib.hid (HX0.out.all hb1)
  have HB := Lib.hid (HB.out.trans (hb1.mono HB.out.size)); clear hb1
  have HO1 := Lib.hid ho1; clear ho1 HR0
  go_wp2_with fail
  have HX1 := Lib.hid (show Rx (w1.alloc (.cells #[.int .i64 k, .int .i64 0, .int .i64 0, .int .i64 0, .int .i64 0, .int .i64 0, .int .i64 0, .int .i64 0, .int .i64 0, .float .f64 0, .int .i64 0] 40)) w1.heap.size ⟨k, 0, 0, 0, 0, 0, zero 0, 0⟩ from hat _ _ _ rfl)
  have HX0 := Lib.hid (show Rx (w1.alloc (.cells #[.int .i64 k, .int .i64 0, .int .i64 0, .int .i64 0, .int .i64 0, .int .i64 0, .int .i64 0, .int .i64 0, .int .i64 0, .float .f64 0, .int .i64 0] 40)) w.heap.size zeroR from hbe HX0.out)
  have HG1 := Lib.hid HB.out.size
  have HNE : Hid (w.heap.size ≠ w1.heap.size) := Lib.hid (by obtain ⟨_, h⟩ : ∃ o, w1.heap[w.heap.size]? = some o := ⟨_, (by assumption : Hid (Rx w1 w.heap.size zeroR)).out⟩; intro e; rw [e, Array.getElem?_eq_none (Nat.le_refl _)] at h; cases h)
  have HB := Lib.hid (bal HB.out (Nat.le_refl _) (.cells #[.int .i64 k, .int .i64 0, .int .i64 0, .int .i64 0, .int .i64 0, .int .i64 0, .int .i64 0, .int .i64 0, .int .i64 0, .float .f64 0, .int .i64 0] 40))
  have HO1 := Lib.hid (HO1.out.alloc (.cells #[.int .i64 k, .int .i64 0, .int .i64 0, .int .i64 0, .int .i64 0, .int .i64 0, .int .i64 0, .int .i64 0, .int .i64 0, .float .f64 0, .int .i64 0] 40))
  have hg12 : w1.heap.size < (w1.alloc (.cells #[.int .i64 k, .int .i64 0, .int .i64 0, .int .i64 0, .int .i64 0, .int .i64 0, .int .i64 0, .int .i64 0, .int .i64 0, .float .f64 0, .int .i64 0] 40)).heap.size := by simp
  generalize w1.alloc (.cells #[.int .i64 k, .int .i64 0, .int .i64 0, .int .i64 0, .int .i64 0, .int .i64 0, .int .i64 0, .int .i64 0, .int .i64 0, .float .f64 0, .int .i64 0] 40) = w2 at HX1 HX0 HB HO1 hg12 ⊢
  generalize w1.heap.size = g1 at HX1 HG1 HNE hg12 ⊢
  refine (HBK.out _).mono ?_
  rintro e w2b ⟨rfl, hw2b⟩
  subst hw2b
  go_wp2_with fail
  refine (gets_c A1 n1 c1 _ rest HO1.out.1 HO1.out.cap _ w2 HO1.out.rd (Nat.le_refl _) (by have := HO1.out.1; unfold big; omega)).mono ?_
  rintro e w3 ⟨hb3, h3⟩
  rw [show getsI 1 rest = getsF 1 rest from getsI_in 1 (by omega) rest] at h3
  have hgw : w.heap.size < w2.heap.size := HX0.out.lt
  have HX1 := Lib.hid (HX1.out.all hb3); have HX0 := Lib.hid (HX0.out.all hb3)
  have HB := Lib.hid (HB.out.trans (hb3.mono HB.out.size)); clear hb3
  cases hg : getsF 1 rest with
  | none =>
    rw [hg] at h3
    have h3' : e = .returned (.tuple #[.slice none 0 0, .slice none 0 0, .int .i64 21]) := h3
    subst h3'
    clear h3
    have HN0 := Lib.hid (HNO.out hg)
    obtain ⟨z0, z1, z2, z3, z4, z5, z6, z7, z8, z9, z10⟩ := HX0.out.cs
    have f0 := HX0.out.frozen 0; have f1 := HX0.out.frozen 1; have f2 := HX0.out.frozen 2; have f3 := HX0.out.frozen 3; have f4 := HX0.out.frozen 4; have f5 := HX0.out.frozen 5; have f6 := HX0.out.frozen 6; have f7 := HX0.out.frozen 7; have f8 := HX0.out.frozen 8; have f9 := HX0.out.frozen 9; have f10 := HX0.out.frozen 10
    go_wp2
    refine bodyPost_ret (results_rec2 (g := w.heap.size) (r := ⟨0, 0, 0, 0, 0, 0, zero 0, 0⟩) rfl rfl rfl (HX0.out.put ⟨0, 0, 0, 0, 0, 0, zero 0, 0⟩)) rfl ?_
    exact HN0.out _ (((((((((((HB.out.setCell (Nat.le_refl _) _).setCell (Nat.le_refl _) _).setCell (Nat.le_refl _) _).setCell (Nat.le_refl _) _).setCell (Nat.le_refl _) _).setCell (Nat.le_refl _) _).setCell (Nat.le_refl _) _).setCell (Nat.le_refl _) _).setCell (Nat.le_refl _) _).setCell (Nat.le_refl _) _).setCell (Nat.le_refl _) _)
  | some nr =>
    obtain ⟨ns, s⟩ := nr
    rw [hg] at h3
    obtain ⟨A3, n3, c3, A4, n4, c4, rfl, ho3, _⟩ := h3
    have hle := gets_len 1 rest ns s hg
    have HYES := Lib.hid (HYES.out ns s hg)
    obtain ⟨a0, rfl⟩ := list1 hle.1
    have HW := Lib.hid hle
    obtain ⟨b, rfl, hbb, hbl, hnc⟩ := own_nums ho3 (by simp)
    have hn3 : n3 = 1 := ho3.1
    subst hn3
    have HNC := Lib.hid hnc; have HBL := Lib.hid hbl
    have HNB : Hid (b ≠ g1) := Lib.hid (by omega)
    have HNW : Hid (b ≠ w.heap.size) := Lib.hid (by omega)
    have hne1 : b ≠ g1 := by omega
    have hne2 : g1 ≠ b := by omega
    clear hle hbb hbl hnc hg ho3 hgw hg12
    have HYES := Lib.hid (HYES.out ⟨k, 0, 0, 0, 0, 0, zero 0, 0⟩ (by unfold gp; rw [if_neg (by omega), if_neg (by omega), if_neg (by omega), if_neg (by omega), if_neg (by omega), if_neg (by omega)]))
    have k1 : (k == 1) = false := by rw [beq_eq_false_iff_ne]; omega
    have k2 : (k == 2) = false := by rw [beq_eq_false_iff_ne]; omega
    have k3 : (k == 3) = false := by rw [beq_eq_false_iff_ne]; omega
    have k4 : (k == 4) = false := by rw [beq_eq_false_iff_ne]; omega
    have k5 : (k == 5) = false := by rw [beq_eq_false_iff_ne]; omega
    have k6 : (k == 6) = false := by rw [beq_eq_false_iff_ne]; omega
    obtain ⟨x0, x1, x2, x3, x4, x5, x6, x7, x8, x9, x10⟩ := HX1.out.cs
    have e0 := HX1.out.frozen 0; have e1 := HX1.out.frozen 1; have e2 := HX1.out.frozen 2; have e3 := HX1.out.frozen 3; have e4 := HX1.out.frozen 4; have e5 := HX1.out.frozen 5; have e6 := HX1.out.frozen 6; have e7 := HX1.out.frozen 7; have e8 := HX1.out.frozen 8; have e9 := HX1.out.frozen 9; have e10 := HX1.out.frozen 10
    go_upto_region 25 with (fail)
    clear x0 x1 x2 x3 x4 x5 x6 x7 x8 x9 x10 e0 e1 e2 e3 e4 e5 e6 e7 e8 e9 e10
    obtain ⟨x0, x1, x2, x3, x4, x5, x6, x7, x8, x9, x10⟩ := HX1.out.cs
    obtain ⟨z0, z1, z2, z3, z4, z5, z6, z7, z8, z9, z10⟩ := HX0.out.cs
    have f0 := HX0.out.frozen 0; have f1 := HX0.out.frozen 1; have f2 := HX0.out.frozen 2; have f3 := HX0.out.frozen 3; have f4 := HX0.out.frozen 4; have f5 := HX0.out.frozen 5; have f6 := HX0.out.frozen 6; have f7 := HX0.out.frozen 7; have f8 := HX0.out.frozen 8; have f9 := HX0.out.frozen 9; have f10 := HX0.out.frozen 10
    go_wp2
    refine bodyPost_ret (results_rec2 (g := w.heap.size) rfl rfl rfl (HX0.out.put ⟨k, 0, 0, 0, 0, 0, zero 0, 0⟩)) rfl ?_
    exact HYES.out _ (((((((((((HB.out.setCell (Nat.le_refl _) _).setCell (Nat.le_refl _) _).setCell (Nat.le_refl _) _).setCell (Nat.le_refl _) _).setCell (Nat.le_refl _) _).setCell (Nat.le_refl _) _).setCell (Nat.le_refl _) _).setCell (Nat.le_refl _) _).setCell (Nat.le_refl _) _).setCell (Nat.le_refl _) _).setCell (Nat.le_refl _) _)
end Go.Proofs.Ytjcbdnbbdhjoiaa.Lgw

namespace Go.Proofs.Ytjcbdnbbdhjoiaa.Lgw
set_option maxRecDepth 20000
open Go.RowKit
open Bk Lg Wire
open Tgw (hat hbe)
open Rg (bal)

theorem guess_k (A : Option Addr) (n c : Nat) (bs : List UInt8) (hn : n = bs.length) (hc : n ≤ c) (hl : n ≤ big) (w : World) (hr : Rd w w.heap.size A (bs.map B8)) (v : Nat) (rest : List UInt8) (ht : takeF bs = some (v, rest)) : Calls Try.prog 65 #[.slice A n c] w (RetGuess w bs) := by
  by_cases h1 : iw v = 1
  · exact guess_k1 A n c bs hn hc hl w hr v rest ht h1
  by_cases h2 : iw v = 2
  · exact guess_k2 A n c bs hn hc hl w hr v rest ht h2
  by_cases h3 : iw v = 3
  · exact guess_k3 A n c bs hn hc hl w hr v rest ht h3
  by_cases h4 : iw v = 4
  · exact guess_k4 A n c bs hn hc hl w hr v rest ht h4
  by_cases h5 : iw v = 5
  · exact guess_k5 A n c bs hn hc hl w hr v rest ht h5
  by_cases h6 : iw v = 6
  · exact guess_k6 A n c bs hn hc hl w hr v rest ht h6
  · exact guess_k0 A n c bs hn hc hl w hr v rest ht (iw v) rfl (by omega)
set_option maxHeartbeats 1000000 in
theorem guess_c (A : Option Addr) (n c : Nat) (bs : List UInt8) (hn : n = bs.length) (hc : n ≤ c) (hl : n ≤ big) (w : World) (hr : Rd w w.heap.size A (bs.map B8)) : Calls Try.prog 65 #[.slice A n c] w (RetGuess w bs) := by
  cases ht : takeF bs with
  | some vr => exact guess_k A n c bs hn hc hl w hr vr.1 vr.2 ht
  | none =>
    have HR := Lib.hid hr; have HN := Lib.hid hn
    have HNO : Hid (∀ w', Below w.heap.size w w' → RetGuess w bs (.returned (.tuple #[rvv ⟨0, 0, 0, 0, 0, 0, zero 0, 0⟩, .bool false])) w') := Lib.hid (fun w' hb => ⟨hb, Or.inl ⟨by unfold guessP; rw [ht], rfl⟩⟩)
    have HT := Lib.hid ht
    generalize RetGuess w bs = PP at HNO ⊢
    clear hr hn ht
    have hsf := store_flt
    go_enter Try.func65, Try.ntmps65
    go_wp2_with fail
    have HX0 := Lib.hid (show Rx (w.alloc (.cells #[.int .i64 0, .int .i64 0, .int .i64 0, .int .i64 0, .int .i64 0, .int .i64 0, .int .i64 0, .int .i64 0, .int .i64 0, .float .f64 0, .int .i64 0] 40)) w.heap.size zeroR from hat _ _ _ rfl)
    have HB := Lib.hid (bal (Below.refl w.heap.size w) (Nat.le_refl _) (.cells #[.int .i64 0, .int .i64 0, .int .i64 0, .int .i64 0, .int .i64 0, .int .i64 0, .int .i64 0, .int .i64 0, .int .i64 0, .float .f64 0, .int .i64 0] 40))
    generalize w.alloc (.cells #[.int .i64 0, .int .i64 0, .int .i64 0, .int .i64 0, .int .i64 0, .int .i64 0, .int .i64 0, .int .i64 0, .int .i64 0, .float .f64 0, .int .i64 0] 40) = w0 at HX0 HB ⊢
    have HR0 := Lib.hid ((HR.out.below HB.out).more HB.out.size)
    refine (get_c A n c bs HN.out hc _ w0 HR0.out (Nat.le_refl _) hl).mono ?_
    rintro e w1 ⟨hb1, h1⟩
    rw [HT.out] at h1
    have h1' : e = .returned (.tuple #[.int .u64 0, .slice none 0 0, .int .i64 21]) := h1
    subst h1'
    clear h1
    have HX0 := Lib.hid (HX0.out.all hb1)
    have HB := Lib.hid (HB.out.trans (hb1.mono HB.out.size)); clear hb1
    obtain ⟨z0, z1, z2, z3, z4, z5, z6, z7, z8, z9, z10⟩ := HX0.out.cs
    have f0 := HX0.out.frozen 0; have f1 := HX0.out.frozen 1; have f2 := HX0.out.frozen 2; have f3 := HX0.out.frozen 3; have f4 := HX0.out.frozen 4; have f5 := HX0.out.frozen 5; have f6 := HX0.out.frozen 6; have f7 := HX0.out.frozen 7; have f8 := HX0.out.frozen 8; have f9 := HX0.out.frozen 9; have f10 := HX0.out.frozen 10
    go_wp2
    refine bodyPost_ret (results_rec2 (g := w.heap.size) (r := ⟨0, 0, 0, 0, 0, 0, zero 0, 0⟩) rfl rfl rfl (HX0.out.put ⟨0, 0, 0, 0, 0, 0, zero 0, 0⟩)) rfl ?_
    exact HNO.out _ (((((((((((HB.out.setCell (Nat.le_refl _) _).setCell (Nat.le_refl _) _).setCell (Nat.le_refl _) _).setCell (Nat.le_refl _) _).setCell (Nat.le_refl _) _).setCell (Nat.le_refl _) _).setCell (Nat.le_refl _) _).setCell (Nat.le_refl _) _).setCell (Nat.le_refl _) _).setCell (Nat.le_refl _) _).setCell (Nat.le_refl _) _)
end Go.Proofs.Ytjcbdnbbdhjoiaa.Lgw
