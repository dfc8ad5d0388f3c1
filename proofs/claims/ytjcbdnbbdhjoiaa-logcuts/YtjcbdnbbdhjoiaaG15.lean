/- Contracts and words on which the claims of this seat stand, part 15: LgO LgPa LgPb LgPc LgA. -/
import Derived.Test.YtjcbdnbbdhjoiaaG03
import Derived.Test.YtjcbdnbbdhjoiaaG06
import Derived.Test.YtjcbdnbbdhjoiaaG09
import Derived.Test.YtjcbdnbbdhjoiaaG10
import Derived.Test.YtjcbdnbbdhjoiaaG14
set_option linter.unusedSimpArgs false
set_option linter.unusedVariables false
namespace Go.Proofs.Ytjcbdnbbdhjoiaa.Lgw
set_option maxRecDepth 20000
open Go.RowKit
open Bk Lg Wire
open Tgw (hat hbe)
open Rg (bal)

theorem iw_tg (n : Nat) (h : W64 n) : Tg.I64 (iw n) := by
  unfold W64 at h
  exact iw_i64 n (by omega)
theorem nth_w (ns : List Nat) (hw : ∀ x ∈ ns, W64 x) (i : Nat) : W64 (nth ns i) := by
  unfold nth
  cases h : ns[i]? with
  | none => show W64 0; unfold W64; omega
  | some x => exact hw x (List.mem_of_getElem? h)
theorem gp_wf (k : Int) (ns : List Nat) (hw : ∀ x ∈ ns, W64 x) : WfE (gp k ns).e := by
  have h0 : WfE (zero 0) := by
    refine ⟨?_, ?_, ?_, ?_⟩ <;> first | (show Tg.I64 0; unfold Tg.I64; omega) | (show (0 : Nat) < _; decide)
  refine ⟨?_, ?_, ?_, gp_val k ns hw⟩
  all_goals
    unfold gp
    split
    · exact iw_tg _ (nth_w ns hw _)
    split
    · exact (by first | exact h0.1 | exact h0.2.1 | exact h0.2.2.1)
    split
    · exact (by first | exact h0.1 | exact h0.2.1 | exact h0.2.2.1)
    split
    · exact (by first | exact h0.1 | exact h0.2.1 | exact h0.2.2.1)
    split
    · exact (by first | exact h0.1 | exact h0.2.1 | exact h0.2.2.1)
    split
    · exact (by first | exact h0.1 | exact h0.2.1 | exact h0.2.2.1)
    · exact (by first | exact h0.1 | exact h0.2.1 | exact h0.2.2.1)
theorem guessP_wf {bs : List UInt8} {r : R} (h : guessP bs = some r) : WfE r.e := by
  unfold guessP at h
  cases ht : takeF bs with
  | none => rw [ht] at h; cases h
  | some x =>
    obtain ⟨k, rest⟩ := x
    rw [ht] at h
    simp only at h
    cases hg : getsF (behind (iw k)) rest with
    | none => rw [hg] at h; cases h
    | some y =>
      obtain ⟨ns, s⟩ := y
      rw [hg] at h
      simp only [Option.some.injEq] at h
      rw [← h]
      exact gp_wf _ ns (gets_len _ _ _ _ hg).2
set_option maxHeartbeats 4000000 in
theorem first_c (A : Option Addr) (n c : Nat) (bs : List UInt8) (hn : n = bs.length) (hc : n ≤ c) (hl : n ≤ big) (w : World) (hr : Rd w w.heap.size A (bs.map B8)) : Calls Try.prog 36 #[.slice A n c] w (RetFirst w bs) := by
  have hsf := store_flt
  have HR := Lib.hid hr; have HN := Lib.hid hn; have HC := Lib.hid hc
  have HNO : Hid ((∀ r n, ¬ First bs r n) → ∀ w', Below w.heap.size w w' → RetFirst w bs (.returned (.tuple #[rvv ⟨0, 0, 0, 0, 0, 0, zero 0, 0⟩, .int .i64 0, .bool false])) w') := Lib.hid (fun h w' hb => ⟨hb, Or.inr ⟨h, rfl⟩⟩)
  have HYES : Hid (∀ r m, First bs r m → ∀ w', Below w.heap.size w w' → RetFirst w bs (.returned (.tuple #[rvv r, .int .i64 (m : Nat), .bool true])) w') := Lib.hid (fun r m h w' hb => ⟨hb, Or.inl ⟨r, m, h, rfl⟩⟩)
  generalize RetFirst w bs = PP at HNO HYES ⊢
  obtain ⟨m, hm⟩ : ∃ m : Nat, m = if n ≤ 60 then n else 60 := ⟨_, rfl⟩
  have hmn : m ≤ n ∧ m ≤ 60 := by rw [hm]; split <;> omega
  have hmin : ∀ ts t W, (Builtin.min_ ts t #[.int .i64 (n : Int), .int .i64 60]).run Try.prog W = .ok (.int .i64 (m : Int)) W := by
    intro ts t W
    rw [run_min_int2]
    congr 2
    rw [hm]
    split <;> split <;> omega
  have HT60 : Hid (bs.take m = bs.take 60 ∧ m = (bs.take 60).length) := Lib.hid (by
    rw [hm, List.length_take, ← hn]
    split
    · rename_i h
      rw [List.take_of_length_le (by omega), List.take_of_length_le (by omega)]
      exact ⟨rfl, by omega⟩
    · exact ⟨rfl, by omega⟩)
  have hsl := Dkw.run_head A n c m m .i64 rfl (by omega)
  clear hr hn hc hm
  go_enter Try.func36, Try.ntmps36
  go_wp2_with fail
  have HX := Lib.hid (show Rx (w.alloc (.cells #[.int .i64 0, .int .i64 0, .int .i64 0, .int .i64 0, .int .i64 0, .int .i64 0, .int .i64 0, .int .i64 0, .int .i64 0, .float .f64 0, .int .i64 0] 40)) w.heap.size zeroR from hat _ _ _ rfl)
  have HB := Lib.hid (bal (Below.refl w.heap.size w) (Nat.le_refl _) (.cells #[.int .i64 0, .int .i64 0, .int .i64 0, .int .i64 0, .int .i64 0, .int .i64 0, .int .i64 0, .int .i64 0, .int .i64 0, .float .f64 0, .int .i64 0] 40))
  generalize w.alloc (.cells #[.int .i64 0, .int .i64 0, .int .i64 0, .int .i64 0, .int .i64 0, .int .i64 0, .int .i64 0, .int .i64 0, .int .i64 0, .float .f64 0, .int .i64 0] 40) = w0 at HX HB ⊢
  have HR0 := Lib.hid ((HR.out.below HB.out).more HB.out.size)
  have HR6 : Hid (Rd w0 w0.heap.size A ((bs.take 60).map B8)) := Lib.hid (by rw [← HT60.out.1, List.map_take]; exact HR0.out.take m)
  refine (cut_c A m c (bs.take 60) HT60.out.2 (by have := HC.out; omega) _ w0 HR6.out (Nat.le_refl _) (by unfold big; omega)).mono ?_
  rintro e w1 ⟨hb1, h1⟩
  have HX := Lib.hid (HX.out.all hb1)
  have HR1 := Lib.hid ((HR0.out.below hb1).more hb1.size)
  have HB := Lib.hid (HB.out.trans (hb1.mono HB.out.size)); clear hb1 HR0 HR6
  clear hsl hmin hmn
  cases hcut : cutF (bs.take 60) with
  | none =>
    rw [hcut] at h1
    have h1' : e = .returned (.tuple #[.slice none 0 0, .slice none 0 0, .int .i64 21]) := h1
    subst h1'
    clear h1
    have HW := Lib.hid (no_cut60 hcut)
    obtain ⟨z0, z1, z2, z3, z4, z5, z6, z7, z8, z9, z10⟩ := HX.out.cs
    have f0 := HX.out.frozen 0; have f1 := HX.out.frozen 1; have f2 := HX.out.frozen 2; have f3 := HX.out.frozen 3; have f4 := HX.out.frozen 4; have f5 := HX.out.frozen 5; have f6 := HX.out.frozen 6; have f7 := HX.out.frozen 7; have f8 := HX.out.frozen 8; have f9 := HX.out.frozen 9; have f10 := HX.out.frozen 10
    go_wp2
    refine bodyPost_ret (results_rec3 (g := w.heap.size) (r := ⟨0, 0, 0, 0, 0, 0, zero 0, 0⟩) rfl rfl rfl rfl (HX.out.put ⟨0, 0, 0, 0, 0, 0, zero 0, 0⟩)) rfl ?_
    exact HNO.out HW.out _ (((((((((((HB.out.setCell (Nat.le_refl _) _).setCell (Nat.le_refl _) _).setCell (Nat.le_refl _) _).setCell (Nat.le_refl _) _).setCell (Nat.le_refl _) _).setCell (Nat.le_refl _) _).setCell (Nat.le_refl _) _).setCell (Nat.le_refl _) _).setCell (Nat.le_refl _) _).setCell (Nat.le_refl _) _).setCell (Nat.le_refl _) _)
  | some ts =>
    obtain ⟨t, s⟩ := ts
    rw [hcut] at h1
    obtain ⟨A2, n2, c2, A3, n3, c3, rfl, ho2, _⟩ := h1
    have HCUT := Lib.hid hcut
    have HO2 := Lib.hid ho2
    have ht4 : t.length ≤ 4000 := (cutF_some hcut).1
    have hn24 : n2 ≤ 4000 := by have := ho2.1; omega
    clear hcut ho2
    go_wp2_with fail
    refine (open_c A2 n2 c2 t HO2.out.1 HO2.out.cap _ w1 HO2.out.rd (Nat.le_refl _) (by unfold big; omega)).mono ?_
    rintro e w2 ⟨A4, n4, c4, rfl, hn4, hc4, hr4, hb2⟩
    have HX := Lib.hid (HX.out.all hb2)
    have HR1 := Lib.hid ((HR1.out.below hb2).more hb2.size)
    have HB := Lib.hid (HB.out.trans (hb2.mono HB.out.size)); clear hb2
    cases hop : Crc.openF t with
    | none =>
      rw [hop] at hn4 hr4
      have hoe : oE (none : Option (List UInt8)) = 31 := rfl
      rw [hoe]
      have HW := Lib.hid (no_open60 HCUT.out hop)
      obtain ⟨z0, z1, z2, z3, z4, z5, z6, z7, z8, z9, z10⟩ := HX.out.cs
      have f0 := HX.out.frozen 0; have f1 := HX.out.frozen 1; have f2 := HX.out.frozen 2; have f3 := HX.out.frozen 3; have f4 := HX.out.frozen 4; have f5 := HX.out.frozen 5; have f6 := HX.out.frozen 6; have f7 := HX.out.frozen 7; have f8 := HX.out.frozen 8; have f9 := HX.out.frozen 9; have f10 := HX.out.frozen 10
      go_wp2
      refine bodyPost_ret (results_rec3 (g := w.heap.size) (r := ⟨0, 0, 0, 0, 0, 0, zero 0, 0⟩) rfl rfl rfl rfl (HX.out.put ⟨0, 0, 0, 0, 0, 0, zero 0, 0⟩)) rfl ?_
      exact HNO.out HW.out _ (((((((((((HB.out.setCell (Nat.le_refl _) _).setCell (Nat.le_refl _) _).setCell (Nat.le_refl _) _).setCell (Nat.le_refl _) _).setCell (Nat.le_refl _) _).setCell (Nat.le_refl _) _).setCell (Nat.le_refl _) _).setCell (Nat.le_refl _) _).setCell (Nat.le_refl _) _).setCell (Nat.le_refl _) _).setCell (Nat.le_refl _) _)
    | some body =>
      rw [hop] at hn4 hr4
      have hoe : oE (some body) = 0 := rfl
      have hob : oB (some body) = body := rfl
      rw [hob] at hn4 hr4
      rw [hoe]
      have HOP := Lib.hid hop
      have hb4 : n4 ≤ 4000 := by
        have := Crc.open_some hop
        have h5 := congrArg List.length this
        have h6 : body.length ≤ (Crc.seal_ body).length := by unfold Crc.seal_; simp
        omega
      have HN4 := Lib.hid hn4; have HR4 := Lib.hid hr4
      clear hop hoe hob hn4 hr4
      go_wp2_with fail
      refine (guess_c A4 n4 c4 body HN4.out hc4 (by unfold big; omega) w2 HR4.out).mono ?_
      rintro e w3 ⟨hb3, h3⟩
      have HX := Lib.hid (HX.out.all hb3)
      have HR1 := Lib.hid ((HR1.out.below hb3).more hb3.size)
      have HB := Lib.hid (HB.out.trans (hb3.mono HB.out.size)); clear hb3
      rcases h3 with ⟨hg, rfl⟩ | ⟨r, hg, rfl⟩
      · have HW : Hid (∀ r' n', ¬ First bs r' n') := Lib.hid (fun r' n' hf => by
          have h1 := first_guess60 HCUT.out HOP.out hf
          rw [hg] at h1; cases h1)
        clear hg
        unfold rvv
        obtain ⟨z0, z1, z2, z3, z4, z5, z6, z7, z8, z9, z10⟩ := HX.out.cs
        have f0 := HX.out.frozen 0; have f1 := HX.out.frozen 1; have f2 := HX.out.frozen 2; have f3 := HX.out.frozen 3; have f4 := HX.out.frozen 4; have f5 := HX.out.frozen 5; have f6 := HX.out.frozen 6; have f7 := HX.out.frozen 7; have f8 := HX.out.frozen 8; have f9 := HX.out.frozen 9; have f10 := HX.out.frozen 10
        go_upto_region 8 with (fail)
        clear z0 z1 z2 z3 z4 z5 z6 z7 z8 z9 z10 f0 f1 f2 f3 f4 f5 f6 f7 f8 f9 f10
        have HY : Hid (Rx (((((((((((w3.setCell ⟨w.heap.size, 0, none⟩ (.int .i64 zeroR.kind)).setCell ⟨w.heap.size, 1, none⟩ (.int .i64 zeroR.va)).setCell ⟨w.heap.size, 2, none⟩ (.int .i64 zeroR.vd)).setCell ⟨w.heap.size, 3, none⟩ (.int .i64 zeroR.cn)).setCell ⟨w.heap.size, 4, none⟩ (.int .i64 zeroR.ca)).setCell ⟨w.heap.size, 5, none⟩ (.int .i64 zeroR.cd)).setCell ⟨w.heap.size, 6, none⟩ (.int .i64 zeroR.e.key)).setCell ⟨w.heap.size, 7, none⟩ (.int .i64 zeroR.e.num)).setCell ⟨w.heap.size, 8, none⟩ (.int .i64 zeroR.e.node)).setCell ⟨w.heap.size, 9, none⟩ (.float .f64 zeroR.e.val)).setCell ⟨w.heap.size, 10, none⟩ (.int .i64 zeroR.n)) w.heap.size zeroR) := Lib.hid (HX.out.put zeroR)
        have HBB : Hid (Below w.heap.size w (((((((((((w3.setCell ⟨w.heap.size, 0, none⟩ (.int .i64 zeroR.kind)).setCell ⟨w.heap.size, 1, none⟩ (.int .i64 zeroR.va)).setCell ⟨w.heap.size, 2, none⟩ (.int .i64 zeroR.vd)).setCell ⟨w.heap.size, 3, none⟩ (.int .i64 zeroR.cn)).setCell ⟨w.heap.size, 4, none⟩ (.int .i64 zeroR.ca)).setCell ⟨w.heap.size, 5, none⟩ (.int .i64 zeroR.cd)).setCell ⟨w.heap.size, 6, none⟩ (.int .i64 zeroR.e.key)).setCell ⟨w.heap.size, 7, none⟩ (.int .i64 zeroR.e.num)).setCell ⟨w.heap.size, 8, none⟩ (.int .i64 zeroR.e.node)).setCell ⟨w.heap.size, 9, none⟩ (.float .f64 zeroR.e.val)).setCell ⟨w.heap.size, 10, none⟩ (.int .i64 zeroR.n))) := Lib.hid (((((((((((HB.out.setCell (Nat.le_refl _) _).setCell (Nat.le_refl _) _).setCell (Nat.le_refl _) _).setCell (Nat.le_refl _) _).setCell (Nat.le_refl _) _).setCell (Nat.le_refl _) _).setCell (Nat.le_refl _) _).setCell (Nat.le_refl _) _).setCell (Nat.le_refl _) _).setCell (Nat.le_refl _) _).setCell (Nat.le_refl _) _)
        generalize (((((((((((w3.setCell ⟨w.heap.size, 0, none⟩ (.int .i64 zeroR.kind)).setCell ⟨w.heap.size, 1, none⟩ (.int .i64 zeroR.va)).setCell ⟨w.heap.size, 2, none⟩ (.int .i64 zeroR.vd)).setCell ⟨w.heap.size, 3, none⟩ (.int .i64 zeroR.cn)).setCell ⟨w.heap.size, 4, none⟩ (.int .i64 zeroR.ca)).setCell ⟨w.heap.size, 5, none⟩ (.int .i64 zeroR.cd)).setCell ⟨w.heap.size, 6, none⟩ (.int .i64 zeroR.e.key)).setCell ⟨w.heap.size, 7, none⟩ (.int .i64 zeroR.e.num)).setCell ⟨w.heap.size, 8, none⟩ (.int .i64 zeroR.e.node)).setCell ⟨w.heap.size, 9, none⟩ (.float .f64 zeroR.e.val)).setCell ⟨w.heap.size, 10, none⟩ (.int .i64 zeroR.n)) = w4 at HY HBB ⊢
        obtain ⟨z0, z1, z2, z3, z4, z5, z6, z7, z8, z9, z10⟩ := HY.out.cs
        have f0 := HY.out.frozen 0; have f1 := HY.out.frozen 1; have f2 := HY.out.frozen 2; have f3 := HY.out.frozen 3; have f4 := HY.out.frozen 4; have f5 := HY.out.frozen 5; have f6 := HY.out.frozen 6; have f7 := HY.out.frozen 7; have f8 := HY.out.frozen 8; have f9 := HY.out.frozen 9; have f10 := HY.out.frozen 10
        go_wp2
        refine bodyPost_ret (results_rec3 (g := w.heap.size) (r := ⟨0, 0, 0, 0, 0, 0, zero 0, 0⟩) rfl rfl rfl rfl (HY.out.put ⟨0, 0, 0, 0, 0, 0, zero 0, 0⟩)) rfl ?_
        exact HNO.out HW.out _ (((((((((((HBB.out.setCell (Nat.le_refl _) _).setCell (Nat.le_refl _) _).setCell (Nat.le_refl _) _).setCell (Nat.le_refl _) _).setCell (Nat.le_refl _) _).setCell (Nat.le_refl _) _).setCell (Nat.le_refl _) _).setCell (Nat.le_refl _) _).setCell (Nat.le_refl _) _).setCell (Nat.le_refl _) _).setCell (Nat.le_refl _) _)
      · have HWF := Lib.hid (guessP_wf hg)
        have HG := Lib.hid hg
        clear hg
        unfold rvv
        obtain ⟨z0, z1, z2, z3, z4, z5, z6, z7, z8, z9, z10⟩ := HX.out.cs
        have f0 := HX.out.frozen 0; have f1 := HX.out.frozen 1; have f2 := HX.out.frozen 2; have f3 := HX.out.frozen 3; have f4 := HX.out.frozen 4; have f5 := HX.out.frozen 5; have f6 := HX.out.frozen 6; have f7 := HX.out.frozen 7; have f8 := HX.out.frozen 8; have f9 := HX.out.frozen 9; have f10 := HX.out.frozen 10
        go_upto_region 8 with (fail)
        clear z0 z1 z2 z3 z4 z5 z6 z7 z8 z9 z10 f0 f1 f2 f3 f4 f5 f6 f7 f8 f9 f10
        have HY : Hid (Rx (((((((((((w3.setCell ⟨w.heap.size, 0, none⟩ (.int .i64 r.kind)).setCell ⟨w.heap.size, 1, none⟩ (.int .i64 r.va)).setCell ⟨w.heap.size, 2, none⟩ (.int .i64 r.vd)).setCell ⟨w.heap.size, 3, none⟩ (.int .i64 r.cn)).setCell ⟨w.heap.size, 4, none⟩ (.int .i64 r.ca)).setCell ⟨w.heap.size, 5, none⟩ (.int .i64 r.cd)).setCell ⟨w.heap.size, 6, none⟩ (.int .i64 r.e.key)).setCell ⟨w.heap.size, 7, none⟩ (.int .i64 r.e.num)).setCell ⟨w.heap.size, 8, none⟩ (.int .i64 r.e.node)).setCell ⟨w.heap.size, 9, none⟩ (.float .f64 r.e.val)).setCell ⟨w.heap.size, 10, none⟩ (.int .i64 r.n)) w.heap.size r) := Lib.hid (HX.out.put r)
        have HBB : Hid (Below w.heap.size w (((((((((((w3.setCell ⟨w.heap.size, 0, none⟩ (.int .i64 r.kind)).setCell ⟨w.heap.size, 1, none⟩ (.int .i64 r.va)).setCell ⟨w.heap.size, 2, none⟩ (.int .i64 r.vd)).setCell ⟨w.heap.size, 3, none⟩ (.int .i64 r.cn)).setCell ⟨w.heap.size, 4, none⟩ (.int .i64 r.ca)).setCell ⟨w.heap.size, 5, none⟩ (.int .i64 r.cd)).setCell ⟨w.heap.size, 6, none⟩ (.int .i64 r.e.key)).setCell ⟨w.heap.size, 7, none⟩ (.int .i64 r.e.num)).setCell ⟨w.heap.size, 8, none⟩ (.int .i64 r.e.node)).setCell ⟨w.heap.size, 9, none⟩ (.float .f64 r.e.val)).setCell ⟨w.heap.size, 10, none⟩ (.int .i64 r.n))) := Lib.hid (((((((((((HB.out.setCell (Nat.le_refl _) _).setCell (Nat.le_refl _) _).setCell (Nat.le_refl _) _).setCell (Nat.le_refl _) _).setCell (Nat.le_refl _) _).setCell (Nat.le_refl _) _).setCell (Nat.le_refl _) _).setCell (Nat.le_refl _) _).setCell (Nat.le_refl _) _).setCell (Nat.le_refl _) _).setCell (Nat.le_refl _) _)
        have HRR : Hid (Rd (((((((((((w3.setCell ⟨w.heap.size, 0, none⟩ (.int .i64 r.kind)).setCell ⟨w.heap.size, 1, none⟩ (.int .i64 r.va)).setCell ⟨w.heap.size, 2, none⟩ (.int .i64 r.vd)).setCell ⟨w.heap.size, 3, none⟩ (.int .i64 r.cn)).setCell ⟨w.heap.size, 4, none⟩ (.int .i64 r.ca)).setCell ⟨w.heap.size, 5, none⟩ (.int .i64 r.cd)).setCell ⟨w.heap.size, 6, none⟩ (.int .i64 r.e.key)).setCell ⟨w.heap.size, 7, none⟩ (.int .i64 r.e.num)).setCell ⟨w.heap.size, 8, none⟩ (.int .i64 r.e.node)).setCell ⟨w.heap.size, 9, none⟩ (.float .f64 r.e.val)).setCell ⟨w.heap.size, 10, none⟩ (.int .i64 r.n)) w.heap.size A (bs.map B8)) := Lib.hid (HR.out.below HBB.out)
        generalize (((((((((((w3.setCell ⟨w.heap.size, 0, none⟩ (.int .i64 r.kind)).setCell ⟨w.heap.size, 1, none⟩ (.int .i64 r.va)).setCell ⟨w.heap.size, 2, none⟩ (.int .i64 r.vd)).setCell ⟨w.heap.size, 3, none⟩ (.int .i64 r.cn)).setCell ⟨w.heap.size, 4, none⟩ (.int .i64 r.ca)).setCell ⟨w.heap.size, 5, none⟩ (.int .i64 r.cd)).setCell ⟨w.heap.size, 6, none⟩ (.int .i64 r.e.key)).setCell ⟨w.heap.size, 7, none⟩ (.int .i64 r.e.num)).setCell ⟨w.heap.size, 8, none⟩ (.int .i64 r.e.node)).setCell ⟨w.heap.size, 9, none⟩ (.float .f64 r.e.val)).setCell ⟨w.heap.size, 10, none⟩ (.int .i64 r.n)) = w4 at HY HBB HRR ⊢
        clear HX HB HR1
        obtain ⟨z0, z1, z2, z3, z4, z5, z6, z7, z8, z9, z10⟩ := HY.out.cs
        have HBY := Lib.hid (fun W => bytes_c r HWF.out W)
        unfold rvv at HBY
        go_wp2_with fail
        clear z0 z1 z2 z3 z4 z5 z6 z7 z8 z9 z10
        refine (HBY.out _).mono ?_
        rintro e w5 ⟨hb5, h5⟩
        have HY := Lib.hid (HY.out.all hb5)
        have HRR := Lib.hid (HR.out.below (HBB.out.trans (hb5.mono HBB.out.size)))
        have HBB := Lib.hid (HBB.out.trans (hb5.mono HBB.out.size))
        clear hb5
        rcases h5 with ⟨hrt, rfl⟩ | ⟨hrt, A6, n6, c6, rfl, ho6⟩
        · have HW : Hid (∀ r' n', ¬ First bs r' n') := Lib.hid (fun r' n' hf => by
            have h1 := first_guess60 HCUT.out HOP.out hf
            rw [HG.out] at h1
            have h2 := Option.some.inj h1
            have h3 := hf.1.1
            rw [← h2, hrt] at h3
            cases h3)
          clear hrt
          obtain ⟨z0, z1, z2, z3, z4, z5, z6, z7, z8, z9, z10⟩ := HY.out.cs
          have f0 := HY.out.frozen 0; have f1 := HY.out.frozen 1; have f2 := HY.out.frozen 2; have f3 := HY.out.frozen 3; have f4 := HY.out.frozen 4; have f5 := HY.out.frozen 5; have f6 := HY.out.frozen 6; have f7 := HY.out.frozen 7; have f8 := HY.out.frozen 8; have f9 := HY.out.frozen 9; have f10 := HY.out.frozen 10
          go_wp2
          refine bodyPost_ret (results_rec3 (g := w.heap.size) (r := ⟨0, 0, 0, 0, 0, 0, zero 0, 0⟩) rfl rfl rfl rfl (HY.out.put ⟨0, 0, 0, 0, 0, 0, zero 0, 0⟩)) rfl ?_
          exact HNO.out HW.out _ (((((((((((HBB.out.setCell (Nat.le_refl _) _).setCell (Nat.le_refl _) _).setCell (Nat.le_refl _) _).setCell (Nat.le_refl _) _).setCell (Nat.le_refl _) _).setCell (Nat.le_refl _) _).setCell (Nat.le_refl _) _).setCell (Nat.le_refl _) _).setCell (Nat.le_refl _) _).setCell (Nat.le_refl _) _).setCell (Nat.le_refl _) _)
        · have HO6 := Lib.hid ho6
          have HOK : Hid (Ok r) := Lib.hid ⟨hrt, HWF.out.2.2.2⟩
          clear hrt ho6
          go_wp2_with fail
          have HRW := Lib.hid (HRR.out.more HBB.out.size)
          refine (prefix_c A n c bs HN.out HC.out A6 n6 c6 (bytesR r) HO6.out.1 w5.heap.size w5 HRW.out HO6.out.rd).mono ?_
          rintro e w6 ⟨rfl, hw6⟩
          subst hw6
          generalize hq : decide (bytesR r = bs.take n6) = q
          cases q with
          | false =>
            have HW : Hid (∀ r' n', ¬ First bs r' n') := Lib.hid (fun r' n' hf => by
              have h1 := first_guess60 HCUT.out HOP.out hf
              rw [HG.out] at h1
              have h2 := Option.some.inj h1
              obtain ⟨_, _, _, s', hs'⟩ := hf
              have h3 := of_decide_eq_false hq
              rw [hs', ← h2, HO6.out.1, List.take_left] at h3
              exact h3 rfl)
            clear hq
            obtain ⟨z0, z1, z2, z3, z4, z5, z6, z7, z8, z9, z10⟩ := HY.out.cs
            have f0 := HY.out.frozen 0; have f1 := HY.out.frozen 1; have f2 := HY.out.frozen 2; have f3 := HY.out.frozen 3; have f4 := HY.out.frozen 4; have f5 := HY.out.frozen 5; have f6 := HY.out.frozen 6; have f7 := HY.out.frozen 7; have f8 := HY.out.frozen 8; have f9 := HY.out.frozen 9; have f10 := HY.out.frozen 10
            go_wp2
            refine bodyPost_ret (results_rec3 (g := w.heap.size) (r := ⟨0, 0, 0, 0, 0, 0, zero 0, 0⟩) rfl rfl rfl rfl (HY.out.put ⟨0, 0, 0, 0, 0, 0, zero 0, 0⟩)) rfl ?_
            exact HNO.out HW.out _ (((((((((((HBB.out.setCell (Nat.le_refl _) _).setCell (Nat.le_refl _) _).setCell (Nat.le_refl _) _).setCell (Nat.le_refl _) _).setCell (Nat.le_refl _) _).setCell (Nat.le_refl _) _).setCell (Nat.le_refl _) _).setCell (Nat.le_refl _) _).setCell (Nat.le_refl _) _).setCell (Nat.le_refl _) _).setCell (Nat.le_refl _) _)
          | true =>
            have HEQ := Lib.hid (of_decide_eq_true hq)
            have HF1 := Lib.hid (first_found60 HCUT.out HOP.out HG.out HOK.out (s' := bs.drop n6) (by rw [HEQ.out, List.take_append_drop]))
            rw [← HO6.out.1] at HF1
            clear hq
            obtain ⟨z0, z1, z2, z3, z4, z5, z6, z7, z8, z9, z10⟩ := HY.out.cs
            have f0 := HY.out.frozen 0; have f1 := HY.out.frozen 1; have f2 := HY.out.frozen 2; have f3 := HY.out.frozen 3; have f4 := HY.out.frozen 4; have f5 := HY.out.frozen 5; have f6 := HY.out.frozen 6; have f7 := HY.out.frozen 7; have f8 := HY.out.frozen 8; have f9 := HY.out.frozen 9; have f10 := HY.out.frozen 10
            go_wp2
            refine bodyPost_ret (results_rec3 (g := w.heap.size) (r := r) rfl rfl rfl rfl (HY.out.put r)) rfl ?_
            exact HYES.out r n6 HF1.out _ (((((((((((HBB.out.setCell (Nat.le_refl _) _).setCell (Nat.le_refl _) _).setCell (Nat.le_refl _) _).setCell (Nat.le_refl _) _).setCell (Nat.le_refl _) _).setCell (Nat.le_refl _) _).setCell (Nat.le_refl _) _).setCell (Nat.le_refl _) _).setCell (Nat.le_refl _) _).setCell (Nat.le_refl _) _).setCell (Nat.le_refl _) _)
end Go.Proofs.Ytjcbdnbbdhjoiaa.Lgw

namespace Go.Proofs.Ytjcbdnbbdhjoiaa.Lgw
set_option maxRecDepth 20000
open Go.RowKit
open Bk Lg Wire
open Tgw (hat hbe)
open Rg (bal)

set_option maxHeartbeats 2000000 in
theorem scan_c (A : Option Addr) (n c : Nat) (bs : List UInt8) (hn : n = bs.length) (hc : n ≤ c) (hl : n ≤ 1099511627776) (w : World) (hr : Rd w w.heap.size A (bs.map B8)) : Calls Try.prog 11 #[.slice A n c] w (RetScan w bs) := by
  have HR := Lib.hid hr; have HN := Lib.hid hn
  have HPO : Hid (∀ rs m A1 n1 c1 w', Scans bs rs m → Sr w' A1 n1 c1 rs → Below w.heap.size w w' → RetScan w bs (.returned (.tuple #[.slice A1 n1 c1, .int .i64 (m : Nat)])) w') := Lib.hid (fun rs m A1 n1 c1 w' h1 h2 h3 => ⟨A1, n1, c1, m, rs, rfl, h1, h2, h3⟩)
  generalize RetScan w bs = PP at HPO ⊢
  clear hr hn
  go_enter Try.func11, Try.ntmps11
  go_wp2
  have hsf := store_flt
  go_loopw [4, 5] (fun x4 x5 wr => ∃ (A1 : Option Addr) (n1 c1 m : Nat) (rs : List R) (s : List UInt8), x4 = .slice A1 n1 c1 ∧ x5 = .int .i64 (m : Int) ∧ (∀ r ∈ rs, Ok r ∧ canon r) ∧ m = (flatR rs).length ∧ bs = flatR rs ++ s ∧ 8 * n1 ≤ m ∧ m ≤ n ∧ Rg.OwnG KR wr w.heap.size A1 n1 c1 rs ∧ Below w.heap.size w wr) (fun _ x5 _ => n - (intOf x5).toNat)
  case atStart => exact ⟨none, 0, 0, 0, [], bs, rfl, rfl, by simp, rfl, rfl, by omega, by omega, Rg.own_noneG KR w _, Below.refl _ _⟩
  case round =>
    obtain ⟨A1, n1, c1, m, rs, s, rfl, rfl, hok, hm, hbs, h8, hmn, ho1, hb⟩ := hrel
    have HOK := Lib.hid hok; have HM := Lib.hid hm; have HBS := Lib.hid hbs; have HO1 := Lib.hid ho1; have HB := Lib.hid hb
    have HDR : Hid (bs.drop m = s) := Lib.hid (by rw [hm, hbs, List.drop_left])
    clear hok hm hbs ho1 hb
    obtain ⟨A2, hsl, hsr⟩ := run_from Try.underlying41 size8 A n c m m .i64 rfl hmn hc
    obtain ⟨c2, hc2⟩ : ∃ c2, c2 = c - m := ⟨_, rfl⟩
    rw [← hc2] at hsl
    have HRS : Hid (Rd wr wr.heap.size A2 (s.map B8)) := Lib.hid (by
      have h1 := hsr wr wr.heap.size (bs.map B8) (by rw [List.length_map]; exact HN.out.symm) ((HR.out.below HB.out).more HB.out.size)
      rw [← List.map_drop, HDR.out] at h1
      exact h1)
    have HNS : Hid (n - m = s.length) := Lib.hid (by rw [← HDR.out, List.length_drop, ← HN.out])
    have HC2 : Hid (n - m ≤ c2) := Lib.hid (by omega)
    clear hsr hc2
    go_wp2_with fail
    refine (first_c A2 (n - m) c2 s HNS.out HC2.out (by unfold big; omega) wr HRS.out).mono ?_
    rintro e w2 ⟨hb2, h2⟩
    have HO1 := Lib.hid (HO1.out.below hb2 (Nat.le_refl _))
    have HB := Lib.hid (HB.out.trans (hb2.mono HB.out.size))
    clear hb2
    rcases h2 with ⟨r, k, hf, rfl⟩ | ⟨hno, rfl⟩
    · have HST := Lib.hid (scans_step HOK.out HBS.out hf)
      have hpos := first_pos hf
      have hkn : m + k ≤ n := by have := HNS.out; omega
      have HF := Lib.hid hf; clear hf
      clear hsl
      unfold rvv
      go_wp2_with (at_builtin; refine Rg.wp_appG (K := KR) rfl (.tmp 21) (.tmp 23) rfl w.heap.size A1 n1 c1 rs rfl ((HO1.out.alloc (.cells #[.int .i64 r.kind, .int .i64 r.va, .int .i64 r.vd, .int .i64 r.cn, .int .i64 r.ca, .int .i64 r.cd, .int .i64 r.e.key, .int .i64 r.e.num, .int .i64 r.e.node, .float .f64 r.e.val, .int .i64 r.n] 40)).alloc (.cells #[.int .i64 r.kind, .int .i64 r.va, .int .i64 r.vd, .int .i64 r.cn, .int .i64 r.ca, .int .i64 r.cd, .int .i64 r.e.key, .int .i64 r.e.num, .int .i64 r.e.node, .float .f64 r.e.val, .int .i64 r.n] 40)) (w2.heap.size + 1 + 1) (some ⟨w2.heap.size + 1, 0, none⟩) 1 1 [r] rfl rfl (rs_at (w2.alloc (.cells #[.int .i64 r.kind, .int .i64 r.va, .int .i64 r.vd, .int .i64 r.cn, .int .i64 r.ca, .int .i64 r.cd, .int .i64 r.e.key, .int .i64 r.e.num, .int .i64 r.e.node, .float .f64 r.e.val, .int .i64 r.n] 40)) r (w2.heap.size + 1) (by simp)) (show (n1 + 1) * 88 ≤ 140737488355328 by omega) (by have := HB.out.size; simp; omega) ?_; intro A5 c5 w5 ho5 hb5)
      obtain ⟨q1, q2, s', q3, q4⟩ := HST.out
      refine ⟨⟨A5, n1 + 1, c5, m + k, rs ++ [r], s', rfl, by simp, q1, ?_, q4, by omega, hkn, ho5, (bal (bal HB.out (Nat.le_refl _) _) (Nat.le_refl _) _).trans hb5⟩, ?_⟩
      · rw [q2, ← HM.out]
      · simp [intOf]
        omega
    · have HSC : Hid (Scans bs rs m) := Lib.hid ⟨HOK.out, HM.out, s, HBS.out, hno⟩
      have HSR : Hid (Sr w2 A1 n1 c1 rs) := Lib.hid ⟨HO1.out.1, HO1.out.cap, by omega, fun r hr => (HOK.out r hr).1.2, HO1.out.rs⟩
      clear hsl hno
      unfold rvv
      go_wp2
      exact HPO.out rs m A1 n1 c1 _ HSC.out (HSR.out.all (bal (Below.refl _ _) (Nat.le_refl _) _)) (bal HB.out (Nat.le_refl _) _)
end Go.Proofs.Ytjcbdnbbdhjoiaa.Lgw

namespace Go.Proofs.Ytjcbdnbbdhjoiaa.Lgw
set_option maxRecDepth 20000
open Go.RowKit
open Bk Lg
open Tgw (hat hbe)
open Rg (bal)

set_option maxHeartbeats 1000000 in
theorem equal_recs_c (A : Option Addr) (n c : Nat) (es : List R) (A2 : Option Addr) (n2 c2 : Nat) (fs : List R) (w : World) (hs : Sr w A n c es) (hs2 : Sr w A2 n2 c2 fs) :
    Calls Try.prog 59 #[.slice A n c, .slice A2 n2 c2, .func (.func 48) #[] #[]] w fun e w' => e = .returned (.bool (sameR es fs)) ∧ Below w.heap.size w w' := by
  obtain ⟨hn, _, hl, hw, hr⟩ := hs
  obtain ⟨hn2, _, hl2, hw2, hr2⟩ := hs2
  have hsf := store_flt
  have HN := Lib.hid hn; have HN2 := Lib.hid hn2
  have HR := Lib.hid hr; have HR2 := Lib.hid hr2
  clear hr hr2 hw hw2 hl2
  by_cases hnn : n = n2
  · subst hnn
    have HF : Hid (∀ (i : Nat) x y, es[i]? = some x → fs[i]? = some y → alikeR x y = false → sameR es fs = false) := Lib.hid (sameR_false es fs)
    have HT : Hid ((∀ (i : Nat) x y, i < n → es[i]? = some x → fs[i]? = some y → alikeR x y = true) → sameR es fs = true) := Lib.hid (fun h => (sameR_iff es fs).2 ⟨by rw [← hn, ← hn2], fun i x y hx hy => h i x y (by
      rw [hn]
      rcases Nat.lt_or_ge i es.length with h' | h'
      · exact h'
      · rw [List.getElem?_eq_none h'] at hx; cases hx) hx hy⟩)
    generalize sameR es fs = r at HF HT ⊢
    clear hn hn2
    go_enter Try.func59, Try.ntmps59
    go_wp2
    go_loopw [17] (fun i wr => ∃ k : Nat, i = .int .i64 k ∧ k ≤ n ∧ (∀ (i : Nat) x y, i < k → es[i]? = some x → fs[i]? = some y → alikeR x y = true) ∧ Below w.heap.size w wr) (fun i _ => n - (intOf i).toNat)
    case atStart => exact ⟨0, rfl, by omega, fun i x y hi => by omega, Below.refl _ _⟩
    case round =>
      obtain ⟨k, rfl, hk, hall, hb⟩ := hrel
      have HB := Lib.hid hb; have HA := Lib.hid hall
      have hsz := hb.size
      clear hb hall
      by_cases h : k < n
      · obtain ⟨b, o, rfl, hbB, hcell⟩ := HR.out (by rw [← HN.out]; omega)
        obtain ⟨b2, o2, rfl, hbB2, hcell2⟩ := HR2.out (by rw [← HN2.out]; omega)
        have hkl : k < es.length := by rw [← HN.out]; exact h
        have hkl2 : k < fs.length := by rw [← HN2.out]; exact h
        have hz : es[k]? = some es[k] := List.getElem?_eq_getElem hkl
        have hz2 : fs[k]? = some fs[k] := List.getElem?_eq_getElem hkl2
        have hc0 : Rg.At KR wr b (o + k * 11) es[k] := (hcell k es[k] hz).below HB.out hbB
        have hc1 : Rg.At KR wr b2 (o2 + k * 11) fs[k] := (hcell2 k fs[k] hz2).below HB.out hbB2
        generalize es[k] = x at hz hc0
        generalize fs[k] = y at hz2 hc1
        have hc2 : Rg.At KR (wr.alloc (.cells #[.int .i64 x.kind, .int .i64 x.va, .int .i64 x.vd, .int .i64 x.cn, .int .i64 x.ca, .int .i64 x.cd, .int .i64 x.e.key, .int .i64 x.e.num, .int .i64 x.e.node, .float .f64 x.e.val, .int .i64 x.n] 40)) b2 (o2 + k * 11) y := hc1.below (bal (Below.refl wr.heap.size wr) (Nat.le_refl _) _) (by omega)
        obtain ⟨x0, x1, x2, x3, x4, x5, x6, x7, x8, x9, x10⟩ := elv_at hc0
        obtain ⟨y0, y1, y2, y3, y4, y5, y6, y7, y8, y9, y10⟩ := elv_at hc2
        have HX := Lib.hid hz; have HY := Lib.hid hz2
        clear hz hz2 hc1 hcell hcell2 hkl hkl2 hc0 hc2
        have HSM := Lib.hid (fun W => same_rec_c x y W)
        unfold rvv at HSM
        go_wp2_with fail
        have HBW := Lib.hid (bal (bal HB.out (Nat.le_refl _) (.cells #[.int .i64 x.kind, .int .i64 x.va, .int .i64 x.vd, .int .i64 x.cn, .int .i64 x.ca, .int .i64 x.cd, .int .i64 x.e.key, .int .i64 x.e.num, .int .i64 x.e.node, .float .f64 x.e.val, .int .i64 x.n] 40)) (Nat.le_refl _) (.cells #[.int .i64 y.kind, .int .i64 y.va, .int .i64 y.vd, .int .i64 y.cn, .int .i64 y.ca, .int .i64 y.cd, .int .i64 y.e.key, .int .i64 y.e.num, .int .i64 y.e.node, .float .f64 y.e.val, .int .i64 y.n] 40))
        generalize (wr.alloc (.cells #[.int .i64 x.kind, .int .i64 x.va, .int .i64 x.vd, .int .i64 x.cn, .int .i64 x.ca, .int .i64 x.cd, .int .i64 x.e.key, .int .i64 x.e.num, .int .i64 x.e.node, .float .f64 x.e.val, .int .i64 x.n] 40)).alloc (.cells #[.int .i64 y.kind, .int .i64 y.va, .int .i64 y.vd, .int .i64 y.cn, .int .i64 y.ca, .int .i64 y.cd, .int .i64 y.e.key, .int .i64 y.e.num, .int .i64 y.e.node, .float .f64 y.e.val, .int .i64 y.n] 40) = w1 at HBW ⊢
        clear x0 x1 x2 x3 x4 x5 x6 x7 x8 x9 x10 y0 y1 y2 y3 y4 y5 y6 y7 y8 y9 y10
        refine (HSM.out _).mono ?_
        rintro e w6 ⟨rfl, hb6⟩
        have HB6 := Lib.hid (HBW.out.trans (hb6.mono HBW.out.size)); clear hb6
        have HAL : Hid (∀ t, alikeR x y = t → t = false → r = false) := Lib.hid (fun t h1 h2 => HF.out k _ _ HX.out HY.out (h1.trans h2))
        generalize ht : alikeR x y = t at HAL
        have HTT := Lib.hid ht; clear ht
        cases t with
        | false =>
          have HRF := Lib.hid (HAL.out false rfl rfl)
          go_wp2
          go_ret
          exact ⟨ret_bool HRF.out.symm, HB6.out⟩
        | true =>
          go_wp2
          refine ⟨⟨k + 1, by go_num, by omega, ?_, HB6.out⟩, by simp [intOf]; omega⟩
          intro j u v hj hu hv
          rcases Nat.lt_or_ge j k with h' | h'
          · exact HA.out j u v h' hu hv
          · obtain rfl : j = k := by omega
            have e1 := HX.out
            have e2 := HY.out
            rw [hu] at e1
            rw [hv] at e2
            cases e1; cases e2
            exact HTT.out
      · obtain rfl : k = n := by omega
        have HRT := Lib.hid (HT.out HA.out)
        go_wp2
        go_ret
        exact ⟨ret_bool HRT.out.symm, HB.out⟩
  · have HS : Hid (sameR es fs = false) := Lib.hid (by
      rw [← Bool.not_eq_true, sameR_iff]
      rintro ⟨h1, _⟩
      exact hnn (by rw [hn, hn2, h1]))
    have hq : ((n : Int) != (n2 : Int)) = true := by rw [bne_iff_ne]; omega
    clear hn hn2 hnn
    go_enter Try.func59, Try.ntmps59
    go_wp2
    go_ret
    exact ⟨ret_bool HS.out.symm, Below.refl _ _⟩
theorem same_c (A : Option Addr) (n c : Nat) (es : List R) (A2 : Option Addr) (n2 c2 : Nat) (fs : List R) (w : World) (h : Sr w A n c es) (h2 : Sr w A2 n2 c2 fs) : Calls Try.prog 33 #[.slice A n c, .slice A2 n2 c2] w fun e w' => e = .returned (.bool (sameR es fs)) ∧ Below w.heap.size w w' := by
  have HE := Lib.hid (equal_recs_c A n c es A2 n2 c2 fs w h h2)
  generalize sameR es fs = r at HE ⊢
  clear h h2
  go_enter Try.func33, Try.ntmps33
  go_wp2_with fail
  refine HE.out.mono ?_
  rintro e w2 ⟨rfl, hb⟩
  have HB := Lib.hid hb; clear hb
  go_wp2
  go_ret
  exact ⟨rfl, HB.out⟩
end Go.Proofs.Ytjcbdnbbdhjoiaa.Lgw

namespace Go.Proofs.Ytjcbdnbbdhjoiaa.Lgw
set_option maxRecDepth 20000
open Go.RowKit
open Bk Lg Wire
open Dk
open Tgw (hat hbe)
open Rg (bal)
open Dkw (Dd RetK Gw)

/-- what Add answers, and the disk behind it -/
def addE (d : D) (rs : List R) : Int := if rs.all rightR then appE d (flatR rs) else 91
def addD (d : D) (rs : List R) : D := if rs.all rightR then (if appE d (flatR rs) = 0 then syncD (appD d (flatR rs)) else appD d (flatR rs)) else d
theorem add_bad {d : D} {rs : List R} {k : Nat} {r : R} (h : rs[k]? = some r) (hr : rightR r = false) : addE d rs = 91 ∧ addD d rs = d := by
  have : rs.all rightR = false := by
    rw [Bool.eq_false_iff]
    intro h1
    rw [List.all_eq_true] at h1
    rw [h1 r (List.mem_of_getElem? h)] at hr
    cases hr
  unfold addE addD
  rw [this]
  exact ⟨rfl, rfl⟩
theorem add_good {d : D} {rs : List R} (h : ∀ r ∈ rs, rightR r = true) : addE d rs = appE d (flatR rs) ∧ addD d rs = if appE d (flatR rs) = 0 then syncD (appD d (flatR rs)) else appD d (flatR rs) := by
  have : rs.all rightR = true := by rw [List.all_eq_true]; exact h
  unfold addE addD
  rw [this]
  exact ⟨rfl, rfl⟩
theorem flatR_le : ∀ (rs : List R), (∀ r ∈ rs, Ok r) → (flatR rs).length ≤ 60 * rs.length
  | [], _ => by simp [flatR]
  | r :: rs, h => by
    rw [flatR_cons, List.length_append, List.length_cons]
    have h1 := bytes_len r (h r (by simp))
    have h2 := seal_small r (h r (by simp))
    have h3 := flatR_le rs (fun x hx => h x (by simp [hx]))
    omega
theorem flatR_snoc (rs : List R) (r : R) : flatR (rs ++ [r]) = flatR rs ++ bytesR r := by rw [flatR_append]; show flatR rs ++ (bytesR r ++ []) = _; rw [List.append_nil]
theorem take_snoc {α : Type} {rs : List α} {k : Nat} {r : α} (h : rs[k]? = some r) : rs.take (k + 1) = rs.take k ++ [r] := by rw [List.take_add_one, h]; rfl
theorem read_c (p : Value) (d : D) (F : Nat → Prop) (w : World) (h : Dd w F p d) : Calls Try.prog 32 #[p] w fun e w' => ∃ A n c rs m, e = .returned (.slice A n c) ∧ Scans d.data rs m ∧ Sr w' A n c rs ∧ Below w.heap.size w w' := by
  have HB8 := Lib.hid (Dkw.bytes_c p d F w h)
  have hl : d.data.length ≤ 60000 := h.iv.2.2.1
  obtain ⟨a, rfl⟩ := h.ptr
  clear h
  go_enter Try.func32, Try.ntmps32
  go_wp2_with fail
  refine HB8.out.mono ?_
  rintro e w1 ⟨A1, n1, c1, rfl, ho1, hb1⟩
  have HO := Lib.hid ho1; have HB := Lib.hid hb1
  have hn1 : n1 ≤ 60000 := by have := ho1.1; omega
  clear ho1 hb1
  go_wp2_with fail
  refine (scan_c A1 n1 c1 d.data HO.out.1 HO.out.cap (by omega) w1 HO.out.rd).mono ?_
  rintro e w2 ⟨A2, n2, c2, m, rs, rfl, hsc, hsr, hb2⟩
  have HSC := Lib.hid hsc; have HSR := Lib.hid hsr
  have HB := Lib.hid (HB.out.trans (hb2.mono HB.out.size))
  clear hsc hsr hb2
  go_wp2
  go_ret
  exact ⟨A2, n2, c2, rs, m, rfl, HSC.out, HSR.out, HB.out⟩
theorem gw_refl (F : Nat → Prop) (w : World) : Gw F F w w := ⟨Dkw.Kp.refl _ _, fun _ h => Or.inl h⟩
set_option maxHeartbeats 2000000 in
theorem add_c (p : Value) (d : D) (A : Option Addr) (n c : Nat) (rs : List R) (hw : ∀ r ∈ rs, WfE r.e) (F : Nat → Prop) (w : World) (h : Dd w F p d) (hs : Sr w A n c rs) : Calls Try.prog 13 #[p, .slice A n c] w (RetK w F p (addD d rs) (.int .i64 (addE d rs))) := by
  obtain ⟨a, rfl⟩ := h.ptr
  obtain ⟨hn, _, hl, _, hr⟩ := hs
  have HD := Lib.hid h; have HN := Lib.hid hn; have HR := Lib.hid hr; have HW := Lib.hid hw
  have hsf := store_flt
  have HBAD : Hid (∀ (k : Nat) r, rs[k]? = some r → rightR r = false → addE d rs = 91 ∧ addD d rs = d) := Lib.hid (fun k r h1 h2 => add_bad h1 h2)
  have HGOOD : Hid ((∀ r ∈ rs, Ok r) → addE d rs = appE d (flatR rs) ∧ addD d rs = if appE d (flatR rs) = 0 then syncD (appD d (flatR rs)) else appD d (flatR rs)) := Lib.hid (fun h => add_good (fun r hr => (h r hr).1))
  have HPO : Hid (∀ F' w' x y, addE d rs = x → addD d rs = y → Dd w' F' (.pointer (some a)) y → Gw F F' w w' → RetK w F (.pointer (some a)) (addD d rs) (.int .i64 (addE d rs)) (.returned (.int .i64 x)) w') := Lib.hid (fun F' w' x y h1 h2 h3 h4 => ⟨F', by rw [h1], by rw [h2]; exact h3, h4⟩)
  generalize RetK w F (.pointer (some a)) (addD d rs) (.int .i64 (addE d rs)) = PP at HPO ⊢
  clear h hn hr hw
  go_enter Try.func13, Try.ntmps13
  go_wp2
  go_loopw [5, 13] (fun x5 x13 wr => ∃ (k : Nat) (A1 : Option Addr) (n1 c1 : Nat), x5 = .slice A1 n1 c1 ∧ x13 = .int .i64 (k : Int) ∧ k ≤ n ∧ n1 ≤ 60 * k ∧ (∀ r ∈ rs.take k, Ok r) ∧ Own wr w.heap.size A1 n1 c1 (flatR (rs.take k)) ∧ Below w.heap.size w wr) (fun _ x13 _ => n - (intOf x13).toNat)
  case atStart => exact ⟨0, none, 0, 0, rfl, rfl, by omega, by omega, by simp, own_none _ _, Below.refl _ _⟩
  case round =>
    obtain ⟨k, A1, n1, c1, rfl, rfl, hk, h60, hok, ho1, hb⟩ := hrel
    have HOK := Lib.hid hok; have HO1 := Lib.hid ho1; have HB := Lib.hid hb
    clear hok ho1 hb
    by_cases h : k < n
    · obtain ⟨b, o, rfl, hbB, hcell⟩ := HR.out (by rw [← HN.out]; omega)
      have hkl : k < rs.length := by rw [← HN.out]; exact h
      have hz : rs[k]? = some rs[k] := List.getElem?_eq_getElem hkl
      have hc0 : Rg.At KR wr b (o + k * 11) rs[k] := (hcell k rs[k] hz).below HB.out hbB
      have HWF := Lib.hid (HW.out rs[k] (List.getElem_mem hkl))
      generalize rs[k] = r at hz hc0 HWF
      have HZ := Lib.hid hz
      obtain ⟨x0, x1, x2, x3, x4, x5, x6, x7, x8, x9, x10⟩ := elv_at hc0
      clear hz hcell hc0 hkl
      have HBY := Lib.hid (fun W => bytes_c r HWF.out W)
      unfold rvv at HBY
      go_wp2_with fail
      clear x0 x1 x2 x3 x4 x5 x6 x7 x8 x9 x10
      have HBW := Lib.hid (bal HB.out (Nat.le_refl _) (.cells #[.int .i64 r.kind, .int .i64 r.va, .int .i64 r.vd, .int .i64 r.cn, .int .i64 r.ca, .int .i64 r.cd, .int .i64 r.e.key, .int .i64 r.e.num, .int .i64 r.e.node, .float .f64 r.e.val, .int .i64 r.n] 40))
      have HO1 := Lib.hid (HO1.out.alloc (.cells #[.int .i64 r.kind, .int .i64 r.va, .int .i64 r.vd, .int .i64 r.cn, .int .i64 r.ca, .int .i64 r.cd, .int .i64 r.e.key, .int .i64 r.e.num, .int .i64 r.e.node, .float .f64 r.e.val, .int .i64 r.n] 40))
      generalize wr.alloc (.cells #[.int .i64 r.kind, .int .i64 r.va, .int .i64 r.vd, .int .i64 r.cn, .int .i64 r.ca, .int .i64 r.cd, .int .i64 r.e.key, .int .i64 r.e.num, .int .i64 r.e.node, .float .f64 r.e.val, .int .i64 r.n] 40) = w1 at HBW HO1 ⊢
      refine (HBY.out _).mono ?_
      rintro e w2 ⟨hb2, h2⟩
      have HO1 := Lib.hid (HO1.out.below hb2 (Nat.le_refl _))
      have HBW := Lib.hid (HBW.out.trans (hb2.mono HBW.out.size)); clear hb2
      rcases h2 with ⟨hrt, rfl⟩ | ⟨hrt, A2, n2, c2, rfl, ho2⟩
      · have HE := Lib.hid (HBAD.out k r HZ.out hrt)
        clear hrt
        go_wp2
        exact HPO.out F _ _ _ HE.out.1 HE.out.2 (HD.out.all HBW.out) (Dkw.Gw.of_below HBW.out)
      · have HO2 := Lib.hid ho2
        have HOKR : Hid (Ok r) := Lib.hid ⟨hrt, HWF.out.2.2.2⟩
        have hn2 : n2 ≤ 60 := by have h1 := bytes_len r HOKR.out; have h2 := seal_small r HOKR.out; have h3 := ho2.1; omega
        clear hrt ho2
        go_wp2_with (at_builtin; refine wp_app8 rfl (.tmp 25) (.tmp 26) rfl w.heap.size A1 n1 c1 _ rfl HO1.out w2.heap.size A2 n2 c2 (bytesR r) rfl HO2.out.1 HO2.out.rd (by unfold big; omega) HBW.out.size ?_; intro A4 c4 w4 ho4 hb4)
        refine ⟨⟨k + 1, A4, n1 + n2, c4, rfl, by go_num, by omega, by omega, ?_, ?_, HBW.out.trans hb4⟩, by simp [intOf]; omega⟩
        · intro x hx
          rw [take_snoc HZ.out] at hx
          rcases List.mem_append.1 hx with hx | hx
          · exact HOK.out x hx
          · rw [List.mem_singleton.1 hx]; exact HOKR.out
        · rw [take_snoc HZ.out, flatR_snoc]; exact ho4
    · obtain rfl : k = n := by omega
      have HT : Hid (rs.take k = rs) := Lib.hid (List.take_of_length_le (by rw [← HN.out]; exact Nat.le_refl _))
      rw [HT.out] at HOK HO1
      have HE := Lib.hid (HGOOD.out HOK.out)
      have HD := Lib.hid (HD.out.all HB.out)
      have HG0 : Hid (Gw F F w wr) := Lib.hid (Dkw.Gw.of_below HB.out)
      have HRF := Lib.hid (Dkw.Rf.of_own (F := F) HO1.out (by assumption : Hid (Dd w F (.pointer (some a)) d)).out.lt)
      have hn1b : n1 ≤ big := by unfold big; omega
      generalize flatR rs = fl at *
      go_wp2_with fail
      refine (Dkw.append_c _ d A1 n1 c1 fl HO1.out.1 HO1.out.cap hn1b F _ HD.out HRF.out).mono ?_
      rintro e w2 ⟨F2, rfl, hd2, hg2⟩
      have HD2 := Lib.hid hd2; have HG2 := Lib.hid (HG0.out.trans hg2)
      clear hd2 hg2
      generalize appE d fl = x at HE ⊢
      by_cases hx : x = 0
      · subst hx
        have HE : Hid (addE d rs = 0 ∧ addD d rs = syncD (appD d fl)) := Lib.hid ⟨HE.out.1, HE.out.2.trans (if_pos rfl)⟩
        go_wp2_with fail
        refine (Dkw.sync_c _ _ F2 _ HD2.out).mono ?_
        rintro e w3 ⟨F3, rfl, hd3, hg3⟩
        have HD3 := Lib.hid hd3; have HG3 := Lib.hid (HG2.out.trans hg3)
        clear hd3 hg3
        go_wp2
        exact HPO.out F3 _ _ _ HE.out.1 HE.out.2 HD3.out HG3.out
      · have HE : Hid (addE d rs = x ∧ addD d rs = appD d fl) := Lib.hid ⟨HE.out.1, HE.out.2.trans (if_neg hx)⟩
        have hxb : (x != 0) = true := by rw [bne_iff_ne]; exact hx
        clear hx
        go_wp2
        exact HPO.out F2 _ _ _ HE.out.1 HE.out.2 HD2.out HG2.out
end Go.Proofs.Ytjcbdnbbdhjoiaa.Lgw

namespace Go.Proofs.Ytjcbdnbbdhjoiaa.Lgw
set_option maxRecDepth 20000
open Go.RowKit
open Bk Lg Wire
open Dk
open Tgw (hat hbe)
open Rg (bal)
open Dkw (Dd RetK Gw)

def r5 : R := ⟨4, 0, 0, 0, 0, 0, zero 0, 5⟩
def r3 : R := ⟨3, 3, 0, 0, 0, 0, zero 0, 0⟩
theorem ok5 : Ok r5 := ⟨by decide +kernel, by show (0 : Nat) < _; decide⟩
theorem ok3 : Ok r3 := ⟨by decide +kernel, by show (0 : Nat) < _; decide⟩
theorem wf0 : WfE (zero 0) := by
  refine ⟨?_, ?_, ?_, ?_⟩ <;> first | (show Tg.I64 0; unfold Tg.I64; omega) | (show (0 : Nat) < _; decide)
theorem ok53 : ∀ r ∈ [r5, r3], Ok r := by
  intro r hr
  simp only [List.mem_cons, List.not_mem_nil, or_false] at hr
  rcases hr with rfl | rfl
  · exact ok5
  · exact ok3
theorem len5 : (bytesR r5).length = 10 := by decide +kernel
theorem len53 : (flatR [r5, r3]).length = 20 := by decide +kernel
theorem add53E : addE (newD 200) [r5, r3] = 0 := by decide +kernel
theorem add53D : addD (newD 200) [r5, r3] = ⟨flatR [r5, r3], 20, 200, -1, false⟩ := by kernel_rfl
def bX : List UInt8 := (burstF (flatR [r5, r3]) 100 1).drop 10
def tX : List UInt8 := ((cutF bX).getD ([], [])).1
theorem burst53 : burstF (flatR [r5, r3]) 100 1 = bytesR r5 ++ bX := by decide +kernel
theorem cutX : cutF bX = some (tX, []) := by decide +kernel
theorem openX : Crc.openF tX = none := by decide +kernel
theorem scan53 : Scans (flatR [r5, r3]) [cnR r5, cnR r3] 20 := by
  have h := scans_of [r5, r3] ok53 [] (fun r n => first_nil r n)
  rw [List.append_nil, len53] at h
  exact h
theorem scanX : Scans (burstF (flatR [r5, r3]) 100 1) [cnR r5] 10 := by
  have h := scans_of [r5] (fun r hr => by rw [List.mem_singleton.1 hr]; exact ok5) bX (fun r n => no_open cutX openX r n)
  have e : flatR [r5] = bytesR r5 := by show bytesR r5 ++ [] = _; rw [List.append_nil]
  rw [e, len5] at h
  rw [burst53]
  exact h
theorem sr_lit (w : World) (rs : List R) (n : Nat) (hn : n = rs.length) (hl : n ≤ 100) (hu : ∀ r ∈ rs, Flt.U64 r.e.val) (xs : List Value) (hx : Rg.flat KR rs = xs) : Sr (w.alloc (.cells xs.toArray 40)) (some ⟨w.heap.size, 0, none⟩) n n rs := by
  subst hx
  refine ⟨hn, Nat.le_refl _, by omega, hu, ?_⟩
  rw [World.size_alloc]
  exact Rg.rs_new KR w rs
set_option maxHeartbeats 4000000 in
theorem log_alive_c (w : World) : Calls Try.prog 12 #[] w fun e w' => e = .returned (.bool true) ∧ Below w.heap.size w w' := by
  go_enter Try.func12, Try.ntmps12
  go_wp2_with fail
  refine (Dkw.new_c 200 (Dkw.i64_small _ (by omega)) _).mono ?_
  rintro e w1 ⟨p, F, rfl, hd, hF, hb⟩
  obtain ⟨a, rfl⟩ := hd.ptr
  have HD := Lib.hid hd; have HF := Lib.hid hF; have HB := Lib.hid hb
  clear hd hF hb
  go_wp2_with fail
  have HS := Lib.hid (sr_lit w1 [r5, r3] 2 rfl (by omega) (fun r hr => (ok53 r hr).2) [.int .i64 4, .int .i64 0, .int .i64 0, .int .i64 0, .int .i64 0, .int .i64 0, .int .i64 0, .int .i64 0, .int .i64 0, .float .f64 0, .int .i64 5, .int .i64 3, .int .i64 3, .int .i64 0, .int .i64 0, .int .i64 0, .int .i64 0, .int .i64 0, .int .i64 0, .int .i64 0, .float .f64 0, .int .i64 0] rfl)
  have HD1 := Lib.hid (HD.out.all (bal (Below.refl w1.heap.size w1) (Nat.le_refl _) (.cells [.int .i64 4, .int .i64 0, .int .i64 0, .int .i64 0, .int .i64 0, .int .i64 0, .int .i64 0, .int .i64 0, .int .i64 0, .float .f64 0, .int .i64 5, .int .i64 3, .int .i64 3, .int .i64 0, .int .i64 0, .int .i64 0, .int .i64 0, .int .i64 0, .int .i64 0, .int .i64 0, .float .f64 0, .int .i64 0].toArray 40)))
  have HB := Lib.hid (bal HB.out (Nat.le_refl _) (.cells [.int .i64 4, .int .i64 0, .int .i64 0, .int .i64 0, .int .i64 0, .int .i64 0, .int .i64 0, .int .i64 0, .int .i64 0, .float .f64 0, .int .i64 5, .int .i64 3, .int .i64 3, .int .i64 0, .int .i64 0, .int .i64 0, .int .i64 0, .int .i64 0, .int .i64 0, .int .i64 0, .float .f64 0, .int .i64 0].toArray 40))
  refine (add_c _ (newD 200) _ 2 2 [r5, r3] (by intro r hr; simp only [List.mem_cons, List.not_mem_nil, or_false] at hr; rcases hr with rfl | rfl <;> exact wf0) F _ HD1.out HS.out).mono ?_
  rw [add53E, add53D]
  rintro e w2 ⟨F2, rfl, hd, hg⟩
  have hg2 := hg.below HB.out.size HF.out
  clear HD HD1 HS
  have HD := Lib.hid hd; have HF := Lib.hid hg2.2; have HB := Lib.hid (HB.out.trans hg2.1)
  clear hd hg hg2
  go_wp2_with fail
  refine (read_c _ _ F2 _ HD.out).mono ?_
  rintro e w3 ⟨A3, n3, c3, rs, m, rfl, hsc, hsr, hb⟩
  obtain ⟨rfl, _⟩ := scans_one hsc scan53
  have hn3 : n3 = 2 := hsr.1
  subst hn3
  have HD := Lib.hid (HD.out.all hb); have HB := Lib.hid (HB.out.trans (hb.mono HB.out.size))
  clear hsc hsr hb
  go_wp2_with fail
  refine (Dkw.bytes_c _ _ F2 _ HD.out).mono ?_
  rintro e w4 ⟨A4, n4, c4, rfl, how, hb⟩
  have hn4 : n4 = 20 := how.1.trans len53
  subst hn4
  have HO4 := Lib.hid how
  have HD := Lib.hid (HD.out.all hb); have HB := Lib.hid (HB.out.trans (hb.mono HB.out.size))
  clear how hb
  have HBY := Lib.hid (fun W => bytes_c r5 wf0 W)
  unfold rvv at HBY
  go_wp2_with fail
  refine (HBY.out _).mono ?_
  rintro e w5 ⟨hb, h5⟩
  rcases h5 with ⟨h5, _⟩ | ⟨_, A5, n5, c5, rfl, ho5⟩
  · have := ok5.1; rw [h5] at this; cases this
  have hn5 : n5 = 10 := ho5.1.trans len5
  subst hn5
  have HO4 := Lib.hid (HO4.out.below hb (Nat.le_refl _))
  have HD := Lib.hid (HD.out.all hb); have HB := Lib.hid (HB.out.trans (hb.mono HB.out.size))
  clear ho5 hb HBY
  go_wp2_with fail
  refine (burst_c A4 20 c4 (flatR [r5, r3]) len53.symm 100 (by omega) (by omega) 1 (by omega) _ w5 HO4.out.rd (Nat.le_refl _) (by unfold big; omega)).mono ?_
  rintro e w6 ⟨A6, n6, c6, rfl, ho6, hb⟩
  have HO6 := Lib.hid ho6
  have HD := Lib.hid (HD.out.all hb); have HB := Lib.hid (HB.out.trans (hb.mono HB.out.size))
  have hn6 : n6 ≤ 100 := by have h1 := ho6.1; rw [burst53, List.length_append, len5] at h1; have h2 : bX.length = 10 := by decide +kernel
                            omega
  clear ho6 hb
  go_wp2_with fail
  refine (scan_c A6 n6 c6 _ HO6.out.1 HO6.out.cap (by omega) w6 HO6.out.rd).mono ?_
  rintro e w7 ⟨A7, n7, c7, m7, rs7, rfl, hsc, hsr, hb⟩
  obtain ⟨rfl, rfl⟩ := scans_one hsc scanX
  have hn7 : n7 = 1 := hsr.1
  subst hn7
  obtain ⟨b, o, rfl, hbl, hc⟩ := hsr.2.2.2.2 (by simp)
  have he := elv_at (hc 0 (cnR r5) rfl)
  have hN : w7.cell? ⟨b, o + 10, none⟩ = some (.int .i64 5) := by have := he.2.2.2.2.2.2.2.2.2.2; rw [Nat.zero_mul] at this; exact this
  have HN := Lib.hid hN
  have HD := Lib.hid (HD.out.all hb); have HB := Lib.hid (HB.out.trans (hb.mono HB.out.size))
  clear hsc hsr hb hc he hN
  have hN := HN.out
  go_wp2_with fail
  refine (Dkw.safe_c _ _ F2 _ HD.out).mono ?_
  rintro e w8 ⟨rfl, hb⟩
  have HB := Lib.hid (HB.out.trans (hb.mono HB.out.size)); clear hb
  go_wp2
  go_ret
  exact ⟨rfl, HB.out⟩
end Go.Proofs.Ytjcbdnbbdhjoiaa.Lgw
