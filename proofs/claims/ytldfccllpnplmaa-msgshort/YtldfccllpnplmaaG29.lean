/- Contracts and words on which the claims of this seat stand, part 29: MsCj MsC MsA. -/
import Derived.Test.YtldfccllpnplmaaG03
import Derived.Test.YtldfccllpnplmaaG23
import Derived.Test.YtldfccllpnplmaaG26
import Derived.Test.YtldfccllpnplmaaG28
set_option linter.unusedSimpArgs false
set_option linter.unusedVariables false
namespace Go.Proofs.Ytldfccllpnplmaa.Msw
set_option maxRecDepth 20000
open Go.RowKit
open Cl Bk Ms Clw Bkw Wire
open Crc hiding zero
open Chgw (hat hbe ret_bool vw Vi)
open Rg (bal)

theorem RowsM.mo {w : World} {base : Nat} {m : M} {s t : S3} (h : RowsM w base m s t) : Mo w m s t := ⟨Sc.own h.1 (by have := h.2.2.2.1; omega), So.own h.2.1 h.2.2.1 (by have := h.2.2.2.2; omega)⟩
theorem RowsM.all {w w' : World} {base : Nat} {m : M} {s t : S3} (h : RowsM w base m s t) (hb : Below w.heap.size w w') : RowsM w' base m s t := ⟨h.1.below hb (Nat.le_refl _), h.2.1.below hb (Nat.le_refl _), h.2.2⟩
theorem RowsM.put {w : World} {base g : Nat} {m : M} {s t : S3} (h : RowsM w base m s t) (hg : g < base) (v0 v1 v2 v3 v4 v5 v6 v7 v8 : Value) : RowsM (((((((((w.setCell ⟨g, 0, none⟩ v0).setCell ⟨g, 1, none⟩ v1).setCell ⟨g, 2, none⟩ v2).setCell ⟨g, 3, none⟩ v3).setCell ⟨g, 4, none⟩ v4).setCell ⟨g, 5, none⟩ v5).setCell ⟨g, 6, none⟩ v6).setCell ⟨g, 7, none⟩ v7).setCell ⟨g, 8, none⟩ v8) base m s t :=
  ⟨h.1.keep (fun k hk => chain9 (by have := (h.1.2.lt k hk).1; omega)), h.2.1.keep (fun k hk => chain9 (by have := (h.2.1.2.lt k hk).1; omega)), h.2.2⟩
set_option maxHeartbeats 8000000 in
set_option maxRecDepth 100000 in
theorem reads_c (A : Option Addr) (n c : Nat) (bs : List UInt8) (hn : n = bs.length) (hc : n ≤ c) (w : World) (hr : Rd w w.heap.size A (bs.map B8)) (hl : n ≤ big) : Calls Try.prog 20 #[.slice A n c] w (RetRd w (readF bs)) := by
  have hsf := store_flt
  have HN := Lib.hid hn; have HR := Lib.hid hr
  have HRF : Hid (readF bs = if 328 < bs.length then none else match openF bs with
    | none => none
    | some b => match guessG b with
      | none => none
      | some m => if rightM m = true ∧ frameM m = bs then some m else none) := Lib.hid (readG_eq bs).symm
  generalize hrf : readF bs = rf at HRF ⊢
  clear hrf hn hr
  by_cases hlen : 328 < n
  · have HE := Lib.hid (show rf = none from by rw [HRF.out, if_pos (by rw [← HN.out]; exact hlen)])
    clear HRF
    have hgt : (328 : Int) < (n : Int) := by omega
    go_enter Try.func20, Try.ntmps20
    go_upto_region 1 with (fail)
    have HZ := Lib.hid (show Mx (w.alloc (.cells #[.int .i64 0, .int .i64 0, .int .i64 0, .int .i64 0, .int .i64 0, .int .i64 0, .int .i64 0, .slice none 0 0, .slice none 0 0] 29)) w.heap.size zeroM ⟨none, 0, 0⟩ ⟨none, 0, 0⟩ from hat _ _ _ rfl)
    have HB := Lib.hid (bal (Below.refl w.heap.size w) (Nat.le_refl _) (.cells #[.int .i64 0, .int .i64 0, .int .i64 0, .int .i64 0, .int .i64 0, .int .i64 0, .int .i64 0, .slice none 0 0, .slice none 0 0] 29))
    generalize w.alloc (.cells #[.int .i64 0, .int .i64 0, .int .i64 0, .int .i64 0, .int .i64 0, .int .i64 0, .int .i64 0, .slice none 0 0, .slice none 0 0] 29) = w0 at HZ HB ⊢
    obtain ⟨y0, y1, y2, y3, y4, y5, y6, y7, y8⟩ := HZ.out.cs
    have f0 := HZ.out.frozen 0; have f1 := HZ.out.frozen 1; have f2 := HZ.out.frozen 2; have f3 := HZ.out.frozen 3; have f4 := HZ.out.frozen 4; have f5 := HZ.out.frozen 5; have f6 := HZ.out.frozen 6; have f7 := HZ.out.frozen 7; have f8 := HZ.out.frozen 8
    simp only [zeroM] at y0 y1 y2 y3 y4 y5 y6 y7 y8
    go_wp2
    refine bodyPost_ret (results_msg2 (g := w.heap.size) (m := zeroM) (s := ⟨none, 0, 0⟩) (t := ⟨none, 0, 0⟩) (x := .int .i64 111) rfl rfl rfl (HZ.out.put zeroM ⟨none, 0, 0⟩ ⟨none, 0, 0⟩)) rfl ?_
    exact rd_no HE.out (((((((((HB.out.setCell (Nat.le_refl _) _).setCell (Nat.le_refl _) _).setCell (Nat.le_refl _) _).setCell (Nat.le_refl _) _).setCell (Nat.le_refl _) _).setCell (Nat.le_refl _) _).setCell (Nat.le_refl _) _).setCell (Nat.le_refl _) _).setCell (Nat.le_refl _) _)
  have hgt : ¬ (328 : Int) < (n : Int) := by omega
  have HRF : Hid (rf = match openF bs with
    | none => none
    | some b => match guessG b with
      | none => none
      | some m => if rightM m = true ∧ frameM m = bs then some m else none) := Lib.hid (by rw [HRF.out, if_neg (by rw [← HN.out]; exact hlen)])
  clear hlen
  go_enter Try.func20, Try.ntmps20
  go_upto_region 1 with (fail)
  have HZ := Lib.hid (show Mx (w.alloc (.cells #[.int .i64 0, .int .i64 0, .int .i64 0, .int .i64 0, .int .i64 0, .int .i64 0, .int .i64 0, .slice none 0 0, .slice none 0 0] 29)) w.heap.size zeroM ⟨none, 0, 0⟩ ⟨none, 0, 0⟩ from hat _ _ _ rfl)
  have HB := Lib.hid (bal (Below.refl w.heap.size w) (Nat.le_refl _) (.cells #[.int .i64 0, .int .i64 0, .int .i64 0, .int .i64 0, .int .i64 0, .int .i64 0, .int .i64 0, .slice none 0 0, .slice none 0 0] 29))
  generalize w.alloc (.cells #[.int .i64 0, .int .i64 0, .int .i64 0, .int .i64 0, .int .i64 0, .int .i64 0, .int .i64 0, .slice none 0 0, .slice none 0 0] 29) = w0 at HZ HB ⊢
  have HR0 := Lib.hid ((HR.out.below HB.out).more HB.out.size)
  go_wp2_with fail
  refine (open_c A n c bs HN.out hc _ w0 HR0.out (Nat.le_refl _) hl).mono ?_
  clear hgt HR0
  rintro e w1 ⟨A1, n1, c1, rfl, hn1, hc1, hr1, hb⟩
  have HZ := Lib.hid (HZ.out.all hb)
  have HB := Lib.hid (HB.out.trans (hb.mono HB.out.size)); clear hb
  have HN1 := Lib.hid hn1; have HR1 := Lib.hid hr1; clear hn1 hr1
  cases ho : openF bs with
  | none =>
    have HE := Lib.hid (show rf = none from by rw [HRF.out, ho])
    rw [show oE (none : Option (List UInt8)) = 31 from rfl]
    clear HRF ho
    obtain ⟨y0, y1, y2, y3, y4, y5, y6, y7, y8⟩ := HZ.out.cs
    have f0 := HZ.out.frozen 0; have f1 := HZ.out.frozen 1; have f2 := HZ.out.frozen 2; have f3 := HZ.out.frozen 3; have f4 := HZ.out.frozen 4; have f5 := HZ.out.frozen 5; have f6 := HZ.out.frozen 6; have f7 := HZ.out.frozen 7; have f8 := HZ.out.frozen 8
    simp only [zeroM] at y0 y1 y2 y3 y4 y5 y6 y7 y8
    go_wp2
    refine bodyPost_ret (results_msg2 (g := w.heap.size) (m := zeroM) (s := ⟨none, 0, 0⟩) (t := ⟨none, 0, 0⟩) (x := .int .i64 111) rfl rfl rfl (HZ.out.put zeroM ⟨none, 0, 0⟩ ⟨none, 0, 0⟩)) rfl ?_
    exact rd_no HE.out (((((((((HB.out.setCell (Nat.le_refl _) _).setCell (Nat.le_refl _) _).setCell (Nat.le_refl _) _).setCell (Nat.le_refl _) _).setCell (Nat.le_refl _) _).setCell (Nat.le_refl _) _).setCell (Nat.le_refl _) _).setCell (Nat.le_refl _) _).setCell (Nat.le_refl _) _)
  | some b =>
  have HRF : Hid (rf = match guessG b with
      | none => none
      | some m => if rightM m = true ∧ frameM m = bs then some m else none) := Lib.hid (by rw [HRF.out, ho])
  have HN1 : Hid (n1 = b.length) := Lib.hid (by have := HN1.out; rwa [ho] at this)
  have HR1 : Hid (Rd w1 w1.heap.size A1 (b.map B8)) := Lib.hid (by have := HR1.out; rwa [ho] at this)
  have HL1 : Hid (n1 ≤ big) := Lib.hid (by have h1 := congrArg List.length (open_some ho); rw [Crc.seal_len] at h1; have := HN1.out; have := HN.out; omega)
  rw [show oE (some b) = 0 from rfl]
  clear ho
  go_wp2_with fail
  refine (guess_c A1 n1 c1 b HN1.out hc1 HL1.out w1 HR1.out).mono ?_
  rintro e w2 ⟨hb, h3⟩
  have HZL := Lib.hid HZ.out.lt
  have HZ := Lib.hid (HZ.out.all hb)
  have HB := Lib.hid (HB.out.trans (hb.mono HB.out.size)); clear hb
  cases hg : guessG b with
  | none =>
    rw [hg] at h3
    have HE := Lib.hid (show rf = none from by rw [HRF.out, hg])
    have h3' : e = .returned (.tuple #[mvv zeroM ⟨none, 0, 0⟩ ⟨none, 0, 0⟩, .bool false]) := h3
    unfold mvv zeroM at h3'
    subst h3'
    clear h3 HRF hg
    go_upto_region 7 with (fail)
    have HZ := Lib.hid (show Mx (w2.alloc (.cells #[.int .i64 0, .int .i64 0, .int .i64 0, .int .i64 0, .int .i64 0, .int .i64 0, .int .i64 0, .slice none 0 0, .slice none 0 0] 29)) w.heap.size zeroM ⟨none, 0, 0⟩ ⟨none, 0, 0⟩ from hbe HZ.out)
    have HB := Lib.hid (bal HB.out (Nat.le_refl _) (.cells #[.int .i64 0, .int .i64 0, .int .i64 0, .int .i64 0, .int .i64 0, .int .i64 0, .int .i64 0, .slice none 0 0, .slice none 0 0] 29))
    generalize w2.alloc (.cells #[.int .i64 0, .int .i64 0, .int .i64 0, .int .i64 0, .int .i64 0, .int .i64 0, .int .i64 0, .slice none 0 0, .slice none 0 0] 29) = w3 at HZ HB ⊢
    obtain ⟨y0, y1, y2, y3, y4, y5, y6, y7, y8⟩ := HZ.out.cs
    have f0 := HZ.out.frozen 0; have f1 := HZ.out.frozen 1; have f2 := HZ.out.frozen 2; have f3 := HZ.out.frozen 3; have f4 := HZ.out.frozen 4; have f5 := HZ.out.frozen 5; have f6 := HZ.out.frozen 6; have f7 := HZ.out.frozen 7; have f8 := HZ.out.frozen 8
    simp only [zeroM] at y0 y1 y2 y3 y4 y5 y6 y7 y8
    go_wp2
    refine bodyPost_ret (results_msg2 (g := w.heap.size) (m := zeroM) (s := ⟨none, 0, 0⟩) (t := ⟨none, 0, 0⟩) (x := .int .i64 111) rfl rfl rfl (HZ.out.put zeroM ⟨none, 0, 0⟩ ⟨none, 0, 0⟩)) rfl ?_
    exact rd_no HE.out (((((((((HB.out.setCell (Nat.le_refl _) _).setCell (Nat.le_refl _) _).setCell (Nat.le_refl _) _).setCell (Nat.le_refl _) _).setCell (Nat.le_refl _) _).setCell (Nat.le_refl _) _).setCell (Nat.le_refl _) _).setCell (Nat.le_refl _) _).setCell (Nat.le_refl _) _)
  | some m =>
  rw [hg] at h3
  have HRF : Hid (rf = if rightM m = true ∧ frameM m = bs then some m else none) := Lib.hid (by rw [HRF.out, hg])
  obtain ⟨s, t, h3', hrows⟩ : ∃ s t, e = .returned (.tuple #[mvv m s t, .bool true]) ∧ RowsM w2 w1.heap.size m s t := h3
  unfold mvv at h3'
  subst h3'
  have HRO := Lib.hid hrows; clear hrows hg
  go_upto_region 7 with (fail)
  have HX := Lib.hid (show Mx (w2.alloc (.cells #[.int .i64 m.kind, .int .i64 m.src, .int .i64 m.dst, .int .i64 m.inc, .int .i64 m.seq, .int .i64 m.va, .int .i64 m.vd, .slice s.a s.n s.c, .slice t.a t.n t.c] 29)) w2.heap.size m s t from hat _ _ _ rfl)
  have hbx := bal (Below.refl w2.heap.size w2) (Nat.le_refl _) (.cells #[.int .i64 m.kind, .int .i64 m.src, .int .i64 m.dst, .int .i64 m.inc, .int .i64 m.seq, .int .i64 m.va, .int .i64 m.vd, .slice s.a s.n s.c, .slice t.a t.n t.c] 29)
  have HZ := Lib.hid (HZ.out.all hbx)
  have HRO := Lib.hid (HRO.out.all hbx)
  have HB := Lib.hid (HB.out.trans (hbx.mono HB.out.size)); clear hbx
  generalize w2.alloc (.cells #[.int .i64 m.kind, .int .i64 m.src, .int .i64 m.dst, .int .i64 m.inc, .int .i64 m.seq, .int .i64 m.va, .int .i64 m.vd, .slice s.a s.n s.c, .slice t.a t.n t.c] 29) = w3 at HX HZ HRO HB ⊢
  generalize w2.heap.size = g at HX ⊢
  obtain ⟨x0, x1, x2, x3, x4, x5, x6, x7, x8⟩ := HX.out.cs
  have HFC := Lib.hid (frame_c m s t w3 HRO.out.mo)
  unfold mvv at HFC
  go_wp2_with fail
  refine HFC.out.mono ?_
  clear HFC x0 x1 x2 x3 x4 x5 x6 x7 x8
  rintro e w4 ⟨A4, n4, c4, rfl, hn4, hc4, hr4, hb⟩
  have HX := Lib.hid (HX.out.all hb)
  have HZ := Lib.hid (HZ.out.all hb)
  have HRO := Lib.hid (HRO.out.all hb)
  have HB := Lib.hid (HB.out.trans (hb.mono HB.out.size)); clear hb
  have HN4 := Lib.hid hn4; have HR4 := Lib.hid hr4; clear hn4 hr4 hc4
  cases hrt : rightM m with
  | false =>
    have HE := Lib.hid (show rf = none from by rw [HRF.out, if_neg (by rw [hrt]; simp)])
    rw [(fr_no hrt).1]
    clear hrt HRF
    obtain ⟨y0, y1, y2, y3, y4, y5, y6, y7, y8⟩ := HZ.out.cs
    have f0 := HZ.out.frozen 0; have f1 := HZ.out.frozen 1; have f2 := HZ.out.frozen 2; have f3 := HZ.out.frozen 3; have f4 := HZ.out.frozen 4; have f5 := HZ.out.frozen 5; have f6 := HZ.out.frozen 6; have f7 := HZ.out.frozen 7; have f8 := HZ.out.frozen 8
    simp only [zeroM] at y0 y1 y2 y3 y4 y5 y6 y7 y8
    go_wp2
    refine bodyPost_ret (results_msg2 (g := w.heap.size) (m := zeroM) (s := ⟨none, 0, 0⟩) (t := ⟨none, 0, 0⟩) (x := .int .i64 111) rfl rfl rfl (HZ.out.put zeroM ⟨none, 0, 0⟩ ⟨none, 0, 0⟩)) rfl ?_
    exact rd_no HE.out (((((((((HB.out.setCell (Nat.le_refl _) _).setCell (Nat.le_refl _) _).setCell (Nat.le_refl _) _).setCell (Nat.le_refl _) _).setCell (Nat.le_refl _) _).setCell (Nat.le_refl _) _).setCell (Nat.le_refl _) _).setCell (Nat.le_refl _) _).setCell (Nat.le_refl _) _)
  | true =>
  have HFY := Lib.hid (fr_yes hrt)
  rw [HFY.out.1]
  have HEQ := Lib.hid (Lgw.equal8_c A4 n4 c4 (frB m) HN4.out A n c bs HN.out w4.heap.size w4 HR4.out ((HR.out.below HB.out).more HB.out.size))
  by_cases hfe : frB m = bs
  · rw [decide_eq_true hfe] at HEQ
    have HE := Lib.hid (show rf = some m from by rw [HRF.out, if_pos ⟨hrt, by rw [← HFY.out.2]; exact hfe⟩])
    clear hfe hrt HRF
    go_wp2_with fail
    refine HEQ.out.mono ?_
    rintro e w5 ⟨rfl, rfl⟩
    obtain ⟨x0, x1, x2, x3, x4, x5, x6, x7, x8⟩ := HX.out.cs
    obtain ⟨y0, y1, y2, y3, y4, y5, y6, y7, y8⟩ := HZ.out.cs
    have f0 := HZ.out.frozen 0; have f1 := HZ.out.frozen 1; have f2 := HZ.out.frozen 2; have f3 := HZ.out.frozen 3; have f4 := HZ.out.frozen 4; have f5 := HZ.out.frozen 5; have f6 := HZ.out.frozen 6; have f7 := HZ.out.frozen 7; have f8 := HZ.out.frozen 8
    simp only [zeroM] at y0 y1 y2 y3 y4 y5 y6 y7 y8
    go_wp2
    refine bodyPost_ret (results_msg2 (g := w.heap.size) (m := m) (s := s) (t := t) (x := .int .i64 0) rfl rfl rfl (HZ.out.put m s t)) rfl ?_
    have HBF := Lib.hid (show Below w.heap.size w (((((((((w4.setCell ⟨w.heap.size, 0, none⟩ (.int .i64 m.kind)).setCell ⟨w.heap.size, 1, none⟩ (.int .i64 m.src)).setCell ⟨w.heap.size, 2, none⟩ (.int .i64 m.dst)).setCell ⟨w.heap.size, 3, none⟩ (.int .i64 m.inc)).setCell ⟨w.heap.size, 4, none⟩ (.int .i64 m.seq)).setCell ⟨w.heap.size, 5, none⟩ (.int .i64 m.va)).setCell ⟨w.heap.size, 6, none⟩ (.int .i64 m.vd)).setCell ⟨w.heap.size, 7, none⟩ (.slice s.a s.n s.c)).setCell ⟨w.heap.size, 8, none⟩ (.slice t.a t.n t.c)) from (((((((((HB.out.setCell (Nat.le_refl _) _).setCell (Nat.le_refl _) _).setCell (Nat.le_refl _) _).setCell (Nat.le_refl _) _).setCell (Nat.le_refl _) _).setCell (Nat.le_refl _) _).setCell (Nat.le_refl _) _).setCell (Nat.le_refl _) _).setCell (Nat.le_refl _) _))
    rw [HE.out]
    exact ⟨s, t, rfl, (HRO.out.put HZL.out _ _ _ _ _ _ _ _ _).mo, HBF.out⟩
  · rw [decide_eq_false hfe] at HEQ
    have HE := Lib.hid (show rf = none from by rw [HRF.out, if_neg (fun h => hfe (by rw [HFY.out.2]; exact h.2))])
    clear hfe hrt HRF
    go_wp2_with fail
    refine HEQ.out.mono ?_
    rintro e w5 ⟨rfl, rfl⟩
    obtain ⟨y0, y1, y2, y3, y4, y5, y6, y7, y8⟩ := HZ.out.cs
    have f0 := HZ.out.frozen 0; have f1 := HZ.out.frozen 1; have f2 := HZ.out.frozen 2; have f3 := HZ.out.frozen 3; have f4 := HZ.out.frozen 4; have f5 := HZ.out.frozen 5; have f6 := HZ.out.frozen 6; have f7 := HZ.out.frozen 7; have f8 := HZ.out.frozen 8
    simp only [zeroM] at y0 y1 y2 y3 y4 y5 y6 y7 y8
    go_wp2
    refine bodyPost_ret (results_msg2 (g := w.heap.size) (m := zeroM) (s := ⟨none, 0, 0⟩) (t := ⟨none, 0, 0⟩) (x := .int .i64 111) rfl rfl rfl (HZ.out.put zeroM ⟨none, 0, 0⟩ ⟨none, 0, 0⟩)) rfl ?_
    exact rd_no HE.out (((((((((HB.out.setCell (Nat.le_refl _) _).setCell (Nat.le_refl _) _).setCell (Nat.le_refl _) _).setCell (Nat.le_refl _) _).setCell (Nat.le_refl _) _).setCell (Nat.le_refl _) _).setCell (Nat.le_refl _) _).setCell (Nat.le_refl _) _).setCell (Nat.le_refl _) _)

end Go.Proofs.Ytldfccllpnplmaa.Msw

namespace Go.Proofs.Ytldfccllpnplmaa.Msw
set_option maxRecDepth 20000
open Go.RowKit
open Cl Bk Ms Clw Bkw

theorem read_c (A : Option Addr) (n c : Nat) (bs : List UInt8) (hn : n = bs.length) (hc : n ≤ c) (w : World) (hr : Rd w w.heap.size A (bs.map B8)) (hl : n ≤ big) : Calls Try.prog 20 #[.slice A n c] w (RetRd w (readF bs)) := reads_c A n c bs hn hc w hr hl
end Go.Proofs.Ytldfccllpnplmaa.Msw

namespace Go.Proofs.Ytldfccllpnplmaa.Msw
set_option maxRecDepth 20000
open Go.RowKit
open Cl Bk Ms Clw Bkw
open Chgw (hat hbe)
open Rg (bal)

theorem burst_lenM (bs : List UInt8) (a : Int) (m : Nat) : (burstF bs a m).length = bs.length := by
  unfold burstF
  split
  · rfl
  · exact Crc.turns_len _ _ _ _
/-- a frame whose bits were turned is none -/
theorem burst_read (b : List UInt8) (a : Int) (m : Nat) (hm : m < 2 ^ 32) (h : burstF (Crc.seal_ b) a m ≠ Crc.seal_ b) : readF (burstF (Crc.seal_ b) a m) = none := by
  have ho : Crc.openF (burstF (Crc.seal_ b) a m) = none := by
    by_cases hc : a < 0 ∨ 8 * ((Crc.seal_ b).length : Int) - (Go.bitLen m : Int) < a
    · exact absurd (if_pos hc) h
    · have e : burstF (Crc.seal_ b) a m = Crc.turns (Crc.seal_ b) a.toNat m (Go.bitLen m) := if_neg hc
      rw [e] at h ⊢
      exact Crc.turns_found b _ m _ (bitLen_le m 32 hm) h
  unfold readF
  rw [ho]
/-- the question of msgAlive -/
def askM : M := ⟨2, 1, 2, 3, 4, 7, 0, [], []⟩
def toldM : M := ⟨6, 2, 1, 3, 4, 7, 0, [], []⟩
theorem ask_right : rightM askM = true := by decide +kernel
theorem ask_told : ansM askM toldM = true := by decide +kernel
theorem ask_ok : Ms.Ok askM := ⟨ask_right, by simp [askM]⟩
theorem ask_read : readF (frameM askM) = some askM := by rw [readF_yes ask_ok]; rfl
theorem ask_burst : readF (burstF (frameM askM) 9 1) = none := by
  exact burst_read (bodyM askM) 9 1 (by decide) (by decide +kernel)
theorem mo_nil (w : World) (m : M) (h : m.cells = []) (h2 : m.book = []) : Mo w m ⟨none, 0, 0⟩ ⟨none, 0, 0⟩ := by
  unfold Mo
  rw [h, h2]
  exact ⟨Sc.nil w, So.nil w⟩

theorem retRd_some (w : World) (m : M) : RetRd w (some m) = fun e w' => ∃ s t, e = .returned (.tuple #[mvv m s t, .int .i64 0]) ∧ Mo w' m s t ∧ Below w.heap.size w w' := rfl
theorem retRd_none (w : World) : RetRd w none = fun e w' => ∃ s t, e = .returned (.tuple #[mvv zeroM s t, .int .i64 111]) ∧ Mo w' zeroM s t ∧ Below w.heap.size w w' := rfl
theorem msg_alive_c (w : World) : Calls Try.prog 10 #[] w fun e w' => e = .returned (.bool true) ∧ Below w.heap.size w w' := by
  go_enter Try.func10, Try.ntmps10
  have HB := Lib.hid (bal (Below.refl w.heap.size w) (Nat.le_refl _) (.cells #[.int .i64 2, .int .i64 1, .int .i64 2, .int .i64 3, .int .i64 4, .int .i64 7, .int .i64 0, .slice none 0 0, .slice none 0 0] 29))
  have HX := Lib.hid (show Mx (w.alloc (.cells #[.int .i64 2, .int .i64 1, .int .i64 2, .int .i64 3, .int .i64 4, .int .i64 7, .int .i64 0, .slice none 0 0, .slice none 0 0] 29)) w.heap.size askM ⟨none, 0, 0⟩ ⟨none, 0, 0⟩ from hat _ _ _ rfl)
  go_wp2_with fail
  generalize w.alloc (.cells #[.int .i64 2, .int .i64 1, .int .i64 2, .int .i64 3, .int .i64 4, .int .i64 7, .int .i64 0, .slice none 0 0, .slice none 0 0] 29) = w1 at HB HX ⊢
  generalize w.heap.size = g at HX ⊢
  refine (frame_c askM ⟨none, 0, 0⟩ ⟨none, 0, 0⟩ w1 (mo_nil w1 askM rfl rfl)).mono ?_
  rintro e w2 ⟨A, n, c, rfl, hn, hc, hr, hb⟩
  rw [(fr_yes ask_right).1]
  rw [(fr_yes ask_right).2] at hn hr
  have HX := Lib.hid (HX.out.all hb)
  have HB := Lib.hid (HB.out.trans (hb.mono HB.out.size)); clear hb
  have HR := Lib.hid hr; have HN := Lib.hid hn; have HC := Lib.hid hc; clear hr hn hc
  have hl : n ≤ 1000 := by have := frB_len askM; rw [(fr_yes ask_right).2, ← HN.out] at this; exact this
  have HL := Lib.hid hl; clear hl
  go_wp2_with fail
  refine (read_c A n c _ HN.out HC.out w2 HR.out (by have := HL.out; unfold big; omega)).mono ?_
  rw [ask_read, retRd_some]
  rintro e w3 ⟨s, t, rfl, hm, hb⟩
  unfold mvv askM
  have HX := Lib.hid (HX.out.all hb)
  have HR := Lib.hid ((HR.out.below hb).more hb.size)
  have HB := Lib.hid (HB.out.trans (hb.mono HB.out.size)); clear hb
  have HM := Lib.hid hm; clear hm
  go_wp2_with fail
  have hb := bal (Below.refl w3.heap.size w3) (Nat.le_refl _) (.cells #[.int .i64 2, .int .i64 1, .int .i64 2, .int .i64 3, .int .i64 4, .int .i64 7, .int .i64 0, .slice s.a s.n s.c, .slice t.a t.n t.c] 29)
  have HY := Lib.hid (show Mx (w3.alloc (.cells #[.int .i64 2, .int .i64 1, .int .i64 2, .int .i64 3, .int .i64 4, .int .i64 7, .int .i64 0, .slice s.a s.n s.c, .slice t.a t.n t.c] 29)) w3.heap.size askM s t from hat _ _ _ rfl)
  have HX := Lib.hid (HX.out.all hb)
  have HM := Lib.hid (HM.out.all hb)
  have HR := Lib.hid ((HR.out.below hb).more hb.size)
  have HB := Lib.hid (HB.out.trans (hb.mono HB.out.size)); clear hb
  generalize w3.alloc (.cells #[.int .i64 2, .int .i64 1, .int .i64 2, .int .i64 3, .int .i64 4, .int .i64 7, .int .i64 0, .slice s.a s.n s.c, .slice t.a t.n t.c] 29) = w4 at HB HX HY HR HM ⊢
  generalize w3.heap.size = g2 at HY ⊢
  refine (burst_c A n c _ HN.out 9 (by omega) (by omega) 1 (by omega) w4.heap.size w4 HR.out (Nat.le_refl _) (by have := HL.out; unfold big; omega)).mono ?_
  rintro e w5 ⟨A2, n2, c2, rfl, ho, hb⟩
  have HX := Lib.hid (HX.out.all hb)
  have HY := Lib.hid (HY.out.all hb)
  have HM := Lib.hid (HM.out.all hb)
  have HB := Lib.hid (HB.out.trans (hb.mono HB.out.size)); clear hb
  have hn2 : n2 ≤ 1000 := by rw [ho.1, burst_lenM, ← HN.out]; exact HL.out
  have HO := Lib.hid ho; have HL2 := Lib.hid hn2; clear ho hn2
  go_wp2_with fail
  refine (read_c A2 n2 c2 _ HO.out.1 HO.out.cap w5 HO.out.rd (by have := HL2.out; unfold big; omega)).mono ?_
  rw [ask_burst, retRd_none]
  rintro e w6 ⟨s2, t2, rfl, _, hb⟩
  unfold mvv zeroM
  have HX := Lib.hid (HX.out.all hb)
  have HY := Lib.hid (HY.out.all hb)
  have HM := Lib.hid (HM.out.all hb)
  have HB := Lib.hid (HB.out.trans (hb.mono HB.out.size)); clear hb
  have hb := bal (Below.refl w6.heap.size w6) (Nat.le_refl _) (.cells #[.int .i64 0, .int .i64 0, .int .i64 0, .int .i64 0, .int .i64 0, .int .i64 0, .int .i64 0, .slice s2.a s2.n s2.c, .slice t2.a t2.n t2.c] 29)
  have HX := Lib.hid (HX.out.all hb)
  have HY := Lib.hid (HY.out.all hb)
  have HM := Lib.hid (HM.out.all hb)
  have HB := Lib.hid (HB.out.trans (hb.mono HB.out.size)); clear hb
  obtain ⟨x0, x1, x2, x3, x4, x5, x6, x7, x8⟩ := HX.out.cs
  obtain ⟨y0, y1, y2, y3, y4, y5, y6, y7, y8⟩ := HY.out.cs
  go_wp2_with fail
  clear x0 x1 x2 x3 x4 x5 x6 x7 x8 y0 y1 y2 y3 y4 y5 y6 y7 y8
  generalize w6.alloc (.cells #[.int .i64 0, .int .i64 0, .int .i64 0, .int .i64 0, .int .i64 0, .int .i64 0, .int .i64 0, .slice s2.a s2.n s2.c, .slice t2.a t2.n t2.c] 29) = w7 at HB HX HY HM ⊢
  refine (same_c askM askM s t ⟨none, 0, 0⟩ ⟨none, 0, 0⟩ w7 HM.out (mo_nil w7 askM rfl rfl)).mono ?_
  rw [sameM_refl]
  rintro e w8 ⟨rfl, hb⟩
  have HX := Lib.hid (HX.out.all hb)
  have HB := Lib.hid (HB.out.trans (hb.mono HB.out.size)); clear hb
  obtain ⟨x0, x1, x2, x3, x4, x5, x6, x7, x8⟩ := HX.out.cs
  go_wp2_with fail
  clear x0 x1 x2 x3 x4 x5 x6 x7 x8
  refine (answers_c askM toldM ⟨none, 0, 0⟩ ⟨none, 0, 0⟩ ⟨none, 0, 0⟩ ⟨none, 0, 0⟩ w8).mono ?_
  rw [ask_told]
  rintro e w9 ⟨rfl, hb⟩
  have HB := Lib.hid (HB.out.trans (hb.mono HB.out.size)); clear hb
  go_wp2
  go_ret
  exact ⟨rfl, HB.out⟩
end Go.Proofs.Ytldfccllpnplmaa.Msw
