/- Contracts and words on which the claims of this seat stand, part 26: MsCa MsCb MsCs MsCc. -/
import Derived.Test.YtldfccllpnplmaaG01
import Derived.Test.YtldfccllpnplmaaG04
import Derived.Test.YtldfccllpnplmaaG05
import Derived.Test.YtldfccllpnplmaaG10
import Derived.Test.YtldfccllpnplmaaG11
import Derived.Test.YtldfccllpnplmaaG21
import Derived.Test.YtldfccllpnplmaaG24
set_option linter.unusedSimpArgs false
set_option linter.unusedVariables false
namespace Go.Proofs.Ytldfccllpnplmaa.Msw
set_option maxRecDepth 20000
open Go.RowKit
open Cl Bk Ms Clw Bkw
open Chgw (hat hbe ret_bool vw)
open Rg (bal)

def ansK (k : Int) : Int := if k = 0 then 5 else if k = 2 then 6 else if k = 1 ∨ k = 3 ∨ k = 4 then 7 else 0
def ansB (k : Int) : Bool := decide (k = 0 ∨ k = 2 ∨ k = 1 ∨ k = 3 ∨ k = 4)
theorem fits_eq (q a : Int) : fitsM q a = (ansB q && (a == ansK q)) := by
  unfold fitsM ansB ansK
  rw [Bool.eq_iff_iff]
  simp only [Bool.and_eq_true, decide_eq_true_iff, beq_iff_eq]
  by_cases h0 : q = 0
  · subst h0; simp
  by_cases h2 : q = 2
  · subst h2; simp
  by_cases h1 : q = 1 ∨ q = 3 ∨ q = 4
  · rw [if_neg h0, if_neg h2, if_pos h1]; omega
  · rw [if_neg h0, if_neg h2, if_neg h1]; omega
theorem ans_eq (q a : M) : ansM q a = ((ansB q.kind && (a.kind == ansK q.kind)) && (((a.src == q.dst) && (a.dst == q.src)) && ((a.inc == q.inc) && ((a.seq == q.seq) && (a.va == q.va && a.vd == q.vd))))) := by
  unfold ansM
  rw [fits_eq]
  congr 1
  rw [Bool.eq_iff_iff]
  simp only [Bool.and_eq_true, decide_eq_true_iff, beq_iff_eq]
  constructor
  · rintro ⟨h1, h2, h3, h4, h5, h6⟩; exact ⟨⟨h2.symm, h1.symm⟩, h3.symm, h4.symm, h5.symm, h6.symm⟩
  · rintro ⟨⟨h1, h2⟩, h3, h4, h5, h6⟩; exact ⟨h2.symm, h1.symm, h3.symm, h4.symm, h5.symm, h6.symm⟩
set_option maxHeartbeats 1000000 in
theorem answerto_c (k : Int) (w : World) : Calls Try.prog 42 #[.int .i64 k] w fun e w' => e = .returned (.tuple #[.int .i64 (ansK k), .bool (ansB k)]) ∧ w = w' := by
  have HE : Hid (∀ a b, ansK k = a → ansB k = b → Ending.returned (.tuple #[.int .i64 a, .bool b]) = .returned (.tuple #[.int .i64 (ansK k), .bool (ansB k)])) := Lib.hid (fun a b h1 h2 => by rw [h1, h2])
  go_enter Try.func42, Try.ntmps42
  by_cases h0 : k = 0
  · subst h0; go_wp2; go_ret2; exact ⟨HE.out _ _ rfl rfl, rfl⟩
  by_cases h2 : k = 2
  · subst h2; go_wp2; go_ret2; exact ⟨HE.out _ _ rfl rfl, rfl⟩
  by_cases h1 : k = 1
  · subst h1; go_wp2; go_ret2; exact ⟨HE.out _ _ rfl rfl, rfl⟩
  by_cases h3 : k = 3
  · subst h3; go_wp2; go_ret2; exact ⟨HE.out _ _ rfl rfl, rfl⟩
  by_cases h4 : k = 4
  · subst h4; go_wp2; go_ret2; exact ⟨HE.out _ _ rfl rfl, rfl⟩
  have hk : ansK k = 0 := by unfold ansK; rw [if_neg h0, if_neg h2, if_neg (by omega)]
  have hb : ansB k = false := by unfold ansB; exact decide_eq_false (by omega)
  have HX := Lib.hid (HE.out _ _ hk hb)
  have q0 : (k == 0) = false := by rw [beq_eq_false_iff_ne]; exact h0
  have q2 : (k == 2) = false := by rw [beq_eq_false_iff_ne]; exact h2
  have q1 : (k == 1) = false := by rw [beq_eq_false_iff_ne]; exact h1
  have q3 : (k == 3) = false := by rw [beq_eq_false_iff_ne]; exact h3
  have q4 : (k == 4) = false := by rw [beq_eq_false_iff_ne]; exact h4
  clear hk hb h0 h1 h2 h3 h4 HE
  go_wp2; go_ret2; exact ⟨HX.out, rfl⟩
set_option maxHeartbeats 4000000 in
set_option maxRecDepth 100000 in
theorem answers_c (a b : M) (s t s2 t2 : S3) (w : World) : Calls Try.prog 18 #[mvv a s t, mvv b s2 t2] w fun e w' => e = .returned (.bool (ansM a b)) ∧ Below w.heap.size w w' := by
  have heq := Chgw.eq_view
  have HE := Lib.hid (ans_eq a b)
  have HAT := Lib.hid (fun W => answerto_c a.kind W)
  generalize ansM a b = r at HE ⊢
  generalize ansK a.kind = kk at HE HAT
  generalize ansB a.kind = kb at HE HAT
  obtain ⟨k1, r1, d1, i1, q1, a1, e1, cs1, bk1⟩ := a
  obtain ⟨k2, r2, d2, i2, q2, a2, e2, cs2, bk2⟩ := b
  simp only at HE HAT
  unfold mvv
  simp only
  go_enter Try.func18, Try.ntmps18
  go_upto_region 1 with (fail)
  have HB := Lib.hid (bal (bal (Below.refl w.heap.size w) (Nat.le_refl _) (.cells #[.int .i64 k1, .int .i64 r1, .int .i64 d1, .int .i64 i1, .int .i64 q1, .int .i64 a1, .int .i64 e1, .slice s.a s.n s.c, .slice t.a t.n t.c] 29)) (Nat.le_refl _) (.cells #[.int .i64 k2, .int .i64 r2, .int .i64 d2, .int .i64 i2, .int .i64 q2, .int .i64 a2, .int .i64 e2, .slice s2.a s2.n s2.c, .slice t2.a t2.n t2.c] 29))
  have HX := Lib.hid (show Mx ((w.alloc (.cells #[.int .i64 k1, .int .i64 r1, .int .i64 d1, .int .i64 i1, .int .i64 q1, .int .i64 a1, .int .i64 e1, .slice s.a s.n s.c, .slice t.a t.n t.c] 29)).alloc (.cells #[.int .i64 k2, .int .i64 r2, .int .i64 d2, .int .i64 i2, .int .i64 q2, .int .i64 a2, .int .i64 e2, .slice s2.a s2.n s2.c, .slice t2.a t2.n t2.c] 29)) w.heap.size ⟨k1, r1, d1, i1, q1, a1, e1, cs1, bk1⟩ s t from hbe (hat _ _ _ rfl))
  have HZ := Lib.hid (show Mx ((w.alloc (.cells #[.int .i64 k1, .int .i64 r1, .int .i64 d1, .int .i64 i1, .int .i64 q1, .int .i64 a1, .int .i64 e1, .slice s.a s.n s.c, .slice t.a t.n t.c] 29)).alloc (.cells #[.int .i64 k2, .int .i64 r2, .int .i64 d2, .int .i64 i2, .int .i64 q2, .int .i64 a2, .int .i64 e2, .slice s2.a s2.n s2.c, .slice t2.a t2.n t2.c] 29)) (w.heap.size + 1) ⟨k2, r2, d2, i2, q2, a2, e2, cs2, bk2⟩ s2 t2 from hat _ _ _ (by simp))
  generalize ((w.alloc (.cells #[.int .i64 k1, .int .i64 r1, .int .i64 d1, .int .i64 i1, .int .i64 q1, .int .i64 a1, .int .i64 e1, .slice s.a s.n s.c, .slice t.a t.n t.c] 29)).alloc (.cells #[.int .i64 k2, .int .i64 r2, .int .i64 d2, .int .i64 i2, .int .i64 q2, .int .i64 a2, .int .i64 e2, .slice s2.a s2.n s2.c, .slice t2.a t2.n t2.c] 29)) = w1 at HX HZ HB ⊢
  generalize hgx : w.heap.size = gx at HX HZ ⊢
  have HGX := Lib.hid hgx; clear hgx
  obtain ⟨x0, x1, x2, x3, x4, x5, x6, _, _⟩ := HX.out.cs
  simp only at x0 x1 x2 x3 x4 x5 x6
  go_upto_region 2 with (refine (HAT.out _).mono ?_; rintro e w2 ⟨rfl, rfl⟩)
  obtain ⟨y0, y1, y2, y3, y4, y5, y6, _, _⟩ := HZ.out.cs
  simp only at y0 y1 y2 y3 y4 y5 y6
  clear HX HZ HAT
  go_cut [7] (fun s7 wq => ∃ fb : Bool, s7 = .bool fb ∧ fb = ((r2 == d1) && (d2 == r1)) ∧ wq = w1)
  case first =>
    clear HE
    cases hq : (r2 == d1) with
    | false => go_wp2; go_meet; case rel => exact ⟨false, rfl, by rw [hq]; rfl, rfl⟩
    | true =>
    cases hq2 : (d2 == r1) with
    | false => go_wp2; go_meet; case rel => exact ⟨false, rfl, by rw [hq2, Bool.and_false], rfl⟩
    | true => go_wp2; go_meet; case rel => exact ⟨true, rfl, by rw [hq, hq2]; rfl, rfl⟩
  case rest =>
    obtain ⟨fb, rfl, hfb, rfl⟩ := hcut
    have HE := Lib.hid (show r = ((kb && (k2 == kk)) && (fb && ((i2 == i1) && ((q2 == q1) && (a2 == a1 && e2 == e1))))) from by rw [HE.out, hfb]); clear HGX
    clear hfb
    cases kb with
    | false => have HF := Lib.hid (show r = false from by rw [HE.out]; rfl); clear HE; go_wp2; go_ret; exact ⟨ret_bool HF.out.symm, HB.out⟩
    | true =>
    cases fb with
    | false =>
      have HF := Lib.hid (show r = false from by rw [HE.out, Bool.false_and, Bool.and_false]); clear HE
      cases hq : (k2 == kk) with
      | false => go_wp2; go_ret; exact ⟨ret_bool HF.out.symm, HB.out⟩
      | true => go_wp2; go_ret; exact ⟨ret_bool HF.out.symm, HB.out⟩
    | true =>
    cases hq : (k2 == kk) with
    | false => have HF := Lib.hid (show r = false from by rw [HE.out, hq]; rfl); clear HE; go_wp2; go_ret; exact ⟨ret_bool HF.out.symm, HB.out⟩
    | true =>
    cases hi : (i2 == i1) with
    | false => have HF := Lib.hid (show r = false from by rw [HE.out, hq, hi]; rfl); clear HE; go_wp2; go_ret; exact ⟨ret_bool HF.out.symm, HB.out⟩
    | true =>
    cases hs : (q2 == q1) with
    | false => have HF := Lib.hid (show r = false from by rw [HE.out, hq, hi, hs]; rfl); clear HE; go_wp2; go_ret; exact ⟨ret_bool HF.out.symm, HB.out⟩
    | true =>
    have HF := Lib.hid (show r = (a2 == a1 && e2 == e1) from by rw [HE.out, hq, hi, hs]; rfl); clear HE
    cases hv : (a2 == a1 && e2 == e1) with
    | false => rw [hv] at HF; go_wp2; go_ret; exact ⟨ret_bool HF.out.symm, HB.out⟩
    | true => rw [hv] at HF; go_wp2; go_ret; exact ⟨ret_bool HF.out.symm, HB.out⟩
/-- a copied slice is answered -/
def RetCs {α : Type} (K : Kind α) (w : World) (es : List α) (e : Ending) (w' : World) : Prop := ∃ A n c, e = .returned (.slice A n c) ∧ n = es.length ∧ Rg.OwnG K w' w.heap.size A n c es ∧ Below w.heap.size w w'
set_option maxHeartbeats 1000000 in
theorem clone_cells (A : Option Addr) (n c : Nat) (es : List C) (w : World) (h : Sc w A n c es) : Calls Try.prog 40 #[.slice A n c] w (RetCs KC w es) := by
  have q22 : ∀ (w : World) (a : Option Addr) (n c n' c' : Nat), (binOp .eql 26 (.slice a n c) (.slice none n' c')).run Try.prog w = .ok (.bool a.isNone) w := fun w a n c n' c' => Lib.run_eql_slice_nil w _ _ a n c n' c' Try.underlying26
  have hn := h.1
  have hr : Rg.Rs KC w w.heap.size A es := h.2.2.2
  have hbd : n * KC.bytes ≤ 140737488355328 := h.2.2.1
  clear h
  cases A with
  | none =>
    have h0 : es = [] := by
      rcases Nat.eq_zero_or_pos es.length with h | h
      · exact List.eq_nil_of_length_eq_zero h
      · obtain ⟨_, _, e, _⟩ := hr h
        cases e
    subst h0
    have hn0 : n = 0 := by simpa using hn
    subst hn0
    clear hr hn hbd
    go_enter Try.func40, Try.ntmps40
    go_wp2
    go_ret
    exact ⟨none, 0, 0, rfl, rfl, ⟨rfl, World.ownsRow_nil _ _ _ _⟩, Below.refl _ _⟩
  | some ad =>
    have HN := Lib.hid hn; clear hn
    have HR := Lib.hid hr; clear hr
    have HD := Lib.hid hbd; clear hbd
    go_enter Try.func40, Try.ntmps40
    go_wp2_with (at_builtin; refine Rg.wp_copyG (K := KC) rfl (.tmp 5) (.tmp 6) rfl w rfl _ (some ad) n c es rfl HN.out HR.out (Nat.le_refl _) HD.out ?_; intro A2 c2 w2 ho2 hb2)
    go_ret
    exact ⟨A2, n, c2, rfl, HN.out, ho2, hb2⟩
set_option maxHeartbeats 1000000 in
theorem clone_ents (A : Option Addr) (n c : Nat) (es : List E) (w : World) (h : So w A n c es) : Calls Try.prog 41 #[.slice A n c] w (RetCs KE w es) := by
  have q22 : ∀ (w : World) (a : Option Addr) (n c n' c' : Nat), (binOp .eql 27 (.slice a n c) (.slice none n' c')).run Try.prog w = .ok (.bool a.isNone) w := fun w a n c n' c' => Lib.run_eql_slice_nil w _ _ a n c n' c' Try.underlying27
  have hn := h.1
  have hr : Rg.Rs KE w w.heap.size A es := So.rs h
  have hbd : n * KE.bytes ≤ 140737488355328 := h.2.2.1
  clear h
  cases A with
  | none =>
    have h0 : es = [] := by
      rcases Nat.eq_zero_or_pos es.length with h | h
      · exact List.eq_nil_of_length_eq_zero h
      · obtain ⟨_, _, e, _⟩ := hr h
        cases e
    subst h0
    have hn0 : n = 0 := by simpa using hn
    subst hn0
    clear hr hn hbd
    go_enter Try.func41, Try.ntmps41
    go_wp2
    go_ret
    exact ⟨none, 0, 0, rfl, rfl, ⟨rfl, World.ownsRow_nil _ _ _ _⟩, Below.refl _ _⟩
  | some ad =>
    have HN := Lib.hid hn; clear hn
    have HR := Lib.hid hr; clear hr
    have HD := Lib.hid hbd; clear hbd
    go_enter Try.func41, Try.ntmps41
    go_wp2_with (at_builtin; refine Rg.wp_copyG (K := KE) rfl (.tmp 5) (.tmp 6) rfl w rfl _ (some ad) n c es rfl HN.out HR.out (Nat.le_refl _) HD.out ?_; intro A2 c2 w2 ho2 hb2)
    go_ret
    exact ⟨A2, n, c2, rfl, HN.out, ho2, hb2⟩
set_option maxHeartbeats 2000000 in
theorem copy_c (m : M) (s t : S3) (w : World) (h : Mo w m s t) : Calls Try.prog 17 #[mvv m s t] w (RetCo w m) := by
  have HMO := Lib.hid h; clear h
  obtain ⟨kd, sr, ds, ic, sq, va, vd, cs, bk⟩ := m
  unfold mvv
  simp only
  go_enter Try.func17, Try.ntmps17
  go_upto_region 1 with (fail)
  have HX := Lib.hid (show Mx ((w.alloc (.cells #[.int .i64 kd, .int .i64 sr, .int .i64 ds, .int .i64 ic, .int .i64 sq, .int .i64 va, .int .i64 vd, .slice s.a s.n s.c, .slice t.a t.n t.c] 29)).alloc (.cells #[.int .i64 0, .int .i64 0, .int .i64 0, .int .i64 0, .int .i64 0, .int .i64 0, .int .i64 0, .slice none 0 0, .slice none 0 0] 29)) w.heap.size ⟨kd, sr, ds, ic, sq, va, vd, cs, bk⟩ s t from hbe (hat _ _ _ rfl))
  have HZ := Lib.hid (show Mx ((w.alloc (.cells #[.int .i64 kd, .int .i64 sr, .int .i64 ds, .int .i64 ic, .int .i64 sq, .int .i64 va, .int .i64 vd, .slice s.a s.n s.c, .slice t.a t.n t.c] 29)).alloc (.cells #[.int .i64 0, .int .i64 0, .int .i64 0, .int .i64 0, .int .i64 0, .int .i64 0, .int .i64 0, .slice none 0 0, .slice none 0 0] 29)) (w.heap.size + 1) zeroM ⟨none, 0, 0⟩ ⟨none, 0, 0⟩ from hat _ _ _ (by simp))
  have HB := Lib.hid (bal (bal (Below.refl w.heap.size w) (Nat.le_refl _) (.cells #[.int .i64 kd, .int .i64 sr, .int .i64 ds, .int .i64 ic, .int .i64 sq, .int .i64 va, .int .i64 vd, .slice s.a s.n s.c, .slice t.a t.n t.c] 29)) (Nat.le_refl _) (.cells #[.int .i64 0, .int .i64 0, .int .i64 0, .int .i64 0, .int .i64 0, .int .i64 0, .int .i64 0, .slice none 0 0, .slice none 0 0] 29))
  have HMW := Lib.hid HMO.out
  have HMO := Lib.hid (HMO.out.all HB.out)
  generalize ((w.alloc (.cells #[.int .i64 kd, .int .i64 sr, .int .i64 ds, .int .i64 ic, .int .i64 sq, .int .i64 va, .int .i64 vd, .slice s.a s.n s.c, .slice t.a t.n t.c] 29)).alloc (.cells #[.int .i64 0, .int .i64 0, .int .i64 0, .int .i64 0, .int .i64 0, .int .i64 0, .int .i64 0, .slice none 0 0, .slice none 0 0] 29)) = w1 at HX HZ HMO HB ⊢
  have hsz := HZ.out.lt
  have x7 := HX.out.c7
  have HK7 : Hid (∀ W', Below w1.heap.size w1 W' → W'.cell? ⟨w.heap.size, 7, none⟩ = some (.slice s.a s.n s.c) ∧ W'.frozen? ⟨w.heap.size, 7, none⟩ = false) := Lib.hid (fun W' h => ⟨(HX.out.all h).c7, (HX.out.all h).frozen 7⟩)
  go_upto_region 2 with (refine (clone_cells s.a s.n s.c cs w1 HMO.out.1).mono ?_; rintro e w4 ⟨A4, n4, c4, rfl, -, ho4, hb4⟩; obtain ⟨p7, f7⟩ := HK7.out w4 hb4)
  clear x7 p7 f7 HK7
  have HX := Lib.hid ((HX.out.all hb4).put1 7 (.slice A4 n4 c4) ⟨kd, sr, ds, ic, sq, va, vd, cs, bk⟩ ⟨A4, n4, c4⟩ t rfl)
  have HZ := Lib.hid ((HZ.out.all hb4).other (p := ⟨w.heap.size, 7, none⟩) (by show w.heap.size + 1 ≠ w.heap.size; omega) (.slice A4 n4 c4))
  have HO4 := Lib.hid (show Rg.OwnG KC (w4.setCell ⟨w.heap.size, 7, none⟩ (.slice A4 n4 c4)) w1.heap.size A4 n4 c4 cs from ho4.keep (fun k hk => Below.heap_setCell _ _ _ _ (by have := (ho4.2.lt k hk).1; show k ≠ w.heap.size; omega)))
  have HB := Lib.hid (show Below w.heap.size w (w4.setCell ⟨w.heap.size, 7, none⟩ (.slice A4 n4 c4)) from (HB.out.trans (hb4.mono HB.out.size)).setCell (Nat.le_refl _) _)
  have hs4 : w.heap.size + 1 < (w4.setCell ⟨w.heap.size, 7, none⟩ (.slice A4 n4 c4)).heap.size := by have := hb4.size; simp [World.setCell]; omega
  clear HMO ho4 hb4
  generalize (w4.setCell ⟨w.heap.size, 7, none⟩ (.slice A4 n4 c4)) = w5 at HX HZ HO4 HB hs4 ⊢
  have HMO := Lib.hid (HMW.out.all HB.out)
  have x8 := HX.out.c8
  have HK8 : Hid (∀ W', Below w5.heap.size w5 W' → W'.cell? ⟨w.heap.size, 8, none⟩ = some (.slice t.a t.n t.c) ∧ W'.frozen? ⟨w.heap.size, 8, none⟩ = false) := Lib.hid (fun W' h => ⟨(HX.out.all h).c8, (HX.out.all h).frozen 8⟩)
  go_upto_region 3 with (refine (clone_ents t.a t.n t.c bk w5 HMO.out.2).mono ?_; rintro e w6 ⟨A6, n6, c6, rfl, -, ho6, hb6⟩; obtain ⟨p8, f8⟩ := HK8.out w6 hb6)
  clear x8 p8 f8 HK8
  have HX := Lib.hid ((HX.out.all hb6).put1 8 (.slice A6 n6 c6) ⟨kd, sr, ds, ic, sq, va, vd, cs, bk⟩ ⟨A4, n4, c4⟩ ⟨A6, n6, c6⟩ rfl)
  have HZ := Lib.hid ((HZ.out.all hb6).other (p := ⟨w.heap.size, 8, none⟩) (by show w.heap.size + 1 ≠ w.heap.size; omega) (.slice A6 n6 c6))
  have HO6 := Lib.hid (show Rg.OwnG KE (w6.setCell ⟨w.heap.size, 8, none⟩ (.slice A6 n6 c6)) w5.heap.size A6 n6 c6 bk from ho6.keep (fun k hk => Below.heap_setCell _ _ _ _ (by have := (ho6.2.lt k hk).1; show k ≠ w.heap.size; omega)))
  have HO4 := Lib.hid (show Rg.OwnG KC (w6.setCell ⟨w.heap.size, 8, none⟩ (.slice A6 n6 c6)) w1.heap.size A4 n4 c4 cs from (HO4.out.below hb6 (Nat.le_refl _)).keep (fun k hk => Below.heap_setCell _ _ _ _ (by have := (HO4.out.2.lt k hk).1; show k ≠ w.heap.size; omega)))
  have HB := Lib.hid (show Below w.heap.size w (w6.setCell ⟨w.heap.size, 8, none⟩ (.slice A6 n6 c6)) from (HB.out.trans (hb6.mono HB.out.size)).setCell (Nat.le_refl _) _)
  have hs1 : w.heap.size ≤ w1.heap.size := by omega
  have hs5 : w.heap.size ≤ w5.heap.size := by omega
  clear HMO ho6 hb6
  generalize (w6.setCell ⟨w.heap.size, 8, none⟩ (.slice A6 n6 c6)) = w7 at HX HZ HO4 HO6 HB ⊢
  obtain ⟨x0, x1, x2, x3, x4, x5, x6, x7, x8⟩ := HX.out.cs
  obtain ⟨y0, y1, y2, y3, y4, y5, y6, y7, y8⟩ := HZ.out.cs
  have f0 := HZ.out.frozen 0; have f1 := HZ.out.frozen 1; have f2 := HZ.out.frozen 2; have f3 := HZ.out.frozen 3; have f4 := HZ.out.frozen 4; have f5 := HZ.out.frozen 5; have f6 := HZ.out.frozen 6; have f7 := HZ.out.frozen 7; have f8 := HZ.out.frozen 8
  simp only at x0 x1 x2 x3 x4 x5 x6 x7 x8
  simp only [zeroM] at y0 y1 y2 y3 y4 y5 y6 y7 y8
  go_wp2
  refine bodyPost_ret (results_msg (g := w.heap.size + 1) (m := ⟨kd, sr, ds, ic, sq, va, vd, cs, bk⟩) (s := ⟨A4, n4, c4⟩) (t := ⟨A6, n6, c6⟩) rfl rfl (HZ.out.put ⟨kd, sr, ds, ic, sq, va, vd, cs, bk⟩ ⟨A4, n4, c4⟩ ⟨A6, n6, c6⟩)) rfl ?_
  refine ⟨⟨A4, n4, c4⟩, ⟨A6, n6, c6⟩, rfl, ?_, ?_, ?_⟩
  · exact (HO4.out.keep (fun k hk => chain9 (by have := (HO4.out.2.lt k hk).1; omega))).base hs1
  · exact (HO6.out.keep (fun k hk => chain9 (by have := (HO6.out.2.lt k hk).1; omega))).base hs5
  · exact ((((((((HB.out.setCell (by simp) _).setCell (by simp) _).setCell (by simp) _).setCell (by simp) _).setCell (by simp) _).setCell (by simp) _).setCell (by simp) _).setCell (by simp) _).setCell (by simp) _
end Go.Proofs.Ytldfccllpnplmaa.Msw

namespace Go.Proofs.Ytldfccllpnplmaa.Msw
set_option maxRecDepth 20000
open Go.RowKit
open Cl Bk Ms Clw Bkw
open Chgw (hat hbe ret_bool vw)
open Rg (bal)

def cellsB (m : M) : Bool := if m.kind = 1 ∨ m.kind = 5 then isCl m.cells else decide (m.cells.length = 0)
def bookB (m : M) : Bool := if m.kind = 3 ∨ m.kind = 6 then isBook m.book else decide (m.book.length = 0)
theorem right_eq (m : M) : rightM m = ((headM m && rvC m.va m.vd) && (cellsB m && bookB m)) := by
  have hc : m.cells.length = 0 → isCl m.cells = true := fun h => by rw [List.eq_nil_of_length_eq_zero h]; rfl
  have hb : m.book.length = 0 → isBook m.book = true := fun h => by rw [List.eq_nil_of_length_eq_zero h]; rfl
  unfold rightM listsM kindsM cellsB bookB
  rw [Bool.eq_iff_iff]
  simp only [Bool.and_eq_true, Bool.or_eq_true, decide_eq_true_iff]
  by_cases h1 : m.kind = 1 ∨ m.kind = 5
  · rw [if_pos h1, if_neg (by omega), decide_eq_true_iff]
    constructor
    · rintro ⟨a, ⟨b, c, d⟩, _, e⟩; exact ⟨⟨a, b⟩, c, e.resolve_left (by omega)⟩
    · rintro ⟨⟨a, b⟩, c, d⟩; exact ⟨a, ⟨b, c, hb d⟩, Or.inl h1, Or.inr d⟩
  · rw [if_neg h1, decide_eq_true_iff]
    by_cases h2 : m.kind = 3 ∨ m.kind = 6
    · rw [if_pos h2]
      constructor
      · rintro ⟨a, ⟨b, c, d⟩, e, _⟩; exact ⟨⟨a, b⟩, e.resolve_left h1, d⟩
      · rintro ⟨⟨a, b⟩, c, d⟩; exact ⟨a, ⟨b, hc c, d⟩, Or.inr c, Or.inl h2⟩
    · rw [if_neg h2, decide_eq_true_iff]
      constructor
      · rintro ⟨a, ⟨b, c, d⟩, e, f⟩; exact ⟨⟨a, b⟩, e.resolve_left h1, f.resolve_left h2⟩
      · rintro ⟨⟨a, b⟩, c, d⟩; exact ⟨a, ⟨b, hc c, hb d⟩, Or.inr c, Or.inr d⟩
theorem node_c (d : Int) (w : World) : Calls Try.prog 54 #[.int .i64 d] w fun e w' => e = .returned (.bool (decide (0 ≤ d ∧ d ≤ 5))) ∧ w = w' := by
  go_enter Try.func54, Try.ntmps54
  go_wp2
  all_goals go_ret
  all_goals refine ⟨ret_bool ?_, rfl⟩
  all_goals
    rw [Bool.eq_iff_iff]
    simp only [Bool.and_eq_true, decide_eq_true_eq, Bool.false_eq_true, false_iff]
    omega
theorem head_eq (m : M) : headM m = (decide (0 ≤ m.kind ∧ m.kind ≤ 7) && ((decide (0 ≤ m.src ∧ m.src ≤ 5) && decide (0 ≤ m.dst ∧ m.dst ≤ 5)) && decide ((1 ≤ m.inc ∧ m.inc ≤ 1000000) ∧ 1 ≤ m.seq ∧ m.seq ≤ 1000000))) := by
  unfold headM
  rw [Bool.eq_iff_iff]
  simp only [Bool.and_eq_true, decide_eq_true_iff]
  constructor
  · rintro ⟨a, b, c, d, e⟩; exact ⟨a, ⟨b, c⟩, d, e⟩
  · rintro ⟨a, ⟨b, c⟩, d, e⟩; exact ⟨a, b, c, d, e⟩
set_option maxHeartbeats 4000000 in
set_option maxRecDepth 100000 in
theorem head_c (m : M) (s t : S3) (w : World) : Calls Try.prog 24 #[mvv m s t] w fun e w' => e = .returned (.bool (headM m && rvC m.va m.vd)) ∧ Below w.heap.size w w' := by
  have HE := Lib.hid (head_eq m)
  have HR := Lib.hid (fun W => Chgw.right_c m.va m.vd W)
  rw [rv_right] at HR
  unfold Chgw.vw at HR
  have HN1 := Lib.hid (fun W => node_c m.src W)
  have HN2 := Lib.hid (fun W => node_c m.dst W)
  generalize headM m = r at HE ⊢
  generalize rvC m.va m.vd = rv at HR ⊢
  obtain ⟨kd, sr, ds, ic, sq, va, vd, cs, bk⟩ := m
  simp only at HE HR HN1 HN2
  unfold mvv
  simp only
  generalize decide (0 ≤ sr ∧ sr ≤ 5) = b1 at HE HN1
  generalize decide (0 ≤ ds ∧ ds ≤ 5) = b2 at HE HN2
  go_enter Try.func24, Try.ntmps24
  go_upto_region 1 with (fail)
  have HB := Lib.hid (bal (Below.refl w.heap.size w) (Nat.le_refl _) (.cells #[.int .i64 kd, .int .i64 sr, .int .i64 ds, .int .i64 ic, .int .i64 sq, .int .i64 va, .int .i64 vd, .slice s.a s.n s.c, .slice t.a t.n t.c] 29))
  have HX := Lib.hid (show Mx (w.alloc (.cells #[.int .i64 kd, .int .i64 sr, .int .i64 ds, .int .i64 ic, .int .i64 sq, .int .i64 va, .int .i64 vd, .slice s.a s.n s.c, .slice t.a t.n t.c] 29)) w.heap.size ⟨kd, sr, ds, ic, sq, va, vd, cs, bk⟩ s t from hat _ _ _ rfl)
  generalize w.alloc (.cells #[.int .i64 kd, .int .i64 sr, .int .i64 ds, .int .i64 ic, .int .i64 sq, .int .i64 va, .int .i64 vd, .slice s.a s.n s.c, .slice t.a t.n t.c] 29) = w1 at HX HB ⊢
  generalize hgx : w.heap.size = gx at HX ⊢
  have HGX := Lib.hid hgx; clear hgx
  obtain ⟨x0, x1, x2, x3, x4, x5, x6, _, _⟩ := HX.out.cs
  simp only at x0 x1 x2 x3 x4 x5 x6
  have HKV : Hid (decide (0 ≤ kd ∧ kd ≤ 7) = true ∨ decide (0 ≤ kd ∧ kd ≤ 7) = false) := Lib.hid (by cases decide (0 ≤ kd ∧ kd ≤ 7) <;> simp)
  have HKD : Hid (∀ fb : Bool, fb = decide (0 ≤ kd ∧ kd ≤ 7) → r = (fb && ((b1 && b2) && decide ((1 ≤ ic ∧ ic ≤ 1000000) ∧ 1 ≤ sq ∧ sq ≤ 1000000)))) := Lib.hid (fun fb h => by rw [HE.out, h])
  clear HE HKV
  go_cut [3] (fun s3 wq => ∃ fb : Bool, s3 = .bool fb ∧ fb = decide (0 ≤ kd ∧ kd ≤ 7) ∧ wq = w1)
  case first =>
    clear HKD HR HN1 HN2 HX HB HGX x1 x2 x3 x4 x5 x6
    by_cases h0 : 0 ≤ kd
    · by_cases h7 : kd ≤ 7
      · go_wp2; go_meet; case rel => exact ⟨true, rfl, (decide_eq_true ⟨h0, h7⟩).symm, rfl⟩
      · go_wp2; go_meet; case rel => exact ⟨false, rfl, (decide_eq_false (by omega)).symm, rfl⟩
    · go_wp2; go_meet; case rel => exact ⟨false, rfl, (decide_eq_false (by omega)).symm, rfl⟩
  case rest =>
  obtain ⟨fb, rfl, hfb, rfl⟩ := hcut
  have HE := Lib.hid (HKD.out fb hfb)
  clear HKD hfb
  go_upto_region 2 with (fail)
  go_cut [4] (fun s4 wq => ∃ nb : Bool, s4 = .bool nb ∧ nb = (b1 && b2) ∧ wq = wc)
  case first =>
    clear HE HR HX HB HGX x0 x3 x4 x5 x6
    go_wp2_with fail
    refine (HN1.out _).mono ?_
    rintro e w2 ⟨rfl, rfl⟩
    cases b1 with
    | false => go_wp2; go_meet; case rel => exact ⟨false, rfl, rfl, rfl⟩
    | true =>
    go_wp2_with fail
    refine (HN2.out _).mono ?_
    rintro e w2 ⟨rfl, rfl⟩
    go_wp2; go_meet; case rel => exact ⟨b2, rfl, (Bool.true_and _).symm, rfl⟩
  case rest =>
    obtain ⟨nb, rfl, hnb, rfl⟩ := hcut
    have HE := Lib.hid (show r = (fb && (nb && decide ((1 ≤ ic ∧ ic ≤ 1000000) ∧ 1 ≤ sq ∧ sq ≤ 1000000))) from by rw [HE.out, hnb])
    clear hnb HN1 HN2
    cases fb with
    | false => have HF := Lib.hid (show r = false from HE.out); clear HE; go_wp2; go_ret; exact ⟨ret_bool (by rw [HF.out]; rfl), HB.out⟩
    | true =>
    cases nb with
    | false => have HF := Lib.hid (show r = false from HE.out); clear HE; go_wp2; go_ret; exact ⟨ret_bool (by rw [HF.out]; rfl), HB.out⟩
    | true =>
    by_cases h1 : 1 ≤ ic
    case neg => have HF := Lib.hid (show r = false from HE.out.trans (decide_eq_false (by omega))); clear HE; go_wp2; go_ret; exact ⟨ret_bool (by rw [HF.out]; rfl), HB.out⟩
    by_cases h2 : ic ≤ 1000000
    case neg => have HF := Lib.hid (show r = false from HE.out.trans (decide_eq_false (by omega))); clear HE; go_wp2; go_ret; exact ⟨ret_bool (by rw [HF.out]; rfl), HB.out⟩
    by_cases h3 : 1 ≤ sq
    case neg => have HF := Lib.hid (show r = false from HE.out.trans (decide_eq_false (by omega))); clear HE; go_wp2; go_ret; exact ⟨ret_bool (by rw [HF.out]; rfl), HB.out⟩
    by_cases h4 : sq ≤ 1000000
    case neg => have HF := Lib.hid (show r = false from HE.out.trans (decide_eq_false (by omega))); clear HE; go_wp2; go_ret; exact ⟨ret_bool (by rw [HF.out]; rfl), HB.out⟩
    have HF := Lib.hid (show r = true from HE.out.trans (decide_eq_true (by omega))); clear HE
    go_wp2_with fail
    refine (HR.out _).mono ?_
    rintro e w3 ⟨rfl, hb⟩
    have HB := Lib.hid (HB.out.trans (hb.mono HB.out.size)); clear hb
    go_wp2; go_ret; exact ⟨ret_bool (by rw [HF.out]; rfl), HB.out⟩
set_option maxHeartbeats 2000000 in
theorem rcells_c (m : M) (s t : S3) (w : World) (h : Mo w m s t) : Calls Try.prog 25 #[mvv m s t] w fun e w' => e = .returned (.bool (cellsB m)) ∧ Below w.heap.size w w' := by
  have HMO := Lib.hid h; clear h
  have HY : Hid (m.kind = 1 ∨ m.kind = 5 → cellsB m = isCl m.cells) := Lib.hid (fun h => if_pos h)
  have HN : Hid (¬ (m.kind = 1 ∨ m.kind = 5) → cellsB m = decide (s.n = 0)) := Lib.hid (fun h => by unfold cellsB; rw [if_neg h, HMO.out.1.1])
  generalize cellsB m = r at HY HN ⊢
  obtain ⟨kd, sr, ds, ic, sq, va, vd, cs, bk⟩ := m
  simp only at HY HN
  unfold mvv
  simp only
  go_enter Try.func25, Try.ntmps25
  go_upto_region 1 with (fail)
  have HB := Lib.hid (bal (Below.refl w.heap.size w) (Nat.le_refl _) (.cells #[.int .i64 kd, .int .i64 sr, .int .i64 ds, .int .i64 ic, .int .i64 sq, .int .i64 va, .int .i64 vd, .slice s.a s.n s.c, .slice t.a t.n t.c] 29))
  have HX := Lib.hid (show Mx (w.alloc (.cells #[.int .i64 kd, .int .i64 sr, .int .i64 ds, .int .i64 ic, .int .i64 sq, .int .i64 va, .int .i64 vd, .slice s.a s.n s.c, .slice t.a t.n t.c] 29)) w.heap.size ⟨kd, sr, ds, ic, sq, va, vd, cs, bk⟩ s t from hat _ _ _ rfl)
  have HMO := Lib.hid (HMO.out.all HB.out)
  generalize w.alloc (.cells #[.int .i64 kd, .int .i64 sr, .int .i64 ds, .int .i64 ic, .int .i64 sq, .int .i64 va, .int .i64 vd, .slice s.a s.n s.c, .slice t.a t.n t.c] 29) = w1 at HX HB HMO ⊢
  generalize hgx : w.heap.size = gx at HX ⊢
  have HGX := Lib.hid hgx; clear hgx
  obtain ⟨x0, _, _, _, _, _, _, x7, _⟩ := HX.out.cs
  simp only at x0 x7
  by_cases hk : kd = 1 ∨ kd = 5
  · have HE := Lib.hid (HY.out hk)
    clear HY HN
    have HC := Lib.hid (check_c s.a s.n s.c cs w1 HMO.out.1)
    rcases hk with rfl | rfl
    · go_wp2_with fail
      refine HC.out.mono ?_
      rintro e w3 ⟨rfl, hb⟩
      have HB := Lib.hid (HB.out.trans (hb.mono HB.out.size)); clear hb
      cases hv : isCl cs with
      | true => rw [show chkM cs = 0 from by unfold chkM; rw [hv]; rfl]; go_wp2; go_ret; exact ⟨ret_bool (by rw [HE.out, hv]), HB.out⟩
      | false => rw [show chkM cs = 101 from by unfold chkM; rw [hv]; rfl]; go_wp2; go_ret; exact ⟨ret_bool (by rw [HE.out, hv]), HB.out⟩
    · go_wp2_with fail
      refine HC.out.mono ?_
      rintro e w3 ⟨rfl, hb⟩
      have HB := Lib.hid (HB.out.trans (hb.mono HB.out.size)); clear hb
      cases hv : isCl cs with
      | true => rw [show chkM cs = 0 from by unfold chkM; rw [hv]; rfl]; go_wp2; go_ret; exact ⟨ret_bool (by rw [HE.out, hv]), HB.out⟩
      | false => rw [show chkM cs = 101 from by unfold chkM; rw [hv]; rfl]; go_wp2; go_ret; exact ⟨ret_bool (by rw [HE.out, hv]), HB.out⟩
  · have HE := Lib.hid (HN.out hk)
    clear HY HN
    have q1 : (kd != 1) = true := by rw [bne_iff_ne]; omega
    have q5 : (kd != 5) = true := by rw [bne_iff_ne]; omega
    clear hk
    obtain ⟨sa, sn, sc⟩ := s
    simp only at x7 HE
    cases sn with
    | zero => go_wp2; go_ret; exact ⟨ret_bool (by rw [HE.out]; rfl), HB.out⟩
    | succ j => have hj : (((j + 1 : Nat) : Int) == 0) = false := by rw [beq_eq_false_iff_ne]; omega
                go_wp2; go_ret; exact ⟨ret_bool (by rw [HE.out]; rfl), HB.out⟩
set_option maxHeartbeats 2000000 in
theorem rbook_c (m : M) (s t : S3) (w : World) (h : Mo w m s t) : Calls Try.prog 26 #[mvv m s t] w fun e w' => e = .returned (.bool (bookB m)) ∧ Below w.heap.size w w' := by
  have HMO := Lib.hid h; clear h
  have HY : Hid (m.kind = 3 ∨ m.kind = 6 → bookB m = isBook m.book) := Lib.hid (fun h => if_pos h)
  have HN : Hid (¬ (m.kind = 3 ∨ m.kind = 6) → bookB m = decide (t.n = 0)) := Lib.hid (fun h => by unfold bookB; rw [if_neg h, HMO.out.2.1])
  generalize bookB m = r at HY HN ⊢
  obtain ⟨kd, sr, ds, ic, sq, va, vd, cs, bk⟩ := m
  simp only at HY HN
  unfold mvv
  simp only
  go_enter Try.func26, Try.ntmps26
  go_upto_region 1 with (fail)
  have HB := Lib.hid (bal (Below.refl w.heap.size w) (Nat.le_refl _) (.cells #[.int .i64 kd, .int .i64 sr, .int .i64 ds, .int .i64 ic, .int .i64 sq, .int .i64 va, .int .i64 vd, .slice s.a s.n s.c, .slice t.a t.n t.c] 29))
  have HX := Lib.hid (show Mx (w.alloc (.cells #[.int .i64 kd, .int .i64 sr, .int .i64 ds, .int .i64 ic, .int .i64 sq, .int .i64 va, .int .i64 vd, .slice s.a s.n s.c, .slice t.a t.n t.c] 29)) w.heap.size ⟨kd, sr, ds, ic, sq, va, vd, cs, bk⟩ s t from hat _ _ _ rfl)
  have HMO := Lib.hid (HMO.out.all HB.out)
  generalize w.alloc (.cells #[.int .i64 kd, .int .i64 sr, .int .i64 ds, .int .i64 ic, .int .i64 sq, .int .i64 va, .int .i64 vd, .slice s.a s.n s.c, .slice t.a t.n t.c] 29) = w1 at HX HB HMO ⊢
  generalize hgx : w.heap.size = gx at HX ⊢
  have HGX := Lib.hid hgx; clear hgx
  obtain ⟨x0, _, _, _, _, _, _, _, x8⟩ := HX.out.cs
  simp only at x0 x8
  by_cases hk : kd = 3 ∨ kd = 6
  · have HE := Lib.hid (HY.out hk)
    clear HY HN
    have HC := Lib.hid (Bkw.check_c t.a t.n t.c bk w1 HMO.out.2)
    rcases hk with rfl | rfl
    · go_wp2_with fail
      refine HC.out.mono ?_
      rintro e w3 ⟨rfl, hb⟩
      have HB := Lib.hid (HB.out.trans (hb.mono HB.out.size)); clear hb
      cases hv : isBook bk with
      | true => rw [show chkN bk = 0 from by unfold chkN; rw [hv]; rfl]; go_wp2; go_ret; exact ⟨ret_bool (by rw [HE.out, hv]), HB.out⟩
      | false => rw [show chkN bk = 71 from by unfold chkN; rw [hv]; rfl]; go_wp2; go_ret; exact ⟨ret_bool (by rw [HE.out, hv]), HB.out⟩
    · go_wp2_with fail
      refine HC.out.mono ?_
      rintro e w3 ⟨rfl, hb⟩
      have HB := Lib.hid (HB.out.trans (hb.mono HB.out.size)); clear hb
      cases hv : isBook bk with
      | true => rw [show chkN bk = 0 from by unfold chkN; rw [hv]; rfl]; go_wp2; go_ret; exact ⟨ret_bool (by rw [HE.out, hv]), HB.out⟩
      | false => rw [show chkN bk = 71 from by unfold chkN; rw [hv]; rfl]; go_wp2; go_ret; exact ⟨ret_bool (by rw [HE.out, hv]), HB.out⟩
  · have HE := Lib.hid (HN.out hk)
    clear HY HN
    have q1 : (kd != 3) = true := by rw [bne_iff_ne]; omega
    have q5 : (kd != 6) = true := by rw [bne_iff_ne]; omega
    clear hk
    obtain ⟨ta, tn, tc⟩ := t
    simp only at x8 HE
    cases tn with
    | zero => go_wp2; go_ret; exact ⟨ret_bool (by rw [HE.out]; rfl), HB.out⟩
    | succ j => have hj : (((j + 1 : Nat) : Int) == 0) = false := by rw [beq_eq_false_iff_ne]; omega
                go_wp2; go_ret; exact ⟨ret_bool (by rw [HE.out]; rfl), HB.out⟩
set_option maxHeartbeats 2000000 in
theorem right_c (m : M) (s t : S3) (w : World) (h : Mo w m s t) : Calls Try.prog 11 #[mvv m s t] w fun e w' => e = .returned (.bool (rightM m)) ∧ Below w.heap.size w w' := by
  have HMO := Lib.hid h; clear h
  have HE := Lib.hid (right_eq m)
  have HH := Lib.hid (fun W => head_c m s t W)
  have HC := Lib.hid (fun W h => rcells_c m s t W h)
  have HK := Lib.hid (fun W h => rbook_c m s t W h)
  generalize rightM m = r at HE ⊢
  generalize (headM m && rvC m.va m.vd) = b1 at HE HH
  generalize cellsB m = b2 at HE HC
  generalize bookB m = b3 at HE HK
  obtain ⟨kd, sr, ds, ic, sq, va, vd, cs, bk⟩ := m
  unfold mvv at HH HC HK ⊢
  simp only at HH HC HK ⊢
  go_enter Try.func11, Try.ntmps11
  go_upto_region 1 with (fail)
  have HB := Lib.hid (bal (Below.refl w.heap.size w) (Nat.le_refl _) (.cells #[.int .i64 kd, .int .i64 sr, .int .i64 ds, .int .i64 ic, .int .i64 sq, .int .i64 va, .int .i64 vd, .slice s.a s.n s.c, .slice t.a t.n t.c] 29))
  have HX := Lib.hid (show Mx (w.alloc (.cells #[.int .i64 kd, .int .i64 sr, .int .i64 ds, .int .i64 ic, .int .i64 sq, .int .i64 va, .int .i64 vd, .slice s.a s.n s.c, .slice t.a t.n t.c] 29)) w.heap.size ⟨kd, sr, ds, ic, sq, va, vd, cs, bk⟩ s t from hat _ _ _ rfl)
  have HMO := Lib.hid (HMO.out.all HB.out)
  generalize w.alloc (.cells #[.int .i64 kd, .int .i64 sr, .int .i64 ds, .int .i64 ic, .int .i64 sq, .int .i64 va, .int .i64 vd, .slice s.a s.n s.c, .slice t.a t.n t.c] 29) = w1 at HX HB HMO ⊢
  generalize hgx : w.heap.size = gx at HX ⊢
  have HGX := Lib.hid hgx; clear hgx
  obtain ⟨x0, x1, x2, x3, x4, x5, x6, x7, x8⟩ := HX.out.cs
  simp only at x0 x1 x2 x3 x4 x5 x6 x7 x8
  go_wp2_with fail
  refine (HH.out _).mono ?_
  rintro e w2 ⟨rfl, hb⟩
  have HX := Lib.hid (HX.out.all hb); have HMO := Lib.hid (HMO.out.all hb)
  have HB := Lib.hid (HB.out.trans (hb.mono HB.out.size)); clear hb x0 x1 x2 x3 x4 x5 x6 x7 x8
  cases b1 with
  | false => go_wp2; go_ret; exact ⟨ret_bool (by rw [HE.out]; rfl), HB.out⟩
  | true =>
  obtain ⟨x0, x1, x2, x3, x4, x5, x6, x7, x8⟩ := HX.out.cs
  simp only at x0 x1 x2 x3 x4 x5 x6 x7 x8
  go_wp2_with fail
  refine (HC.out _ HMO.out).mono ?_
  rintro e w3 ⟨rfl, hb⟩
  have HX := Lib.hid (HX.out.all hb); have HMO := Lib.hid (HMO.out.all hb)
  have HB := Lib.hid (HB.out.trans (hb.mono HB.out.size)); clear hb x0 x1 x2 x3 x4 x5 x6 x7 x8
  cases b2 with
  | false => go_wp2; go_ret; exact ⟨ret_bool (by rw [HE.out]; rfl), HB.out⟩
  | true =>
  obtain ⟨x0, x1, x2, x3, x4, x5, x6, x7, x8⟩ := HX.out.cs
  simp only at x0 x1 x2 x3 x4 x5 x6 x7 x8
  go_wp2_with fail
  refine (HK.out _ HMO.out).mono ?_
  rintro e w4 ⟨rfl, hb⟩
  have HB := Lib.hid (HB.out.trans (hb.mono HB.out.size)); clear hb x0 x1 x2 x3 x4 x5 x6 x7 x8
  go_wp2; go_ret; exact ⟨ret_bool (by rw [HE.out]; rfl), HB.out⟩
end Go.Proofs.Ytldfccllpnplmaa.Msw

namespace Go.Proofs.Ytldfccllpnplmaa.Msw
set_option maxRecDepth 20000
open Go.RowKit
open Cl Bk Ms Clw Bkw
open Chgw (hat hbe ret_bool vw)
open Rg (bal)

theorem same_get (es fs : List C) : sameC es fs = true ↔ es.length = fs.length ∧ ∀ (i : Nat) x y, es[i]? = some x → fs[i]? = some y → (x.1 == y.1 && (x.2.1 == y.2.1 && x.2.2 == y.2.2)) = true := by
  rw [sameC_eq]
  constructor
  · rintro rfl
    refine ⟨rfl, fun i x y hx hy => ?_⟩
    rw [hx] at hy
    cases hy
    simp
  · rintro ⟨hl, h⟩
    apply List.ext_getElem hl
    intro i h1 h2
    have := h i _ _ (List.getElem?_eq_getElem h1) (List.getElem?_eq_getElem h2)
    simp only [Bool.and_eq_true, beq_iff_eq] at this
    exact Prod.ext this.1 (Prod.ext this.2.1 this.2.2)
set_option maxHeartbeats 2000000 in
theorem equal_cells (A : Option Addr) (n c : Nat) (es : List C) (A2 : Option Addr) (n2 c2 : Nat) (fs : List C) (w : World) (h : Sc w A n c es) (h2 : Sc w A2 n2 c2 fs) :
    Calls Try.prog 36 #[.slice A n c, .slice A2 n2 c2] w fun e w' => e = .returned (.bool (sameC es fs)) ∧ Below w.heap.size w w' := by
  have hn := h.1
  have hn2 := h2.1
  have hl : n * 24 ≤ 140737488355328 := h.2.2.1
  have HN := Lib.hid hn; have HN2 := Lib.hid hn2
  have HR := Lib.hid h.2.2.2; have HR2 := Lib.hid h2.2.2.2
  clear h h2
  by_cases hnn : n = n2
  · subst hnn
    have HF : Hid (∀ (i : Nat) x y, es[i]? = some x → fs[i]? = some y → (x.1 == y.1 && (x.2.1 == y.2.1 && x.2.2 == y.2.2)) = false → sameC es fs = false) := Lib.hid (fun i x y hx hy h => by
      rw [← Bool.not_eq_true, same_get]
      rintro ⟨_, h'⟩
      rw [h' i x y hx hy] at h
      cases h)
    have HT : Hid ((∀ (i : Nat) x y, i < n → es[i]? = some x → fs[i]? = some y → (x.1 == y.1 && (x.2.1 == y.2.1 && x.2.2 == y.2.2)) = true) → sameC es fs = true) := Lib.hid (fun h => (same_get es fs).2 ⟨by rw [← hn, ← hn2], fun i x y hx hy => h i x y (by
      rw [hn]
      rcases Nat.lt_or_ge i es.length with h' | h'
      · exact h'
      · rw [List.getElem?_eq_none h'] at hx; cases hx) hx hy⟩)
    generalize sameC es fs = r at HF HT ⊢
    clear hn hn2
    go_enter Try.func36, Try.ntmps36
    go_wp2
    go_loopw [13] (fun i wr => ∃ k : Nat, i = .int .i64 k ∧ k ≤ n ∧ (∀ (i : Nat) x y, i < k → es[i]? = some x → fs[i]? = some y → (x.1 == y.1 && (x.2.1 == y.2.1 && x.2.2 == y.2.2)) = true) ∧ Below w.heap.size w wr) (fun i _ => n - (intOf i).toNat)
    case atStart => exact ⟨0, rfl, by omega, fun i x y hi => by omega, Below.refl _ _⟩
    case round =>
      obtain ⟨k, rfl, hk, hall, hb⟩ := hrel
      have HB := Lib.hid hb; have HA := Lib.hid hall
      have hsz := hb.size
      clear hb hall
      by_cases h : k < n
      · obtain ⟨b, o, rfl, hbB, hcell⟩ := HR.out (by rw [← HN.out]; omega)
        obtain ⟨b2, o2, rfl, hbB2, hcell2⟩ := HR2.out (by rw [← HN2.out]; omega)
        have hkl : k < es.length := by rw [← HN.out]; exact h
        have hkl2 : k < fs.length := by rw [← HN2.out]; exact h
        have hz : es[k]? = some es[k] := List.getElem?_eq_getElem hkl
        have hz2 : fs[k]? = some fs[k] := List.getElem?_eq_getElem hkl2
        have hc0 := (tri_at (hcell k es[k] hz)).below HB.out hbB
        have hc1 := (tri_at (hcell2 k fs[k] hz2)).below HB.out hbB2
        generalize es[k] = x at hz hc0
        generalize fs[k] = y at hz2 hc1
        obtain ⟨xk, xa, xd⟩ := x
        obtain ⟨yk, ya, yd⟩ := y
        rw [show KC.k = 3 from rfl] at hc0 hc1
        have HX := Lib.hid hz; have HY := Lib.hid hz2
        have HQ : Hid (∀ W', Below wr.heap.size wr W' → Tri W' b (o + k * 3) (xk, xa, xd) ∧ Tri W' b2 (o2 + k * 3) (yk, ya, yd)) := Lib.hid (fun W' h => ⟨hc0.below h (by omega), hc1.below h (by omega)⟩)
        have HEQ : Hid (∀ W : World, (if xk = yk then if xa = ya then if xd = yd then Result.ok (Next.value (.bool false)) W else Result.ok (Next.value (.bool true)) W else Result.ok (Next.value (.bool true)) W else Result.ok (Next.value (.bool true)) W) = Result.ok (Next.value (.bool (!(xk == yk && (xa == ya && xd == yd))))) W) := Lib.hid (fun W => by
          by_cases h1 : xk = yk <;> by_cases h2 : xa = ya <;> by_cases h3 : xd = yd <;> simp [h1, h2, h3])
        have HSTEP : Hid ((xk == yk && (xa == ya && xd == yd)) = true → ∀ (j : Nat) x y, j < k + 1 → es[j]? = some x → fs[j]? = some y → (x.1 == y.1 && (x.2.1 == y.2.1 && x.2.2 == y.2.2)) = true) := Lib.hid (fun he j u v hj hu hv => by
          rcases Nat.lt_or_ge j k with h' | h'
          · exact HA.out j u v h' hu hv
          · obtain rfl : j = k := by omega
            rw [hz] at hu
            rw [hz2] at hv
            cases hu; cases hv
            exact he)
        have HFF := Lib.hid (HF.out k _ _ hz hz2)
        simp only at HFF
        clear hz hz2 hc0 hc1 hcell hcell2 hkl hkl2
        generalize (xk == yk && (xa == ya && xd == yd)) = q at HEQ HSTEP HFF
        go_upto_region 6 with (fail)
        refine wp_region_held_drew (S := fun W' => Below wr.heap.size wr W') (by kernel_rfl) (Below.refl _ _).drew (fun hHeld => ?_)
        generalize wr.drew = w5 at hHeld ⊢
        have HB5 : Hid (Below wr.heap.size wr w5) := hHeld
        clear hHeld
        refine take_in (i := 0) (oi := ⟨_, _, _, _, _, _⟩) (v := ?_) rfl (by kernel_rfl) (by kernel_rfl) (by kernel_rfl) (fun _ _ _ h => h) (by rfl) ?_ HB5.out ?_
        rotate_left
        · intro W hW; have hq := HQ.out W hW; obtain ⟨⟨q0, q1, q2⟩, p0, p1, p2⟩ := hq; go_simp; with_reducible rfl
        simp only [Act.put, List.setIfInBounds_toArray, List.set_cons_zero, List.set_cons_succ]
        refine take_in (i := 1) (oi := ⟨_, _, _, _, _, _⟩) (v := ?_) rfl (by kernel_rfl) (by kernel_rfl) (by kernel_rfl) (fun _ _ _ h => h) (by rfl) ?_ HB5.out ?_
        rotate_left
        · intro W hW; have hq := HQ.out W hW; obtain ⟨⟨q0, q1, q2⟩, p0, p1, p2⟩ := hq; go_simp; with_reducible rfl
        simp only [Act.put, List.setIfInBounds_toArray, List.set_cons_zero, List.set_cons_succ]
        refine take_in (i := 2) (oi := ⟨_, _, _, _, _, _⟩) (v := ?_) rfl (by kernel_rfl) (by kernel_rfl) (by kernel_rfl) (fun _ _ _ h => h) (by rfl) ?_ HB5.out ?_
        rotate_left
        · intro W hW; have hq := HQ.out W hW; obtain ⟨⟨q0, q1, q2⟩, p0, p1, p2⟩ := hq; go_simp; with_reducible rfl
        simp only [Act.put, List.setIfInBounds_toArray, List.set_cons_zero, List.set_cons_succ]
        refine take_in (i := 3) (oi := ⟨_, _, _, _, _, _⟩) (v := ?_) rfl (by kernel_rfl) (by kernel_rfl) (by kernel_rfl) (fun _ _ _ h => h) (by rfl) ?_ HB5.out ?_
        rotate_left
        · intro W hW; have hq := HQ.out W hW; obtain ⟨⟨q0, q1, q2⟩, p0, p1, p2⟩ := hq; go_simp; with_reducible rfl
        simp only [Act.put, List.setIfInBounds_toArray, List.set_cons_zero, List.set_cons_succ]
        refine take_in (i := 4) (oi := ⟨_, _, _, _, _, _⟩) (v := ?_) rfl (by kernel_rfl) (by kernel_rfl) (by kernel_rfl) (fun _ _ _ h => h) (by rfl) ?_ HB5.out ?_
        rotate_left
        · intro W hW; have hq := HQ.out W hW; obtain ⟨⟨q0, q1, q2⟩, p0, p1, p2⟩ := hq; go_simp; with_reducible rfl
        simp only [Act.put, List.setIfInBounds_toArray, List.set_cons_zero, List.set_cons_succ]
        refine take_in (i := 5) (oi := ⟨_, _, _, _, _, _⟩) (v := ?_) rfl (by kernel_rfl) (by kernel_rfl) (by kernel_rfl) (fun _ _ _ h => h) (by rfl) ?_ HB5.out ?_
        rotate_left
        · intro W hW; have hq := HQ.out W hW; obtain ⟨⟨q0, q1, q2⟩, p0, p1, p2⟩ := hq; go_simp; with_reducible rfl
        simp only [Act.put, List.setIfInBounds_toArray, List.set_cons_zero, List.set_cons_succ]
        refine take_in (i := 6) (oi := ⟨_, _, _, _, _, _⟩) (v := ?_) rfl (by kernel_rfl) (by kernel_rfl) (by kernel_rfl) (fun _ _ _ h => h) (by rfl) ?_ HB5.out ?_
        rotate_left
        · intro W hW; have hq := HQ.out W hW; obtain ⟨⟨q0, q1, q2⟩, p0, p1, p2⟩ := hq; go_simp; with_reducible rfl
        simp only [Act.put, List.setIfInBounds_toArray, List.set_cons_zero, List.set_cons_succ]
        refine take_in (i := 7) (oi := ⟨_, _, _, _, _, _⟩) (v := ?_) rfl (by kernel_rfl) (by kernel_rfl) (by kernel_rfl) (fun _ _ _ h => h) (by rfl) ?_ HB5.out ?_
        rotate_left
        · intro W hW; have hq := HQ.out W hW; obtain ⟨⟨q0, q1, q2⟩, p0, p1, p2⟩ := hq; go_simp; with_reducible rfl
        simp only [Act.put, List.setIfInBounds_toArray, List.set_cons_zero, List.set_cons_succ]
        refine take_in (i := 8) (oi := ⟨_, _, _, _, _, _⟩) (v := ?_) rfl (by kernel_rfl) (by kernel_rfl) (by kernel_rfl) (fun _ _ _ h => h) (by rfl) ?_ HB5.out ?_
        rotate_left
        · intro W hW; go_simp; refine (HEQ.out W).trans ?_; with_reducible rfl
        simp only [Act.put, List.setIfInBounds_toArray, List.set_cons_zero, List.set_cons_succ]
        refine wpAnyH_done (by kernel_rfl) ?_ _
        cases q with
        | false =>
          have HE := Lib.hid (HFF.out rfl)
          go_wp2
          go_ret
          exact ⟨ret_bool HE.out.symm, HB.out.trans (HB5.out.mono HB.out.size)⟩
        | true =>
          have HE := Lib.hid (HSTEP.out rfl)
          go_wp2
          exact ⟨⟨k + 1, by go_num, by omega, HE.out, HB.out.trans (HB5.out.mono HB.out.size)⟩, by simp [intOf]; omega⟩
      · obtain rfl : k = n := by omega
        have HRT := Lib.hid (HT.out HA.out)
        go_wp2
        go_ret
        exact ⟨ret_bool HRT.out.symm, HB.out⟩
  · have HS : Hid (sameC es fs = false) := Lib.hid (by
      rw [← Bool.not_eq_true, same_get]
      rintro ⟨h1, _⟩
      exact hnn (by rw [hn, hn2, h1]))
    have hq : ((n : Int) != (n2 : Int)) = true := by rw [bne_iff_ne]; omega
    clear hn hn2 hnn
    go_enter Try.func36, Try.ntmps36
    go_wp2
    go_ret
    exact ⟨ret_bool HS.out.symm, Below.refl _ _⟩
theorem same_eq (a b : M) : sameM a b = (((a.kind == b.kind) && ((a.src == b.src) && ((a.dst == b.dst) && ((a.inc == b.inc) && ((a.seq == b.seq) && (a.va == b.va && a.vd == b.vd)))))) && (sameC a.cells b.cells && same a.book b.book)) := by
  unfold sameM intsM
  congr 1
  rw [Bool.eq_iff_iff]
  simp only [Bool.and_eq_true, decide_eq_true_iff, beq_iff_eq]
set_option maxHeartbeats 4000000 in
set_option maxRecDepth 100000 in
theorem same_c (a b : M) (s t s2 t2 : S3) (w : World) (h : Mo w a s t) (h2 : Mo w b s2 t2) : Calls Try.prog 15 #[mvv a s t, mvv b s2 t2] w fun e w' => e = .returned (.bool (sameM a b)) ∧ Below w.heap.size w w' := by
  have heq := Chgw.eq_view
  have HMO := Lib.hid h; have HMP := Lib.hid h2; clear h h2
  have HE := Lib.hid (same_eq a b)
  have HSC : Hid (∀ W, Mo W a s t → Mo W b s2 t2 → Calls Try.prog 36 #[.slice s.a s.n s.c, .slice s2.a s2.n s2.c] W fun e w' => e = .returned (.bool (sameC a.cells b.cells)) ∧ Below W.heap.size W w') := Lib.hid (fun W p q => equal_cells s.a s.n s.c a.cells s2.a s2.n s2.c b.cells W p.1 q.1)
  have HSB : Hid (∀ W, Mo W a s t → Mo W b s2 t2 → Calls Try.prog 37 #[.slice t.a t.n t.c, .slice t2.a t2.n t2.c] W fun e w' => e = .returned (.bool (same a.book b.book)) ∧ Below W.heap.size W w') := Lib.hid (fun W p q => Bkw.same_c t.a t.n t.c a.book t2.a t2.n t2.c b.book W p.2 q.2)
  generalize sameM a b = r at HE ⊢
  generalize sameC a.cells b.cells = c1 at HE HSC
  generalize same a.book b.book = c2 at HE HSB
  obtain ⟨k1, r1, d1, i1, q1, a1, e1, cs1, bk1⟩ := a
  obtain ⟨k2, r2, d2, i2, q2, a2, e2, cs2, bk2⟩ := b
  simp only at HE
  unfold mvv
  simp only
  go_enter Try.func15, Try.ntmps15
  go_upto_region 1 with (fail)
  have HB := Lib.hid (bal (bal (Below.refl w.heap.size w) (Nat.le_refl _) (.cells #[.int .i64 k1, .int .i64 r1, .int .i64 d1, .int .i64 i1, .int .i64 q1, .int .i64 a1, .int .i64 e1, .slice s.a s.n s.c, .slice t.a t.n t.c] 29)) (Nat.le_refl _) (.cells #[.int .i64 k2, .int .i64 r2, .int .i64 d2, .int .i64 i2, .int .i64 q2, .int .i64 a2, .int .i64 e2, .slice s2.a s2.n s2.c, .slice t2.a t2.n t2.c] 29))
  have HX := Lib.hid (show Mx ((w.alloc (.cells #[.int .i64 k1, .int .i64 r1, .int .i64 d1, .int .i64 i1, .int .i64 q1, .int .i64 a1, .int .i64 e1, .slice s.a s.n s.c, .slice t.a t.n t.c] 29)).alloc (.cells #[.int .i64 k2, .int .i64 r2, .int .i64 d2, .int .i64 i2, .int .i64 q2, .int .i64 a2, .int .i64 e2, .slice s2.a s2.n s2.c, .slice t2.a t2.n t2.c] 29)) w.heap.size ⟨k1, r1, d1, i1, q1, a1, e1, cs1, bk1⟩ s t from hbe (hat _ _ _ rfl))
  have HZ := Lib.hid (show Mx ((w.alloc (.cells #[.int .i64 k1, .int .i64 r1, .int .i64 d1, .int .i64 i1, .int .i64 q1, .int .i64 a1, .int .i64 e1, .slice s.a s.n s.c, .slice t.a t.n t.c] 29)).alloc (.cells #[.int .i64 k2, .int .i64 r2, .int .i64 d2, .int .i64 i2, .int .i64 q2, .int .i64 a2, .int .i64 e2, .slice s2.a s2.n s2.c, .slice t2.a t2.n t2.c] 29)) (w.heap.size + 1) ⟨k2, r2, d2, i2, q2, a2, e2, cs2, bk2⟩ s2 t2 from hat _ _ _ (by simp))
  have HMO := Lib.hid (HMO.out.all HB.out); have HMP := Lib.hid (HMP.out.all HB.out)
  generalize ((w.alloc (.cells #[.int .i64 k1, .int .i64 r1, .int .i64 d1, .int .i64 i1, .int .i64 q1, .int .i64 a1, .int .i64 e1, .slice s.a s.n s.c, .slice t.a t.n t.c] 29)).alloc (.cells #[.int .i64 k2, .int .i64 r2, .int .i64 d2, .int .i64 i2, .int .i64 q2, .int .i64 a2, .int .i64 e2, .slice s2.a s2.n s2.c, .slice t2.a t2.n t2.c] 29)) = w1 at HX HZ HB HMO HMP ⊢
  generalize hgx : w.heap.size = gx at HX HZ ⊢
  have HGX := Lib.hid hgx; clear hgx
  obtain ⟨x0, x1, x2, x3, x4, x5, x6, x7, x8⟩ := HX.out.cs
  obtain ⟨y0, y1, y2, y3, y4, y5, y6, y7, y8⟩ := HZ.out.cs
  simp only at x0 x1 x2 x3 x4 x5 x6 x7 x8 y0 y1 y2 y3 y4 y5 y6 y7 y8
  go_cut [5] (fun s5 wq => ∃ fb : Bool, s5 = .bool fb ∧ fb = ((k1 == k2) && ((r1 == r2) && ((d1 == d2) && ((i1 == i2) && ((q1 == q2) && (a1 == a2 && e1 == e2)))))) ∧ wq = w1)
  case first =>
    clear HE HSC HSB HX HZ HB HMO HMP HGX x7 x8 y7 y8
    cases h0 : (k1 == k2) with
    | false => go_wp2; go_meet; case rel => exact ⟨false, rfl, by rw [h0]; rfl, rfl⟩
    | true =>
    cases h1 : (r1 == r2) with
    | false => go_wp2; go_meet; case rel => exact ⟨false, rfl, by rw [h0, h1]; rfl, rfl⟩
    | true =>
    cases h2 : (d1 == d2) with
    | false => go_wp2; go_meet; case rel => exact ⟨false, rfl, by rw [h0, h1, h2]; rfl, rfl⟩
    | true =>
    cases h3 : (i1 == i2) with
    | false => go_wp2; go_meet; case rel => exact ⟨false, rfl, by rw [h0, h1, h2, h3]; rfl, rfl⟩
    | true =>
    cases h4 : (q1 == q2) with
    | false => go_wp2; go_meet; case rel => exact ⟨false, rfl, by rw [h0, h1, h2, h3, h4]; rfl, rfl⟩
    | true =>
    cases h5 : (a1 == a2 && e1 == e2) with
    | false => go_wp2; go_meet; case rel => exact ⟨false, rfl, by rw [h0, h1, h2, h3, h4, h5]; rfl, rfl⟩
    | true => go_wp2; go_meet; case rel => exact ⟨true, rfl, by rw [h0, h1, h2, h3, h4, h5]; rfl, rfl⟩
  case rest =>
    obtain ⟨fb, rfl, hfb, rfl⟩ := hcut
    have HE := Lib.hid (show r = (fb && (c1 && c2)) from by rw [HE.out, hfb])
    clear hfb x0 x1 x2 x3 x4 x5 x6 y0 y1 y2 y3 y4 y5 y6
    cases fb with
    | false => have HF := Lib.hid (show r = false from HE.out); clear HE; go_wp2; go_ret; exact ⟨ret_bool HF.out.symm, HB.out⟩
    | true =>
    go_wp2_with fail
    refine (HSC.out _ HMO.out HMP.out).mono ?_
    rintro e w2 ⟨rfl, hb⟩
    have HX := Lib.hid (HX.out.all hb); have HZ := Lib.hid (HZ.out.all hb); have HMO := Lib.hid (HMO.out.all hb); have HMP := Lib.hid (HMP.out.all hb)
    have HB := Lib.hid (HB.out.trans (hb.mono HB.out.size)); clear hb x7 x8 y7 y8
    cases c1 with
    | false => have HF := Lib.hid (show r = false from HE.out); clear HE; go_wp2; go_ret; exact ⟨ret_bool HF.out.symm, HB.out⟩
    | true =>
    have x8 := HX.out.c8
    have y8 := HZ.out.c8
    go_wp2_with fail
    refine (HSB.out _ HMO.out HMP.out).mono ?_
    rintro e w3 ⟨rfl, hb⟩
    have HB := Lib.hid (HB.out.trans (hb.mono HB.out.size)); clear hb x8 y8
    go_wp2; go_ret; exact ⟨ret_bool (by rw [HE.out]; rfl), HB.out⟩
end Go.Proofs.Ytldfccllpnplmaa.Msw

namespace Go.Proofs.Ytldfccllpnplmaa.Msw
set_option maxRecDepth 20000
open Go.RowKit
open Cl Bk Ms Clw Bkw
open Chgw (hat hbe ret_bool vw)
open Rg (bal)
open Lgw (wrapu)

theorem nameof_c (a d : Nat) (ha : a < 64) (hd : d < 64) (w : World) : Calls Try.prog 59 #[.agg #[.int .i64 a, .int .i64 d]] w fun e w' => e = .returned (.int .u64 ((64 * a + d : Nat) : Int)) ∧ Below w.heap.size w w' := by
  have HN := Lib.hid (fun W => Chgw.name_c a d ha hd W)
  unfold Chgw.vw at HN
  have hw : IntKind.u64.wrap ((64 * a + d : Nat) : Int) = ((64 * a + d : Nat) : Int) := wrapu _ (by omega)
  generalize ((64 * a + d : Nat) : Int) = p at HN hw ⊢
  go_enter Try.func59, Try.ntmps59
  go_wp2_with fail
  refine (HN.out _).mono ?_
  rintro e w2 ⟨rfl, hb⟩
  have HB := Lib.hid ((bal (Below.refl w.heap.size w) (Nat.le_refl _) _).trans (hb.mono (by simp))); clear hb
  go_wp2
  go_ret
  exact ⟨rfl, HB.out⟩
set_option maxHeartbeats 8000000 in
set_option maxRecDepth 100000 in
theorem forms_core (k r d i q a e : Nat) (hk : k < 1048576) (hr0 : r < 1048576) (hd0 : d < 1048576) (hi0 : i < 1048576) (hq0 : q < 1048576) (ha : a < 64) (he : e < 64) (cs : List C) (bk : List E) (s t : S3) (w : World) (h : Mo w ⟨(k : Int), (r : Int), (d : Int), (i : Int), (q : Int), (a : Int), (e : Int), cs, bk⟩ s t) (hr : rightM ⟨(k : Int), (r : Int), (d : Int), (i : Int), (q : Int), (a : Int), (e : Int), cs, bk⟩ = true) :
    Calls Try.prog 28 #[mvv ⟨(k : Int), (r : Int), (d : Int), (i : Int), (q : Int), (a : Int), (e : Int), cs, bk⟩ s t] w (RetOwn w w.heap.size (bodyM ⟨(k : Int), (r : Int), (d : Int), (i : Int), (q : Int), (a : Int), (e : Int), cs, bk⟩)) := by
  have hok := h.ok hr
  have hri := (rightM_iff _).1 hr
  have hl6 : s.n ≤ 6 := by rw [h.1.1]; exact cl_len hri.2.2.1
  have hl4 : t.n ≤ 4 := by rw [h.2.1]; exact book_len hri.2.2.2.1
  have HPO : Hid (∀ L, numsM ⟨(k : Int), (r : Int), (d : Int), (i : Int), (q : Int), (a : Int), (e : Int), cs, bk⟩ = L → (∀ x ∈ L, Wire.W64 x) ∧ bodyM ⟨(k : Int), (r : Int), (d : Int), (i : Int), (q : Int), (a : Int), (e : Int), cs, bk⟩ = L.flatMap Wire.form) := Lib.hid (fun L hL => ⟨by rw [← hL]; exact numsM_ok hok, by rw [← hL]; rfl⟩)
  have HNM : Hid (numsM ⟨(k : Int), (r : Int), (d : Int), (i : Int), (q : Int), (a : Int), (e : Int), cs, bk⟩ = [k, r, d, i, q, 64 * a + e, s.n] ++ (cs.flatMap cellN ++ (t.n :: bk.flatMap entN))) := Lib.hid (by
    have h1 : s.n = cs.length := h.1.1
    have h2 : t.n = bk.length := h.2.1
    rw [h1, h2]
    unfold numsM headN
    simp only [Int.toNat_natCast]
    rw [show Lg.nm (a : Int) (e : Int) = 64 * a + e from by unfold Lg.nm; omega])
  have HCN : Hid (∀ x ∈ cs, okC x = true) := Lib.hid (fun x hx => isCl_mem hri.2.2.1 hx)
  have HEN : Hid (∀ x ∈ bk, okE x = true ∧ Flt.U64 x.val) := Lib.hid (fun x hx => ⟨(chk_mem bk (-1) hri.2.2.2.1 x hx).1, h.2.u64 x hx⟩)
  have HMO := Lib.hid h
  clear h hr hok hri
  unfold mvv
  go_enter Try.func28, Try.ntmps28
  go_upto_region 1 with (fail)
  have HX := Lib.hid (show Mx (w.alloc (.cells #[.int .i64 (k : Int), .int .i64 (r : Int), .int .i64 (d : Int), .int .i64 (i : Int), .int .i64 (q : Int), .int .i64 (a : Int), .int .i64 (e : Int), .slice s.a s.n s.c, .slice t.a t.n t.c] 29)) w.heap.size ⟨(k : Int), (r : Int), (d : Int), (i : Int), (q : Int), (a : Int), (e : Int), cs, bk⟩ s t from hat _ _ _ rfl)
  have HB := Lib.hid (bal (Below.refl w.heap.size w) (Nat.le_refl _) (.cells #[.int .i64 (k : Int), .int .i64 (r : Int), .int .i64 (d : Int), .int .i64 (i : Int), .int .i64 (q : Int), .int .i64 (a : Int), .int .i64 (e : Int), .slice s.a s.n s.c, .slice t.a t.n t.c] 29))
  generalize w.alloc (.cells #[.int .i64 (k : Int), .int .i64 (r : Int), .int .i64 (d : Int), .int .i64 (i : Int), .int .i64 (q : Int), .int .i64 (a : Int), .int .i64 (e : Int), .slice s.a s.n s.c, .slice t.a t.n t.c] 29) = w2 at HX HB ⊢
  have HMO := Lib.hid (HMO.out.all HB.out)
  have hs2 := HX.out.lt
  have HP := Lib.hid (fun W => nameof_c a e ha he W)
  have wk : IntKind.u64.wrap (k : Int) = k := wrapu k (by omega)
  have wr0 : IntKind.u64.wrap (r : Int) = r := wrapu r (by omega)
  have wd : IntKind.u64.wrap (d : Int) = d := wrapu d (by omega)
  have wi : IntKind.u64.wrap (i : Int) = i := wrapu i (by omega)
  have wq : IntKind.u64.wrap (q : Int) = q := wrapu q (by omega)
  generalize 64 * a + e = p at HP HNM
  have HK : Hid (∀ W', Below w2.heap.size w2 W' → W'.cell? ⟨w.heap.size, 0, none⟩ = some (.int .i64 (k : Int)) ∧ W'.cell? ⟨w.heap.size, 1, none⟩ = some (.int .i64 (r : Int)) ∧ W'.cell? ⟨w.heap.size, 2, none⟩ = some (.int .i64 (d : Int)) ∧ W'.cell? ⟨w.heap.size, 3, none⟩ = some (.int .i64 (i : Int)) ∧ W'.cell? ⟨w.heap.size, 4, none⟩ = some (.int .i64 (q : Int)) ∧ W'.cell? ⟨w.heap.size, 5, none⟩ = some (.int .i64 (a : Int)) ∧ W'.cell? ⟨w.heap.size, 6, none⟩ = some (.int .i64 (e : Int)) ∧ W'.cell? ⟨w.heap.size, 7, none⟩ = some (.slice s.a s.n s.c)) := Lib.hid (fun W' h => by
    have h := HX.out.all h
    exact ⟨h.c0, h.c1, h.c2, h.c3, h.c4, h.c5, h.c6, h.c7⟩)
  refine wp_region_held_drew (S := fun W' => Below w2.heap.size w2 W') (by kernel_rfl) (Below.refl _ _).drew (fun hHeld => ?_)
  generalize w2.drew = w5 at hHeld ⊢
  have HB5 : Hid (Below w2.heap.size w2 w5) := hHeld
  clear hHeld
  refine take_in (i := 0) (oi := ⟨_, _, _, _, _, _⟩) (v := ?_) rfl (by kernel_rfl) (by kernel_rfl) (by kernel_rfl) (fun _ _ _ h => h) (by rfl) ?_ HB5.out ?_
  rotate_left
  · intro W hW; have hq := HK.out W hW; go_simp; with_reducible rfl
  simp only [Act.put, List.setIfInBounds_toArray, List.set_cons_zero, List.set_cons_succ]
  refine take_in (i := 1) (oi := ⟨_, _, _, _, _, _⟩) (v := ?_) rfl (by kernel_rfl) (by kernel_rfl) (by kernel_rfl) (fun _ _ _ h => h) (by rfl) ?_ HB5.out ?_
  rotate_left
  · intro W hW; have hq := HK.out W hW; go_simp; with_reducible rfl
  simp only [Act.put, List.setIfInBounds_toArray, List.set_cons_zero, List.set_cons_succ]
  refine take_in (i := 2) (oi := ⟨_, _, _, _, _, _⟩) (v := ?_) rfl (by kernel_rfl) (by kernel_rfl) (by kernel_rfl) (fun _ _ _ h => h) (by rfl) ?_ HB5.out ?_
  rotate_left
  · intro W hW; have hq := HK.out W hW; go_simp; with_reducible rfl
  simp only [Act.put, List.setIfInBounds_toArray, List.set_cons_zero, List.set_cons_succ]
  refine take_in (i := 3) (oi := ⟨_, _, _, _, _, _⟩) (v := ?_) rfl (by kernel_rfl) (by kernel_rfl) (by kernel_rfl) (fun _ _ _ h => h) (by rfl) ?_ HB5.out ?_
  rotate_left
  · intro W hW; have hq := HK.out W hW; go_simp; with_reducible rfl
  simp only [Act.put, List.setIfInBounds_toArray, List.set_cons_zero, List.set_cons_succ]
  refine take_in (i := 4) (oi := ⟨_, _, _, _, _, _⟩) (v := ?_) rfl (by kernel_rfl) (by kernel_rfl) (by kernel_rfl) (fun _ _ _ h => h) (by rfl) ?_ HB5.out ?_
  rotate_left
  · intro W hW; have hq := HK.out W hW; go_simp; with_reducible rfl
  simp only [Act.put, List.setIfInBounds_toArray, List.set_cons_zero, List.set_cons_succ]
  refine take_in (i := 5) (oi := ⟨_, _, _, _, _, _⟩) (v := ?_) rfl (by kernel_rfl) (by kernel_rfl) (by kernel_rfl) (fun _ _ _ h => h) (by rfl) ?_ HB5.out ?_
  rotate_left
  · intro W hW; have hq := HK.out W hW; go_simp; with_reducible rfl
  simp only [Act.put, List.setIfInBounds_toArray, List.set_cons_zero, List.set_cons_succ]
  refine take_in (i := 6) (oi := ⟨_, _, _, _, _, _⟩) (v := ?_) rfl (by kernel_rfl) (by kernel_rfl) (by kernel_rfl) (fun _ _ _ h => h) (by rfl) ?_ HB5.out ?_
  rotate_left
  · intro W hW; have hq := HK.out W hW; go_simp; with_reducible rfl
  simp only [Act.put, List.setIfInBounds_toArray, List.set_cons_zero, List.set_cons_succ]
  refine take_in (i := 7) (oi := ⟨_, _, _, _, _, _⟩) (v := ?_) rfl (by kernel_rfl) (by kernel_rfl) (by kernel_rfl) (fun _ _ _ h => h) (by rfl) ?_ HB5.out ?_
  rotate_left
  · intro W hW; have hq := HK.out W hW; go_simp; with_reducible rfl
  simp only [Act.put, List.setIfInBounds_toArray, List.set_cons_zero, List.set_cons_succ]
  refine take_in (i := 8) (oi := ⟨_, _, _, _, _, _⟩) (v := ?_) rfl (by kernel_rfl) (by kernel_rfl) (by kernel_rfl) (fun _ _ _ h => h) (by rfl) ?_ HB5.out ?_
  rotate_left
  · intro W hW; have hq := HK.out W hW; go_simp; with_reducible rfl
  simp only [Act.put, List.setIfInBounds_toArray, List.set_cons_zero, List.set_cons_succ]
  refine take_in (i := 9) (oi := ⟨_, _, _, _, _, _⟩) (v := ?_) rfl (by kernel_rfl) (by kernel_rfl) (by kernel_rfl) (fun _ _ _ h => h) (by rfl) ?_ HB5.out ?_
  rotate_left
  · intro W hW; have hq := HK.out W hW; go_simp; with_reducible rfl
  simp only [Act.put, List.setIfInBounds_toArray, List.set_cons_zero, List.set_cons_succ]
  refine take_in (i := 10) (oi := ⟨_, _, _, _, _, _⟩) (v := ?_) rfl (by kernel_rfl) (by kernel_rfl) (by kernel_rfl) (fun _ _ _ h => h) (by rfl) ?_ HB5.out ?_
  rotate_left
  · intro W hW; have hq := HK.out W hW; go_simp; with_reducible rfl
  simp only [Act.put, List.setIfInBounds_toArray, List.set_cons_zero, List.set_cons_succ]
  refine take_in (i := 11) (oi := ⟨_, _, _, _, _, _⟩) (v := ?_) rfl (by kernel_rfl) (by kernel_rfl) (by kernel_rfl) (fun _ _ _ h => h) (by rfl) ?_ HB5.out ?_
  rotate_left
  · intro W hW; have hq := HK.out W hW; go_simp; with_reducible rfl
  simp only [Act.put, List.setIfInBounds_toArray, List.set_cons_zero, List.set_cons_succ]
  refine take_in (i := 12) (oi := ⟨_, _, _, _, _, _⟩) (v := ?_) rfl (by kernel_rfl) (by kernel_rfl) (by kernel_rfl) (fun _ _ _ h => h) (by rfl) ?_ HB5.out ?_
  rotate_left
  · intro W hW; have hq := HK.out W hW; go_simp; with_reducible rfl
  simp only [Act.put, List.setIfInBounds_toArray, List.set_cons_zero, List.set_cons_succ]
  refine take_in (i := 13) (oi := ⟨_, _, _, _, _, _⟩) (v := ?_) rfl (by kernel_rfl) (by kernel_rfl) (by kernel_rfl) (fun _ _ _ h => h) (by rfl) ?_ HB5.out ?_
  rotate_left
  · intro W hW; have hq := HK.out W hW; go_simp; with_reducible rfl
  simp only [Act.put, List.setIfInBounds_toArray, List.set_cons_zero, List.set_cons_succ]
  refine take_in (i := 14) (oi := ⟨_, _, _, _, _, _⟩) (v := ?_) rfl (by kernel_rfl) (by kernel_rfl) (by kernel_rfl) (fun _ _ _ h => h) (by rfl) ?_ HB5.out ?_
  rotate_left
  · intro W hW; have hq := HK.out W hW; go_simp; with_reducible rfl
  simp only [Act.put, List.setIfInBounds_toArray, List.set_cons_zero, List.set_cons_succ]
  refine take_in (i := 15) (oi := ⟨_, _, _, _, _, _⟩) (v := ?_) rfl (by kernel_rfl) (by kernel_rfl) (by kernel_rfl) (fun _ _ _ h => h) (by rfl) ?_ HB5.out ?_
  rotate_left
  · intro W hW; have hq := HK.out W hW; go_simp; with_reducible rfl
  simp only [Act.put, List.setIfInBounds_toArray, List.set_cons_zero, List.set_cons_succ]
  refine take_in (i := 16) (oi := ⟨_, _, _, _, _, _⟩) (v := ?_) rfl (by kernel_rfl) (by kernel_rfl) (by kernel_rfl) (fun _ _ _ h => h) (by rfl) ?_ HB5.out ?_
  rotate_left
  · intro W hW; have hq := HK.out W hW; go_simp; with_reducible rfl
  simp only [Act.put, List.setIfInBounds_toArray, List.set_cons_zero, List.set_cons_succ]
  refine wpAnyH_ready (rs := [17]) (by kernel_rfl) (by simp) ?_
  refine AllReadyH.cons (o := ⟨_, _, _, _, _, _⟩) rfl (fun K hK => ?_) AllReadyH.nil
  go_simp
  refine (HP.out _).mono ?_
  rintro e0 w6 ⟨rfl, hb6⟩
  have HB6 := Lib.hid (HB5.out.trans (hb6.mono HB5.out.size)); clear hb6
  refine hK.out _ _ HB6.out (fun _ => ?_)
  clear hK K
  refine wpAnyH_ready (rs := [18]) (by kernel_rfl) (by simp) ?_
  refine AllReadyH.cons (o := ⟨_, _, _, _, _, _⟩) rfl (fun K hK => ?_) AllReadyH.nil
  go_simp
  refine hK.out _ _ (bal HB6.out (Nat.le_refl _) _) (fun _ => ?_)
  clear hK K
  have HO := Lib.hid (show Rg.OwnG KN (w6.alloc (.cells #[.int .u64 (k : Int), .int .u64 (r : Int), .int .u64 (d : Int), .int .u64 (i : Int), .int .u64 (q : Int), .int .u64 (p : Int)] 56)) w2.heap.size (some ⟨w6.heap.size, 0, none⟩) 6 6 [k, r, d, i, q, p] from nums_new w6 w2.heap.size w6.heap.size [k, r, d, i, q, p] rfl HB6.out.size (by unfold maxLen; simp))
  have HB7 := Lib.hid (bal HB6.out (Nat.le_refl _) (.cells #[.int .u64 (k : Int), .int .u64 (r : Int), .int .u64 (d : Int), .int .u64 (i : Int), .int .u64 (q : Int), .int .u64 (p : Int)] 56))
  generalize (w6.alloc (.cells #[.int .u64 (k : Int), .int .u64 (r : Int), .int .u64 (d : Int), .int .u64 (i : Int), .int .u64 (q : Int), .int .u64 (p : Int)] 56)) = w7 at HO HB7 ⊢
  generalize w6.heap.size = g6 at HO ⊢
  refine take_in (i := 19) (oi := ⟨_, _, _, _, _, _⟩) (v := ?_) rfl (by kernel_rfl) (by kernel_rfl) (by kernel_rfl) (fun _ _ _ h => h) (by rfl) ?_ HB7.out ?_
  rotate_left
  · intro W hW; go_simp; with_reducible rfl
  simp only [Act.put, List.setIfInBounds_toArray, List.set_cons_zero, List.set_cons_succ]
  refine wpAnyH_done (by kernel_rfl) ?_ _
  clear wk wr0 wd wi wq HB5 HB6 HP
  have ws : IntKind.u64.wrap (s.n : Int) = s.n := wrapu s.n (by omega)
  have hsz7 := HB7.out.size
  have z7 := (HK.out w7 HB7.out).2.2.2.2.2.2.2
  have HRW := Lib.hid (show Rg.Rs KN (w7.alloc (.cells #[.int .u64 (s.n : Int)] 56)) (w7.heap.size + 1) (some ⟨w7.heap.size, 0, none⟩) [s.n] from nums_rs w7 w7.heap.size [s.n] rfl)
  have HO7 := Lib.hid (HO.out.alloc (.cells #[.int .u64 (s.n : Int)] 56))
  have HB8 := Lib.hid (bal HB7.out (Nat.le_refl _) (.cells #[.int .u64 (s.n : Int)] 56))
  go_upto_region 3 with (at_builtin; refine Rg.wp_appG (K := KN) rfl (.tmp 27) (.tmp 32) rfl w2.heap.size _ 6 6 [k, r, d, i, q, p] rfl HO7.out _ _ 1 1 [s.n] rfl rfl HRW.out (by show _ * 8 ≤ _; omega) HB8.out.size ?_; intro A0 c0 w8 ho8 hb8)
  have HB7 := Lib.hid (HB8.out.trans hb8)
  have HO := Lib.hid (show Rg.OwnG KN w8 w2.heap.size A0 7 c0 [k, r, d, i, q, p, s.n] from ho8)
  clear ho8 hb8 HRW HO7 HB8 z7 ws hsz7
  generalize [k, r, d, i, q, p, s.n] = L0 at HO HNM
  have HK8 : Hid (∀ W', Below w2.heap.size w2 W' → W'.cell? ⟨w.heap.size, 7, none⟩ = some (.slice s.a s.n s.c) ∧ W'.cell? ⟨w.heap.size, 8, none⟩ = some (.slice t.a t.n t.c)) := Lib.hid (fun W' h => ⟨(HX.out.all h).c7, (HX.out.all h).c8⟩)
  clear HK
  have hL7 : Hid (L0.length = 7) := Lib.hid HO.out.1.symm
  have x7 := (HK8.out w8 HB7.out).1
  go_wp2
  clear x7
  go_loopw [3, 37] (fun x i wr => ∃ (A3 : Option Addr) (m3 c3 j : Nat), x = .slice A3 m3 c3 ∧ i = .int .i64 j ∧ j ≤ s.n ∧ Rg.OwnG KN wr w2.heap.size A3 m3 c3 (L0 ++ (cs.take j).flatMap cellN) ∧ Below w2.heap.size w2 wr) (fun _ i _ => s.n - (intOf i).toNat)
  case atStart => exact ⟨_, 7, _, 0, rfl, rfl, by omega, by simpa using HO.out, HB7.out⟩
  case round =>
    rename World => wl
    obtain ⟨A3, m3, c3, j, rfl, rfl, hj, ho, hb⟩ := hrel
    have HO := Lib.hid ho; have HBL := Lib.hid hb
    have hm3 : m3 = 7 + 2 * j := by
      have h1 := ho.1
      rw [List.length_append, hL7.out, flat_cellN, List.length_take] at h1
      have h2 : s.n = cs.length := HMO.out.1.1
      omega
    have hsz := hb.size
    clear ho hb
    subst hm3
    by_cases h : j < s.n
    · have hjl : j < cs.length := by have h2 : s.n = cs.length := HMO.out.1.1; omega
      obtain ⟨b, o, hsa, hbB, hcell⟩ := HMO.out.1.2.2.2 (by show 0 < cs.length; omega)
      have hz : cs[j]? = some cs[j] := List.getElem?_eq_getElem hjl
      have hc0 := (tri_at (hcell j cs[j] hz)).below HBL.out hbB
      have HNX : Hid ((cs.take (j + 1)).flatMap cellN = (cs.take j).flatMap cellN ++ cellN cs[j]) := Lib.hid (by rw [take_snocC hz, List.flatMap_append]; simp)
      obtain ⟨xj, xa, xd, hx, hxj, hxa, hxd, hcn⟩ := cell_nat (HCN.out cs[j] (List.getElem_mem hjl))
      rw [hcn] at HNX
      generalize cs[j] = x at hc0 hx
      subst hx
      obtain ⟨x0, x1, x2⟩ := hc0
      rw [show KC.k = 3 from rfl] at x0 x1 x2
      simp only at x0 x1 x2
      clear hz hcell hjl hcn
      rw [hsa]
      clear hsa
      go_wp2_with fail
      have VX := Lib.hid (show Cx (wl.alloc (.cells #[.int .i64 (xj : Int), .int .i64 (xa : Int), .int .i64 (xd : Int)] 47)) wl.heap.size ((xj : Int), (xa : Int), (xd : Int)) from hat _ _ _ rfl)
      have HO := Lib.hid (HO.out.alloc (.cells #[.int .i64 (xj : Int), .int .i64 (xa : Int), .int .i64 (xd : Int)] 47))
      have HBL := Lib.hid (bal HBL.out (Nat.le_refl _) (.cells #[.int .i64 (xj : Int), .int .i64 (xa : Int), .int .i64 (xd : Int)] 47))
      generalize wl.alloc (.cells #[.int .i64 (xj : Int), .int .i64 (xa : Int), .int .i64 (xd : Int)] 47) = wm at VX HO HBL ⊢
      generalize wl.heap.size = gc at VX ⊢
      clear x0 x1 x2
      have hsz := HBL.out.size
      have HP := Lib.hid (fun W => nameof_c xa xd hxa hxd W)
      have wj : IntKind.u64.wrap (xj : Int) = xj := wrapu xj (by omega)
      generalize 64 * xa + xd = p2 at HP HNX
      refine wp_region_held_drew (S := fun W' => Cx W' gc ((xj : Int), (xa : Int), (xd : Int)) ∧ Below w2.heap.size w2 W') (by kernel_rfl) ⟨VX.out, HBL.out.drew⟩ (fun hHeld => ?_)
      have HO5 := Lib.hid (show Rg.OwnG KN wm.drew w2.heap.size A3 (7 + 2 * j) c3 (L0 ++ (cs.take j).flatMap cellN) from HO.out)
      generalize wm.drew = w5 at hHeld HO5 ⊢
      have HB5 := Lib.hid hHeld
      clear hHeld
      refine take_in (i := 0) (oi := ⟨_, _, _, _, _, _⟩) (v := ?_) rfl (by kernel_rfl) (by kernel_rfl) (by kernel_rfl) (fun _ _ _ h => h) (by rfl) ?_ HB5.out ?_
      rotate_left
      · intro W hW; have hq := And.intro hW.1.c0 (And.intro hW.1.c1 hW.1.c2); go_simp; with_reducible rfl
      simp only [Act.put, List.setIfInBounds_toArray, List.set_cons_zero, List.set_cons_succ]
      refine take_in (i := 1) (oi := ⟨_, _, _, _, _, _⟩) (v := ?_) rfl (by kernel_rfl) (by kernel_rfl) (by kernel_rfl) (fun _ _ _ h => h) (by rfl) ?_ HB5.out ?_
      rotate_left
      · intro W hW; have hq := And.intro hW.1.c0 (And.intro hW.1.c1 hW.1.c2); go_simp; with_reducible rfl
      simp only [Act.put, List.setIfInBounds_toArray, List.set_cons_zero, List.set_cons_succ]
      refine take_in (i := 2) (oi := ⟨_, _, _, _, _, _⟩) (v := ?_) rfl (by kernel_rfl) (by kernel_rfl) (by kernel_rfl) (fun _ _ _ h => h) (by rfl) ?_ HB5.out ?_
      rotate_left
      · intro W hW; have hq := And.intro hW.1.c0 (And.intro hW.1.c1 hW.1.c2); go_simp; with_reducible rfl
      simp only [Act.put, List.setIfInBounds_toArray, List.set_cons_zero, List.set_cons_succ]
      refine take_in (i := 3) (oi := ⟨_, _, _, _, _, _⟩) (v := ?_) rfl (by kernel_rfl) (by kernel_rfl) (by kernel_rfl) (fun _ _ _ h => h) (by rfl) ?_ HB5.out ?_
      rotate_left
      · intro W hW; have hq := And.intro hW.1.c0 (And.intro hW.1.c1 hW.1.c2); go_simp; with_reducible rfl
      simp only [Act.put, List.setIfInBounds_toArray, List.set_cons_zero, List.set_cons_succ]
      refine take_in (i := 4) (oi := ⟨_, _, _, _, _, _⟩) (v := ?_) rfl (by kernel_rfl) (by kernel_rfl) (by kernel_rfl) (fun _ _ _ h => h) (by rfl) ?_ HB5.out ?_
      rotate_left
      · intro W hW; have hq := And.intro hW.1.c0 (And.intro hW.1.c1 hW.1.c2); go_simp; with_reducible rfl
      simp only [Act.put, List.setIfInBounds_toArray, List.set_cons_zero, List.set_cons_succ]
      refine take_in (i := 5) (oi := ⟨_, _, _, _, _, _⟩) (v := ?_) rfl (by kernel_rfl) (by kernel_rfl) (by kernel_rfl) (fun _ _ _ h => h) (by rfl) ?_ HB5.out ?_
      rotate_left
      · intro W hW; have hq := And.intro hW.1.c0 (And.intro hW.1.c1 hW.1.c2); go_simp; with_reducible rfl
      simp only [Act.put, List.setIfInBounds_toArray, List.set_cons_zero, List.set_cons_succ]
      refine wpAnyH_ready (rs := [6]) (by kernel_rfl) (by simp) ?_
      refine AllReadyH.cons (o := ⟨_, _, _, _, _, _⟩) rfl (fun K hK => ?_) AllReadyH.nil
      go_simp
      refine (HP.out _).mono ?_
      rintro e0 w6 ⟨rfl, hb6⟩
      have HO6 := Lib.hid (HO5.out.below hb6 (Nat.le_refl _))
      have HB6 := Lib.hid (And.intro (HB5.out.1.all hb6) (HB5.out.2.trans (hb6.mono HB5.out.2.size))); clear hb6
      refine hK.out _ _ HB6.out (fun _ => ?_)
      clear hK K
      refine wpAnyH_ready (rs := [7]) (by kernel_rfl) (by simp) ?_
      refine AllReadyH.cons (o := ⟨_, _, _, _, _, _⟩) rfl (fun K hK => ?_) AllReadyH.nil
      go_simp
      have HB7 := Lib.hid (show Cx (w6.alloc (.cells #[.int .u64 (xj : Int), .int .u64 (p2 : Int)] 56)) gc ((xj : Int), (xa : Int), (xd : Int)) ∧ Below w2.heap.size w2 (w6.alloc (.cells #[.int .u64 (xj : Int), .int .u64 (p2 : Int)] 56)) from ⟨hbe HB6.out.1, bal HB6.out.2 (Nat.le_refl _) _⟩)
      refine hK.out _ _ HB7.out (fun _ => ?_)
      clear hK K
      have HO7 := Lib.hid (HO6.out.alloc (.cells #[.int .u64 (xj : Int), .int .u64 (p2 : Int)] 56))
      have HRW := Lib.hid (show Rg.Rs KN (w6.alloc (.cells #[.int .u64 (xj : Int), .int .u64 (p2 : Int)] 56)) (w6.heap.size + 1) (some ⟨w6.heap.size, 0, none⟩) [xj, p2] from nums_rs w6 w6.heap.size [xj, p2] rfl)
      generalize w6.alloc (.cells #[.int .u64 (xj : Int), .int .u64 (p2 : Int)] 56) = w7 at HB7 HO7 HRW ⊢
      generalize w6.heap.size = g6 at HRW ⊢
      refine wpAnyH_ready (rs := [8]) (by kernel_rfl) (by simp) ?_
      refine AllReadyH.cons (o := ⟨_, _, _, _, _, _⟩) rfl (fun K hK => ?_) AllReadyH.nil
      refine Rg.op_appGg (K := KN) (.tmp 41) (.tmp 48) rfl w2.heap.size A3 (7 + 2 * j) c3 _ rfl HO7.out _ _ 2 2 [xj, p2] rfl rfl HRW.out (by show _ * 8 ≤ _; omega) HB7.out.2.size ?_
      intro A9 c9 w9 ho9 hb9 hg9
      have HB9 := Lib.hid (show Cx w9 gc ((xj : Int), (xa : Int), (xd : Int)) ∧ Below w2.heap.size w2 w9 from ⟨Rg.blk_apart HB7.out.1 HO7.out.2 (by decide) hg9, HB7.out.2.trans hb9⟩)
      have HO9 := Lib.hid ho9
      clear ho9 hb9 hg9
      refine hK.out _ _ HB9.out (fun _ => ?_)
      clear hK K
      simp only [Act.put, List.setIfInBounds_toArray, List.set_cons_zero, List.set_cons_succ]
      refine take_in (i := 9) (oi := ⟨_, _, _, _, _, _⟩) (v := ?_) rfl (by kernel_rfl) (by kernel_rfl) (by kernel_rfl) (fun _ _ _ h => h) (by rfl) ?_ HB9.out ?_
      rotate_left
      · intro W hW; go_simp; with_reducible rfl
      simp only [Act.put, List.setIfInBounds_toArray, List.set_cons_zero, List.set_cons_succ]
      refine wpAnyH_done (by kernel_rfl) ?_ _
      clear wj
      go_wp2
      refine ⟨⟨A9, 7 + 2 * j + 2, c9, j + 1, rfl, by go_num, by omega, ?_, HB9.out.2⟩, by simp [intOf]; omega⟩
      rw [HNX.out, ← List.append_assoc]
      exact HO9.out
    · have hjs : j = s.n := by omega
      have HO := Lib.hid (show Rg.OwnG KN wl w2.heap.size A3 (7 + 2 * j) c3 (L0 ++ cs.flatMap cellN) from by have := HO.out; rwa [List.take_of_length_le (by have h2 : s.n = cs.length := HMO.out.1.1; omega)] at this)
      have hj6 : j ≤ 6 := by omega
      have z7 := HK8.out wl HBL.out
      obtain ⟨z7, z8⟩ := z7
      have wt : IntKind.u64.wrap (t.n : Int) = t.n := wrapu t.n (by omega)
      have hjn : ¬ j < s.n := h
      clear hjs
      have HRW := Lib.hid (show Rg.Rs KN (wl.alloc (.cells #[.int .u64 (t.n : Int)] 56)) (wl.heap.size + 1) (some ⟨wl.heap.size, 0, none⟩) [t.n] from nums_rs wl wl.heap.size [t.n] rfl)
      have HO7 := Lib.hid (HO.out.alloc (.cells #[.int .u64 (t.n : Int)] 56))
      have HB7 := Lib.hid (bal HBL.out (Nat.le_refl _) (.cells #[.int .u64 (t.n : Int)] 56))
      go_upto_region 9 with (at_builtin; refine Rg.wp_appG (K := KN) rfl (.tmp 51) (.tmp 56) rfl w2.heap.size A3 (7 + 2 * j) c3 _ rfl HO7.out _ _ 1 1 [t.n] rfl rfl HRW.out (by show _ * 8 ≤ _; omega) HB7.out.size ?_; intro A9 c9 w9 ho9 hb9)
      have HO := Lib.hid ho9
      have HBL := Lib.hid (HB7.out.trans hb9)
      clear ho9 hb9 HRW HO7 HB7 z7 z8 wt
      obtain ⟨z7, z8⟩ := HK8.out w9 HBL.out
      have hL8 : Hid ((L0 ++ cs.flatMap cellN ++ [t.n]).length = 8 + 2 * j) := Lib.hid (by have := HO.out.1; omega)
      have HNM : Hid (numsM ⟨(k : Int), (r : Int), (d : Int), (i : Int), (q : Int), (a : Int), (e : Int), cs, bk⟩ = (L0 ++ cs.flatMap cellN ++ [t.n]) ++ bk.flatMap entN) := Lib.hid (by rw [HNM.out]; simp)
      generalize L0 ++ cs.flatMap cellN ++ [t.n] = L1 at HO HNM hL8
      have HTN : Hid (t.n = bk.length) := Lib.hid HMO.out.2.1
      go_wp2
      clear z7 z8
      go_loopw [3, 61] (fun x i wr => ∃ (A4 : Option Addr) (m4 c4 u : Nat), x = .slice A4 m4 c4 ∧ i = .int .i64 u ∧ u ≤ t.n ∧ Rg.OwnG KN wr w2.heap.size A4 m4 c4 (L1 ++ (bk.take u).flatMap entN) ∧ Below w2.heap.size w2 wr) (fun _ i _ => t.n - (intOf i).toNat)
      case atStart => exact ⟨_, _, _, 0, rfl, rfl, by omega, by simpa using HO.out, HBL.out⟩
      case round =>
        rename World => wl
        obtain ⟨A4, m4, c4, u, rfl, rfl, hu, ho, hb⟩ := hrel
        have HO := Lib.hid ho; have HBL := Lib.hid hb
        have hm4 : m4 = 8 + 2 * j + 4 * u := by
          have h1 := ho.1
          rw [List.length_append, hL8.out, flat_entN, List.length_take] at h1
          have h2 := HTN.out
          omega
        have hsz := hb.size
        clear ho hb
        subst hm4
        by_cases h : u < t.n
        · have hjl : u < bk.length := by have h2 := HTN.out; omega
          obtain ⟨b, o, hsa, hbB, hcell⟩ := HMO.out.2.2.2.2.2 (by show 0 < bk.length; omega)
          have hz : bk[u]? = some bk[u] := List.getElem?_eq_getElem hjl
          have hc0 := (hcell u bk[u] hz).below HBL.out hbB
          have HNX : Hid ((bk.take (u + 1)).flatMap entN = (bk.take u).flatMap entN ++ entN bk[u]) := Lib.hid (by rw [take_snocC hz, List.flatMap_append]; simp)
          have hoe := HEN.out bk[u] (List.getElem_mem hjl)
          obtain ⟨xk, xn, xd, hx, hxk, hxn, hxd, hcn⟩ := ent_nat hoe.1
          have hcw := Lg.u64_clean hoe.2
          have hu64 := hoe.2
          rw [hcn] at HNX
          generalize bk[u] = x at hc0 hx HNX hcw hu64
          obtain ⟨y1, y2, y3, xv⟩ := x
          simp only [E.mk.injEq, and_true] at hx
          obtain ⟨rfl, rfl, rfl⟩ := hx
          obtain ⟨x0, x1, x2, x3⟩ := hc0
          simp only at x0 x1 x2 x3 HNX hcw hu64
          have HBI := Lib.hid (fun W => Nmw.bits_c xv W)
          have HCW := Lib.hid hcw
          clear hz hcell hjl hcn hoe hcw hu64
          rw [hsa]
          clear hsa
          have hsf := store_flt
          go_wp2_with fail
          have VX := Lib.hid (show Ex (wl.alloc (.cells #[.int .i64 (xk : Int), .int .i64 (xn : Int), .int .i64 (xd : Int), .float .f64 xv] 52)) wl.heap.size ⟨(xk : Int), (xn : Int), (xd : Int), xv⟩ from hat _ _ _ rfl)
          have HO := Lib.hid (HO.out.alloc (.cells #[.int .i64 (xk : Int), .int .i64 (xn : Int), .int .i64 (xd : Int), .float .f64 xv] 52))
          have HBL := Lib.hid (bal HBL.out (Nat.le_refl _) (.cells #[.int .i64 (xk : Int), .int .i64 (xn : Int), .int .i64 (xd : Int), .float .f64 xv] 52))
          generalize wl.alloc (.cells #[.int .i64 (xk : Int), .int .i64 (xn : Int), .int .i64 (xd : Int), .float .f64 xv] 52) = wm at VX HO HBL ⊢
          generalize wl.heap.size = gc at VX ⊢
          clear x0 x1 x2 x3
          have hsz := HBL.out.size
          have wj : IntKind.u64.wrap (xk : Int) = xk := wrapu xk (by omega)
          have wn : IntKind.u64.wrap (xn : Int) = xn := wrapu xn (by omega)
          have wd : IntKind.u64.wrap (xd : Int) = xd := wrapu xd (by omega)
          generalize Flt.clean xv = cv0 at HBI HNX HCW
          refine wp_region_held_drew (S := fun W' => Ex W' gc ⟨(xk : Int), (xn : Int), (xd : Int), xv⟩ ∧ Below w2.heap.size w2 W') (by kernel_rfl) ⟨VX.out, HBL.out.drew⟩ (fun hHeld => ?_)
          have HO5 := Lib.hid (show Rg.OwnG KN wm.drew w2.heap.size A4 (8 + 2 * j + 4 * u) c4 (L1 ++ (bk.take u).flatMap entN) from HO.out)
          generalize wm.drew = w5 at hHeld HO5 ⊢
          have HB5 := Lib.hid hHeld
          clear hHeld
          refine take_in (i := 0) (oi := ⟨_, _, _, _, _, _⟩) (v := ?_) rfl (by kernel_rfl) (by kernel_rfl) (by kernel_rfl) (fun _ _ _ h => h) (by rfl) ?_ HB5.out ?_
          rotate_left
          · intro W hW; have hq := And.intro hW.1.c0 (And.intro hW.1.c1 (And.intro hW.1.c2 hW.1.c3)); go_simp; with_reducible rfl
          simp only [Act.put, List.setIfInBounds_toArray, List.set_cons_zero, List.set_cons_succ]
          refine take_in (i := 1) (oi := ⟨_, _, _, _, _, _⟩) (v := ?_) rfl (by kernel_rfl) (by kernel_rfl) (by kernel_rfl) (fun _ _ _ h => h) (by rfl) ?_ HB5.out ?_
          rotate_left
          · intro W hW; have hq := And.intro hW.1.c0 (And.intro hW.1.c1 (And.intro hW.1.c2 hW.1.c3)); go_simp; with_reducible rfl
          simp only [Act.put, List.setIfInBounds_toArray, List.set_cons_zero, List.set_cons_succ]
          refine take_in (i := 2) (oi := ⟨_, _, _, _, _, _⟩) (v := ?_) rfl (by kernel_rfl) (by kernel_rfl) (by kernel_rfl) (fun _ _ _ h => h) (by rfl) ?_ HB5.out ?_
          rotate_left
          · intro W hW; have hq := And.intro hW.1.c0 (And.intro hW.1.c1 (And.intro hW.1.c2 hW.1.c3)); go_simp; with_reducible rfl
          simp only [Act.put, List.setIfInBounds_toArray, List.set_cons_zero, List.set_cons_succ]
          refine take_in (i := 3) (oi := ⟨_, _, _, _, _, _⟩) (v := ?_) rfl (by kernel_rfl) (by kernel_rfl) (by kernel_rfl) (fun _ _ _ h => h) (by rfl) ?_ HB5.out ?_
          rotate_left
          · intro W hW; have hq := And.intro hW.1.c0 (And.intro hW.1.c1 (And.intro hW.1.c2 hW.1.c3)); go_simp; with_reducible rfl
          simp only [Act.put, List.setIfInBounds_toArray, List.set_cons_zero, List.set_cons_succ]
          refine take_in (i := 4) (oi := ⟨_, _, _, _, _, _⟩) (v := ?_) rfl (by kernel_rfl) (by kernel_rfl) (by kernel_rfl) (fun _ _ _ h => h) (by rfl) ?_ HB5.out ?_
          rotate_left
          · intro W hW; have hq := And.intro hW.1.c0 (And.intro hW.1.c1 (And.intro hW.1.c2 hW.1.c3)); go_simp; with_reducible rfl
          simp only [Act.put, List.setIfInBounds_toArray, List.set_cons_zero, List.set_cons_succ]
          refine take_in (i := 5) (oi := ⟨_, _, _, _, _, _⟩) (v := ?_) rfl (by kernel_rfl) (by kernel_rfl) (by kernel_rfl) (fun _ _ _ h => h) (by rfl) ?_ HB5.out ?_
          rotate_left
          · intro W hW; have hq := And.intro hW.1.c0 (And.intro hW.1.c1 (And.intro hW.1.c2 hW.1.c3)); go_simp; with_reducible rfl
          simp only [Act.put, List.setIfInBounds_toArray, List.set_cons_zero, List.set_cons_succ]
          refine take_in (i := 6) (oi := ⟨_, _, _, _, _, _⟩) (v := ?_) rfl (by kernel_rfl) (by kernel_rfl) (by kernel_rfl) (fun _ _ _ h => h) (by rfl) ?_ HB5.out ?_
          rotate_left
          · intro W hW; have hq := And.intro hW.1.c0 (And.intro hW.1.c1 (And.intro hW.1.c2 hW.1.c3)); go_simp; with_reducible rfl
          simp only [Act.put, List.setIfInBounds_toArray, List.set_cons_zero, List.set_cons_succ]
          refine take_in (i := 7) (oi := ⟨_, _, _, _, _, _⟩) (v := ?_) rfl (by kernel_rfl) (by kernel_rfl) (by kernel_rfl) (fun _ _ _ h => h) (by rfl) ?_ HB5.out ?_
          rotate_left
          · intro W hW; have hq := And.intro hW.1.c0 (And.intro hW.1.c1 (And.intro hW.1.c2 hW.1.c3)); go_simp; with_reducible rfl
          simp only [Act.put, List.setIfInBounds_toArray, List.set_cons_zero, List.set_cons_succ]
          refine take_in (i := 8) (oi := ⟨_, _, _, _, _, _⟩) (v := ?_) rfl (by kernel_rfl) (by kernel_rfl) (by kernel_rfl) (fun _ _ _ h => h) (by rfl) ?_ HB5.out ?_
          rotate_left
          · intro W hW; have hq := And.intro hW.1.c0 (And.intro hW.1.c1 (And.intro hW.1.c2 hW.1.c3)); go_simp; with_reducible rfl
          simp only [Act.put, List.setIfInBounds_toArray, List.set_cons_zero, List.set_cons_succ]
          refine take_in (i := 9) (oi := ⟨_, _, _, _, _, _⟩) (v := ?_) rfl (by kernel_rfl) (by kernel_rfl) (by kernel_rfl) (fun _ _ _ h => h) (by rfl) ?_ HB5.out ?_
          rotate_left
          · intro W hW; have hq := And.intro hW.1.c0 (And.intro hW.1.c1 (And.intro hW.1.c2 hW.1.c3)); go_simp; with_reducible rfl
          simp only [Act.put, List.setIfInBounds_toArray, List.set_cons_zero, List.set_cons_succ]
          refine take_in (i := 10) (oi := ⟨_, _, _, _, _, _⟩) (v := ?_) rfl (by kernel_rfl) (by kernel_rfl) (by kernel_rfl) (fun _ _ _ h => h) (by rfl) ?_ HB5.out ?_
          rotate_left
          · intro W hW; have hq := And.intro hW.1.c0 (And.intro hW.1.c1 (And.intro hW.1.c2 hW.1.c3)); go_simp; with_reducible rfl
          simp only [Act.put, List.setIfInBounds_toArray, List.set_cons_zero, List.set_cons_succ]
          refine take_in (i := 11) (oi := ⟨_, _, _, _, _, _⟩) (v := ?_) rfl (by kernel_rfl) (by kernel_rfl) (by kernel_rfl) (fun _ _ _ h => h) (by rfl) ?_ HB5.out ?_
          rotate_left
          · intro W hW; have hq := And.intro hW.1.c0 (And.intro hW.1.c1 (And.intro hW.1.c2 hW.1.c3)); go_simp; with_reducible rfl
          simp only [Act.put, List.setIfInBounds_toArray, List.set_cons_zero, List.set_cons_succ]
          refine take_in (i := 12) (oi := ⟨_, _, _, _, _, _⟩) (v := ?_) rfl (by kernel_rfl) (by kernel_rfl) (by kernel_rfl) (fun _ _ _ h => h) (by rfl) ?_ HB5.out ?_
          rotate_left
          · intro W hW; have hq := And.intro hW.1.c0 (And.intro hW.1.c1 (And.intro hW.1.c2 hW.1.c3)); go_simp; with_reducible rfl
          simp only [Act.put, List.setIfInBounds_toArray, List.set_cons_zero, List.set_cons_succ]
          refine take_in (i := 13) (oi := ⟨_, _, _, _, _, _⟩) (v := ?_) rfl (by kernel_rfl) (by kernel_rfl) (by kernel_rfl) (fun _ _ _ h => h) (by rfl) ?_ HB5.out ?_
          rotate_left
          · intro W hW; have hq := And.intro hW.1.c0 (And.intro hW.1.c1 (And.intro hW.1.c2 hW.1.c3)); go_simp; with_reducible rfl
          simp only [Act.put, List.setIfInBounds_toArray, List.set_cons_zero, List.set_cons_succ]
          refine wpAnyH_ready (rs := [14]) (by kernel_rfl) (by simp) ?_
          refine AllReadyH.cons (o := ⟨_, _, _, _, _, _⟩) rfl (fun K hK => ?_) AllReadyH.nil
          go_simp
          refine (HBI.out _).mono ?_
          rintro e0 w6 ⟨rfl, rfl⟩
          refine hK.out _ _ HB5.out (fun _ => ?_)
          clear hK K
          refine wpAnyH_ready (rs := [15]) (by kernel_rfl) (by simp) ?_
          refine AllReadyH.cons (o := ⟨_, _, _, _, _, _⟩) rfl (fun K hK => ?_) AllReadyH.nil
          go_simp
          have HB7 := Lib.hid (show Ex (w5.alloc (.cells #[.int .u64 (xk : Int), .int .u64 (xn : Int), .int .u64 (xd : Int), .int .u64 (cv0 : Int)] 56)) gc ⟨(xk : Int), (xn : Int), (xd : Int), xv⟩ ∧ Below w2.heap.size w2 (w5.alloc (.cells #[.int .u64 (xk : Int), .int .u64 (xn : Int), .int .u64 (xd : Int), .int .u64 (cv0 : Int)] 56)) from ⟨hbe HB5.out.1, bal HB5.out.2 (Nat.le_refl _) _⟩)
          refine hK.out _ _ HB7.out (fun _ => ?_)
          clear hK K
          have HO7 := Lib.hid (HO5.out.alloc (.cells #[.int .u64 (xk : Int), .int .u64 (xn : Int), .int .u64 (xd : Int), .int .u64 (cv0 : Int)] 56))
          have HRW := Lib.hid (show Rg.Rs KN (w5.alloc (.cells #[.int .u64 (xk : Int), .int .u64 (xn : Int), .int .u64 (xd : Int), .int .u64 (cv0 : Int)] 56)) (w5.heap.size + 1) (some ⟨w5.heap.size, 0, none⟩) [xk, xn, xd, cv0] from nums_rs w5 w5.heap.size [xk, xn, xd, cv0] rfl)
          generalize w5.alloc (.cells #[.int .u64 (xk : Int), .int .u64 (xn : Int), .int .u64 (xd : Int), .int .u64 (cv0 : Int)] 56) = w7 at HB7 HO7 HRW ⊢
          generalize w5.heap.size = g6 at HRW ⊢
          refine wpAnyH_ready (rs := [16]) (by kernel_rfl) (by simp) ?_
          refine AllReadyH.cons (o := ⟨_, _, _, _, _, _⟩) rfl (fun K hK => ?_) AllReadyH.nil
          refine Rg.op_appGg (K := KN) (.tmp 65) (.tmp 80) rfl w2.heap.size A4 (8 + 2 * j + 4 * u) c4 _ rfl HO7.out _ _ 4 4 [xk, xn, xd, cv0] rfl rfl HRW.out (by show _ * 8 ≤ _; omega) HB7.out.2.size ?_
          intro A9 c9 w9 ho9 hb9 hg9
          have HB9 := Lib.hid (show Ex w9 gc ⟨(xk : Int), (xn : Int), (xd : Int), xv⟩ ∧ Below w2.heap.size w2 w9 from ⟨Rg.blk_apart HB7.out.1 HO7.out.2 (by decide) hg9, HB7.out.2.trans hb9⟩)
          have HO9 := Lib.hid ho9
          clear ho9 hb9 hg9
          refine hK.out _ _ HB9.out (fun _ => ?_)
          clear hK K
          simp only [Act.put, List.setIfInBounds_toArray, List.set_cons_zero, List.set_cons_succ]
          refine take_in (i := 17) (oi := ⟨_, _, _, _, _, _⟩) (v := ?_) rfl (by kernel_rfl) (by kernel_rfl) (by kernel_rfl) (fun _ _ _ h => h) (by rfl) ?_ HB9.out ?_
          rotate_left
          · intro W hW; go_simp; with_reducible rfl
          simp only [Act.put, List.setIfInBounds_toArray, List.set_cons_zero, List.set_cons_succ]
          refine wpAnyH_done (by kernel_rfl) ?_ _
          clear wj wn wd
          go_wp2
          refine ⟨⟨A9, 8 + 2 * j + 4 * u + 4, c9, u + 1, rfl, by go_num, by omega, ?_, HB9.out.2⟩, by simp [intOf]; omega⟩
          rw [HNX.out, ← List.append_assoc]
          exact HO9.out
        · have HOF := Lib.hid (show Rg.OwnG KN wl w2.heap.size A4 (8 + 2 * j + 4 * u) c4 (L1 ++ bk.flatMap entN) from by have := HO.out; rwa [List.take_of_length_le (by have h2 := HTN.out; omega)] at this)
          have hpo := HPO.out _ HNM.out
          generalize L1 ++ bk.flatMap entN = L2 at HOF hpo
          have HPO2 := Lib.hid hpo
          clear hpo HPO HNM HO
          have hlen := HOF.out.1
          have HLEN := Lib.hid hlen; clear hlen
          go_wp2_with fail
          refine (put_c none 0 0 [] rfl A4 (8 + 2 * j + 4 * u) c4 L2 HLEN.out HPO2.out.1 wl.heap.size _ Rd.nil (rs_rd HOF.out.rs) (Nat.le_refl _) (by unfold big; omega)).mono ?_
          rintro e0 w9 ⟨A5, n5, c5, rfl, ho5, hb5⟩
          have HO5 := Lib.hid ho5; have HB5 := Lib.hid (HBL.out.trans (hb5.mono HBL.out.size)); have HZB := Lib.hid (Nat.le_trans HB.out.size HBL.out.size)
          clear ho5 hb5
          go_wp2
          go_ret
          refine ⟨A5, n5, c5, rfl, ?_, HB.out.trans (HB5.out.mono HB.out.size)⟩
          rw [HPO2.out.2]
          exact HO5.out.base HZB.out
theorem forms_c (m : M) (s t : S3) (w : World) (h : Mo w m s t) (hr : rightM m = true) : Calls Try.prog 28 #[mvv m s t] w (RetOwn w w.heap.size (bodyM m)) := by
  have hri := (rightM_iff m).1 hr
  have hhd := (headM_iff m).1 hri.1
  obtain ⟨kd, sr, ds, ic, sq, va, vd, cs, bk⟩ := m
  obtain ⟨a, e, rfl, rfl, ha, he⟩ := Chgw.right_nat hri.2.1
  simp only at hhd
  obtain ⟨k, rfl⟩ : ∃ k : Nat, kd = (k : Int) := ⟨kd.toNat, by omega⟩
  obtain ⟨r, rfl⟩ : ∃ k : Nat, sr = (k : Int) := ⟨sr.toNat, by omega⟩
  obtain ⟨d, rfl⟩ : ∃ k : Nat, ds = (k : Int) := ⟨ds.toNat, by omega⟩
  obtain ⟨i, rfl⟩ : ∃ k : Nat, ic = (k : Int) := ⟨ic.toNat, by omega⟩
  obtain ⟨q, rfl⟩ : ∃ k : Nat, sq = (k : Int) := ⟨sq.toNat, by omega⟩
  exact forms_core k r d i q a e (by omega) (by omega) (by omega) (by omega) (by omega) ha he cs bk s t w h hr
theorem body_len {m : M} (h : rightM m = true) : (bodyM m).length + 4 ≤ 1000 := by
  have h1 := numsM_le h
  have h2 := Lg.forms_len (numsM m)
  unfold bodyM
  omega
set_option maxHeartbeats 2000000 in
theorem frame_c (m : M) (s t : S3) (w : World) (h : Mo w m s t) : Calls Try.prog 12 #[mvv m s t] w (RetFr w m) := by
  have HMO := Lib.hid h; clear h
  have HRC := Lib.hid (fun W h => right_c m s t W h)
  have HFC := Lib.hid (fun W h hr => forms_c m s t W h hr)
  have HBL := Lib.hid (fun h => body_len (m := m) h)
  have HY := Lib.hid (fun h => fr_yes (m := m) h)
  have HN := Lib.hid (fun h => fr_no (m := m) h)
  have HFM : Hid (frameM m = Crc.seal_ (bodyM m)) := Lib.hid rfl
  generalize hrr : rightM m = r at HRC HFC HBL HY HN
  clear hrr
  generalize frameM m = fm at HFM HY
  generalize bodyM m = bm at HFM HFC HBL
  unfold RetFr
  generalize frE m = fe at HY HN ⊢
  generalize frB m = fb at HY HN ⊢
  obtain ⟨kd, sr, ds, ic, sq, va, vd, cs, bk⟩ := m
  unfold mvv at HRC HFC ⊢
  simp only at HRC HFC ⊢
  go_enter Try.func12, Try.ntmps12
  go_upto_region 1 with (fail)
  have HB := Lib.hid (bal (Below.refl w.heap.size w) (Nat.le_refl _) (.cells #[.int .i64 kd, .int .i64 sr, .int .i64 ds, .int .i64 ic, .int .i64 sq, .int .i64 va, .int .i64 vd, .slice s.a s.n s.c, .slice t.a t.n t.c] 29))
  have HX := Lib.hid (show Mx (w.alloc (.cells #[.int .i64 kd, .int .i64 sr, .int .i64 ds, .int .i64 ic, .int .i64 sq, .int .i64 va, .int .i64 vd, .slice s.a s.n s.c, .slice t.a t.n t.c] 29)) w.heap.size ⟨kd, sr, ds, ic, sq, va, vd, cs, bk⟩ s t from hat _ _ _ rfl)
  have HMO := Lib.hid (HMO.out.all HB.out)
  generalize w.alloc (.cells #[.int .i64 kd, .int .i64 sr, .int .i64 ds, .int .i64 ic, .int .i64 sq, .int .i64 va, .int .i64 vd, .slice s.a s.n s.c, .slice t.a t.n t.c] 29) = w1 at HX HB HMO ⊢
  generalize hgx : w.heap.size = gx at HX ⊢
  have HGX := Lib.hid hgx; clear hgx
  obtain ⟨x0, x1, x2, x3, x4, x5, x6, x7, x8⟩ := HX.out.cs
  simp only at x0 x1 x2 x3 x4 x5 x6 x7 x8
  go_wp2_with fail
  refine (HRC.out _ HMO.out).mono ?_
  rintro e w2 ⟨rfl, hb⟩
  have HX := Lib.hid (HX.out.all hb); have HMO := Lib.hid (HMO.out.all hb)
  have HB := Lib.hid (HB.out.trans (hb.mono HB.out.size)); clear hb x0 x1 x2 x3 x4 x5 x6 x7 x8
  cases r with
  | false =>
    have HE := Lib.hid (HN.out rfl)
    clear HN HY
    go_wp2
    go_ret2
    refine ⟨none, 0, 0, by rw [HE.out.1]; rfl, ?_, Nat.le_refl _, ?_, HGX.out ▸ HB.out⟩
    · rw [HE.out.2]; rfl
    · rw [HE.out.2]; exact Rd.nil
  | true =>
    have HE := Lib.hid (HY.out rfl)
    have HL := Lib.hid (HBL.out rfl)
    clear HN HY
    obtain ⟨x0, x1, x2, x3, x4, x5, x6, x7, x8⟩ := HX.out.cs
    simp only at x0 x1 x2 x3 x4 x5 x6 x7 x8
    go_wp2_with fail
    refine (HFC.out _ HMO.out (by first | trivial | rfl)).mono ?_
    rintro e w3 ⟨A3, n3, c3, rfl, ho3, hb⟩
    have HO := Lib.hid ho3; have HB := Lib.hid (HB.out.trans (hb.mono HB.out.size)); clear hb ho3 x0 x1 x2 x3 x4 x5 x6 x7 x8
    go_wp2_with fail
    refine (seal_c A3 n3 c3 _ HO.out.1 w3.heap.size _ HO.out.rd (Nat.le_refl _) (by have := HO.out.1; have := HL.out; unfold big; omega)).mono ?_
    rintro e w4 ⟨A4, n4, c4, rfl, ho4, hb⟩
    have HO4 := Lib.hid ho4; have HB := Lib.hid (HB.out.trans (hb.mono HB.out.size)); clear hb ho4
    go_wp2
    go_ret2
    refine ⟨A4, n4, c4, by rw [HE.out.1]; rfl, ?_, HO4.out.cap, ?_, HGX.out ▸ HB.out⟩
    · rw [HE.out.2, HFM.out]; exact HO4.out.1
    · rw [HE.out.2, HFM.out]; exact HO4.out.rd
end Go.Proofs.Ytldfccllpnplmaa.Msw
