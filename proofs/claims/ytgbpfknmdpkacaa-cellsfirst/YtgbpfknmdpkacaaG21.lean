/- Contracts and words on which the claims of this seat stand, part 21: ClB ClD. -/
import Derived.Test.YtgbpfknmdpkacaaG04
import Derived.Test.YtgbpfknmdpkacaaG19
set_option linter.unusedSimpArgs false
set_option linter.unusedVariables false
namespace Go.Proofs.Ytgbpfknmdpkacaa.Clw
set_option maxRecDepth 20000
open Go.RowKit
open Chg Vw Cl
open Chgw (hat hbe ret_bool vw Vi)
open Rg (bal)

theorem clos_c (x : C) (key : Int) (g : Nat) (w : World) (hg : w.cell? ⟨g, 0, none⟩ = some (.int .i64 key)) (hl : g < w.heap.size) : Calls Try.prog 31 #[cv x, .pointer (some ⟨g, 0, none⟩)] w fun e w' => e = .returned (.bool (x.1 == key)) ∧ Below w.heap.size w w' := by
  obtain ⟨xk, xa, xd⟩ := x
  have hg2 : (w.alloc (.cells #[.int .i64 xk, .int .i64 xa, .int .i64 xd] 38)).cell? ⟨g, 0, none⟩ = some (.int .i64 key) := ((bal (Below.refl w.heap.size w) (Nat.le_refl _) _).cell (by show g < _; omega)).trans hg
  unfold cv
  simp only
  go_enter Try.func31, Try.ntmps31
  go_wp2
  go_ret
  exact ⟨rfl, bal (Below.refl _ _) (Nat.le_refl _) _⟩
/-- where a node's cell stands: the first place, or none -/
def AtC (es : List C) (key : Int) : Option Nat → Prop
  | none => (getC es key).2.1 = 0 ∧ (getC es key).2.2 = 0 ∧ hasC es key = false
  | some k => ∃ x, es[k]? = some x ∧ (getC es key).2.1 = x.2.1 ∧ (getC es key).2.2 = x.2.2 ∧ hasC es key = true
def atI : Option Nat → Int
  | none => -1
  | some k => k
set_option maxHeartbeats 1000000 in
theorem index_c (A : Option Addr) (n c : Nat) (es : List C) (hn : n = es.length) (hl : n ≤ 140737488355328) (key : Int) (g : Nat) (B : Nat) (w : World) (hr : Rg.Rs KC w B A es) (hB : B ≤ w.heap.size) (hg : w.cell? ⟨g, 0, none⟩ = some (.int .i64 key)) (hgl : g < w.heap.size) :
    Calls Try.prog 30 #[.slice A n c, .func (.func 31) #[] #[.pointer (some ⟨g, 0, none⟩)]] w fun e w' => ∃ k, e = .returned (.int .i64 (atI k)) ∧ AtC es key k ∧ Below w.heap.size w w' := by
  have HN := Lib.hid hn; clear hn
  have HR := Lib.hid hr; clear hr
  have HF : Hid (∀ k x, es[k]? = some x → x.1 = key → (∀ y ∈ es.take k, ¬ y.1 = key) → (getC es key).2.1 = x.2.1 ∧ (getC es key).2.2 = x.2.2 ∧ hasC es key = true) := Lib.hid (fun k x h1 h2 h3 => get_at (fnd_take es k key x h1 h2 h3))
  have HZ : Hid ((∀ y ∈ es, ¬ y.1 = key) → (getC es key).2.1 = 0 ∧ (getC es key).2.2 = 0 ∧ hasC es key = false) := Lib.hid (fun h => get_no (fnd_none es key h))
  have HG : Hid (∀ W, Below w.heap.size w W → W.cell? ⟨g, 0, none⟩ = some (.int .i64 key)) := Lib.hid (fun W h => (h.cell (by show g < _; exact hgl)).trans hg)
  clear hg
  go_enter Try.func30, Try.ntmps30
  go_wp2
  go_loopw [8] (fun i wr => ∃ k : Nat, i = .int .i64 k ∧ k ≤ n ∧ (∀ y ∈ es.take k, ¬ y.1 = key) ∧ Below w.heap.size w wr) (fun i _ => n - (intOf i).toNat)
  case atStart => exact ⟨0, rfl, by omega, by simp, Below.refl _ _⟩
  case round =>
    obtain ⟨k, rfl, hk, hno, hb⟩ := hrel
    have HB := Lib.hid hb; have HNO := Lib.hid hno
    have hsz := hb.size
    clear hb hno
    by_cases h : k < n
    · obtain ⟨b, o, rfl, hbB, hcell⟩ := HR.out (by rw [← HN.out]; omega)
      have hkl : k < es.length := by rw [← HN.out]; exact h
      have hz : es[k]? = some es[k] := List.getElem?_eq_getElem hkl
      have hc0 := (tri_at (hcell k es[k] hz)).below (HB.out.mono hB) hbB
      generalize es[k] = x at hz hc0
      obtain ⟨xk, xa, xd⟩ := x
      obtain ⟨x0, x1, x2⟩ := hc0
      rw [show KC.k = 3 from rfl] at x0 x1 x2
      have HX := Lib.hid hz
      clear hz hcell hkl
      go_wp2_with fail
      refine (clos_c (xk, xa, xd) key g _ (HG.out _ HB.out) (by omega)).mono ?_
      rintro e w2 ⟨rfl, hb2⟩
      have HB := Lib.hid (HB.out.trans (hb2.mono HB.out.size)); clear hb2
      clear x0 x1 x2
      simp only
      by_cases hx : xk = key
      · have HE := Lib.hid (HF.out k _ HX.out hx HNO.out)
        have hq : (xk == key) = true := by rw [beq_iff_eq]; exact hx
        clear hx HF HZ
        rw [hq]
        go_wp2
        go_ret
        exact ⟨some k, rfl, ⟨_, HX.out, HE.out⟩, HB.out⟩
      · have hq : (xk == key) = false := by rw [beq_eq_false_iff_ne]; exact hx
        have HNX := Lib.hid (not_more HX.out hx HNO.out)
        clear hx
        rw [hq]
        go_wp2
        exact ⟨⟨k + 1, by go_num, by omega, HNX.out, HB.out⟩, by simp [intOf]; omega⟩
    · have HE := Lib.hid (HZ.out (by
        have := HNO.out
        rwa [List.take_of_length_le (by rw [← HN.out]; omega)] at this))
      clear HF HZ
      go_wp2
      go_ret
      exact ⟨none, rfl, HE.out, HB.out⟩
set_option maxHeartbeats 1000000 in
theorem of_own (A : Option Addr) (n c : Nat) (es : List C) (hn : n = es.length) (hl : n ≤ 140737488355328) (key : Int) (B : Nat) (w : World) (hr : Rg.Rs KC w B A es) (hB : B ≤ w.heap.size) :
    Calls Try.prog 13 #[.slice A n c, .int .i64 key] w (RetOf w (getC es key).2.1 (getC es key).2.2 (hasC es key)) := by
  have HN := Lib.hid hn
  have HR := Lib.hid hr
  have HI : Hid (∀ g W, Below w.heap.size w W → W.cell? ⟨g, 0, none⟩ = some (.int .i64 key) → g < W.heap.size → Calls Try.prog 30 #[.slice A n c, .func (.func 31) #[] #[.pointer (some ⟨g, 0, none⟩)]] W fun e w' => ∃ k, e = .returned (.int .i64 (atI k)) ∧ AtC es key k ∧ Below W.heap.size W w') := Lib.hid (fun g W hW hg hgl => index_c A n c es hn hl key g B W (hr.below (hW.mono hB)) (Nat.le_trans hB hW.size) hg hgl)
  clear hn hr
  go_enter Try.func13, Try.ntmps13
  go_wp2_with fail
  have V0 := Lib.hid (show Vi ((w.alloc (.cells #[.int .i64 key] 3)).alloc (.cells #[.int .i64 0, .int .i64 0] 31)) (w.heap.size + 1) 0 0 from hat _ _ _ (by simp))
  have HC := Lib.hid (show ((w.alloc (.cells #[.int .i64 key] 3)).alloc (.cells #[.int .i64 0, .int .i64 0] 31)).heap[w.heap.size]? = some (.cells #[.int .i64 key] 3) from hbe (hat _ _ _ rfl))
  have HB := Lib.hid (bal (bal (Below.refl w.heap.size w) (Nat.le_refl _) (.cells #[.int .i64 key] 3)) (Nat.le_refl _) (.cells #[.int .i64 0, .int .i64 0] 31))
  generalize (w.alloc (.cells #[.int .i64 key] 3)).alloc (.cells #[.int .i64 0, .int .i64 0] 31) = w1 at V0 HC HB ⊢
  have hl1 := V0.out.lt
  have HC1 := Lib.hid (show w1.cell? ⟨w.heap.size, 0, none⟩ = some (.int .i64 key) from by rw [cell_of_row _ _ _ _ _ _ HC.out]; rfl)
  refine (HI.out w.heap.size w1 HB.out HC1.out (by omega)).mono ?_
  rintro e w2 ⟨k, rfl, hat, hb2⟩
  have V0 := Lib.hid (V0.out.below hb2)
  have HB := Lib.hid (HB.out.trans (hb2.mono HB.out.size)); clear hb2
  have z0 := V0.out.c0; have z1 := V0.out.c1
  have f0 := frozen_of_row w2 (w.heap.size + 1) 0 _ _ V0.out
  have f1 := frozen_of_row w2 (w.heap.size + 1) 1 _ _ V0.out
  clear HI HC HC1
  cases k with
  | none =>
    have HE := Lib.hid (show (getC es key).2.1 = 0 ∧ (getC es key).2.2 = 0 ∧ hasC es key = false from hat)
    clear hat HR HN
    simp only [atI]
    go_wp2
    refine bodyPost_ret (results_vi2 (g := w.heap.size + 1) (a := 0) (d := 0) (x := .bool false) rfl rfl rfl (vi_put V0.out 0 0)) rfl ?_
    exact ⟨by rw [HE.out.1, HE.out.2.1, HE.out.2.2], (HB.out.setCell (by simp) _).setCell (by simp) _⟩
  | some k =>
    obtain ⟨x, hx, hf⟩ := hat
    have HE := Lib.hid hf
    have hkl := lt_of_get hx
    have h : k < n := by rw [HN.out]; exact hkl
    obtain ⟨b, o, rfl, hbB, hcell⟩ := HR.out (by omega)
    have hc0 := (tri_at (hcell k x hx)).below (HB.out.mono hB) hbB
    obtain ⟨xk, xa, xd⟩ := x
    obtain ⟨x0, x1, x2⟩ := hc0
    rw [show KC.k = 3 from rfl] at x0 x1 x2
    have hbw : b ≠ w.heap.size + 1 := by omega
    have hk0 : ¬ ((k : Int) < 0) := by omega
    clear hx hf hcell hkl HR HN
    simp only [atI]
    go_wp2
    refine bodyPost_ret (results_vi2 (g := w.heap.size + 1) (a := xa) (d := xd) (x := .bool true) rfl rfl rfl (vi_put V0.out xa xd)) rfl ?_
    exact ⟨by rw [HE.out.1, HE.out.2.1, HE.out.2.2], (HB.out.setCell (by simp) _).setCell (by simp) _⟩
theorem of_c (A : Option Addr) (n c : Nat) (es : List C) (key : Int) (w : World) (h : Sc w A n c es) : Calls Try.prog 13 #[.slice A n c, .int .i64 key] w (RetOf w (getC es key).2.1 (getC es key).2.2 (hasC es key)) :=
  of_own A n c es h.1 (by have := h.2.2.1; omega) key _ w h.2.2.2 (Nat.le_refl _)
theorem okC_node {x : C} (h : ¬ (0 ≤ x.1 ∧ x.1 < 6)) : okC x = false := by
  rw [← Bool.not_eq_true, okC_iff]
  omega
theorem okC_right {x : C} (h : rvC x.2.1 x.2.2 = false) : okC x = false := by
  rw [← Bool.not_eq_true, okC_iff, h]
  simp
theorem okC_size {x : C} (h : 0 ≤ x.1 ∧ x.1 < 6) {a d : Nat} (ha : x.2.1 = (a : Int)) (hd : x.2.2 = (d : Int)) (h1 : a < 64) (h2 : d < 64) : okC x = decide (0 < cnt a + cnt d) := by
  have key : ∀ p q : Fin 64, (0 < cnt p.1 + cnt q.1) ↔ ¬ (p.1 = 0 ∧ q.1 = 0) := by decide +kernel
  have := key ⟨a, h1⟩ ⟨d, h2⟩
  rw [Bool.eq_iff_iff, okC_iff, decide_eq_true_iff, ha, hd]
  simp only at this
  rw [this]
  unfold rvC
  rw [decide_eq_true_iff]
  omega
set_option maxHeartbeats 1000000 in
theorem cell_c (x : C) (w : World) : Calls Try.prog 25 #[cv x] w fun e w' => e = .returned (.bool (okC x)) ∧ Below w.heap.size w w' := by
  have HK := Lib.hid (okC_node (x := x)); have HM := Lib.hid (okC_right (x := x)); have HS := Lib.hid (@okC_size x)
  generalize okC x = r at HK HM HS ⊢
  obtain ⟨xk, xa, xd⟩ := x
  unfold cv
  simp only at HK HM HS ⊢
  go_enter Try.func25, Try.ntmps25
  by_cases h0 : 0 ≤ xk
  · by_cases h6 : xk < 6
    · go_wp2_with fail
      have VX := Lib.hid (show Cx (w.alloc (.cells #[.int .i64 xk, .int .i64 xa, .int .i64 xd] 38)) w.heap.size (xk, xa, xd) from hat _ _ _ rfl)
      have HB := Lib.hid (bal (Below.refl w.heap.size w) (Nat.le_refl _) (.cells #[.int .i64 xk, .int .i64 xa, .int .i64 xd] 38))
      generalize w.alloc (.cells #[.int .i64 xk, .int .i64 xa, .int .i64 xd] 38) = w1 at VX HB ⊢
      generalize w.heap.size = gx at VX ⊢
      refine (Chgw.right_c xa xd _).mono ?_
      rintro e w2 ⟨rfl, hb⟩
      have VX := Lib.hid (VX.out.all hb)
      have HB := Lib.hid (HB.out.trans (hb.mono HB.out.size)); clear hb
      have HRV := Lib.hid (rv_right xa xd)
      rw [HRV.out]
      cases hv : rvC xa xd with
      | false =>
        have HE := Lib.hid (HM.out hv)
        clear HK HM HS hv
        go_wp2
        go_ret
        exact ⟨ret_bool HE.out.symm, HB.out⟩
      | true =>
        obtain ⟨a, d, rfl, rfl, ha, hd⟩ := Chgw.right_nat (HRV.out.trans hv)
        have HE := Lib.hid (HS.out ⟨h0, h6⟩ rfl rfl ha hd)
        clear HK HM HS hv HRV
        have x1 := VX.out.c1; have x2 := VX.out.c2
        go_wp2_with fail
        refine (Chgw.size_c a d ha hd _).mono ?_
        rintro e w3 ⟨rfl, hb⟩
        have HB := Lib.hid (HB.out.trans (hb.mono HB.out.size)); clear hb x1 x2
        generalize cnt a + cnt d = q at HE ⊢
        go_wp2
        go_ret
        exact ⟨ret_bool HE.out.symm, HB.out⟩
    · have HE := Lib.hid (HK.out (by omega))
      clear HK HM HS
      go_wp2
      go_ret
      exact ⟨ret_bool HE.out.symm, bal (Below.refl _ _) (Nat.le_refl _) _⟩
  · have HE := Lib.hid (HK.out (by omega))
    clear HK HM HS
    go_wp2
    go_ret
    exact ⟨ret_bool HE.out.symm, bal (Below.refl _ _) (Nat.le_refl _) _⟩
end Go.Proofs.Ytgbpfknmdpkacaa.Clw

namespace Go.Proofs.Ytgbpfknmdpkacaa.Clw
set_option maxRecDepth 20000
open Go.RowKit
open Chg Vw Cl
open Chgw (hat hbe ret_bool vw Vi)
open Rg (bal)

set_option maxHeartbeats 1000000 in
theorem check_own (A : Option Addr) (n c : Nat) (es : List C) (hn : n = es.length) (hl : n ≤ 140737488355328) (B : Nat) (w : World) (hr : Rg.Rs KC w B A es) (hB : B ≤ w.heap.size) :
    Calls Try.prog 9 #[.slice A n c] w fun e w' => e = .returned (.int .i64 (chkM es)) ∧ Below w.heap.size w w' := by
  have HN := Lib.hid hn; have HR := Lib.hid hr
  have HZ : Hid (isCl es = true → chkM es = 0) := Lib.hid (fun h => if_pos h)
  have HX : Hid (isCl es = false → chkM es = 101) := Lib.hid (fun h => by unfold chkM; rw [h]; rfl)
  generalize chkM es = r at HZ HX ⊢
  clear hn hr
  go_enter Try.func9, Try.ntmps9
  go_wp2
  go_loopw [7] (fun i wr => ∃ k : Nat, i = .int .i64 k ∧ k ≤ n ∧ isCl es = chkC (prevC es k) (es.drop k) ∧ Below w.heap.size w wr) (fun i _ => n - (intOf i).toNat)
  case atStart => exact ⟨0, rfl, by omega, rfl, Below.refl _ _⟩
  case round =>
    obtain ⟨k, rfl, hk, hall, hb⟩ := hrel
    have HB := Lib.hid hb; have HA := Lib.hid hall
    have hsz := hb.size
    clear hb hall
    by_cases h : k < n
    · obtain ⟨b, o, rfl, hbB, hcell⟩ := HR.out (by rw [← HN.out]; omega)
      have hkl : k < es.length := by rw [← HN.out]; exact h
      have hz : es[k]? = some es[k] := List.getElem?_eq_getElem hkl
      have hc0 := (tri_at (hcell k es[k] hz)).below (HB.out.mono hB) hbB
      have HD := Lib.hid (chkC_drop es k es[k] hz)
      generalize es[k] = x at hz hc0 HD
      obtain ⟨xk, xa, xd⟩ := x
      obtain ⟨x0, x1, x2⟩ := hc0
      rw [show KC.k = 3 from rfl] at x0 x1 x2
      have HEC := Lib.hid (fun W => cell_c (xk, xa, xd) W)
      clear hz hkl
      have HBAD : Hid (okC (xk, xa, xd) = false ∨ ¬ prevC es k < xk → r = 101) := Lib.hid (fun hc => HX.out (by
        rw [HA.out, HD.out]
        rcases hc with hc | hc
        · rw [hc]; rfl
        · rw [decide_eq_false hc, Bool.and_false]; rfl))
      have HPOS : Hid (okC (xk, xa, xd) = true → -1 < xk) := Lib.hid (fun h => by have := (okC_iff _).1 h; simp only at this; omega)
      cases hok : okC (xk, xa, xd) with
      | false =>
        have HOK := Lib.hid hok
        have HRB := Lib.hid (HBAD.out (Or.inl hok))
        clear hok
        go_wp2_with fail
        have VX := Lib.hid (show Cx (wr.alloc (.cells #[.int .i64 xk, .int .i64 xa, .int .i64 xd] 38)) wr.heap.size (xk, xa, xd) from hat _ _ _ rfl)
        have HBW := Lib.hid (bal HB.out (Nat.le_refl _) (.cells #[.int .i64 xk, .int .i64 xa, .int .i64 xd] 38))
        generalize wr.alloc (.cells #[.int .i64 xk, .int .i64 xa, .int .i64 xd] 38) = w1 at VX HBW ⊢
        generalize wr.heap.size = gx at VX ⊢
        have HK : Hid (∀ W', Below w1.heap.size w1 W' → (W'.cell? ⟨gx, 0, none⟩ = some (.int .i64 xk) ∧ W'.cell? ⟨gx, 1, none⟩ = some (.int .i64 xa) ∧ W'.cell? ⟨gx, 2, none⟩ = some (.int .i64 xd)) ∧ True) := Lib.hid (fun W' h => ⟨⟨(VX.out.all h).c0, (VX.out.all h).c1, (VX.out.all h).c2⟩, trivial⟩)
        clear x0 x1 x2
        refine wp_region_held_drew (S := fun W' => Below w1.heap.size w1 W') (by kernel_rfl) (Below.refl _ _).drew (fun hHeld => ?_)
        generalize w1.drew = w5 at hHeld ⊢
        have HB5 : Hid (Below w1.heap.size w1 w5) := hHeld
        clear hHeld
        refine take_in (i := 0) (oi := ⟨_, _, _, _, _, _⟩) (v := ?_) rfl (by kernel_rfl) (by kernel_rfl) (by kernel_rfl) (fun _ _ _ h => h) (by rfl) ?_ HB5.out ?_
        rotate_left
        · intro W hW; have hq := HK.out W hW; go_simp; with_reducible rfl
        simp only [Act.put, List.setIfInBounds_toArray, List.set_cons_zero, List.set_cons_succ]
        refine wpAnyH_ready (rs := [1]) (by kernel_rfl) (by simp) ?_
        refine AllReadyH.cons (o := ⟨_, _, _, _, _, _⟩) rfl (fun K hK => ?_) AllReadyH.nil
        go_simp
        refine (HEC.out _).mono ?_
        rw [HOK.out]
        rintro e w6 ⟨rfl, hb6⟩
        have HB6 := Lib.hid (HB5.out.trans (hb6.mono HB5.out.size)); clear hb6
        refine hK.out _ _ HB6.out (fun _ => ?_)
        clear hK K
        refine take_in (i := 2) (oi := ⟨_, _, _, _, _, _⟩) (v := ?_) rfl (by kernel_rfl) (by kernel_rfl) (by kernel_rfl) (fun _ _ _ h => h) (by rfl) ?_ HB6.out ?_
        rotate_left
        · intro W hW; go_simp; with_reducible rfl
        simp only [Act.put, List.setIfInBounds_toArray, List.set_cons_zero, List.set_cons_succ]
        refine take_in (i := 3) (oi := ⟨_, _, _, _, _, _⟩) (v := ?_) rfl (by kernel_rfl) (by kernel_rfl) (by kernel_rfl) (fun _ _ _ h => h) (by rfl) ?_ HB6.out ?_
        rotate_left
        · intro W hW; go_simp; with_reducible rfl
        simp only [Act.put, List.setIfInBounds_toArray, List.set_cons_zero, List.set_cons_succ]
        refine skip_in (i := 4) (oi := ⟨_, _, _, _, _, _⟩) rfl (by kernel_rfl) (by kernel_rfl) (by kernel_rfl) (fun _ _ _ h => h) (by rfl) HB6.out ?_
        simp only [Act.put, List.setIfInBounds_toArray, List.set_cons_zero, List.set_cons_succ]
        refine skip_in (i := 5) (oi := ⟨_, _, _, _, _, _⟩) rfl (by kernel_rfl) (by kernel_rfl) (by kernel_rfl) (fun _ _ _ h => h) (by rfl) HB6.out ?_
        simp only [Act.put, List.setIfInBounds_toArray, List.set_cons_zero, List.set_cons_succ]
        refine skip_in (i := 6) (oi := ⟨_, _, _, _, _, _⟩) rfl (by kernel_rfl) (by kernel_rfl) (by kernel_rfl) (fun _ _ _ h => h) (by rfl) HB6.out ?_
        simp only [Act.put, List.setIfInBounds_toArray, List.set_cons_zero, List.set_cons_succ]
        refine skip_in (i := 7) (oi := ⟨_, _, _, _, _, _⟩) rfl (by kernel_rfl) (by kernel_rfl) (by kernel_rfl) (fun _ _ _ h => h) (by rfl) HB6.out ?_
        simp only [Act.put, List.setIfInBounds_toArray, List.set_cons_zero, List.set_cons_succ]
        refine skip_in (i := 8) (oi := ⟨_, _, _, _, _, _⟩) rfl (by kernel_rfl) (by kernel_rfl) (by kernel_rfl) (fun _ _ _ h => h) (by rfl) HB6.out ?_
        simp only [Act.put, List.setIfInBounds_toArray, List.set_cons_zero, List.set_cons_succ]
        refine skip_in (i := 9) (oi := ⟨_, _, _, _, _, _⟩) rfl (by kernel_rfl) (by kernel_rfl) (by kernel_rfl) (fun _ _ _ h => h) (by rfl) HB6.out ?_
        simp only [Act.put, List.setIfInBounds_toArray, List.set_cons_zero, List.set_cons_succ]
        refine skip_in (i := 10) (oi := ⟨_, _, _, _, _, _⟩) rfl (by kernel_rfl) (by kernel_rfl) (by kernel_rfl) (fun _ _ _ h => h) (by rfl) HB6.out ?_
        simp only [Act.put, List.setIfInBounds_toArray, List.set_cons_zero, List.set_cons_succ]
        refine skip_in (i := 11) (oi := ⟨_, _, _, _, _, _⟩) rfl (by kernel_rfl) (by kernel_rfl) (by kernel_rfl) (fun _ _ _ h => h) (by rfl) HB6.out ?_
        simp only [Act.put, List.setIfInBounds_toArray, List.set_cons_zero, List.set_cons_succ]
        refine skip_in (i := 12) (oi := ⟨_, _, _, _, _, _⟩) rfl (by kernel_rfl) (by kernel_rfl) (by kernel_rfl) (fun _ _ _ h => h) (by rfl) HB6.out ?_
        simp only [Act.put, List.setIfInBounds_toArray, List.set_cons_zero, List.set_cons_succ]
        refine skip_in (i := 13) (oi := ⟨_, _, _, _, _, _⟩) rfl (by kernel_rfl) (by kernel_rfl) (by kernel_rfl) (fun _ _ _ h => h) (by rfl) HB6.out ?_
        simp only [Act.put, List.setIfInBounds_toArray, List.set_cons_zero, List.set_cons_succ]
        refine skip_in (i := 14) (oi := ⟨_, _, _, _, _, _⟩) rfl (by kernel_rfl) (by kernel_rfl) (by kernel_rfl) (fun _ _ _ h => h) (by rfl) HB6.out ?_
        simp only [Act.put, List.setIfInBounds_toArray, List.set_cons_zero, List.set_cons_succ]
        refine skip_in (i := 15) (oi := ⟨_, _, _, _, _, _⟩) rfl (by kernel_rfl) (by kernel_rfl) (by kernel_rfl) (fun _ _ _ h => h) (by rfl) HB6.out ?_
        simp only [Act.put, List.setIfInBounds_toArray, List.set_cons_zero, List.set_cons_succ]
        refine skip_in (i := 16) (oi := ⟨_, _, _, _, _, _⟩) rfl (by kernel_rfl) (by kernel_rfl) (by kernel_rfl) (fun _ _ _ h => h) (by rfl) HB6.out ?_
        simp only [Act.put, List.setIfInBounds_toArray, List.set_cons_zero, List.set_cons_succ]
        refine take_in (i := 17) (oi := ⟨_, _, _, _, _, _⟩) (v := ?_) rfl (by kernel_rfl) (by kernel_rfl) (by kernel_rfl) (fun _ _ _ h => h) (by rfl) ?_ HB6.out ?_
        rotate_left
        · intro W hW; go_simp; with_reducible rfl
        simp only [Act.put, List.setIfInBounds_toArray, List.set_cons_zero, List.set_cons_succ]
        refine wpAnyH_done (by kernel_rfl) ?_ _
        go_wp2
        go_ret
        exact ⟨by rw [HRB.out]; rfl, HBW.out.trans (HB6.out.mono HBW.out.size)⟩
      | true =>
      have HOK := Lib.hid hok
      have HGO : Hid (prevC es k < xk → isCl es = chkC (prevC es (k + 1)) (es.drop (k + 1))) := Lib.hid (fun hp => by rw [HA.out, HD.out, HOK.out, decide_eq_true hp]; rfl)
      have HPOS := Lib.hid (HPOS.out hok)
      clear hok
      cases k with
      | zero =>
        have HGOOD := Lib.hid (HGO.out HPOS.out)
        simp only [Nat.zero_mul, Nat.add_zero] at x0 x1 x2
        go_wp2_with fail
        have VX := Lib.hid (show Cx (wr.alloc (.cells #[.int .i64 xk, .int .i64 xa, .int .i64 xd] 38)) wr.heap.size (xk, xa, xd) from hat _ _ _ rfl)
        have HBW := Lib.hid (bal HB.out (Nat.le_refl _) (.cells #[.int .i64 xk, .int .i64 xa, .int .i64 xd] 38))
        generalize wr.alloc (.cells #[.int .i64 xk, .int .i64 xa, .int .i64 xd] 38) = w1 at VX HBW ⊢
        generalize wr.heap.size = gx at VX ⊢
        have HK : Hid (∀ W', Below w1.heap.size w1 W' → (W'.cell? ⟨gx, 0, none⟩ = some (.int .i64 xk) ∧ W'.cell? ⟨gx, 1, none⟩ = some (.int .i64 xa) ∧ W'.cell? ⟨gx, 2, none⟩ = some (.int .i64 xd)) ∧ True) := Lib.hid (fun W' h => ⟨⟨(VX.out.all h).c0, (VX.out.all h).c1, (VX.out.all h).c2⟩, trivial⟩)
        clear x0 x1 x2
        refine wp_region_held_drew (S := fun W' => Below w1.heap.size w1 W') (by kernel_rfl) (Below.refl _ _).drew (fun hHeld => ?_)
        generalize w1.drew = w5 at hHeld ⊢
        have HB5 : Hid (Below w1.heap.size w1 w5) := hHeld
        clear hHeld
        refine take_in (i := 0) (oi := ⟨_, _, _, _, _, _⟩) (v := ?_) rfl (by kernel_rfl) (by kernel_rfl) (by kernel_rfl) (fun _ _ _ h => h) (by rfl) ?_ HB5.out ?_
        rotate_left
        · intro W hW; have hq := HK.out W hW; go_simp; with_reducible rfl
        simp only [Act.put, List.setIfInBounds_toArray, List.set_cons_zero, List.set_cons_succ]
        refine wpAnyH_ready (rs := [1]) (by kernel_rfl) (by simp) ?_
        refine AllReadyH.cons (o := ⟨_, _, _, _, _, _⟩) rfl (fun K hK => ?_) AllReadyH.nil
        go_simp
        refine (HEC.out _).mono ?_
        rw [HOK.out]
        rintro e w6 ⟨rfl, hb6⟩
        have HB6 := Lib.hid (HB5.out.trans (hb6.mono HB5.out.size)); clear hb6
        refine hK.out _ _ HB6.out (fun _ => ?_)
        clear hK K
        refine take_in (i := 2) (oi := ⟨_, _, _, _, _, _⟩) (v := ?_) rfl (by kernel_rfl) (by kernel_rfl) (by kernel_rfl) (fun _ _ _ h => h) (by rfl) ?_ HB6.out ?_
        rotate_left
        · intro W hW; go_simp; with_reducible rfl
        simp only [Act.put, List.setIfInBounds_toArray, List.set_cons_zero, List.set_cons_succ]
        refine take_in (i := 3) (oi := ⟨_, _, _, _, _, _⟩) (v := ?_) rfl (by kernel_rfl) (by kernel_rfl) (by kernel_rfl) (fun _ _ _ h => h) (by rfl) ?_ HB6.out ?_
        rotate_left
        · intro W hW; go_simp; with_reducible rfl
        simp only [Act.put, List.setIfInBounds_toArray, List.set_cons_zero, List.set_cons_succ]
        refine take_in (i := 4) (oi := ⟨_, _, _, _, _, _⟩) (v := ?_) rfl (by kernel_rfl) (by kernel_rfl) (by kernel_rfl) (fun _ _ _ h => h) (by rfl) ?_ HB6.out ?_
        rotate_left
        · intro W hW; go_simp; with_reducible rfl
        simp only [Act.put, List.setIfInBounds_toArray, List.set_cons_zero, List.set_cons_succ]
        refine take_in (i := 5) (oi := ⟨_, _, _, _, _, _⟩) (v := ?_) rfl (by kernel_rfl) (by kernel_rfl) (by kernel_rfl) (fun _ _ _ h => h) (by rfl) ?_ HB6.out ?_
        rotate_left
        · intro W hW; go_simp; with_reducible rfl
        simp only [Act.put, List.setIfInBounds_toArray, List.set_cons_zero, List.set_cons_succ]
        refine take_in (i := 6) (oi := ⟨_, _, _, _, _, _⟩) (v := ?_) rfl (by kernel_rfl) (by kernel_rfl) (by kernel_rfl) (fun _ _ _ h => h) (by rfl) ?_ HB6.out ?_
        rotate_left
        · intro W hW; go_simp; with_reducible rfl
        simp only [Act.put, List.setIfInBounds_toArray, List.set_cons_zero, List.set_cons_succ]
        refine skip_in (i := 7) (oi := ⟨_, _, _, _, _, _⟩) rfl (by kernel_rfl) (by kernel_rfl) (by kernel_rfl) (fun _ _ _ h => h) (by rfl) HB6.out ?_
        simp only [Act.put, List.setIfInBounds_toArray, List.set_cons_zero, List.set_cons_succ]
        refine skip_in (i := 8) (oi := ⟨_, _, _, _, _, _⟩) rfl (by kernel_rfl) (by kernel_rfl) (by kernel_rfl) (fun _ _ _ h => h) (by rfl) HB6.out ?_
        simp only [Act.put, List.setIfInBounds_toArray, List.set_cons_zero, List.set_cons_succ]
        refine skip_in (i := 9) (oi := ⟨_, _, _, _, _, _⟩) rfl (by kernel_rfl) (by kernel_rfl) (by kernel_rfl) (fun _ _ _ h => h) (by rfl) HB6.out ?_
        simp only [Act.put, List.setIfInBounds_toArray, List.set_cons_zero, List.set_cons_succ]
        refine skip_in (i := 10) (oi := ⟨_, _, _, _, _, _⟩) rfl (by kernel_rfl) (by kernel_rfl) (by kernel_rfl) (fun _ _ _ h => h) (by rfl) HB6.out ?_
        simp only [Act.put, List.setIfInBounds_toArray, List.set_cons_zero, List.set_cons_succ]
        refine skip_in (i := 11) (oi := ⟨_, _, _, _, _, _⟩) rfl (by kernel_rfl) (by kernel_rfl) (by kernel_rfl) (fun _ _ _ h => h) (by rfl) HB6.out ?_
        simp only [Act.put, List.setIfInBounds_toArray, List.set_cons_zero, List.set_cons_succ]
        refine skip_in (i := 12) (oi := ⟨_, _, _, _, _, _⟩) rfl (by kernel_rfl) (by kernel_rfl) (by kernel_rfl) (fun _ _ _ h => h) (by rfl) HB6.out ?_
        simp only [Act.put, List.setIfInBounds_toArray, List.set_cons_zero, List.set_cons_succ]
        refine skip_in (i := 13) (oi := ⟨_, _, _, _, _, _⟩) rfl (by kernel_rfl) (by kernel_rfl) (by kernel_rfl) (fun _ _ _ h => h) (by rfl) HB6.out ?_
        simp only [Act.put, List.setIfInBounds_toArray, List.set_cons_zero, List.set_cons_succ]
        refine skip_in (i := 14) (oi := ⟨_, _, _, _, _, _⟩) rfl (by kernel_rfl) (by kernel_rfl) (by kernel_rfl) (fun _ _ _ h => h) (by rfl) HB6.out ?_
        simp only [Act.put, List.setIfInBounds_toArray, List.set_cons_zero, List.set_cons_succ]
        refine skip_in (i := 15) (oi := ⟨_, _, _, _, _, _⟩) rfl (by kernel_rfl) (by kernel_rfl) (by kernel_rfl) (fun _ _ _ h => h) (by rfl) HB6.out ?_
        simp only [Act.put, List.setIfInBounds_toArray, List.set_cons_zero, List.set_cons_succ]
        refine take_in (i := 16) (oi := ⟨_, _, _, _, _, _⟩) (v := ?_) rfl (by kernel_rfl) (by kernel_rfl) (by kernel_rfl) (fun _ _ _ h => h) (by rfl) ?_ HB6.out ?_
        rotate_left
        · intro W hW; go_simp; with_reducible rfl
        simp only [Act.put, List.setIfInBounds_toArray, List.set_cons_zero, List.set_cons_succ]
        refine take_in (i := 17) (oi := ⟨_, _, _, _, _, _⟩) (v := ?_) rfl (by kernel_rfl) (by kernel_rfl) (by kernel_rfl) (fun _ _ _ h => h) (by rfl) ?_ HB6.out ?_
        rotate_left
        · intro W hW; go_simp; with_reducible rfl
        simp only [Act.put, List.setIfInBounds_toArray, List.set_cons_zero, List.set_cons_succ]
        refine wpAnyH_done (by kernel_rfl) ?_ _
        go_wp2
        exact ⟨⟨_, by go_num, by omega, HGOOD.out, HBW.out.trans (HB6.out.mono HBW.out.size)⟩, by simp [intOf]; omega⟩
      | succ j =>
        have hjl : j < es.length := by rw [← HN.out]; omega
        have hzj : es[j]? = some es[j] := List.getElem?_eq_getElem hjl
        have hcj := ((tri_at (hcell j es[j] hzj)).below (HB.out.mono hB) hbB).1
        have HPR := Lib.hid (prevC_succ es j es[j] hzj)
        generalize es[j].1 = pk at hcj HPR
        have HCJ := Lib.hid hcj
        clear hcj hzj hjl hcell
        go_wp2_with fail
        have VX := Lib.hid (show Cx (wr.alloc (.cells #[.int .i64 xk, .int .i64 xa, .int .i64 xd] 38)) wr.heap.size (xk, xa, xd) from hat _ _ _ rfl)
        have HBW := Lib.hid (bal HB.out (Nat.le_refl _) (.cells #[.int .i64 xk, .int .i64 xa, .int .i64 xd] 38))
        have HCJ := Lib.hid (show (wr.alloc (.cells #[.int .i64 xk, .int .i64 xa, .int .i64 xd] 38)).cell? ⟨b, o + j * 3, none⟩ = some (.int .i64 pk) from ((bal (Below.refl wr.heap.size wr) (Nat.le_refl _) _).cell (by show b < _; omega)).trans HCJ.out)
        have hsz1 : b < (wr.alloc (.cells #[.int .i64 xk, .int .i64 xa, .int .i64 xd] 38)).heap.size := by rw [World.size_alloc]; omega
        generalize wr.alloc (.cells #[.int .i64 xk, .int .i64 xa, .int .i64 xd] 38) = w1 at VX HBW HCJ hsz1 ⊢
        generalize wr.heap.size = gx at VX ⊢
        have HK : Hid (∀ W', Below w1.heap.size w1 W' → (W'.cell? ⟨gx, 0, none⟩ = some (.int .i64 xk) ∧ W'.cell? ⟨gx, 1, none⟩ = some (.int .i64 xa) ∧ W'.cell? ⟨gx, 2, none⟩ = some (.int .i64 xd)) ∧ W'.cell? ⟨b, o + j * 3, none⟩ = some (.int .i64 pk)) := Lib.hid (fun W' h => ⟨⟨(VX.out.all h).c0, (VX.out.all h).c1, (VX.out.all h).c2⟩, (h.cell (by show b < _; omega)).trans HCJ.out⟩)
        clear x0 x1 x2
        have hw1 : IntKind.i64.wrap (j : Int) = (j : Int) := by simp [IntKind.wrap, IntKind.bits, IntKind.signed]; omega
        have hjn : j < n := by omega
        have hjp : (0 : Int) < (j : Int) + 1 := by omega
        refine wp_region_held_drew (S := fun W' => Below w1.heap.size w1 W') (by kernel_rfl) (Below.refl _ _).drew (fun hHeld => ?_)
        generalize w1.drew = w5 at hHeld ⊢
        have HB5 : Hid (Below w1.heap.size w1 w5) := hHeld
        clear hHeld
        refine take_in (i := 0) (oi := ⟨_, _, _, _, _, _⟩) (v := ?_) rfl (by kernel_rfl) (by kernel_rfl) (by kernel_rfl) (fun _ _ _ h => h) (by rfl) ?_ HB5.out ?_
        rotate_left
        · intro W hW; have hq := HK.out W hW; go_simp; with_reducible rfl
        simp only [Act.put, List.setIfInBounds_toArray, List.set_cons_zero, List.set_cons_succ]
        refine wpAnyH_ready (rs := [1]) (by kernel_rfl) (by simp) ?_
        refine AllReadyH.cons (o := ⟨_, _, _, _, _, _⟩) rfl (fun K hK => ?_) AllReadyH.nil
        go_simp
        refine (HEC.out _).mono ?_
        rw [HOK.out]
        rintro e w6 ⟨rfl, hb6⟩
        have HB6 := Lib.hid (HB5.out.trans (hb6.mono HB5.out.size)); clear hb6
        refine hK.out _ _ HB6.out (fun _ => ?_)
        clear hK K
        refine take_in (i := 2) (oi := ⟨_, _, _, _, _, _⟩) (v := ?_) rfl (by kernel_rfl) (by kernel_rfl) (by kernel_rfl) (fun _ _ _ h => h) (by rfl) ?_ HB6.out ?_
        rotate_left
        · intro W hW; have hq := HK.out W hW; go_simp; with_reducible rfl
        simp only [Act.put, List.setIfInBounds_toArray, List.set_cons_zero, List.set_cons_succ]
        refine take_in (i := 3) (oi := ⟨_, _, _, _, _, _⟩) (v := ?_) rfl (by kernel_rfl) (by kernel_rfl) (by kernel_rfl) (fun _ _ _ h => h) (by rfl) ?_ HB6.out ?_
        rotate_left
        · intro W hW; have hq := HK.out W hW; go_simp; with_reducible rfl
        simp only [Act.put, List.setIfInBounds_toArray, List.set_cons_zero, List.set_cons_succ]
        refine take_in (i := 4) (oi := ⟨_, _, _, _, _, _⟩) (v := ?_) rfl (by kernel_rfl) (by kernel_rfl) (by kernel_rfl) (fun _ _ _ h => h) (by rfl) ?_ HB6.out ?_
        rotate_left
        · intro W hW; have hq := HK.out W hW; go_simp; with_reducible rfl
        simp only [Act.put, List.setIfInBounds_toArray, List.set_cons_zero, List.set_cons_succ]
        refine take_in (i := 5) (oi := ⟨_, _, _, _, _, _⟩) (v := ?_) rfl (by kernel_rfl) (by kernel_rfl) (by kernel_rfl) (fun _ _ _ h => h) (by rfl) ?_ HB6.out ?_
        rotate_left
        · intro W hW; have hq := HK.out W hW; go_simp; with_reducible rfl
        simp only [Act.put, List.setIfInBounds_toArray, List.set_cons_zero, List.set_cons_succ]
        refine take_in (i := 6) (oi := ⟨_, _, _, _, _, _⟩) (v := ?_) rfl (by kernel_rfl) (by kernel_rfl) (by kernel_rfl) (fun _ _ _ h => h) (by rfl) ?_ HB6.out ?_
        rotate_left
        · intro W hW; have hq := HK.out W hW; go_simp; with_reducible rfl
        simp only [Act.put, List.setIfInBounds_toArray, List.set_cons_zero, List.set_cons_succ]
        refine take_in (i := 7) (oi := ⟨_, _, _, _, _, _⟩) (v := ?_) rfl (by kernel_rfl) (by kernel_rfl) (by kernel_rfl) (fun _ _ _ h => h) (by rfl) ?_ HB6.out ?_
        rotate_left
        · intro W hW; have hq := HK.out W hW; go_simp; with_reducible rfl
        simp only [Act.put, List.setIfInBounds_toArray, List.set_cons_zero, List.set_cons_succ]
        refine take_in (i := 8) (oi := ⟨_, _, _, _, _, _⟩) (v := ?_) rfl (by kernel_rfl) (by kernel_rfl) (by kernel_rfl) (fun _ _ _ h => h) (by rfl) ?_ HB6.out ?_
        rotate_left
        · intro W hW; have hq := HK.out W hW; go_simp; with_reducible rfl
        simp only [Act.put, List.setIfInBounds_toArray, List.set_cons_zero, List.set_cons_succ]
        refine take_in (i := 9) (oi := ⟨_, _, _, _, _, _⟩) (v := ?_) rfl (by kernel_rfl) (by kernel_rfl) (by kernel_rfl) (fun _ _ _ h => h) (by rfl) ?_ HB6.out ?_
        rotate_left
        · intro W hW; have hq := HK.out W hW; go_simp; with_reducible rfl
        simp only [Act.put, List.setIfInBounds_toArray, List.set_cons_zero, List.set_cons_succ]
        refine take_in (i := 10) (oi := ⟨_, _, _, _, _, _⟩) (v := ?_) rfl (by kernel_rfl) (by kernel_rfl) (by kernel_rfl) (fun _ _ _ h => h) (by rfl) ?_ HB6.out ?_
        rotate_left
        · intro W hW; have hq := HK.out W hW; go_simp; with_reducible rfl
        simp only [Act.put, List.setIfInBounds_toArray, List.set_cons_zero, List.set_cons_succ]
        refine take_in (i := 11) (oi := ⟨_, _, _, _, _, _⟩) (v := ?_) rfl (by kernel_rfl) (by kernel_rfl) (by kernel_rfl) (fun _ _ _ h => h) (by rfl) ?_ HB6.out ?_
        rotate_left
        · intro W hW; have hq := HK.out W hW; go_simp; with_reducible rfl
        simp only [Act.put, List.setIfInBounds_toArray, List.set_cons_zero, List.set_cons_succ]
        refine take_in (i := 12) (oi := ⟨_, _, _, _, _, _⟩) (v := ?_) rfl (by kernel_rfl) (by kernel_rfl) (by kernel_rfl) (fun _ _ _ h => h) (by rfl) ?_ HB6.out ?_
        rotate_left
        · intro W hW; have hq := HK.out W hW; go_simp; with_reducible rfl
        simp only [Act.put, List.setIfInBounds_toArray, List.set_cons_zero, List.set_cons_succ]
        refine take_in (i := 13) (oi := ⟨_, _, _, _, _, _⟩) (v := ?_) rfl (by kernel_rfl) (by kernel_rfl) (by kernel_rfl) (fun _ _ _ h => h) (by rfl) ?_ HB6.out ?_
        rotate_left
        · intro W hW; have hq := HK.out W hW; go_simp; with_reducible rfl
        simp only [Act.put, List.setIfInBounds_toArray, List.set_cons_zero, List.set_cons_succ]
        refine take_in (i := 14) (oi := ⟨_, _, _, _, _, _⟩) (v := ?_) rfl (by kernel_rfl) (by kernel_rfl) (by kernel_rfl) (fun _ _ _ h => h) (by rfl) ?_ HB6.out ?_
        rotate_left
        · intro W hW; have hq := HK.out W hW; go_simp; with_reducible rfl
        simp only [Act.put, List.setIfInBounds_toArray, List.set_cons_zero, List.set_cons_succ]
        refine take_in (i := 15) (oi := ⟨_, _, _, _, _, _⟩) (v := ?_) rfl (by kernel_rfl) (by kernel_rfl) (by kernel_rfl) (fun _ _ _ h => h) (by rfl) ?_ HB6.out ?_
        rotate_left
        · intro W hW; have hq := HK.out W hW; go_simp; with_reducible rfl
        simp only [Act.put, List.setIfInBounds_toArray, List.set_cons_zero, List.set_cons_succ]
        obtain ⟨v, hv⟩ : ∃ v, v = decide (xk ≤ pk) := ⟨_, rfl⟩
        rw [← hv]
        have HV := Lib.hid hv; clear hv
        cases v with
        | true =>
          have HRB := Lib.hid (HBAD.out (Or.inr (by rw [HPR.out]; have := of_decide_eq_true HV.out.symm; omega)))
          refine take_in (i := 16) (oi := ⟨_, _, _, _, _, _⟩) (v := ?_) rfl (by kernel_rfl) (by kernel_rfl) (by kernel_rfl) (fun _ _ _ h => h) (by rfl) ?_ HB6.out ?_
          rotate_left
          · intro W hW; go_simp; with_reducible rfl
          simp only [Act.put, List.setIfInBounds_toArray, List.set_cons_zero, List.set_cons_succ]
          refine take_in (i := 17) (oi := ⟨_, _, _, _, _, _⟩) (v := ?_) rfl (by kernel_rfl) (by kernel_rfl) (by kernel_rfl) (fun _ _ _ h => h) (by rfl) ?_ HB6.out ?_
          rotate_left
          · intro W hW; go_simp; with_reducible rfl
          simp only [Act.put, List.setIfInBounds_toArray, List.set_cons_zero, List.set_cons_succ]
          refine wpAnyH_done (by kernel_rfl) ?_ _
          go_wp2
          go_ret
          exact ⟨by rw [HRB.out]; rfl, HBW.out.trans (HB6.out.mono HBW.out.size)⟩
        | false =>
          have HGOOD := Lib.hid (HGO.out (by rw [HPR.out]; have := of_decide_eq_false HV.out.symm; omega))
          refine take_in (i := 16) (oi := ⟨_, _, _, _, _, _⟩) (v := ?_) rfl (by kernel_rfl) (by kernel_rfl) (by kernel_rfl) (fun _ _ _ h => h) (by rfl) ?_ HB6.out ?_
          rotate_left
          · intro W hW; go_simp; with_reducible rfl
          simp only [Act.put, List.setIfInBounds_toArray, List.set_cons_zero, List.set_cons_succ]
          refine take_in (i := 17) (oi := ⟨_, _, _, _, _, _⟩) (v := ?_) rfl (by kernel_rfl) (by kernel_rfl) (by kernel_rfl) (fun _ _ _ h => h) (by rfl) ?_ HB6.out ?_
          rotate_left
          · intro W hW; go_simp; with_reducible rfl
          simp only [Act.put, List.setIfInBounds_toArray, List.set_cons_zero, List.set_cons_succ]
          refine wpAnyH_done (by kernel_rfl) ?_ _
          go_wp2
          exact ⟨⟨_, by go_num, by omega, HGOOD.out, HBW.out.trans (HB6.out.mono HBW.out.size)⟩, by simp [intOf]; omega⟩
    · obtain rfl : k = n := by omega
      have HR0 := Lib.hid (HZ.out (by rw [HA.out, List.drop_of_length_le (by rw [← HN.out]; omega)]; rfl))
      go_wp2
      go_ret
      exact ⟨by rw [HR0.out]; rfl, HB.out⟩
theorem check_c (A : Option Addr) (n c : Nat) (es : List C) (w : World) (h : Sc w A n c es) : Calls Try.prog 9 #[.slice A n c] w fun e w' => e = .returned (.int .i64 (chkM es)) ∧ Below w.heap.size w w' :=
  check_own A n c es h.1 (by have := h.2.2.1; omega) w.heap.size w h.2.2.2 (Nat.le_refl _)
set_option maxHeartbeats 1000000 in
theorem merge_c (A : Option Addr) (n c : Nat) (es : List C) (A2 : Option Addr) (n2 c2 : Nat) (fs : List C) (w : World) (h1 : Sc w A n c es) (h2 : Sc w A2 n2 c2 fs) :
    Calls Try.prog 16 #[.slice A n c, .slice A2 n2 c2] w (RetSc w (mergeC es fs)) := by
  have HFA : Hid (∀ (key : Int) (W : World), Below w.heap.size w W → Calls Try.prog 13 #[.slice A n c, .int .i64 key] W (RetOf W (getC es key).2.1 (getC es key).2.2 (hasC es key))) := Lib.hid (fun key W hW => of_c A n c es key W (h1.all hW))
  have HFB : Hid (∀ (key : Int) (W : World), Below w.heap.size w W → Calls Try.prog 13 #[.slice A2 n2 c2, .int .i64 key] W (RetOf W (getC fs key).2.1 (getC fs key).2.2 (hasC fs key))) := Lib.hid (fun key W hW => of_c A2 n2 c2 fs key W (h2.all hW))
  clear h1 h2
  go_enter Try.func16, Try.ntmps16
  go_wp2
  go_loopw [5, 9] (fun x i wr => ∃ (A3 : Option Addr) (m c3 k : Nat), x = .slice A3 m c3 ∧ i = .int .i64 k ∧ k ≤ 6 ∧ Rg.OwnG KC wr w.heap.size A3 m c3 (mergeKC es fs k) ∧ Below w.heap.size w wr) (fun _ i _ => 6 - (intOf i).toNat)
  case atStart => exact ⟨_, 0, 0, 0, rfl, rfl, by omega, Rg.own_noneG KC _ _, Below.refl _ _⟩
  case round =>
    obtain ⟨A3, m, c3, k, rfl, rfl, hk, ho, hb⟩ := hrel
    have HB := Lib.hid hb; have HO := Lib.hid ho
    have hmk : m ≤ k := by rw [ho.1]; exact mergeKC_len es fs k
    have hsz := hb.size
    clear hb ho
    by_cases h : k < 6
    · have HMT : Hid (mergeKC es fs (k + 1) = mergeKC es fs k ++ if hasC es k || hasC fs k then [pickC es fs k] else []) := Lib.hid rfl
      have HPA : Hid (hasC es k = true → pickC es fs k = ((k : Int), (getC es k).2.1, (getC es k).2.2)) := Lib.hid (fun hh => by
        unfold pickC
        rw [if_pos hh, Prod.ext_iff]
        exact ⟨getC_node es k, rfl⟩)
      have HPB : Hid (hasC es k = false → pickC es fs k = ((k : Int), (getC fs k).2.1, (getC fs k).2.2)) := Lib.hid (fun hh => by
        unfold pickC
        rw [if_neg (by rw [hh]; simp), Prod.ext_iff]
        exact ⟨getC_node fs k, rfl⟩)
      generalize pickC es fs k = pk at HMT HPA HPB
      go_wp2_with fail
      refine (HFA.out _ _ HB.out).mono ?_
      rintro e w1 ⟨rfl, hb1⟩
      have HO := Lib.hid (HO.out.below hb1 (Nat.le_refl _))
      have HB := Lib.hid (HB.out.trans (hb1.mono HB.out.size)); clear hb1
      have hszg := HB.out.size
      generalize (getC es (k : Int)).2.1 = xa at HPA ⊢
      generalize (getC es (k : Int)).2.2 = xd at HPA ⊢
      generalize hasC es (k : Int) = xb at HMT HPA HPB ⊢
      unfold vw
      cases xb with
      | true =>
        obtain rfl : pk = ((k : Int), xa, xd) := HPA.out rfl
        clear HPA HPB
        have HO := Lib.hid (HO.out.alloc (.cells #[.int .i64 xa, .int .i64 xd] 31))
        have HBZ := Lib.hid (bal HB.out (Nat.le_refl _) (.cells #[.int .i64 xa, .int .i64 xd] 31))
        go_wp2_with (at_builtin; refine Rg.wp_appG (K := KC) rfl (.tmp 27) (.tmp 31) rfl w.heap.size A3 m c3 _ rfl (HO.out.alloc _) _ _ 1 1 [((k : Int), xa, xd)] rfl rfl (one_at _ _ ((k : Int), xa, xd) (by simp)) (by show _ * 24 ≤ _; omega) (Nat.le_trans HBZ.out.size (by simp)) ?_; intro A4 c4 w9 ho4 hb4)
        refine ⟨⟨A4, m + 1, c4, k + 1, rfl, by go_num, by omega, ?_, (bal HBZ.out (Nat.le_refl _) _).trans hb4⟩, by simp [intOf]; omega⟩
        rw [HMT.out]
        exact ho4
      | false =>
        have HPC := Lib.hid (HPB.out rfl)
        clear HPA HPB
        go_wp2_with fail
        have VX := Lib.hid (show Vi (w1.alloc (.cells #[.int .i64 xa, .int .i64 xd] 31)) w1.heap.size xa xd from hat _ _ _ rfl)
        have HOO : Hid (∀ W', Below w1.heap.size w1 W' → Rg.OwnG KC W' w.heap.size A3 m c3 (mergeKC es fs k)) := Lib.hid (fun W' h => HO.out.below h (Nat.le_refl _))
        have HB := Lib.hid (bal HB.out (Nat.le_refl _) (.cells #[.int .i64 xa, .int .i64 xd] 31))
        have HBG := Lib.hid (bal (Below.refl w1.heap.size w1) (Nat.le_refl _) (.cells #[.int .i64 xa, .int .i64 xd] 31))
        clear HO
        generalize w1.alloc (.cells #[.int .i64 xa, .int .i64 xd] 31) = w2 at VX HB HBG ⊢
        generalize w1.heap.size = gx at VX HOO HBG hszg ⊢
        refine (HFB.out _ _ HB.out).mono ?_
        rintro e w3 ⟨rfl, hb1⟩
        have hgx := VX.out.lt
        have VX := Lib.hid (VX.out.below hb1)
        have HBG := Lib.hid (HBG.out.trans (hb1.mono (Nat.le_of_lt hgx)))
        have HB := Lib.hid (HB.out.trans (hb1.mono HB.out.size)); clear hb1
        generalize (getC fs (k : Int)).2.1 = ya at HPC ⊢
        generalize (getC fs (k : Int)).2.2 = yd at HPC ⊢
        generalize hasC fs (k : Int) = yb at HMT ⊢
        unfold vw
        obtain rfl : pk = ((k : Int), ya, yd) := HPC.out
        clear HPC
        have x0 := VX.out.c0; have x1 := VX.out.c1
        have z0 := frozen_of_row w3 gx 0 _ _ VX.out
        have z1 := frozen_of_row w3 gx 1 _ _ VX.out
        go_upto_region 8 with (fail)
        have VX := Lib.hid (vi_put VX.out ya yd)
        have HBZ := Lib.hid (show Below w.heap.size w ((w3.setCell ⟨gx, 0, none⟩ (.int .i64 ya)).setCell ⟨gx, 1, none⟩ (.int .i64 yd)) from (HB.out.setCell (by show _ ≤ gx; omega) _).setCell (by show _ ≤ gx; omega) _)
        have HO := Lib.hid (show Rg.OwnG KC ((w3.setCell ⟨gx, 0, none⟩ (.int .i64 ya)).setCell ⟨gx, 1, none⟩ (.int .i64 yd)) _ _ _ _ _ from HOO.out _ ((HBG.out.setCell (Nat.le_refl _) _).setCell (Nat.le_refl _) _))
        clear x0 x1 z0 z1 HOO HBG
        generalize ((w3.setCell ⟨gx, 0, none⟩ (.int .i64 ya)).setCell ⟨gx, 1, none⟩ (.int .i64 yd)) = w8 at VX HBZ HO ⊢
        have x0 := VX.out.c0; have x1 := VX.out.c1
        cases yb with
        | true =>
          go_wp2_with (at_builtin; refine Rg.wp_appG (K := KC) rfl (.tmp 27) (.tmp 31) rfl w.heap.size A3 m c3 _ rfl (HO.out.alloc _) _ _ 1 1 [((k : Int), ya, yd)] rfl rfl (one_at _ _ ((k : Int), ya, yd) (by simp)) (by show _ * 24 ≤ _; omega) (Nat.le_trans HBZ.out.size (by simp)) ?_; intro A4 c4 w9 ho4 hb4)
          refine ⟨⟨A4, m + 1, c4, k + 1, rfl, by go_num, by omega, ?_, (bal HBZ.out (Nat.le_refl _) _).trans hb4⟩, by simp [intOf]; omega⟩
          rw [HMT.out]
          exact ho4
        | false =>
          clear x0 x1
          go_wp2
          refine ⟨⟨A3, m, c3, k + 1, rfl, by go_num, by omega, ?_, HBZ.out⟩, by simp [intOf]; omega⟩
          rw [HMT.out]
          simpa using HO.out
    · obtain rfl : k = 6 := by omega
      have hlen : (mergeC es fs).length * 24 ≤ 140737488355328 := by have := mergeKC_len es fs 6; show (mergeKC es fs 6).length * 24 ≤ _; omega
      have HL := Lib.hid hlen; clear hlen
      go_wp2
      go_ret
      exact ⟨A3, m, c3, rfl, Sc.own HO.out HL.out, HB.out⟩
set_option maxHeartbeats 1000000 in
theorem news_own (A : Option Addr) (n c : Nat) (es : List C) (A2 : Option Addr) (n2 c2 : Nat) (fs : List C) (w : World) (h1 : Sc w A n c es) (h2 : Sc w A2 n2 c2 fs) :
    Calls Try.prog 18 #[.slice A n c, .slice A2 n2 c2] w (RetSc w (newsKC es fs 6)) := by
  have HFA : Hid (∀ (key : Int) (W : World), Below w.heap.size w W → Calls Try.prog 13 #[.slice A n c, .int .i64 key] W (RetOf W (getC es key).2.1 (getC es key).2.2 (hasC es key))) := Lib.hid (fun key W hW => of_c A n c es key W (h1.all hW))
  have HFB : Hid (∀ (key : Int) (W : World), Below w.heap.size w W → Calls Try.prog 13 #[.slice A2 n2 c2, .int .i64 key] W (RetOf W (getC fs key).2.1 (getC fs key).2.2 (hasC fs key))) := Lib.hid (fun key W hW => of_c A2 n2 c2 fs key W (h2.all hW))
  clear h1 h2
  go_enter Try.func18, Try.ntmps18
  go_wp2
  go_loopw [5, 11] (fun x i wr => ∃ (A3 : Option Addr) (m c3 k : Nat), x = .slice A3 m c3 ∧ i = .int .i64 k ∧ k ≤ 6 ∧ Rg.OwnG KC wr w.heap.size A3 m c3 (newsKC es fs k) ∧ Below w.heap.size w wr) (fun _ i _ => 6 - (intOf i).toNat)
  case atStart => exact ⟨_, 0, 0, 0, rfl, rfl, by omega, Rg.own_noneG KC _ _, Below.refl _ _⟩
  case round =>
    obtain ⟨A3, m, c3, k, rfl, rfl, hk, ho, hb⟩ := hrel
    have HB := Lib.hid hb; have HO := Lib.hid ho
    have hmk : m ≤ k := by rw [ho.1]; exact newsKC_len es fs k
    have hsz := hb.size
    clear hb ho
    by_cases h : k < 6
    · have HMT : Hid (newsKC es fs (k + 1) = newsKC es fs k ++ if hasC fs k && !hasC es k then [getC fs k] else []) := Lib.hid rfl
      have HPB : Hid (getC fs k = ((k : Int), (getC fs k).2.1, (getC fs k).2.2)) := Lib.hid (by
        rw [Prod.ext_iff]
        exact ⟨getC_node fs k, rfl⟩)
      go_wp2_with fail
      refine (HFA.out _ _ HB.out).mono ?_
      rintro e w1 ⟨rfl, hb1⟩
      have HO := Lib.hid (HO.out.below hb1 (Nat.le_refl _))
      have HB := Lib.hid (HB.out.trans (hb1.mono HB.out.size)); clear hb1
      generalize (getC es (k : Int)).2.1 = xa
      generalize (getC es (k : Int)).2.2 = xd
      generalize hasC es (k : Int) = xb at HMT ⊢
      unfold vw
      go_wp2_with fail
      have HO := Lib.hid (HO.out.alloc (.cells #[.int .i64 xa, .int .i64 xd] 31))
      have HB := Lib.hid (bal HB.out (Nat.le_refl _) (.cells #[.int .i64 xa, .int .i64 xd] 31))
      generalize w1.alloc (.cells #[.int .i64 xa, .int .i64 xd] 31) = w2 at HO HB ⊢
      generalize w1.heap.size = gx
      refine (HFB.out _ _ HB.out).mono ?_
      rintro e w3 ⟨rfl, hb1⟩
      have HO := Lib.hid (HO.out.below hb1 (Nat.le_refl _))
      have HB := Lib.hid (HB.out.trans (hb1.mono HB.out.size)); clear hb1
      generalize getC fs (k : Int) = gy at HMT HPB ⊢
      obtain ⟨yk, ya, yd⟩ := gy
      obtain rfl : yk = (k : Int) := congrArg Prod.fst HPB.out
      clear HPB
      simp only
      generalize hasC fs (k : Int) = yb at HMT ⊢
      unfold vw
      have HO := Lib.hid (HO.out.alloc (.cells #[.int .i64 ya, .int .i64 yd] 31))
      have HBZ := Lib.hid (bal HB.out (Nat.le_refl _) (.cells #[.int .i64 ya, .int .i64 yd] 31))
      cases hv : (yb && !xb) with
      | true =>
        have hyb : yb = true := by cases yb <;> simp_all
        have hxb : xb = false := by cases xb <;> simp_all
        subst hyb
        subst hxb
        clear hv
        go_wp2_with (at_builtin; refine Rg.wp_appG (K := KC) rfl (.tmp 31) (.tmp 35) rfl w.heap.size A3 m c3 _ rfl (HO.out.alloc _) _ _ 1 1 [((k : Int), ya, yd)] rfl rfl (one_at _ _ ((k : Int), ya, yd) (by simp)) (by show _ * 24 ≤ _; omega) (Nat.le_trans HBZ.out.size (by simp)) ?_; intro A4 c4 w9 ho4 hb4)
        refine ⟨⟨A4, m + 1, c4, k + 1, rfl, by go_num, by omega, ?_, (bal HBZ.out (Nat.le_refl _) _).trans hb4⟩, by simp [intOf]; omega⟩
        rw [HMT.out]
        exact ho4
      | false =>
        rw [hv] at HMT
        cases yb with
        | false =>
          clear hv
          go_wp2
          refine ⟨⟨A3, m, c3, k + 1, rfl, by go_num, by omega, ?_, HBZ.out⟩, by simp [intOf]; omega⟩
          rw [HMT.out]
          simpa using HO.out
        | true =>
          have hxb : xb = true := by cases xb <;> simp_all
          subst hxb
          clear hv
          go_wp2
          refine ⟨⟨A3, m, c3, k + 1, rfl, by go_num, by omega, ?_, HBZ.out⟩, by simp [intOf]; omega⟩
          rw [HMT.out]
          simpa using HO.out
    · obtain rfl : k = 6 := by omega
      have hlen : (newsKC es fs 6).length * 24 ≤ 140737488355328 := by have := newsKC_len es fs 6; omega
      have HL := Lib.hid hlen; clear hlen
      go_wp2
      go_ret
      exact ⟨A3, m, c3, rfl, Sc.own HO.out HL.out, HB.out⟩
theorem news_c (A : Option Addr) (n c : Nat) (es : List C) (A2 : Option Addr) (n2 c2 : Nat) (fs : List C) (w : World) (h1 : Sc w A n c es) (h2 : Sc w A2 n2 c2 fs) (hb : isCl fs = true) :
    Calls Try.prog 18 #[.slice A n c, .slice A2 n2 c2] w (RetSc w (newsC es fs)) := by
  have := news_own A n c es A2 n2 c2 fs w h1 h2
  rwa [newsKC_eq hb] at this
set_option maxHeartbeats 1000000 in
theorem clash_c (A : Option Addr) (n c : Nat) (es : List C) (A2 : Option Addr) (n2 c2 : Nat) (fs : List C) (w : World) (h1 : Sc w A n c es) (h2 : Sc w A2 n2 c2 fs) :
    Calls Try.prog 11 #[.slice A n c, .slice A2 n2 c2] w fun e w' => e = .returned (.bool (clashC es fs)) ∧ Below w.heap.size w w' := by
  have heq := Chgw.eq_view
  have HFA : Hid (∀ (key : Int) (W : World), Below w.heap.size w W → Calls Try.prog 13 #[.slice A n c, .int .i64 key] W (RetOf W (getC es key).2.1 (getC es key).2.2 (hasC es key))) := Lib.hid (fun key W hW => of_c A n c es key W (h1.all hW))
  have HFB : Hid (∀ (key : Int) (W : World), Below w.heap.size w W → Calls Try.prog 13 #[.slice A2 n2 c2, .int .i64 key] W (RetOf W (getC fs key).2.1 (getC fs key).2.2 (hasC fs key))) := Lib.hid (fun key W hW => of_c A2 n2 c2 fs key W (h2.all hW))
  have HT : Hid (∀ k : Nat, k < 6 → clashAt es fs k = true → clashC es fs = true) := Lib.hid (fun k hk h => (clashK_iff es fs 6).2 ⟨k, hk, h⟩)
  have HZ : Hid (clashK es fs 6 = false → clashC es fs = false) := Lib.hid (fun h => h)
  generalize clashC es fs = r at HT HZ ⊢
  clear h1 h2
  go_enter Try.func11, Try.ntmps11
  go_wp2
  go_loopw [10] (fun i wr => ∃ k : Nat, i = .int .i64 k ∧ k ≤ 6 ∧ clashK es fs k = false ∧ Below w.heap.size w wr) (fun i _ => 6 - (intOf i).toNat)
  case atStart => exact ⟨0, rfl, by omega, rfl, Below.refl _ _⟩
  case round =>
    obtain ⟨k, rfl, hk, hno, hb⟩ := hrel
    have HB := Lib.hid hb; have HNO := Lib.hid hno
    have hsz := hb.size
    clear hb hno
    by_cases h : k < 6
    · have HCA : Hid (clashAt es fs k = ((hasC es k && hasC fs k) && !((getC es k).2.1 == (getC fs k).2.1 && (getC es k).2.2 == (getC fs k).2.2))) := Lib.hid rfl
      have HCN : Hid (clashAt es fs k = false → clashK es fs (k + 1) = false) := Lib.hid (fun hh => by unfold clashK; rw [HNO.out, hh]; rfl)
      have HT := Lib.hid (HT.out k h)
      generalize clashAt es fs k = ca at HCA HCN HT
      go_wp2_with fail
      refine (HFA.out _ _ HB.out).mono ?_
      rintro e w1 ⟨rfl, hb1⟩
      have HB := Lib.hid (HB.out.trans (hb1.mono HB.out.size)); clear hb1
      generalize (getC es (k : Int)).2.1 = xa at HCA ⊢
      generalize (getC es (k : Int)).2.2 = xd at HCA ⊢
      generalize hasC es (k : Int) = xb at HCA ⊢
      unfold vw
      go_wp2_with fail
      have VX := Lib.hid (show Vi (w1.alloc (.cells #[.int .i64 xa, .int .i64 xd] 31)) w1.heap.size xa xd from hat _ _ _ rfl)
      have HB := Lib.hid (bal HB.out (Nat.le_refl _) (.cells #[.int .i64 xa, .int .i64 xd] 31))
      generalize w1.alloc (.cells #[.int .i64 xa, .int .i64 xd] 31) = w2 at VX HB ⊢
      generalize w1.heap.size = gx at VX ⊢
      refine (HFB.out _ _ HB.out).mono ?_
      rintro e w3 ⟨rfl, hb1⟩
      have VX := Lib.hid (VX.out.below hb1)
      have HB := Lib.hid (HB.out.trans (hb1.mono HB.out.size)); clear hb1
      generalize (getC fs (k : Int)).2.1 = ya at HCA ⊢
      generalize (getC fs (k : Int)).2.2 = yd at HCA ⊢
      generalize hasC fs (k : Int) = yb at HCA ⊢
      unfold vw
      have x0 : (w3.alloc (.cells #[.int .i64 ya, .int .i64 yd] 31)).cell? ⟨gx, 0, none⟩ = some (.int .i64 xa) := Vi.c0 (hbe VX.out)
      have x1 : (w3.alloc (.cells #[.int .i64 ya, .int .i64 yd] 31)).cell? ⟨gx, 1, none⟩ = some (.int .i64 xd) := Vi.c1 (hbe VX.out)
      have HBZ := Lib.hid (bal HB.out (Nat.le_refl _) (.cells #[.int .i64 ya, .int .i64 yd] 31))
      cases xb with
      | false =>
        have HM := Lib.hid (HCN.out HCA.out)
        clear HCN HCA HT HZ
        go_wp2
        exact ⟨⟨k + 1, by go_num, by omega, HM.out, HBZ.out⟩, by simp [intOf]; omega⟩
      | true =>
        cases yb with
        | false =>
          have HM := Lib.hid (HCN.out HCA.out)
          clear HCN HCA HT HZ
          go_wp2
          exact ⟨⟨k + 1, by go_num, by omega, HM.out, HBZ.out⟩, by simp [intOf]; omega⟩
        | true =>
          cases hv : (xa == ya && xd == yd) with
          | true =>
            have HM := Lib.hid (HCN.out (by rw [HCA.out, hv]; rfl))
            clear HCN HCA HT HZ
            go_wp2
            exact ⟨⟨k + 1, by go_num, by omega, HM.out, HBZ.out⟩, by simp [intOf]; omega⟩
          | false =>
            have HM := Lib.hid (HT.out (by rw [HCA.out, hv]; rfl))
            clear HCN HCA HT HZ
            go_wp2
            go_ret
            exact ⟨ret_bool HM.out.symm, HBZ.out⟩
    · obtain rfl : k = 6 := by omega
      have HRT := Lib.hid (HZ.out HNO.out)
      clear HZ HT
      go_wp2
      go_ret
      exact ⟨ret_bool HRT.out.symm, HB.out⟩
end Go.Proofs.Ytgbpfknmdpkacaa.Clw
