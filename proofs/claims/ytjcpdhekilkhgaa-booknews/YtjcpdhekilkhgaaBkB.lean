/- What package book answers, as it landed: contracts by walks. First part: keys, entries, a key's entry. -/
import Derived.Test.YtjcpdhekilkhgaaBkX
import Derived.Test.YtjcpdhekilkhgaaTgC
namespace Go.Proofs.Ytjcpdhekilkhgaa.Bkw
open Go.RowKit
open Tg Bk
open Tgw (bal hat hbe ret_bool tv)

theorem key_c (d : Int) (w : World) : Calls Try.prog 25 #[.int .i64 d] w fun e w' => e = .returned (.bool (decide (0 ≤ d ∧ d ≤ 3))) ∧ w = w' := by
  go_enter Try.func25, Try.ntmps25
  go_wp2
  all_goals go_ret
  all_goals refine ⟨ret_bool ?_, rfl⟩
  all_goals
    rw [Bool.eq_iff_iff]
    simp only [Bool.and_eq_true, decide_eq_true_eq, Bool.false_eq_true, false_iff]
    omega
theorem okE_key (x : E) (h : decide (0 ≤ x.key ∧ x.key ≤ 3) = false) : okE x = false := by unfold okE; rw [h]; rfl
theorem okE_num (x : E) (h : ¬ 0 < x.num) : okE x = false := by
  unfold okE right
  rw [← Bool.not_eq_true]
  simp only [Bool.and_eq_true, decide_eq_true_eq]
  omega
theorem okE_right (x : E) (h : 0 ≤ x.key ∧ x.key ≤ 3) (h1 : 0 < x.num) : okE x = right x.num x.node := by
  unfold okE
  rw [decide_eq_true h, decide_eq_true (by omega : x.num ≠ 0), Bool.true_and, Bool.and_true]
set_option maxHeartbeats 1000000 in
theorem ent_c (x : E) (hi : I2 (x.num, x.node)) (w : World) : Calls Try.prog 28 #[ev x] w fun e w' => e = .returned (.bool (okE x)) ∧ Below w.heap.size w w' := by
  have HK := Lib.hid (okE_key x); have HM := Lib.hid (okE_num x); have HR := Lib.hid (okE_right x)
  generalize okE x = r at HK HM HR ⊢
  obtain ⟨xk, xn, xd, xv⟩ := x
  have HI : Hid (I64 xn ∧ I64 xd) := Lib.hid hi
  clear hi
  unfold ev
  simp only at HK HM HR ⊢
  go_enter Try.func28, Try.ntmps28
  go_wp2_with fail
  have VX := Lib.hid (show Ex (w.alloc (.cells #[.int .i64 xk, .int .i64 xn, .int .i64 xd, .float .f64 xv] 26)) w.heap.size ⟨xk, xn, xd, xv⟩ from hat _ _ _ rfl)
  have HB := Lib.hid (bal (Below.refl w.heap.size w) (Nat.le_refl _) (.cells #[.int .i64 xk, .int .i64 xn, .int .i64 xd, .float .f64 xv] 26))
  generalize w.alloc (.cells #[.int .i64 xk, .int .i64 xn, .int .i64 xd, .float .f64 xv] 26) = w1 at VX HB ⊢
  generalize w.heap.size = gx at VX ⊢
  refine (key_c xk _).mono ?_
  rintro e w2 ⟨rfl, rfl⟩
  have x0 := VX.out.c0; have x1 := VX.out.c1; have x2 := VX.out.c2; have x3 := VX.out.c3
  have HKK : Hid (decide (0 ≤ xk ∧ xk ≤ 3) = true → 0 ≤ xk ∧ xk ≤ 3) := Lib.hid of_decide_eq_true
  generalize decide (0 ≤ xk ∧ xk ≤ 3) = v at HK HKK ⊢
  cases v with
  | false =>
    have HF := Lib.hid (HK.out rfl)
    clear HK HM HR HKK
    go_wp2
    go_ret
    exact ⟨ret_bool HF.out.symm, HB.out⟩
  | true =>
    have HX := Lib.hid (HKK.out rfl)
    by_cases hn : 0 < xn
    · have HE := Lib.hid (HR.out HX.out hn)
      clear HK HM HR HKK HX
      go_wp2_with fail
      refine (Tgw.right_c xn xd HI.out.1 HI.out.2 _).mono ?_
      rintro e w3 ⟨rfl, hb⟩
      have HB := Lib.hid (HB.out.trans (hb.mono HB.out.size)); clear hb
      generalize right xn xd = q at HE ⊢
      go_wp2
      all_goals go_ret
      all_goals exact ⟨ret_bool HE.out.symm, HB.out⟩
    · have HE := Lib.hid (HM.out (by omega))
      clear HK HM HR HKK HX
      go_wp2
      all_goals go_ret
      all_goals exact ⟨ret_bool HE.out.symm, HB.out⟩
theorem clos_c (x : E) (key : Int) (g : Nat) (w : World) (hg : w.cell? ⟨g, 0, none⟩ = some (.int .i64 key)) (hl : g < w.heap.size) : Calls Try.prog 38 #[ev x, .pointer (some ⟨g, 0, none⟩)] w fun e w' => e = .returned (.bool (x.key == key)) ∧ Below w.heap.size w w' := by
  obtain ⟨xk, xn, xd, xv⟩ := x
  have hg2 : (w.alloc (.cells #[.int .i64 xk, .int .i64 xn, .int .i64 xd, .float .f64 xv] 26)).cell? ⟨g, 0, none⟩ = some (.int .i64 key) := ((bal (Below.refl w.heap.size w) (Nat.le_refl _) _).cell (by show g < _; omega)).trans hg
  unfold ev
  simp only
  go_enter Try.func38, Try.ntmps38
  go_wp2
  go_ret
  exact ⟨rfl, bal (Below.refl _ _) (Nat.le_refl _) _⟩
/-- where a key stands: the first place, or none -/
def At (es : List E) (key : Int) : Option Nat → Prop
  | none => find es key = zero key
  | some k => ∃ x, es[k]? = some x ∧ find es key = x
def atI : Option Nat → Int
  | none => -1
  | some k => k
set_option maxHeartbeats 1000000 in
theorem index_c (A : Option Addr) (n c : Nat) (es : List E) (hn : n = es.length) (hl : n ≤ 140737488355328) (key : Int) (g : Nat) (B : Nat) (w : World) (hr : Re w B A es) (hB : B ≤ w.heap.size) (hg : w.cell? ⟨g, 0, none⟩ = some (.int .i64 key)) (hgl : g < w.heap.size) :
    Calls Try.prog 37 #[.slice A n c, .func (.func 38) #[] #[.pointer (some ⟨g, 0, none⟩)]] w fun e w' => ∃ k, e = .returned (.int .i64 (atI k)) ∧ At es key k ∧ Below w.heap.size w w' := by
  have HN := Lib.hid hn; clear hn
  have HR := Lib.hid hr; clear hr
  have HF : Hid (∀ k x, es[k]? = some x → x.key = key → (∀ y ∈ es.take k, ¬ y.key = key) → find es key = x) := Lib.hid (fun k x => find_take es k key x)
  have HZ : Hid ((∀ y ∈ es, ¬ y.key = key) → find es key = zero key) := Lib.hid (find_not es key)
  have HG : Hid (∀ W, Below w.heap.size w W → W.cell? ⟨g, 0, none⟩ = some (.int .i64 key)) := Lib.hid (fun W h => (h.cell (by show g < _; exact hgl)).trans hg)
  clear hg
  go_enter Try.func37, Try.ntmps37
  go_wp2
  go_loopw [8] (fun i wr => ∃ k : Nat, i = .int .i64 k ∧ k ≤ n ∧ (∀ y ∈ es.take k, ¬ y.key = key) ∧ Below w.heap.size w wr) (fun i _ => n - (intOf i).toNat)
  case atStart => exact ⟨0, rfl, by omega, by simp, Below.refl _ _⟩
  case round =>
    obtain ⟨k, rfl, hk, hno, hb⟩ := hrel
    have HB := Lib.hid hb; have HNO := Lib.hid hno
    have hsz := hb.size
    clear hb hno
    by_cases h : k < n
    · obtain ⟨b, o, rfl, hbB, hcell⟩ := HR.out (by rw [← HN.out]; omega)
      have hkl : k < es.length := by rw [← HN.out]; exact h
      have hz : es[k]? = some es[k] := List.getElem?_eq_getElem hkl
      have hc0 := (hcell k es[k] hz).below (HB.out.mono hB) hbB
      generalize es[k] = x at hz hc0
      obtain ⟨xk, xn, xd, xv⟩ := x
      obtain ⟨x0, x1, x2, x3⟩ := hc0
      have HX := Lib.hid hz
      clear hz hcell hkl
      go_wp2_with fail
      refine (clos_c ⟨xk, xn, xd, xv⟩ key g _ (HG.out _ HB.out) (by omega)).mono ?_
      rintro e w2 ⟨rfl, hb2⟩
      have HB := Lib.hid (HB.out.trans (hb2.mono HB.out.size)); clear hb2
      clear x0 x1 x2 x3
      simp only
      by_cases hx : xk = key
      · have HE := Lib.hid (HF.out k _ HX.out hx HNO.out)
        have hq : (xk == key) = true := by rw [beq_iff_eq]; exact hx
        clear hx HF HZ
        rw [hq]
        go_wp2
        go_ret
        exact ⟨some k, rfl, ⟨_, HX.out, HE.out⟩, HB.out⟩
      · have hq : (xk == key) = false := by rw [beq_eq_false_iff_ne]; exact hx
        have HNX : Hid (∀ y ∈ es.take (k + 1), ¬ y.key = key) := Lib.hid (by
          intro y hy
          rw [List.take_add_one, HX.out, List.mem_append] at hy
          rcases hy with hy | hy
          · exact HNO.out y hy
          · simp at hy; subst hy; exact hx)
        clear hx
        rw [hq]
        go_wp2
        exact ⟨⟨k + 1, by go_num, by omega, HNX.out, HB.out⟩, by simp [intOf]; omega⟩
    · have HE := Lib.hid (HZ.out (by
        have := HNO.out
        rwa [List.take_of_length_le (by rw [← HN.out]; omega)] at this))
      clear HF HZ
      go_wp2
      go_ret
      exact ⟨none, rfl, HE.out, HB.out⟩
set_option maxHeartbeats 1000000 in
theorem of_c (A : Option Addr) (n c : Nat) (es : List E) (hn : n = es.length) (hl : n ≤ 140737488355328) (key : Int) (B : Nat) (w : World) (hr : Re w B A es) (hB : B ≤ w.heap.size) :
    Calls Try.prog 26 #[.slice A n c, .int .i64 key] w fun e w' => e = .returned (ev (find es key)) ∧ Below w.heap.size w w' := by
  have hsf := store_flt
  have HN := Lib.hid hn
  have HR := Lib.hid hr
  have HI : Hid (∀ g W, Below w.heap.size w W → W.cell? ⟨g, 0, none⟩ = some (.int .i64 key) → g < W.heap.size → Calls Try.prog 37 #[.slice A n c, .func (.func 38) #[] #[.pointer (some ⟨g, 0, none⟩)]] W fun e w' => ∃ k, e = .returned (.int .i64 (atI k)) ∧ At es key k ∧ Below W.heap.size W w') := Lib.hid (fun g W hW hg hgl => index_c A n c es hn hl key g B W (hr.below (hW.mono hB)) (Nat.le_trans hB hW.size) hg hgl)
  clear hn hr
  go_enter Try.func26, Try.ntmps26
  go_wp2_with fail
  have V0 := Lib.hid (show Ex ((w.alloc (.cells #[.int .i64 key] 3)).alloc (.cells #[.int .i64 0, .int .i64 0, .int .i64 0, .float .f64 0] 26)) (w.heap.size + 1) (zero 0) from hat _ _ _ (by simp))
  have HC := Lib.hid (show ((w.alloc (.cells #[.int .i64 key] 3)).alloc (.cells #[.int .i64 0, .int .i64 0, .int .i64 0, .float .f64 0] 26)).heap[w.heap.size]? = some (.cells #[.int .i64 key] 3) from hbe (hat _ _ _ rfl))
  have HB := Lib.hid (bal (bal (Below.refl w.heap.size w) (Nat.le_refl _) (.cells #[.int .i64 key] 3)) (Nat.le_refl _) (.cells #[.int .i64 0, .int .i64 0, .int .i64 0, .float .f64 0] 26))
  generalize (w.alloc (.cells #[.int .i64 key] 3)).alloc (.cells #[.int .i64 0, .int .i64 0, .int .i64 0, .float .f64 0] 26) = w1 at V0 HC HB ⊢
  have hl1 := V0.out.lt
  have HC1 := Lib.hid (show w1.cell? ⟨w.heap.size, 0, none⟩ = some (.int .i64 key) from by rw [cell_of_row _ _ _ _ _ _ HC.out]; rfl)
  refine (HI.out w.heap.size w1 HB.out HC1.out (by omega)).mono ?_
  rintro e w2 ⟨k, rfl, hat, hb2⟩
  have V0 := Lib.hid (V0.out.all hb2)
  have HC1 := Lib.hid ((hb2.cell (by show w.heap.size < _; omega)).trans HC1.out)
  have HB := Lib.hid (HB.out.trans (hb2.mono HB.out.size)); clear hb2
  have z0 := V0.out.c0; have z1 := V0.out.c1; have z2 := V0.out.c2; have z3 := V0.out.c3
  have f0 := frozen_of_row w2 (w.heap.size + 1) 0 _ _ V0.out
  have f1 := frozen_of_row w2 (w.heap.size + 1) 1 _ _ V0.out
  have f2 := frozen_of_row w2 (w.heap.size + 1) 2 _ _ V0.out
  have f3 := frozen_of_row w2 (w.heap.size + 1) 3 _ _ V0.out
  have hcc := HC1.out
  clear HI HC HC1
  cases k with
  | none =>
    have HE : Hid (find es key = zero key) := Lib.hid hat
    clear hat HR HN
    simp only [atI]
    go_wp2
    refine bodyPost_ret (results_entry (g := w.heap.size + 1) (e := zero key) rfl rfl (V0.out.put (zero key))) rfl ?_
    exact ⟨by rw [HE.out], (((HB.out.setCell (by simp) _).setCell (by simp) _).setCell (by simp) _).setCell (by simp) _⟩
  | some k =>
    obtain ⟨x, hx, hf⟩ := hat
    have HE := Lib.hid hf
    have hkl : k < es.length := by
      rcases Nat.lt_or_ge k es.length with h' | h'
      · exact h'
      · rw [List.getElem?_eq_none h'] at hx; cases hx
    have h : k < n := by rw [HN.out]; exact hkl
    obtain ⟨b, o, rfl, hbB, hcell⟩ := HR.out (by omega)
    have hc0 := (hcell k x hx).below (HB.out.mono hB) hbB
    obtain ⟨xk, xn, xd, xv⟩ := x
    obtain ⟨x0, x1, x2, x3⟩ := hc0
    have hbw : b ≠ w.heap.size + 1 := by omega
    have hk0 : ¬ ((k : Int) < 0) := by omega
    clear hx hf hcell hkl HR HN
    simp only [atI]
    go_wp2
    refine bodyPost_ret (results_entry (g := w.heap.size + 1) (e := ⟨xk, xn, xd, xv⟩) rfl rfl (V0.out.put ⟨xk, xn, xd, xv⟩)) rfl ?_
    exact ⟨by rw [HE.out], (((HB.out.setCell (by simp) _).setCell (by simp) _).setCell (by simp) _).setCell (by simp) _⟩
end Go.Proofs.Ytjcpdhekilkhgaa.Bkw
