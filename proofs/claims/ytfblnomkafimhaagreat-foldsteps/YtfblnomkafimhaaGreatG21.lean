/- Contracts and words on which the claims of this seat stand, part 21: ClB ClD. -/
import Derived.Test.YtfblnomkafimhaaGreatG04
import Derived.Test.YtfblnomkafimhaaGreatG19
set_option linter.unusedSimpArgs false
set_option linter.unusedVariables false
namespace Go.Proofs.YtfblnomkafimhaaGreat.Clw
set_option maxRecDepth 20000
open Go.RowKit
open Chg Vw Cl
open Chgw (hat hbe ret_bool vw Vi)
open Rg (bal)

theorem clos_c (x : C) (key : Int) (g : Nat) (w : World) (hg : w.cell? ⟨g, 0, none⟩ = some (.int .i64 key)) (hl : g < w.heap.size) : Calls Tryz.prog 113 #[cv x, .pointer (some ⟨g, 0, none⟩)] w fun e w' => e = .returned (.bool (x.1 == key)) ∧ Below w.heap.size w w' := by
  obtain ⟨xk, xa, xd⟩ := x
  have hg2 : (w.alloc (.cells #[.int .i64 xk, .int .i64 xa, .int .i64 xd] 53)).cell? ⟨g, 0, none⟩ = some (.int .i64 key) := ((bal (Below.refl w.heap.size w) (Nat.le_refl _) _).cell (by show g < _; omega)).trans hg
  unfold cv
  simp only
  go_enter Tryz.func113, Tryz.ntmps113
  go_wp2
  go_ret
  exact ⟨rfl, bal (Below.refl _ _) (Nat.le_refl _) _⟩
/-- where a node's cell stands: the first place, or none -/
def AtC (es : List C) (key : Int) : Option Nat → Prop
  | none => (getC es key).2.1 = 0 ∧ (getC es key).2.2 = 0 ∧ hasC es key = false
  | some k => ∃ x, es[k]? = some x ∧ (getC es key).2.1 = x.2.1 ∧ (getC es key).2.2 = x.2.2 ∧ hasC es key = true
def atI : Option Nat → Int
  | none => -1
  | some k => k
set_option maxHeartbeats 1000000 in
theorem index_c (A : Option Addr) (n c : Nat) (es : List C) (hn : n = es.length) (hl : n ≤ 140737488355328) (key : Int) (g : Nat) (B : Nat) (w : World) (hr : Rg.Rs KC w B A es) (hB : B ≤ w.heap.size) (hg : w.cell? ⟨g, 0, none⟩ = some (.int .i64 key)) (hgl : g < w.heap.size) :
    Calls Tryz.prog 112 #[.slice A n c, .func (.func 113) #[] #[.pointer (some ⟨g, 0, none⟩)]] w fun e w' => ∃ k, e = .returned (.int .i64 (atI k)) ∧ AtC es key k ∧ Below w.heap.size w w' := by
  have HN := Lib.hid hn; clear hn
  have HR := Lib.hid hr; clear hr
  have HF : Hid (∀ k x, es[k]? = some x → x.1 = key → (∀ y ∈ es.take k, ¬ y.1 = key) → (getC es key).2.1 = x.2.1 ∧ (getC es key).2.2 = x.2.2 ∧ hasC es key = true) := Lib.hid (fun k x h1 h2 h3 => get_at (fnd_take es k key x h1 h2 h3))
  have HZ : Hid ((∀ y ∈ es, ¬ y.1 = key) → (getC es key).2.1 = 0 ∧ (getC es key).2.2 = 0 ∧ hasC es key = false) := Lib.hid (fun h => get_no (fnd_none es key h))
  have HG : Hid (∀ W, Below w.heap.size w W → W.cell? ⟨g, 0, none⟩ = some (.int .i64 key)) := Lib.hid (fun W h => (h.cell (by show g < _; exact hgl)).trans hg)
  clear hg
  go_enter Tryz.func112, Tryz.ntmps112
  go_wp2
  go_loopw [8] (fun i wr => ∃ k : Nat, i = .int .i64 k ∧ k ≤ n ∧ (∀ y ∈ es.take k, ¬ y.1 = key) ∧ Below w.heap.size w wr) (fun i _ => n - (intOf i).toNat)
  case atStart => exact ⟨0, rfl, by omega, by simp, Below.refl _ _⟩
  case round =>
    obtain ⟨k, rfl, hk, hno, hb⟩ := hrel
    have HB := Lib.hid hb; have HNO := Lib.hid hno
    have hsz := hb.size
    clear hb hno
    by_cases h : k < n
    · obtain ⟨b, o, rfl, hbB, hcell⟩ := HR.out (by rw [← HN.out]; omega)
      have hkl : k < es.length := by rw [← HN.out]; exact h
      have hz : es[k]? = some es[k] := List.getElem?_eq_getElem hkl
      have hc0 := (tri_at (hcell k es[k] hz)).below (HB.out.mono hB) hbB
      generalize es[k] = x at hz hc0
      obtain ⟨xk, xa, xd⟩ := x
      obtain ⟨x0, x1, x2⟩ := hc0
      rw [show KC.k = 3 from rfl] at x0 x1 x2
      have HX := Lib.hid hz
      clear hz hcell hkl
      go_wp2_with fail
      refine (clos_c (xk, xa, xd) key g _ (HG.out _ HB.out) (by omega)).mono ?_
      rintro e w2 ⟨rfl, hb2⟩
      have HB := Lib.hid (HB.out.trans (hb2.mono HB.out.size)); clear hb2
      clear x0 x1 x2
      simp only
      by_cases hx : xk = key
      · have HE := Lib.hid (HF.out k _ HX.out hx HNO.out)
        have hq : (xk == key) = true := by rw [beq_iff_eq]; exact hx
        clear hx HF HZ
        rw [hq]
        go_wp2
        go_ret
        exact ⟨some k, rfl, ⟨_, HX.out, HE.out⟩, HB.out⟩
      · have hq : (xk == key) = false := by rw [beq_eq_false_iff_ne]; exact hx
        have HNX := Lib.hid (not_more HX.out hx HNO.out)
        clear hx
        rw [hq]
        go_wp2
        exact ⟨⟨k + 1, by go_num, by omega, HNX.out, HB.out⟩, by simp [intOf]; omega⟩
    · have HE := Lib.hid (HZ.out (by
        have := HNO.out
        rwa [List.take_of_length_le (by rw [← HN.out]; omega)] at this))
      clear HF HZ
      go_wp2
      go_ret
      exact ⟨none, rfl, HE.out, HB.out⟩
set_option maxHeartbeats 1000000 in
theorem of_own (A : Option Addr) (n c : Nat) (es : List C) (hn : n = es.length) (hl : n ≤ 140737488355328) (key : Int) (B : Nat) (w : World) (hr : Rg.Rs KC w B A es) (hB : B ≤ w.heap.size) :
    Calls Tryz.prog 72 #[.slice A n c, .int .i64 key] w (RetOf w (getC es key).2.1 (getC es key).2.2 (hasC es key)) := by
  have HN := Lib.hid hn
  have HR := Lib.hid hr
  have HI : Hid (∀ g W, Below w.heap.size w W → W.cell? ⟨g, 0, none⟩ = some (.int .i64 key) → g < W.heap.size → Calls Tryz.prog 112 #[.slice A n c, .func (.func 113) #[] #[.pointer (some ⟨g, 0, none⟩)]] W fun e w' => ∃ k, e = .returned (.int .i64 (atI k)) ∧ AtC es key k ∧ Below W.heap.size W w') := Lib.hid (fun g W hW hg hgl => index_c A n c es hn hl key g B W (hr.below (hW.mono hB)) (Nat.le_trans hB hW.size) hg hgl)
  clear hn hr
  go_enter Tryz.func72, Tryz.ntmps72
  go_wp2_with fail
  have V0 := Lib.hid (show Vi ((w.alloc (.cells #[.int .i64 key] 3)).alloc (.cells #[.int .i64 0, .int .i64 0] 26)) (w.heap.size + 1) 0 0 from hat _ _ _ (by simp))
  have HC := Lib.hid (show ((w.alloc (.cells #[.int .i64 key] 3)).alloc (.cells #[.int .i64 0, .int .i64 0] 26)).heap[w.heap.size]? = some (.cells #[.int .i64 key] 3) from hbe (hat _ _ _ rfl))
  have HB := Lib.hid (bal (bal (Below.refl w.heap.size w) (Nat.le_refl _) (.cells #[.int .i64 key] 3)) (Nat.le_refl _) (.cells #[.int .i64 0, .int .i64 0] 26))
  generalize (w.alloc (.cells #[.int .i64 key] 3)).alloc (.cells #[.int .i64 0, .int .i64 0] 26) = w1 at V0 HC HB ⊢
  have hl1 := V0.out.lt
  have HC1 := Lib.hid (show w1.cell? ⟨w.heap.size, 0, none⟩ = some (.int .i64 key) from by rw [cell_of_row _ _ _ _ _ _ HC.out]; rfl)
  refine (HI.out w.heap.size w1 HB.out HC1.out (by omega)).mono ?_
  rintro e w2 ⟨k, rfl, hat, hb2⟩
  have V0 := Lib.hid (V0.out.below hb2)
  have HB := Lib.hid (HB.out.trans (hb2.mono HB.out.size)); clear hb2
  have z0 := V0.out.c0; have z1 := V0.out.c1
  have f0 := frozen_of_row w2 (w.heap.size + 1) 0 _ _ V0.out
  have f1 := frozen_of_row w2 (w.heap.size + 1) 1 _ _ V0.out
  clear HI HC HC1
  cases k with
  | none =>
    have HE := Lib.hid (show (getC es key).2.1 = 0 ∧ (getC es key).2.2 = 0 ∧ hasC es key = false from hat)
    clear hat HR HN
    simp only [atI]
    go_wp2
    refine bodyPost_ret (results_vi2 (g := w.heap.size + 1) (a := 0) (d := 0) (x := .bool false) rfl rfl rfl (vi_put V0.out 0 0)) rfl ?_
    exact ⟨by rw [HE.out.1, HE.out.2.1, HE.out.2.2], (HB.out.setCell (by simp) _).setCell (by simp) _⟩
  | some k =>
    obtain ⟨x, hx, hf⟩ := hat
    have HE := Lib.hid hf
    have hkl := lt_of_get hx
    have h : k < n := by rw [HN.out]; exact hkl
    obtain ⟨b, o, rfl, hbB, hcell⟩ := HR.out (by omega)
    have hc0 := (tri_at (hcell k x hx)).below (HB.out.mono hB) hbB
    obtain ⟨xk, xa, xd⟩ := x
    obtain ⟨x0, x1, x2⟩ := hc0
    rw [show KC.k = 3 from rfl] at x0 x1 x2
    have hbw : b ≠ w.heap.size + 1 := by omega
    have hk0 : ¬ ((k : Int) < 0) := by omega
    clear hx hf hcell hkl HR HN
    simp only [atI]
    go_wp2
    refine bodyPost_ret (results_vi2 (g := w.heap.size + 1) (a := xa) (d := xd) (x := .bool true) rfl rfl rfl (vi_put V0.out xa xd)) rfl ?_
    exact ⟨by rw [HE.out.1, HE.out.2.1, HE.out.2.2], (HB.out.setCell (by simp) _).setCell (by simp) _⟩
theorem of_c (A : Option Addr) (n c : Nat) (es : List C) (key : Int) (w : World) (h : Sc w A n c es) : Calls Tryz.prog 72 #[.slice A n c, .int .i64 key] w (RetOf w (getC es key).2.1 (getC es key).2.2 (hasC es key)) :=
  of_own A n c es h.1 (by have := h.2.2.1; omega) key _ w h.2.2.2 (Nat.le_refl _)
end Go.Proofs.YtfblnomkafimhaaGreat.Clw

namespace Go.Proofs.YtfblnomkafimhaaGreat.Clw
set_option maxRecDepth 20000
open Go.RowKit
open Chg Vw Cl
open Chgw (hat hbe ret_bool vw Vi)
open Rg (bal)

set_option maxHeartbeats 1000000 in
theorem merge_row (A : Option Addr) (n c : Nat) (es : List C) (A2 : Option Addr) (n2 c2 : Nat) (fs : List C) (w : World) (h1 : Sc w A n c es) (h2 : Sc w A2 n2 c2 fs) :
    Calls Tryz.prog 93 #[.slice A n c, .slice A2 n2 c2] w (Rg.RetOwnG KC w w.heap.size (mergeC es fs)) := by
  have HFA : Hid (∀ (key : Int) (W : World), Below w.heap.size w W → Calls Tryz.prog 72 #[.slice A n c, .int .i64 key] W (RetOf W (getC es key).2.1 (getC es key).2.2 (hasC es key))) := Lib.hid (fun key W hW => of_c A n c es key W (h1.all hW))
  have HFB : Hid (∀ (key : Int) (W : World), Below w.heap.size w W → Calls Tryz.prog 72 #[.slice A2 n2 c2, .int .i64 key] W (RetOf W (getC fs key).2.1 (getC fs key).2.2 (hasC fs key))) := Lib.hid (fun key W hW => of_c A2 n2 c2 fs key W (h2.all hW))
  clear h1 h2
  go_enter Tryz.func93, Tryz.ntmps93
  go_wp2
  go_loopw [5, 9] (fun x i wr => ∃ (A3 : Option Addr) (m c3 k : Nat), x = .slice A3 m c3 ∧ i = .int .i64 k ∧ k ≤ 6 ∧ Rg.OwnG KC wr w.heap.size A3 m c3 (mergeKC es fs k) ∧ Below w.heap.size w wr) (fun _ i _ => 6 - (intOf i).toNat)
  case atStart => exact ⟨_, 0, 0, 0, rfl, rfl, by omega, Rg.own_noneG KC _ _, Below.refl _ _⟩
  case round =>
    obtain ⟨A3, m, c3, k, rfl, rfl, hk, ho, hb⟩ := hrel
    have HB := Lib.hid hb; have HO := Lib.hid ho
    have hmk : m ≤ k := by rw [ho.1]; exact mergeKC_len es fs k
    have hsz := hb.size
    clear hb ho
    by_cases h : k < 6
    · have HMT : Hid (mergeKC es fs (k + 1) = mergeKC es fs k ++ if hasC es k || hasC fs k then [pickC es fs k] else []) := Lib.hid rfl
      have HPA : Hid (hasC es k = true → pickC es fs k = ((k : Int), (getC es k).2.1, (getC es k).2.2)) := Lib.hid (fun hh => by
        unfold pickC
        rw [if_pos hh, Prod.ext_iff]
        exact ⟨getC_node es k, rfl⟩)
      have HPB : Hid (hasC es k = false → pickC es fs k = ((k : Int), (getC fs k).2.1, (getC fs k).2.2)) := Lib.hid (fun hh => by
        unfold pickC
        rw [if_neg (by rw [hh]; simp), Prod.ext_iff]
        exact ⟨getC_node fs k, rfl⟩)
      generalize pickC es fs k = pk at HMT HPA HPB
      go_wp2_with fail
      refine (HFA.out _ _ HB.out).mono ?_
      rintro e w1 ⟨rfl, hb1⟩
      have HO := Lib.hid (HO.out.below hb1 (Nat.le_refl _))
      have HB := Lib.hid (HB.out.trans (hb1.mono HB.out.size)); clear hb1
      have hszg := HB.out.size
      generalize (getC es (k : Int)).2.1 = xa at HPA ⊢
      generalize (getC es (k : Int)).2.2 = xd at HPA ⊢
      generalize hasC es (k : Int) = xb at HMT HPA HPB ⊢
      unfold vw
      cases xb with
      | true =>
        obtain rfl : pk = ((k : Int), xa, xd) := HPA.out rfl
        clear HPA HPB
        have HO := Lib.hid (HO.out.alloc (.cells #[.int .i64 xa, .int .i64 xd] 26))
        have HBZ := Lib.hid (bal HB.out (Nat.le_refl _) (.cells #[.int .i64 xa, .int .i64 xd] 26))
        go_wp2_with (at_builtin; refine Rg.wp_appG (K := KC) rfl (.tmp 27) (.tmp 31) rfl w.heap.size A3 m c3 _ rfl (HO.out.alloc _) _ _ 1 1 [((k : Int), xa, xd)] rfl rfl (one_at _ _ ((k : Int), xa, xd) (by simp)) (by show _ * 24 ≤ _; omega) (Nat.le_trans HBZ.out.size (by simp)) ?_; intro A4 c4 w9 ho4 hb4)
        refine ⟨⟨A4, m + 1, c4, k + 1, rfl, by go_num, by omega, ?_, (bal HBZ.out (Nat.le_refl _) _).trans hb4⟩, by simp [intOf]; omega⟩
        rw [HMT.out]
        exact ho4
      | false =>
        have HPC := Lib.hid (HPB.out rfl)
        clear HPA HPB
        go_wp2_with fail
        have VX := Lib.hid (show Vi (w1.alloc (.cells #[.int .i64 xa, .int .i64 xd] 26)) w1.heap.size xa xd from hat _ _ _ rfl)
        have HOO : Hid (∀ W', Below w1.heap.size w1 W' → Rg.OwnG KC W' w.heap.size A3 m c3 (mergeKC es fs k)) := Lib.hid (fun W' h => HO.out.below h (Nat.le_refl _))
        have HB := Lib.hid (bal HB.out (Nat.le_refl _) (.cells #[.int .i64 xa, .int .i64 xd] 26))
        have HBG := Lib.hid (bal (Below.refl w1.heap.size w1) (Nat.le_refl _) (.cells #[.int .i64 xa, .int .i64 xd] 26))
        clear HO
        generalize w1.alloc (.cells #[.int .i64 xa, .int .i64 xd] 26) = w2 at VX HB HBG ⊢
        generalize w1.heap.size = gx at VX HOO HBG hszg ⊢
        refine (HFB.out _ _ HB.out).mono ?_
        rintro e w3 ⟨rfl, hb1⟩
        have hgx := VX.out.lt
        have VX := Lib.hid (VX.out.below hb1)
        have HBG := Lib.hid (HBG.out.trans (hb1.mono (Nat.le_of_lt hgx)))
        have HB := Lib.hid (HB.out.trans (hb1.mono HB.out.size)); clear hb1
        generalize (getC fs (k : Int)).2.1 = ya at HPC ⊢
        generalize (getC fs (k : Int)).2.2 = yd at HPC ⊢
        generalize hasC fs (k : Int) = yb at HMT ⊢
        unfold vw
        obtain rfl : pk = ((k : Int), ya, yd) := HPC.out
        clear HPC
        have x0 := VX.out.c0; have x1 := VX.out.c1
        have z0 := frozen_of_row w3 gx 0 _ _ VX.out
        have z1 := frozen_of_row w3 gx 1 _ _ VX.out
        go_upto_region 8 with (fail)
        have VX := Lib.hid (vi_put VX.out ya yd)
        have HBZ := Lib.hid (show Below w.heap.size w ((w3.setCell ⟨gx, 0, none⟩ (.int .i64 ya)).setCell ⟨gx, 1, none⟩ (.int .i64 yd)) from (HB.out.setCell (by show _ ≤ gx; omega) _).setCell (by show _ ≤ gx; omega) _)
        have HO := Lib.hid (show Rg.OwnG KC ((w3.setCell ⟨gx, 0, none⟩ (.int .i64 ya)).setCell ⟨gx, 1, none⟩ (.int .i64 yd)) _ _ _ _ _ from HOO.out _ ((HBG.out.setCell (Nat.le_refl _) _).setCell (Nat.le_refl _) _))
        clear x0 x1 z0 z1 HOO HBG
        generalize ((w3.setCell ⟨gx, 0, none⟩ (.int .i64 ya)).setCell ⟨gx, 1, none⟩ (.int .i64 yd)) = w8 at VX HBZ HO ⊢
        have x0 := VX.out.c0; have x1 := VX.out.c1
        cases yb with
        | true =>
          go_wp2_with (at_builtin; refine Rg.wp_appG (K := KC) rfl (.tmp 27) (.tmp 31) rfl w.heap.size A3 m c3 _ rfl (HO.out.alloc _) _ _ 1 1 [((k : Int), ya, yd)] rfl rfl (one_at _ _ ((k : Int), ya, yd) (by simp)) (by show _ * 24 ≤ _; omega) (Nat.le_trans HBZ.out.size (by simp)) ?_; intro A4 c4 w9 ho4 hb4)
          refine ⟨⟨A4, m + 1, c4, k + 1, rfl, by go_num, by omega, ?_, (bal HBZ.out (Nat.le_refl _) _).trans hb4⟩, by simp [intOf]; omega⟩
          rw [HMT.out]
          exact ho4
        | false =>
          clear x0 x1
          go_wp2
          refine ⟨⟨A3, m, c3, k + 1, rfl, by go_num, by omega, ?_, HBZ.out⟩, by simp [intOf]; omega⟩
          rw [HMT.out]
          simpa using HO.out
    · obtain rfl : k = 6 := by omega
      go_wp2
      go_ret
      exact ⟨A3, m, c3, rfl, HO.out, HB.out⟩
set_option maxHeartbeats 1000000 in
theorem news_own (A : Option Addr) (n c : Nat) (es : List C) (A2 : Option Addr) (n2 c2 : Nat) (fs : List C) (w : World) (h1 : Sc w A n c es) (h2 : Sc w A2 n2 c2 fs) :
    Calls Tryz.prog 35 #[.slice A n c, .slice A2 n2 c2] w (RetSc w (newsKC es fs 6)) := by
  have HFA : Hid (∀ (key : Int) (W : World), Below w.heap.size w W → Calls Tryz.prog 72 #[.slice A n c, .int .i64 key] W (RetOf W (getC es key).2.1 (getC es key).2.2 (hasC es key))) := Lib.hid (fun key W hW => of_c A n c es key W (h1.all hW))
  have HFB : Hid (∀ (key : Int) (W : World), Below w.heap.size w W → Calls Tryz.prog 72 #[.slice A2 n2 c2, .int .i64 key] W (RetOf W (getC fs key).2.1 (getC fs key).2.2 (hasC fs key))) := Lib.hid (fun key W hW => of_c A2 n2 c2 fs key W (h2.all hW))
  clear h1 h2
  go_enter Tryz.func35, Tryz.ntmps35
  go_wp2
  go_loopw [5, 11] (fun x i wr => ∃ (A3 : Option Addr) (m c3 k : Nat), x = .slice A3 m c3 ∧ i = .int .i64 k ∧ k ≤ 6 ∧ Rg.OwnG KC wr w.heap.size A3 m c3 (newsKC es fs k) ∧ Below w.heap.size w wr) (fun _ i _ => 6 - (intOf i).toNat)
  case atStart => exact ⟨_, 0, 0, 0, rfl, rfl, by omega, Rg.own_noneG KC _ _, Below.refl _ _⟩
  case round =>
    obtain ⟨A3, m, c3, k, rfl, rfl, hk, ho, hb⟩ := hrel
    have HB := Lib.hid hb; have HO := Lib.hid ho
    have hmk : m ≤ k := by rw [ho.1]; exact newsKC_len es fs k
    have hsz := hb.size
    clear hb ho
    by_cases h : k < 6
    · have HMT : Hid (newsKC es fs (k + 1) = newsKC es fs k ++ if hasC fs k && !hasC es k then [getC fs k] else []) := Lib.hid rfl
      have HPB : Hid (getC fs k = ((k : Int), (getC fs k).2.1, (getC fs k).2.2)) := Lib.hid (by
        rw [Prod.ext_iff]
        exact ⟨getC_node fs k, rfl⟩)
      go_wp2_with fail
      refine (HFA.out _ _ HB.out).mono ?_
      rintro e w1 ⟨rfl, hb1⟩
      have HO := Lib.hid (HO.out.below hb1 (Nat.le_refl _))
      have HB := Lib.hid (HB.out.trans (hb1.mono HB.out.size)); clear hb1
      generalize (getC es (k : Int)).2.1 = xa
      generalize (getC es (k : Int)).2.2 = xd
      generalize hasC es (k : Int) = xb at HMT ⊢
      unfold vw
      go_wp2_with fail
      have HO := Lib.hid (HO.out.alloc (.cells #[.int .i64 xa, .int .i64 xd] 26))
      have HB := Lib.hid (bal HB.out (Nat.le_refl _) (.cells #[.int .i64 xa, .int .i64 xd] 26))
      generalize w1.alloc (.cells #[.int .i64 xa, .int .i64 xd] 26) = w2 at HO HB ⊢
      generalize w1.heap.size = gx
      refine (HFB.out _ _ HB.out).mono ?_
      rintro e w3 ⟨rfl, hb1⟩
      have HO := Lib.hid (HO.out.below hb1 (Nat.le_refl _))
      have HB := Lib.hid (HB.out.trans (hb1.mono HB.out.size)); clear hb1
      generalize getC fs (k : Int) = gy at HMT HPB ⊢
      obtain ⟨yk, ya, yd⟩ := gy
      obtain rfl : yk = (k : Int) := congrArg Prod.fst HPB.out
      clear HPB
      simp only
      generalize hasC fs (k : Int) = yb at HMT ⊢
      unfold vw
      have HO := Lib.hid (HO.out.alloc (.cells #[.int .i64 ya, .int .i64 yd] 26))
      have HBZ := Lib.hid (bal HB.out (Nat.le_refl _) (.cells #[.int .i64 ya, .int .i64 yd] 26))
      cases hv : (yb && !xb) with
      | true =>
        have hyb : yb = true := by cases yb <;> simp_all
        have hxb : xb = false := by cases xb <;> simp_all
        subst hyb
        subst hxb
        clear hv
        go_wp2_with (at_builtin; refine Rg.wp_appG (K := KC) rfl (.tmp 31) (.tmp 35) rfl w.heap.size A3 m c3 _ rfl (HO.out.alloc _) _ _ 1 1 [((k : Int), ya, yd)] rfl rfl (one_at _ _ ((k : Int), ya, yd) (by simp)) (by show _ * 24 ≤ _; omega) (Nat.le_trans HBZ.out.size (by simp)) ?_; intro A4 c4 w9 ho4 hb4)
        refine ⟨⟨A4, m + 1, c4, k + 1, rfl, by go_num, by omega, ?_, (bal HBZ.out (Nat.le_refl _) _).trans hb4⟩, by simp [intOf]; omega⟩
        rw [HMT.out]
        exact ho4
      | false =>
        rw [hv] at HMT
        cases yb with
        | false =>
          clear hv
          go_wp2
          refine ⟨⟨A3, m, c3, k + 1, rfl, by go_num, by omega, ?_, HBZ.out⟩, by simp [intOf]; omega⟩
          rw [HMT.out]
          simpa using HO.out
        | true =>
          have hxb : xb = true := by cases xb <;> simp_all
          subst hxb
          clear hv
          go_wp2
          refine ⟨⟨A3, m, c3, k + 1, rfl, by go_num, by omega, ?_, HBZ.out⟩, by simp [intOf]; omega⟩
          rw [HMT.out]
          simpa using HO.out
    · obtain rfl : k = 6 := by omega
      have hlen : (newsKC es fs 6).length * 24 ≤ 140737488355328 := by have := newsKC_len es fs 6; omega
      have HL := Lib.hid hlen; clear hlen
      go_wp2
      go_ret
      exact ⟨A3, m, c3, rfl, Sc.own HO.out HL.out, HB.out⟩
theorem news_c (A : Option Addr) (n c : Nat) (es : List C) (A2 : Option Addr) (n2 c2 : Nat) (fs : List C) (w : World) (h1 : Sc w A n c es) (h2 : Sc w A2 n2 c2 fs) (hb : isCl fs = true) :
    Calls Tryz.prog 35 #[.slice A n c, .slice A2 n2 c2] w (RetSc w (newsC es fs)) := by
  have := news_own A n c es A2 n2 c2 fs w h1 h2
  rwa [newsKC_eq hb] at this
end Go.Proofs.YtfblnomkafimhaaGreat.Clw
