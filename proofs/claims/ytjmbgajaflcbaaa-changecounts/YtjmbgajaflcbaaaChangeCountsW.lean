/- The walk of ChangeCounts. -/
import Derived.Test.YtjmbgajaflcbaaaChgA
import Derived.Test.YtjmbgajaflcbaaaWf
namespace Go.Proofs.Ytjmbgajaflcbaaa.changeCounts
open Go.RowKit
open Chg

/-- how many of the first six hold -/
def cntF (f : Nat → Bool) : Nat := (if f 0 then 1 else 0) + (if f 1 then 1 else 0) + (if f 2 then 1 else 0) + (if f 3 then 1 else 0) + (if f 4 then 1 else 0) + (if f 5 then 1 else 0)
theorem cnt_setF (f : Nat → Bool) : cnt (setF f) = cntF f := by
  unfold cnt cntF
  rw [setF_bit f 0 (by omega), setF_bit f 1 (by omega), setF_bit f 2 (by omega), setF_bit f 3 (by omega), setF_bit f 4 (by omega), setF_bit f 5 (by omega)]
theorem cntF_congr {f g : Nat → Bool} (h : ∀ i, i < 6 → f i = g i) : cntF f = cntF g := by
  unfold cntF
  rw [h 0 (by omega), h 1 (by omega), h 2 (by omega), h 3 (by omega), h 4 (by omega), h 5 (by omega)]
theorem cntF_le (f : Nat → Bool) : cntF f ≤ 6 := by
  unfold cntF
  split <;> split <;> split <;> split <;> split <;> split <;> decide
theorem cntF_set (f : Nat → Bool) (m : Nat) (hm : m < 6) : cntF (fun i => if i = m then true else f i) = cntF f + if f m then 0 else 1 := by
  unfold cntF
  obtain rfl | rfl | rfl | rfl | rfl | rfl : m = 0 ∨ m = 1 ∨ m = 2 ∨ m = 3 ∨ m = 4 ∨ m = 5 := by omega
  all_goals
    simp
    generalize f 0 = b0; generalize f 1 = b1; generalize f 2 = b2; generalize f 3 = b3; generalize f 4 = b4; generalize f 5 = b5
    revert b0 b1 b2 b3 b4 b5
    decide
theorem hasN_none : cntF (hasN []) = 0 := rfl
theorem cnt_take (l : List Int) (k m : Nat) (hm : m < 6) (h : l[k]? = some (m : Int)) : cntF (hasN (l.take (k + 1))) = cntF (hasN (l.take k)) + if hasN (l.take k) m then 0 else 1 := by
  rw [← cntF_set (hasN (l.take k)) m hm]
  exact cntF_congr (fun i _ => (hasN_take l k m h i).symm)
theorem hasN_mem (l : List Int) (i : Nat) : hasN l i = true ↔ (i : Int) ∈ l := by
  unfold hasN
  rw [List.any_eq_true]
  constructor
  · rintro ⟨z, hz, he⟩
    rw [beq_iff_eq] at he
    rw [← he]; exact hz
  · intro h
    exact ⟨_, h, by simp⟩
theorem setF_same {l l' : List Int} (h : ∀ z, z ∈ l ↔ z ∈ l') : setF (hasN l) = setF (hasN l') := setF_congr (fun i _ => by rw [Bool.eq_iff_iff, hasN_mem, hasN_mem, h])
theorem all_same {l l' : List Int} (h : ∀ z, z ∈ l ↔ z ∈ l') : l.all okN = l'.all okN := by
  rw [Bool.eq_iff_iff, List.all_eq_true, List.all_eq_true]
  exact ⟨fun a z hz => a z ((h z).2 hz), fun a z hz => a z ((h z).1 hz)⟩
theorem ofF_same {l l' ds : List Int} (h : ∀ z, z ∈ l ↔ z ∈ l') : ofF l ds = ofF l' ds := by
  unfold ofF
  rw [all_same h, setF_same h]
/-- each twice, from behind, down to number k -/
def twice (l : List Int) (k : Nat) : List Int := (l.drop k).reverse.flatMap fun z => [z, z]
theorem twice_mem (l : List Int) (z : Int) : z ∈ twice l 0 ↔ z ∈ l := by
  unfold twice
  simp
theorem twice_step (l : List Int) (k : Nat) (z : Int) (h : l[k]? = some z) : twice l k = twice l (k + 1) ++ [z, z] := by
  unfold twice
  have hk : k < l.length := by
    rcases Nat.lt_or_ge k l.length with h' | h'
    · exact h'
    · rw [List.getElem?_eq_none h'] at h; cases h
  rw [List.getElem?_eq_getElem hk] at h
  injection h with h
  rw [List.drop_eq_getElem_cons hk, h, List.reverse_cons, List.flatMap_append]
  rfl
theorem twice_len (l : List Int) (k : Nat) : (twice l k).length = 2 * (l.length - k) := by
  unfold twice
  rw [← List.length_drop]
  generalize l.drop k = m
  induction m with
  | nil => rfl
  | cons x m ih => simp only [List.reverse_cons, List.flatMap_append, List.length_append, ih, List.length_cons]; simp; omega

set_option maxRecDepth 100000 in
set_option maxHeartbeats 1000000 in
theorem walk (w : World) (A : Option Addr) (n c : Nat) (ls : List Int) (hn : n = ls.length) (_hc : n ≤ c) (hr : Rd w w.heap.size A (ls.map (Value.int .i64))) (_hw : ∀ z ∈ ls, (Lit.int .i64 z).wf = true) (_hl : c * 8 ≤ 140737488351232)
    (A1 : Option Addr) (n1 c1 : Nat) (ds : List Int) (hn1 : n1 = ds.length) (_hc1 : n1 ≤ c1) (hr1 : Rd w w.heap.size A1 (ds.map (Value.int .i64))) (_hw1 : ∀ z ∈ ds, (Lit.int .i64 z).wf = true) (_hl1 : c1 * 8 ≤ 140737488351232) :
    Calls Try.prog 8 #[.slice A n c, .slice A1 n1 c1] w fun e w' => e = .returned (.bool true) ∧ Below w.heap.size w w' := by
  have h47 : n ≤ 140737488355328 := by omega
  have h471 : n1 ≤ 140737488355328 := by omega
  clear _hc _hl _hc1 _hl1 _hw _hw1
  have heq := eq_view
  have HN := Lib.hid hn; clear hn
  have HR := Lib.hid hr; clear hr
  have HN1 := Lib.hid hn1; clear hn1
  have HR1 := Lib.hid hr1; clear hr1
  go_enter Try.func8, Try.ntmps8
  go_wp2_with fail
  refine (alive_c _).mono ?_
  rintro e w1 ⟨rfl, hb1⟩
  have HB1 := Lib.hid hb1; clear hb1
  by_cases h100 : (100 : Int) < (n : Int)
  · go_wp2
    go_ret
    exact ⟨rfl, HB1.out⟩
  by_cases h101 : (100 : Int) < (n1 : Int)
  · go_wp2
    go_ret
    exact ⟨rfl, HB1.out⟩
  go_wp2_with fail
  refine (of_c A n c ls HN.out h47 A1 n1 c1 ds HN1.out h471 w.heap.size _ (HR.out.below HB1.out) (HR1.out.below HB1.out) HB1.out.size).mono ?_
  rintro e w2 ⟨rfl, hb2⟩
  have HB2 := Lib.hid (HB1.out.trans (hb2.mono HB1.out.size)); clear hb2
  obtain ⟨p1, p2, hp⟩ : ∃ p1 p2, gv (ofF ls ds) = (p1, p2) := ⟨_, _, rfl⟩
  obtain ⟨v, hv⟩ : ∃ v, v = ge (ofF ls ds) := ⟨_, rfl⟩
  have HP := Lib.hid hp; have HV := Lib.hid hv
  unfold vw
  rw [hp, ← hv]
  clear hp hv
  go_wp2
  have V1 := Lib.hid (show Vx (((w2.alloc (.cells #[.int .i64 (p1 : Int), .int .i64 (p2 : Int)] 23)).alloc (.cells #[.bool false, .bool false, .bool false, .bool false, .bool false, .bool false] 42)).alloc (.cells #[.bool false, .bool false, .bool false, .bool false, .bool false, .bool false] 42)) w2.heap.size p1 p2 from hbe (hbe (hat _ _ _ rfl)))
  have X1 := Lib.hid (show Bx (((w2.alloc (.cells #[.int .i64 (p1 : Int), .int .i64 (p2 : Int)] 23)).alloc (.cells #[.bool false, .bool false, .bool false, .bool false, .bool false, .bool false] 42)).alloc (.cells #[.bool false, .bool false, .bool false, .bool false, .bool false, .bool false] 42)) (w2.heap.size + 1) (hasN (ls.take 0)) from hbe (hat _ _ _ (by simp)))
  have X2 := Lib.hid (show Bx (((w2.alloc (.cells #[.int .i64 (p1 : Int), .int .i64 (p2 : Int)] 23)).alloc (.cells #[.bool false, .bool false, .bool false, .bool false, .bool false, .bool false] 42)).alloc (.cells #[.bool false, .bool false, .bool false, .bool false, .bool false, .bool false] 42)) (w2.heap.size + 1 + 1) (hasN (ds.take 0)) from hat _ _ _ (by simp))
  have HB3 := Lib.hid (bal (bal (bal HB2.out (Nat.le_refl _) (.cells #[.int .i64 (p1 : Int), .int .i64 (p2 : Int)] 23)) (Nat.le_refl _) (.cells #[.bool false, .bool false, .bool false, .bool false, .bool false, .bool false] 42)) (Nat.le_refl _) (.cells #[.bool false, .bool false, .bool false, .bool false, .bool false, .bool false] 42))
  have hG := HB2.out.size
  generalize ((w2.alloc (.cells #[.int .i64 (p1 : Int), .int .i64 (p2 : Int)] 23)).alloc (.cells #[.bool false, .bool false, .bool false, .bool false, .bool false, .bool false] 42)).alloc (.cells #[.bool false, .bool false, .bool false, .bool false, .bool false, .bool false] 42) = w3 at V1 X1 X2 HB3 ⊢
  generalize w2.heap.size = G at V1 X1 X2 hG ⊢
  clear HB2 HB1
  go_loopw [9, 38] (fun u i wr => ∃ k : Nat, u = .int .i64 ((cntF (hasN (ls.take k)) : Nat) : Int) ∧ i = .int .i64 k ∧ k ≤ n ∧ Vx wr G p1 p2 ∧ Bx wr (G + 1) (hasN (ls.take k)) ∧ Bx wr (G + 1 + 1) (hasN (ds.take 0)) ∧ (ls.take k).all okN = true ∧ Below w.heap.size w wr) (fun _ i _ => n - (intOf i).toNat)
  case atStart => exact ⟨0, rfl, rfl, by omega, V1.out, X1.out, X2.out, rfl, HB3.out⟩
  case round =>
    clear V1 X1 X2 HB3
    obtain ⟨k, rfl, rfl, hk, hv, hx, hy, hall, hbl⟩ := hrel
    have H1 := Lib.hid hv; have H2 := Lib.hid hx; have H3 := Lib.hid hy; have H4 := Lib.hid hall; have HB := Lib.hid hbl
    clear hv hx hy hall hbl
    have hcl := cntF_le (hasN (ls.take k))
    obtain ⟨q, hq⟩ : ∃ q, q = cntF (hasN (ls.take k)) := ⟨_, rfl⟩
    rw [← hq] at hcl ⊢
    have HQ := Lib.hid hq; clear hq
    by_cases h : k < n
    · obtain ⟨b, o, rfl, hbB, hcell⟩ := HR.out (by rw [List.length_map, ← HN.out]; omega)
      have hkl : k < ls.length := by rw [← HN.out]; exact h
      have hz : ls[k]? = some ls[k] := List.getElem?_eq_getElem hkl
      have hc0 := hcell k (.int .i64 ls[k]) (by simp [hkl])
      generalize ls[k] = z at hz hc0
      have hcz : wr.cell? ⟨b, o + k, none⟩ = some (.int .i64 z) := (HB.out.cell (by show b < _; omega)).trans hc0
      have HZ := Lib.hid hz
      clear hz hc0 hcell hkl
      by_cases hneg : z < 0
      · have hv41 : v = 41 := by rw [HV.out, ofF_bad_adds HZ.out (decide_eq_false (by omega))]; rfl
        subst hv41
        go_wp2
        go_ret
        exact ⟨rfl, HB.out⟩
      by_cases hbig : 5 < z
      · have hv41 : v = 41 := by rw [HV.out, ofF_bad_adds HZ.out (decide_eq_false (by omega))]; rfl
        subst hv41
        go_wp2
        go_ret
        exact ⟨rfl, HB.out⟩
      obtain ⟨m, rfl⟩ : ∃ m : Nat, z = (m : Int) := ⟨z.toNat, by omega⟩
      have hm6 : m < 6 := by omega
      have y0 := H2.out.cell m hm6
      have y1 := H2.out.frozen m
      have HC := Lib.hid (cnt_take ls k m hm6 HZ.out)
      cases hh : hasN (ls.take k) m with
      | true =>
        rw [hh] at y0 HC
        clear hh
        go_wp2
        refine ⟨⟨k + 1, ?_, by go_num, by omega, H1.out.other (by simp) _, (H2.out.set m hm6 true).congr (fun i _ => hasN_take ls k m HZ.out i), H3.out.other (by simp) _, all_take_succ ls k _ HZ.out (decide_eq_true (by omega)) H4.out, HB.out.setCell (by simp <;> omega) _⟩, by simp [intOf]; omega⟩
        rw [HC.out, HQ.out]
        rfl
      | false =>
        rw [hh] at y0 HC
        clear hh
        go_wp2
        refine ⟨⟨k + 1, ?_, by go_num, by omega, H1.out.other (by simp) _, (H2.out.set m hm6 true).congr (fun i _ => hasN_take ls k m HZ.out i), H3.out.other (by simp) _, all_take_succ ls k _ HZ.out (decide_eq_true (by omega)) H4.out, HB.out.setCell (by simp <;> omega) _⟩, by simp [intOf]; omega⟩
        rw [HC.out, HQ.out]
        rfl
    · obtain rfl : k = n := by omega
      have hall : ls.all okN = true := by have := H4.out; rwa [List.take_of_length_le (by rw [← HN.out]; omega)] at this
      have hqq : q = cntF (hasN ls) := by have := HQ.out; rwa [List.take_of_length_le (by rw [← HN.out]; omega)] at this
      have HQ := Lib.hid hqq; have H4 := Lib.hid hall
      clear hqq hall H2
      go_wp2
      go_loopw [9, 61] (fun u i wq => ∃ j : Nat, u = .int .i64 ((q + cntF (hasN (ds.take j)) : Nat) : Int) ∧ i = .int .i64 j ∧ j ≤ n1 ∧ Vx wq G p1 p2 ∧ Bx wq (G + 1 + 1) (hasN (ds.take j)) ∧ (ds.take j).all okN = true ∧ Below w.heap.size w wq) (fun _ i _ => n1 - (intOf i).toNat)
      case atStart => exact ⟨0, by rw [show cntF (hasN (ds.take 0)) = 0 from rfl]; rfl, rfl, by omega, H1.out, H3.out, rfl, HB.out⟩
      case round =>
        clear H1 H3 HB
        obtain ⟨j, rfl, rfl, hj, hv, hy, hall, hbl⟩ := hrel
        have H1 := Lib.hid hv; have H3 := Lib.hid hy; have H5 := Lib.hid hall; have HB := Lib.hid hbl
        clear hv hy hall hbl
        have hcl2 := cntF_le (hasN (ds.take j))
        obtain ⟨q2, hq2⟩ : ∃ q2, q2 = q + cntF (hasN (ds.take j)) := ⟨_, rfl⟩
        rw [← hq2]
        have hq12 : q2 ≤ 12 := by omega
        have HQ2 := Lib.hid hq2; clear hq2 hcl2
        by_cases h : j < n1
        · obtain ⟨b, o, rfl, hbB, hcell⟩ := HR1.out (by rw [List.length_map, ← HN1.out]; omega)
          have hkl : j < ds.length := by rw [← HN1.out]; exact h
          have hz : ds[j]? = some ds[j] := List.getElem?_eq_getElem hkl
          have hc0 := hcell j (.int .i64 ds[j]) (by simp [hkl])
          generalize ds[j] = z at hz hc0
          have hcz : wr.cell? ⟨b, o + j, none⟩ = some (.int .i64 z) := (HB.out.cell (by show b < _; omega)).trans hc0
          have HZ := Lib.hid hz
          clear hz hc0 hcell hkl
          by_cases hneg : z < 0
          · have hv41 : v = 41 := by rw [HV.out, ofF_bad_dels HZ.out (decide_eq_false (by omega))]; rfl
            subst hv41
            go_wp2
            go_ret
            exact ⟨rfl, HB.out⟩
          by_cases hbig : 5 < z
          · have hv41 : v = 41 := by rw [HV.out, ofF_bad_dels HZ.out (decide_eq_false (by omega))]; rfl
            subst hv41
            go_wp2
            go_ret
            exact ⟨rfl, HB.out⟩
          obtain ⟨m, rfl⟩ : ∃ m : Nat, z = (m : Int) := ⟨z.toNat, by omega⟩
          have hm6 : m < 6 := by omega
          have y0 := H3.out.cell m hm6
          have y1 := H3.out.frozen m
          have HC := Lib.hid (cnt_take ds j m hm6 HZ.out)
          cases hh : hasN (ds.take j) m with
          | true =>
            rw [hh] at y0 HC
            clear hh
            go_wp2
            refine ⟨⟨j + 1, ?_, by go_num, by omega, H1.out.other (by simp <;> omega) _, (H3.out.set m hm6 true).congr (fun i _ => hasN_take ds j m HZ.out i), all_take_succ ds j _ HZ.out (decide_eq_true (by omega)) H5.out, HB.out.setCell (by simp <;> omega) _⟩, by simp [intOf]; omega⟩
            rw [HC.out, HQ2.out]
            rfl
          | false =>
            rw [hh] at y0 HC
            clear hh
            go_wp2
            refine ⟨⟨j + 1, ?_, by go_num, by omega, H1.out.other (by simp <;> omega) _, (H3.out.set m hm6 true).congr (fun i _ => hasN_take ds j m HZ.out i), all_take_succ ds j _ HZ.out (decide_eq_true (by omega)) H5.out, HB.out.setCell (by simp <;> omega) _⟩, by simp [intOf]; omega⟩
            rw [HC.out, HQ2.out]
            rfl
        · obtain rfl : j = n1 := by omega
          have hall : ds.all okN = true := by have := H5.out; rwa [List.take_of_length_le (by rw [← HN1.out]; omega)] at this
          have hqq : q2 = cntF (hasN ls) + cntF (hasN ds) := by have := HQ2.out; rw [List.take_of_length_le (by rw [← HN1.out]; omega), HQ.out] at this; exact this
          have hof : ofF ls ds = some (setF (hasN ls), setF (hasN ds)) := by unfold ofF; rw [H4.out, hall]; rfl
          have hv0 : v = 0 := by rw [HV.out, hof]; rfl
          have hpp : (p1, p2) = (setF (hasN ls), setF (hasN ds)) := by rw [← HP.out, hof]; rfl
          injection hpp with hp1 hp2
          have HCC : Hid (cnt p1 + cnt p2 = q2) := Lib.hid (by rw [hqq, hp1, hp2, cnt_setF, cnt_setF])
          have hp64 : p1 < 64 := by rw [hp1]; exact setF_lt _
          have hp264 : p2 < 64 := by rw [hp2]; exact setF_lt _
          have HOF : Hid (ofF (twice ls 0) ds = some (p1, p2)) := Lib.hid (by rw [ofF_same (twice_mem ls), hof, hp1, hp2])
          clear hall hqq hof hp1 hp2
          subst hv0
          go_wp2
          have hG2 := H1.out.lt
          have hBs := HB.out.size
          obtain ⟨gB, hgB⟩ : ∃ gB, gB = wr.heap.size := ⟨_, rfl⟩
          have O0 := Lib.hid (show OwnI (wr.alloc (.cells #[] 3)) gB (some ⟨gB, 0, none⟩) 0 0 [] from ownI_at wr gB gB [] hgB (by omega) (by simp))
          have V0 := Lib.hid (show Vx (wr.alloc (.cells #[] 3)) G p1 p2 from hbe H1.out)
          have B0 := Lib.hid (bal HB.out (Nat.le_refl _) (.cells #[] 3))
          have s0 : gB ≤ (wr.alloc (.cells #[] 3)).heap.size := by simp; omega
          rw [← hgB] at hG2 hBs ⊢
          clear hgB H1 HB H3
          go_loopw [14, 15] (fun x i wq => ∃ (A' : Option Addr) (n' c' t : Nat) (y : Int), x = .slice A' n' c' ∧ i = .int .i64 y ∧ y = (t : Int) - 1 ∧ t ≤ k ∧ OwnI wq gB A' n' c' (twice ls t) ∧ Vx wq G p1 p2 ∧ gB ≤ wq.heap.size ∧ Below w.heap.size w wq) (fun _ i _ => (intOf i + 1).toNat)
          case atStart =>
            refine ⟨_, 0, 0, k, _, rfl, rfl, rfl, Nat.le_refl _, ?_, V0.out, s0, B0.out⟩
            have e0 : twice ls k = [] := by unfold twice; rw [List.drop_of_length_le (by rw [← HN.out]; omega)]; rfl
            rw [e0]
            exact O0.out
          case round =>
            clear O0 V0 B0 s0
            obtain ⟨A', n', c', t, y, rfl, rfl, hy, ht, ho, hv, hsz, hbl⟩ := hrel
            have hn' : n' = 2 * (k - t) := by rw [ho.1, twice_len, ← HN.out]
            have HO := Lib.hid ho; have HVV := Lib.hid hv; have HB := Lib.hid hbl; have HNN := Lib.hid hn'
            have hn200 : n' ≤ 200 := by omega
            clear ho hv hbl hn'
            rcases Nat.eq_zero_or_pos t with h0 | h0
            · subst h0
              obtain rfl : y = -1 := by omega
              clear hy
              go_wp2_with fail
              refine (of_c A' n' c' _ HO.out.1 (by omega) A1 j c1 ds HN1.out h471 wr.heap.size _ HO.out.rd ((HR1.out.below HB.out).more (by omega)) (Nat.le_refl _)).mono ?_
              rw [HOF.out]
              rintro e w6 ⟨rfl, hb6⟩
              have HVV := Lib.hid (HVV.out.below hb6 (by omega))
              have HB := Lib.hid (HB.out.trans (hb6.mono (by omega))); clear hb6
              have hge : ge (some (p1, p2)) = 0 := rfl
              have hgv : gv (some (p1, p2)) = (p1, p2) := rfl
              unfold vw
              rw [hgv]
              clear hgv
              have HVV := Lib.hid (show Vx (w6.alloc (.cells #[.int .i64 (p1 : Int), .int .i64 (p2 : Int)] 23)) G p1 p2 from hbe HVV.out)
              have a0 := HVV.out.c0; have a1 := HVV.out.c1
              go_wp2_with fail
              have HV7 := Lib.hid (show Vx (w6.alloc (.cells #[.int .i64 (p1 : Int), .int .i64 (p2 : Int)] 23)) w6.heap.size p1 p2 from hat _ _ _ rfl)
              have HB := Lib.hid (bal HB.out (Nat.le_refl _) (.cells #[.int .i64 (p1 : Int), .int .i64 (p2 : Int)] 23))
              clear a0 a1
              generalize w6.alloc (.cells #[.int .i64 (p1 : Int), .int .i64 (p2 : Int)] 23) = w7 at HVV HV7 HB ⊢
              generalize w6.heap.size = g7 at HV7 ⊢
              refine (size_c p1 p2 hp64 hp264 _).mono ?_
              rw [HCC.out]
              rintro e w8 ⟨rfl, hb8⟩
              have HVV := HVV.out.below hb8 HVV.out.lt
              have HV7 := HV7.out.below hb8 HV7.out.lt
              have HB := Lib.hid (HB.out.trans (hb8.mono HB.out.size)); clear hb8
              have a0 := HVV.c0; have a1 := HVV.c1; have b0 := HV7.c0; have b1 := HV7.c1
              clear HVV HV7
              go_wp2
              go_ret
              exact ⟨rfl, HB.out⟩
            · obtain ⟨t', rfl⟩ : ∃ t', t = t' + 1 := ⟨t - 1, by omega⟩
              obtain rfl : y = (t' : Int) := by omega
              clear hy h0
              obtain ⟨b, o, rfl, hbB, hcell⟩ := HR.out (by rw [List.length_map, ← HN.out]; omega)
              have hkl : t' < ls.length := by rw [← HN.out]; omega
              have hz : ls[t']? = some ls[t'] := List.getElem?_eq_getElem hkl
              have hc0 := hcell t' (.int .i64 ls[t']) (by simp [hkl])
              generalize ls[t'] = z at hz hc0
              have HZ := Lib.hid hz
              have HKL : Hid (∀ W', Below w.heap.size w W' → W'.cell? ⟨b, o + t', none⟩ = some (.int .i64 z)) := Lib.hid (fun W' h => (h.cell hbB).trans hc0)
              clear hz hc0 hcell hkl
              have htk : (t' : Int) < (k : Int) := by omega
              have ht0 : (0 : Int) ≤ (t' : Int) := by omega
              go_wp2
              have HOD := Lib.hid (show OwnI wr.drew gB A' n' c' (twice ls (t' + 1)) from HO.out)
              have HVD := Lib.hid (show Vx wr.drew G p1 p2 from HVV.out)
              have hsd : gB ≤ wr.drew.heap.size := hsz
              refine wp_region_held_drew (S := fun W' => Below w.heap.size w W') (by kernel_rfl) HB.out.drew (fun hHeld => ?_)
              generalize wr.drew = w5 at hHeld HOD HVD hsd ⊢
              have HB5 : Hid (Below w.heap.size w w5) := hHeld
              clear hHeld HO HVV HB
              refine take_in (i := 0) (oi := ⟨_, _, _, _, _, _⟩) (v := ?_) rfl (by kernel_rfl) (by kernel_rfl) (by kernel_rfl) (fun _ _ _ h => h) (by rfl) ?_ HB5.out ?_
              rotate_left
              · intro W hW; have hq := HKL.out W hW; go_simp; with_reducible rfl
              simp only [Act.put, List.setIfInBounds_toArray, List.set_cons_zero, List.set_cons_succ]
              refine take_in (i := 1) (oi := ⟨_, _, _, _, _, _⟩) (v := ?_) rfl (by kernel_rfl) (by kernel_rfl) (by kernel_rfl) (fun _ _ _ h => h) (by rfl) ?_ HB5.out ?_
              rotate_left
              · intro W hW; have hq := HKL.out W hW; go_simp; with_reducible rfl
              simp only [Act.put, List.setIfInBounds_toArray, List.set_cons_zero, List.set_cons_succ]
              refine take_in (i := 2) (oi := ⟨_, _, _, _, _, _⟩) (v := ?_) rfl (by kernel_rfl) (by kernel_rfl) (by kernel_rfl) (fun _ _ _ h => h) (by rfl) ?_ HB5.out ?_
              rotate_left
              · intro W hW; have hq := HKL.out W hW; go_simp; with_reducible rfl
              simp only [Act.put, List.setIfInBounds_toArray, List.set_cons_zero, List.set_cons_succ]
              refine take_in (i := 3) (oi := ⟨_, _, _, _, _, _⟩) (v := ?_) rfl (by kernel_rfl) (by kernel_rfl) (by kernel_rfl) (fun _ _ _ h => h) (by rfl) ?_ HB5.out ?_
              rotate_left
              · intro W hW; have hq := HKL.out W hW; go_simp; with_reducible rfl
              simp only [Act.put, List.setIfInBounds_toArray, List.set_cons_zero, List.set_cons_succ]
              refine take_in (i := 4) (oi := ⟨_, _, _, _, _, _⟩) (v := ?_) rfl (by kernel_rfl) (by kernel_rfl) (by kernel_rfl) (fun _ _ _ h => h) (by rfl) ?_ HB5.out ?_
              rotate_left
              · intro W hW; have hq := HKL.out W hW; go_simp; with_reducible rfl
              simp only [Act.put, List.setIfInBounds_toArray, List.set_cons_zero, List.set_cons_succ]
              refine take_in (i := 5) (oi := ⟨_, _, _, _, _, _⟩) (v := ?_) rfl (by kernel_rfl) (by kernel_rfl) (by kernel_rfl) (fun _ _ _ h => h) (by rfl) ?_ HB5.out ?_
              rotate_left
              · intro W hW; have hq := HKL.out W hW; go_simp; with_reducible rfl
              simp only [Act.put, List.setIfInBounds_toArray, List.set_cons_zero, List.set_cons_succ]
              refine take_in (i := 6) (oi := ⟨_, _, _, _, _, _⟩) (v := ?_) rfl (by kernel_rfl) (by kernel_rfl) (by kernel_rfl) (fun _ _ _ h => h) (by rfl) ?_ HB5.out ?_
              rotate_left
              · intro W hW; have hq := HKL.out W hW; go_simp; with_reducible rfl
              simp only [Act.put, List.setIfInBounds_toArray, List.set_cons_zero, List.set_cons_succ]
              refine take_in (i := 7) (oi := ⟨_, _, _, _, _, _⟩) (v := ?_) rfl (by kernel_rfl) (by kernel_rfl) (by kernel_rfl) (fun _ _ _ h => h) (by rfl) ?_ HB5.out ?_
              rotate_left
              · intro W hW; have hq := HKL.out W hW; go_simp; with_reducible rfl
              simp only [Act.put, List.setIfInBounds_toArray, List.set_cons_zero, List.set_cons_succ]
              refine take_in (i := 8) (oi := ⟨_, _, _, _, _, _⟩) (v := ?_) rfl (by kernel_rfl) (by kernel_rfl) (by kernel_rfl) (fun _ _ _ h => h) (by rfl) ?_ HB5.out ?_
              rotate_left
              · intro W hW; have hq := HKL.out W hW; go_simp; with_reducible rfl
              simp only [Act.put, List.setIfInBounds_toArray, List.set_cons_zero, List.set_cons_succ]
              refine wpAnyH_ready (rs := [9]) (by kernel_rfl) (by simp) ?_
              refine AllReadyH.cons (o := ⟨_, _, _, _, _, _⟩) rfl (fun K hK => ?_) AllReadyH.nil
              go_simp
              refine hK.out _ _ (bal HB5.out (Nat.le_refl _) _) (fun _ => ?_)
              clear hK K
              refine wpAnyH_ready (rs := [10]) (by kernel_rfl) (by simp) ?_
              refine AllReadyH.cons (o := ⟨_, _, _, _, _, _⟩) rfl (fun K hK => ?_) AllReadyH.nil
              rw [if_pos (show Region.wanted _ _ = true by rfl)]
              refine op_appI (.tmp 90) (.tmp 99) rfl gB A' n' c' _ rfl (HOD.out.alloc _) _ _ 2 2 [z, z] rfl rfl (rdI_any w5 [z, z]) (by omega) (by simp; omega) ?_
              intro A6 c6 w6 ho6 hb6
              have HO6 := Lib.hid ho6; clear ho6
              have HV6 := Lib.hid (Vx.below (show Vx (w5.alloc _) G p1 p2 from hbe HVD.out) hb6 hG2)
              have HB6 := Lib.hid ((bal HB5.out (Nat.le_refl _) _).trans (hb6.mono hBs))
              have hs6 := hb6.size
              rw [World.size_alloc] at hs6
              clear hb6
              refine hK.out _ _ HB6.out (fun _ => ?_)
              clear hK K
              simp only [Act.put, List.setIfInBounds_toArray, List.set_cons_zero, List.set_cons_succ]
              refine take_in (i := 11) (oi := ⟨_, _, _, _, _, _⟩) (v := ?_) rfl (by kernel_rfl) (by kernel_rfl) (by kernel_rfl) (fun _ _ _ h => h) (by rfl) ?_ HB6.out ?_
              rotate_left
              · intro W hW; go_simp; with_reducible rfl
              simp only [Act.put, List.setIfInBounds_toArray, List.set_cons_zero, List.set_cons_succ]
              refine wpAnyH_done (by kernel_rfl) ?_ _
              go_wp2
              refine ⟨⟨A6, n' + 2, c6, t', _, rfl, rfl, by omega, by omega, ?_, HV6.out, by omega, HB6.out⟩, by simp [intOf]⟩
              rw [twice_step ls t' z HZ.out]
              exact HO6.out
end Go.Proofs.Ytjmbgajaflcbaaa.changeCounts
