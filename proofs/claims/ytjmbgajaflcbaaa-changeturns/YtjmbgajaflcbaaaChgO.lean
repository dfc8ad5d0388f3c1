/- What the document's Of of layer 4 answers: a contract by a walk. -/
import Derived.Test.YtjmbgajaflcbaaaChgN
namespace Go.Proofs.Ytjmbgajaflcbaaa
open Go.RowKit
open Chg

def okN (z : Int) : Bool := decide (0 ≤ z ∧ z ≤ 5)
def hasN (l : List Int) (i : Nat) : Bool := l.any fun z => z == (i : Int)
def ofF (adds dels : List Int) : Option (Nat × Nat) := if adds.all okN && dels.all okN then some (setF (hasN adds), setF (hasN dels)) else none
theorem hasN_take (l : List Int) (k m : Nat) (h : l[k]? = some (m : Int)) (i : Nat) : (if i = m then true else hasN (l.take k) i) = hasN (l.take (k + 1)) i := by
  unfold hasN
  rw [List.take_add_one, h, List.any_append]
  by_cases hi : i = m
  · subst hi; simp
  · rw [if_neg hi]
    have : ((m : Int) == (i : Int)) = false := by rw [beq_eq_false_iff_ne]; omega
    simp [this]
theorem ofF_bad_adds {adds dels : List Int} {k : Nat} {z : Int} (h : adds[k]? = some z) (hz : okN z = false) : ofF adds dels = none := by
  unfold ofF
  have : adds.all okN = false := by
    rw [List.all_eq_false]
    exact ⟨z, List.mem_of_getElem? h, by rw [hz]; simp⟩
  rw [this]
  rfl
theorem ofF_bad_dels {adds dels : List Int} {k : Nat} {z : Int} (h : dels[k]? = some z) (hz : okN z = false) : ofF adds dels = none := by
  unfold ofF
  have : dels.all okN = false := by
    rw [List.all_eq_false]
    exact ⟨z, List.mem_of_getElem? h, by rw [hz]; simp⟩
  rw [this, Bool.and_false]
  rfl
theorem all_take_succ (l : List Int) (k : Nat) (z : Int) (h : l[k]? = some z) (hz : okN z = true) (ha : (l.take k).all okN = true) : (l.take (k + 1)).all okN = true := by
  rw [List.take_add_one, h, List.all_append, ha]
  simp [hz]

theorem of_r (A : Option Addr) (n c : Nat) (ls : List Int) (hn : n = ls.length) (hl : n ≤ 140737488355328) (A1 : Option Addr) (n1 c1 : Nat) (ds : List Int) (hn1 : n1 = ds.length) (hl1 : n1 ≤ 140737488355328) (B : Nat) (w : World)
    (hr : Rd w B A (ls.map (Value.int .i64))) (hr1 : Rd w B A1 (ds.map (Value.int .i64))) (hB : B ≤ w.heap.size) : Calls Try.prog 12 #[.slice A n c, .slice A1 n1 c1] w (RetV w (ofF ls ds)) := by
  have HN := Lib.hid hn; clear hn
  have HN1 := Lib.hid hn1; clear hn1
  have HR := Lib.hid hr; clear hr
  have HR1 := Lib.hid hr1; clear hr1
  go_enter Try.func12, Try.ntmps12
  go_wp2
  go_loopw [16] (fun i wr => ∃ k : Nat, i = .int .i64 k ∧ k ≤ n ∧ Vx wr w.heap.size 0 0 ∧ Bx wr (w.heap.size + 1) (hasN (ls.take k)) ∧ Bx wr (w.heap.size + 1 + 1) (fun _ => false) ∧ (ls.take k).all okN = true ∧ Below w.heap.size w wr) (fun i _ => n - (intOf i).toNat)
  case atStart =>
    exact ⟨0, rfl, by omega, hbe (hbe (hat _ _ _ rfl)), hbe (hat _ _ _ (by simp)), hat _ _ _ (by simp), rfl, bal (bal (bal (Below.refl _ _) (Nat.le_refl _) _) (Nat.le_refl _) _) (Nat.le_refl _) _⟩
  case round =>
    obtain ⟨k, rfl, hk, hv, hx, hy, hall, hbl⟩ := hrel
    have hlt := hy.lt
    have H1 := Lib.hid hv; have H2 := Lib.hid hx; have H3 := Lib.hid hy; have H4 := Lib.hid hall; have HB := Lib.hid hbl
    clear hv hx hy hall hbl
    by_cases h : k < n
    · obtain ⟨b, o, rfl, hbB, hcell⟩ := HR.out (by rw [List.length_map, ← HN.out]; omega)
      have hkl : k < ls.length := by rw [← HN.out]; exact h
      have hz : ls[k]? = some ls[k] := List.getElem?_eq_getElem hkl
      have hc0 := hcell k (.int .i64 ls[k]) (by simp [hkl])
      generalize ls[k] = z at hz hc0
      have hcz : wr.cell? ⟨b, o + k, none⟩ = some (.int .i64 z) := (HB.out.cell (by show b < _; omega)).trans hc0
      have HZ := Lib.hid hz
      clear hz hc0 hcell hkl
      by_cases hneg : z < 0
      · have HF : Hid (ofF ls ds = none) := Lib.hid (ofF_bad_adds HZ.out (decide_eq_false (by omega)))
        have z0 := H1.out.c0
        have z1 := H1.out.c1
        have z2 := frozen_of_row wr w.heap.size 0 _ _ H1.out
        have z3 := frozen_of_row wr w.heap.size 1 _ _ H1.out
        go_wp2
        refine bodyPost_ret (results_view2 (g := w.heap.size) (a := 0) (d := 0) rfl rfl rfl (H1.out.put 0 0)) rfl ?_
        unfold RetV
        rw [HF.out]
        exact ⟨rfl, (HB.out.setCell (Nat.le_refl _) _).setCell (Nat.le_refl _) _⟩
      by_cases hbig : 5 < z
      · have HF : Hid (ofF ls ds = none) := Lib.hid (ofF_bad_adds HZ.out (decide_eq_false (by omega)))
        have z0 := H1.out.c0
        have z1 := H1.out.c1
        have z2 := frozen_of_row wr w.heap.size 0 _ _ H1.out
        have z3 := frozen_of_row wr w.heap.size 1 _ _ H1.out
        go_wp2
        refine bodyPost_ret (results_view2 (g := w.heap.size) (a := 0) (d := 0) rfl rfl rfl (H1.out.put 0 0)) rfl ?_
        unfold RetV
        rw [HF.out]
        exact ⟨rfl, (HB.out.setCell (Nat.le_refl _) _).setCell (Nat.le_refl _) _⟩
      obtain ⟨m, rfl⟩ : ∃ m : Nat, z = (m : Int) := ⟨z.toNat, by omega⟩
      have hm6 : m < 6 := by omega
      have y0 := H2.out.cell m hm6
      have y1 := H2.out.frozen m
      go_wp2
      refine ⟨⟨k + 1, by go_num, by omega, H1.out.other (by simp) _, (H2.out.set m hm6 true).congr (fun i _ => hasN_take ls k m HZ.out i), H3.out.other (by simp) _, all_take_succ ls k _ HZ.out (decide_eq_true (by omega)) H4.out, HB.out.setCell (by simp) _⟩, by simp [intOf]; omega⟩
    · obtain rfl : k = n := by omega
      have hx : Bx wr (w.heap.size + 1) (hasN ls) := by have := H2.out; rwa [List.take_of_length_le (by rw [← HN.out]; omega)] at this
      have hall : ls.all okN = true := by have := H4.out; rwa [List.take_of_length_le (by rw [← HN.out]; omega)] at this
      have H2 := Lib.hid hx; have H4 := Lib.hid hall
      clear hx hall
      go_wp2
      go_loopw [32] (fun i wq => ∃ j : Nat, i = .int .i64 j ∧ j ≤ n1 ∧ Vx wq w.heap.size 0 0 ∧ Bx wq (w.heap.size + 1) (hasN ls) ∧ Bx wq (w.heap.size + 1 + 1) (hasN (ds.take j)) ∧ (ds.take j).all okN = true ∧ Below w.heap.size w wq) (fun i _ => n1 - (intOf i).toNat)
      case atStart => exact ⟨0, rfl, by omega, H1.out, H2.out, H3.out, rfl, HB.out⟩
      case round =>
        obtain ⟨j, rfl, hj, hv, hx, hy, hall, hbl⟩ := hrel
        have hlt := hy.lt
        have H1 := Lib.hid hv; have H2 := Lib.hid hx; have H3 := Lib.hid hy; have H5 := Lib.hid hall; have HB := Lib.hid hbl
        clear hv hx hy hall hbl
        by_cases h : j < n1
        · obtain ⟨b, o, rfl, hbB, hcell⟩ := HR1.out (by rw [List.length_map, ← HN1.out]; omega)
          have hkl : j < ds.length := by rw [← HN1.out]; exact h
          have hz : ds[j]? = some ds[j] := List.getElem?_eq_getElem hkl
          have hc0 := hcell j (.int .i64 ds[j]) (by simp [hkl])
          generalize ds[j] = z at hz hc0
          have hcz : wr.cell? ⟨b, o + j, none⟩ = some (.int .i64 z) := (HB.out.cell (by show b < _; omega)).trans hc0
          have HZ := Lib.hid hz
          clear hz hc0 hcell hkl
          by_cases hneg : z < 0
          · have HF : Hid (ofF ls ds = none) := Lib.hid (ofF_bad_dels HZ.out (decide_eq_false (by omega)))
            have z0 := H1.out.c0
            have z1 := H1.out.c1
            have z2 := frozen_of_row wr w.heap.size 0 _ _ H1.out
            have z3 := frozen_of_row wr w.heap.size 1 _ _ H1.out
            go_wp2
            refine bodyPost_ret (results_view2 (g := w.heap.size) (a := 0) (d := 0) rfl rfl rfl (H1.out.put 0 0)) rfl ?_
            unfold RetV
            rw [HF.out]
            exact ⟨rfl, (HB.out.setCell (Nat.le_refl _) _).setCell (Nat.le_refl _) _⟩
          by_cases hbig : 5 < z
          · have HF : Hid (ofF ls ds = none) := Lib.hid (ofF_bad_dels HZ.out (decide_eq_false (by omega)))
            have z0 := H1.out.c0
            have z1 := H1.out.c1
            have z2 := frozen_of_row wr w.heap.size 0 _ _ H1.out
            have z3 := frozen_of_row wr w.heap.size 1 _ _ H1.out
            go_wp2
            refine bodyPost_ret (results_view2 (g := w.heap.size) (a := 0) (d := 0) rfl rfl rfl (H1.out.put 0 0)) rfl ?_
            unfold RetV
            rw [HF.out]
            exact ⟨rfl, (HB.out.setCell (Nat.le_refl _) _).setCell (Nat.le_refl _) _⟩
          obtain ⟨m, rfl⟩ : ∃ m : Nat, z = (m : Int) := ⟨z.toNat, by omega⟩
          have hm6 : m < 6 := by omega
          have y0 := H3.out.cell m hm6
          have y1 := H3.out.frozen m
          go_wp2
          refine ⟨⟨j + 1, by go_num, by omega, H1.out.other (by simp <;> omega) _, H2.out.other (by simp) _, (H3.out.set m hm6 true).congr (fun i _ => hasN_take ds j m HZ.out i), all_take_succ ds j _ HZ.out (decide_eq_true (by omega)) H5.out, HB.out.setCell (by simp <;> omega) _⟩, by simp [intOf]; omega⟩
        · obtain rfl : j = n1 := by omega
          have hy : Bx wr (w.heap.size + 1 + 1) (hasN ds) := by have := H3.out; rwa [List.take_of_length_le (by rw [← HN1.out]; omega)] at this
          have hall : ds.all okN = true := by have := H5.out; rwa [List.take_of_length_le (by rw [← HN1.out]; omega)] at this
          have HF : Hid (ofF ls ds = some (setF (hasN ls), setF (hasN ds))) := Lib.hid (by unfold ofF; rw [H4.out, hall]; rfl)
          have hx := H2.out
          generalize hasN ls = f at hx HF
          generalize hasN ds = g at hy HF
          have x0 := hx.cell 0 (by omega); have x1 := hx.cell 1 (by omega); have x2 := hx.cell 2 (by omega); have x3 := hx.cell 3 (by omega); have x4 := hx.cell 4 (by omega); have x5 := hx.cell 5 (by omega)
          have y0 := hy.cell 0 (by omega); have y1 := hy.cell 1 (by omega); have y2 := hy.cell 2 (by omega); have y3 := hy.cell 3 (by omega); have y4 := hy.cell 4 (by omega); have y5 := hy.cell 5 (by omega)
          clear hx hy hall
          go_wp2_with fail
          refine (set_r f g _).mono ?_
          rintro e w2 ⟨rfl, hb2⟩
          have H1 := Lib.hid (H1.out.below hb2 (by omega))
          have HB := Lib.hid (HB.out.trans (hb2.mono (by omega)))
          have z0 := H1.out.c0
          have z1 := H1.out.c1
          have z2 := frozen_of_row w2 w.heap.size 0 _ _ H1.out
          have z3 := frozen_of_row w2 w.heap.size 1 _ _ H1.out
          clear hb2
          unfold vw
          go_wp2
          refine bodyPost_ret (results_view2 (g := w.heap.size) rfl rfl rfl (H1.out.put (setF f) (setF g))) rfl ?_
          unfold RetV
          rw [HF.out]
          exact ⟨rfl, (HB.out.setCell (Nat.le_refl _) _).setCell (Nat.le_refl _) _⟩
end Go.Proofs.Ytjmbgajaflcbaaa
