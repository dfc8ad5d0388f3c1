/- What the document's Top and Same of layer 5 and SameInts answer: contracts by walks. -/
import Derived.Test.YtofjdfnoibfdfaaVwS
namespace Go.Proofs.Ytofjdfnoibfdfaa
open Go.RowKit
open Chg Vw

theorem top_lt (l : List (Nat × Nat)) (h : ∀ v ∈ l, v.1 < 64 ∧ v.2 < 64) : (top l).1 < 64 ∧ (top l).2 < 64 := by
  cases l with
  | nil => decide
  | cons x r =>
    show (r.foldl topStep x).1 < 64 ∧ (r.foldl topStep x).2 < 64
    have key : ∀ (r : List (Nat × Nat)) (x : Nat × Nat), (x.1 < 64 ∧ x.2 < 64) → (∀ v ∈ r, v.1 < 64 ∧ v.2 < 64) → (r.foldl topStep x).1 < 64 ∧ (r.foldl topStep x).2 < 64 := by
      intro r
      induction r with
      | nil => intro x hx _; exact hx
      | cons y r ih =>
        intro x hx hr
        refine ih (topStep x y) ?_ (fun v hv => hr v (by simp [hv]))
        unfold topStep
        split
        · exact hr y (by simp)
        · exact hx
    exact key r x (h x (by simp)) (fun v hv => h v (by simp [hv]))

set_option maxHeartbeats 1000000 in
theorem top_r (A : Option Addr) (n c : Nat) (vs : List (Nat × Nat)) (hn : n = vs.length) (hl : n ≤ 140737488355328) (h64 : ∀ v ∈ vs, v.1 < 64 ∧ v.2 < 64) (B : Nat) (w : World) (hr : Rv w B A vs) (hB : B ≤ w.heap.size) :
    Calls Try.prog 23 #[.slice A n c] w fun e w' => e = .returned (vw (top vs).1 (top vs).2) ∧ Below w.heap.size w w' := by
  have HN := Lib.hid hn; clear hn
  have HR := Lib.hid hr; clear hr
  have H64 := Lib.hid h64; clear h64
  go_enter Try.func23, Try.ntmps23
  go_wp2
  go_loopw [9] (fun i wr => ∃ k : Nat, i = .int .i64 k ∧ k ≤ n ∧ Vx wr w.heap.size 0 0 ∧ Vx wr (w.heap.size + 1) (top (vs.take k)).1 (top (vs.take k)).2 ∧ Below w.heap.size w wr) (fun i _ => n - (intOf i).toNat)
  case atStart => exact ⟨0, rfl, by omega, hbe (hat _ _ _ rfl), hat _ _ _ (by simp), bal (bal (Below.refl _ _) (Nat.le_refl _) _) (Nat.le_refl _) _⟩
  case round =>
    obtain ⟨k, rfl, hk, hv0, hv1, hb⟩ := hrel
    have HB := Lib.hid hb; have H0 := Lib.hid hv0; have H1 := Lib.hid hv1
    have hsz := hv1.lt
    clear hb hv0 hv1
    by_cases h : k < n
    · obtain ⟨b, o, rfl, hbB, hcell⟩ := HR.out (by rw [← HN.out]; omega)
      have hkl : k < vs.length := by rw [← HN.out]; exact h
      have hz : vs[k]? = some vs[k] := List.getElem?_eq_getElem hkl
      have hc0 := hcell k vs[k] hz
      have hv64 := H64.out vs[k] (List.getElem_mem hkl)
      generalize vs[k] = v at hz hc0 hv64
      obtain ⟨va, vd⟩ := v
      have hca : wr.cell? ⟨b, o + k * 2, none⟩ = some (.int .i64 (va : Int)) := (HB.out.cell (by show b < _; omega)).trans hc0.1
      have hcd : wr.cell? ⟨b, o + k * 2 + 1, none⟩ = some (.int .i64 (vd : Int)) := (HB.out.cell (by show b < _; omega)).trans hc0.2
      have hva : va < 64 := hv64.1
      have hvd : vd < 64 := hv64.2
      have HZ := Lib.hid hz
      clear hz hc0 hcell hkl hv64
      rcases Nat.eq_zero_or_pos k with h0 | h0
      · have HT : Hid (top (vs.take (k + 1)) = (va, vd)) := Lib.hid (by
          subst h0
          cases vs with
          | nil => have := HZ.out; simp at this
          | cons x r => have := HZ.out; simp at this; subst this; rfl)
        have hk0 : ((k : Int) == 0) = true := by rw [h0]; rfl
        have z0 := H1.out.c0
        have z1 := H1.out.c1
        have z2 := frozen_of_row wr (w.heap.size + 1) 0 _ _ H1.out
        have z3 := frozen_of_row wr (w.heap.size + 1) 1 _ _ H1.out
        clear h0
        go_wp2
        refine ⟨⟨k + 1, by go_num, by omega, ?_, ?_, ?_⟩, by simp [intOf]; omega⟩
        · first | exact hbe ((H0.out.other (by simp) _).other (by simp) _) | exact ((Vx.other (hbe H0.out) (by simp) _).other (by simp) _)
        · rw [HT.out]
          first | exact hbe (H1.out.put va vd) | exact Vx.put (hbe H1.out) va vd
        · first | exact bal ((HB.out.setCell (by simp) _).setCell (by simp) _) (Nat.le_refl _) _ | exact ((bal HB.out (Nat.le_refl _) _).setCell (by simp) _).setCell (by simp) _
      · have HT : Hid (top (vs.take (k + 1)) = topStep (top (vs.take k)) (va, vd)) := Lib.hid (top_take vs k _ h0 HZ.out)
        have hk0 : ((k : Int) == 0) = false := by rw [beq_eq_false_iff_ne]; omega
        have hT64 := top_lt (vs.take k) (fun v hv => H64.out v (List.mem_of_mem_take hv))
        generalize top (vs.take k) = p at H1 HT hT64
        obtain ⟨pa, pd⟩ := p
        have H1 : Hid (Vx wr (w.heap.size + 1) pa pd) := H1
        have z0 := H1.out.c0
        have z1 := H1.out.c1
        clear h0
        go_wp2_with fail
        have V0 := Lib.hid (show Vx (wr.alloc (.cells #[.int .i64 (va : Int), .int .i64 (vd : Int)] 25)) w.heap.size 0 0 from hbe H0.out)
        have V1 := Lib.hid (show Vx (wr.alloc (.cells #[.int .i64 (va : Int), .int .i64 (vd : Int)] 25)) (w.heap.size + 1) pa pd from hbe H1.out)
        have V2 := Lib.hid (show Vx (wr.alloc (.cells #[.int .i64 (va : Int), .int .i64 (vd : Int)] 25)) wr.heap.size va vd from hat _ _ _ rfl)
        have HB3 := Lib.hid (bal HB.out (Nat.le_refl _) (.cells #[.int .i64 (va : Int), .int .i64 (vd : Int)] 25))
        generalize wr.alloc (.cells #[.int .i64 (va : Int), .int .i64 (vd : Int)] 25) = w3 at V0 V1 V2 HB3 ⊢
        generalize wr.heap.size = gu at V2 hsz ⊢
        clear z0 z1 hca hcd
        refine (less_r (pa, pd) (va, vd) hT64 ⟨hva, hvd⟩ _).mono ?_
        rintro e w4 ⟨rfl, hb4⟩
        have V0 := Lib.hid (V0.out.below hb4 V0.out.lt)
        have V1 := Lib.hid (V1.out.below hb4 V1.out.lt)
        have V2 := Lib.hid (V2.out.below hb4 V2.out.lt)
        have HB4 := Lib.hid (HB3.out.trans (hb4.mono HB3.out.size)); clear hb4
        have HS : Hid (topStep (pa, pd) (va, vd) = if less (pa, pd) (va, vd) then (va, vd) else (pa, pd)) := Lib.hid rfl
        cases hx : less (pa, pd) (va, vd) with
        | false =>
          rw [hx] at HS
          clear hx
          go_wp2
          refine ⟨⟨k + 1, by go_num, by omega, V0.out, ?_, HB4.out⟩, by simp [intOf]; omega⟩
          rw [HT.out, HS.out]
          exact V1.out
        | true =>
          rw [hx] at HS
          clear hx
          have c0 := V2.out.c0; have c1 := V2.out.c1
          have z0 := V1.out.c0
          have z1 := V1.out.c1
          have z2 := frozen_of_row w4 (w.heap.size + 1) 0 _ _ V1.out
          have z3 := frozen_of_row w4 (w.heap.size + 1) 1 _ _ V1.out
          go_wp2
          refine ⟨⟨k + 1, by go_num, by omega, (V0.out.other (by simp) _).other (by simp) _, ?_, (HB4.out.setCell (by simp) _).setCell (by simp) _⟩, by simp [intOf]; omega⟩
          rw [HT.out, HS.out]
          exact V1.out.put va vd
    · obtain rfl : k = n := by omega
      have hT : Vx wr (w.heap.size + 1) (top vs).1 (top vs).2 := by have := H1.out; rwa [List.take_of_length_le (by rw [← HN.out]; omega)] at this
      obtain ⟨pa, pd, hp⟩ : ∃ pa pd, top vs = (pa, pd) := ⟨_, _, rfl⟩
      have HP := Lib.hid hp
      rw [hp] at hT
      clear hp
      have hT : Vx wr (w.heap.size + 1) pa pd := hT
      have c0 := hT.c0; have c1 := hT.c1
      have z0 := H0.out.c0
      have z1 := H0.out.c1
      have z2 := frozen_of_row wr w.heap.size 0 _ _ H0.out
      have z3 := frozen_of_row wr w.heap.size 1 _ _ H0.out
      clear hT
      go_wp2
      refine bodyPost_ret (results_view (g := w.heap.size) rfl rfl (H0.out.put pa pd)) rfl ?_
      exact ⟨by rw [HP.out], (HB.out.setCell (Nat.le_refl _) _).setCell (Nat.le_refl _) _⟩

theorem take_eq_more {α : Type} (l m : List α) (k : Nat) (x : α) (h1 : l[k]? = some x) (h2 : m[k]? = some x) (h : l.take k = m.take k) : l.take (k + 1) = m.take (k + 1) := by
  rw [List.take_add_one, List.take_add_one, h1, h2, h]

theorem same_ints (A : Option Addr) (n c : Nat) (ls : List Int) (hn : n = ls.length) (hl : n ≤ 140737488355328) (A1 : Option Addr) (n1 c1 : Nat) (ds : List Int) (hn1 : n1 = ds.length) (B : Nat) (w : World)
    (hr : Rd w B A (ls.map (Value.int .i64))) (hr1 : Rd w B A1 (ds.map (Value.int .i64))) : Calls Try.prog 16 #[.slice A n c, .slice A1 n1 c1] w fun e w' => e = .returned (.bool (ls == ds)) ∧ ∃ k, w' = w.drewN k := by
  have HN := Lib.hid hn; have HN1 := Lib.hid hn1
  by_cases hlen : n = n1
  · subst hlen
    clear hn hn1
    have HR := Lib.hid hr; clear hr
    have HR1 := Lib.hid hr1; clear hr1
    go_enter Try.func16, Try.ntmps16
    go_wp2
    go_loopw [13] (fun i wr => ∃ k : Nat, i = .int .i64 k ∧ k ≤ n ∧ ls.take k = ds.take k ∧ ∃ q, wr = w.drewN q) (fun i _ => n - (intOf i).toNat)
    case atStart => exact ⟨0, rfl, by omega, rfl, 0, rfl⟩
    case round =>
      obtain ⟨k, rfl, hk, he, q, rfl⟩ := hrel
      have HE := Lib.hid he; clear he
      by_cases h : k < n
      · obtain ⟨b, o, rfl, _, hcell⟩ := HR.out (by rw [List.length_map, ← HN.out]; omega)
        obtain ⟨b1, o1, rfl, _, hcell1⟩ := HR1.out (by rw [List.length_map, ← HN1.out]; omega)
        have hkl : k < ls.length := by rw [← HN.out]; exact h
        have hkl1 : k < ds.length := by rw [← HN1.out]; exact h
        have hz : ls[k]? = some ls[k] := List.getElem?_eq_getElem hkl
        have hz1 : ds[k]? = some ds[k] := List.getElem?_eq_getElem hkl1
        have hc0 := hcell k (.int .i64 ls[k]) (by simp [hkl])
        have hc1 := hcell1 k (.int .i64 ds[k]) (by simp [hkl1])
        generalize ls[k] = z at hz hc0
        generalize ds[k] = z1 at hz1 hc1
        have HZ := Lib.hid hz; have HZ1 := Lib.hid hz1
        clear hz hz1 hcell hcell1 hkl hkl1
        have ht : (k : Int) < (n : Int) := by omega
        have ht0 : (0 : Int) ≤ (k : Int) := by omega
        by_cases hzz : z = z1
        · subst hzz
          go_wp2
          go_quiet (fail)
          go_wp2
          refine ⟨⟨k + 1, by go_num, by omega, take_eq_more _ _ _ _ HZ.out HZ1.out HE.out, _, rfl⟩, by simp [intOf]; omega⟩
        · have hne : (z == z1) = false := by rw [beq_eq_false_iff_ne]; exact hzz
          have HNE := Lib.hid hzz; clear hzz
          go_wp2
          go_quiet (fail)
          go_wp2
          go_ret
          refine ⟨ret_bool ?_, _, World.drewN_drewN _ _ _⟩
          symm
          rw [beq_eq_false_iff_ne]
          intro e
          have h1 := HZ.out
          rw [e, HZ1.out] at h1
          injection h1 with h1
          exact HNE.out h1.symm
      · go_wp2
        go_ret
        obtain rfl : k = n := by omega
        have := HE.out
        rw [List.take_of_length_le (by rw [← HN.out]; omega), List.take_of_length_le (by rw [← HN1.out]; omega)] at this
        exact ⟨ret_bool (by rw [this]; simp), q, rfl⟩
  · have HF : Hid ((ls == ds) = false) := Lib.hid (by rw [beq_eq_false_iff_ne]; rintro rfl; omega)
    have hne : ((n : Int) == (n1 : Int)) = false := by rw [beq_eq_false_iff_ne]; omega
    clear hr hr1 hn hn1
    go_enter Try.func16, Try.ntmps16
    go_wp2
    go_ret
    exact ⟨ret_bool HF.out.symm, 0, rfl⟩

theorem same_r (A : Option Addr) (n c : Nat) (ls : List (Nat × Nat)) (hn : n = ls.length) (hl : n ≤ 140737488355328) (A1 : Option Addr) (n1 c1 : Nat) (ds : List (Nat × Nat)) (hn1 : n1 = ds.length) (B : Nat) (w : World)
    (hr : Rv w B A ls) (hr1 : Rv w B A1 ds) : Calls Try.prog 24 #[.slice A n c, .slice A1 n1 c1] w fun e w' => e = .returned (.bool (ls == ds)) ∧ ∃ k, w' = w.drewN k := by
  have heq := eq_view
  have HN := Lib.hid hn; have HN1 := Lib.hid hn1
  by_cases hlen : n = n1
  · subst hlen
    clear hn hn1
    have HR := Lib.hid hr; clear hr
    have HR1 := Lib.hid hr1; clear hr1
    go_enter Try.func24, Try.ntmps24
    go_wp2
    go_loopw [13] (fun i wr => ∃ k : Nat, i = .int .i64 k ∧ k ≤ n ∧ ls.take k = ds.take k ∧ ∃ q, wr = w.drewN q) (fun i _ => n - (intOf i).toNat)
    case atStart => exact ⟨0, rfl, by omega, rfl, 0, rfl⟩
    case round =>
      obtain ⟨k, rfl, hk, he, q, rfl⟩ := hrel
      have HE := Lib.hid he; clear he
      by_cases h : k < n
      · obtain ⟨b, o, rfl, _, hcell⟩ := HR.out (by rw [← HN.out]; omega)
        obtain ⟨b1, o1, rfl, _, hcell1⟩ := HR1.out (by rw [← HN1.out]; omega)
        have hkl : k < ls.length := by rw [← HN.out]; exact h
        have hkl1 : k < ds.length := by rw [← HN1.out]; exact h
        have hz : ls[k]? = some ls[k] := List.getElem?_eq_getElem hkl
        have hz1 : ds[k]? = some ds[k] := List.getElem?_eq_getElem hkl1
        have hc0 := hcell k ls[k] hz
        have hc1 := hcell1 k ds[k] hz1
        generalize ls[k] = z at hz hc0
        generalize ds[k] = z1 at hz1 hc1
        obtain ⟨za, zd⟩ := z
        obtain ⟨ya, yd⟩ := z1
        have a0 : w.cell? ⟨b, o + k * 2, none⟩ = some (.int .i64 (za : Int)) := hc0.1
        have a1 : w.cell? ⟨b, o + k * 2 + 1, none⟩ = some (.int .i64 (zd : Int)) := hc0.2
        have b0 : w.cell? ⟨b1, o1 + k * 2, none⟩ = some (.int .i64 (ya : Int)) := hc1.1
        have b1' : w.cell? ⟨b1, o1 + k * 2 + 1, none⟩ = some (.int .i64 (yd : Int)) := hc1.2
        have HZ := Lib.hid hz; have HZ1 := Lib.hid hz1
        clear hz hz1 hcell hcell1 hkl hkl1 hc0 hc1
        have ht : (k : Int) < (n : Int) := by omega
        have ht0 : (0 : Int) ≤ (k : Int) := by omega
        by_cases hzz : za = ya ∧ zd = yd
        · obtain ⟨rfl, rfl⟩ := hzz
          go_wp2
          go_quiet (fail)
          go_wp2
          exact ⟨⟨k + 1, by go_num, by omega, take_eq_more _ _ _ _ HZ.out HZ1.out HE.out, _, rfl⟩, by simp [intOf]; omega⟩
        · have hne : ((za : Int) == (ya : Int) && (zd : Int) == (yd : Int)) = false := by
            rw [Bool.eq_false_iff]
            intro e
            simp at e
            omega
          have HNE := Lib.hid hzz; clear hzz
          go_wp2
          go_quiet (fail)
          go_wp2
          go_ret
          refine ⟨ret_bool ?_, _, World.drewN_drewN _ _ _⟩
          symm
          rw [beq_eq_false_iff_ne]
          intro e
          have h1 := HZ.out
          rw [e, HZ1.out] at h1
          injection h1 with h1
          injection h1 with h1 h2
          exact HNE.out ⟨h1.symm, h2.symm⟩
      · go_wp2
        go_ret
        obtain rfl : k = n := by omega
        have := HE.out
        rw [List.take_of_length_le (by rw [← HN.out]; omega), List.take_of_length_le (by rw [← HN1.out]; omega)] at this
        exact ⟨ret_bool (by rw [this]; simp), q, rfl⟩
  · have HF : Hid ((ls == ds) = false) := Lib.hid (by rw [beq_eq_false_iff_ne]; rintro rfl; omega)
    have hne : ((n : Int) == (n1 : Int)) = false := by rw [beq_eq_false_iff_ne]; omega
    clear hr hr1 hn hn1
    go_enter Try.func24, Try.ntmps24
    go_wp2
    go_ret
    exact ⟨ret_bool HF.out.symm, 0, rfl⟩
end Go.Proofs.Ytofjdfnoibfdfaa
