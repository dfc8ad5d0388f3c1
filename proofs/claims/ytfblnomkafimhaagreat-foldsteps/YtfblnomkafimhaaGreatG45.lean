/- Contracts and words on which the claims of this seat stand, part 45: FoGe FoGB FoGC FoG. -/
import Derived.Test.YtfblnomkafimhaaGreatG05
import Derived.Test.YtfblnomkafimhaaGreatG32
import Derived.Test.YtfblnomkafimhaaGreatG34
set_option linter.unusedSimpArgs false
set_option linter.unusedVariables false
namespace Go.Proofs.YtfblnomkafimhaaGreat.Fow
set_option maxRecDepth 20000
open Go.RowKit
open Chg Vw Cl Bk Lg Fo Clw Bkw
open Chgw (hat hbe vw ret_bool ret_i64 Vx)
open Rg (bal)

def eqCe (x y : C) : Bool := x.1 == y.1 && (x.2.1 == y.2.1 && x.2.2 == y.2.2)
theorem zip_eqCe : ∀ (l m : List C), zipA eqCe l m = sameC l m := fun l m => by
  rw [Bool.eq_iff_iff, sameC_eq]
  constructor
  · intro h
    have hl : l.length = m.length := by
      rcases Nat.decEq l.length m.length with hn | hn
      · rw [zip_len hn] at h; cases h
      · exact hn
    apply List.ext_getElem hl
    intro i h1 h2
    by_cases e : l[i] = m[i]
    · exact e
    · have := zip_false (f := eqCe) i (List.getElem?_eq_getElem h1) (List.getElem?_eq_getElem h2) (by
        rw [← Bool.not_eq_true]
        intro h'
        unfold eqCe at h'
        simp only [Bool.and_eq_true, beq_iff_eq] at h'
        exact e (Prod.ext h'.1 (Prod.ext h'.2.1 h'.2.2)))
      rw [this] at h
      cases h
  · rintro rfl
    exact zip_true rfl (fun i x y hx hy => by rw [hx] at hy; cases hy; unfold eqCe; simp)
set_option maxHeartbeats 2000000 in
theorem equal_ce (A : Option Addr) (n c : Nat) (es : List C) (hn : n = es.length) (hl : n ≤ 140737488355328) (A2 : Option Addr) (n2 c2 : Nat) (fs : List C) (hn2 : n2 = fs.length) (w : World) (hr : Rg.Rs KC w w.heap.size A es) (hr2 : Rg.Rs KC w w.heap.size A2 fs) :
    Calls Tryz.prog 50 #[.slice A n c, .slice A2 n2 c2] w fun e w' => e = .returned (.bool (zipA eqCe es fs)) ∧ Below w.heap.size w w' := by
  have HN := Lib.hid hn; have HN2 := Lib.hid hn2
  have HR := Lib.hid hr; have HR2 := Lib.hid hr2
  clear hr hr2
  by_cases hnn : n = n2
  · subst hnn
    have HF : Hid (∀ (i : Nat) x y, es[i]? = some x → fs[i]? = some y → eqCe x y = false → zipA eqCe es fs = false) := Lib.hid (fun i x y hx hy h => zip_false i hx hy h)
    have HT : Hid ((∀ (i : Nat) x y, i < n → es[i]? = some x → fs[i]? = some y → eqCe x y = true) → zipA eqCe es fs = true) := Lib.hid (fun h => zip_true (by rw [← hn, ← hn2]) (fun i x y hx hy => h i x y (by rw [hn]; exact lt_of_get hx) hx hy))
    generalize zipA eqCe es fs = r at HF HT ⊢
    clear hn hn2
    skip
    go_enter Tryz.func50, Tryz.ntmps50
    go_wp2
    go_loopw [13] (fun i wr => ∃ k : Nat, i = .int .i64 k ∧ k ≤ n ∧ (∀ (i : Nat) x y, i < k → es[i]? = some x → fs[i]? = some y → eqCe x y = true) ∧ Below w.heap.size w wr) (fun i _ => n - (intOf i).toNat)
    case atStart => exact ⟨0, rfl, by omega, fun i x y hi => by omega, Below.refl _ _⟩
    case round =>
      obtain ⟨k, rfl, hk, hall, hb⟩ := hrel
      have HB := Lib.hid hb; have HA := Lib.hid hall
      have hsz := hb.size
      clear hb hall
      by_cases h : k < n
      · obtain ⟨b, o, rfl, hbB, hcell⟩ := HR.out (by rw [← HN.out]; omega)
        obtain ⟨b2, o2, rfl, hbB2, hcell2⟩ := HR2.out (by rw [← HN2.out]; omega)
        have hkl : k < es.length := by rw [← HN.out]; exact h
        have hkl2 : k < fs.length := by rw [← HN2.out]; exact h
        have hz : es[k]? = some es[k] := List.getElem?_eq_getElem hkl
        have hz2 : fs[k]? = some fs[k] := List.getElem?_eq_getElem hkl2
        have hc0 := (hcell k es[k] hz).below HB.out hbB
        have hc1 := (hcell2 k fs[k] hz2).below HB.out hbB2
        generalize es[k] = x at hz hc0
        generalize fs[k] = y at hz2 hc1
        have HX := Lib.hid hz; have HY := Lib.hid hz2
        have HQ : Hid (∀ W', Below wr.heap.size wr W' → Rg.At KC W' b (o + k * KC.k) x ∧ Rg.At KC W' b2 (o2 + k * KC.k) y) := Lib.hid (fun W' h => ⟨hc0.below h (by omega), hc1.below h (by omega)⟩)
        have HSTEP : Hid (eqCe x y = true → ∀ (j : Nat) x y, j < k + 1 → es[j]? = some x → fs[j]? = some y → eqCe x y = true) := Lib.hid (fun he j u v hj hu hv => by
          rcases Nat.lt_or_ge j k with h' | h'
          · exact HA.out j u v h' hu hv
          · obtain rfl : j = k := by omega
            rw [hz] at hu
            rw [hz2] at hv
            cases hu; cases hv
            exact he)
        have HFF := Lib.hid (HF.out k _ _ hz hz2)
        clear hz hz2 hc0 hc1 hcell hcell2 hkl hkl2
        obtain ⟨xk, xa, xd⟩ := x
        obtain ⟨yk, ya, yd⟩ := y
        have HQ : Hid (∀ W, Below wr.heap.size wr W → (W.cell? ⟨b, o + k * 3, none⟩ = some (.int .i64 xk) ∧ W.cell? ⟨b, o + k * 3 + 1, none⟩ = some (.int .i64 xa) ∧ W.cell? ⟨b, o + k * 3 + 2, none⟩ = some (.int .i64 xd)) ∧ (W.cell? ⟨b2, o2 + k * 3, none⟩ = some (.int .i64 yk) ∧ W.cell? ⟨b2, o2 + k * 3 + 1, none⟩ = some (.int .i64 ya) ∧ W.cell? ⟨b2, o2 + k * 3 + 2, none⟩ = some (.int .i64 yd))) := Lib.hid (fun W hW => by
          obtain ⟨h1, h2⟩ := HQ.out W hW
          exact ⟨⟨h1 0 _ rfl, h1 1 _ rfl, h1 2 _ rfl⟩, h2 0 _ rfl, h2 1 _ rfl, h2 2 _ rfl⟩)
        have HEQ : Hid (∀ W : World, (if xk = yk then if xa = ya then if xd = yd then Result.ok (Next.value (.bool false)) W else Result.ok (Next.value (.bool true)) W else Result.ok (Next.value (.bool true)) W else Result.ok (Next.value (.bool true)) W) = Result.ok (Next.value (.bool (!eqCe (xk, xa, xd) (yk, ya, yd)))) W) := Lib.hid (fun W => by
          unfold eqCe
          by_cases h1 : xk = yk <;> by_cases h2 : xa = ya <;> by_cases h3 : xd = yd <;> simp [h1, h2, h3])
        generalize eqCe (xk, xa, xd) (yk, ya, yd) = q at HEQ HSTEP HFF
        go_upto_region 6 with (fail)
        refine wp_region_held_drew (S := fun W' => Below wr.heap.size wr W') (by kernel_rfl) (Below.refl _ _).drew (fun hHeld => ?_)
        generalize wr.drew = w5 at hHeld ⊢
        have HB5 : Hid (Below wr.heap.size wr w5) := hHeld
        clear hHeld
        refine take_in (i := 0) (oi := ⟨_, _, _, _, _, _⟩) (v := ?_) rfl (by kernel_rfl) (by kernel_rfl) (by kernel_rfl) (fun _ _ _ h => h) (by rfl) ?_ HB5.out ?_
        rotate_left
        · intro W hW; obtain ⟨⟨q0, q1, q2⟩, p0, p1, p2⟩ := HQ.out W hW; go_simp; with_reducible rfl
        simp only [Act.put, List.setIfInBounds_toArray, List.set_cons_zero, List.set_cons_succ]
        refine take_in (i := 1) (oi := ⟨_, _, _, _, _, _⟩) (v := ?_) rfl (by kernel_rfl) (by kernel_rfl) (by kernel_rfl) (fun _ _ _ h => h) (by rfl) ?_ HB5.out ?_
        rotate_left
        · intro W hW; obtain ⟨⟨q0, q1, q2⟩, p0, p1, p2⟩ := HQ.out W hW; go_simp; with_reducible rfl
        simp only [Act.put, List.setIfInBounds_toArray, List.set_cons_zero, List.set_cons_succ]
        refine take_in (i := 2) (oi := ⟨_, _, _, _, _, _⟩) (v := ?_) rfl (by kernel_rfl) (by kernel_rfl) (by kernel_rfl) (fun _ _ _ h => h) (by rfl) ?_ HB5.out ?_
        rotate_left
        · intro W hW; obtain ⟨⟨q0, q1, q2⟩, p0, p1, p2⟩ := HQ.out W hW; go_simp; with_reducible rfl
        simp only [Act.put, List.setIfInBounds_toArray, List.set_cons_zero, List.set_cons_succ]
        refine take_in (i := 3) (oi := ⟨_, _, _, _, _, _⟩) (v := ?_) rfl (by kernel_rfl) (by kernel_rfl) (by kernel_rfl) (fun _ _ _ h => h) (by rfl) ?_ HB5.out ?_
        rotate_left
        · intro W hW; obtain ⟨⟨q0, q1, q2⟩, p0, p1, p2⟩ := HQ.out W hW; go_simp; with_reducible rfl
        simp only [Act.put, List.setIfInBounds_toArray, List.set_cons_zero, List.set_cons_succ]
        refine take_in (i := 4) (oi := ⟨_, _, _, _, _, _⟩) (v := ?_) rfl (by kernel_rfl) (by kernel_rfl) (by kernel_rfl) (fun _ _ _ h => h) (by rfl) ?_ HB5.out ?_
        rotate_left
        · intro W hW; obtain ⟨⟨q0, q1, q2⟩, p0, p1, p2⟩ := HQ.out W hW; go_simp; with_reducible rfl
        simp only [Act.put, List.setIfInBounds_toArray, List.set_cons_zero, List.set_cons_succ]
        refine take_in (i := 5) (oi := ⟨_, _, _, _, _, _⟩) (v := ?_) rfl (by kernel_rfl) (by kernel_rfl) (by kernel_rfl) (fun _ _ _ h => h) (by rfl) ?_ HB5.out ?_
        rotate_left
        · intro W hW; obtain ⟨⟨q0, q1, q2⟩, p0, p1, p2⟩ := HQ.out W hW; go_simp; with_reducible rfl
        simp only [Act.put, List.setIfInBounds_toArray, List.set_cons_zero, List.set_cons_succ]
        refine take_in (i := 6) (oi := ⟨_, _, _, _, _, _⟩) (v := ?_) rfl (by kernel_rfl) (by kernel_rfl) (by kernel_rfl) (fun _ _ _ h => h) (by rfl) ?_ HB5.out ?_
        rotate_left
        · intro W hW; obtain ⟨⟨q0, q1, q2⟩, p0, p1, p2⟩ := HQ.out W hW; go_simp; with_reducible rfl
        simp only [Act.put, List.setIfInBounds_toArray, List.set_cons_zero, List.set_cons_succ]
        refine take_in (i := 7) (oi := ⟨_, _, _, _, _, _⟩) (v := ?_) rfl (by kernel_rfl) (by kernel_rfl) (by kernel_rfl) (fun _ _ _ h => h) (by rfl) ?_ HB5.out ?_
        rotate_left
        · intro W hW; obtain ⟨⟨q0, q1, q2⟩, p0, p1, p2⟩ := HQ.out W hW; go_simp; with_reducible rfl
        simp only [Act.put, List.setIfInBounds_toArray, List.set_cons_zero, List.set_cons_succ]
        refine take_in (i := 8) (oi := ⟨_, _, _, _, _, _⟩) (v := ?_) rfl (by kernel_rfl) (by kernel_rfl) (by kernel_rfl) (fun _ _ _ h => h) (by rfl) ?_ HB5.out ?_
        rotate_left
        · intro W hW; go_simp; refine (HEQ.out W).trans ?_; with_reducible rfl
        simp only [Act.put, List.setIfInBounds_toArray, List.set_cons_zero, List.set_cons_succ]
        refine wpAnyH_done (by kernel_rfl) ?_ _
        cases q with
        | false =>
          have HE := Lib.hid (HFF.out rfl)
          go_wp2
          go_ret
          exact ⟨ret_bool HE.out.symm, HB.out.trans (HB5.out.mono HB.out.size)⟩
        | true =>
          have HE := Lib.hid (HSTEP.out rfl)
          go_wp2
          exact ⟨⟨k + 1, by go_num, by omega, HE.out, HB.out.trans (HB5.out.mono HB.out.size)⟩, by simp [intOf]; omega⟩
      · obtain rfl : k = n := by omega
        have HRT := Lib.hid (HT.out HA.out)
        go_wp2
        go_ret
        exact ⟨ret_bool HRT.out.symm, HB.out⟩
  · have HS : Hid (zipA eqCe es fs = false) := Lib.hid (zip_len (by rw [← hn, ← hn2]; exact hnn))
    have hq : ((n : Int) != (n2 : Int)) = true := by rw [bne_iff_ne]; omega
    clear hn hn2 hnn
    go_enter Tryz.func50, Tryz.ntmps50
    go_wp2
    go_ret
    exact ⟨ret_bool HS.out.symm, Below.refl _ _⟩
set_option maxHeartbeats 2000000 in
theorem equal_in (A : Option Addr) (n c : Nat) (es : List ((Nat × Nat) × (Nat × Nat))) (hn : n = es.length) (hl : n ≤ 140737488355328) (A2 : Option Addr) (n2 c2 : Nat) (fs : List ((Nat × Nat) × (Nat × Nat))) (hn2 : n2 = fs.length) (w : World) (hr : Rg.Rs KI w w.heap.size A es) (hr2 : Rg.Rs KI w w.heap.size A2 fs) :
    Calls Tryz.prog 53 #[.slice A n c, .slice A2 n2 c2] w fun e w' => e = .returned (.bool (zipA eqI es fs)) ∧ Below w.heap.size w w' := by
  have HN := Lib.hid hn; have HN2 := Lib.hid hn2
  have HR := Lib.hid hr; have HR2 := Lib.hid hr2
  clear hr hr2
  by_cases hnn : n = n2
  · subst hnn
    have HF : Hid (∀ (i : Nat) x y, es[i]? = some x → fs[i]? = some y → eqI x y = false → zipA eqI es fs = false) := Lib.hid (fun i x y hx hy h => zip_false i hx hy h)
    have HT : Hid ((∀ (i : Nat) x y, i < n → es[i]? = some x → fs[i]? = some y → eqI x y = true) → zipA eqI es fs = true) := Lib.hid (fun h => zip_true (by rw [← hn, ← hn2]) (fun i x y hx hy => h i x y (by rw [hn]; exact lt_of_get hx) hx hy))
    generalize zipA eqI es fs = r at HF HT ⊢
    clear hn hn2
    have heqI := eq_intent
    go_enter Tryz.func53, Tryz.ntmps53
    go_wp2
    go_loopw [13] (fun i wr => ∃ k : Nat, i = .int .i64 k ∧ k ≤ n ∧ (∀ (i : Nat) x y, i < k → es[i]? = some x → fs[i]? = some y → eqI x y = true) ∧ Below w.heap.size w wr) (fun i _ => n - (intOf i).toNat)
    case atStart => exact ⟨0, rfl, by omega, fun i x y hi => by omega, Below.refl _ _⟩
    case round =>
      obtain ⟨k, rfl, hk, hall, hb⟩ := hrel
      have HB := Lib.hid hb; have HA := Lib.hid hall
      have hsz := hb.size
      clear hb hall
      by_cases h : k < n
      · obtain ⟨b, o, rfl, hbB, hcell⟩ := HR.out (by rw [← HN.out]; omega)
        obtain ⟨b2, o2, rfl, hbB2, hcell2⟩ := HR2.out (by rw [← HN2.out]; omega)
        have hkl : k < es.length := by rw [← HN.out]; exact h
        have hkl2 : k < fs.length := by rw [← HN2.out]; exact h
        have hz : es[k]? = some es[k] := List.getElem?_eq_getElem hkl
        have hz2 : fs[k]? = some fs[k] := List.getElem?_eq_getElem hkl2
        have hc0 := (hcell k es[k] hz).below HB.out hbB
        have hc1 := (hcell2 k fs[k] hz2).below HB.out hbB2
        generalize es[k] = x at hz hc0
        generalize fs[k] = y at hz2 hc1
        have HX := Lib.hid hz; have HY := Lib.hid hz2
        have HQ : Hid (∀ W', Below wr.heap.size wr W' → Rg.At KI W' b (o + k * KI.k) x ∧ Rg.At KI W' b2 (o2 + k * KI.k) y) := Lib.hid (fun W' h => ⟨hc0.below h (by omega), hc1.below h (by omega)⟩)
        have HSTEP : Hid (eqI x y = true → ∀ (j : Nat) x y, j < k + 1 → es[j]? = some x → fs[j]? = some y → eqI x y = true) := Lib.hid (fun he j u v hj hu hv => by
          rcases Nat.lt_or_ge j k with h' | h'
          · exact HA.out j u v h' hu hv
          · obtain rfl : j = k := by omega
            rw [hz] at hu
            rw [hz2] at hv
            cases hu; cases hv
            exact he)
        have HFF := Lib.hid (HF.out k _ _ hz hz2)
        clear hz hz2 hc0 hc1 hcell hcell2 hkl hkl2
        obtain ⟨⟨xa, xd⟩, ⟨xb, xe⟩⟩ := x
        obtain ⟨⟨ya, yd⟩, ⟨yb, ye⟩⟩ := y
        have HQ : Hid (∀ W, Below wr.heap.size wr W → (W.cell? ⟨b, o + k * 4, none⟩ = some (.int .i64 (xa : Int)) ∧ W.cell? ⟨b, o + k * 4 + 1, none⟩ = some (.int .i64 (xd : Int)) ∧ W.cell? ⟨b, o + k * 4 + 2, none⟩ = some (.int .i64 (xb : Int)) ∧ W.cell? ⟨b, o + k * 4 + 3, none⟩ = some (.int .i64 (xe : Int))) ∧ (W.cell? ⟨b2, o2 + k * 4, none⟩ = some (.int .i64 (ya : Int)) ∧ W.cell? ⟨b2, o2 + k * 4 + 1, none⟩ = some (.int .i64 (yd : Int)) ∧ W.cell? ⟨b2, o2 + k * 4 + 2, none⟩ = some (.int .i64 (yb : Int)) ∧ W.cell? ⟨b2, o2 + k * 4 + 3, none⟩ = some (.int .i64 (ye : Int)))) := Lib.hid (fun W hW => by
          obtain ⟨h1, h2⟩ := HQ.out W hW
          exact ⟨⟨h1 0 _ rfl, h1 1 _ rfl, h1 2 _ rfl, h1 3 _ rfl⟩, h2 0 _ rfl, h2 1 _ rfl, h2 2 _ rfl, h2 3 _ rfl⟩)
        have HEQ : Hid (((!((xa : Int) == (ya : Int)) || !((xd : Int) == (yd : Int))) || (!((xb : Int) == (yb : Int)) || !((xe : Int) == (ye : Int)))) = !(eqI ((xa, xd), (xb, xe)) ((ya, yd), (yb, ye)))) := Lib.hid (by
          have e1 : (xa == ya) = ((xa : Int) == (ya : Int)) := by rw [Bool.eq_iff_iff]; simp only [beq_iff_eq, Int.natCast_inj]
          have e2 : (xd == yd) = ((xd : Int) == (yd : Int)) := by rw [Bool.eq_iff_iff]; simp only [beq_iff_eq, Int.natCast_inj]
          have e3 : (xb == yb) = ((xb : Int) == (yb : Int)) := by rw [Bool.eq_iff_iff]; simp only [beq_iff_eq, Int.natCast_inj]
          have e4 : (xe == ye) = ((xe : Int) == (ye : Int)) := by rw [Bool.eq_iff_iff]; simp only [beq_iff_eq, Int.natCast_inj]
          have e5 : eqI ((xa, xd), (xb, xe)) ((ya, yd), (yb, ye)) = ((xa == ya && xd == yd) && (xb == yb && xe == ye)) := rfl
          rw [e5, e1, e2, e3, e4]
          simp only [Bool.not_and])
        generalize eqI ((xa, xd), (xb, xe)) ((ya, yd), (yb, ye)) = q at HEQ HSTEP HFF
        go_upto_region 6 with (fail)
        refine wp_region_held_drew (S := fun W' => Below wr.heap.size wr W') (by kernel_rfl) (Below.refl _ _).drew (fun hHeld => ?_)
        generalize wr.drew = w5 at hHeld ⊢
        have HB5 : Hid (Below wr.heap.size wr w5) := hHeld
        clear hHeld
        refine take_in (i := 0) (oi := ⟨_, _, _, _, _, _⟩) (v := ?_) rfl (by kernel_rfl) (by kernel_rfl) (by kernel_rfl) (fun _ _ _ h => h) (by rfl) ?_ HB5.out ?_
        rotate_left
        · intro W hW; obtain ⟨⟨q0, q1, q2, q3⟩, p0, p1, p2, p3⟩ := HQ.out W hW; go_simp; with_reducible rfl
        simp only [Act.put, List.setIfInBounds_toArray, List.set_cons_zero, List.set_cons_succ]
        refine take_in (i := 1) (oi := ⟨_, _, _, _, _, _⟩) (v := ?_) rfl (by kernel_rfl) (by kernel_rfl) (by kernel_rfl) (fun _ _ _ h => h) (by rfl) ?_ HB5.out ?_
        rotate_left
        · intro W hW; obtain ⟨⟨q0, q1, q2, q3⟩, p0, p1, p2, p3⟩ := HQ.out W hW; go_simp; with_reducible rfl
        simp only [Act.put, List.setIfInBounds_toArray, List.set_cons_zero, List.set_cons_succ]
        refine take_in (i := 2) (oi := ⟨_, _, _, _, _, _⟩) (v := ?_) rfl (by kernel_rfl) (by kernel_rfl) (by kernel_rfl) (fun _ _ _ h => h) (by rfl) ?_ HB5.out ?_
        rotate_left
        · intro W hW; obtain ⟨⟨q0, q1, q2, q3⟩, p0, p1, p2, p3⟩ := HQ.out W hW; go_simp; with_reducible rfl
        simp only [Act.put, List.setIfInBounds_toArray, List.set_cons_zero, List.set_cons_succ]
        refine take_in (i := 3) (oi := ⟨_, _, _, _, _, _⟩) (v := ?_) rfl (by kernel_rfl) (by kernel_rfl) (by kernel_rfl) (fun _ _ _ h => h) (by rfl) ?_ HB5.out ?_
        rotate_left
        · intro W hW; obtain ⟨⟨q0, q1, q2, q3⟩, p0, p1, p2, p3⟩ := HQ.out W hW; go_simp; with_reducible rfl
        simp only [Act.put, List.setIfInBounds_toArray, List.set_cons_zero, List.set_cons_succ]
        refine take_in (i := 4) (oi := ⟨_, _, _, _, _, _⟩) (v := ?_) rfl (by kernel_rfl) (by kernel_rfl) (by kernel_rfl) (fun _ _ _ h => h) (by rfl) ?_ HB5.out ?_
        rotate_left
        · intro W hW; obtain ⟨⟨q0, q1, q2, q3⟩, p0, p1, p2, p3⟩ := HQ.out W hW; go_simp; with_reducible rfl
        simp only [Act.put, List.setIfInBounds_toArray, List.set_cons_zero, List.set_cons_succ]
        refine take_in (i := 5) (oi := ⟨_, _, _, _, _, _⟩) (v := ?_) rfl (by kernel_rfl) (by kernel_rfl) (by kernel_rfl) (fun _ _ _ h => h) (by rfl) ?_ HB5.out ?_
        rotate_left
        · intro W hW; obtain ⟨⟨q0, q1, q2, q3⟩, p0, p1, p2, p3⟩ := HQ.out W hW; go_simp; with_reducible rfl
        simp only [Act.put, List.setIfInBounds_toArray, List.set_cons_zero, List.set_cons_succ]
        refine take_in (i := 6) (oi := ⟨_, _, _, _, _, _⟩) (v := ?_) rfl (by kernel_rfl) (by kernel_rfl) (by kernel_rfl) (fun _ _ _ h => h) (by rfl) ?_ HB5.out ?_
        rotate_left
        · intro W hW; obtain ⟨⟨q0, q1, q2, q3⟩, p0, p1, p2, p3⟩ := HQ.out W hW; go_simp; with_reducible rfl
        simp only [Act.put, List.setIfInBounds_toArray, List.set_cons_zero, List.set_cons_succ]
        refine take_in (i := 7) (oi := ⟨_, _, _, _, _, _⟩) (v := ?_) rfl (by kernel_rfl) (by kernel_rfl) (by kernel_rfl) (fun _ _ _ h => h) (by rfl) ?_ HB5.out ?_
        rotate_left
        · intro W hW; obtain ⟨⟨q0, q1, q2, q3⟩, p0, p1, p2, p3⟩ := HQ.out W hW; go_simp; with_reducible rfl
        simp only [Act.put, List.setIfInBounds_toArray, List.set_cons_zero, List.set_cons_succ]
        refine take_in (i := 8) (oi := ⟨_, _, _, _, _, _⟩) (v := ?_) rfl (by kernel_rfl) (by kernel_rfl) (by kernel_rfl) (fun _ _ _ h => h) (by rfl) ?_ HB5.out ?_
        rotate_left
        · intro W hW; go_simp; refine (congrArg Value.bool HEQ.out).trans ?_; with_reducible rfl
        simp only [Act.put, List.setIfInBounds_toArray, List.set_cons_zero, List.set_cons_succ]
        refine wpAnyH_done (by kernel_rfl) ?_ _
        cases q with
        | false =>
          have HE := Lib.hid (HFF.out rfl)
          go_wp2
          go_ret
          exact ⟨ret_bool HE.out.symm, HB.out.trans (HB5.out.mono HB.out.size)⟩
        | true =>
          have HE := Lib.hid (HSTEP.out rfl)
          go_wp2
          exact ⟨⟨k + 1, by go_num, by omega, HE.out, HB.out.trans (HB5.out.mono HB.out.size)⟩, by simp [intOf]; omega⟩
      · obtain rfl : k = n := by omega
        have HRT := Lib.hid (HT.out HA.out)
        go_wp2
        go_ret
        exact ⟨ret_bool HRT.out.symm, HB.out⟩
  · have HS : Hid (zipA eqI es fs = false) := Lib.hid (zip_len (by rw [← hn, ← hn2]; exact hnn))
    have hq : ((n : Int) != (n2 : Int)) = true := by rw [bne_iff_ne]; omega
    clear hn hn2 hnn
    go_enter Tryz.func53, Tryz.ntmps53
    go_wp2
    go_ret
    exact ⟨ret_bool HS.out.symm, Below.refl _ _⟩
end Go.Proofs.YtfblnomkafimhaaGreat.Fow

namespace Go.Proofs.YtfblnomkafimhaaGreat.Fow
set_option maxRecDepth 20000
open Go.RowKit
open Chg Vw Cl Bk Lg Fo Clw Bkw
open Chgw (hat hbe vw ret_bool ret_i64 Vx)
open Rg (bal)

set_option maxHeartbeats 2000000 in
theorem clo_B (u v : Nat × Nat) (sx sy : Sl) (bx by_ : List E) (w : World) (hx : So w sx.a sx.n sx.c bx) (hy : So w sy.a sy.n sy.c by_) :
    Calls Tryz.prog 47 #[.agg #[.int .i64 (u.1 : Int), .int .i64 (u.2 : Int), .slice sx.a sx.n sx.c], .agg #[.int .i64 (v.1 : Int), .int .i64 (v.2 : Int), .slice sy.a sy.n sy.c]] w fun e w' => e = .returned (.bool (eqB (u, bx) (v, by_))) ∧ Below w.heap.size w w' := by
  have heq := Chgw.eq_view
  have HS : Hid (∀ W, Below w.heap.size w W → Calls Tryz.prog 48 #[.slice sx.a sx.n sx.c, .slice sy.a sy.n sy.c] W fun e w' => e = .returned (.bool (same bx by_)) ∧ Below W.heap.size W w') := Lib.hid (fun W hW => Bkw.same_c _ _ _ bx _ _ _ by_ W (hx.all hW) (hy.all hW))
  have HE : Hid (eqB (u, bx) (v, by_) = ((((u.1 : Int) == (v.1 : Int)) && ((u.2 : Int) == (v.2 : Int))) && same bx by_)) := Lib.hid (by
    unfold eqB
    congr 1
    rw [Bool.eq_iff_iff]
    simp only [Bool.and_eq_true, beq_iff_eq, Prod.ext_iff, Int.natCast_inj])
  generalize eqB (u, bx) (v, by_) = r at HE ⊢
  generalize same bx by_ = t at HS HE
  obtain ⟨ua, ud⟩ := u
  obtain ⟨va, vd⟩ := v
  obtain ⟨sxa, sxn, sxc⟩ := sx
  obtain ⟨sya, syn, syc⟩ := sy
  simp only at HS HE ⊢
  clear hx hy
  go_enter Tryz.func47, Tryz.ntmps47
  go_upto_region 1 with (fail)
  have HX := Lib.hid (show ((w.alloc (.cells #[.int .i64 (ua : Int), .int .i64 (ud : Int), .slice sxa sxn sxc] 69)).alloc (.cells #[.int .i64 (va : Int), .int .i64 (vd : Int), .slice sya syn syc] 69)).heap[w.heap.size]? = some (.cells #[.int .i64 (ua : Int), .int .i64 (ud : Int), .slice sxa sxn sxc] 69) from hbe (hat _ _ _ rfl))
  have HY := Lib.hid (show ((w.alloc (.cells #[.int .i64 (ua : Int), .int .i64 (ud : Int), .slice sxa sxn sxc] 69)).alloc (.cells #[.int .i64 (va : Int), .int .i64 (vd : Int), .slice sya syn syc] 69)).heap[w.heap.size + 1]? = some (.cells #[.int .i64 (va : Int), .int .i64 (vd : Int), .slice sya syn syc] 69) from hat _ _ _ (by simp))
  have HB := Lib.hid (bal (bal (Below.refl w.heap.size w) (Nat.le_refl _) (.cells #[.int .i64 (ua : Int), .int .i64 (ud : Int), .slice sxa sxn sxc] 69)) (Nat.le_refl _) (.cells #[.int .i64 (va : Int), .int .i64 (vd : Int), .slice sya syn syc] 69))
  generalize ((w.alloc (.cells #[.int .i64 (ua : Int), .int .i64 (ud : Int), .slice sxa sxn sxc] 69)).alloc (.cells #[.int .i64 (va : Int), .int .i64 (vd : Int), .slice sya syn syc] 69)) = w1 at HX HY HB ⊢
  obtain ⟨x0, x1, x2⟩ := cells3 HX.out
  obtain ⟨y0, y1, y2⟩ := cells3 HY.out
  clear HX HY
  cases hq : ((ua : Int) == (va : Int) && (ud : Int) == (vd : Int)) with
  | false =>
    have HF := Lib.hid (show r = false from by rw [HE.out, hq]; rfl); clear HE
    go_wp2
    all_goals go_ret
    all_goals exact ⟨ret_bool HF.out.symm, HB.out⟩
  | true =>
    have HF := Lib.hid (show r = t from by rw [HE.out, hq]; rfl); clear HE
    go_wp2_with (refine (HS.out w1 HB.out).mono ?_; rintro e w2 ⟨rfl, hb2⟩; have HB := Lib.hid (HB.out.trans (hb2.mono HB.out.size)); clear hb2)
    all_goals (try go_ret)
    all_goals exact ⟨ret_bool HF.out.symm, HB.out⟩
set_option maxHeartbeats 2000000 in
theorem eqf_B (A : Option Addr) (n c : Nat) (xs : List ((Nat × Nat) × Sl)) (l : List ((Nat × Nat) × List E)) (hn : n = xs.length) (hl : n ≤ 4096) (A2 : Option Addr) (n2 c2 : Nat) (ys : List ((Nat × Nat) × Sl)) (m : List ((Nat × Nat) × List E)) (hn2 : n2 = ys.length) (w : World) (hr : Rg.Rs KB w w.heap.size A xs) (hr2 : Rg.Rs KB w w.heap.size A2 ys) (hx : Bks w xs l) (hy : Bks w ys m) :
    Calls Tryz.prog 51 #[.slice A n c, .slice A2 n2 c2, .func (.func 47) #[] #[]] w fun e w' => e = .returned (.bool (zipA eqB l m)) ∧ Below w.heap.size w w' := by
  have HN := Lib.hid hn; have HN2 := Lib.hid hn2
  have HR := Lib.hid hr; have HR2 := Lib.hid hr2
  have HX := Lib.hid hx; have HY := Lib.hid hy
  have hnl : n = l.length := hn.trans hx.1
  have hml : n2 = m.length := hn2.trans hy.1
  clear hr hr2 hn hn2 hx hy
  by_cases hnn : n = n2
  · subst hnn
    have HF : Hid (∀ (i : Nat) x y, l[i]? = some x → m[i]? = some y → eqB x y = false → zipA eqB l m = false) := Lib.hid (fun i x y hx hy h => zip_false i hx hy h)
    have HT : Hid ((∀ (i : Nat) x y, i < n → l[i]? = some x → m[i]? = some y → eqB x y = true) → zipA eqB l m = true) := Lib.hid (fun h => zip_true (by rw [← hnl, ← hml]) (fun i x y hx hy => h i x y (by rw [hnl]; exact lt_of_get hx) hx hy))
    have HNL := Lib.hid hnl; have HML := Lib.hid hml
    generalize zipA eqB l m = r at HF HT ⊢
    clear hnl hml
    go_enter Tryz.func51, Tryz.ntmps51
    go_wp2
    go_loopw [17] (fun i wr => ∃ k : Nat, i = .int .i64 k ∧ k ≤ n ∧ (∀ (i : Nat) x y, i < k → l[i]? = some x → m[i]? = some y → eqB x y = true) ∧ Below w.heap.size w wr) (fun i _ => n - (intOf i).toNat)
    case atStart => exact ⟨0, rfl, by omega, fun i x y hi => by omega, Below.refl _ _⟩
    case round =>
      obtain ⟨k, rfl, hk, hall, hb⟩ := hrel
      have HB := Lib.hid hb; have HA := Lib.hid hall
      have hsz := hb.size
      clear hb hall
      by_cases h : k < n
      · obtain ⟨b, o, rfl, hbB, hcell⟩ := HR.out (by rw [← HN.out]; omega)
        obtain ⟨b2, o2, rfl, hbB2, hcell2⟩ := HR2.out (by rw [← HN2.out]; omega)
        have hkl : k < xs.length := by rw [← HN.out]; exact h
        have hkl2 : k < ys.length := by rw [← HN2.out]; exact h
        have hkm : k < l.length := by rw [← HNL.out]; exact h
        have hkm2 : k < m.length := by rw [← HML.out]; exact h
        have hz : xs[k]? = some xs[k] := List.getElem?_eq_getElem hkl
        have hz2 : ys[k]? = some ys[k] := List.getElem?_eq_getElem hkl2
        have hv : l[k]? = some l[k] := List.getElem?_eq_getElem hkm
        have hv2 : m[k]? = some m[k] := List.getElem?_eq_getElem hkm2
        have hc0 := (hcell k xs[k] hz).below HB.out hbB
        have hc1 := (hcell2 k ys[k] hz2).below HB.out hbB2
        have hp := HX.out.2 k _ _ hz hv
        have hp2 := HY.out.2 k _ _ hz2 hv2
        generalize xs[k] = x at hz hc0 hp
        generalize ys[k] = y at hz2 hc1 hp2
        generalize l[k] = u at hv hp
        generalize m[k] = v at hv2 hp2
        have HU := Lib.hid hv; have HV := Lib.hid hv2
        have HFF := Lib.hid (HF.out k _ _ hv hv2)
        have HSTEP : Hid (eqB u v = true → ∀ (j : Nat) x y, j < k + 1 → l[j]? = some x → m[j]? = some y → eqB x y = true) := Lib.hid (fun he j a b hj ha hb => by
          rcases Nat.lt_or_ge j k with h' | h'
          · exact HA.out j a b h' ha hb
          · obtain rfl : j = k := by omega
            rw [hv] at ha
            rw [hv2] at hb
            cases ha; cases hb
            exact he)
        have HCL : Hid (∀ W, Below w.heap.size w W → Calls Tryz.prog 47 #[.agg #[.int .i64 (x.1.1 : Int), .int .i64 (x.1.2 : Int), .slice x.2.a x.2.n x.2.c], .agg #[.int .i64 (y.1.1 : Int), .int .i64 (y.1.2 : Int), .slice y.2.a y.2.n y.2.c]] W fun e w' => e = .returned (.bool (eqB u v)) ∧ Below W.heap.size W w') := Lib.hid (fun W hW => by
          have := clo_B x.1 y.1 x.2 y.2 u.2 v.2 W (hp.2.all hW) (hp2.2.all hW)
          rw [hp.1, hp2.1] at this
          rw [hp.1, hp2.1]
          exact this)
        generalize eqB u v = t at HFF HSTEP HCL
        have HQY : Hid (∀ W, Below wr.heap.size wr W → Rg.At KB W b2 (o2 + k * KB.k) y) := Lib.hid (fun W hW => hc1.below hW (by omega))
        obtain ⟨⟨xa, xd⟩, ⟨xs1, xs2, xs3⟩⟩ := x
        obtain ⟨⟨ya, yd⟩, ⟨ys1, ys2, ys3⟩⟩ := y
        simp only at HCL
        have x0 := hc0 0 _ rfl; have x1 := hc0 1 _ rfl; have x2 := hc0 2 _ rfl
        rw [show KB.k = 3 from rfl] at x0 x1 x2
        simp only [Nat.add_zero] at x0 x1 x2
        clear hz hz2 hv hv2 hc0 hc1 hp hp2 hcell hcell2 hkl hkl2 hkm hkm2
        go_upto_region 6 with (fail)
        have hbx := bal (Below.refl wr.heap.size wr) (Nat.le_refl _) (.cells #[.int .i64 (xa : Int), .int .i64 (xd : Int), .slice xs1 xs2 xs3] 69)
        have hcy := HQY.out _ hbx
        have y0 := hcy 0 _ rfl; have y1 := hcy 1 _ rfl; have y2 := hcy 2 _ rfl
        rw [show KB.k = 3 from rfl] at y0 y1 y2
        simp only [Nat.add_zero] at y0 y1 y2
        have HB1 := Lib.hid (HB.out.trans (hbx.mono HB.out.size))
        have HE1 := Lib.hid (show (wr.alloc (.cells #[.int .i64 (xa : Int), .int .i64 (xd : Int), .slice xs1 xs2 xs3] 69)).heap[wr.heap.size]? = some (.cells #[.int .i64 (xa : Int), .int .i64 (xd : Int), .slice xs1 xs2 xs3] 69) from hat _ _ _ rfl)
        clear hbx hcy x0 x1 x2 HQY
        generalize wr.alloc (.cells #[.int .i64 (xa : Int), .int .i64 (xd : Int), .slice xs1 xs2 xs3] 69) = w1 at y0 y1 y2 HB1 HE1 ⊢
        generalize wr.heap.size = g1 at HE1 ⊢
        go_upto_region 7 with (fail)
        have HE2 := Lib.hid (show (w1.alloc (.cells #[.int .i64 (ya : Int), .int .i64 (yd : Int), .slice ys1 ys2 ys3] 69)).heap[w1.heap.size]? = some (.cells #[.int .i64 (ya : Int), .int .i64 (yd : Int), .slice ys1 ys2 ys3] 69) from hat _ _ _ rfl)
        have HE1 := Lib.hid (hbe (o := .cells #[.int .i64 (ya : Int), .int .i64 (yd : Int), .slice ys1 ys2 ys3] 69) HE1.out)
        have HB2 := Lib.hid (bal HB1.out (Nat.le_refl _) (.cells #[.int .i64 (ya : Int), .int .i64 (yd : Int), .slice ys1 ys2 ys3] 69))
        clear y0 y1 y2
        generalize w1.alloc (.cells #[.int .i64 (ya : Int), .int .i64 (yd : Int), .slice ys1 ys2 ys3] 69) = w2 at HE1 HE2 HB2 ⊢
        generalize w1.heap.size = g2 at HE2 ⊢
        obtain ⟨x0, x1, x2⟩ := cells3 HE1.out
        obtain ⟨y0, y1, y2⟩ := cells3 HE2.out
        go_wp2_with fail
        refine (HCL.out w2 HB2.out).mono ?_
        rintro e w6 ⟨rfl, hb6⟩
        have HB6 := Lib.hid (HB2.out.trans (hb6.mono HB2.out.size)); clear hb6 x0 x1 x2 y0 y1 y2
        cases t with
        | false =>
          have HRF := Lib.hid (HFF.out rfl)
          go_wp2
          go_ret
          exact ⟨ret_bool HRF.out.symm, HB6.out⟩
        | true =>
          have HRT := Lib.hid (HSTEP.out rfl)
          go_wp2
          exact ⟨⟨k + 1, by go_num, by omega, HRT.out, HB6.out⟩, by simp [intOf]; omega⟩
      · obtain rfl : k = n := by omega
        have HRT := Lib.hid (HT.out HA.out)
        go_wp2
        go_ret
        exact ⟨ret_bool HRT.out.symm, HB.out⟩
  · have HS : Hid (zipA eqB l m = false) := Lib.hid (zip_len (by rw [← hnl, ← hml]; exact hnn))
    have hq : ((n : Int) != (n2 : Int)) = true := by rw [bne_iff_ne]; omega
    clear hnl hml hnn
    go_enter Tryz.func51, Tryz.ntmps51
    go_wp2
    go_ret
    exact ⟨ret_bool HS.out.symm, Below.refl _ _⟩
end Go.Proofs.YtfblnomkafimhaaGreat.Fow

namespace Go.Proofs.YtfblnomkafimhaaGreat.Fow
set_option maxRecDepth 20000
open Go.RowKit
open Chg Vw Cl Bk Lg Fo Clw Bkw
open Chgw (hat hbe vw ret_bool ret_i64 Vx)
open Rg (bal)

set_option maxHeartbeats 2000000 in
theorem clo_C (u v : Nat × Nat) (sx sy : Sl) (bx by_ : List C) (w : World) (hx : Sc w sx.a sx.n sx.c bx) (hy : Sc w sy.a sy.n sy.c by_) :
    Calls Tryz.prog 49 #[.agg #[.int .i64 (u.1 : Int), .int .i64 (u.2 : Int), .slice sx.a sx.n sx.c], .agg #[.int .i64 (v.1 : Int), .int .i64 (v.2 : Int), .slice sy.a sy.n sy.c]] w fun e w' => e = .returned (.bool (eqC (u, bx) (v, by_))) ∧ Below w.heap.size w w' := by
  have heq := Chgw.eq_view
  have HS : Hid (∀ W, Below w.heap.size w W → Calls Tryz.prog 50 #[.slice sx.a sx.n sx.c, .slice sy.a sy.n sy.c] W fun e w' => e = .returned (.bool (sameC bx by_)) ∧ Below W.heap.size W w') := Lib.hid (fun W hW => by rw [← zip_eqCe]; exact equal_ce _ _ _ bx hx.1 (by have := hx.2.2.1; omega) _ _ _ by_ hy.1 W (hx.all hW).2.2.2 (hy.all hW).2.2.2)
  have HE : Hid (eqC (u, bx) (v, by_) = ((((u.1 : Int) == (v.1 : Int)) && ((u.2 : Int) == (v.2 : Int))) && sameC bx by_)) := Lib.hid (by
    unfold eqC
    congr 1
    rw [Bool.eq_iff_iff]
    simp only [Bool.and_eq_true, beq_iff_eq, Prod.ext_iff, Int.natCast_inj])
  generalize eqC (u, bx) (v, by_) = r at HE ⊢
  generalize sameC bx by_ = t at HS HE
  obtain ⟨ua, ud⟩ := u
  obtain ⟨va, vd⟩ := v
  obtain ⟨sxa, sxn, sxc⟩ := sx
  obtain ⟨sya, syn, syc⟩ := sy
  simp only at HS HE ⊢
  clear hx hy
  go_enter Tryz.func49, Tryz.ntmps49
  go_upto_region 1 with (fail)
  have HX := Lib.hid (show ((w.alloc (.cells #[.int .i64 (ua : Int), .int .i64 (ud : Int), .slice sxa sxn sxc] 71)).alloc (.cells #[.int .i64 (va : Int), .int .i64 (vd : Int), .slice sya syn syc] 71)).heap[w.heap.size]? = some (.cells #[.int .i64 (ua : Int), .int .i64 (ud : Int), .slice sxa sxn sxc] 71) from hbe (hat _ _ _ rfl))
  have HY := Lib.hid (show ((w.alloc (.cells #[.int .i64 (ua : Int), .int .i64 (ud : Int), .slice sxa sxn sxc] 71)).alloc (.cells #[.int .i64 (va : Int), .int .i64 (vd : Int), .slice sya syn syc] 71)).heap[w.heap.size + 1]? = some (.cells #[.int .i64 (va : Int), .int .i64 (vd : Int), .slice sya syn syc] 71) from hat _ _ _ (by simp))
  have HB := Lib.hid (bal (bal (Below.refl w.heap.size w) (Nat.le_refl _) (.cells #[.int .i64 (ua : Int), .int .i64 (ud : Int), .slice sxa sxn sxc] 71)) (Nat.le_refl _) (.cells #[.int .i64 (va : Int), .int .i64 (vd : Int), .slice sya syn syc] 71))
  generalize ((w.alloc (.cells #[.int .i64 (ua : Int), .int .i64 (ud : Int), .slice sxa sxn sxc] 71)).alloc (.cells #[.int .i64 (va : Int), .int .i64 (vd : Int), .slice sya syn syc] 71)) = w1 at HX HY HB ⊢
  obtain ⟨x0, x1, x2⟩ := cells3 HX.out
  obtain ⟨y0, y1, y2⟩ := cells3 HY.out
  clear HX HY
  cases hq : ((ua : Int) == (va : Int) && (ud : Int) == (vd : Int)) with
  | false =>
    have HF := Lib.hid (show r = false from by rw [HE.out, hq]; rfl); clear HE
    go_wp2
    all_goals go_ret
    all_goals exact ⟨ret_bool HF.out.symm, HB.out⟩
  | true =>
    have HF := Lib.hid (show r = t from by rw [HE.out, hq]; rfl); clear HE
    go_wp2_with (refine (HS.out w1 HB.out).mono ?_; rintro e w2 ⟨rfl, hb2⟩; have HB := Lib.hid (HB.out.trans (hb2.mono HB.out.size)); clear hb2)
    all_goals (try go_ret)
    all_goals exact ⟨ret_bool HF.out.symm, HB.out⟩
set_option maxHeartbeats 2000000 in
theorem eqf_C (A : Option Addr) (n c : Nat) (xs : List ((Nat × Nat) × Sl)) (l : List ((Nat × Nat) × List C)) (hn : n = xs.length) (hl : n ≤ 4096) (A2 : Option Addr) (n2 c2 : Nat) (ys : List ((Nat × Nat) × Sl)) (m : List ((Nat × Nat) × List C)) (hn2 : n2 = ys.length) (w : World) (hr : Rg.Rs KCs w w.heap.size A xs) (hr2 : Rg.Rs KCs w w.heap.size A2 ys) (hx : Css w xs l) (hy : Css w ys m) :
    Calls Tryz.prog 52 #[.slice A n c, .slice A2 n2 c2, .func (.func 49) #[] #[]] w fun e w' => e = .returned (.bool (zipA eqC l m)) ∧ Below w.heap.size w w' := by
  have HN := Lib.hid hn; have HN2 := Lib.hid hn2
  have HR := Lib.hid hr; have HR2 := Lib.hid hr2
  have HX := Lib.hid hx; have HY := Lib.hid hy
  have hnl : n = l.length := hn.trans hx.1
  have hml : n2 = m.length := hn2.trans hy.1
  clear hr hr2 hn hn2 hx hy
  by_cases hnn : n = n2
  · subst hnn
    have HF : Hid (∀ (i : Nat) x y, l[i]? = some x → m[i]? = some y → eqC x y = false → zipA eqC l m = false) := Lib.hid (fun i x y hx hy h => zip_false i hx hy h)
    have HT : Hid ((∀ (i : Nat) x y, i < n → l[i]? = some x → m[i]? = some y → eqC x y = true) → zipA eqC l m = true) := Lib.hid (fun h => zip_true (by rw [← hnl, ← hml]) (fun i x y hx hy => h i x y (by rw [hnl]; exact lt_of_get hx) hx hy))
    have HNL := Lib.hid hnl; have HML := Lib.hid hml
    generalize zipA eqC l m = r at HF HT ⊢
    clear hnl hml
    go_enter Tryz.func52, Tryz.ntmps52
    go_wp2
    go_loopw [17] (fun i wr => ∃ k : Nat, i = .int .i64 k ∧ k ≤ n ∧ (∀ (i : Nat) x y, i < k → l[i]? = some x → m[i]? = some y → eqC x y = true) ∧ Below w.heap.size w wr) (fun i _ => n - (intOf i).toNat)
    case atStart => exact ⟨0, rfl, by omega, fun i x y hi => by omega, Below.refl _ _⟩
    case round =>
      obtain ⟨k, rfl, hk, hall, hb⟩ := hrel
      have HB := Lib.hid hb; have HA := Lib.hid hall
      have hsz := hb.size
      clear hb hall
      by_cases h : k < n
      · obtain ⟨b, o, rfl, hbB, hcell⟩ := HR.out (by rw [← HN.out]; omega)
        obtain ⟨b2, o2, rfl, hbB2, hcell2⟩ := HR2.out (by rw [← HN2.out]; omega)
        have hkl : k < xs.length := by rw [← HN.out]; exact h
        have hkl2 : k < ys.length := by rw [← HN2.out]; exact h
        have hkm : k < l.length := by rw [← HNL.out]; exact h
        have hkm2 : k < m.length := by rw [← HML.out]; exact h
        have hz : xs[k]? = some xs[k] := List.getElem?_eq_getElem hkl
        have hz2 : ys[k]? = some ys[k] := List.getElem?_eq_getElem hkl2
        have hv : l[k]? = some l[k] := List.getElem?_eq_getElem hkm
        have hv2 : m[k]? = some m[k] := List.getElem?_eq_getElem hkm2
        have hc0 := (hcell k xs[k] hz).below HB.out hbB
        have hc1 := (hcell2 k ys[k] hz2).below HB.out hbB2
        have hp := HX.out.2 k _ _ hz hv
        have hp2 := HY.out.2 k _ _ hz2 hv2
        generalize xs[k] = x at hz hc0 hp
        generalize ys[k] = y at hz2 hc1 hp2
        generalize l[k] = u at hv hp
        generalize m[k] = v at hv2 hp2
        have HU := Lib.hid hv; have HV := Lib.hid hv2
        have HFF := Lib.hid (HF.out k _ _ hv hv2)
        have HSTEP : Hid (eqC u v = true → ∀ (j : Nat) x y, j < k + 1 → l[j]? = some x → m[j]? = some y → eqC x y = true) := Lib.hid (fun he j a b hj ha hb => by
          rcases Nat.lt_or_ge j k with h' | h'
          · exact HA.out j a b h' ha hb
          · obtain rfl : j = k := by omega
            rw [hv] at ha
            rw [hv2] at hb
            cases ha; cases hb
            exact he)
        have HCL : Hid (∀ W, Below w.heap.size w W → Calls Tryz.prog 49 #[.agg #[.int .i64 (x.1.1 : Int), .int .i64 (x.1.2 : Int), .slice x.2.a x.2.n x.2.c], .agg #[.int .i64 (y.1.1 : Int), .int .i64 (y.1.2 : Int), .slice y.2.a y.2.n y.2.c]] W fun e w' => e = .returned (.bool (eqC u v)) ∧ Below W.heap.size W w') := Lib.hid (fun W hW => by
          have := clo_C x.1 y.1 x.2 y.2 u.2 v.2 W (hp.2.all hW) (hp2.2.all hW)
          rw [hp.1, hp2.1] at this
          rw [hp.1, hp2.1]
          exact this)
        generalize eqC u v = t at HFF HSTEP HCL
        have HQY : Hid (∀ W, Below wr.heap.size wr W → Rg.At KCs W b2 (o2 + k * KCs.k) y) := Lib.hid (fun W hW => hc1.below hW (by omega))
        obtain ⟨⟨xa, xd⟩, ⟨xs1, xs2, xs3⟩⟩ := x
        obtain ⟨⟨ya, yd⟩, ⟨ys1, ys2, ys3⟩⟩ := y
        simp only at HCL
        have x0 := hc0 0 _ rfl; have x1 := hc0 1 _ rfl; have x2 := hc0 2 _ rfl
        rw [show KCs.k = 3 from rfl] at x0 x1 x2
        simp only [Nat.add_zero] at x0 x1 x2
        clear hz hz2 hv hv2 hc0 hc1 hp hp2 hcell hcell2 hkl hkl2 hkm hkm2
        go_upto_region 6 with (fail)
        have hbx := bal (Below.refl wr.heap.size wr) (Nat.le_refl _) (.cells #[.int .i64 (xa : Int), .int .i64 (xd : Int), .slice xs1 xs2 xs3] 71)
        have hcy := HQY.out _ hbx
        have y0 := hcy 0 _ rfl; have y1 := hcy 1 _ rfl; have y2 := hcy 2 _ rfl
        rw [show KCs.k = 3 from rfl] at y0 y1 y2
        simp only [Nat.add_zero] at y0 y1 y2
        have HB1 := Lib.hid (HB.out.trans (hbx.mono HB.out.size))
        have HE1 := Lib.hid (show (wr.alloc (.cells #[.int .i64 (xa : Int), .int .i64 (xd : Int), .slice xs1 xs2 xs3] 71)).heap[wr.heap.size]? = some (.cells #[.int .i64 (xa : Int), .int .i64 (xd : Int), .slice xs1 xs2 xs3] 71) from hat _ _ _ rfl)
        clear hbx hcy x0 x1 x2 HQY
        generalize wr.alloc (.cells #[.int .i64 (xa : Int), .int .i64 (xd : Int), .slice xs1 xs2 xs3] 71) = w1 at y0 y1 y2 HB1 HE1 ⊢
        generalize wr.heap.size = g1 at HE1 ⊢
        go_upto_region 7 with (fail)
        have HE2 := Lib.hid (show (w1.alloc (.cells #[.int .i64 (ya : Int), .int .i64 (yd : Int), .slice ys1 ys2 ys3] 71)).heap[w1.heap.size]? = some (.cells #[.int .i64 (ya : Int), .int .i64 (yd : Int), .slice ys1 ys2 ys3] 71) from hat _ _ _ rfl)
        have HE1 := Lib.hid (hbe (o := .cells #[.int .i64 (ya : Int), .int .i64 (yd : Int), .slice ys1 ys2 ys3] 71) HE1.out)
        have HB2 := Lib.hid (bal HB1.out (Nat.le_refl _) (.cells #[.int .i64 (ya : Int), .int .i64 (yd : Int), .slice ys1 ys2 ys3] 71))
        clear y0 y1 y2
        generalize w1.alloc (.cells #[.int .i64 (ya : Int), .int .i64 (yd : Int), .slice ys1 ys2 ys3] 71) = w2 at HE1 HE2 HB2 ⊢
        generalize w1.heap.size = g2 at HE2 ⊢
        obtain ⟨x0, x1, x2⟩ := cells3 HE1.out
        obtain ⟨y0, y1, y2⟩ := cells3 HE2.out
        go_wp2_with fail
        refine (HCL.out w2 HB2.out).mono ?_
        rintro e w6 ⟨rfl, hb6⟩
        have HB6 := Lib.hid (HB2.out.trans (hb6.mono HB2.out.size)); clear hb6 x0 x1 x2 y0 y1 y2
        cases t with
        | false =>
          have HRF := Lib.hid (HFF.out rfl)
          go_wp2
          go_ret
          exact ⟨ret_bool HRF.out.symm, HB6.out⟩
        | true =>
          have HRT := Lib.hid (HSTEP.out rfl)
          go_wp2
          exact ⟨⟨k + 1, by go_num, by omega, HRT.out, HB6.out⟩, by simp [intOf]; omega⟩
      · obtain rfl : k = n := by omega
        have HRT := Lib.hid (HT.out HA.out)
        go_wp2
        go_ret
        exact ⟨ret_bool HRT.out.symm, HB.out⟩
  · have HS : Hid (zipA eqC l m = false) := Lib.hid (zip_len (by rw [← hnl, ← hml]; exact hnn))
    have hq : ((n : Int) != (n2 : Int)) = true := by rw [bne_iff_ne]; omega
    clear hnl hml hnn
    go_enter Tryz.func52, Tryz.ntmps52
    go_wp2
    go_ret
    exact ⟨ret_bool HS.out.symm, Below.refl _ _⟩
end Go.Proofs.YtfblnomkafimhaaGreat.Fow

namespace Go.Proofs.YtfblnomkafimhaaGreat.Fow
set_option maxRecDepth 20000
open Go.RowKit
open Chg Vw Cl Bk Lg Fo Clw Bkw
open Chgw (hat hbe vw ret_bool ret_i64 Vx)
open Rg (bal)

set_option maxHeartbeats 4000000 in
theorem same_c (s : St) (b c i : Sl) (t : St) (b2 c2 i2 : Sl) (w : World) (h : Sto w s b c i) (h2 : Sto w t b2 c2 i2) (hw : WfS s) : Calls Tryz.prog 17 #[stv s b c i, stv t b2 c2 i2] w fun e w' => e = .returned (.bool (sameS s t)) ∧ Below w.heap.size w w' := by
  have heq := Chgw.eq_view
  have HQB : Hid (∀ W, Below w.heap.size w W → Calls Tryz.prog 51 #[.slice b.a b.n b.c, .slice b2.a b2.n b2.c, .func (.func 47) #[] #[]] W fun e w' => e = .returned (.bool (zipA eqB s.books t.books)) ∧ Below W.heap.size W w') := Lib.hid (fun W hW => by
    obtain ⟨xs, h1, _, _, h4, h5⟩ := (h.all hW).1
    obtain ⟨ys, g1, _, _, g4, g5⟩ := (h2.all hW).1
    exact eqf_B b.a b.n b.c xs s.books (by rw [h1, h5.1]) (by rw [h1]; exact sd_len hw.sb hw.ab) b2.a b2.n b2.c ys t.books (by rw [g1, g5.1]) W h4 g4 h5 g5)
  have HQC : Hid (∀ W, Below w.heap.size w W → Calls Tryz.prog 52 #[.slice c.a c.n c.c, .slice c2.a c2.n c2.c, .func (.func 49) #[] #[]] W fun e w' => e = .returned (.bool (zipA eqC s.cells t.cells)) ∧ Below W.heap.size W w') := Lib.hid (fun W hW => by
    obtain ⟨xs, h1, _, _, h4, h5⟩ := (h.all hW).2.1
    obtain ⟨ys, g1, _, _, g4, g5⟩ := (h2.all hW).2.1
    exact eqf_C c.a c.n c.c xs s.cells (by rw [h1, h5.1]) (by rw [h1]; exact sd_len hw.sc hw.ac) c2.a c2.n c2.c ys t.cells (by rw [g1, g5.1]) W h4 g4 h5 g5)
  have HQI : Hid (∀ W, Below w.heap.size w W → Calls Tryz.prog 53 #[.slice i.a i.n i.c, .slice i2.a i2.n i2.c] W fun e w' => e = .returned (.bool (zipA eqI s.ints t.ints)) ∧ Below W.heap.size W w') := Lib.hid (fun W hW => by
    have h3 := (h.all hW).2.2
    have g3 := (h2.all hW).2.2
    exact equal_in i.a i.n i.c s.ints h3.1 (by have := sd_len hw.si hw.ai; have := h3.1; omega) i2.a i2.n i2.c t.ints g3.1 W h3.2.2.2 g3.2.2.2)
  have HE : Hid (sameS s t = (((((zipA eqB s.books t.books && zipA eqC s.cells t.cells) && zipA eqI s.ints t.ints) && ((s.held.1 : Int) == (t.held.1 : Int) && (s.held.2 : Int) == (t.held.2 : Int))) && (s.inc == t.inc)) && (s.last == t.last))) := Lib.hid (by
    have hh : (s.held == t.held) = ((s.held.1 : Int) == (t.held.1 : Int) && (s.held.2 : Int) == (t.held.2 : Int)) := by
      rw [Bool.eq_iff_iff]
      simp only [Bool.and_eq_true, beq_iff_eq, Prod.ext_iff, Int.natCast_inj]
    unfold sameS
    rw [sameB_zip, sameCs_zip, sameI_zip, hh]
    generalize zipA eqB s.books t.books = a1
    generalize zipA eqC s.cells t.cells = a2
    generalize zipA eqI s.ints t.ints = a3
    generalize ((s.held.1 : Int) == (t.held.1 : Int) && (s.held.2 : Int) == (t.held.2 : Int)) = a4
    generalize (s.inc == t.inc) = a5
    generalize (s.last == t.last) = a6
    cases a1 <;> cases a2 <;> cases a3 <;> cases a4 <;> cases a5 <;> cases a6 <;> rfl)
  generalize sameS s t = r at HE ⊢
  clear h h2 hw
  generalize zipA eqB s.books t.books = a1 at HQB HE
  generalize zipA eqC s.cells t.cells = a2 at HQC HE
  generalize zipA eqI s.ints t.ints = a3 at HQI HE
  unfold stv
  generalize (s.held.1 : Int) = hs1 at HE ⊢
  generalize (s.held.2 : Int) = hs2 at HE ⊢
  generalize (t.held.1 : Int) = ht1 at HE ⊢
  generalize (t.held.2 : Int) = ht2 at HE ⊢
  generalize s.inc = ic1 at HE ⊢
  generalize t.inc = ic2 at HE ⊢
  generalize s.last = la1 at HE ⊢
  generalize t.last = la2 at HE ⊢
  go_enter Tryz.func17, Tryz.ntmps17
  go_upto_region 1 with (fail)
  have HB := Lib.hid (bal (bal (Below.refl w.heap.size w) (Nat.le_refl _) (.cells #[.slice b.a b.n b.c, .slice c.a c.n c.c, .slice i.a i.n i.c, .int .i64 hs1, .int .i64 hs2, .int .i64 ic1, .int .i64 la1] 28)) (Nat.le_refl _) (.cells #[.slice b2.a b2.n b2.c, .slice c2.a c2.n c2.c, .slice i2.a i2.n i2.c, .int .i64 ht1, .int .i64 ht2, .int .i64 ic2, .int .i64 la2] 28))
  have HX := Lib.hid (show ((w.alloc (.cells #[.slice b.a b.n b.c, .slice c.a c.n c.c, .slice i.a i.n i.c, .int .i64 hs1, .int .i64 hs2, .int .i64 ic1, .int .i64 la1] 28)).alloc (.cells #[.slice b2.a b2.n b2.c, .slice c2.a c2.n c2.c, .slice i2.a i2.n i2.c, .int .i64 ht1, .int .i64 ht2, .int .i64 ic2, .int .i64 la2] 28)).heap[w.heap.size]? = some (.cells #[.slice b.a b.n b.c, .slice c.a c.n c.c, .slice i.a i.n i.c, .int .i64 hs1, .int .i64 hs2, .int .i64 ic1, .int .i64 la1] 28) from hbe (hat _ _ _ rfl))
  have HY := Lib.hid (show ((w.alloc (.cells #[.slice b.a b.n b.c, .slice c.a c.n c.c, .slice i.a i.n i.c, .int .i64 hs1, .int .i64 hs2, .int .i64 ic1, .int .i64 la1] 28)).alloc (.cells #[.slice b2.a b2.n b2.c, .slice c2.a c2.n c2.c, .slice i2.a i2.n i2.c, .int .i64 ht1, .int .i64 ht2, .int .i64 ic2, .int .i64 la2] 28)).heap[w.heap.size + 1]? = some (.cells #[.slice b2.a b2.n b2.c, .slice c2.a c2.n c2.c, .slice i2.a i2.n i2.c, .int .i64 ht1, .int .i64 ht2, .int .i64 ic2, .int .i64 la2] 28) from hat _ _ _ (by simp))
  generalize (w.alloc (.cells #[.slice b.a b.n b.c, .slice c.a c.n c.c, .slice i.a i.n i.c, .int .i64 hs1, .int .i64 hs2, .int .i64 ic1, .int .i64 la1] 28)).alloc (.cells #[.slice b2.a b2.n b2.c, .slice c2.a c2.n c2.c, .slice i2.a i2.n i2.c, .int .i64 ht1, .int .i64 ht2, .int .i64 ic2, .int .i64 la2] 28) = w1 at HB HX HY ⊢
  have HQ : Hid (∀ W, Below w1.heap.size w1 W → (W.cell? ⟨w.heap.size, 0, none⟩ = some (.slice b.a b.n b.c) ∧ W.cell? ⟨w.heap.size, 1, none⟩ = some (.slice c.a c.n c.c) ∧ W.cell? ⟨w.heap.size, 2, none⟩ = some (.slice i.a i.n i.c) ∧ W.cell? ⟨w.heap.size, 3, none⟩ = some (.int .i64 hs1) ∧ W.cell? ⟨w.heap.size, 4, none⟩ = some (.int .i64 hs2) ∧ W.cell? ⟨w.heap.size, 5, none⟩ = some (.int .i64 ic1) ∧ W.cell? ⟨w.heap.size, 6, none⟩ = some (.int .i64 la1)) ∧ (W.cell? ⟨w.heap.size + 1, 0, none⟩ = some (.slice b2.a b2.n b2.c) ∧ W.cell? ⟨w.heap.size + 1, 1, none⟩ = some (.slice c2.a c2.n c2.c) ∧ W.cell? ⟨w.heap.size + 1, 2, none⟩ = some (.slice i2.a i2.n i2.c) ∧ W.cell? ⟨w.heap.size + 1, 3, none⟩ = some (.int .i64 ht1) ∧ W.cell? ⟨w.heap.size + 1, 4, none⟩ = some (.int .i64 ht2) ∧ W.cell? ⟨w.heap.size + 1, 5, none⟩ = some (.int .i64 ic2) ∧ W.cell? ⟨w.heap.size + 1, 6, none⟩ = some (.int .i64 la2))) := Lib.hid (fun W hW => by
    have h1 := (hW.block _ (Array.getElem?_eq_some_iff.1 HX.out).1).trans HX.out
    have h2 := (hW.block _ (Array.getElem?_eq_some_iff.1 HY.out).1).trans HY.out
    refine ⟨⟨?_, ?_, ?_, ?_, ?_, ?_, ?_⟩, ⟨?_, ?_, ?_, ?_, ?_, ?_, ?_⟩⟩ <;> first | (rw [cell_of_row _ _ _ _ _ _ h1]; rfl) | (rw [cell_of_row _ _ _ _ _ _ h2]; rfl))
  clear HX HY
  obtain ⟨⟨x0, x1, x2, x3, x4, x5, x6⟩, y0, y1, y2, y3, y4, y5, y6⟩ := HQ.out w1 (Below.refl _ _)
  go_wp2_with fail
  refine (HQB.out w1 HB.out).mono ?_
  rintro e w2 ⟨rfl, hb2⟩
  clear x0 x1 x2 x3 x4 x5 x6 y0 y1 y2 y3 y4 y5 y6 HQB
  have HC := Lib.hid hb2; clear hb2
  cases a1 with
  | false =>
    have HF := Lib.hid (show r = false from by rw [HE.out]; rfl); clear HE
    go_wp2
    go_ret
    exact ⟨ret_bool HF.out.symm, HB.out.trans (HC.out.mono HB.out.size)⟩
  | true =>
  obtain ⟨⟨x0, x1, x2, x3, x4, x5, x6⟩, y0, y1, y2, y3, y4, y5, y6⟩ := HQ.out w2 HC.out
  go_wp2_with fail
  refine (HQC.out w2 (HB.out.trans (HC.out.mono HB.out.size))).mono ?_
  rintro e w3 ⟨rfl, hb3⟩
  clear x0 x1 x2 x3 x4 x5 x6 y0 y1 y2 y3 y4 y5 y6 HQC
  have HC := Lib.hid (HC.out.trans (hb3.mono HC.out.size)); clear hb3
  cases a2 with
  | false =>
    have HF := Lib.hid (show r = false from by rw [HE.out]; rfl); clear HE
    go_wp2
    go_ret
    exact ⟨ret_bool HF.out.symm, HB.out.trans (HC.out.mono HB.out.size)⟩
  | true =>
  obtain ⟨⟨x0, x1, x2, x3, x4, x5, x6⟩, y0, y1, y2, y3, y4, y5, y6⟩ := HQ.out w3 HC.out
  go_wp2_with fail
  refine (HQI.out w3 (HB.out.trans (HC.out.mono HB.out.size))).mono ?_
  rintro e w4 ⟨rfl, hb4⟩
  clear x0 x1 x2 x3 x4 x5 x6 y0 y1 y2 y3 y4 y5 y6 HQI
  have HC := Lib.hid (HC.out.trans (hb4.mono HC.out.size)); clear hb4
  have HBW := Lib.hid (HB.out.trans (HC.out.mono HB.out.size))
  obtain ⟨⟨x0, x1, x2, x3, x4, x5, x6⟩, y0, y1, y2, y3, y4, y5, y6⟩ := HQ.out w4 HC.out
  clear HQ HC HB
  cases a3 with
  | false =>
    have HF := Lib.hid (show r = false from by rw [HE.out]; rfl); clear HE
    go_wp2
    go_ret
    exact ⟨ret_bool HF.out.symm, HBW.out⟩
  | true =>
  cases hq : (hs1 == ht1 && hs2 == ht2) with
  | false =>
    have HF := Lib.hid (show r = false from by rw [HE.out, hq]; rfl); clear HE
    go_wp2
    go_ret
    exact ⟨ret_bool HF.out.symm, HBW.out⟩
  | true =>
  cases hi : (ic1 == ic2) with
  | false =>
    have HF := Lib.hid (show r = false from by rw [HE.out, hq, hi]; rfl); clear HE
    go_wp2
    go_ret
    exact ⟨ret_bool HF.out.symm, HBW.out⟩
  | true =>
  have HF := Lib.hid (show r = (la1 == la2) from by rw [HE.out, hq, hi]; rfl); clear HE
  cases hla : (la1 == la2) with
  | false =>
    rw [hla] at HF
    go_wp2
    go_ret
    exact ⟨ret_bool HF.out.symm, HBW.out⟩
  | true =>
    rw [hla] at HF
    go_wp2
    go_ret
    exact ⟨ret_bool HF.out.symm, HBW.out⟩
end Go.Proofs.YtfblnomkafimhaaGreat.Fow
