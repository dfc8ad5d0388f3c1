/- Contracts and words on which the claims of this seat stand, part 43: FoA4 FoA5 FoA6 FoB FoBo. -/
import Derived.Test.YtfblnomkafimhaaGreatG42
set_option linter.unusedSimpArgs false
set_option linter.unusedVariables false
namespace Go.Proofs.YtfblnomkafimhaaGreat.Fow
set_option maxRecDepth 20000
open Go.RowKit
open Chg Vw Cl Bk Lg Fo Clw Bkw
open Lgw (rvv Rx)
open Chgw (hat hbe vw ret_bool ret_i64 Vx)
open Rg (bal)
set_option maxHeartbeats 8000000 in
theorem add4_c (g : Nat) (s : St) (b c i : Sl) (xs ys : List ((Nat × Nat) × Sl)) (base : Nat) (w : World) (hx : Sx w g s b c i) (ho : Ors w base s b c i xs ys) (hw : WfS s) (r : R) (hr : OkR r) (hk : r.kind = 4) (hb : base ≤ w.heap.size) :
    Calls Tryz.prog 54 #[.pointer (some ⟨g, 0, none⟩), rvv r] w (RetAdd w base g b c i (applyS s r)) := by
  have hsf := Lgw.store_flt
  have k1 : (r.kind == 1) = false := by rw [beq_eq_false_iff_ne]; omega
  have k2 : (r.kind == 2) = false := by rw [beq_eq_false_iff_ne]; omega
  have k3 : (r.kind == 3) = false := by rw [beq_eq_false_iff_ne]; omega
  have k4 : (r.kind == 4) = true := by rw [beq_iff_eq]; omega
  have k5 : (r.kind == 5) = false := by rw [beq_eq_false_iff_ne]; omega
  have k6 : (r.kind == 6) = false := by rw [beq_eq_false_iff_ne]; omega
  have HW := Lib.hid hw; have HRR := Lib.hid (fun W => right_r hr W)
  have HOV := Lib.hid (okr_view hr).1; have HV64 := Lib.hid (okr_view hr).2.1; have HCV := Lib.hid (okr_view hr).2.2.1; have HOK := Lib.hid hr; have HKI := Lib.hid hk
  
  unfold rvv
  clear hw hr hk
  go_enter Tryz.func54, Tryz.ntmps54
  go_upto_region 1 with (fail)
  have HR := Lib.hid (show Rx (w.alloc (.cells #[.int .i64 r.kind, .int .i64 r.va, .int .i64 r.vd, .int .i64 r.cn, .int .i64 r.ca, .int .i64 r.cd, .int .i64 r.e.key, .int .i64 r.e.num, .int .i64 r.e.node, .float .f64 r.e.val, .int .i64 r.n] 60)) w.heap.size r from hat _ _ _ rfl)
  have hbx := bal (Below.refl w.heap.size w) (Nat.le_refl _) (.cells #[.int .i64 r.kind, .int .i64 r.va, .int .i64 r.vd, .int .i64 r.cn, .int .i64 r.ca, .int .i64 r.cd, .int .i64 r.e.key, .int .i64 r.e.num, .int .i64 r.e.node, .float .f64 r.e.val, .int .i64 r.n] 60)
  have HX := Lib.hid (hx.all hbx); have HO := Lib.hid (ho.below hbx); have HF := Lib.hid (Fr.below (P := Pk g b c i) hbx)
  have HBS := Lib.hid (Nat.le_trans hb hbx.size)
  have HGR := Lib.hid hx.lt
  clear hx ho hbx hb
  have hgne : w.heap.size ≠ g := Nat.ne_of_gt HGR.out
  clear HGR
  generalize w.alloc (.cells #[.int .i64 r.kind, .int .i64 r.va, .int .i64 r.vd, .int .i64 r.cn, .int .i64 r.ca, .int .i64 r.cd, .int .i64 r.e.key, .int .i64 r.e.num, .int .i64 r.e.node, .float .f64 r.e.val, .int .i64 r.n] 60) = w1 at HR HX HO HF HBS ⊢
  generalize w.heap.size = gr at HR hgne ⊢
  obtain ⟨y0, y1, y2, y3, y4, y5, y6, y7, y8, y9, y10⟩ := HR.out.cs
  rw [HOV.out.1] at y1
  rw [HOV.out.2] at y2
  go_upto_region 2 with (refine (HRR.out w1).mono ?_; rintro e w2 ⟨rfl, hb2⟩)
  have HR := Lib.hid (HR.out.all hb2); have HX := Lib.hid (HX.out.all hb2); have HO := Lib.hid (HO.out.below hb2); have HF := Lib.hid (HF.out.trans (Fr.below hb2)); have HBS := Lib.hid (Nat.le_trans HBS.out hb2.size)
  clear hb2 HRR y0 y1 y2 y3 y4 y5 y6 y7 y8 y9 y10
  have y0 : w2.cell? ⟨gr, 0, none⟩ = some (.int .i64 r.kind) := HR.out.cs.1
  go_upto_region 13 with (fail)
  clear y0
  have HQR : Hid (∀ W, Rx W gr r → (W.cell? ⟨gr, 1, none⟩ = some (.int .i64 ((rvw r).1 : Int)) ∧ W.cell? ⟨gr, 2, none⟩ = some (.int .i64 ((rvw r).2 : Int))) ∧ (W.cell? ⟨gr, 3, none⟩ = some (.int .i64 r.cn) ∧ W.cell? ⟨gr, 4, none⟩ = some (.int .i64 r.ca) ∧ W.cell? ⟨gr, 5, none⟩ = some (.int .i64 r.cd)) ∧ (W.cell? ⟨gr, 6, none⟩ = some (.int .i64 r.e.key) ∧ W.cell? ⟨gr, 7, none⟩ = some (.int .i64 r.e.num) ∧ W.cell? ⟨gr, 8, none⟩ = some (.int .i64 r.e.node) ∧ W.cell? ⟨gr, 9, none⟩ = some (.float .f64 r.e.val)) ∧ W.cell? ⟨gr, 10, none⟩ = some (.int .i64 r.n)) := Lib.hid (fun W h => by
    obtain ⟨y0, y1, y2, y3, y4, y5, y6, y7, y8, y9, y10⟩ := h.cs
    rw [HOV.out.1] at y1
    rw [HOV.out.2] at y2
    exact ⟨⟨y1, y2⟩, ⟨y3, y4, y5⟩, ⟨y6, y7, y8, y9⟩, y10⟩)
  have HQX : Hid (∀ W, Sx W g s b c i → (W.cell? ⟨g, 0, none⟩ = some (.slice b.a b.n b.c) ∧ W.cell? ⟨g, 1, none⟩ = some (.slice c.a c.n c.c) ∧ W.cell? ⟨g, 2, none⟩ = some (.slice i.a i.n i.c) ∧ W.cell? ⟨g, 3, none⟩ = some (.int .i64 (s.held.1 : Int)) ∧ W.cell? ⟨g, 4, none⟩ = some (.int .i64 (s.held.2 : Int)) ∧ W.cell? ⟨g, 5, none⟩ = some (.int .i64 s.inc) ∧ W.cell? ⟨g, 6, none⟩ = some (.int .i64 s.last)) ∧ (∀ j, W.frozen? ⟨g, j, none⟩ = false)) := Lib.hid (fun W h => ⟨h.cs, h.frozen⟩)
  have HAP : Hid (applyS s r = { s with last := if s.last < r.n then r.n else s.last }) := Lib.hid (by
    unfold applyS
    rw [if_neg (by have := HKI.out; omega), if_neg (by have := HKI.out; omega), if_neg (by have := HKI.out; omega), if_pos HKI.out]
    split <;> rfl)
  have hmax : ∀ ts t W, (Builtin.max_ ts t #[.int .i64 s.last, .int .i64 r.n]).run Tryz.prog W = .ok (.int .i64 (if s.last < r.n then r.n else s.last)) W := by
    intro ts t W
    rw [run_max_int2]
  generalize (if s.last < r.n then r.n else s.last) = nn at HAP hmax
  refine wp_region_held_drew (S := fun W' => Rx W' gr r) (by kernel_rfl) HR.out (fun hHeld => ?_)
  have HC : Hid (Below w2.heap.size w2 w2.drew) := Lib.hid (Below.refl _ _).drew
  have HS : Hid (Rx w2.drew gr r) := Lib.hid hHeld
  have HX : Hid (Sx w2.drew g s b c i) := Lib.hid HX.out
  clear hHeld
  generalize w2.drew = w5 at HC HS HX ⊢
  refine take_in (i := 0) (oi := ⟨_, _, _, _, _, _⟩) (v := ?_) rfl (by kernel_rfl) (by kernel_rfl) (by kernel_rfl) (fun _ _ _ h => h) (by rfl) ?_ HS.out ?_
  rotate_left
  · intro W hW; obtain ⟨⟨y1, y2⟩, ⟨y3, y4, y5⟩, ⟨y6, y7, y8, y9⟩, y10⟩ := HQR.out W hW; go_simp; with_reducible rfl
  simp only [Act.put, List.setIfInBounds_toArray, List.set_cons_zero, List.set_cons_succ]
  refine take_in (i := 1) (oi := ⟨_, _, _, _, _, _⟩) (v := ?_) rfl (by kernel_rfl) (by kernel_rfl) (by kernel_rfl) (fun _ _ _ h => h) (by rfl) ?_ HS.out ?_
  rotate_left
  · intro W hW; obtain ⟨⟨y1, y2⟩, ⟨y3, y4, y5⟩, ⟨y6, y7, y8, y9⟩, y10⟩ := HQR.out W hW; go_simp; with_reducible rfl
  simp only [Act.put, List.setIfInBounds_toArray, List.set_cons_zero, List.set_cons_succ]
  refine take_in (i := 2) (oi := ⟨_, _, _, _, _, _⟩) (v := ?_) rfl (by kernel_rfl) (by kernel_rfl) (by kernel_rfl) (fun _ _ _ h => h) (by rfl) ?_ HS.out ?_
  rotate_left
  · intro W hW; obtain ⟨⟨y1, y2⟩, ⟨y3, y4, y5⟩, ⟨y6, y7, y8, y9⟩, y10⟩ := HQR.out W hW; go_simp; with_reducible rfl
  simp only [Act.put, List.setIfInBounds_toArray, List.set_cons_zero, List.set_cons_succ]
  refine take_in (i := 3) (oi := ⟨_, _, _, _, _, _⟩) (v := ?_) rfl (by kernel_rfl) (by kernel_rfl) (by kernel_rfl) (fun _ _ _ h => h) (by rfl) ?_ HS.out ?_
  rotate_left
  · intro W hW; obtain ⟨⟨y1, y2⟩, ⟨y3, y4, y5⟩, ⟨y6, y7, y8, y9⟩, y10⟩ := HQR.out W hW; go_simp; with_reducible rfl
  simp only [Act.put, List.setIfInBounds_toArray, List.set_cons_zero, List.set_cons_succ]
  refine take_in (i := 5) (oi := ⟨_, _, _, _, _, _⟩) (v := ?_) rfl (by kernel_rfl) (by kernel_rfl) (by kernel_rfl) (fun _ _ _ h => h) (by rfl) ?_ HS.out ?_
  rotate_left
  · intro W hW; obtain ⟨⟨y1, y2⟩, ⟨y3, y4, y5⟩, ⟨y6, y7, y8, y9⟩, y10⟩ := HQR.out W hW; go_simp; with_reducible rfl
  simp only [Act.put, List.setIfInBounds_toArray, List.set_cons_zero, List.set_cons_succ]
  refine take_in (i := 6) (oi := ⟨_, _, _, _, _, _⟩) (v := ?_) rfl (by kernel_rfl) (by kernel_rfl) (by kernel_rfl) (fun _ _ _ h => h) (by rfl) ?_ HS.out ?_
  rotate_left
  · intro W hW; obtain ⟨⟨y1, y2⟩, ⟨y3, y4, y5⟩, ⟨y6, y7, y8, y9⟩, y10⟩ := HQR.out W hW; go_simp; with_reducible rfl
  simp only [Act.put, List.setIfInBounds_toArray, List.set_cons_zero, List.set_cons_succ]
  refine wpAnyH_ready (rs := [4]) (by kernel_rfl) (by simp) ?_
  refine AllReadyH.cons (o := ⟨_, _, _, _, _, _⟩) rfl (fun K hK => ?_) AllReadyH.nil
  obtain ⟨⟨z0, z1, z2, z3, z4, z5, z6⟩, hfz⟩ := HQX.out _ HX.out
  go_simp
  clear z0 z1 z2 z3 z4 z5 z6 hfz
  refine hK.out _ _ HS.out (fun _ => ?_)
  clear hK K
  refine wpAnyH_ready (rs := [7]) (by kernel_rfl) (by simp) ?_
  refine AllReadyH.cons (o := ⟨_, _, _, _, _, _⟩) rfl (fun K hK => ?_) AllReadyH.nil
  go_simp
  refine hK.out _ _ HS.out (fun _ => ?_)
  clear hK K
  refine take_in (i := 8) (oi := ⟨_, _, _, _, _, _⟩) (v := ?_) rfl (by kernel_rfl) (by kernel_rfl) (by kernel_rfl) (fun _ _ _ h => h) (by rfl) ?_ HS.out ?_
  rotate_left
  · intro W hW; go_simp; with_reducible rfl
  simp only [Act.put, List.setIfInBounds_toArray, List.set_cons_zero, List.set_cons_succ]
  refine take_in (i := 9) (oi := ⟨_, _, _, _, _, _⟩) (v := ?_) rfl (by kernel_rfl) (by kernel_rfl) (by kernel_rfl) (fun _ _ _ h => h) (by rfl) ?_ HS.out ?_
  rotate_left
  · intro W hW; go_simp; with_reducible rfl
  simp only [Act.put, List.setIfInBounds_toArray, List.set_cons_zero, List.set_cons_succ]
  refine wpAnyH_ready (rs := [10]) (by kernel_rfl) (by simp) ?_
  refine AllReadyH.cons (o := ⟨_, _, _, _, _, _⟩) rfl (fun K hK => ?_) AllReadyH.nil
  obtain ⟨⟨z0, z1, z2, z3, z4, z5, z6⟩, hfz⟩ := HQX.out _ HX.out
  have hf0 := hfz 6
  clear hfz
  go_simp
  refine hK.out _ _ (HS.out.other hgne _) (fun _ => ?_)
  clear hK K z0 z1 z2 z3 z4 z5 z6 hf0
  refine wpAnyH_done (by kernel_rfl) ?_ _
  have HO6 := Lib.hid ((HO.out.below HC.out).put1 HX.out 6 (.int .i64 nn)); have HF6 := Lib.hid ((HF.out.trans (Fr.below HC.out)).put (fun k hk => hk.1) 6 (.int .i64 nn))
  have HXN := Lib.hid (show Sx (w5.setCell ⟨g, 6, none⟩ (.int .i64 nn)) g { s with last := nn } b c i from HX.out.put1 6 (.int .i64 nn) _ _ _ _ rfl)
  generalize w5.setCell ⟨g, 6, none⟩ (.int .i64 nn) = w8 at HXN HO6 HF6 ⊢
  go_wp2
  (try simp only [Exit.inBlock, Exit.then]); refine bodyPost_ret (results_none rfl _ _ _) rfl ?_
  exact ⟨rfl, _, _, _, _, _, by rw [HAP.out]; exact HXN.out, by rw [HAP.out]; exact HO6.out, HF6.out⟩
end Go.Proofs.YtfblnomkafimhaaGreat.Fow

namespace Go.Proofs.YtfblnomkafimhaaGreat.Fow
set_option maxRecDepth 20000
open Go.RowKit
open Chg Vw Cl Bk Lg Fo Clw Bkw
open Lgw (rvv Rx)
open Chgw (hat hbe vw ret_bool ret_i64 Vx)
open Rg (bal)
set_option maxHeartbeats 8000000 in
theorem add5_c (g : Nat) (s : St) (b c i : Sl) (xs ys : List ((Nat × Nat) × Sl)) (base : Nat) (w : World) (hx : Sx w g s b c i) (ho : Ors w base s b c i xs ys) (hw : WfS s) (r : R) (hr : OkR r) (hk : r.kind = 5) (hb : base ≤ w.heap.size) :
    Calls Tryz.prog 54 #[.pointer (some ⟨g, 0, none⟩), rvv r] w (RetAdd w base g b c i (applyS s r)) := by
  have hsf := Lgw.store_flt
  have k1 : (r.kind == 1) = false := by rw [beq_eq_false_iff_ne]; omega
  have k2 : (r.kind == 2) = false := by rw [beq_eq_false_iff_ne]; omega
  have k3 : (r.kind == 3) = false := by rw [beq_eq_false_iff_ne]; omega
  have k4 : (r.kind == 4) = false := by rw [beq_eq_false_iff_ne]; omega
  have k5 : (r.kind == 5) = true := by rw [beq_iff_eq]; omega
  have k6 : (r.kind == 6) = false := by rw [beq_eq_false_iff_ne]; omega
  have HW := Lib.hid hw; have HRR := Lib.hid (fun W => right_r hr W)
  have HOV := Lib.hid (okr_view hr).1; have HV64 := Lib.hid (okr_view hr).2.1; have HCV := Lib.hid (okr_view hr).2.2.1; have HOK := Lib.hid hr; have HKI := Lib.hid hk
  
  unfold rvv
  clear hw hr hk
  go_enter Tryz.func54, Tryz.ntmps54
  go_upto_region 1 with (fail)
  have HR := Lib.hid (show Rx (w.alloc (.cells #[.int .i64 r.kind, .int .i64 r.va, .int .i64 r.vd, .int .i64 r.cn, .int .i64 r.ca, .int .i64 r.cd, .int .i64 r.e.key, .int .i64 r.e.num, .int .i64 r.e.node, .float .f64 r.e.val, .int .i64 r.n] 60)) w.heap.size r from hat _ _ _ rfl)
  have hbx := bal (Below.refl w.heap.size w) (Nat.le_refl _) (.cells #[.int .i64 r.kind, .int .i64 r.va, .int .i64 r.vd, .int .i64 r.cn, .int .i64 r.ca, .int .i64 r.cd, .int .i64 r.e.key, .int .i64 r.e.num, .int .i64 r.e.node, .float .f64 r.e.val, .int .i64 r.n] 60)
  have HX := Lib.hid (hx.all hbx); have HO := Lib.hid (ho.below hbx); have HF := Lib.hid (Fr.below (P := Pk g b c i) hbx)
  have HBS := Lib.hid (Nat.le_trans hb hbx.size)
  have HGR := Lib.hid hx.lt
  clear hx ho hbx hb
  have hgne : w.heap.size ≠ g := Nat.ne_of_gt HGR.out
  clear HGR
  generalize w.alloc (.cells #[.int .i64 r.kind, .int .i64 r.va, .int .i64 r.vd, .int .i64 r.cn, .int .i64 r.ca, .int .i64 r.cd, .int .i64 r.e.key, .int .i64 r.e.num, .int .i64 r.e.node, .float .f64 r.e.val, .int .i64 r.n] 60) = w1 at HR HX HO HF HBS ⊢
  generalize w.heap.size = gr at HR hgne ⊢
  obtain ⟨y0, y1, y2, y3, y4, y5, y6, y7, y8, y9, y10⟩ := HR.out.cs
  rw [HOV.out.1] at y1
  rw [HOV.out.2] at y2
  go_upto_region 2 with (refine (HRR.out w1).mono ?_; rintro e w2 ⟨rfl, hb2⟩)
  have HR := Lib.hid (HR.out.all hb2); have HX := Lib.hid (HX.out.all hb2); have HO := Lib.hid (HO.out.below hb2); have HF := Lib.hid (HF.out.trans (Fr.below hb2)); have HBS := Lib.hid (Nat.le_trans HBS.out hb2.size)
  clear hb2 HRR y0 y1 y2 y3 y4 y5 y6 y7 y8 y9 y10
  have y0 : w2.cell? ⟨gr, 0, none⟩ = some (.int .i64 r.kind) := HR.out.cs.1
  go_upto_region 15 with (fail)
  clear y0
  have HQR : Hid (∀ W, Rx W gr r → (W.cell? ⟨gr, 1, none⟩ = some (.int .i64 ((rvw r).1 : Int)) ∧ W.cell? ⟨gr, 2, none⟩ = some (.int .i64 ((rvw r).2 : Int))) ∧ (W.cell? ⟨gr, 3, none⟩ = some (.int .i64 r.cn) ∧ W.cell? ⟨gr, 4, none⟩ = some (.int .i64 r.ca) ∧ W.cell? ⟨gr, 5, none⟩ = some (.int .i64 r.cd)) ∧ (W.cell? ⟨gr, 6, none⟩ = some (.int .i64 r.e.key) ∧ W.cell? ⟨gr, 7, none⟩ = some (.int .i64 r.e.num) ∧ W.cell? ⟨gr, 8, none⟩ = some (.int .i64 r.e.node) ∧ W.cell? ⟨gr, 9, none⟩ = some (.float .f64 r.e.val)) ∧ W.cell? ⟨gr, 10, none⟩ = some (.int .i64 r.n)) := Lib.hid (fun W h => by
    obtain ⟨y0, y1, y2, y3, y4, y5, y6, y7, y8, y9, y10⟩ := h.cs
    rw [HOV.out.1] at y1
    rw [HOV.out.2] at y2
    exact ⟨⟨y1, y2⟩, ⟨y3, y4, y5⟩, ⟨y6, y7, y8, y9⟩, y10⟩)
  have HQX : Hid (∀ W, Sx W g s b c i → (W.cell? ⟨g, 0, none⟩ = some (.slice b.a b.n b.c) ∧ W.cell? ⟨g, 1, none⟩ = some (.slice c.a c.n c.c) ∧ W.cell? ⟨g, 2, none⟩ = some (.slice i.a i.n i.c) ∧ W.cell? ⟨g, 3, none⟩ = some (.int .i64 (s.held.1 : Int)) ∧ W.cell? ⟨g, 4, none⟩ = some (.int .i64 (s.held.2 : Int)) ∧ W.cell? ⟨g, 5, none⟩ = some (.int .i64 s.inc) ∧ W.cell? ⟨g, 6, none⟩ = some (.int .i64 s.last)) ∧ (∀ j, W.frozen? ⟨g, j, none⟩ = false)) := Lib.hid (fun W h => ⟨h.cs, h.frozen⟩)
  have HIN := Lib.hid (fun W h => intent_c s b c i W h HW.out (rvw r) HV64.out)
  generalize hx1 : (((intS s (rvw r)).getD (0, 0)).1 : Int) = ia at HIN
  generalize hx2 : (((intS s (rvw r)).getD (0, 0)).2 : Int) = ib at HIN
  clear hx1 hx2
  have HAP := Lib.hid (apply5 HW.out HKI.out)
  have HSM : Hid ((intS s (rvw r)).isSome = true → applyS s r = s) := Lib.hid (fun h => by
    obtain ⟨a, ha⟩ := Option.isSome_iff_exists.1 h
    rw [HAP.out, ha, Option.getD_some, putP_same HW.out.si HW.out.ai ha])
  have HNW : Hid ((intS s (rvw r)).isSome = false → applyS s r = { s with ints := putP s.ints (rvw r, rch r) }) := Lib.hid (fun h => by
    rw [HAP.out]
    cases ho : intS s (rvw r) with
    | none => rfl
    | some a => rw [ho] at h; cases h)
  clear HAP
  generalize (intS s (rvw r)).isSome = had at HIN HSM HNW
  unfold vw at HIN
  go_cut [7] (fun s7 wq => s7 = .bool had ∧ Sx wq g s b c i ∧ Rx wq gr r ∧ Below w2.heap.size w2 wq)
  case first =>
    refine wp_region_held_drew (S := fun W' => Sx W' g s b c i ∧ Rx W' gr r) (by kernel_rfl) ⟨HX.out, HR.out⟩ (fun hHeld => ?_)
    have HC : Hid (Below w2.heap.size w2 w2.drew) := Lib.hid (Below.refl _ _).drew
    have HS : Hid (Sx w2.drew g s b c i ∧ Rx w2.drew gr r) := Lib.hid hHeld
    clear hHeld
    have HBT := Lib.hid (show g < w2.heap.size ∧ gr < w2.heap.size from ⟨HX.out.lt, HR.out.lt⟩)
    generalize w2.drew = w5 at HC HS ⊢
    refine take_in (i := 0) (oi := ⟨_, _, _, _, _, _⟩) (v := ?_) rfl (by kernel_rfl) (by kernel_rfl) (by kernel_rfl) (fun _ _ _ h => h) (by rfl) ?_ HS.out ?_
    rotate_left
    · intro W hW; obtain ⟨⟨y1, y2⟩, ⟨y3, y4, y5⟩, ⟨y6, y7, y8, y9⟩, y10⟩ := HQR.out W hW.2; obtain ⟨⟨z0, z1, z2, z3, z4, z5, z6⟩, hfz⟩ := HQX.out W hW.1; go_simp; with_reducible rfl
    simp only [Act.put, List.setIfInBounds_toArray, List.set_cons_zero, List.set_cons_succ]
    refine take_in (i := 1) (oi := ⟨_, _, _, _, _, _⟩) (v := ?_) rfl (by kernel_rfl) (by kernel_rfl) (by kernel_rfl) (fun _ _ _ h => h) (by rfl) ?_ HS.out ?_
    rotate_left
    · intro W hW; obtain ⟨⟨y1, y2⟩, ⟨y3, y4, y5⟩, ⟨y6, y7, y8, y9⟩, y10⟩ := HQR.out W hW.2; obtain ⟨⟨z0, z1, z2, z3, z4, z5, z6⟩, hfz⟩ := HQX.out W hW.1; go_simp; with_reducible rfl
    simp only [Act.put, List.setIfInBounds_toArray, List.set_cons_zero, List.set_cons_succ]
    refine take_in (i := 2) (oi := ⟨_, _, _, _, _, _⟩) (v := ?_) rfl (by kernel_rfl) (by kernel_rfl) (by kernel_rfl) (fun _ _ _ h => h) (by rfl) ?_ HS.out ?_
    rotate_left
    · intro W hW; obtain ⟨⟨y1, y2⟩, ⟨y3, y4, y5⟩, ⟨y6, y7, y8, y9⟩, y10⟩ := HQR.out W hW.2; obtain ⟨⟨z0, z1, z2, z3, z4, z5, z6⟩, hfz⟩ := HQX.out W hW.1; go_simp; with_reducible rfl
    simp only [Act.put, List.setIfInBounds_toArray, List.set_cons_zero, List.set_cons_succ]
    refine take_in (i := 3) (oi := ⟨_, _, _, _, _, _⟩) (v := ?_) rfl (by kernel_rfl) (by kernel_rfl) (by kernel_rfl) (fun _ _ _ h => h) (by rfl) ?_ HS.out ?_
    rotate_left
    · intro W hW; obtain ⟨⟨y1, y2⟩, ⟨y3, y4, y5⟩, ⟨y6, y7, y8, y9⟩, y10⟩ := HQR.out W hW.2; obtain ⟨⟨z0, z1, z2, z3, z4, z5, z6⟩, hfz⟩ := HQX.out W hW.1; go_simp; with_reducible rfl
    simp only [Act.put, List.setIfInBounds_toArray, List.set_cons_zero, List.set_cons_succ]
    refine take_in (i := 4) (oi := ⟨_, _, _, _, _, _⟩) (v := ?_) rfl (by kernel_rfl) (by kernel_rfl) (by kernel_rfl) (fun _ _ _ h => h) (by rfl) ?_ HS.out ?_
    rotate_left
    · intro W hW; obtain ⟨⟨y1, y2⟩, ⟨y3, y4, y5⟩, ⟨y6, y7, y8, y9⟩, y10⟩ := HQR.out W hW.2; obtain ⟨⟨z0, z1, z2, z3, z4, z5, z6⟩, hfz⟩ := HQX.out W hW.1; go_simp; with_reducible rfl
    simp only [Act.put, List.setIfInBounds_toArray, List.set_cons_zero, List.set_cons_succ]
    refine wpAnyH_ready (rs := [5, 9]) (by kernel_rfl) (by simp) ?_
    refine AllReadyH.cons (o := ⟨_, _, _, _, _, _⟩) rfl (fun K hK => ?_) (AllReadyH.cons (o := ⟨_, _, _, _, _, _⟩) rfl (fun K hK => ?_) AllReadyH.nil)
    · go_simp
      refine (HIN.out w5 ((HO.out.below HC.out).stoW HW.out)).mono ?_
      rintro e x1 ⟨rfl, hb_⟩
      have HS := Lib.hid (show Sx x1 g s b c i ∧ Rx x1 gr r from ⟨HS.out.1.all hb_, HS.out.2.all hb_⟩)
      have HC := Lib.hid (HC.out.trans (hb_.mono HC.out.size)); clear hb_
      refine hK.out _ _ HS.out (fun _ => ?_)
      clear hK K
      refine take_in (i := 6) (oi := ⟨_, _, _, _, _, _⟩) (v := ?_) rfl (by kernel_rfl) (by kernel_rfl) (by kernel_rfl) (fun _ _ _ h => h) (by rfl) ?_ HS.out ?_
      rotate_left
      · intro W hW; go_simp; with_reducible rfl
      simp only [Act.put, List.setIfInBounds_toArray, List.set_cons_zero, List.set_cons_succ]
      refine take_in (i := 7) (oi := ⟨_, _, _, _, _, _⟩) (v := ?_) rfl (by kernel_rfl) (by kernel_rfl) (by kernel_rfl) (fun _ _ _ h => h) (by rfl) ?_ HS.out ?_
      rotate_left
      · intro W hW; go_simp; with_reducible rfl
      simp only [Act.put, List.setIfInBounds_toArray, List.set_cons_zero, List.set_cons_succ]
      refine take_in (i := 8) (oi := ⟨_, _, _, _, _, _⟩) (v := ?_) rfl (by kernel_rfl) (by kernel_rfl) (by kernel_rfl) (fun _ _ _ h => h) (by rfl) ?_ HS.out ?_
      rotate_left
      · intro W hW; go_simp; with_reducible rfl
      simp only [Act.put, List.setIfInBounds_toArray, List.set_cons_zero, List.set_cons_succ]
      refine wpAnyH_ready (rs := [9]) (by kernel_rfl) (by simp) ?_
      refine AllReadyH.cons (o := ⟨_, _, _, _, _, _⟩) rfl (fun K hK => ?_) AllReadyH.nil
      go_simp
      have hb_ := bal (Below.refl x1.heap.size x1) (Nat.le_refl _) (.cells #[.int .i64 0, .int .i64 0] 26)
      have HV := Lib.hid (show (x1.alloc (.cells #[.int .i64 0, .int .i64 0] 26)).heap[x1.heap.size]? = some (.cells #[.int .i64 0, .int .i64 0] 26) from hat _ _ _ rfl)
      have HVN := Lib.hid (show w2.heap.size ≤ x1.heap.size from HC.out.size)
      have HS := Lib.hid (show Sx (x1.alloc (.cells #[.int .i64 0, .int .i64 0] 26)) g s b c i ∧ Rx (x1.alloc (.cells #[.int .i64 0, .int .i64 0] 26)) gr r from ⟨HS.out.1.all hb_, HS.out.2.all hb_⟩)
      have HC := Lib.hid (HC.out.trans (hb_.mono HC.out.size)); clear hb_
      refine hK.out _ _ HS.out (fun _ => ?_)
      clear hK K
      generalize x1.alloc (.cells #[.int .i64 0, .int .i64 0] 26) = x2 at HV HS HC ⊢
      generalize x1.heap.size = gz at HV HVN ⊢
      refine wpAnyH_ready (rs := [10]) (by kernel_rfl) (by simp) ?_
      refine AllReadyH.cons (o := ⟨_, _, _, _, _, _⟩) rfl (fun K hK => ?_) AllReadyH.nil
      have z0 := (cells2 HV.out).1; have z1 := (cells2 HV.out).2; have f0 := frozen_of_row x2 gz 0 _ _ HV.out; have f1 := frozen_of_row x2 gz 1 _ _ HV.out
      go_simp
      have hn1 : g ≠ gz := by have := HVN.out; have := HBT.out.1; omega
      have hn2 : gr ≠ gz := by have := HVN.out; have := HBT.out.2; omega
      have HS := Lib.hid (show Sx ((x2.setCell ⟨gz, 0, none⟩ (.int .i64 ia)).setCell ⟨gz, 1, none⟩ (.int .i64 ib)) g s b c i ∧ Rx ((x2.setCell ⟨gz, 0, none⟩ (.int .i64 ia)).setCell ⟨gz, 1, none⟩ (.int .i64 ib)) gr r from ⟨(HS.out.1.other hn1 _).other hn1 _, (HS.out.2.other hn2 _).other hn2 _⟩)
      have HC := Lib.hid ((HC.out.setCell (p := ⟨gz, 0, none⟩) HVN.out (.int .i64 ia)).setCell (p := ⟨gz, 1, none⟩) HVN.out (.int .i64 ib))
      refine hK.out _ _ HS.out (fun _ => ?_)
      clear hK K z0 z1 f0 f1
      refine take_in (i := 11) (oi := ⟨_, _, _, _, _, _⟩) (v := ?_) rfl (by kernel_rfl) (by kernel_rfl) (by kernel_rfl) (fun _ _ _ h => h) (by rfl) ?_ HS.out ?_
      rotate_left
      · intro W hW; go_simp; with_reducible rfl
      simp only [Act.put, List.setIfInBounds_toArray, List.set_cons_zero, List.set_cons_succ]
      refine wpAnyH_done (by kernel_rfl) ?_ _
      go_wp2
      go_meet
      case rel => exact ⟨rfl, HS.out.1, HS.out.2, HC.out⟩
    · go_simp
      have hb_ := bal (Below.refl w5.heap.size w5) (Nat.le_refl _) (.cells #[.int .i64 0, .int .i64 0] 26)
      have HV := Lib.hid (show (w5.alloc (.cells #[.int .i64 0, .int .i64 0] 26)).heap[w5.heap.size]? = some (.cells #[.int .i64 0, .int .i64 0] 26) from hat _ _ _ rfl)
      have HVN := Lib.hid (show w2.heap.size ≤ w5.heap.size from HC.out.size)
      have HS := Lib.hid (show Sx (w5.alloc (.cells #[.int .i64 0, .int .i64 0] 26)) g s b c i ∧ Rx (w5.alloc (.cells #[.int .i64 0, .int .i64 0] 26)) gr r from ⟨HS.out.1.all hb_, HS.out.2.all hb_⟩)
      have HC := Lib.hid (HC.out.trans (hb_.mono HC.out.size)); clear hb_
      refine hK.out _ _ HS.out (fun _ => ?_)
      clear hK K
      generalize w5.alloc (.cells #[.int .i64 0, .int .i64 0] 26) = x1 at HV HS HC ⊢
      generalize w5.heap.size = gz at HV HVN ⊢
      refine wpAnyH_ready (rs := [5]) (by kernel_rfl) (by simp) ?_
      refine AllReadyH.cons (o := ⟨_, _, _, _, _, _⟩) rfl (fun K hK => ?_) AllReadyH.nil
      go_simp
      refine (HIN.out x1 ((HO.out.below HC.out).stoW HW.out)).mono ?_
      rintro e x2 ⟨rfl, hb_⟩
      have HV := Lib.hid ((hb_.block _ (Array.getElem?_eq_some_iff.1 HV.out).1).trans HV.out)
      have HS := Lib.hid (show Sx x2 g s b c i ∧ Rx x2 gr r from ⟨HS.out.1.all hb_, HS.out.2.all hb_⟩)
      have HC := Lib.hid (HC.out.trans (hb_.mono HC.out.size)); clear hb_
      refine hK.out _ _ HS.out (fun _ => ?_)
      clear hK K
      refine take_in (i := 6) (oi := ⟨_, _, _, _, _, _⟩) (v := ?_) rfl (by kernel_rfl) (by kernel_rfl) (by kernel_rfl) (fun _ _ _ h => h) (by rfl) ?_ HS.out ?_
      rotate_left
      · intro W hW; go_simp; with_reducible rfl
      simp only [Act.put, List.setIfInBounds_toArray, List.set_cons_zero, List.set_cons_succ]
      refine take_in (i := 7) (oi := ⟨_, _, _, _, _, _⟩) (v := ?_) rfl (by kernel_rfl) (by kernel_rfl) (by kernel_rfl) (fun _ _ _ h => h) (by rfl) ?_ HS.out ?_
      rotate_left
      · intro W hW; go_simp; with_reducible rfl
      simp only [Act.put, List.setIfInBounds_toArray, List.set_cons_zero, List.set_cons_succ]
      refine take_in (i := 8) (oi := ⟨_, _, _, _, _, _⟩) (v := ?_) rfl (by kernel_rfl) (by kernel_rfl) (by kernel_rfl) (fun _ _ _ h => h) (by rfl) ?_ HS.out ?_
      rotate_left
      · intro W hW; go_simp; with_reducible rfl
      simp only [Act.put, List.setIfInBounds_toArray, List.set_cons_zero, List.set_cons_succ]
      refine wpAnyH_ready (rs := [10]) (by kernel_rfl) (by simp) ?_
      refine AllReadyH.cons (o := ⟨_, _, _, _, _, _⟩) rfl (fun K hK => ?_) AllReadyH.nil
      have z0 := (cells2 HV.out).1; have z1 := (cells2 HV.out).2; have f0 := frozen_of_row x2 gz 0 _ _ HV.out; have f1 := frozen_of_row x2 gz 1 _ _ HV.out
      go_simp
      have hn1 : g ≠ gz := by have := HVN.out; have := HBT.out.1; omega
      have hn2 : gr ≠ gz := by have := HVN.out; have := HBT.out.2; omega
      have HS := Lib.hid (show Sx ((x2.setCell ⟨gz, 0, none⟩ (.int .i64 ia)).setCell ⟨gz, 1, none⟩ (.int .i64 ib)) g s b c i ∧ Rx ((x2.setCell ⟨gz, 0, none⟩ (.int .i64 ia)).setCell ⟨gz, 1, none⟩ (.int .i64 ib)) gr r from ⟨(HS.out.1.other hn1 _).other hn1 _, (HS.out.2.other hn2 _).other hn2 _⟩)
      have HC := Lib.hid ((HC.out.setCell (p := ⟨gz, 0, none⟩) HVN.out (.int .i64 ia)).setCell (p := ⟨gz, 1, none⟩) HVN.out (.int .i64 ib))
      refine hK.out _ _ HS.out (fun _ => ?_)
      clear hK K z0 z1 f0 f1
      refine take_in (i := 11) (oi := ⟨_, _, _, _, _, _⟩) (v := ?_) rfl (by kernel_rfl) (by kernel_rfl) (by kernel_rfl) (fun _ _ _ h => h) (by rfl) ?_ HS.out ?_
      rotate_left
      · intro W hW; go_simp; with_reducible rfl
      simp only [Act.put, List.setIfInBounds_toArray, List.set_cons_zero, List.set_cons_succ]
      refine wpAnyH_done (by kernel_rfl) ?_ _
      go_wp2
      go_meet
      case rel => exact ⟨rfl, HS.out.1, HS.out.2, HC.out⟩
  case rest =>
    obtain ⟨rfl, hx_, hr_, hbc⟩ := hcut
    have HX := Lib.hid hx_; have HR := Lib.hid hr_; have HO := Lib.hid (HO.out.below hbc); have HF := Lib.hid (HF.out.trans (Fr.below hbc)); have HBS := Lib.hid (Nat.le_trans HBS.out hbc.size)
    clear hx_ hr_ hbc HIN
    cases had with
    | true =>
      have HE := Lib.hid (HSM.out rfl)
      go_wp2
      (try simp only [Exit.inBlock, Exit.then]); refine bodyPost_ret (results_none rfl _ _ _) rfl ?_
      exact ⟨rfl, _, _, _, _, _, by rw [HE.out]; exact HX.out, by rw [HE.out]; exact HO.out, HF.out⟩
    | false =>
      have HE := Lib.hid (HNW.out rfl)
      clear HSM HNW
      go_upto_region 17 with (fail)
      refine wp_region_held_drew (S := fun W' => Rx W' gr r) (by kernel_rfl) HR.out (fun hHeld => ?_)
      have HC : Hid (Below wc.heap.size wc wc.drew) := Lib.hid (Below.refl _ _).drew
      have HS : Hid (Rx wc.drew gr r) := Lib.hid hHeld
      have HX : Hid (Sx wc.drew g s b c i) := Lib.hid HX.out
      clear hHeld
      generalize wc.drew = w5 at HC HS HX ⊢
      refine take_in (i := 0) (oi := ⟨_, _, _, _, _, _⟩) (v := ?_) rfl (by kernel_rfl) (by kernel_rfl) (by kernel_rfl) (fun _ _ _ h => h) (by rfl) ?_ HS.out ?_
      rotate_left
      · intro W hW; obtain ⟨⟨y1, y2⟩, ⟨y3, y4, y5⟩, ⟨y6, y7, y8, y9⟩, y10⟩ := HQR.out W hW; rw [HCV.out.1] at y4; rw [HCV.out.2] at y5; go_simp; with_reducible rfl
      simp only [Act.put, List.setIfInBounds_toArray, List.set_cons_zero, List.set_cons_succ]
      refine take_in (i := 1) (oi := ⟨_, _, _, _, _, _⟩) (v := ?_) rfl (by kernel_rfl) (by kernel_rfl) (by kernel_rfl) (fun _ _ _ h => h) (by rfl) ?_ HS.out ?_
      rotate_left
      · intro W hW; obtain ⟨⟨y1, y2⟩, ⟨y3, y4, y5⟩, ⟨y6, y7, y8, y9⟩, y10⟩ := HQR.out W hW; rw [HCV.out.1] at y4; rw [HCV.out.2] at y5; go_simp; with_reducible rfl
      simp only [Act.put, List.setIfInBounds_toArray, List.set_cons_zero, List.set_cons_succ]
      refine take_in (i := 2) (oi := ⟨_, _, _, _, _, _⟩) (v := ?_) rfl (by kernel_rfl) (by kernel_rfl) (by kernel_rfl) (fun _ _ _ h => h) (by rfl) ?_ HS.out ?_
      rotate_left
      · intro W hW; obtain ⟨⟨y1, y2⟩, ⟨y3, y4, y5⟩, ⟨y6, y7, y8, y9⟩, y10⟩ := HQR.out W hW; rw [HCV.out.1] at y4; rw [HCV.out.2] at y5; go_simp; with_reducible rfl
      simp only [Act.put, List.setIfInBounds_toArray, List.set_cons_zero, List.set_cons_succ]
      refine take_in (i := 5) (oi := ⟨_, _, _, _, _, _⟩) (v := ?_) rfl (by kernel_rfl) (by kernel_rfl) (by kernel_rfl) (fun _ _ _ h => h) (by rfl) ?_ HS.out ?_
      rotate_left
      · intro W hW; obtain ⟨⟨y1, y2⟩, ⟨y3, y4, y5⟩, ⟨y6, y7, y8, y9⟩, y10⟩ := HQR.out W hW; rw [HCV.out.1] at y4; rw [HCV.out.2] at y5; go_simp; with_reducible rfl
      simp only [Act.put, List.setIfInBounds_toArray, List.set_cons_zero, List.set_cons_succ]
      refine take_in (i := 6) (oi := ⟨_, _, _, _, _, _⟩) (v := ?_) rfl (by kernel_rfl) (by kernel_rfl) (by kernel_rfl) (fun _ _ _ h => h) (by rfl) ?_ HS.out ?_
      rotate_left
      · intro W hW; obtain ⟨⟨y1, y2⟩, ⟨y3, y4, y5⟩, ⟨y6, y7, y8, y9⟩, y10⟩ := HQR.out W hW; rw [HCV.out.1] at y4; rw [HCV.out.2] at y5; go_simp; with_reducible rfl
      simp only [Act.put, List.setIfInBounds_toArray, List.set_cons_zero, List.set_cons_succ]
      refine take_in (i := 7) (oi := ⟨_, _, _, _, _, _⟩) (v := ?_) rfl (by kernel_rfl) (by kernel_rfl) (by kernel_rfl) (fun _ _ _ h => h) (by rfl) ?_ HS.out ?_
      rotate_left
      · intro W hW; obtain ⟨⟨y1, y2⟩, ⟨y3, y4, y5⟩, ⟨y6, y7, y8, y9⟩, y10⟩ := HQR.out W hW; rw [HCV.out.1] at y4; rw [HCV.out.2] at y5; go_simp; with_reducible rfl
      simp only [Act.put, List.setIfInBounds_toArray, List.set_cons_zero, List.set_cons_succ]
      refine take_in (i := 8) (oi := ⟨_, _, _, _, _, _⟩) (v := ?_) rfl (by kernel_rfl) (by kernel_rfl) (by kernel_rfl) (fun _ _ _ h => h) (by rfl) ?_ HS.out ?_
      rotate_left
      · intro W hW; obtain ⟨⟨y1, y2⟩, ⟨y3, y4, y5⟩, ⟨y6, y7, y8, y9⟩, y10⟩ := HQR.out W hW; rw [HCV.out.1] at y4; rw [HCV.out.2] at y5; go_simp; with_reducible rfl
      simp only [Act.put, List.setIfInBounds_toArray, List.set_cons_zero, List.set_cons_succ]
      refine take_in (i := 9) (oi := ⟨_, _, _, _, _, _⟩) (v := ?_) rfl (by kernel_rfl) (by kernel_rfl) (by kernel_rfl) (fun _ _ _ h => h) (by rfl) ?_ HS.out ?_
      rotate_left
      · intro W hW; obtain ⟨⟨y1, y2⟩, ⟨y3, y4, y5⟩, ⟨y6, y7, y8, y9⟩, y10⟩ := HQR.out W hW; rw [HCV.out.1] at y4; rw [HCV.out.2] at y5; go_simp; with_reducible rfl
      simp only [Act.put, List.setIfInBounds_toArray, List.set_cons_zero, List.set_cons_succ]
      refine take_in (i := 10) (oi := ⟨_, _, _, _, _, _⟩) (v := ?_) rfl (by kernel_rfl) (by kernel_rfl) (by kernel_rfl) (fun _ _ _ h => h) (by rfl) ?_ HS.out ?_
      rotate_left
      · intro W hW; obtain ⟨⟨y1, y2⟩, ⟨y3, y4, y5⟩, ⟨y6, y7, y8, y9⟩, y10⟩ := HQR.out W hW; rw [HCV.out.1] at y4; rw [HCV.out.2] at y5; go_simp; with_reducible rfl
      simp only [Act.put, List.setIfInBounds_toArray, List.set_cons_zero, List.set_cons_succ]
      refine wpAnyH_ready (rs := [3]) (by kernel_rfl) (by simp) ?_
      refine AllReadyH.cons (o := ⟨_, _, _, _, _, _⟩) rfl (fun K hK => ?_) AllReadyH.nil
      obtain ⟨⟨z0, z1, z2, z3, z4, z5, z6⟩, hfz⟩ := HQX.out _ HX.out
      go_simp
      clear z0 z1 z2 z3 z4 z5 z6 hfz
      refine hK.out _ _ HS.out (fun _ => ?_)
      clear hK K
      refine wpAnyH_ready (rs := [4]) (by kernel_rfl) (by simp) ?_
      refine AllReadyH.cons (o := ⟨_, _, _, _, _, _⟩) rfl (fun K hK => ?_) AllReadyH.nil
      go_simp
      refine (shelf_I s b c i w5).mono ?_
      rintro e w6 ⟨rfl, hb_⟩
      have HS := Lib.hid (HS.out.all hb_); have HX := Lib.hid (HX.out.all hb_)
      have HC := Lib.hid (HC.out.trans (hb_.mono HC.out.size)); clear hb_
      refine hK.out _ _ HS.out (fun _ => ?_)
      clear hK K
      have HO6 := Lib.hid (HO.out.below HC.out); have HF6 := Lib.hid (HF.out.trans (Fr.below HC.out)); have HB6 := Lib.hid (Nat.le_trans HBS.out HC.out.size)
      clear HO HF HC HBS HR
      have HLN : Hid (i.n ≤ 4096) := Lib.hid (by rw [HO6.out.2.2.1]; exact sd_len HW.out.si HW.out.ai)
      refine wpAnyH_ready (rs := [11]) (by kernel_rfl) (by simp) ?_
      refine AllReadyH.cons (o := ⟨_, _, _, _, _, _⟩) rfl (fun K hK => ?_) AllReadyH.nil
      go_simp
      refine (put_I i s.ints (rvw r, rch r) HV64.out base w6 HO6.out.2.2 HB6.out HLN.out HW.out.si HW.out.ai).mono ?_
      rintro e w7 ⟨s', rfl, ho_, hg_⟩
      have HS := Lib.hid (show Rx w7 gr r from Rg.blk_apart HS.out HO6.out.2.2.2 (by decide) hg_)
      have HP := Lib.hid (HO6.out.putI HX.out ho_ hg_)
      have HX := Lib.hid (show Sx w7 g s b c i from Rg.blk_apart HX.out HO6.out.2.2.2 (by decide) hg_)
      have HF7 := Lib.hid ((HF6.out.trans (Fr.grown hg_ (fun k hk => hk.2.2.2))).put (fun k hk => hk.1) 2 (.slice s'.a s'.n s'.c))
      clear ho_ hg_ HO6 HF6 HLN
      refine hK.out _ _ HS.out (fun _ => ?_)
      clear hK K
      refine take_in (i := 12) (oi := ⟨_, _, _, _, _, _⟩) (v := ?_) rfl (by kernel_rfl) (by kernel_rfl) (by kernel_rfl) (fun _ _ _ h => h) (by rfl) ?_ HS.out ?_
      rotate_left
      · intro W hW; go_simp; with_reducible rfl
      simp only [Act.put, List.setIfInBounds_toArray, List.set_cons_zero, List.set_cons_succ]
      refine take_in (i := 13) (oi := ⟨_, _, _, _, _, _⟩) (v := ?_) rfl (by kernel_rfl) (by kernel_rfl) (by kernel_rfl) (fun _ _ _ h => h) (by rfl) ?_ HS.out ?_
      rotate_left
      · intro W hW; go_simp; with_reducible rfl
      simp only [Act.put, List.setIfInBounds_toArray, List.set_cons_zero, List.set_cons_succ]
      refine wpAnyH_ready (rs := [14]) (by kernel_rfl) (by simp) ?_
      refine AllReadyH.cons (o := ⟨_, _, _, _, _, _⟩) rfl (fun K hK => ?_) AllReadyH.nil
      obtain ⟨⟨z0, z1, z2, z3, z4, z5, z6⟩, hfz⟩ := HQX.out _ HX.out
      have hf0 := hfz 2
      clear hfz
      go_simp
      refine hK.out _ _ (HS.out.other hgne _) (fun _ => ?_)
      clear hK K z0 z1 z2 z3 z4 z5 z6 hf0
      refine wpAnyH_done (by kernel_rfl) ?_ _
      generalize w7.setCell ⟨g, 2, none⟩ (.slice s'.a s'.n s'.c) = w8 at HP HF7 ⊢
      go_wp2
      (try simp only [Exit.inBlock, Exit.then]); refine bodyPost_ret (results_none rfl _ _ _) rfl ?_
      exact ⟨rfl, _, _, _, _, _, by rw [HE.out]; exact HP.out.1, by rw [HE.out]; exact HP.out.2, HF7.out⟩
end Go.Proofs.YtfblnomkafimhaaGreat.Fow

namespace Go.Proofs.YtfblnomkafimhaaGreat.Fow
set_option maxRecDepth 20000
open Go.RowKit
open Chg Vw Cl Bk Lg Fo Clw Bkw
open Lgw (rvv Rx)
open Chgw (hat hbe vw ret_bool ret_i64 Vx)
open Rg (bal)
set_option maxHeartbeats 8000000 in
theorem add6_c (g : Nat) (s : St) (b c i : Sl) (xs ys : List ((Nat × Nat) × Sl)) (base : Nat) (w : World) (hx : Sx w g s b c i) (ho : Ors w base s b c i xs ys) (hw : WfS s) (r : R) (hr : OkR r) (hk : r.kind = 6) (hb : base ≤ w.heap.size) :
    Calls Tryz.prog 54 #[.pointer (some ⟨g, 0, none⟩), rvv r] w (RetAdd w base g b c i (applyS s r)) := by
  have hsf := Lgw.store_flt
  have k1 : (r.kind == 1) = false := by rw [beq_eq_false_iff_ne]; omega
  have k2 : (r.kind == 2) = false := by rw [beq_eq_false_iff_ne]; omega
  have k3 : (r.kind == 3) = false := by rw [beq_eq_false_iff_ne]; omega
  have k4 : (r.kind == 4) = false := by rw [beq_eq_false_iff_ne]; omega
  have k5 : (r.kind == 5) = false := by rw [beq_eq_false_iff_ne]; omega
  have k6 : (r.kind == 6) = true := by rw [beq_iff_eq]; omega
  have HW := Lib.hid hw; have HRR := Lib.hid (fun W => right_r hr W)
  have HOV := Lib.hid (okr_view hr).1; have HV64 := Lib.hid (okr_view hr).2.1; have HCV := Lib.hid (okr_view hr).2.2.1; have HOK := Lib.hid hr; have HKI := Lib.hid hk
  
  unfold rvv
  clear hw hr hk
  go_enter Tryz.func54, Tryz.ntmps54
  go_upto_region 1 with (fail)
  have HR := Lib.hid (show Rx (w.alloc (.cells #[.int .i64 r.kind, .int .i64 r.va, .int .i64 r.vd, .int .i64 r.cn, .int .i64 r.ca, .int .i64 r.cd, .int .i64 r.e.key, .int .i64 r.e.num, .int .i64 r.e.node, .float .f64 r.e.val, .int .i64 r.n] 60)) w.heap.size r from hat _ _ _ rfl)
  have hbx := bal (Below.refl w.heap.size w) (Nat.le_refl _) (.cells #[.int .i64 r.kind, .int .i64 r.va, .int .i64 r.vd, .int .i64 r.cn, .int .i64 r.ca, .int .i64 r.cd, .int .i64 r.e.key, .int .i64 r.e.num, .int .i64 r.e.node, .float .f64 r.e.val, .int .i64 r.n] 60)
  have HX := Lib.hid (hx.all hbx); have HO := Lib.hid (ho.below hbx); have HF := Lib.hid (Fr.below (P := Pk g b c i) hbx)
  have HBS := Lib.hid (Nat.le_trans hb hbx.size)
  have HGR := Lib.hid hx.lt
  clear hx ho hbx hb
  have hgne : w.heap.size ≠ g := Nat.ne_of_gt HGR.out
  clear HGR
  generalize w.alloc (.cells #[.int .i64 r.kind, .int .i64 r.va, .int .i64 r.vd, .int .i64 r.cn, .int .i64 r.ca, .int .i64 r.cd, .int .i64 r.e.key, .int .i64 r.e.num, .int .i64 r.e.node, .float .f64 r.e.val, .int .i64 r.n] 60) = w1 at HR HX HO HF HBS ⊢
  generalize w.heap.size = gr at HR hgne ⊢
  obtain ⟨y0, y1, y2, y3, y4, y5, y6, y7, y8, y9, y10⟩ := HR.out.cs
  rw [HOV.out.1] at y1
  rw [HOV.out.2] at y2
  go_upto_region 2 with (refine (HRR.out w1).mono ?_; rintro e w2 ⟨rfl, hb2⟩)
  have HR := Lib.hid (HR.out.all hb2); have HX := Lib.hid (HX.out.all hb2); have HO := Lib.hid (HO.out.below hb2); have HF := Lib.hid (HF.out.trans (Fr.below hb2)); have HBS := Lib.hid (Nat.le_trans HBS.out hb2.size)
  clear hb2 HRR y0 y1 y2 y3 y4 y5 y6 y7 y8 y9 y10
  have y0 : w2.cell? ⟨gr, 0, none⟩ = some (.int .i64 r.kind) := HR.out.cs.1
  go_upto_region 19 with (fail)
  clear y0
  have HQR : Hid (∀ W, Rx W gr r → (W.cell? ⟨gr, 1, none⟩ = some (.int .i64 ((rvw r).1 : Int)) ∧ W.cell? ⟨gr, 2, none⟩ = some (.int .i64 ((rvw r).2 : Int))) ∧ (W.cell? ⟨gr, 3, none⟩ = some (.int .i64 r.cn) ∧ W.cell? ⟨gr, 4, none⟩ = some (.int .i64 r.ca) ∧ W.cell? ⟨gr, 5, none⟩ = some (.int .i64 r.cd)) ∧ (W.cell? ⟨gr, 6, none⟩ = some (.int .i64 r.e.key) ∧ W.cell? ⟨gr, 7, none⟩ = some (.int .i64 r.e.num) ∧ W.cell? ⟨gr, 8, none⟩ = some (.int .i64 r.e.node) ∧ W.cell? ⟨gr, 9, none⟩ = some (.float .f64 r.e.val)) ∧ W.cell? ⟨gr, 10, none⟩ = some (.int .i64 r.n)) := Lib.hid (fun W h => by
    obtain ⟨y0, y1, y2, y3, y4, y5, y6, y7, y8, y9, y10⟩ := h.cs
    rw [HOV.out.1] at y1
    rw [HOV.out.2] at y2
    exact ⟨⟨y1, y2⟩, ⟨y3, y4, y5⟩, ⟨y6, y7, y8, y9⟩, y10⟩)
  have HQX : Hid (∀ W, Sx W g s b c i → (W.cell? ⟨g, 0, none⟩ = some (.slice b.a b.n b.c) ∧ W.cell? ⟨g, 1, none⟩ = some (.slice c.a c.n c.c) ∧ W.cell? ⟨g, 2, none⟩ = some (.slice i.a i.n i.c) ∧ W.cell? ⟨g, 3, none⟩ = some (.int .i64 (s.held.1 : Int)) ∧ W.cell? ⟨g, 4, none⟩ = some (.int .i64 (s.held.2 : Int)) ∧ W.cell? ⟨g, 5, none⟩ = some (.int .i64 s.inc) ∧ W.cell? ⟨g, 6, none⟩ = some (.int .i64 s.last)) ∧ (∀ j, W.frozen? ⟨g, j, none⟩ = false)) := Lib.hid (fun W h => ⟨h.cs, h.frozen⟩)
  have HAP : Hid (applyS s r = { s with inc := if s.inc < r.n then r.n else s.inc }) := Lib.hid (by
    unfold applyS
    rw [if_neg (by have := HKI.out; omega), if_neg (by have := HKI.out; omega), if_neg (by have := HKI.out; omega), if_neg (by have := HKI.out; omega), if_neg (by have := HKI.out; omega), if_pos HKI.out]
    split <;> rfl)
  have hmax : ∀ ts t W, (Builtin.max_ ts t #[.int .i64 s.inc, .int .i64 r.n]).run Tryz.prog W = .ok (.int .i64 (if s.inc < r.n then r.n else s.inc)) W := by
    intro ts t W
    rw [run_max_int2]
  generalize (if s.inc < r.n then r.n else s.inc) = nn at HAP hmax
  refine wp_region_held_drew (S := fun W' => Rx W' gr r) (by kernel_rfl) HR.out (fun hHeld => ?_)
  have HC : Hid (Below w2.heap.size w2 w2.drew) := Lib.hid (Below.refl _ _).drew
  have HS : Hid (Rx w2.drew gr r) := Lib.hid hHeld
  have HX : Hid (Sx w2.drew g s b c i) := Lib.hid HX.out
  clear hHeld
  generalize w2.drew = w5 at HC HS HX ⊢
  refine take_in (i := 0) (oi := ⟨_, _, _, _, _, _⟩) (v := ?_) rfl (by kernel_rfl) (by kernel_rfl) (by kernel_rfl) (fun _ _ _ h => h) (by rfl) ?_ HS.out ?_
  rotate_left
  · intro W hW; obtain ⟨⟨y1, y2⟩, ⟨y3, y4, y5⟩, ⟨y6, y7, y8, y9⟩, y10⟩ := HQR.out W hW; go_simp; with_reducible rfl
  simp only [Act.put, List.setIfInBounds_toArray, List.set_cons_zero, List.set_cons_succ]
  refine take_in (i := 1) (oi := ⟨_, _, _, _, _, _⟩) (v := ?_) rfl (by kernel_rfl) (by kernel_rfl) (by kernel_rfl) (fun _ _ _ h => h) (by rfl) ?_ HS.out ?_
  rotate_left
  · intro W hW; obtain ⟨⟨y1, y2⟩, ⟨y3, y4, y5⟩, ⟨y6, y7, y8, y9⟩, y10⟩ := HQR.out W hW; go_simp; with_reducible rfl
  simp only [Act.put, List.setIfInBounds_toArray, List.set_cons_zero, List.set_cons_succ]
  refine take_in (i := 2) (oi := ⟨_, _, _, _, _, _⟩) (v := ?_) rfl (by kernel_rfl) (by kernel_rfl) (by kernel_rfl) (fun _ _ _ h => h) (by rfl) ?_ HS.out ?_
  rotate_left
  · intro W hW; obtain ⟨⟨y1, y2⟩, ⟨y3, y4, y5⟩, ⟨y6, y7, y8, y9⟩, y10⟩ := HQR.out W hW; go_simp; with_reducible rfl
  simp only [Act.put, List.setIfInBounds_toArray, List.set_cons_zero, List.set_cons_succ]
  refine take_in (i := 3) (oi := ⟨_, _, _, _, _, _⟩) (v := ?_) rfl (by kernel_rfl) (by kernel_rfl) (by kernel_rfl) (fun _ _ _ h => h) (by rfl) ?_ HS.out ?_
  rotate_left
  · intro W hW; obtain ⟨⟨y1, y2⟩, ⟨y3, y4, y5⟩, ⟨y6, y7, y8, y9⟩, y10⟩ := HQR.out W hW; go_simp; with_reducible rfl
  simp only [Act.put, List.setIfInBounds_toArray, List.set_cons_zero, List.set_cons_succ]
  refine take_in (i := 5) (oi := ⟨_, _, _, _, _, _⟩) (v := ?_) rfl (by kernel_rfl) (by kernel_rfl) (by kernel_rfl) (fun _ _ _ h => h) (by rfl) ?_ HS.out ?_
  rotate_left
  · intro W hW; obtain ⟨⟨y1, y2⟩, ⟨y3, y4, y5⟩, ⟨y6, y7, y8, y9⟩, y10⟩ := HQR.out W hW; go_simp; with_reducible rfl
  simp only [Act.put, List.setIfInBounds_toArray, List.set_cons_zero, List.set_cons_succ]
  refine take_in (i := 6) (oi := ⟨_, _, _, _, _, _⟩) (v := ?_) rfl (by kernel_rfl) (by kernel_rfl) (by kernel_rfl) (fun _ _ _ h => h) (by rfl) ?_ HS.out ?_
  rotate_left
  · intro W hW; obtain ⟨⟨y1, y2⟩, ⟨y3, y4, y5⟩, ⟨y6, y7, y8, y9⟩, y10⟩ := HQR.out W hW; go_simp; with_reducible rfl
  simp only [Act.put, List.setIfInBounds_toArray, List.set_cons_zero, List.set_cons_succ]
  refine wpAnyH_ready (rs := [4]) (by kernel_rfl) (by simp) ?_
  refine AllReadyH.cons (o := ⟨_, _, _, _, _, _⟩) rfl (fun K hK => ?_) AllReadyH.nil
  obtain ⟨⟨z0, z1, z2, z3, z4, z5, z6⟩, hfz⟩ := HQX.out _ HX.out
  go_simp
  clear z0 z1 z2 z3 z4 z5 z6 hfz
  refine hK.out _ _ HS.out (fun _ => ?_)
  clear hK K
  refine wpAnyH_ready (rs := [7]) (by kernel_rfl) (by simp) ?_
  refine AllReadyH.cons (o := ⟨_, _, _, _, _, _⟩) rfl (fun K hK => ?_) AllReadyH.nil
  go_simp
  refine hK.out _ _ HS.out (fun _ => ?_)
  clear hK K
  refine take_in (i := 8) (oi := ⟨_, _, _, _, _, _⟩) (v := ?_) rfl (by kernel_rfl) (by kernel_rfl) (by kernel_rfl) (fun _ _ _ h => h) (by rfl) ?_ HS.out ?_
  rotate_left
  · intro W hW; go_simp; with_reducible rfl
  simp only [Act.put, List.setIfInBounds_toArray, List.set_cons_zero, List.set_cons_succ]
  refine take_in (i := 9) (oi := ⟨_, _, _, _, _, _⟩) (v := ?_) rfl (by kernel_rfl) (by kernel_rfl) (by kernel_rfl) (fun _ _ _ h => h) (by rfl) ?_ HS.out ?_
  rotate_left
  · intro W hW; go_simp; with_reducible rfl
  simp only [Act.put, List.setIfInBounds_toArray, List.set_cons_zero, List.set_cons_succ]
  refine wpAnyH_ready (rs := [10]) (by kernel_rfl) (by simp) ?_
  refine AllReadyH.cons (o := ⟨_, _, _, _, _, _⟩) rfl (fun K hK => ?_) AllReadyH.nil
  obtain ⟨⟨z0, z1, z2, z3, z4, z5, z6⟩, hfz⟩ := HQX.out _ HX.out
  have hf0 := hfz 5
  clear hfz
  go_simp
  refine hK.out _ _ (HS.out.other hgne _) (fun _ => ?_)
  clear hK K z0 z1 z2 z3 z4 z5 z6 hf0
  refine wpAnyH_done (by kernel_rfl) ?_ _
  have HO6 := Lib.hid ((HO.out.below HC.out).put1 HX.out 5 (.int .i64 nn)); have HF6 := Lib.hid ((HF.out.trans (Fr.below HC.out)).put (fun k hk => hk.1) 5 (.int .i64 nn))
  have HXN := Lib.hid (show Sx (w5.setCell ⟨g, 5, none⟩ (.int .i64 nn)) g { s with inc := nn } b c i from HX.out.put1 5 (.int .i64 nn) _ _ _ _ rfl)
  generalize w5.setCell ⟨g, 5, none⟩ (.int .i64 nn) = w8 at HXN HO6 HF6 ⊢
  go_wp2
  (try simp only [Exit.inBlock, Exit.then]); refine bodyPost_ret (results_none rfl _ _ _) rfl ?_
  exact ⟨rfl, _, _, _, _, _, by rw [HAP.out]; exact HXN.out, by rw [HAP.out]; exact HO6.out, HF6.out⟩
end Go.Proofs.YtfblnomkafimhaaGreat.Fow

namespace Go.Proofs.YtfblnomkafimhaaGreat.Fow
set_option maxRecDepth 20000
open Go.RowKit
open Chg Vw Cl Bk Lg Fo Clw Bkw
open Lgw (rvv Rx KR Sr Elv elv_at)
open Chgw (hat hbe vw ret_bool ret_i64 Vx)
open Rg (bal)

theorem add_c (g : Nat) (s : St) (b c i : Sl) (xs ys : List ((Nat × Nat) × Sl)) (base : Nat) (w : World) (hx : Sx w g s b c i) (ho : Ors w base s b c i xs ys) (hw : WfS s) (r : R) (hr : OkR r) (hb : base ≤ w.heap.size) :
    Calls Tryz.prog 54 #[.pointer (some ⟨g, 0, none⟩), rvv r] w (RetAdd w base g b c i (applyS s r)) := by
  have h := (okr hr).2.2.2.2.2
  rcases (show r.kind = 1 ∨ r.kind = 2 ∨ r.kind = 3 ∨ r.kind = 4 ∨ r.kind = 5 ∨ r.kind = 6 by omega) with e | e | e | e | e | e
  · exact add1_c g s b c i xs ys base w hx ho hw r hr e hb
  · exact add2_c g s b c i xs ys base w hx ho hw r hr e hb
  · exact add3_c g s b c i xs ys base w hx ho hw r hr e hb
  · exact add4_c g s b c i xs ys base w hx ho hw r hr e hb
  · exact add5_c g s b c i xs ys base w hx ho hw r hr e hb
  · exact add6_c g s b c i xs ys base w hx ho hw r hr e hb
/-- a state is answered, its rows of its own -/
def RetOw (w : World) (s : St) (e : Ending) (w' : World) : Prop := ∃ (b c i : Sl) (xs ys : List ((Nat × Nat) × Sl)), e = .returned (stv s b c i) ∧ Ors w' w.heap.size s b c i xs ys ∧ Below w.heap.size w w'
theorem RetOw.st {w : World} {s : St} (hw : WfS s) {e : Ending} {w' : World} (h : RetOw w s e w') : RetSt w s e w' := by
  obtain ⟨b, c, i, xs, ys, he, ho, hb⟩ := h
  exact ⟨b, c, i, he, ho.stoW hw, hb⟩
/-- a block of another type is none of the rows -/
theorem Ors.blk {W : World} {base : Nat} {s : St} {b c i : Sl} {xs ys : List ((Nat × Nat) × Sl)} (h : Ors W base s b c i xs ys) {k : Nat} {cs : Array Value} {T : TypeId} (hk : W.heap[k]? = some (.cells cs T)) (h1 : T ≠ 69) (h2 : T ≠ 71) (h3 : T ≠ 73) :
    some k ≠ (Value.slice b.a b.n b.c).ownBlock ∧ some k ≠ (Value.slice c.a c.n c.c).ownBlock ∧ some k ≠ (Value.slice i.a i.n i.c).ownBlock := by
  have key : ∀ {α : Type} (K : Kind α) {A : Option Addr} {n c' : Nat} {l : List α}, Rg.OwnG K W base A n c' l → T ≠ K.T → some k ≠ (Value.slice A n c').ownBlock := fun K A n c' l ho hne e => by
    rcases ho.2.2 with ⟨h0, _⟩ | ⟨g, cap, cur, h0, _, hh, _⟩
    · rw [h0] at e; cases e
    · rw [h0] at e
      have e2 : k = g := Option.some.inj e
      subst e2
      rw [hk] at hh
      simp only [Option.some.injEq, Obj.cells.injEq] at hh
      exact hne hh.2.1
  exact ⟨key KB h.1.1 h1, key KCs h.2.1.1 h2, key KI h.2.2 h3⟩
theorem Fr.keep {P : Nat → Prop} {w w' : World} (h : Fr P w w') {k : Nat} {cs : Array Value} {T : TypeId} (hk : w.heap[k]? = some (.cells cs T)) (hp : P k) : w'.heap[k]? = some (.cells cs T) := (h.block k (Array.getElem?_eq_some_iff.1 hk).1 hp).trans hk
theorem Fr.belowB {P : Nat → Prop} {B : Nat} {w0 w w' : World} (h : Fr P w w') (hb : Below B w0 w) (hB : B ≤ w0.heap.size) (hp : ∀ k, k < B → P k) : Below B w0 w' := ⟨h.os.trans hb.os, h.tape.trans hb.tape, h.output.trans hb.output, Nat.le_trans hb.size h.size, fun k hk => (h.block k (Nat.lt_of_lt_of_le hk (Nat.le_trans hB hb.size)) (hp k hk)).trans (hb.block k hk)⟩
theorem Ors.past {W : World} {base : Nat} {s : St} {b c i : Sl} {xs ys : List ((Nat × Nat) × Sl)} (h : Ors W base s b c i xs ys) {g : Nat} (hg : base ≤ g) : ∀ k, k < base → Pk g b c i k := fun k hk =>
  ⟨by omega, fun e => by have := own_base h.1.1 k e.symm; omega, fun e => by have := own_base h.2.1.1 k e.symm; omega, fun e => by have := own_base h.2.2 k e.symm; omega⟩
set_option maxHeartbeats 2000000 in
theorem new_c (v : Nat × Nat) (w : World) : Calls Tryz.prog 11 #[vw (v.1 : Int) (v.2 : Int)] w fun e w' => e = .returned (stv (newS v) nilS nilS nilS) ∧ Below w.heap.size w w' := by
  obtain ⟨va, vd⟩ := v
  simp only
  unfold vw
  go_enter Tryz.func11, Tryz.ntmps11
  go_wp2
  refine bodyPost_ret (results_state (g := w.heap.size + 1) (s := newS (va, vd)) (b := nilS) (c := nilS) (i := nilS) rfl rfl ?_) rfl ?_
  · exact hat _ _ _ (by simp)
  · exact ⟨rfl, bal (bal (Below.refl _ _) (Nat.le_refl _) _) (Nat.le_refl _) _⟩
theorem ors_new (w : World) (base : Nat) (v : Nat × Nat) : Ors w base (newS v) nilS nilS nilS [] [] := ⟨⟨Rg.own_noneG KB _ _, ⟨rfl, by simp⟩⟩, ⟨Rg.own_noneG KCs _ _, ⟨rfl, by simp⟩⟩, Rg.own_noneG KI _ _⟩
theorem ofS_snoc {v : Nat × Nat} {l : List R} {k : Nat} {r : R} (h : l[k]? = some r) : ofS v (l.take (k + 1)) = applyS (ofS v (l.take k)) r := by
  unfold ofS
  rw [take_snocR h, List.foldl_append]
  rfl
end Go.Proofs.YtfblnomkafimhaaGreat.Fow

namespace Go.Proofs.YtfblnomkafimhaaGreat.Fow
set_option maxRecDepth 20000
open Go.RowKit
open Chg Vw Cl Bk Lg Fo Clw Bkw
open Lgw (rvv Rx KR Sr Elv elv_at)
open Chgw (hat hbe vw ret_bool ret_i64 Vx)
open Rg (bal)

set_option maxHeartbeats 8000000 in
theorem fof_c (v : Nat × Nat) (hv : V64 v) (A : Option Addr) (n c : Nat) (l : List R) (w : World) (h : Sr w A n c l) (hok : ∀ r ∈ l, OkR r) : Calls Tryz.prog 18 #[vw (v.1 : Int) (v.2 : Int), .slice A n c] w (RetOw w (ofS v l)) := by
  have hsf := Lgw.store_flt
  have HN := Lib.hid h.1; have HR := Lib.hid h.2.2.2.2; have HOK := Lib.hid hok; have HV := Lib.hid hv
  have hl : n * 88 ≤ 140737488355328 := h.2.2.1
  clear h hok hv
  obtain ⟨va, vd⟩ := v
  have HNEW : Hid (∀ W, Calls Tryz.prog 11 #[.agg #[.int .i64 (va : Int), .int .i64 (vd : Int)]] W fun e w' => e = .returned (.agg #[.slice none 0 0, .slice none 0 0, .slice none 0 0, .int .i64 (va : Int), .int .i64 (vd : Int), .int .i64 0, .int .i64 0]) ∧ Below W.heap.size W w') := Lib.hid (fun W => new_c (va, vd) W)
  simp only
  unfold vw
  go_enter Tryz.func18, Tryz.ntmps18
  go_upto_region 1 with (fail)
  have HVV := Lib.hid (show Vx ((w.alloc (.cells #[.int .i64 (va : Int), .int .i64 (vd : Int)] 26)).alloc (.cells #[.slice none 0 0, .slice none 0 0, .slice none 0 0, .int .i64 0, .int .i64 0, .int .i64 0, .int .i64 0] 28)) w.heap.size va vd from hbe (hat _ _ _ rfl))
  have HZ := Lib.hid (show Sx ((w.alloc (.cells #[.int .i64 (va : Int), .int .i64 (vd : Int)] 26)).alloc (.cells #[.slice none 0 0, .slice none 0 0, .slice none 0 0, .int .i64 0, .int .i64 0, .int .i64 0, .int .i64 0] 28)) (w.heap.size + 1) zeroSt nilS nilS nilS from hat _ _ _ (by simp))
  have HB := Lib.hid (bal (bal (Below.refl w.heap.size w) (Nat.le_refl _) (.cells #[.int .i64 (va : Int), .int .i64 (vd : Int)] 26)) (Nat.le_refl _) (.cells #[.slice none 0 0, .slice none 0 0, .slice none 0 0, .int .i64 0, .int .i64 0, .int .i64 0, .int .i64 0] 28))
  generalize (w.alloc (.cells #[.int .i64 (va : Int), .int .i64 (vd : Int)] 26)).alloc (.cells #[.slice none 0 0, .slice none 0 0, .slice none 0 0, .int .i64 0, .int .i64 0, .int .i64 0, .int .i64 0] 28) = w1 at HVV HZ HB ⊢
  have HGZ := Lib.hid (show w.heap.size ≤ w.heap.size + 1 by omega)
  have v0 := HVV.out.c0; have v1 := HVV.out.c1
  generalize w.heap.size + 1 = gz at HZ HGZ ⊢
  go_upto_region 2 with (refine (HNEW.out w1).mono ?_; rintro e w2 ⟨rfl, hb2⟩)
  have HZ := Lib.hid (HZ.out.all hb2); have HB := Lib.hid (HB.out.trans (hb2.mono HB.out.size)); clear hb2 v0 v1 HVV HNEW
  have HX := Lib.hid (show Sx (w2.alloc (.cells #[.slice none 0 0, .slice none 0 0, .slice none 0 0, .int .i64 (va : Int), .int .i64 (vd : Int), .int .i64 0, .int .i64 0] 28)) w2.heap.size (ofS (va, vd) (l.take 0)) nilS nilS nilS from hat _ _ _ rfl)
  have HGS := Lib.hid HB.out.size
  have HNE := Lib.hid (show gz ≠ w2.heap.size from by have := HZ.out.lt; omega)
  have HZ := Lib.hid (show Sx (w2.alloc (.cells #[.slice none 0 0, .slice none 0 0, .slice none 0 0, .int .i64 (va : Int), .int .i64 (vd : Int), .int .i64 0, .int .i64 0] 28)) gz zeroSt nilS nilS nilS from hbe HZ.out)
  have HB := Lib.hid (bal HB.out (Nat.le_refl _) (.cells #[.slice none 0 0, .slice none 0 0, .slice none 0 0, .int .i64 (va : Int), .int .i64 (vd : Int), .int .i64 0, .int .i64 0] 28))
  generalize w2.alloc (.cells #[.slice none 0 0, .slice none 0 0, .slice none 0 0, .int .i64 (va : Int), .int .i64 (vd : Int), .int .i64 0, .int .i64 0] 28) = w3 at HX HZ HB ⊢
  generalize w2.heap.size = gs at HX HGS HNE ⊢
  go_wp2
  go_loopw [12] (fun i wr => ∃ (b c1 c2 : Sl) (xs ys : List ((Nat × Nat) × Sl)) (k : Nat), i = .int .i64 k ∧ k ≤ n ∧ Sx wr gs (ofS (va, vd) (l.take k)) b c1 c2 ∧ Ors wr w.heap.size (ofS (va, vd) (l.take k)) b c1 c2 xs ys ∧ Sx wr gz zeroSt nilS nilS nilS ∧ Below w.heap.size w wr) (fun i _ => n - (intOf i).toNat)
  case atStart => exact ⟨nilS, nilS, nilS, [], [], 0, rfl, by omega, HX.out, ors_new _ _ _, HZ.out, HB.out⟩
  case round =>
    clear HX HZ HB
    rename World => wl
    obtain ⟨b, c1, c2, xs, ys, k, rfl, hk, hx, ho, hz0, hb⟩ := hrel
    have HX := Lib.hid hx; have HO := Lib.hid ho; have HZ := Lib.hid hz0; have HB := Lib.hid hb
    have HWF := Lib.hid (wf_of (l := l.take k) HV.out (fun r hr => HOK.out r (List.mem_of_mem_take hr)))
    clear hx ho hz0 hb
    by_cases h : k < n
    · obtain ⟨bb, o, rfl, hbB, hcell⟩ := HR.out (by rw [← HN.out]; omega)
      have hkl : k < l.length := by rw [← HN.out]; exact h
      have hz : l[k]? = some l[k] := List.getElem?_eq_getElem hkl
      have hc0 := elv_at (fun j u hu => (HB.out.cell (p := ⟨bb, o + k * KR.k + j, none⟩) hbB).trans (hcell k l[k] hz j u hu))
      have hor := HOK.out l[k] (List.getElem_mem hkl)
      have HNX := Lib.hid (ofS_snoc (v := (va, vd)) hz)
      generalize l[k] = r at hc0 hor HNX
      have HOR := Lib.hid hor
      generalize ofS (va, vd) (l.take k) = s0 at HX HO HNX HWF
      clear hz hcell hkl hor hbB
      rw [show KR.k = 11 from rfl] at hc0
      obtain ⟨x0, x1, x2, x3, x4, x5, x6, x7, x8, x9, x10⟩ := hc0
      go_upto_region 5 with (fail)
      have HXR := Lib.hid (show Rx (wl.alloc (.cells #[.int .i64 r.kind, .int .i64 r.va, .int .i64 r.vd, .int .i64 r.cn, .int .i64 r.ca, .int .i64 r.cd, .int .i64 r.e.key, .int .i64 r.e.num, .int .i64 r.e.node, .float .f64 r.e.val, .int .i64 r.n] 60)) wl.heap.size r from hat _ _ _ rfl)
      have hbx := bal (Below.refl wl.heap.size wl) (Nat.le_refl _) (.cells #[.int .i64 r.kind, .int .i64 r.va, .int .i64 r.vd, .int .i64 r.cn, .int .i64 r.ca, .int .i64 r.cd, .int .i64 r.e.key, .int .i64 r.e.num, .int .i64 r.e.node, .float .f64 r.e.val, .int .i64 r.n] 60)
      have HX := Lib.hid (HX.out.all hbx); have HZ := Lib.hid (HZ.out.all hbx); have HO := Lib.hid (HO.out.below hbx)
      have HB := Lib.hid (HB.out.trans (hbx.mono HB.out.size)); clear hbx x0 x1 x2 x3 x4 x5 x6 x7 x8 x9 x10
      generalize wl.alloc (.cells #[.int .i64 r.kind, .int .i64 r.va, .int .i64 r.vd, .int .i64 r.cn, .int .i64 r.ca, .int .i64 r.cd, .int .i64 r.e.key, .int .i64 r.e.num, .int .i64 r.e.node, .float .f64 r.e.val, .int .i64 r.n] 60) = wm at HX HZ HO HXR HB ⊢
      generalize wl.heap.size = gr at HXR ⊢
      obtain ⟨y0, y1, y2, y3, y4, y5, y6, y7, y8, y9, y10⟩ := HXR.out.cs
      have HADD := Lib.hid (add_c gs s0 b c1 c2 xs ys w.heap.size wm HX.out HO.out HWF.out r HOR.out HB.out.size)
      unfold rvv at HADD
      go_wp2_with fail
      refine HADD.out.mono ?_
      rintro e w5 ⟨rfl, b', c1', c2', xs', ys', hx', ho', hf'⟩
      have HZ := Lib.hid (show Sx w5 gz zeroSt nilS nilS nilS from hf'.keep HZ.out ⟨HNE.out, HO.out.blk HZ.out (by decide) (by decide) (by decide)⟩)
      have HB := Lib.hid (hf'.belowB HB.out (Nat.le_refl _) (HO.out.past HGS.out))
      have HX := Lib.hid hx'; have HO := Lib.hid ho'
      clear hx' ho' hf' HADD y0 y1 y2 y3 y4 y5 y6 y7 y8 y9 y10 HXR
      go_wp2
      refine ⟨⟨b', c1', c2', xs', ys', k + 1, by go_num, by omega, ?_, ?_, HZ.out, HB.out⟩, by simp [intOf]; omega⟩
      · rw [HNX.out]; exact HX.out
      · rw [HNX.out]; exact HO.out
    · obtain rfl : k = n := by omega
      have hlt : l.take k = l := List.take_of_length_le (by rw [← HN.out]; omega)
      rw [hlt] at HX HO
      clear hlt hk HWF HR HOK
      generalize hsf2 : ofS (va, vd) l = sf at HX HO
      have HSF := Lib.hid hsf2; clear hsf2
      obtain ⟨z0, z1, z2, z3, z4, z5, z6⟩ := HX.out.cs
      obtain ⟨q0, q1, q2, q3, q4, q5, q6⟩ := HZ.out.cs
      have f0 := HZ.out.frozen 0; have f1 := HZ.out.frozen 1; have f2 := HZ.out.frozen 2; have f3 := HZ.out.frozen 3; have f4 := HZ.out.frozen 4; have f5 := HZ.out.frozen 5; have f6 := HZ.out.frozen 6
      have HPP := Lib.hid (HO.out.put HZ.out sf b c1 c2)
      have HBF := Lib.hid (show Below w.heap.size w (((((((wl.setCell ⟨gz, 0, none⟩ (.slice b.a b.n b.c)).setCell ⟨gz, 1, none⟩ (.slice c1.a c1.n c1.c)).setCell ⟨gz, 2, none⟩ (.slice c2.a c2.n c2.c)).setCell ⟨gz, 3, none⟩ (.int .i64 (sf.held.1 : Int))).setCell ⟨gz, 4, none⟩ (.int .i64 (sf.held.2 : Int))).setCell ⟨gz, 5, none⟩ (.int .i64 sf.inc)).setCell ⟨gz, 6, none⟩ (.int .i64 sf.last)) from (((((((HB.out.setCell HGZ.out _).setCell HGZ.out _).setCell HGZ.out _).setCell HGZ.out _).setCell HGZ.out _).setCell HGZ.out _).setCell HGZ.out _))
      go_wp2
      refine bodyPost_ret (results_state (g := gz) (s := sf) (b := b) (c := c1) (i := c2) rfl rfl HPP.out.2) rfl ?_
      refine ⟨b, c1, c2, xs, ys, ?_, ?_, HBF.out⟩
      · rw [HSF.out]
      · rw [HSF.out]; exact HPP.out.1
theorem fnew_c (v : Nat × Nat) (w : World) : Calls Tryz.prog 11 #[vw (v.1 : Int) (v.2 : Int)] w fun e w' => e = .returned (stv (newS v) nilS nilS nilS) ∧ Below w.heap.size w w' := new_c v w
end Go.Proofs.YtfblnomkafimhaaGreat.Fow
