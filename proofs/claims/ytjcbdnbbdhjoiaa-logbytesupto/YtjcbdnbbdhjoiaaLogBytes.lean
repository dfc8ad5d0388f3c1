/- LogBytes: which records can be, their bytes, and the records with which any bytes begin, are the document's. Conditions: what comes in holds together at most 1048576 values and letters. -/
import Derived.Test.YtjcbdnbbdhjoiaaRows
import Derived.Test.YtjcbdnbbdhjoiaaG01
import Derived.Test.YtjcbdnbbdhjoiaaG16
import Derived.Test.YtjcbdnbbdhjoiaaG17
import Derived.WalkKit
import Derived.ProofKit
import Derived.OpenShut
import Derived.Laws.Cover2
import Derived.SizedLaws
import Derived.JoinedCond
import Derived.Carry
set_option linter.unusedSimpArgs false
set_option linter.unusedVariables false
namespace Go.Proofs.Ytjcbdnbbdhjoiaa.logBytes
set_option maxRecDepth 20000
open Go.RowKit
open Bk Lg Wire Lgw
open Dk
open Tgw (hat hbe)
open Rg (bal)

set_option maxRecDepth 100000 in
set_option maxHeartbeats 4000000 in
theorem walk (w : World) (r : R) (hwf : WfE r.e) (A : Option Addr) (n c : Nat) (bs : List UInt8) (hn : n = bs.length) (hc : n ≤ c) (hr : Rd w w.heap.size A (bs.map B8)) (hl : c ≤ 1048576) :
    Calls Try.prog 4 #[rvv r, .slice A n c] w fun e w' => e = .returned (.bool true) ∧ Below w.heap.size w w' := by
  have HN := Lib.hid hn; have HR := Lib.hid hr; have HW := Lib.hid hwf
  have HB1 := Lib.hid (fun W => bytes_c r hwf W)
  have HB2 := Lib.hid (fun W => bytes_r r hwf.2.2.2 W)
  have HRC := Lib.hid (fun W => right_c r hwf W)
  have HRR := Lib.hid (fun W => right_r r hwf.2.2.2 W)
  clear hn hr hwf
  unfold rvv at HB1 HB2 HRC HRR ⊢
  go_enter Try.func4, Try.ntmps4
  go_wp2_with fail
  have HX := Lib.hid (show Rx (w.alloc (.cells #[.int .i64 r.kind, .int .i64 r.va, .int .i64 r.vd, .int .i64 r.cn, .int .i64 r.ca, .int .i64 r.cd, .int .i64 r.e.key, .int .i64 r.e.num, .int .i64 r.e.node, .float .f64 r.e.val, .int .i64 r.n] 40)) w.heap.size r from hat _ _ _ rfl)
  have HB := Lib.hid (bal (Below.refl w.heap.size w) (Nat.le_refl _) (.cells #[.int .i64 r.kind, .int .i64 r.va, .int .i64 r.vd, .int .i64 r.cn, .int .i64 r.ca, .int .i64 r.cd, .int .i64 r.e.key, .int .i64 r.e.num, .int .i64 r.e.node, .float .f64 r.e.val, .int .i64 r.n] 40))
  generalize w.alloc (.cells #[.int .i64 r.kind, .int .i64 r.va, .int .i64 r.vd, .int .i64 r.cn, .int .i64 r.ca, .int .i64 r.cd, .int .i64 r.e.key, .int .i64 r.e.num, .int .i64 r.e.node, .float .f64 r.e.val, .int .i64 r.n] 40) = w1 at HX HB ⊢
  refine (HB1.out _).mono ?_
  intro e w2 h2
  obtain ⟨A2, n2, c2, rfl, hn2, hc2, hr2, hb⟩ := h2.flat
  have HX := Lib.hid (HX.out.all hb)
  have HB := Lib.hid (HB.out.trans (hb.mono HB.out.size))
  have HN2 := Lib.hid hn2; have HR2 := Lib.hid hr2
  clear h2 hb hn2 hr2
  obtain ⟨z0, z1, z2, z3, z4, z5, z6, z7, z8, z9, z10⟩ := HX.out.cs
  go_wp2_with fail
  clear z0 z1 z2 z3 z4 z5 z6 z7 z8 z9 z10
  refine (HB2.out _).mono ?_
  intro e w3 h3
  obtain ⟨A3, n3, c3, rfl, hn3, hc3, hr3, hb⟩ := h3.flat
  have HX := Lib.hid (HX.out.all hb)
  have HB := Lib.hid (HB.out.trans (hb.mono HB.out.size))
  have HR2 := Lib.hid ((HR2.out.below hb).more hb.size)
  have HN3 := Lib.hid hn3; have HR3 := Lib.hid hr3
  clear h3 hb hn3 hr3
  generalize byE r = ee
  generalize byB r = LL at HN2 HR2 HN3 HR3
  go_wp2_with (at_builtin; refine wp_copy8 rfl (.tmp 24) (.tmp 25) rfl w3 rfl w.heap.size A n c bs rfl HN.out (HR.out.below HB.out) HB.out.size (by unfold big; omega) ?_; intro A4 c4 w4 ho4 hb4)
  have HO4 := Lib.hid ho4
  have HX := Lib.hid (HX.out.all hb4)
  have HB := Lib.hid (HB.out.trans (hb4.mono HB.out.size))
  have HR2 := Lib.hid ((HR2.out.below hb4).more hb4.size); have HR3 := Lib.hid ((HR3.out.below hb4).more hb4.size)
  clear ho4 hb4
  refine (scan_c A4 n c4 bs HN.out HO4.out.cap (by omega) w4 HO4.out.rd).mono ?_
  rintro e w5 ⟨A5, n5, c5, m5, rs5, rfl, hsc5, hsr5, hb⟩
  have HX := Lib.hid (HX.out.all hb)
  have HB := Lib.hid (HB.out.trans (hb.mono HB.out.size))
  have HR2 := Lib.hid ((HR2.out.below hb).more hb.size); have HR3 := Lib.hid ((HR3.out.below hb).more hb.size)
  have HSC5 := Lib.hid hsc5; have HSR5 := Lib.hid hsr5
  clear hb hsc5 hsr5 HO4
  have HRB := Lib.hid ((HR.out.below HB.out).more HB.out.size)
  go_wp2_with fail
  refine (scan_r A n c bs HN.out hc (by omega) w5 HRB.out).mono ?_
  rintro e w6 ⟨A6, n6, c6, m6, rs6, rfl, hsc6, hsr6, hb⟩
  obtain ⟨rfl, rfl⟩ := scans_one hsc6 HSC5.out
  have HX := Lib.hid (HX.out.all hb)
  have HB := Lib.hid (HB.out.trans (hb.mono HB.out.size))
  have HR2 := Lib.hid ((HR2.out.below hb).more hb.size); have HR3 := Lib.hid ((HR3.out.below hb).more hb.size)
  have HSR5 := Lib.hid (HSR5.out.all hb); have HSR6 := Lib.hid hsr6
  clear hb hsc6 hsr6 HSC5 HRB
  go_upto_region 5 with (fail)
  have HK : Hid (∀ W', Below w6.heap.size w6 W' → Elv W' w.heap.size 0 r ∧ (convert 41 9 (.slice A2 n2 c2)).run Try.prog W' = .ok (.string (str LL)) W' ∧ (convert 41 9 (.slice A3 n3 c3)).run Try.prog W' = .ok (.string (str LL)) W') := Lib.hid (fun W' h => ⟨elv_at (HX.out.all h).at, str8' c2 (HR2.out.below h) HN2.out, str8' c3 (HR3.out.below h) HN3.out⟩)
  have hsm := Dkw.str_same LL
  generalize rightR r = rr at HRC HRR
  refine wp_region_held_drew (S := fun W' => Below w6.heap.size w6 W') (by kernel_rfl) (Below.refl _ _).drew (fun hHeld => ?_)
  generalize w6.drew = v1 at hHeld ⊢
  have HB1 : Hid (Below w6.heap.size w6 v1) := hHeld
  clear hHeld
  refine wpAnyH_ready (rs := [0]) (by kernel_rfl) (by simp) ?_
  refine AllReadyH.cons (o := ⟨_, _, _, _, _, _⟩) rfl (fun K hK => ?_) AllReadyH.nil
  go_simp
  refine (log_alive_c _).mono ?_
  rintro e v2 ⟨rfl, hb⟩
  have HB2 := Lib.hid (HB1.out.trans (hb.mono HB1.out.size)); clear hb
  refine hK.out _ _ HB2.out (fun _ => ?_)
  clear hK K
  refine take_in (i := 1) (oi := ⟨_, _, _, _, _, _⟩) (v := ?_) rfl (by kernel_rfl) (by kernel_rfl) (by kernel_rfl) (fun _ _ _ h => h) (by rfl) ?_ HB2.out ?_
  rotate_left
  · intro W hW; have hq := HK.out W hW; unfold Elv at hq; go_simp; with_reducible rfl
  simp only [Act.put, List.setIfInBounds_toArray, List.set_cons_zero, List.set_cons_succ]
  refine take_in (i := 2) (oi := ⟨_, _, _, _, _, _⟩) (v := ?_) rfl (by kernel_rfl) (by kernel_rfl) (by kernel_rfl) (fun _ _ _ h => h) (by rfl) ?_ HB2.out ?_
  rotate_left
  · intro W hW; have hq := HK.out W hW; unfold Elv at hq; go_simp; with_reducible rfl
  simp only [Act.put, List.setIfInBounds_toArray, List.set_cons_zero, List.set_cons_succ]
  refine take_in (i := 4) (oi := ⟨_, _, _, _, _, _⟩) (v := ?_) rfl (by kernel_rfl) (by kernel_rfl) (by kernel_rfl) (fun _ _ _ h => h) (by rfl) ?_ HB2.out ?_
  rotate_left
  · intro W hW; have hq := HK.out W hW; unfold Elv at hq; go_simp; with_reducible rfl
  simp only [Act.put, List.setIfInBounds_toArray, List.set_cons_zero, List.set_cons_succ]
  refine wpAnyH_ready (rs := [3]) (by kernel_rfl) (by simp) ?_
  refine AllReadyH.cons (o := ⟨_, _, _, _, _, _⟩) rfl (fun K hK => ?_) AllReadyH.nil
  go_simp
  refine (HRC.out _).mono ?_
  rintro e v3 ⟨rfl, hb⟩
  have HB3 := Lib.hid (HB2.out.trans (hb.mono HB2.out.size)); clear hb
  refine hK.out _ _ HB3.out (fun _ => ?_)
  clear hK K
  refine wpAnyH_ready (rs := [5]) (by kernel_rfl) (by simp) ?_
  refine AllReadyH.cons (o := ⟨_, _, _, _, _, _⟩) rfl (fun K hK => ?_) AllReadyH.nil
  go_simp
  refine (HRR.out _).mono ?_
  rintro e v4 ⟨rfl, hb⟩
  have HB4 := Lib.hid (HB3.out.trans (hb.mono HB3.out.size)); clear hb
  refine hK.out _ _ HB4.out (fun _ => ?_)
  clear hK K
  refine take_in (i := 6) (oi := ⟨_, _, _, _, _, _⟩) (v := ?_) rfl (by kernel_rfl) (by kernel_rfl) (by kernel_rfl) (fun _ _ _ h => h) (by rfl) ?_ HB4.out ?_
  rotate_left
  · intro W hW; have hq := HK.out W hW; go_simp; with_reducible rfl
  simp only [Act.put, List.setIfInBounds_toArray, List.set_cons_zero, List.set_cons_succ]
  refine take_in (i := 7) (oi := ⟨_, _, _, _, _, _⟩) (v := ?_) rfl (by kernel_rfl) (by kernel_rfl) (by kernel_rfl) (fun _ _ _ h => h) (by rfl) ?_ HB4.out ?_
  rotate_left
  · intro W hW; have hq := HK.out W hW; go_simp; with_reducible rfl
  simp only [Act.put, List.setIfInBounds_toArray, List.set_cons_zero, List.set_cons_succ]
  refine take_in (i := 8) (oi := ⟨_, _, _, _, _, _⟩) (v := ?_) rfl (by kernel_rfl) (by kernel_rfl) (by kernel_rfl) (fun _ _ _ h => h) (by rfl) ?_ HB4.out ?_
  rotate_left
  · intro W hW; have hq := HK.out W hW; go_simp; with_reducible rfl
  simp only [Act.put, List.setIfInBounds_toArray, List.set_cons_zero, List.set_cons_succ]
  refine take_in (i := 9) (oi := ⟨_, _, _, _, _, _⟩) (v := ?_) rfl (by kernel_rfl) (by kernel_rfl) (by kernel_rfl) (fun _ _ _ h => h) (by rfl) ?_ HB4.out ?_
  rotate_left
  · intro W hW; have hq := HK.out W hW; go_simp; with_reducible rfl
  simp only [Act.put, List.setIfInBounds_toArray, List.set_cons_zero, List.set_cons_succ]
  refine take_in (i := 10) (oi := ⟨_, _, _, _, _, _⟩) (v := ?_) rfl (by kernel_rfl) (by kernel_rfl) (by kernel_rfl) (fun _ _ _ h => h) (by rfl) ?_ HB4.out ?_
  rotate_left
  · intro W hW; have hq := HK.out W hW; go_simp; with_reducible rfl
  simp only [Act.put, List.setIfInBounds_toArray, List.set_cons_zero, List.set_cons_succ]
  refine take_in (i := 11) (oi := ⟨_, _, _, _, _, _⟩) (v := ?_) rfl (by kernel_rfl) (by kernel_rfl) (by kernel_rfl) (fun _ _ _ h => h) (by rfl) ?_ HB4.out ?_
  rotate_left
  · intro W hW; have hq := HK.out W hW; go_simp; with_reducible rfl
  simp only [Act.put, List.setIfInBounds_toArray, List.set_cons_zero, List.set_cons_succ]
  refine take_in (i := 12) (oi := ⟨_, _, _, _, _, _⟩) (v := ?_) rfl (by kernel_rfl) (by kernel_rfl) (by kernel_rfl) (fun _ _ _ h => h) (by rfl) ?_ HB4.out ?_
  rotate_left
  · intro W hW; have hq := HK.out W hW; go_simp; with_reducible rfl
  simp only [Act.put, List.setIfInBounds_toArray, List.set_cons_zero, List.set_cons_succ]
  refine take_in (i := 13) (oi := ⟨_, _, _, _, _, _⟩) (v := ?_) rfl (by kernel_rfl) (by kernel_rfl) (by kernel_rfl) (fun _ _ _ h => h) (by rfl) ?_ HB4.out ?_
  rotate_left
  · intro W hW; have hq := HK.out W hW; go_simp; with_reducible rfl
  simp only [Act.put, List.setIfInBounds_toArray, List.set_cons_zero, List.set_cons_succ]
  refine take_in (i := 14) (oi := ⟨_, _, _, _, _, _⟩) (v := ?_) rfl (by kernel_rfl) (by kernel_rfl) (by kernel_rfl) (fun _ _ _ h => h) (by rfl) ?_ HB4.out ?_
  rotate_left
  · intro W hW; have hq := HK.out W hW; go_simp; with_reducible rfl
  simp only [Act.put, List.setIfInBounds_toArray, List.set_cons_zero, List.set_cons_succ]
  refine take_in (i := 15) (oi := ⟨_, _, _, _, _, _⟩) (v := ?_) rfl (by kernel_rfl) (by kernel_rfl) (by kernel_rfl) (fun _ _ _ h => h) (by rfl) ?_ HB4.out ?_
  rotate_left
  · intro W hW; have hq := HK.out W hW; go_simp; with_reducible rfl
  simp only [Act.put, List.setIfInBounds_toArray, List.set_cons_zero, List.set_cons_succ]
  refine take_in (i := 16) (oi := ⟨_, _, _, _, _, _⟩) (v := ?_) rfl (by kernel_rfl) (by kernel_rfl) (by kernel_rfl) (fun _ _ _ h => h) (by rfl) ?_ HB4.out ?_
  rotate_left
  · intro W hW; have hq := HK.out W hW; go_simp; with_reducible rfl
  simp only [Act.put, List.setIfInBounds_toArray, List.set_cons_zero, List.set_cons_succ]
  refine take_in (i := 17) (oi := ⟨_, _, _, _, _, _⟩) (v := ?_) rfl (by kernel_rfl) (by kernel_rfl) (by kernel_rfl) (fun _ _ _ h => h) (by rfl) ?_ HB4.out ?_
  rotate_left
  · intro W hW; have hq := HK.out W hW; go_simp; with_reducible rfl
  simp only [Act.put, List.setIfInBounds_toArray, List.set_cons_zero, List.set_cons_succ]
  refine take_in (i := 18) (oi := ⟨_, _, _, _, _, _⟩) (v := ?_) rfl (by kernel_rfl) (by kernel_rfl) (by kernel_rfl) (fun _ _ _ h => h) (by rfl) ?_ HB4.out ?_
  rotate_left
  · intro W hW; have hq := HK.out W hW; go_simp; with_reducible rfl
  simp only [Act.put, List.setIfInBounds_toArray, List.set_cons_zero, List.set_cons_succ]
  refine take_in (i := 19) (oi := ⟨_, _, _, _, _, _⟩) (v := ?_) rfl (by kernel_rfl) (by kernel_rfl) (by kernel_rfl) (fun _ _ _ h => h) (by rfl) ?_ HB4.out ?_
  rotate_left
  · intro W hW; have hq := HK.out W hW; go_simp; with_reducible rfl
  simp only [Act.put, List.setIfInBounds_toArray, List.set_cons_zero, List.set_cons_succ]
  refine take_in (i := 20) (oi := ⟨_, _, _, _, _, _⟩) (v := ?_) rfl (by kernel_rfl) (by kernel_rfl) (by kernel_rfl) (fun _ _ _ h => h) (by rfl) ?_ HB4.out ?_
  rotate_left
  · intro W hW; have hq := HK.out W hW; go_simp; with_reducible rfl
  simp only [Act.put, List.setIfInBounds_toArray, List.set_cons_zero, List.set_cons_succ]
  refine take_in (i := 21) (oi := ⟨_, _, _, _, _, _⟩) (v := ?_) rfl (by kernel_rfl) (by kernel_rfl) (by kernel_rfl) (fun _ _ _ h => h) (by rfl) ?_ HB4.out ?_
  rotate_left
  · intro W hW; have hq := HK.out W hW; go_simp; with_reducible rfl
  simp only [Act.put, List.setIfInBounds_toArray, List.set_cons_zero, List.set_cons_succ]
  refine take_in (i := 22) (oi := ⟨_, _, _, _, _, _⟩) (v := ?_) rfl (by kernel_rfl) (by kernel_rfl) (by kernel_rfl) (fun _ _ _ h => h) (by rfl) ?_ HB4.out ?_
  rotate_left
  · intro W hW; have hq := HK.out W hW; go_simp; with_reducible rfl
  simp only [Act.put, List.setIfInBounds_toArray, List.set_cons_zero, List.set_cons_succ]
  refine wpAnyH_ready (rs := [23]) (by kernel_rfl) (by simp) ?_
  refine AllReadyH.cons (o := ⟨_, _, _, _, _, _⟩) rfl (fun K hK => ?_) AllReadyH.nil
  go_simp
  refine (same_r A5 n5 c5 _ A6 n6 c6 _ _ (HSR5.out.all HB4.out) (HSR6.out.all HB4.out)).mono ?_
  rw [sameR_refl]
  rintro e v5 ⟨rfl, hb⟩
  have HB5 := Lib.hid (HB4.out.trans (hb.mono HB4.out.size)); clear hb
  refine hK.out _ _ HB5.out (fun _ => ?_)
  clear hK K
  refine take_in (i := 24) (oi := ⟨_, _, _, _, _, _⟩) (v := ?_) rfl (by kernel_rfl) (by kernel_rfl) (by kernel_rfl) (fun _ _ _ h => h) (by rfl) ?_ HB5.out ?_
  rotate_left
  · intro W hW; go_simp; with_reducible rfl
  simp only [Act.put, List.setIfInBounds_toArray, List.set_cons_zero, List.set_cons_succ]
  refine take_in (i := 25) (oi := ⟨_, _, _, _, _, _⟩) (v := ?_) rfl (by kernel_rfl) (by kernel_rfl) (by kernel_rfl) (fun _ _ _ h => h) (by rfl) ?_ HB5.out ?_
  rotate_left
  · intro W hW; go_simp; with_reducible rfl
  simp only [Act.put, List.setIfInBounds_toArray, List.set_cons_zero, List.set_cons_succ]
  refine take_in (i := 26) (oi := ⟨_, _, _, _, _, _⟩) (v := ?_) rfl (by kernel_rfl) (by kernel_rfl) (by kernel_rfl) (fun _ _ _ h => h) (by rfl) ?_ HB5.out ?_
  rotate_left
  · intro W hW; go_simp; with_reducible rfl
  simp only [Act.put, List.setIfInBounds_toArray, List.set_cons_zero, List.set_cons_succ]
  refine take_in (i := 27) (oi := ⟨_, _, _, _, _, _⟩) (v := ?_) rfl (by kernel_rfl) (by kernel_rfl) (by kernel_rfl) (fun _ _ _ h => h) (by rfl) ?_ HB5.out ?_
  rotate_left
  · intro W hW; go_simp; with_reducible rfl
  simp only [Act.put, List.setIfInBounds_toArray, List.set_cons_zero, List.set_cons_succ]
  refine take_in (i := 28) (oi := ⟨_, _, _, _, _, _⟩) (v := ?_) rfl (by kernel_rfl) (by kernel_rfl) (by kernel_rfl) (fun _ _ _ h => h) (by rfl) ?_ HB5.out ?_
  rotate_left
  · intro W hW; go_simp; with_reducible rfl
  simp only [Act.put, List.setIfInBounds_toArray, List.set_cons_zero, List.set_cons_succ]
  refine take_in (i := 29) (oi := ⟨_, _, _, _, _, _⟩) (v := ?_) rfl (by kernel_rfl) (by kernel_rfl) (by kernel_rfl) (fun _ _ _ h => h) (by rfl) ?_ HB5.out ?_
  rotate_left
  · intro W hW; go_simp; with_reducible rfl
  simp only [Act.put, List.setIfInBounds_toArray, List.set_cons_zero, List.set_cons_succ]
  refine take_in (i := 30) (oi := ⟨_, _, _, _, _, _⟩) (v := ?_) rfl (by kernel_rfl) (by kernel_rfl) (by kernel_rfl) (fun _ _ _ h => h) (by rfl) ?_ HB5.out ?_
  rotate_left
  · intro W hW; go_simp; with_reducible rfl
  simp only [Act.put, List.setIfInBounds_toArray, List.set_cons_zero, List.set_cons_succ]
  refine wpAnyH_done (by kernel_rfl) ?_ _
  go_wp2
  go_ret
  exact ⟨rfl, HB.out.trans (HB5.out.mono HB.out.size)⟩
end Go.Proofs.Ytjcbdnbbdhjoiaa.logBytes

namespace Go.Proofs.Ytjcbdnbbdhjoiaa
open Go.ChangeShapes Go.WideShapes Go.ChangeAt Go.RowKit

theorem logBytes_own : ownKnob Try.prog.godebug = none := by kernel_rfl
theorem logBytes_laid : laidOutB Try.prog = true := by kernel_rfl
theorem logBytes_cells5 : Try.prog.cellsOf 5 = 1 := by kernel_rfl
theorem logBytes_bytes5 : Try.prog.bytesOf 5 = 1 := by kernel_rfl

set_option maxRecDepth 100000 in
theorem logBytes_lifted (os : Os) (started : os.Started) (H : Type) (enc : TypeId × Value → H) (F : Stop.Interp) :
    ReturnsInHanded {} Try.checked os 4 .any ((Rows.OpenSpec.upto Rows.logBytesSpec).pre6 enc Try.prog Try.f4 Rows.logBytesUptoRow.domain false) (((Rows.OpenSpec.upto Rows.logBytesSpec).at F).post enc Try.prog Try.f4 false true false false) := by
  refine returnsInHanded_of_cond (C := Try.checked) (s := Rows.OpenSpec.upto Rows.logBytesSpec) (k := Rows.uptoSmall) rfl logBytes_own started (by kernel_rfl) Try.func4
    (OpenSpec.witness (enc := enc) (C := Try.checked) (s := Rows.OpenSpec.upto Rows.logBytesSpec) (k := Rows.uptoSmall) rfl false ⟨#[], #[.agg #[.int .i64 0, .int .i64 0, .int .i64 0, .int .i64 0, .int .i64 0, .int .i64 0, .int .i64 0, .int .i64 0, .int .i64 0, .float .f64 0, .int .i64 0], .slice none 0 0], []⟩ 8 (by kernel_rfl) (by kernel_rfl) (by kernel_rfl)
      (x := ([.agg [.lit (.int .i64 0), .agg [.lit (.int .i64 0), .lit (.int .i64 0)], .agg [.lit (.int .i64 0), .agg [.lit (.int .i64 0), .lit (.int .i64 0)]], .agg [.lit (.int .i64 0), .agg [.lit (.int .i64 0), .lit (.int .i64 0)], .lit (.float .f64 0)], .lit (.int .i64 0)], .nil], [], [])) (by kernel_rfl) rfl (by kernel_rfl)) ?_
  intro W base args ds gs before hval0 hW _ hk _
  have hval : ∀ (j : Nat) t v, Try.f4.params[j]? = some t → args[j]? = some v → Value.okWide Try.prog W .any base t v := hval0
  have hW' := hW
  obtain ⟨p, q, hA0, hV, rfl, hfz, hnd⟩ := hW
  have hA : DataW.TrodAll enc Try.prog W 0 (fun _ => true) true Try.f4.params.toList args.toList ds p := hA0
  rw [Try.params4] at hA hval
  obtain ⟨v0, vs0, d0, ds0, p0, q0, hargs, rfl, rfl, h0, r0⟩ := trodAll_cons hA
  obtain ⟨v1, vs1, d1, ds1, p1, q1, rfl, rfl, rfl, h1, r1⟩ := trodAll_cons r0
  obtain ⟨rfl, rfl, rfl⟩ := trodAll_nil r1
  obtain rfl : args = #[v0, v1] := by cases args; simp_all
  obtain ⟨rfl, rfl⟩ := trodVars_none hV
  clear hA0 hval0
  simp only [List.append_nil] at hW' hk
  have hk0 := h0
  have hlt0 : ∀ x ∈ p0, x.block < W.heap.size := (fun x hx => by have := hW'.lt x (by simp [hx]); simpa using this)
  obtain ⟨re0, rfl, hw0⟩ := open_rec (hval 0 40 v0 rfl rfl) h0
  have hk1 := h1
  have hlt1 : ∀ x ∈ p1, x.block < W.heap.size := (fun x hx => by have := hW'.lt x (by simp [hx]); simpa using this)
  obtain ⟨A1, n1, c1, l1, rfl, hn1, hc1, hr1, hd1⟩ := open_u8 Try.underlying41 Try.underlying5 logBytes_cells5 (hval 1 41 v1 rfl rfl) h1 hlt1
  have hb1 := upto_places hk (j := 1) rfl hd1
  refine (logBytes.walk W re0 hw0 A1 n1 c1 l1 hn1 hc1 hr1 hb1).mono fun e W' ⟨he, hb⟩ => ?_
  subst he
  exact ⟨_, rfl, _, _, _, [], _, [], hW', trodAll_cons_mk (shut_bool Try.underlying4 _) trodAll_mk0, (trodAll_cons_mk (Below.trod logBytes_laid (by kernel_rfl) (of_decide_eq_true (by kernel_rfl)) hk0 hb hlt0) (trodAll_cons_mk (Below.trod logBytes_laid (by kernel_rfl) (of_decide_eq_true (by kernel_rfl)) hk1 hb hlt1) trodAll_mk0)), rfl, hb.frame _, fun h => by cases h⟩

theorem logBytes_proved : Rows.LogBytesUptoSaid :=
  OpenClaim.holds_of_cond 4 Try.f4 rfl rfl rfl rfl rfl rfl rfl ⟨rfl, rfl, rfl, rfl, rfl⟩ rfl rfl rfl rfl rfl (by kernel_rfl) Try.func4 (by kernel_rfl)
    (of_decide_eq_true (by kernel_rfl)) (by unfold Func.isWrapper; first | (rw [if_pos (by decide +kernel)]; kernel_rfl) | (rw [if_neg (by decide +kernel)]; exact ⟨rfl, rfl⟩))
    (fun os started H enc _ F => logBytes_lifted os started H enc F)
#print axioms logBytes_proved
end Go.Proofs.Ytjcbdnbbdhjoiaa
