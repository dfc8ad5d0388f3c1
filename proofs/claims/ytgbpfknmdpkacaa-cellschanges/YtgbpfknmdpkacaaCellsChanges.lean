/- CellsChanges: The changes are just those that were written, each once and in order, and of more cells there are no fewer. Conditions: none. -/
import Derived.Test.YtgbpfknmdpkacaaRows
import Derived.Test.YtgbpfknmdpkacaaG17
import Derived.Test.YtgbpfknmdpkacaaG20
import Derived.Test.YtgbpfknmdpkacaaG22
import Derived.WalkKit
import Derived.ProofKit
import Derived.OpenShut
import Derived.Laws.Cover2
import Derived.SizedLaws
import Derived.JoinedCond
import Derived.Carry
set_option linter.unusedSimpArgs false
set_option linter.unusedVariables false
namespace Go.Proofs.Ytgbpfknmdpkacaa.cellsChanges
set_option maxRecDepth 20000
open Go.RowKit
open Chg Vw Cl Clw
open Chgw (hat hbe ret_bool vw Vi Vx)
open Rg (bal)

theorem chgs_size {l : List C} (h : isCl l = true) : ∀ v ∈ chgs l, v.1 < 64 ∧ v.2 < 64 ∧ 0 < cnt v.1 + cnt v.2 := by
  intro v hv
  obtain ⟨x, hx, rfl⟩ := List.mem_map.1 hv
  have hok := isCl_mem h hx
  have h1 := toV2_lt hok
  have h2 := (okC_iff x).1 hok
  have h3 := okC_size (x := x) (by omega) h1.2.2.1.symm h1.2.2.2.symm h1.1 h1.2.1
  rw [hok] at h3
  exact ⟨h1.1, h1.2.1, of_decide_eq_true h3.symm⟩
theorem srt_next {m : List V} (h : m.Pairwise (fun u v => less u v = true)) {j : Nat} {u v : V} (hu : m[j]? = some u) (hv : m[j + 1]? = some v) : less u v = true := by
  obtain ⟨h1, rfl⟩ := List.getElem?_eq_some_iff.1 hu
  obtain ⟨h2, rfl⟩ := List.getElem?_eq_some_iff.1 hv
  exact List.pairwise_iff_getElem.1 h j (j + 1) h1 h2 (by omega)
theorem chgs_merge {a b : List C} (ha : isCl a = true) (hb : isCl b = true) : ∀ v ∈ chgs a, v ∈ chgs (mergeC a b) := by
  intro v hv
  obtain ⟨x, hx, rfl⟩ := List.mem_map.1 hv
  have h := fnd_merge ha hb x.1
  rw [fnd_mem a (-1) ha x hx] at h
  exact List.mem_map.2 ⟨x, (fnd_some h).1, rfl⟩
set_option maxRecDepth 100000 in
set_option maxHeartbeats 2000000 in
theorem walk (w : World) (A : Option Addr) (n c : Nat) (es : List C) (ha : Sc w A n c es) (A2 : Option Addr) (n2 c2 : Nat) (fs : List C) (hb : Sc w A2 n2 c2 fs) :
    Calls Try.prog 6 #[.slice A n c, .slice A2 n2 c2] w fun e w' => e = .returned (.bool true) ∧ Below w.heap.size w w' := by
  have heq := Chgw.eq_view
  have HA := Lib.hid ha; have HF := Lib.hid hb
  clear ha hb
  have HB := Lib.hid (Below.refl w.heap.size w)
  go_enter Try.func6, Try.ntmps6
  go_wp2_with fail
  refine (cells_alive_c _).mono ?_
  rintro e w1 ⟨rfl, hb⟩
  have HA := Lib.hid (HA.out.all hb)
  have HF := Lib.hid (HF.out.all hb)
  have HB := Lib.hid (HB.out.trans (hb.mono HB.out.size)); clear hb
  go_wp2_with fail
  refine (check_c A n c es _ HA.out).mono ?_
  rintro e w2 ⟨rfl, hb⟩
  have HA := Lib.hid (HA.out.all hb)
  have HF := Lib.hid (HF.out.all hb)
  have HB := Lib.hid (HB.out.trans (hb.mono HB.out.size)); clear hb
  cases hbk : isCl es with
  | false =>
    rw [chkM_no hbk]
    clear hbk
    go_wp2
    go_ret
    exact ⟨rfl, HB.out⟩
  | true =>
  rw [chkM_yes hbk]
  have B1 := Lib.hid hbk; clear hbk
  go_wp2_with fail
  refine (check_c A2 n2 c2 fs _ HF.out).mono ?_
  rintro e w3 ⟨rfl, hb⟩
  have HA := Lib.hid (HA.out.all hb)
  have HF := Lib.hid (HF.out.all hb)
  have HB := Lib.hid (HB.out.trans (hb.mono HB.out.size)); clear hb
  cases hbk : isCl fs with
  | false =>
    rw [chkM_no hbk]
    clear hbk
    go_wp2
    go_ret
    exact ⟨rfl, HB.out⟩
  | true =>
  rw [chkM_yes hbk]
  have B2 := Lib.hid hbk; clear hbk
  go_wp2_with fail
  refine (changes_c A n c es _ HA.out B1.out).mono ?_
  rintro e w4 ⟨A5, n5, c5, m, rfl, hs1, hv1, hb⟩
  have HA := Lib.hid (HA.out.all hb)
  have HF := Lib.hid (HF.out.all hb)
  have HB := Lib.hid (HB.out.trans (hb.mono HB.out.size)); clear hb
  have HV := Lib.hid hv1; have HS := Lib.hid hs1; clear hv1 hs1
  have HN := Lib.hid HA.out.1; have HRA := Lib.hid HA.out.2.2.2; have HM := Lib.hid HV.out.1; have HRV := Lib.hid HV.out.2.2.2
  have hn6 : n ≤ 6 := by rw [HN.out]; exact cl_len B1.out
  have hm6 : n5 ≤ 6 := by have := HM.out; have := HN.out; have h3 := HS.out.len; unfold chgs at h3; rw [List.length_map] at h3; omega
  have HOK := Lib.hid (fun x hx => toV2_lt (isCl_mem B1.out (x := x) hx))
  have HSZ := Lib.hid (chgs_size B1.out)
  have HVN := Lib.hid (show (chgs es).length = n from by unfold chgs; rw [List.length_map, HN.out])
  generalize w4 = w0 at HA HF HV HB HRA HRV ⊢
  go_wp2
  go_loopw [30] (fun i wr => ∃ k : Nat, i = .int .i64 k ∧ k ≤ n5 ∧ Below w0.heap.size w0 wr) (fun i _ => n5 - (intOf i).toNat)
  case atStart => exact ⟨0, rfl, by omega, Below.refl _ _⟩
  case round =>
    rename World => wp
    obtain ⟨k, rfl, hk, hb⟩ := hrel
    have HL := Lib.hid hb; clear hb
    have hszp := HL.out.size
    by_cases h : k < n5
    · obtain ⟨b, o, rfl, hbB, hcell⟩ := HRV.out (by rw [← HM.out]; omega)
      have hkl : k < m.length := by rw [← HM.out]; exact h
      have hz : m[k]? = some m[k] := List.getElem?_eq_getElem hkl
      have hc0 := hcell k m[k] hz
      have hmem := (HS.out.2 m[k]).1 (List.getElem_mem hkl)
      have hv6 := HSZ.out _ hmem
      have HMEM := Lib.hid hmem
      have HPREV : Hid (∀ j u, k = j + 1 → m[j]? = some u → less u m[k] = true) := Lib.hid (fun j u e hu => by
        subst e
        exact srt_next HS.out.1 hu hz)
      have HRVC := Lib.hid hcell
      generalize m[k] = v at hc0 hv6 HMEM HPREV
      obtain ⟨va, vd⟩ := v
      obtain ⟨hva, hvd, hvs⟩ := hv6
      have HVS := Lib.hid hvs; clear hvs
      simp only at hva hvd
      obtain ⟨x0, x1⟩ := hc0
      have x0 := (HL.out.cell (p := ⟨b, o + k * 2, none⟩) hbB).trans x0
      have x1 := (HL.out.cell (p := ⟨b, o + k * 2 + 1, none⟩) hbB).trans x1
      simp only at x0 x1
      clear hz hcell hkl hmem
      go_wp2
      clear x0 x1
      go_loopw [37, 8] (fun j hh wj => ∃ (q : Nat) (hd : Bool), j = .int .i64 q ∧ hh = .bool hd ∧ q ≤ n ∧ (hd = true ↔ (va, vd) ∈ (chgs es).take q) ∧ Vx wj wp.heap.size va vd ∧ Below w0.heap.size w0 wj ∧ wp.heap.size < wj.heap.size) (fun j _ _ => n - (intOf j).toNat)
      case atStart => exact ⟨0, false, rfl, rfl, by omega, by simp, hat _ _ _ rfl, bal HL.out (Nat.le_refl _) _, by simp⟩
      case round =>
        rename World => wj
        obtain ⟨q, hd, rfl, rfl, hq, hin, hvx, hbl, hgl⟩ := hrel
        have HIN := Lib.hid hin; have VB := Lib.hid hvx; have HBL := Lib.hid hbl
        clear hin hvx hbl
        by_cases hlt : q < n
        · obtain ⟨b5, o5, rfl, hb5, hcell5⟩ := HRA.out (by rw [← HN.out]; omega)
          have hql : q < es.length := by rw [← HN.out]; exact hlt
          have hz5 : es[q]? = some es[q] := List.getElem?_eq_getElem hql
          have hc5 := (tri_at (hcell5 q es[q] hz5)).below HBL.out hb5
          have hx4 := HOK.out es[q] (List.getElem_mem hql)
          have HNX : Hid ((va, vd) ∈ (chgs es).take (q + 1) ↔ (va, vd) ∈ (chgs es).take q ∨ (va, vd) = toV2 es[q]) := Lib.hid (by
            rw [take_snocC (x := toV2 es[q]) (by unfold chgs; rw [List.getElem?_map, hz5]; rfl), List.mem_append, List.mem_singleton])
          generalize toV2 es[q] = u at hx4 HNX
          obtain ⟨ua, ud⟩ := u
          obtain ⟨_, _, hx1, hx2⟩ := hx4
          obtain ⟨x0, x1, x2⟩ := hc5
          rw [show KC.k = 3 from rfl] at x0 x1 x2
          simp only at hx1 hx2
          rw [← hx1] at x1
          rw [← hx2] at x2
          generalize es[q].1 = xk at x0
          clear hz5 hql hcell5 hx1 hx2
          have v0 : (wj.alloc (.cells #[.int .i64 xk, .int .i64 (ua : Int), .int .i64 (ud : Int)] 38)).cell? ⟨wp.heap.size, 0, none⟩ = some (.int .i64 (va : Int)) := Vx.c0 (hbe VB.out)
          have v1 : (wj.alloc (.cells #[.int .i64 xk, .int .i64 (ua : Int), .int .i64 (ud : Int)] 38)).cell? ⟨wp.heap.size, 1, none⟩ = some (.int .i64 (vd : Int)) := Vx.c1 (hbe VB.out)
          cases hd with
          | true =>
            have HMM : Hid ((true = true ↔ (va, vd) ∈ (chgs es).take (q + 1))) := Lib.hid ⟨fun _ => HNX.out.2 (Or.inl (HIN.out.1 rfl)), fun _ => rfl⟩
            clear HIN HNX
            go_wp2
            exact ⟨⟨q + 1, true, by go_num, rfl, by omega, HMM.out, hbe VB.out, bal HBL.out (Nat.le_refl _) _, by simp; omega⟩, by simp [intOf]; omega⟩
          | false =>
            cases hv : ((ua : Int) == (va : Int) && (ud : Int) == (vd : Int)) with
            | true =>
              have HMM : Hid ((true = true ↔ (va, vd) ∈ (chgs es).take (q + 1))) := Lib.hid ⟨fun _ => HNX.out.2 (Or.inr (by
                simp only [Bool.and_eq_true, beq_iff_eq] at hv
                rw [Prod.mk.injEq]
                omega)), fun _ => rfl⟩
              clear HIN HNX
              go_wp2
              exact ⟨⟨q + 1, true, by go_num, rfl, by omega, HMM.out, hbe VB.out, bal HBL.out (Nat.le_refl _) _, by simp; omega⟩, by simp [intOf]; omega⟩
            | false =>
              have HMM : Hid ((false = true ↔ (va, vd) ∈ (chgs es).take (q + 1))) := Lib.hid ⟨(fun h => by cases h), fun h => by
                rcases HNX.out.1 h with h | h
                · exact HIN.out.2 h
                · exfalso
                  rw [Prod.mk.injEq] at h
                  rw [← Bool.not_eq_true] at hv
                  apply hv
                  rw [h.1, h.2]
                  simp⟩
              clear HIN HNX
              go_wp2
              exact ⟨⟨q + 1, false, by go_num, rfl, by omega, HMM.out, hbe VB.out, bal HBL.out (Nat.le_refl _) _, by simp; omega⟩, by simp [intOf]; omega⟩
        · obtain rfl : q = n := by omega
          obtain rfl : hd = true := HIN.out.2 (by rw [List.take_of_length_le (by rw [HVN.out]; omega)]; exact HMEM.out)
          clear HIN
          have HCV := Lib.hid (Chgw.size_c va vd hva hvd)
          generalize cnt va + cnt vd = sz at HVS HCV
          have hsz0 : ((sz : Int) == 0) = false := by rw [beq_eq_false_iff_ne]; have := HVS.out; omega
          cases k with
          | zero =>
            go_wp2_with fail
            have HK : Hid (∀ W', Below wj.heap.size wj W' → W'.cell? ⟨wp.heap.size, 0, none⟩ = some (.int .i64 (va : Int)) ∧ W'.cell? ⟨wp.heap.size, 1, none⟩ = some (.int .i64 (vd : Int))) := Lib.hid (fun W' h => ⟨(VB.out.below h VB.out.lt).c0, (VB.out.below h VB.out.lt).c1⟩)
            refine wp_region_held_drew (S := fun W' => Below wj.heap.size wj W') (by kernel_rfl) (Below.refl _ _).drew (fun hHeld => ?_)
            generalize wj.drew = w5 at hHeld ⊢
            have HB5 : Hid (Below wj.heap.size wj w5) := hHeld
            clear hHeld
            refine take_in (i := 0) (oi := ⟨_, _, _, _, _, _⟩) (v := ?_) rfl (by kernel_rfl) (by kernel_rfl) (by kernel_rfl) (fun _ _ _ h => h) (by rfl) ?_ HB5.out ?_
            rotate_left
            · intro W hW; have hq := HK.out W hW; go_simp; with_reducible rfl
            simp only [Act.put, List.setIfInBounds_toArray, List.set_cons_zero, List.set_cons_succ]
            refine take_in (i := 1) (oi := ⟨_, _, _, _, _, _⟩) (v := ?_) rfl (by kernel_rfl) (by kernel_rfl) (by kernel_rfl) (fun _ _ _ h => h) (by rfl) ?_ HB5.out ?_
            rotate_left
            · intro W hW; have hq := HK.out W hW; go_simp; with_reducible rfl
            simp only [Act.put, List.setIfInBounds_toArray, List.set_cons_zero, List.set_cons_succ]
            refine take_in (i := 2) (oi := ⟨_, _, _, _, _, _⟩) (v := ?_) rfl (by kernel_rfl) (by kernel_rfl) (by kernel_rfl) (fun _ _ _ h => h) (by rfl) ?_ HB5.out ?_
            rotate_left
            · intro W hW; have hq := HK.out W hW; go_simp; with_reducible rfl
            simp only [Act.put, List.setIfInBounds_toArray, List.set_cons_zero, List.set_cons_succ]
            refine take_in (i := 3) (oi := ⟨_, _, _, _, _, _⟩) (v := ?_) rfl (by kernel_rfl) (by kernel_rfl) (by kernel_rfl) (fun _ _ _ h => h) (by rfl) ?_ HB5.out ?_
            rotate_left
            · intro W hW; have hq := HK.out W hW; go_simp; with_reducible rfl
            simp only [Act.put, List.setIfInBounds_toArray, List.set_cons_zero, List.set_cons_succ]
            refine take_in (i := 4) (oi := ⟨_, _, _, _, _, _⟩) (v := ?_) rfl (by kernel_rfl) (by kernel_rfl) (by kernel_rfl) (fun _ _ _ h => h) (by rfl) ?_ HB5.out ?_
            rotate_left
            · intro W hW; have hq := HK.out W hW; go_simp; with_reducible rfl
            simp only [Act.put, List.setIfInBounds_toArray, List.set_cons_zero, List.set_cons_succ]
            refine take_in (i := 5) (oi := ⟨_, _, _, _, _, _⟩) (v := ?_) rfl (by kernel_rfl) (by kernel_rfl) (by kernel_rfl) (fun _ _ _ h => h) (by rfl) ?_ HB5.out ?_
            rotate_left
            · intro W hW; have hq := HK.out W hW; go_simp; with_reducible rfl
            simp only [Act.put, List.setIfInBounds_toArray, List.set_cons_zero, List.set_cons_succ]
            refine skip_in (i := 6) (oi := ⟨_, _, _, _, _, _⟩) rfl (by kernel_rfl) (by kernel_rfl) (by kernel_rfl) (fun _ _ _ h => h) (by rfl) HB5.out ?_
            simp only [Act.put, List.setIfInBounds_toArray, List.set_cons_zero, List.set_cons_succ]
            refine skip_in (i := 7) (oi := ⟨_, _, _, _, _, _⟩) rfl (by kernel_rfl) (by kernel_rfl) (by kernel_rfl) (fun _ _ _ h => h) (by rfl) HB5.out ?_
            simp only [Act.put, List.setIfInBounds_toArray, List.set_cons_zero, List.set_cons_succ]
            refine skip_in (i := 8) (oi := ⟨_, _, _, _, _, _⟩) rfl (by kernel_rfl) (by kernel_rfl) (by kernel_rfl) (fun _ _ _ h => h) (by rfl) HB5.out ?_
            simp only [Act.put, List.setIfInBounds_toArray, List.set_cons_zero, List.set_cons_succ]
            refine skip_in (i := 9) (oi := ⟨_, _, _, _, _, _⟩) rfl (by kernel_rfl) (by kernel_rfl) (by kernel_rfl) (fun _ _ _ h => h) (by rfl) HB5.out ?_
            simp only [Act.put, List.setIfInBounds_toArray, List.set_cons_zero, List.set_cons_succ]
            refine skip_in (i := 10) (oi := ⟨_, _, _, _, _, _⟩) rfl (by kernel_rfl) (by kernel_rfl) (by kernel_rfl) (fun _ _ _ h => h) (by rfl) HB5.out ?_
            simp only [Act.put, List.setIfInBounds_toArray, List.set_cons_zero, List.set_cons_succ]
            refine skip_in (i := 11) (oi := ⟨_, _, _, _, _, _⟩) rfl (by kernel_rfl) (by kernel_rfl) (by kernel_rfl) (fun _ _ _ h => h) (by rfl) HB5.out ?_
            simp only [Act.put, List.setIfInBounds_toArray, List.set_cons_zero, List.set_cons_succ]
            refine skip_in (i := 12) (oi := ⟨_, _, _, _, _, _⟩) rfl (by kernel_rfl) (by kernel_rfl) (by kernel_rfl) (fun _ _ _ h => h) (by rfl) HB5.out ?_
            simp only [Act.put, List.setIfInBounds_toArray, List.set_cons_zero, List.set_cons_succ]
            refine skip_in (i := 13) (oi := ⟨_, _, _, _, _, _⟩) rfl (by kernel_rfl) (by kernel_rfl) (by kernel_rfl) (fun _ _ _ h => h) (by rfl) HB5.out ?_
            simp only [Act.put, List.setIfInBounds_toArray, List.set_cons_zero, List.set_cons_succ]
            refine take_in (i := 14) (oi := ⟨_, _, _, _, _, _⟩) (v := ?_) rfl (by kernel_rfl) (by kernel_rfl) (by kernel_rfl) (fun _ _ _ h => h) (by rfl) ?_ HB5.out ?_
            rotate_left
            · intro W hW; have hq := HK.out W hW; go_simp; with_reducible rfl
            simp only [Act.put, List.setIfInBounds_toArray, List.set_cons_zero, List.set_cons_succ]
            refine take_in (i := 15) (oi := ⟨_, _, _, _, _, _⟩) (v := ?_) rfl (by kernel_rfl) (by kernel_rfl) (by kernel_rfl) (fun _ _ _ h => h) (by rfl) ?_ HB5.out ?_
            rotate_left
            · intro W hW; have hq := HK.out W hW; go_simp; with_reducible rfl
            simp only [Act.put, List.setIfInBounds_toArray, List.set_cons_zero, List.set_cons_succ]
            refine take_in (i := 16) (oi := ⟨_, _, _, _, _, _⟩) (v := ?_) rfl (by kernel_rfl) (by kernel_rfl) (by kernel_rfl) (fun _ _ _ h => h) (by rfl) ?_ HB5.out ?_
            rotate_left
            · intro W hW; have hq := HK.out W hW; go_simp; with_reducible rfl
            simp only [Act.put, List.setIfInBounds_toArray, List.set_cons_zero, List.set_cons_succ]
            refine take_in (i := 17) (oi := ⟨_, _, _, _, _, _⟩) (v := ?_) rfl (by kernel_rfl) (by kernel_rfl) (by kernel_rfl) (fun _ _ _ h => h) (by rfl) ?_ HB5.out ?_
            rotate_left
            · intro W hW; have hq := HK.out W hW; go_simp; with_reducible rfl
            simp only [Act.put, List.setIfInBounds_toArray, List.set_cons_zero, List.set_cons_succ]
            refine wpAnyH_ready (rs := [18]) (by kernel_rfl) (by simp) ?_
            refine AllReadyH.cons (o := ⟨_, _, _, _, _, _⟩) rfl (fun K hK => ?_) AllReadyH.nil
            go_simp
            refine (HCV.out _).mono ?_
            rintro e w6 ⟨rfl, hb6⟩
            have HB6 := Lib.hid (HB5.out.trans (hb6.mono HB5.out.size)); clear hb6
            refine hK.out _ _ HB6.out (fun _ => ?_)
            clear hK K
            refine take_in (i := 19) (oi := ⟨_, _, _, _, _, _⟩) (v := ?_) rfl (by kernel_rfl) (by kernel_rfl) (by kernel_rfl) (fun _ _ _ h => h) (by rfl) ?_ HB6.out ?_
            rotate_left
            · intro W hW; go_simp; with_reducible rfl
            simp only [Act.put, List.setIfInBounds_toArray, List.set_cons_zero, List.set_cons_succ]
            refine take_in (i := 20) (oi := ⟨_, _, _, _, _, _⟩) (v := ?_) rfl (by kernel_rfl) (by kernel_rfl) (by kernel_rfl) (fun _ _ _ h => h) (by rfl) ?_ HB6.out ?_
            rotate_left
            · intro W hW; go_simp; with_reducible rfl
            simp only [Act.put, List.setIfInBounds_toArray, List.set_cons_zero, List.set_cons_succ]
            refine wpAnyH_done (by kernel_rfl) ?_ _
            go_wp2
            exact ⟨⟨1, by go_num, by omega, HBL.out.trans (HB6.out.mono HBL.out.size)⟩, by simp [intOf]; omega⟩
          | succ j =>
            have hjl : j < m.length := by rw [← HM.out]; omega
            have hzj : m[j]? = some m[j] := List.getElem?_eq_getElem hjl
            have hcj := HRVC.out j m[j] hzj
            have hlj := HPREV.out j _ rfl hzj
            have hj6 := HSZ.out _ ((HS.out.2 m[j]).1 (List.getElem_mem hjl))
            generalize m[j] = u at hcj hlj hj6
            obtain ⟨ua, ud⟩ := u
            obtain ⟨hua, hud, _⟩ := hj6
            simp only at hua hud
            have HLESS := Lib.hid (fun W => vless_g (ua, ud) (va, vd) ⟨hua, hud⟩ ⟨hva, hvd⟩ W)
            have HLJ := Lib.hid hlj
            have HCJ : Hid (∀ W', Below wj.heap.size wj W' → W'.cell? ⟨b, o + j * 2, none⟩ = some (.int .i64 (ua : Int)) ∧ W'.cell? ⟨b, o + j * 2 + 1, none⟩ = some (.int .i64 (ud : Int))) := Lib.hid (fun W' h => ⟨((HBL.out.trans (h.mono HBL.out.size)).cell (p := ⟨b, o + j * 2, none⟩) hbB).trans hcj.1, ((HBL.out.trans (h.mono HBL.out.size)).cell (p := ⟨b, o + j * 2 + 1, none⟩) hbB).trans hcj.2⟩)
            clear hcj hlj hzj hjl
            go_wp2_with fail
            have HK : Hid (∀ W', Below wj.heap.size wj W' → (W'.cell? ⟨wp.heap.size, 0, none⟩ = some (.int .i64 (va : Int)) ∧ W'.cell? ⟨wp.heap.size, 1, none⟩ = some (.int .i64 (vd : Int))) ∧ W'.cell? ⟨b, o + j * 2, none⟩ = some (.int .i64 (ua : Int)) ∧ W'.cell? ⟨b, o + j * 2 + 1, none⟩ = some (.int .i64 (ud : Int))) := Lib.hid (fun W' h => ⟨⟨(VB.out.below h VB.out.lt).c0, (VB.out.below h VB.out.lt).c1⟩, HCJ.out W' h⟩)
            have hw1 : IntKind.i64.wrap (j : Int) = (j : Int) := by simp [IntKind.wrap, IntKind.bits, IntKind.signed]; omega
            have hjn : j < n5 := by omega
            have hjp : (0 : Int) < (j : Int) + 1 := by omega
            refine wp_region_held_drew (S := fun W' => Below wj.heap.size wj W') (by kernel_rfl) (Below.refl _ _).drew (fun hHeld => ?_)
            generalize wj.drew = w5 at hHeld ⊢
            have HB5 : Hid (Below wj.heap.size wj w5) := hHeld
            clear hHeld
            refine take_in (i := 0) (oi := ⟨_, _, _, _, _, _⟩) (v := ?_) rfl (by kernel_rfl) (by kernel_rfl) (by kernel_rfl) (fun _ _ _ h => h) (by rfl) ?_ HB5.out ?_
            rotate_left
            · intro W hW; have hq := HK.out W hW; go_simp; with_reducible rfl
            simp only [Act.put, List.setIfInBounds_toArray, List.set_cons_zero, List.set_cons_succ]
            refine take_in (i := 1) (oi := ⟨_, _, _, _, _, _⟩) (v := ?_) rfl (by kernel_rfl) (by kernel_rfl) (by kernel_rfl) (fun _ _ _ h => h) (by rfl) ?_ HB5.out ?_
            rotate_left
            · intro W hW; have hq := HK.out W hW; go_simp; with_reducible rfl
            simp only [Act.put, List.setIfInBounds_toArray, List.set_cons_zero, List.set_cons_succ]
            refine take_in (i := 2) (oi := ⟨_, _, _, _, _, _⟩) (v := ?_) rfl (by kernel_rfl) (by kernel_rfl) (by kernel_rfl) (fun _ _ _ h => h) (by rfl) ?_ HB5.out ?_
            rotate_left
            · intro W hW; have hq := HK.out W hW; go_simp; with_reducible rfl
            simp only [Act.put, List.setIfInBounds_toArray, List.set_cons_zero, List.set_cons_succ]
            refine take_in (i := 3) (oi := ⟨_, _, _, _, _, _⟩) (v := ?_) rfl (by kernel_rfl) (by kernel_rfl) (by kernel_rfl) (fun _ _ _ h => h) (by rfl) ?_ HB5.out ?_
            rotate_left
            · intro W hW; have hq := HK.out W hW; go_simp; with_reducible rfl
            simp only [Act.put, List.setIfInBounds_toArray, List.set_cons_zero, List.set_cons_succ]
            refine take_in (i := 4) (oi := ⟨_, _, _, _, _, _⟩) (v := ?_) rfl (by kernel_rfl) (by kernel_rfl) (by kernel_rfl) (fun _ _ _ h => h) (by rfl) ?_ HB5.out ?_
            rotate_left
            · intro W hW; have hq := HK.out W hW; go_simp; with_reducible rfl
            simp only [Act.put, List.setIfInBounds_toArray, List.set_cons_zero, List.set_cons_succ]
            refine take_in (i := 5) (oi := ⟨_, _, _, _, _, _⟩) (v := ?_) rfl (by kernel_rfl) (by kernel_rfl) (by kernel_rfl) (fun _ _ _ h => h) (by rfl) ?_ HB5.out ?_
            rotate_left
            · intro W hW; have hq := HK.out W hW; go_simp; with_reducible rfl
            simp only [Act.put, List.setIfInBounds_toArray, List.set_cons_zero, List.set_cons_succ]
            refine take_in (i := 6) (oi := ⟨_, _, _, _, _, _⟩) (v := ?_) rfl (by kernel_rfl) (by kernel_rfl) (by kernel_rfl) (fun _ _ _ h => h) (by rfl) ?_ HB5.out ?_
            rotate_left
            · intro W hW; have hq := HK.out W hW; go_simp; with_reducible rfl
            simp only [Act.put, List.setIfInBounds_toArray, List.set_cons_zero, List.set_cons_succ]
            refine take_in (i := 7) (oi := ⟨_, _, _, _, _, _⟩) (v := ?_) rfl (by kernel_rfl) (by kernel_rfl) (by kernel_rfl) (fun _ _ _ h => h) (by rfl) ?_ HB5.out ?_
            rotate_left
            · intro W hW; have hq := HK.out W hW; go_simp; with_reducible rfl
            simp only [Act.put, List.setIfInBounds_toArray, List.set_cons_zero, List.set_cons_succ]
            refine take_in (i := 8) (oi := ⟨_, _, _, _, _, _⟩) (v := ?_) rfl (by kernel_rfl) (by kernel_rfl) (by kernel_rfl) (fun _ _ _ h => h) (by rfl) ?_ HB5.out ?_
            rotate_left
            · intro W hW; have hq := HK.out W hW; go_simp; with_reducible rfl
            simp only [Act.put, List.setIfInBounds_toArray, List.set_cons_zero, List.set_cons_succ]
            refine take_in (i := 9) (oi := ⟨_, _, _, _, _, _⟩) (v := ?_) rfl (by kernel_rfl) (by kernel_rfl) (by kernel_rfl) (fun _ _ _ h => h) (by rfl) ?_ HB5.out ?_
            rotate_left
            · intro W hW; have hq := HK.out W hW; go_simp; with_reducible rfl
            simp only [Act.put, List.setIfInBounds_toArray, List.set_cons_zero, List.set_cons_succ]
            refine take_in (i := 10) (oi := ⟨_, _, _, _, _, _⟩) (v := ?_) rfl (by kernel_rfl) (by kernel_rfl) (by kernel_rfl) (fun _ _ _ h => h) (by rfl) ?_ HB5.out ?_
            rotate_left
            · intro W hW; have hq := HK.out W hW; go_simp; with_reducible rfl
            simp only [Act.put, List.setIfInBounds_toArray, List.set_cons_zero, List.set_cons_succ]
            refine take_in (i := 11) (oi := ⟨_, _, _, _, _, _⟩) (v := ?_) rfl (by kernel_rfl) (by kernel_rfl) (by kernel_rfl) (fun _ _ _ h => h) (by rfl) ?_ HB5.out ?_
            rotate_left
            · intro W hW; have hq := HK.out W hW; go_simp; with_reducible rfl
            simp only [Act.put, List.setIfInBounds_toArray, List.set_cons_zero, List.set_cons_succ]
            refine wpAnyH_ready (rs := [12]) (by kernel_rfl) (by simp) ?_
            refine AllReadyH.cons (o := ⟨_, _, _, _, _, _⟩) rfl (fun K hK => ?_) AllReadyH.nil
            go_simp
            refine (HLESS.out _).mono ?_
            rw [HLJ.out]
            rintro e w6 ⟨rfl, hb6⟩
            have HB6 := Lib.hid (HB5.out.trans (hb6.below.mono HB5.out.size)); clear hb6
            refine hK.out _ _ HB6.out (fun _ => ?_)
            clear hK K
            refine take_in (i := 13) (oi := ⟨_, _, _, _, _, _⟩) (v := ?_) rfl (by kernel_rfl) (by kernel_rfl) (by kernel_rfl) (fun _ _ _ h => h) (by rfl) ?_ HB6.out ?_
            rotate_left
            · intro W hW; have hq := HK.out W hW; go_simp; with_reducible rfl
            simp only [Act.put, List.setIfInBounds_toArray, List.set_cons_zero, List.set_cons_succ]
            refine take_in (i := 14) (oi := ⟨_, _, _, _, _, _⟩) (v := ?_) rfl (by kernel_rfl) (by kernel_rfl) (by kernel_rfl) (fun _ _ _ h => h) (by rfl) ?_ HB6.out ?_
            rotate_left
            · intro W hW; have hq := HK.out W hW; go_simp; with_reducible rfl
            simp only [Act.put, List.setIfInBounds_toArray, List.set_cons_zero, List.set_cons_succ]
            refine take_in (i := 15) (oi := ⟨_, _, _, _, _, _⟩) (v := ?_) rfl (by kernel_rfl) (by kernel_rfl) (by kernel_rfl) (fun _ _ _ h => h) (by rfl) ?_ HB6.out ?_
            rotate_left
            · intro W hW; have hq := HK.out W hW; go_simp; with_reducible rfl
            simp only [Act.put, List.setIfInBounds_toArray, List.set_cons_zero, List.set_cons_succ]
            refine take_in (i := 16) (oi := ⟨_, _, _, _, _, _⟩) (v := ?_) rfl (by kernel_rfl) (by kernel_rfl) (by kernel_rfl) (fun _ _ _ h => h) (by rfl) ?_ HB6.out ?_
            rotate_left
            · intro W hW; have hq := HK.out W hW; go_simp; with_reducible rfl
            simp only [Act.put, List.setIfInBounds_toArray, List.set_cons_zero, List.set_cons_succ]
            refine take_in (i := 17) (oi := ⟨_, _, _, _, _, _⟩) (v := ?_) rfl (by kernel_rfl) (by kernel_rfl) (by kernel_rfl) (fun _ _ _ h => h) (by rfl) ?_ HB6.out ?_
            rotate_left
            · intro W hW; have hq := HK.out W hW; go_simp; with_reducible rfl
            simp only [Act.put, List.setIfInBounds_toArray, List.set_cons_zero, List.set_cons_succ]
            refine wpAnyH_ready (rs := [18]) (by kernel_rfl) (by simp) ?_
            refine AllReadyH.cons (o := ⟨_, _, _, _, _, _⟩) rfl (fun K hK => ?_) AllReadyH.nil
            go_simp
            refine (HCV.out _).mono ?_
            rintro e w7 ⟨rfl, hb6⟩
            have HB7 := Lib.hid (HB6.out.trans (hb6.mono HB6.out.size)); clear hb6
            refine hK.out _ _ HB7.out (fun _ => ?_)
            clear hK K
            refine take_in (i := 19) (oi := ⟨_, _, _, _, _, _⟩) (v := ?_) rfl (by kernel_rfl) (by kernel_rfl) (by kernel_rfl) (fun _ _ _ h => h) (by rfl) ?_ HB7.out ?_
            rotate_left
            · intro W hW; go_simp; with_reducible rfl
            simp only [Act.put, List.setIfInBounds_toArray, List.set_cons_zero, List.set_cons_succ]
            refine take_in (i := 20) (oi := ⟨_, _, _, _, _, _⟩) (v := ?_) rfl (by kernel_rfl) (by kernel_rfl) (by kernel_rfl) (fun _ _ _ h => h) (by rfl) ?_ HB7.out ?_
            rotate_left
            · intro W hW; go_simp; with_reducible rfl
            simp only [Act.put, List.setIfInBounds_toArray, List.set_cons_zero, List.set_cons_succ]
            refine wpAnyH_done (by kernel_rfl) ?_ _
            clear hw1 hjn hjp
            go_wp2
            exact ⟨⟨j + 1 + 1, by go_num, by omega, HBL.out.trans (HB7.out.mono HBL.out.size)⟩, by simp [intOf]; omega⟩
    · obtain rfl : k = n5 := by omega
      go_wp2
      go_loopw [73] (fun i wr => ∃ j : Nat, i = .int .i64 j ∧ j ≤ n ∧ Below w0.heap.size w0 wr) (fun i _ => n - (intOf i).toNat)
      case atStart => exact ⟨0, rfl, by omega, HL.out⟩
      case round =>
        rename World => ws
        obtain ⟨j, rfl, hj, hb⟩ := hrel
        have HL := Lib.hid hb; clear hb
        by_cases h : j < n
        · obtain ⟨b5, o5, rfl, hb5, hcell5⟩ := HRA.out (by rw [← HN.out]; omega)
          have hql : j < es.length := by rw [← HN.out]; exact h
          have hz5 : es[j]? = some es[j] := List.getElem?_eq_getElem hql
          have hc5 := (tri_at (hcell5 j es[j] hz5)).below HL.out hb5
          have hx4 := HOK.out es[j] (List.getElem_mem hql)
          have HMEM : Hid (toV2 es[j] ∈ m) := Lib.hid ((HS.out.2 _).2 (List.mem_map.2 ⟨_, List.getElem_mem hql, rfl⟩))
          generalize toV2 es[j] = u at hx4 HMEM
          obtain ⟨ua, ud⟩ := u
          obtain ⟨_, _, hx1, hx2⟩ := hx4
          obtain ⟨x0, x1, x2⟩ := hc5
          rw [show KC.k = 3 from rfl] at x0 x1 x2
          simp only at hx1 hx2
          rw [← hx1] at x1
          rw [← hx2] at x2
          generalize es[j].1 = xk at x0
          clear hz5 hql hcell5 hx1 hx2
          go_wp2
          clear x0 x1 x2
          go_loopw [79, 13] (fun jj hh wj => ∃ (q : Nat) (hd : Bool), jj = .int .i64 q ∧ hh = .bool hd ∧ q ≤ k ∧ (hd = true ↔ (ua, ud) ∈ m.take q) ∧ Cx wj ws.heap.size (xk, (ua : Int), (ud : Int)) ∧ Below w0.heap.size w0 wj) (fun jj _ _ => k - (intOf jj).toNat)
          case atStart => exact ⟨0, false, rfl, rfl, by omega, by simp, hat _ _ _ rfl, bal HL.out (Nat.le_refl _) _⟩
          case round =>
            rename World => wj
            obtain ⟨q, hd, rfl, rfl, hq, hin, hcx, hbl⟩ := hrel
            have HIN := Lib.hid hin; have VC := Lib.hid hcx; have HBL := Lib.hid hbl
            clear hin hcx hbl
            by_cases hlt : q < k
            · obtain ⟨b, o, rfl, hbB, hcell⟩ := HRV.out (by rw [← HM.out]; omega)
              have hkl : q < m.length := by rw [← HM.out]; exact hlt
              have hz : m[q]? = some m[q] := List.getElem?_eq_getElem hkl
              have hc0 := hcell q m[q] hz
              have HNX : Hid ((ua, ud) ∈ m.take (q + 1) ↔ (ua, ud) ∈ m.take q ∨ (ua, ud) = m[q]) := Lib.hid (by rw [take_snocC hz, List.mem_append, List.mem_singleton])
              generalize m[q] = v at hc0 HNX
              obtain ⟨va, vd⟩ := v
              obtain ⟨x0, x1⟩ := hc0
              have x0 := (HBL.out.cell (p := ⟨b, o + q * 2, none⟩) hbB).trans x0
              have x1 := (HBL.out.cell (p := ⟨b, o + q * 2 + 1, none⟩) hbB).trans x1
              simp only at x0 x1
              clear hz hcell hkl
              have c1 : (wj.alloc (.cells #[.int .i64 (va : Int), .int .i64 (vd : Int)] 31)).cell? ⟨ws.heap.size, 1, none⟩ = some (.int .i64 (ua : Int)) := Cx.c1 (x := (xk, (ua : Int), (ud : Int))) (hbe VC.out)
              have c2 : (wj.alloc (.cells #[.int .i64 (va : Int), .int .i64 (vd : Int)] 31)).cell? ⟨ws.heap.size, 2, none⟩ = some (.int .i64 (ud : Int)) := Cx.c2 (x := (xk, (ua : Int), (ud : Int))) (hbe VC.out)
              cases hd with
              | true =>
                have HMM : Hid ((true = true ↔ (ua, ud) ∈ m.take (q + 1))) := Lib.hid ⟨fun _ => HNX.out.2 (Or.inl (HIN.out.1 rfl)), fun _ => rfl⟩
                clear HIN HNX
                go_wp2
                exact ⟨⟨q + 1, true, by go_num, rfl, by omega, HMM.out, hbe VC.out, bal HBL.out (Nat.le_refl _) _⟩, by simp [intOf]; omega⟩
              | false =>
                cases hv : ((ua : Int) == (va : Int) && (ud : Int) == (vd : Int)) with
                | true =>
                  have HMM : Hid ((true = true ↔ (ua, ud) ∈ m.take (q + 1))) := Lib.hid ⟨fun _ => HNX.out.2 (Or.inr (by
                    simp only [Bool.and_eq_true, beq_iff_eq] at hv
                    rw [Prod.mk.injEq]
                    omega)), fun _ => rfl⟩
                  clear HIN HNX
                  go_wp2
                  exact ⟨⟨q + 1, true, by go_num, rfl, by omega, HMM.out, hbe VC.out, bal HBL.out (Nat.le_refl _) _⟩, by simp [intOf]; omega⟩
                | false =>
                  have HMM : Hid ((false = true ↔ (ua, ud) ∈ m.take (q + 1))) := Lib.hid ⟨(fun h => by cases h), fun h => by
                    rcases HNX.out.1 h with h | h
                    · exact HIN.out.2 h
                    · exfalso
                      rw [Prod.mk.injEq] at h
                      rw [← Bool.not_eq_true] at hv
                      apply hv
                      rw [h.1, h.2]
                      simp⟩
                  clear HIN HNX
                  go_wp2
                  exact ⟨⟨q + 1, false, by go_num, rfl, by omega, HMM.out, hbe VC.out, bal HBL.out (Nat.le_refl _) _⟩, by simp [intOf]; omega⟩
            · obtain rfl : q = k := by omega
              obtain rfl : hd = true := HIN.out.2 (by rw [List.take_of_length_le (by rw [← HM.out]; omega)]; exact HMEM.out)
              clear HIN
              go_wp2
              exact ⟨⟨j + 1, by go_num, by omega, HBL.out⟩, by simp [intOf]; omega⟩
        · obtain rfl : j = n := by omega
          have HA := Lib.hid (HA.out.all HL.out)
          have HF := Lib.hid (HF.out.all HL.out)
          have HB := Lib.hid (HB.out.trans (HL.out.mono HB.out.size))
          have B4 := Lib.hid (merge_cl B1.out B2.out)
          clear HL
          go_wp2_with fail
          refine (merge_c A j c es A2 n2 c2 fs _ HA.out HF.out).mono ?_
          rintro e w41 ⟨A6, n6, c6, rfl, hs, hb⟩
          have HA := Lib.hid (HA.out.all hb)
          have HF := Lib.hid (HF.out.all hb)
          have HX := Lib.hid hs
          clear hs
          have HB := Lib.hid (HB.out.trans (hb.mono HB.out.size)); clear hb
          go_wp2_with fail
          refine (changes_c A6 n6 c6 _ _ HX.out B4.out).mono ?_
          rintro e w42 ⟨A7, n7, c7, m7, rfl, hs1, hv1, hb⟩
          have HA := Lib.hid (HA.out.all hb)
          have HF := Lib.hid (HF.out.all hb)
          have HX := Lib.hid (HX.out.all hb)
          have HB := Lib.hid (HB.out.trans (hb.mono HB.out.size)); clear hb
          have hle : k ≤ n7 := by rw [HM.out, hv1.1]; exact HS.out.more hs1 (chgs_merge B1.out B2.out)
          clear hv1 hs1
          go_wp2
          go_ret
          exact ⟨rfl, HB.out⟩
end Go.Proofs.Ytgbpfknmdpkacaa.cellsChanges

namespace Go.Proofs.Ytgbpfknmdpkacaa
open Go.ChangeShapes Go.WideShapes Go.ChangeAt Go.RowKit

theorem cellsChanges_own : ownKnob Try.prog.godebug = none := by kernel_rfl
theorem cellsChanges_laid : laidOutB Try.prog = true := by kernel_rfl

set_option maxRecDepth 100000 in
theorem cellsChanges_lifted (os : Os) (started : os.Started) (H : Type) (enc : TypeId × Value → H) :
    ReturnsInHanded {} Try.checked os 6 .any (Rows.cellsChangesSpec.pre6 enc Try.prog Try.f6 Rows.cellsChangesRow.domain false) (Rows.cellsChangesSpec.post enc Try.prog Try.f6 false true false false) := by
  refine returnsInHanded_of_change_sized (C := Try.checked) cellsChanges_own started (by kernel_rfl) Try.func6
    (ChangeSpec.witness6 (enc := enc) (C := Try.checked) false ⟨#[], #[.slice none 0 0, .slice none 0 0], []⟩ 8 (by kernel_rfl) (by kernel_rfl) (by kernel_rfl) (by kernel_rfl)) ?_
  intro W base args ds gs before hval0 hW _ hsz0 _
  have hsz : (DataW.weightsEach Try.prog (Try.f6.params.toList ++ Rows.cellsChangesSpec.plain.varTypes Try.prog) (ds ++ gs)).all (· ≤ reachBytes) = true := hsz0
  have hval : ∀ (j : Nat) t v, Try.f6.params[j]? = some t → args[j]? = some v → Value.okWide Try.prog W .any base t v := hval0
  have hW' := hW
  obtain ⟨p, q, hA0, hV, rfl, hfz, hnd⟩ := hW
  have hA : DataW.TrodAll enc Try.prog W 0 (fun _ => true) true Try.f6.params.toList args.toList ds p := hA0
  rw [Try.params6] at hA hval hsz
  obtain ⟨v0, vs0, d0, ds0, p0, q0, hargs, rfl, rfl, h0, r0⟩ := trodAll_cons hA
  obtain ⟨v1, vs1, d1, ds1, p1, q1, rfl, rfl, rfl, h1, r1⟩ := trodAll_cons r0
  obtain ⟨rfl, rfl, rfl⟩ := trodAll_nil r1
  obtain rfl : args = #[v0, v1] := by cases args; simp_all
  obtain ⟨rfl, rfl⟩ := trodVars_none hV
  clear hA0 hval0
  simp only [List.append_nil] at hW'
  have hk0 := h0
  have hlt0 : ∀ x ∈ p0, x.block < W.heap.size := (fun x hx => by have := hW'.lt x (by simp [hx]); simpa using this)
  obtain ⟨A0, n0, c0, l0, rfl, hn0, hc0, hr0, hd0⟩ := open_cells Try.underlying28 (hval 0 28 v0 rfl rfl) h0 hlt0
  have hb0 := sized_places hsz (j := 0) rfl rfl Try.underlying28 hd0
  rw [show Try.prog.bytesOf 38 = 24 from by kernel_rfl] at hb0
  have hk1 := h1
  have hlt1 : ∀ x ∈ p1, x.block < W.heap.size := (fun x hx => by have := hW'.lt x (by simp [hx]); simpa using this)
  obtain ⟨A1, n1, c1, l1, rfl, hn1, hc1, hr1, hd1⟩ := open_cells Try.underlying28 (hval 1 28 v1 rfl rfl) h1 hlt1
  have hb1 := sized_places hsz (j := 1) rfl rfl Try.underlying28 hd1
  rw [show Try.prog.bytesOf 38 = 24 from by kernel_rfl] at hb1
  refine (cellsChanges.walk W A0 n0 c0 l0 ⟨hn0, hc0, by omega, hr0⟩ A1 n1 c1 l1 ⟨hn1, hc1, by omega, hr1⟩).mono fun e W' ⟨he, hb⟩ => ?_
  subst he
  exact ⟨_, rfl, _, _, _, [], _, [], hW', trodAll_cons_mk (shut_bool Try.underlying4 _) trodAll_mk0, (trodAll_cons_mk (Below.trod cellsChanges_laid (by kernel_rfl) (of_decide_eq_true (by kernel_rfl)) hk0 hb hlt0) (trodAll_cons_mk (Below.trod cellsChanges_laid (by kernel_rfl) (of_decide_eq_true (by kernel_rfl)) hk1 hb hlt1) trodAll_mk0)), rfl, hb.frame _, fun h => by cases h⟩

theorem cellsChanges_proved : Rows.CellsChangesSaid :=
  OpenClaim.holds_of_wide 6 Try.f6 rfl rfl rfl rfl rfl rfl rfl ⟨rfl, rfl, rfl, rfl, rfl⟩ rfl rfl rfl rfl rfl (by kernel_rfl) Try.func6 (by kernel_rfl)
    (of_decide_eq_true (by kernel_rfl)) (by unfold Func.isWrapper; first | (rw [if_pos (by decide +kernel)]; kernel_rfl) | (rw [if_neg (by decide +kernel)]; exact ⟨rfl, rfl⟩))
    (fun os started H enc _ => cellsChanges_lifted os started H enc)
#print axioms cellsChanges_proved
end Go.Proofs.Ytgbpfknmdpkacaa
