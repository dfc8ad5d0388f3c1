/- What Alike of package view answers: a copy, put in order, whose neighbours are looked at. -/
import Derived.Test.YtofjdfnoibfdfaaVwE
import Derived.Test.YtofjdfnoibfdfaaRowV
import Derived.Test.YtofjdfnoibfdfaaSortL
import Derived.Lib.SliceRun
namespace Go.Proofs.Ytofjdfnoibfdfaa
open Go.RowKit
open Chg Vw

def toV (x : Fin 64 × Fin 64) : Nat × Nat := (x.1.1, x.2.1)
def encV (x : Fin 64 × Fin 64) : List Value := [.int .i64 (x.1.1 : Int), .int .i64 (x.2.1 : Int)]
theorem toV_lt (x : Fin 64 × Fin 64) : (toV x).1 < 64 ∧ (toV x).2 < 64 := ⟨x.1.2, x.2.2⟩
theorem of_small : ∀ (vs : List (Nat × Nat)), (∀ v ∈ vs, v.1 < 64 ∧ v.2 < 64) → ∃ ds : List (Fin 64 × Fin 64), vs = ds.map toV
  | [], _ => ⟨[], rfl⟩
  | v :: l, h => by
    obtain ⟨ds, rfl⟩ := of_small l (fun x hx => h x (by simp [hx]))
    have hv := h v (by simp)
    exact ⟨(⟨v.1, hv.1⟩, ⟨v.2, hv.2⟩) :: ds, rfl⟩
theorem lt_ord (x y : Fin 64 × Fin 64) : ltOf (fun x y : Fin 64 × Fin 64 => ordV (toV x) (toV y)) x y = less (toV x) (toV y) := ordV_neg _ _
theorem swo_ord : Sort.SWO (ltOf fun x y : Fin 64 × Fin 64 => ordV (toV x) (toV y)) where
  irrefl x := by rw [lt_ord, ← Bool.not_eq_true, less_iff]; omega
  trans x y z h1 h2 := by rw [lt_ord, less_iff] at *; omega
  ntrans x y z h1 h2 := by rw [lt_ord, ← Bool.not_eq_true, less_iff] at *; omega
theorem cmp_lays (blk off size : Nat) (w : World) : CmpLays Try.prog 30 #[] encV 2 (fun x y => ordV (toV x) (toV y)) blk off size w :=
  fun _ _ _ _ x y => order_g (toV x) (toV y) (toV_lt x) (toV_lt y) _
theorem heap_putRow (enc : Value → Value) (w : World) (blk off : Nat) (d : Array Value) (k : Nat) (h : k ≠ blk) : (Sort.putRow enc w blk off d).heap[k]? = w.heap[k]? := by
  unfold Sort.putRow Sort.mapBlock
  simp only [Array.getElem?_modify]
  rw [if_neg (by omega)]
theorem below_sort (w : World) (blk off n : Nat) (d : Array (Fin 64 × Fin 64)) (os : Array Obj) (B : Nat) (hB : B ≤ blk) (hb : blk < w.heap.size) : Below B w (sortWorldK encV 2 w blk off n d os) := by
  refine ⟨rfl, rfl, rfl, size_sortWorldK_c encV 2 w blk off n d os, fun k hk => ?_⟩
  unfold sortWorldK
  rw [Sort.heap_grow_old _ os (by rw [Sort.size_putRowK]; show k < w.heap.size; omega)]
  exact heap_putRow id _ blk off _ k (by omega)
theorem sort_c (g cap : Nat) (ds : List (Fin 64 × Fin 64)) (w : World) (hH : Sort.HoldsK encV 2 w g 0 ds.toArray) (hg : g < w.heap.size) (hsz : ds.length < 4611686018427387904) :
    Calls Try.prog 29 #[.slice (some ⟨g, 0, none⟩) ds.length cap, .func (.func 30) #[] #[]] w fun e w' => e = .returned (.tuple #[]) ∧ ∃ ms : List (Nat × Nat), ms.Perm (ds.map toV) ∧ (∀ i u v, ms[i]? = some u → ms[i + 1]? = some v → less v u = false) ∧ Rv w' w'.heap.size (some ⟨g, 0, none⟩) ms ∧ ∀ B, B ≤ g → Below B w w' := by
  have eg : ∀ args w, (callFunc 30 args).run Try.prog w = .ok (.enter 30 args) w := enters_of Try.func30 (by kernel_rfl) rfl
  have hcon := AnyQ.slices_SortFunc sortV 2 Try.isAgg25 Try.sizeOf25 encV (fun _ => rfl) (fun x v hv => by simp [encV] at hv; rcases hv with rfl | rfl <;> rfl) (fun x y => ordV (toV x) (toV y)) swo_ord 30 #[] g 0 cap ds.toArray w eg (cmp_lays g 0 _ w) hH hg (by simpa using hsz)
  change Calls Try.prog 29 _ _ _ at hcon
  rw [show ds.toArray.size = ds.length from List.size_toArray] at hcon
  refine hcon.mono ?_
  rintro e w' ⟨rfl, d', n, os, hp, hs, rfl⟩
  have hp1 : d'.size = ds.length := by have := hp.1; simpa using this
  have hp3 := hp.2.2
  have hH' := holdsK_sortWorldK_c encV 2 w g 0 ds.toArray d' n os hH hg (by rw [List.size_toArray]; exact hp1)
  rw [Array.extract_eq_self_of_le (by omega), Array.extract_eq_self_of_le (by simp)] at hp3
  have hget : ∀ i u, (d'.toList.map toV)[i]? = some u → i < d'.size ∧ u = toV d'[i]! := by
    intro i u hu
    rw [List.getElem?_map, Option.map_eq_some_iff] at hu
    obtain ⟨x, hx, rfl⟩ := hu
    rw [Array.getElem?_toList] at hx
    obtain ⟨hi, rfl⟩ := Array.getElem?_eq_some_iff.1 hx
    exact ⟨hi, by rw [getElem!_pos d' i hi]⟩
  refine ⟨rfl, d'.toList.map toV, hp3.map toV, ?_, ?_, fun B hB => below_sort w g 0 n d' os B hB hg⟩
  · intro i u v hu hv
    obtain ⟨h1, rfl⟩ := hget i u hu
    obtain ⟨h2, rfl⟩ := hget (i + 1) v hv
    rw [← lt_ord]
    exact hs i (i + 1) (Nat.zero_le _) (by omega) (by omega)
  · intro _
    refine ⟨g, 0, rfl, Nat.lt_of_lt_of_le hg (size_sortWorldK_c encV 2 w g 0 n d' os), fun j v hv => ?_⟩
    obtain ⟨hj, rfl⟩ := hget j v hv
    have h0 := (hH'.cell hj (show 0 < 2 by omega)).1
    have h1 := (hH'.cell hj (show 1 < 2 by omega)).1
    exact ⟨h0, h1⟩
theorem holds_of_rv (w : World) (g : Nat) (ds : List (Fin 64 × Fin 64)) (cur : Array Value) (hh : w.heap[g]? = some (.cells cur 25)) (hr : Rv w w.heap.size (some ⟨g, 0, none⟩) (ds.map toV)) : Sort.HoldsK encV 2 w g 0 ds.toArray := by
  intro t ht
  rw [Sort.size_flatK, List.size_toArray] at ht
  rw [Sort.get_flatK _ _ _ t (by rw [List.size_toArray]; exact ht)]
  have hi : t / 2 < ds.length := by omega
  obtain ⟨b, o, e, _, hc⟩ := hr (by rw [List.length_map]; omega)
  injection e with e
  injection e with e1 e2
  subst e1; subst e2
  have hv : (ds.map toV)[t / 2]? = some (toV ds[t / 2]) := by rw [List.getElem?_map, List.getElem?_eq_getElem hi]; rfl
  have hcv := hc (t / 2) _ hv
  have hd : ds.toArray[t / 2]! = ds[t / 2] := by rw [getElem!_pos ds.toArray (t / 2) (by simpa using hi)]; simp
  rw [hd]
  refine ⟨?_, frozen_of_row w g _ _ _ hh⟩
  generalize ds[t / 2] = x at hcv ⊢
  rcases Nat.mod_two_eq_zero_or_one t with h0 | h0
  · rw [h0, show 0 + t = 0 + t / 2 * 2 by omega]
    exact hcv.1
  · rw [h0, show 0 + t = 0 + t / 2 * 2 + 1 by omega]
    exact hcv.2
theorem clone_c (A : Option Addr) (n c : Nat) (vs : List (Nat × Nat)) (hn : n = vs.length) (hl : n ≤ 8796093022208) (B : Nat) (w : World) (hr : Rv w B A vs) (hB : B ≤ w.heap.size) :
    Calls Try.prog 28 #[.slice A n c] w fun e w' => ∃ A' c', e = .returned (.slice A' n c') ∧ Rv w' w'.heap.size A' vs ∧ Below w.heap.size w w' ∧ (0 < n → ∃ g cur, A' = some ⟨g, 0, none⟩ ∧ w.heap.size ≤ g ∧ w'.heap[g]? = some (.cells cur 25)) := by
  have q22 : ∀ (w : World) (a : Option Addr) (n c n' c' : Nat), (binOp .eql 34 (.slice a n c) (.slice none n' c')).run Try.prog w = .ok (.bool a.isNone) w := fun w a n c n' c' => Lib.run_eql_slice_nil w _ _ a n c n' c' Try.underlying34
  cases A with
  | none =>
    have h0 : vs = [] := by
      rcases Nat.eq_zero_or_pos vs.length with h | h
      · exact List.eq_nil_of_length_eq_zero h
      · obtain ⟨_, _, e, _⟩ := hr h
        cases e
    subst h0
    have hn0 : n = 0 := by simpa using hn
    subst hn0
    clear hr hn
    go_enter Try.func28, Try.ntmps28
    go_wp2
    go_ret
    exact ⟨none, 0, rfl, fun h => by simp at h, Below.refl _ _, fun h => by omega⟩
  | some ad =>
    have HN := Lib.hid hn; clear hn
    have HR := Lib.hid hr; clear hr
    go_enter Try.func28, Try.ntmps28
    go_wp2_with (at_builtin; refine wp_copyV2 rfl (.tmp 5) (.tmp 6) rfl w rfl B (some ad) n c vs rfl HN.out HR.out hB (by omega) ?_; intro A2 c2 w2 hr2 hb2 hg2)
    go_ret
    exact ⟨A2, c2, rfl, hr2, hb2, hg2⟩
theorem sort_any (A : Option Addr) (n c : Nat) (vs : List (Nat × Nat)) (hn : n = vs.length) (hl : n ≤ 8796093022208) (h64 : ∀ v ∈ vs, v.1 < 64 ∧ v.2 < 64) (B : Nat) (w : World) (hr : Rv w w.heap.size A vs) (hg : 0 < n → ∃ g cur, A = some ⟨g, 0, none⟩ ∧ B ≤ g ∧ w.heap[g]? = some (.cells cur 25)) :
    Calls Try.prog 29 #[.slice A n c, .func (.func 30) #[] #[]] w fun e w' => e = .returned (.tuple #[]) ∧ ∃ ms : List (Nat × Nat), ms.Perm vs ∧ (∀ i u v, ms[i]? = some u → ms[i + 1]? = some v → less v u = false) ∧ Rv w' w'.heap.size A ms ∧ Below B w w' := by
  rcases Nat.eq_zero_or_pos n with h0 | h0
  · subst h0
    have hv : vs = [] := List.eq_nil_of_length_eq_zero hn.symm
    subst hv
    have hcon := AnyF.slices_SortFunc_none (P := Try.prog) (ρ := sortV_ren) { sortV with } A c (.func (.func 30) #[] #[]) w
    change Calls Try.prog 29 _ _ _ at hcon
    refine hcon.mono ?_
    rintro e w' ⟨rfl, rfl⟩
    exact ⟨rfl, [], List.Perm.refl _, fun i u v hu => by simp at hu, hr, Below.refl _ _⟩
  · obtain ⟨g, cur, rfl, hBg, hh⟩ := hg h0
    obtain ⟨ds, rfl⟩ := of_small vs h64
    rw [List.length_map] at hn
    subst hn
    have hlt : g < w.heap.size := by
      rcases Nat.lt_or_ge g w.heap.size with h' | h'
      · exact h'
      · rw [Array.getElem?_eq_none h'] at hh; cases hh
    refine (sort_c g c ds w (holds_of_rv w g ds cur hh hr) hlt (by omega)).mono ?_
    rintro e w' ⟨rfl, ms, h1, h2, h3, h4⟩
    exact ⟨rfl, ms, h1, h2, h3, h4 B hBg⟩
set_option maxHeartbeats 1000000 in
theorem alike_c (A : Option Addr) (n c : Nat) (vs : List (Nat × Nat)) (hn : n = vs.length) (hl : n ≤ 8796093022208) (h64 : ∀ v ∈ vs, v.1 < 64 ∧ v.2 < 64) (B : Nat) (w : World) (hr : Rv w B A vs) (hB : B ≤ w.heap.size) :
    Calls Try.prog 10 #[.slice A n c] w fun e w' => e = .returned (.bool (alike vs)) ∧ Below w.heap.size w w' := by
  have HN := Lib.hid hn; clear hn
  have HR := Lib.hid hr; clear hr
  have H64 := Lib.hid h64; clear h64
  obtain ⟨r, hr⟩ : ∃ r, r = alike vs := ⟨_, rfl⟩
  rw [← hr]
  have HRA := Lib.hid hr; clear hr
  go_enter Try.func10, Try.ntmps10
  go_wp2_with fail
  refine (clone_c A n c vs HN.out hl B _ HR.out hB).mono ?_
  rintro e w2 ⟨A2, c2, rfl, hr2, hb2, hg2⟩
  have HR2 := Lib.hid hr2; have HB2 := Lib.hid hb2; have HG2 := Lib.hid hg2
  clear hr2 hb2 hg2
  go_wp2_with fail
  refine (sort_any A2 n c2 vs HN.out hl H64.out w.heap.size _ HR2.out HG2.out).mono ?_
  rintro e w3 ⟨rfl, ms, hp, hs, hr3, hb3⟩
  have HB3 := Lib.hid (HB2.out.trans hb3)
  have HM : Hid (n = ms.length) := Lib.hid (by rw [HN.out, hp.length_eq])
  have H64M : Hid (∀ v ∈ ms, v.1 < 64 ∧ v.2 < 64) := Lib.hid (fun v hv => H64.out v (hp.mem_iff.1 hv))
  have HY : Hid ((∀ i u v, ms[i]? = some u → ms[i + 1]? = some v → within2 u v = true) → r = true) := Lib.hid (fun h => by rw [HRA.out]; exact alike_of_chain vs ms H64.out hp h)
  have HF : Hid (∀ i u v, ms[i]? = some u → ms[i + 1]? = some v → within2 u v = false → r = false) := Lib.hid (fun i u v hu hv hf => by
    rw [HRA.out, ← Bool.not_eq_true]
    intro ht
    rw [chain_of_alike vs ms H64.out hp hs ht i u v hu hv] at hf
    cases hf)
  have HR3 := Lib.hid hr3
  have hsz3 := HB3.out.size
  clear hp hs hr3 hb3 HR2 HB2 HG2 HR H64 HN HRA
  go_wp2
  go_loopw [4] (fun i wr => ∃ k : Nat, i = .int .i64 ((k : Int) + 1) ∧ (k < n ∨ k = 0) ∧ (∀ j u v, j < k → ms[j]? = some u → ms[j + 1]? = some v → within2 u v = true) ∧ Below w3.heap.size w3 wr) (fun i _ => n - (intOf i).toNat)
  case atStart => exact ⟨0, rfl, Or.inr rfl, fun j u v hj => by omega, Below.refl _ _⟩
  case round =>
    obtain ⟨k, rfl, hk, hall, hb⟩ := hrel
    have HA := Lib.hid hall; have HB := Lib.hid hb
    clear hall hb
    by_cases h : k + 1 < n
    · obtain ⟨b, o, rfl, hbB, hcell⟩ := HR3.out (by rw [← HM.out]; omega)
      have hkl : k < ms.length := by rw [← HM.out]; omega
      have hkl2 : k + 1 < ms.length := by rw [← HM.out]; omega
      have hz : ms[k]? = some ms[k] := List.getElem?_eq_getElem hkl
      have hz2 : ms[k + 1]? = some ms[k + 1] := List.getElem?_eq_getElem hkl2
      have hc0 := hcell k ms[k] hz
      have hc1 := hcell (k + 1) ms[k + 1] hz2
      have hv64 := H64M.out ms[k] (List.getElem_mem hkl)
      have hu64 := H64M.out ms[k + 1] (List.getElem_mem hkl2)
      generalize ms[k] = v at hz hc0 hv64
      generalize ms[k + 1] = u at hz2 hc1 hu64
      obtain ⟨va, vd⟩ := v
      obtain ⟨ua, ud⟩ := u
      have HC : Hid (∀ W, Below w3.heap.size w3 W → (W.cell? ⟨b, o + k * 2, none⟩ = some (.int .i64 (va : Int)) ∧ W.cell? ⟨b, o + k * 2 + 1, none⟩ = some (.int .i64 (vd : Int))) ∧ W.cell? ⟨b, o + (k + 1) * 2, none⟩ = some (.int .i64 (ua : Int)) ∧ W.cell? ⟨b, o + (k + 1) * 2 + 1, none⟩ = some (.int .i64 (ud : Int))) := Lib.hid (fun W hW => ⟨⟨(hW.cell (by exact hbB)).trans hc0.1, (hW.cell (by exact hbB)).trans hc0.2⟩, (hW.cell (by exact hbB)).trans hc1.1, (hW.cell (by exact hbB)).trans hc1.2⟩)
      have HZ := Lib.hid hz; have HZ2 := Lib.hid hz2
      clear hz hz2 hc0 hc1 hcell hkl hkl2
      go_wp2_with fail
      have hkn : k < n := by omega
      have hi1 : (k : Int) < (n : Int) := by omega
      have hi2 : (k : Int) + 1 < (n : Int) := by omega
      have hi3 : (0 : Int) ≤ (k : Int) + 1 := by omega
      have ht1 : ((k : Int) + 1).toNat = k + 1 := by omega
      have hw1 : IntKind.i64.wrap (k : Int) = (k : Int) := by simp [IntKind.wrap, IntKind.bits, IntKind.signed]; omega
      refine wp_region_held_drew (S := fun W' => Below w3.heap.size w3 W') (by kernel_rfl) HB.out.drew (fun hHeld => ?_)
      generalize wr.drew = w5 at hHeld ⊢
      have HB5 : Hid (Below w3.heap.size w3 w5) := hHeld
      clear hHeld
      refine take_in (i := 0) (oi := ⟨_, _, _, _, _, _⟩) (v := ?_) rfl (by kernel_rfl) (by kernel_rfl) (by kernel_rfl) (fun _ _ _ h => h) (by rfl) ?_ HB5.out ?_
      rotate_left
      · intro W hW; have hq := HC.out W hW; go_simp; with_reducible rfl
      simp only [Act.put, List.setIfInBounds_toArray, List.set_cons_zero, List.set_cons_succ]
      refine take_in (i := 1) (oi := ⟨_, _, _, _, _, _⟩) (v := ?_) rfl (by kernel_rfl) (by kernel_rfl) (by kernel_rfl) (fun _ _ _ h => h) (by rfl) ?_ HB5.out ?_
      rotate_left
      · intro W hW; have hq := HC.out W hW; go_simp; with_reducible rfl
      simp only [Act.put, List.setIfInBounds_toArray, List.set_cons_zero, List.set_cons_succ]
      refine take_in (i := 2) (oi := ⟨_, _, _, _, _, _⟩) (v := ?_) rfl (by kernel_rfl) (by kernel_rfl) (by kernel_rfl) (fun _ _ _ h => h) (by rfl) ?_ HB5.out ?_
      rotate_left
      · intro W hW; have hq := HC.out W hW; go_simp; with_reducible rfl
      simp only [Act.put, List.setIfInBounds_toArray, List.set_cons_zero, List.set_cons_succ]
      refine take_in (i := 3) (oi := ⟨_, _, _, _, _, _⟩) (v := ?_) rfl (by kernel_rfl) (by kernel_rfl) (by kernel_rfl) (fun _ _ _ h => h) (by rfl) ?_ HB5.out ?_
      rotate_left
      · intro W hW; have hq := HC.out W hW; go_simp; with_reducible rfl
      simp only [Act.put, List.setIfInBounds_toArray, List.set_cons_zero, List.set_cons_succ]
      refine take_in (i := 4) (oi := ⟨_, _, _, _, _, _⟩) (v := ?_) rfl (by kernel_rfl) (by kernel_rfl) (by kernel_rfl) (fun _ _ _ h => h) (by rfl) ?_ HB5.out ?_
      rotate_left
      · intro W hW; have hq := HC.out W hW; go_simp; with_reducible rfl
      simp only [Act.put, List.setIfInBounds_toArray, List.set_cons_zero, List.set_cons_succ]
      refine take_in (i := 5) (oi := ⟨_, _, _, _, _, _⟩) (v := ?_) rfl (by kernel_rfl) (by kernel_rfl) (by kernel_rfl) (fun _ _ _ h => h) (by rfl) ?_ HB5.out ?_
      rotate_left
      · intro W hW; have hq := HC.out W hW; go_simp; with_reducible rfl
      simp only [Act.put, List.setIfInBounds_toArray, List.set_cons_zero, List.set_cons_succ]
      refine take_in (i := 6) (oi := ⟨_, _, _, _, _, _⟩) (v := ?_) rfl (by kernel_rfl) (by kernel_rfl) (by kernel_rfl) (fun _ _ _ h => h) (by rfl) ?_ HB5.out ?_
      rotate_left
      · intro W hW; have hq := HC.out W hW; go_simp; with_reducible rfl
      simp only [Act.put, List.setIfInBounds_toArray, List.set_cons_zero, List.set_cons_succ]
      refine take_in (i := 7) (oi := ⟨_, _, _, _, _, _⟩) (v := ?_) rfl (by kernel_rfl) (by kernel_rfl) (by kernel_rfl) (fun _ _ _ h => h) (by rfl) ?_ HB5.out ?_
      rotate_left
      · intro W hW; have hq := HC.out W hW; go_simp; with_reducible rfl
      simp only [Act.put, List.setIfInBounds_toArray, List.set_cons_zero, List.set_cons_succ]
      refine take_in (i := 8) (oi := ⟨_, _, _, _, _, _⟩) (v := ?_) rfl (by kernel_rfl) (by kernel_rfl) (by kernel_rfl) (fun _ _ _ h => h) (by rfl) ?_ HB5.out ?_
      rotate_left
      · intro W hW; have hq := HC.out W hW; go_simp; with_reducible rfl
      simp only [Act.put, List.setIfInBounds_toArray, List.set_cons_zero, List.set_cons_succ]
      refine wpAnyH_ready (rs := [9]) (by kernel_rfl) (by simp) ?_
      refine AllReadyH.cons (o := ⟨_, _, _, _, _, _⟩) rfl (fun K hK => ?_) AllReadyH.nil
      go_simp
      refine (within_c va vd hv64.1 hv64.2 ua ud hu64.1 hu64.2 _).mono ?_
      rintro e w6 ⟨rfl, hb6⟩
      have HB6 := Lib.hid (HB5.out.trans (hb6.mono HB5.out.size)); clear hb6
      refine hK.out _ _ HB6.out (fun _ => ?_)
      clear hK K
      have HWV : Hid (withinV va vd ua ud = within2 (va, vd) (ua, ud)) := Lib.hid rfl
      generalize withinV va vd ua ud = t at HWV ⊢
      refine take_in (i := 10) (oi := ⟨_, _, _, _, _, _⟩) (v := ?_) rfl (by kernel_rfl) (by kernel_rfl) (by kernel_rfl) (fun _ _ _ h => h) (by rfl) ?_ HB6.out ?_
      rotate_left
      · intro W hW; go_simp; with_reducible rfl
      simp only [Act.put, List.setIfInBounds_toArray, List.set_cons_zero, List.set_cons_succ]
      refine wpAnyH_done (by kernel_rfl) ?_ _
      cases t with
      | false =>
        have HFF : Hid (r = false) := Lib.hid (HF.out k (va, vd) (ua, ud) HZ.out HZ2.out HWV.out.symm)
        go_wp2
        go_ret
        exact ⟨ret_bool HFF.out.symm, HB3.out.trans (HB6.out.mono hsz3)⟩
      | true =>
        go_wp2
        refine ⟨⟨k + 1, by go_num, by omega, ?_, HB6.out⟩, by simp [intOf]; omega⟩
        intro j u v hj hu hv
        rcases Nat.lt_or_ge j k with h' | h'
        · exact HA.out j u v h' hu hv
        · obtain rfl : j = k := by omega
          have e1 := HZ.out
          have e2 := HZ2.out
          rw [hu] at e1
          rw [hv] at e2
          cases e1; cases e2
          exact HWV.out.symm
    · have HT : Hid (r = true) := Lib.hid (HY.out (fun i u v hu hv => HA.out i u v (by
        have : i + 1 < ms.length := by
          rcases Nat.lt_or_ge (i + 1) ms.length with h' | h'
          · exact h'
          · rw [List.getElem?_eq_none h'] at hv; cases hv
        rw [← HM.out] at this
        omega) hu hv))
      go_wp2
      go_ret
      exact ⟨ret_bool HT.out.symm, HB3.out.trans (HB.out.mono hsz3)⟩
end Go.Proofs.Ytofjdfnoibfdfaa
