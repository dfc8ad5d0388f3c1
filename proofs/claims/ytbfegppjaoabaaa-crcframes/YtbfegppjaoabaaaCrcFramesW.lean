/- The walk of CrcFrames. -/
import Derived.Test.YtbfegppjaoabaaaCrcQ
namespace Go.Proofs.Ytbfegppjaoabaaa.crcFrames
open Go.RowKit
open Crc

set_option maxRecDepth 100000 in
set_option maxHeartbeats 4000000 in
theorem walk (w : World) (A : Option Addr) (n c : Nat) (bs : List UInt8) (hn : n = bs.length) (_hc : n ≤ c) (hr : Rd w w.heap.size A (bs.map B8)) (_hl : c * 1 ≤ 140737488351232)
    (A1 : Option Addr) (n1 c1 : Nat) (fs : List UInt8) (hn1 : n1 = fs.length) (hc1 : n1 ≤ c1) (hr1 : Rd w w.heap.size A1 (fs.map B8)) (_hl1 : c1 * 1 ≤ 140737488351232) :
    Calls Try.prog 4 #[.slice A n c, .slice A1 n1 c1] w fun e w' => e = .returned (.bool true) ∧ Below w.heap.size w w' := by
  have hb : n + 4 ≤ big := by unfold big; omega
  have hb1 : n1 ≤ big := by unfold big; omega
  clear _hc _hl _hl1
  have HN := Lib.hid hn; clear hn
  have HR := Lib.hid hr; clear hr
  have HN1 := Lib.hid hn1; clear hn1
  have HR1 := Lib.hid hr1; clear hr1
  go_enter Try.func4, Try.ntmps4
  go_wp2_with (at_builtin; refine wp_copy8 rfl (.tmp 10) (.tmp 11) rfl w rfl w.heap.size A1 n1 c1 fs rfl HN1.out HR1.out (Nat.le_refl _) hb1 ?_; intro A2 c2 w2 ho2 hb2)
  have HO2 := Lib.hid ho2; clear ho2
  have HB2 := Lib.hid hb2; clear hb2
  refine (open_c _ _ _ fs HN1.out HO2.out.cap w2.heap.size _ HO2.out.rd (Nat.le_refl _) hb1).mono ?_
  rintro e w3 ⟨A3, n3, c3, rfl, hn3, _, hr3, hb3⟩
  have HN3 := Lib.hid hn3; clear hn3
  have HR3 := Lib.hid hr3; clear hr3
  have HB3 := Lib.hid (HB2.out.trans (hb3.mono HB2.out.size)); clear hb3
  have hs3 := HB3.out.size
  go_wp2_with fail
  refine (open_r _ _ _ fs HN1.out hc1 w.heap.size _ (HR1.out.below HB3.out) hs3 hb1).mono ?_
  rintro e w4 ⟨A4, n4, c4, rfl, hn4, _, hr4, hb4⟩
  have HN4 := Lib.hid hn4; clear hn4
  have HR4 := Lib.hid hr4; clear hr4
  have HR3' := Lib.hid (HR3.out.below hb4); clear HR3
  have hs34 := hb4.size
  have HB4 := Lib.hid (HB3.out.trans (hb4.mono hs3)); clear hb4
  have hs4 := HB4.out.size
  generalize oE (openF fs) = v
  obtain ⟨S5, hS5⟩ : ∃ S5, S5 = str (oB (openF fs)) := ⟨_, rfl⟩
  obtain ⟨S6, hS6⟩ : ∃ S6, S6 = str (seal_ bs) := ⟨_, rfl⟩
  have HK : Hid (∀ W', Below w4.heap.size w4 W' → (convert 22 9 (.slice A3 n3 c3)).run Try.prog W' = .ok (.string S5) W' ∧ (convert 22 9 (.slice A4 n4 c4)).run Try.prog W' = .ok (.string S5) W') := Lib.hid (by
    intro W' h
    rw [hS5]
    exact ⟨str8' c3 (HR3'.out.below (h.mono hs34)) HN3.out, str8' c4 (HR4.out.below h) HN4.out⟩)
  have HS6 := Lib.hid hS6
  clear hS5 hS6
  go_wp2
  refine wp_region_held_drew (S := fun W' => Below w4.heap.size w4 W') (by kernel_rfl) (Below.refl _ _).drew (fun hHeld => ?_)
  generalize w4.drew = w5 at hHeld ⊢
  have HB5 : Hid (Below w4.heap.size w4 w5) := hHeld
  clear hHeld
  refine wpAnyH_ready (rs := [0]) (by kernel_rfl) (by simp) ?_
  refine AllReadyH.cons (o := ⟨_, _, _, _, _, _⟩) rfl (fun K hK => ?_) AllReadyH.nil
  go_simp
  refine (alive_c _).mono ?_
  rintro e w6 ⟨rfl, hb6⟩
  have HB6 := Lib.hid (HB5.out.trans (hb6.mono HB5.out.size)); clear hb6
  have hs6 := HB6.out.size
  refine hK.out _ _ HB6.out (fun _ => ?_)
  clear hK K
  refine take_in (i := 1) (oi := ⟨_, _, _, _, _, _⟩) (v := ?_) rfl (by kernel_rfl) (by kernel_rfl) (by kernel_rfl) (fun _ _ _ h => h) (by rfl) ?_ HB6.out ?_
  rotate_left
  · intro W hW; go_simp; with_reducible rfl
  simp only [Act.put, List.setIfInBounds_toArray, List.set_cons_zero, List.set_cons_succ]
  refine take_in (i := 3) (oi := ⟨_, _, _, _, _, _⟩) (v := ?_) rfl (by kernel_rfl) (by kernel_rfl) (by kernel_rfl) (fun _ _ _ h => h) (by rfl) ?_ HB6.out ?_
  rotate_left
  · intro W hW; go_simp; with_reducible rfl
  simp only [Act.put, List.setIfInBounds_toArray, List.set_cons_zero, List.set_cons_succ]
  refine take_in (i := 7) (oi := ⟨_, _, _, _, _, _⟩) (v := ?_) rfl (by kernel_rfl) (by kernel_rfl) (by kernel_rfl) (fun _ _ _ h => h) (by rfl) ?_ HB6.out ?_
  rotate_left
  · intro W hW; go_simp; with_reducible rfl
  simp only [Act.put, List.setIfInBounds_toArray, List.set_cons_zero, List.set_cons_succ]
  refine wpAnyH_ready (rs := [2]) (by kernel_rfl) (by simp) ?_
  refine AllReadyH.cons (o := ⟨_, _, _, _, _, _⟩) rfl (fun K hK => ?_) AllReadyH.nil
  go_simp
  refine hK.out _ _ (HB6.out.alloc hs6 _) (fun _ => ?_)
  clear hK K
  refine wpAnyH_ready (rs := [4]) (by kernel_rfl) (by simp) ?_
  refine AllReadyH.cons (o := ⟨_, _, _, _, _, _⟩) rfl (fun K hK => ?_) AllReadyH.nil
  rw [if_pos (show Region.wanted _ _ = true by rfl)]
  refine op_copy8 (.tmp 23) (.tmp 24) rfl w6 rfl w.heap.size A n c bs rfl HN.out (HR.out.below (HB4.out.trans (HB6.out.mono hs4))) (by omega) (by omega) ?_
  intro A7 c7 w7 ho7 hb7
  have HO7 := Lib.hid ho7; clear ho7
  have HB7 := Lib.hid (HB6.out.trans (hb7.mono hs6)); clear hb7
  have hs7 := HB7.out.size
  refine hK.out _ _ HB7.out (fun _ => ?_)
  clear hK K
  simp only [Act.put, List.setIfInBounds_toArray, List.set_cons_zero, List.set_cons_succ]
  refine wpAnyH_ready (rs := [5]) (by kernel_rfl) (by simp) ?_
  refine AllReadyH.cons (o := ⟨_, _, _, _, _, _⟩) rfl (fun K hK => ?_) AllReadyH.nil
  go_simp
  refine hK.out _ _ (HB7.out.alloc hs7 _) (fun _ => ?_)
  clear hK K
  refine wpAnyH_ready (rs := [6]) (by kernel_rfl) (by simp) ?_
  refine AllReadyH.cons (o := ⟨_, _, _, _, _, _⟩) rfl (fun K hK => ?_) AllReadyH.nil
  go_simp
  refine (of_one w7 w7.heap.size A7 n c7 bs HN.out (by omega) HO7.out.rd (Nat.le_refl _)).mono ?_
  rintro e w' ⟨rfl, rfl⟩
  refine hK.out _ _ (HB7.out.alloc hs7 _) (fun _ => ?_)
  clear hK K
  generalize hw8 : w7.alloc (.cells #[.slice A7 n c7] 22) = w8
  have HB8 : Hid (Below w4.heap.size w4 w8) := Lib.hid (by rw [← hw8]; exact HB7.out.alloc hs7 _)
  clear hw8 HB7 HO7 hs7
  have HR8 := Lib.hid (HR.out.below (HB4.out.trans (HB8.out.mono hs4)))
  have hs8 := HB8.out.size
  refine wpAnyH_ready (rs := [8]) (by kernel_rfl) (by simp) ?_
  refine AllReadyH.cons (o := ⟨_, _, _, _, _, _⟩) rfl (fun K hK => ?_) AllReadyH.nil
  go_simp
  refine (of_r A n c bs HN.out (by omega) w.heap.size _ HR8.out).mono ?_
  rintro e w' ⟨rfl, rfl⟩
  refine hK.out _ _ HB8.out (fun _ => ?_)
  clear hK K
  refine take_in (i := 9) (oi := ⟨_, _, _, _, _, _⟩) (v := ?_) rfl (by kernel_rfl) (by kernel_rfl) (by kernel_rfl) (fun _ _ _ h => h) (by rfl) ?_ HB8.out ?_
  rotate_left
  · intro W hW; go_simp; with_reducible rfl
  simp only [Act.put, List.setIfInBounds_toArray, List.set_cons_zero, List.set_cons_succ]
  refine take_in (i := 10) (oi := ⟨_, _, _, _, _, _⟩) (v := ?_) rfl (by kernel_rfl) (by kernel_rfl) (by kernel_rfl) (fun _ _ _ h => h) (by rfl) ?_ HB8.out ?_
  rotate_left
  · intro W hW; go_simp; with_reducible rfl
  simp only [Act.put, List.setIfInBounds_toArray, List.set_cons_zero, List.set_cons_succ]
  refine take_in (i := 11) (oi := ⟨_, _, _, _, _, _⟩) (v := ?_) rfl (by kernel_rfl) (by kernel_rfl) (by kernel_rfl) (fun _ _ _ h => h) (by rfl) ?_ HB8.out ?_
  rotate_left
  · intro W hW; go_simp; with_reducible rfl
  simp only [Act.put, List.setIfInBounds_toArray, List.set_cons_zero, List.set_cons_succ]
  refine take_in (i := 13) (oi := ⟨_, _, _, _, _, _⟩) (v := ?_) rfl (by kernel_rfl) (by kernel_rfl) (by kernel_rfl) (fun _ _ _ h => h) (by rfl) ?_ HB8.out ?_
  rotate_left
  · intro W hW; go_simp; with_reducible rfl
  simp only [Act.put, List.setIfInBounds_toArray, List.set_cons_zero, List.set_cons_succ]
  refine take_in (i := 17) (oi := ⟨_, _, _, _, _, _⟩) (v := ?_) rfl (by kernel_rfl) (by kernel_rfl) (by kernel_rfl) (fun _ _ _ h => h) (by rfl) ?_ HB8.out ?_
  rotate_left
  · intro W hW; go_simp; with_reducible rfl
  simp only [Act.put, List.setIfInBounds_toArray, List.set_cons_zero, List.set_cons_succ]
  refine wpAnyH_ready (rs := [12]) (by kernel_rfl) (by simp) ?_
  refine AllReadyH.cons (o := ⟨_, _, _, _, _, _⟩) rfl (fun K hK => ?_) AllReadyH.nil
  go_simp
  refine hK.out _ _ (HB8.out.alloc hs8 _) (fun _ => ?_)
  clear hK K
  refine wpAnyH_ready (rs := [14]) (by kernel_rfl) (by simp) ?_
  refine AllReadyH.cons (o := ⟨_, _, _, _, _, _⟩) rfl (fun K hK => ?_) AllReadyH.nil
  rw [if_pos (show Region.wanted _ _ = true by rfl)]
  refine op_copy8 (.tmp 33) (.tmp 34) rfl w8 rfl w.heap.size A n c bs rfl HN.out HR8.out (by omega) (by omega) ?_
  intro A9 c9 w9 ho9 hb9
  have HO9 := Lib.hid ho9; clear ho9
  have HB9 := Lib.hid (HB8.out.trans (hb9.mono hs8)); clear hb9
  have hs9 := HB9.out.size
  refine hK.out _ _ HB9.out (fun _ => ?_)
  clear hK K
  simp only [Act.put, List.setIfInBounds_toArray, List.set_cons_zero, List.set_cons_succ]
  refine wpAnyH_ready (rs := [15]) (by kernel_rfl) (by simp) ?_
  refine AllReadyH.cons (o := ⟨_, _, _, _, _, _⟩) rfl (fun K hK => ?_) AllReadyH.nil
  go_simp
  refine (seal_c A9 n c9 bs HN.out w9.heap.size _ HO9.out.rd (Nat.le_refl _) hb).mono ?_
  rintro e w10 ⟨A10, n10, c10, rfl, ho10, hb10⟩
  have HB10 := Lib.hid (HB9.out.trans (hb10.mono hs9)); clear hb10
  have hs10 := HB10.out.size
  have HK10 : Hid (∀ W', Below w10.heap.size w10 W' → (convert 22 9 (.slice A10 n10 c10)).run Try.prog W' = .ok (.string S6) W') := Lib.hid (by
    intro W' h
    rw [HS6.out]
    exact str8' c10 (ho10.rd.below h) ho10.1)
  clear ho10
  refine hK.out _ _ HB10.out (fun _ => ?_)
  clear hK K
  refine tighten (S' := fun W' => Below w10.heap.size w10 W') (fun W' h => HB10.out.trans (h.mono hs10)) _ _ _ _ ?_
  refine take_in (i := 16) (oi := ⟨_, _, _, _, _, _⟩) (v := ?_) rfl (by kernel_rfl) (by kernel_rfl) (by kernel_rfl) (fun _ _ _ h => h) (by rfl) ?_ (Below.refl _ _) ?_
  rotate_left
  · intro W hW; have hq := HK10.out W hW; go_simp; with_reducible rfl
  simp only [Act.put, List.setIfInBounds_toArray, List.set_cons_zero, List.set_cons_succ]
  refine wpAnyH_ready (rs := [18]) (by kernel_rfl) (by simp) ?_
  refine AllReadyH.cons (o := ⟨_, _, _, _, _, _⟩) rfl (fun K hK => ?_) AllReadyH.nil
  go_simp
  refine (seal_r A n c bs HN.out w.heap.size _ (HR.out.below (HB4.out.trans (HB10.out.mono hs4))) (by omega) hb).mono ?_
  rintro e w11 ⟨A11, n11, c11, rfl, ho11, hb11⟩
  have HB11 := Lib.hid (HB10.out.trans (hb11.mono hs10))
  have hcv11 : (convert 22 9 (.slice A11 n11 c11)).run Try.prog w11 = .ok (.string S6) w11 := by
    rw [HS6.out]
    exact str8' c11 ho11.rd ho11.1
  have hq := HK.out w11 HB11.out
  clear ho11
  refine hK.out _ _ hb11 (fun _ => ?_)
  clear hK K
  refine switch hb11 _ _ _ _ rfl ?_
  clear hb11
  refine take_in (i := 19) (oi := ⟨_, _, _, _, _, _⟩) (v := ?_) rfl (by kernel_rfl) (by kernel_rfl) (by kernel_rfl) (fun _ _ _ h => h) (by rfl) ?_ rfl ?_
  rotate_left
  · intro W hW; subst hW; go_simp; with_reducible rfl
  simp only [Act.put, List.setIfInBounds_toArray, List.set_cons_zero, List.set_cons_succ]
  refine take_in (i := 20) (oi := ⟨_, _, _, _, _, _⟩) (v := ?_) rfl (by kernel_rfl) (by kernel_rfl) (by kernel_rfl) (fun _ _ _ h => h) (by rfl) ?_ rfl ?_
  rotate_left
  · intro W hW; subst hW; go_simp; with_reducible rfl
  simp only [Act.put, List.setIfInBounds_toArray, List.set_cons_zero, List.set_cons_succ]
  refine take_in (i := 21) (oi := ⟨_, _, _, _, _, _⟩) (v := ?_) rfl (by kernel_rfl) (by kernel_rfl) (by kernel_rfl) (fun _ _ _ h => h) (by rfl) ?_ rfl ?_
  rotate_left
  · intro W hW; subst hW; go_simp; with_reducible rfl
  simp only [Act.put, List.setIfInBounds_toArray, List.set_cons_zero, List.set_cons_succ]
  refine take_in (i := 22) (oi := ⟨_, _, _, _, _, _⟩) (v := ?_) rfl (by kernel_rfl) (by kernel_rfl) (by kernel_rfl) (fun _ _ _ h => h) (by rfl) ?_ rfl ?_
  rotate_left
  · intro W hW; subst hW; go_simp; with_reducible rfl
  simp only [Act.put, List.setIfInBounds_toArray, List.set_cons_zero, List.set_cons_succ]
  refine take_in (i := 23) (oi := ⟨_, _, _, _, _, _⟩) (v := ?_) rfl (by kernel_rfl) (by kernel_rfl) (by kernel_rfl) (fun _ _ _ h => h) (by rfl) ?_ rfl ?_
  rotate_left
  · intro W hW; subst hW; go_simp; with_reducible rfl
  simp only [Act.put, List.setIfInBounds_toArray, List.set_cons_zero, List.set_cons_succ]
  refine take_in (i := 24) (oi := ⟨_, _, _, _, _, _⟩) (v := ?_) rfl (by kernel_rfl) (by kernel_rfl) (by kernel_rfl) (fun _ _ _ h => h) (by rfl) ?_ rfl ?_
  rotate_left
  · intro W hW; subst hW; go_simp; with_reducible rfl
  simp only [Act.put, List.setIfInBounds_toArray, List.set_cons_zero, List.set_cons_succ]
  refine take_in (i := 25) (oi := ⟨_, _, _, _, _, _⟩) (v := ?_) rfl (by kernel_rfl) (by kernel_rfl) (by kernel_rfl) (fun _ _ _ h => h) (by rfl) ?_ rfl ?_
  rotate_left
  · intro W hW; subst hW; go_simp; with_reducible rfl
  simp only [Act.put, List.setIfInBounds_toArray, List.set_cons_zero, List.set_cons_succ]
  refine take_in (i := 26) (oi := ⟨_, _, _, _, _, _⟩) (v := ?_) rfl (by kernel_rfl) (by kernel_rfl) (by kernel_rfl) (fun _ _ _ h => h) (by rfl) ?_ rfl ?_
  rotate_left
  · intro W hW; subst hW; go_simp; with_reducible rfl
  simp only [Act.put, List.setIfInBounds_toArray, List.set_cons_zero, List.set_cons_succ]
  refine take_in (i := 27) (oi := ⟨_, _, _, _, _, _⟩) (v := ?_) rfl (by kernel_rfl) (by kernel_rfl) (by kernel_rfl) (fun _ _ _ h => h) (by rfl) ?_ rfl ?_
  rotate_left
  · intro W hW; subst hW; go_simp; with_reducible rfl
  simp only [Act.put, List.setIfInBounds_toArray, List.set_cons_zero, List.set_cons_succ]
  refine take_in (i := 28) (oi := ⟨_, _, _, _, _, _⟩) (v := ?_) rfl (by kernel_rfl) (by kernel_rfl) (by kernel_rfl) (fun _ _ _ h => h) (by rfl) ?_ rfl ?_
  rotate_left
  · intro W hW; subst hW; go_simp; with_reducible rfl
  simp only [Act.put, List.setIfInBounds_toArray, List.set_cons_zero, List.set_cons_succ]
  refine take_in (i := 29) (oi := ⟨_, _, _, _, _, _⟩) (v := ?_) rfl (by kernel_rfl) (by kernel_rfl) (by kernel_rfl) (fun _ _ _ h => h) (by rfl) ?_ rfl ?_
  rotate_left
  · intro W hW; subst hW; go_simp; with_reducible rfl
  simp only [Act.put, List.setIfInBounds_toArray, List.set_cons_zero, List.set_cons_succ]
  refine take_in (i := 30) (oi := ⟨_, _, _, _, _, _⟩) (v := ?_) rfl (by kernel_rfl) (by kernel_rfl) (by kernel_rfl) (fun _ _ _ h => h) (by rfl) ?_ rfl ?_
  rotate_left
  · intro W hW; subst hW; go_simp; with_reducible rfl
  simp only [Act.put, List.setIfInBounds_toArray, List.set_cons_zero, List.set_cons_succ]
  refine take_in (i := 31) (oi := ⟨_, _, _, _, _, _⟩) (v := ?_) rfl (by kernel_rfl) (by kernel_rfl) (by kernel_rfl) (fun _ _ _ h => h) (by rfl) ?_ rfl ?_
  rotate_left
  · intro W hW; subst hW; go_simp; with_reducible rfl
  simp only [Act.put, List.setIfInBounds_toArray, List.set_cons_zero, List.set_cons_succ]
  refine take_in (i := 32) (oi := ⟨_, _, _, _, _, _⟩) (v := ?_) rfl (by kernel_rfl) (by kernel_rfl) (by kernel_rfl) (fun _ _ _ h => h) (by rfl) ?_ rfl ?_
  rotate_left
  · intro W hW; subst hW; go_simp; with_reducible rfl
  simp only [Act.put, List.setIfInBounds_toArray, List.set_cons_zero, List.set_cons_succ]
  refine take_in (i := 33) (oi := ⟨_, _, _, _, _, _⟩) (v := ?_) rfl (by kernel_rfl) (by kernel_rfl) (by kernel_rfl) (fun _ _ _ h => h) (by rfl) ?_ rfl ?_
  rotate_left
  · intro W hW; subst hW; go_simp; with_reducible rfl
  simp only [Act.put, List.setIfInBounds_toArray, List.set_cons_zero, List.set_cons_succ]
  refine take_in (i := 34) (oi := ⟨_, _, _, _, _, _⟩) (v := ?_) rfl (by kernel_rfl) (by kernel_rfl) (by kernel_rfl) (fun _ _ _ h => h) (by rfl) ?_ rfl ?_
  rotate_left
  · intro W hW; subst hW; go_simp; with_reducible rfl
  simp only [Act.put, List.setIfInBounds_toArray, List.set_cons_zero, List.set_cons_succ]
  refine wpAnyH_done (by kernel_rfl) ?_ _
  go_wp2
  go_ret
  exact ⟨rfl, HB4.out.trans (HB11.out.mono hs4)⟩
end Go.Proofs.Ytbfegppjaoabaaa.crcFrames
