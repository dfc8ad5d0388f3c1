/- The walk of CrcFinds. -/
import Derived.Test.YtbfegppjaoabaaaCrcQ
import Derived.Test.YtbfegppjaoabaaaWf
namespace Go.Proofs.Ytbfegppjaoabaaa.crcFinds
open Go.RowKit
open Crc

theorem burst_len (bs : List UInt8) (at_ : Int) (m : Nat) : (burstF bs at_ m).length = bs.length := by
  unfold burstF
  split
  · rfl
  · exact turns_len _ _ _ _
theorem burst_twice (bs : List UInt8) (at_ : Int) (m : Nat) : burstF (burstF bs at_ m) at_ m = bs := by
  have hl := burst_len bs at_ m
  by_cases h : at_ < 0 ∨ 8 * (bs.length : Int) - (Go.bitLen m : Int) < at_
  · have e : burstF bs at_ m = bs := if_pos h
    rw [e, e]
  · have e : burstF bs at_ m = turns bs at_.toNat m (Go.bitLen m) := if_neg h
    have e2 : burstF (burstF bs at_ m) at_ m = turns (burstF bs at_ m) at_.toNat m (Go.bitLen m) := if_neg (by rw [hl]; exact h)
    rw [e2, e, turns_twice]
theorem burst_found (b : List UInt8) (at_ : Int) (m : Nat) (hm : m < 2 ^ 32) (h : burstF (seal_ b) at_ m ≠ seal_ b) : openF (burstF (seal_ b) at_ m) = none := by
  by_cases hc : at_ < 0 ∨ 8 * ((seal_ b).length : Int) - (Go.bitLen m : Int) < at_
  · exact absurd (if_pos hc) h
  · have e : burstF (seal_ b) at_ m = turns (seal_ b) at_.toNat m (Go.bitLen m) := if_neg hc
    rw [e] at h ⊢
    exact turns_found b _ m _ (bitLen_le m 32 hm) h

set_option maxRecDepth 100000 in
set_option maxHeartbeats 4000000 in
theorem walk (w : World) (A : Option Addr) (n c : Nat) (bs : List UInt8) (hn : n = bs.length) (_hc : n ≤ c) (hr : Rd w w.heap.size A (bs.map B8)) (_hl : c * 1 ≤ 140737488351232)
    (at_ : Int) (hat : (Lit.int .i64 at_).wf = true) (mask : Int) (hmask : (Lit.int .u32 mask).wf = true) :
    Calls Try.prog 6 #[.slice A n c, .int .i64 at_, .int .u32 mask] w fun e w' => e = .returned (.bool true) ∧ Below w.heap.size w w' := by
  have hb : n + 4 ≤ big := by unfold big; omega
  have h47 : n ≤ 140737488355328 := by omega
  obtain ⟨ha1, ha2⟩ := wf_i64 hat
  obtain ⟨m, rfl, hm⟩ := wf_u32 hmask
  clear _hc _hl hat hmask
  have HN := Lib.hid hn; clear hn
  have HR := Lib.hid hr; clear hr
  have HM := Lib.hid hm; clear hm
  go_enter Try.func6, Try.ntmps6
  go_wp2_with fail
  refine (alive_c _).mono ?_
  rintro e w1 ⟨rfl, hb1⟩
  have HB1 := Lib.hid hb1; clear hb1
  have hs1 := HB1.out.size
  by_cases h3 : (3000 : Int) < (n : Int)
  · go_wp2
    go_ret
    exact ⟨rfl, HB1.out⟩
  go_wp2_with fail
  refine (seal_c A n c bs HN.out w.heap.size _ (HR.out.below HB1.out) hs1 hb).mono ?_
  rintro e w2 ⟨A2, n2, c2, rfl, ho2, hb2⟩
  have HO2 := Lib.hid ho2; clear ho2
  have HB2 := Lib.hid (HB1.out.trans (hb2.mono hs1)); clear hb2
  have hs2 := HB2.out.size
  have hn2 : n2 ≤ big := by rw [HO2.out.1, seal_len, ← HN.out]; exact hb
  go_wp2_with fail
  refine (burst_c A2 n2 c2 (seal_ bs) HO2.out.1 at_ ha1 ha2 m HM.out w2.heap.size _ HO2.out.rd (Nat.le_refl _) hn2).mono ?_
  rintro e w3 ⟨A3, n3, c3, rfl, ho3, hb3⟩
  have HO3 := Lib.hid ho3; clear ho3
  have HR2 := Lib.hid ((HO2.out.rd.below hb3).more hb3.size)
  have HN2 := Lib.hid HO2.out.1
  have HB3 := Lib.hid (HB2.out.trans (hb3.mono hs2)); clear hb3 HO2
  have hs3 := HB3.out.size
  have hn3 : n3 ≤ big := by rw [HO3.out.1, burst_len, ← HN2.out]; exact hn2
  obtain ⟨S0, hS0⟩ : ∃ S0, S0 = str (seal_ bs) := ⟨_, rfl⟩
  have HS0 := Lib.hid hS0; clear hS0
  have HK : Hid (∀ W', Below w3.heap.size w3 W' → (convert 22 9 (.slice A2 n2 c2)).run Try.prog W' = .ok (.string S0) W') := Lib.hid (by
    intro W' h
    rw [HS0.out]
    exact str8' c2 (HR2.out.below h) HN2.out)
  go_wp2
  refine wp_region_held_drew (S := fun W' => Below w3.heap.size w3 W') (by kernel_rfl) (Below.refl _ _).drew (fun hHeld => ?_)
  generalize w3.drew = w5 at hHeld ⊢
  have HB5 : Hid (Below w3.heap.size w3 w5) := hHeld
  clear hHeld
  have hs5 := HB5.out.size
  refine take_in (i := 0) (oi := ⟨_, _, _, _, _, _⟩) (v := ?_) rfl (by kernel_rfl) (by kernel_rfl) (by kernel_rfl) (fun _ _ _ h => h) (by rfl) ?_ HB5.out ?_
  rotate_left
  · intro W hW; have hq := HK.out W hW; go_simp; with_reducible rfl
  simp only [Act.put, List.setIfInBounds_toArray, List.set_cons_zero, List.set_cons_succ]
  refine take_in (i := 1) (oi := ⟨_, _, _, _, _, _⟩) (v := ?_) rfl (by kernel_rfl) (by kernel_rfl) (by kernel_rfl) (fun _ _ _ h => h) (by rfl) ?_ HB5.out ?_
  rotate_left
  · intro W hW; have hq := HK.out W hW; go_simp; with_reducible rfl
  simp only [Act.put, List.setIfInBounds_toArray, List.set_cons_zero, List.set_cons_succ]
  refine take_in (i := 2) (oi := ⟨_, _, _, _, _, _⟩) (v := ?_) rfl (by kernel_rfl) (by kernel_rfl) (by kernel_rfl) (fun _ _ _ h => h) (by rfl) ?_ HB5.out ?_
  rotate_left
  · intro W hW; have hq := HK.out W hW; go_simp; with_reducible rfl
  simp only [Act.put, List.setIfInBounds_toArray, List.set_cons_zero, List.set_cons_succ]
  refine take_in (i := 5) (oi := ⟨_, _, _, _, _, _⟩) (v := ?_) rfl (by kernel_rfl) (by kernel_rfl) (by kernel_rfl) (fun _ _ _ h => h) (by rfl) ?_ HB5.out ?_
  rotate_left
  · intro W hW; have hq := HK.out W hW; go_simp; with_reducible rfl
  simp only [Act.put, List.setIfInBounds_toArray, List.set_cons_zero, List.set_cons_succ]
  refine take_in (i := 6) (oi := ⟨_, _, _, _, _, _⟩) (v := ?_) rfl (by kernel_rfl) (by kernel_rfl) (by kernel_rfl) (fun _ _ _ h => h) (by rfl) ?_ HB5.out ?_
  rotate_left
  · intro W hW; have hq := HK.out W hW; go_simp; with_reducible rfl
  simp only [Act.put, List.setIfInBounds_toArray, List.set_cons_zero, List.set_cons_succ]
  refine wpAnyH_ready (rs := [3]) (by kernel_rfl) (by simp) ?_
  refine AllReadyH.cons (o := ⟨_, _, _, _, _, _⟩) rfl (fun K hK => ?_) AllReadyH.nil
  go_simp
  refine (burst_c A3 n3 c3 _ HO3.out.1 at_ ha1 ha2 m HM.out w3.heap.size _ (HO3.out.rd.below HB5.out) hs5 hn3).mono ?_
  rw [burst_twice]
  rintro e w7 ⟨A7, n7, c7, rfl, ho7, hb7⟩
  have HB7 := Lib.hid (HB5.out.trans (hb7.mono hs5)); clear hb7
  have hcv : (convert 22 9 (.slice A7 n7 c7)).run Try.prog w7 = .ok (.string S0) w7 := by
    rw [HS0.out]
    exact str8' c7 ho7.rd ho7.1
  clear ho7
  refine hK.out _ _ HB7.out (fun _ => ?_)
  clear hK K
  refine switch HB7.out _ _ _ _ rfl ?_
  refine take_in (i := 4) (oi := ⟨_, _, _, _, _, _⟩) (v := ?_) rfl (by kernel_rfl) (by kernel_rfl) (by kernel_rfl) (fun _ _ _ h => h) (by rfl) ?_ rfl ?_
  rotate_left
  · intro W hW; subst hW; go_simp; with_reducible rfl
  simp only [Act.put, List.setIfInBounds_toArray, List.set_cons_zero, List.set_cons_succ]
  refine take_in (i := 7) (oi := ⟨_, _, _, _, _, _⟩) (v := ?_) rfl (by kernel_rfl) (by kernel_rfl) (by kernel_rfl) (fun _ _ _ h => h) (by rfl) ?_ rfl ?_
  rotate_left
  · intro W hW; subst hW; go_simp; with_reducible rfl
  simp only [Act.put, List.setIfInBounds_toArray, List.set_cons_zero, List.set_cons_succ]
  refine wpAnyH_done (by kernel_rfl) ?_ _
  have hs7 := HB7.out.size
  go_wp2_with fail
  refine (open_c A3 n3 c3 _ HO3.out.1 HO3.out.cap w3.heap.size _ (HO3.out.rd.below HB7.out) hs7 hn3).mono ?_
  rintro e w8 ⟨A8, n8, c8, rfl, hn8, _, hr8, hb8⟩
  have HN8 := Lib.hid hn8; clear hn8
  have HR8 := Lib.hid hr8; clear hr8
  have HB8 := Lib.hid (HB7.out.trans (hb8.mono hs7)); clear hb8
  have hcv2 : (convert 22 9 (.slice A2 n2 c2)).run Try.prog w8 = .ok (.string S0) w8 := HK.out w8 HB8.out
  obtain ⟨S1, hS1⟩ : ∃ S1, S1 = str (burstF (seal_ bs) at_ m) := ⟨_, rfl⟩
  have hcv3 : (convert 22 9 (.slice A3 n3 c3)).run Try.prog w8 = .ok (.string S1) w8 := by
    rw [hS1]
    exact str8' c3 (HO3.out.rd.below HB8.out) HO3.out.1
  have hss : (S1.toList == S0.toList) = decide (burstF (seal_ bs) at_ m = seal_ bs) := by
    rw [hS1, HS0.out, str_toList, str_toList]
    by_cases h : burstF (seal_ bs) at_ m = seal_ bs <;> simp [h]
  clear hS1
  clear hcv
  by_cases he : burstF (seal_ bs) at_ m = seal_ bs
  · rw [decide_eq_true he] at hss
    rw [he, open_seal] at HN8 HR8 ⊢
    have hcv8 := str8' c8 HR8.out HN8.out
    have hcvb := str8' c (HR.out.below (HB3.out.trans (HB8.out.mono hs3))) HN.out
    have hoE : oE (some bs) = 0 := rfl
    have hoB : oB (some bs) = bs := rfl
    rw [hoB] at hcv8
    clear he
    go_wp2
    go_ret
    exact ⟨rfl, HB3.out.trans (HB8.out.mono hs3)⟩
  · rw [decide_eq_false he] at hss
    rw [burst_found bs at_ m HM.out he] at HN8 HR8 ⊢
    have hoE : oE none = 31 := rfl
    have hn8 : n8 = 0 := HN8.out
    subst hn8
    clear he
    go_wp2
    go_ret
    exact ⟨rfl, HB3.out.trans (HB8.out.mono hs3)⟩
end Go.Proofs.Ytbfegppjaoabaaa.crcFinds
