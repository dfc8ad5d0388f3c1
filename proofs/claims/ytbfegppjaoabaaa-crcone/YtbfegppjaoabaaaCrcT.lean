/- What crc.turn and crc.Burst do: contracts by walks. -/
import Derived.Test.YtbfegppjaoabaaaCrcL
import Derived.RegionTactic
import Derived.BigRegion
namespace Go.Proofs.Ytbfegppjaoabaaa
open Go.RowKit
open Crc

theorem turn_set (bs : List UInt8) (k : Nat) (x : UInt8) (h : bs[k / 8]? = some x) : turn bs k = bs.set (k / 8) (x ^^^ UInt8.ofNat (2 ^ (k % 8))) := by
  unfold turn
  apply List.ext_getElem?
  intro i
  rw [List.getElem?_modify, List.getElem?_set]
  by_cases hi : k / 8 = i
  · subst hi
    rw [h]
    have hl : k / 8 < bs.length := by
      rcases Nat.lt_or_ge (k / 8) bs.length with h2 | h2
      · exact h2
      · rw [List.getElem?_eq_none h2] at h; cases h
    simp [hl]
  · simp [hi]
theorem xor8_v (x : UInt8) (j : Nat) (hj : j < 8) : Go.bits .xor .u8 (x.toNat : Int) ((2 : Int) ^ j % 256) = ((x ^^^ UInt8.ofNat (2 ^ j)).toNat : Int) := by
  have h : 2 ^ j < 256 := Nat.pow_lt_pow_right (by omega) (show j < 8 from hj)
  have e : (2 : Int) ^ j % 256 = ((2 ^ j : Nat) : Int) := by
    rw [show ((2 ^ j : Nat) : Int) = (2 : Int) ^ j from by simp]
    apply Int.emod_eq_of_lt
    · exact Int.pow_nonneg (by omega)
    · have : ((2 ^ j : Nat) : Int) < 256 := by omega
      simpa using this
  rw [e, u8_xor_nat _ _ (UInt8.toNat_lt x) h, UInt8.toNat_xor, UInt8.toNat_ofNat', Nat.mod_eq_of_lt h]

theorem bitLen_le (m k : Nat) (h : m < 2 ^ k) : Go.bitLen m ≤ k := by
  have h1 := (bitLen_spec m).2
  rcases Nat.eq_zero_or_pos m with h0 | h0
  · subst h0; simp [Go.bitLen]
  · have h2 := h1 (by omega)
    have h3 : Go.bitLen m - 1 < k := (Nat.pow_lt_pow_iff_right (by omega)).1 (Nat.lt_of_le_of_lt h2 h)
    omega

theorem bit_v (m k : Nat) (hm : m < 2 ^ 32) : Go.bits .and .u32 ((m : Int) / 2 ^ k) 1 = ((if m.testBit k then 1 else 0 : Nat) : Int) := by
  have e : (m : Int) / 2 ^ k = ((m / 2 ^ k : Nat) : Int) := by simp
  rw [e, show (1 : Int) = ((1 : Nat) : Int) from rfl, u32_and_nat _ _ (Nat.lt_of_le_of_lt (Nat.div_le_self _ _) hm) (by omega), Nat.and_one_is_mod, Nat.testBit_eq_decide_div_mod_eq]
  congr 1
  rcases Nat.mod_two_eq_zero_or_one (m / 2 ^ k) with h | h <;> simp [h]

theorem turn_c (A : Option Addr) (n c base k : Nat) (bs : List UInt8) (w : World) (ho : Own w base A n c bs) (hk : k / 8 < n) (hn : n ≤ big) :
    Calls Try.prog 22 #[.slice A n c, .int .i64 (k : Int)] w fun e w' => e = .returned (.tuple #[]) ∧ Own w' base A n c (turn bs k) ∧ Below base w w' := by
  have hn47 : n ≤ 140737488355328 := hn
  rcases ho.2.2 with ⟨_, h0⟩ | ⟨g, cap, cur, hv, hg, hh, r⟩
  · omega
  injection hv with h1 h2 h3
  subst h1
  subst h3
  have hl : k / 8 < bs.length := by have := ho.1; omega
  have hc := ho.2.cellAt (k / 8) (by omega)
  have hf := ho.2.frozenAt (k / 8)
  rw [List.getElem?_map, List.getElem?_eq_getElem hl] at hc
  have hb : bs[k / 8]? = some bs[k / 8] := List.getElem?_eq_getElem hl
  generalize bs[k / 8] = x at hb hc
  have hc' : w.cell? ⟨g, k / 8, none⟩ = some (.int .u8 (x.toNat : Int)) := hc
  have HO := Lib.hid ho
  have HB := Lib.hid hb
  clear ho hb hc r hh
  go_enter Try.func22, Try.ntmps22
  go_wp2
  go_region
  all_goals go_end0
  all_goals
    refine ⟨rfl, ⟨?_, ?_⟩, ((Below.refl _ _).setCell hg _).drew⟩
    · rw [turn_len]; exact HO.out.1
    · rw [turn_set _ _ _ HB.out, List.map_set, xor8_v _ _ (Nat.mod_lt _ (by omega))]
      exact (HO.out.2.stored (k / 8) _).1

/-- what Burst answers -/
def burstF (bs : List UInt8) (at_ : Int) (mask : Nat) : List UInt8 := if at_ < 0 ∨ 8 * (bs.length : Int) - (Go.bitLen mask : Int) < at_ then bs else turns bs at_.toNat mask (Go.bitLen mask)

theorem burst_c (A : Option Addr) (n c : Nat) (bs : List UInt8) (hn : n = bs.length) (at_ : Int) (ha1 : -9223372036854775808 ≤ at_) (ha2 : at_ ≤ 9223372036854775807) (mask : Nat) (hm : mask < 2 ^ 32)
    (B : Nat) (w : World) (hr : Rd w B A (bs.map B8)) (hB : B ≤ w.heap.size) (hl : n ≤ big) :
    Calls Try.prog 12 #[.slice A n c, .int .i64 at_, .int .u32 (mask : Int)] w (RetOwn w w.heap.size (burstF bs at_ mask)) := by
  have h47 : n ≤ 140737488355328 := hl
  have HN := Lib.hid hn
  have HR := Lib.hid hr; clear hr
  have hw32 : Go.bitLen mask ≤ 32 := bitLen_le _ _ hm
  obtain ⟨q, hq⟩ : ∃ q, q = Go.bitLen mask := ⟨_, rfl⟩
  have HF := Lib.hid (show burstF bs at_ mask = if at_ < 0 ∨ 8 * (n : Int) - (q : Int) < at_ then bs else turns bs at_.toNat mask q by rw [hq, hn]; rfl)
  have HM := Lib.hid hm
  rw [← hq] at hw32
  have HQ := Lib.hid hq
  clear hq hn hm
  go_enter Try.func12, Try.ntmps12
  go_wp2_with fail
  refine (clone_c A n c bs HN.out B _ HR.out hB hl).mono ?_
  rintro e w1 ⟨A1, n1, c1, rfl, ho1, hb1⟩
  have HO1 := Lib.hid ho1; clear ho1
  have HB1 := Lib.hid hb1; clear hb1
  have hn1 : n1 = n := by rw [HO1.out.1, HN.out]
  subst hn1
  go_wp2_with fail
  refine (len_c mask HM.out _).mono ?_
  rintro e w' ⟨rfl, rfl⟩
  rw [← HQ.out]
  by_cases h1 : at_ < 0
  · go_wp2
    go_ret
    rw [HF.out, if_pos (Or.inl h1)]
    exact ⟨A1, _, c1, rfl, HO1.out, HB1.out⟩
  by_cases h2 : 8 * (n1 : Int) - (q : Int) < at_
  · go_wp2
    go_ret
    rw [HF.out, if_pos (Or.inr h2)]
    exact ⟨A1, _, c1, rfl, HO1.out, HB1.out⟩
  obtain ⟨a, rfl⟩ : ∃ a : Nat, at_ = (a : Int) := ⟨at_.toNat, by omega⟩
  have HF2 := Lib.hid (HF.out.trans (if_neg (by omega)))
  clear HF
  go_wp2
  go_loopw [27] (fun i wr => ∃ k : Nat, i = .int .i64 k ∧ k ≤ q ∧ Own wr w.heap.size A1 n1 c1 (turns bs a mask k) ∧ Below w.heap.size w wr) (fun i _ => q - (intOf i).toNat)
  case atStart => exact ⟨0, rfl, by omega, HO1.out, HB1.out⟩
  case round =>
    obtain ⟨k, rfl, hk, ho, hb⟩ := hrel
    have HO := Lib.hid ho; clear ho
    have HB := Lib.hid hb; clear hb
    by_cases h : k < q
    · have hbv := bit_v mask k HM.out
      cases hb : mask.testBit k with
      | true =>
        have hbit : (Go.bits .and .u32 ((mask : Int) / 2 ^ k) 1 == 1) = true := by rw [hbv, hb]; rfl
        have HT := Lib.hid hb
        clear hbv hb
        go_wp2_with fail
        have e1 : (a : Int) + (k : Int) = ((a + k : Nat) : Int) := by omega
        rw [e1]
        clear e1
        refine (turn_c A1 n1 c1 w.heap.size (a + k) _ wr HO.out (by omega) hl).mono ?_
        rintro e w2 ⟨rfl, ho2, hb2⟩
        have HO2 := Lib.hid ho2; clear ho2
        have HB2 := Lib.hid (HB.out.trans hb2); clear hb2
        go_wp2
        refine ⟨⟨k + 1, by go_num, by omega, ?_, HB2.out⟩, by simp [intOf]; omega⟩
        rw [turns, if_pos HT.out]
        exact HO2.out
      | false =>
        have hbit : (Go.bits .and .u32 ((mask : Int) / 2 ^ k) 1 == 1) = false := by rw [hbv, hb]; rfl
        have HT := Lib.hid hb
        clear hbv hb
        go_wp2
        refine ⟨⟨k + 1, by go_num, by omega, ?_, HB.out⟩, by simp [intOf]; omega⟩
        rw [turns, if_neg (by rw [HT.out]; simp)]
        exact HO.out
    · go_wp2
      go_ret
      obtain rfl : k = q := by omega
      rw [HF2.out]
      exact ⟨A1, _, c1, rfl, HO.out, HB.out⟩
end Go.Proofs.Ytbfegppjaoabaaa
