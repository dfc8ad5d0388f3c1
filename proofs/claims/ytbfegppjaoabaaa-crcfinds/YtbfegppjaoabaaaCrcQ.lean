/- What the document's Burst answers: a contract by a walk. -/
import Derived.Test.YtbfegppjaoabaaaCrcR
namespace Go.Proofs.Ytbfegppjaoabaaa
open Go.RowKit
open Crc

theorem bit_lt {m k : Nat} (h : m.testBit k = true) : k < Go.bitLen m := by
  have h1 := Nat.ge_two_pow_of_testBit h
  have h2 := (bitLen_spec m).1
  exact (Nat.pow_lt_pow_iff_right (by omega : 1 < 2)).1 (Nat.lt_of_le_of_lt h1 h2)
theorem top_bit {m : Nat} (h : m ≠ 0) : m.testBit (Go.bitLen m - 1) = true := by
  have h1 := (bitLen_spec m).2 h
  have h2 := (bitLen_spec m).1
  have h0 : 0 < Go.bitLen m := by
    rcases Nat.eq_zero_or_pos (Go.bitLen m) with h3 | h3
    · rw [h3] at h2; omega
    · exact h3
  rw [Nat.testBit_eq_decide_div_mod_eq]
  have e : m / 2 ^ (Go.bitLen m - 1) = 1 := by
    have hp : 2 ^ Go.bitLen m = 2 * 2 ^ (Go.bitLen m - 1) := by
      rw [show Go.bitLen m = (Go.bitLen m - 1) + 1 by omega, Nat.pow_succ, Nat.add_sub_cancel, Nat.mul_comm]
    rw [hp] at h2
    exact Nat.div_eq_of_lt_le (by omega) (by omega)
  rw [e]
  rfl
theorem turns_more (bs : List UInt8) (a m k : Nat) (hk : Go.bitLen m ≤ k) : turns bs a m k = turns bs a m (Go.bitLen m) := by
  induction k with
  | zero => rw [show Go.bitLen m = 0 by omega]
  | succ k ih =>
    rcases Nat.lt_or_ge k (Go.bitLen m) with h | h
    · rw [show Go.bitLen m = k + 1 by omega]
    · have hf : m.testBit k = false := by
        cases hb : m.testBit k with
        | false => rfl
        | true => have := bit_lt hb; omega
      rw [turns, if_neg (by rw [hf]; simp)]
      exact ih h
theorem burst_out (bs : List UInt8) (at_ : Int) (m k : Nat) (hb : m.testBit k = true) (h : at_ < 0 ∨ 8 * (bs.length : Int) - (k : Int) ≤ at_) : burstF bs at_ m = bs := by
  have h1 := bit_lt hb
  unfold burstF
  rw [if_pos]
  rcases h with h | h
  · exact Or.inl h
  · right; omega
theorem burst_done (bs : List UInt8) (at_ : Int) (m : Nat) (hm : m < 2 ^ 32) (h : ∀ k, m.testBit k = true → 0 ≤ at_ ∧ at_ < 8 * (bs.length : Int) - (k : Int)) : turns bs at_.toNat m 32 = burstF bs at_ m := by
  rw [turns_more _ _ _ _ (bitLen_le m 32 hm)]
  unfold burstF
  by_cases h0 : m = 0
  · subst h0
    rw [show Go.bitLen 0 = 0 from rfl]
    split <;> rfl
  · have h1 := h _ (top_bit h0)
    have h2 := bit_lt (top_bit h0)
    rw [if_neg (by omega)]

theorem burst_r (A : Option Addr) (n c : Nat) (bs : List UInt8) (hn : n = bs.length) (at_ : Int) (ha1 : -9223372036854775808 ≤ at_) (ha2 : at_ ≤ 9223372036854775807) (mask : Nat) (hm : mask < 2 ^ 32)
    (B : Nat) (w : World) (hr : Rd w B A (bs.map B8)) (hB : B ≤ w.heap.size) (hl : n ≤ big) :
    Calls Try.prog 18 #[.slice A n c, .int .i64 at_, .int .u32 (mask : Int)] w (RetOwn w w.heap.size (burstF bs at_ mask)) := by
  have h47 : n ≤ 140737488355328 := hl
  have HN := Lib.hid hn; clear hn
  have HR := Lib.hid hr; clear hr
  have HM := Lib.hid hm; clear hm
  go_enter Try.func18, Try.ntmps18
  go_wp2_with (at_builtin; refine wp_copy8 rfl (.tmp 10) (.tmp 11) rfl w rfl B A n c bs rfl HN.out HR.out hB hl ?_; intro A1 c1 w1 ho1 hb1)
  have HO1 := Lib.hid ho1; clear ho1
  have HB1 := Lib.hid hb1; clear hb1
  go_loopw [8] (fun i wr => ∃ k : Nat, i = .int .i64 k ∧ k ≤ 32 ∧ (∀ j, j < k → mask.testBit j = true → 0 ≤ at_ ∧ at_ < 8 * (n : Int) - (j : Int)) ∧ Own wr w.heap.size A1 n c1 (turns bs at_.toNat mask k) ∧ Below w.heap.size w wr) (fun i _ => 32 - (intOf i).toNat)
  case atStart => exact ⟨0, rfl, by omega, fun j hj => absurd hj (by omega), HO1.out, HB1.out⟩
  case round =>
    obtain ⟨k, rfl, hk, hin, ho, hb⟩ := hrel
    have HO := Lib.hid ho; clear ho
    have hbw := hb.size
    have HB := Lib.hid hb; clear hb
    have HIN := Lib.hid hin; clear hin
    by_cases h : k < 32
    · have hbv := bit_v mask k HM.out
      cases hb : mask.testBit k with
      | false =>
        have hbit : (Go.bits .and .u32 ((mask : Int) / 2 ^ k) 1 == 0) = true := by rw [hbv, hb]; rfl
        have HT := Lib.hid hb
        clear hbv hb
        go_wp2
        refine ⟨⟨k + 1, by go_num, by omega, ?_, ?_, HB.out⟩, by simp [intOf]; omega⟩
        · intro j hj hjb
          rcases Nat.lt_or_ge j k with h3 | h3
          · exact HIN.out j h3 hjb
          · obtain rfl : j = k := by omega
            rw [HT.out] at hjb; cases hjb
        · rw [turns, if_neg (by rw [HT.out]; simp)]
          exact HO.out
      | true =>
        have hbit : (Go.bits .and .u32 ((mask : Int) / 2 ^ k) 1 == 0) = false := by rw [hbv, hb]; rfl
        have HT := Lib.hid hb
        clear hbv hb
        by_cases hout : at_ < 0 ∨ 8 * (n : Int) - (k : Int) ≤ at_
        · have HF : Hid (burstF bs at_ mask = bs) := Lib.hid (burst_out bs at_ mask k HT.out (by rw [← HN.out]; exact hout))
          by_cases h2 : at_ < 0
          · clear hout
            go_wp2_with (at_builtin; refine wp_copy8 rfl (.tmp 33) (.tmp 34) rfl wr rfl B A n c bs rfl HN.out (HR.out.below (HB.out.mono hB)) (by omega) hl ?_; intro A2 c2 w2 ho2 hb2)
            go_ret
            rw [HF.out]
            exact ⟨A2, _, c2, rfl, ho2.base hbw, HB.out.trans (hb2.mono hbw)⟩
          · have h1 : 8 * (n : Int) - (k : Int) ≤ at_ := by omega
            clear hout
            go_wp2_with (at_builtin; refine wp_copy8 rfl (.tmp 33) (.tmp 34) rfl wr rfl B A n c bs rfl HN.out (HR.out.below (HB.out.mono hB)) (by omega) hl ?_; intro A2 c2 w2 ho2 hb2)
            go_ret
            rw [HF.out]
            exact ⟨A2, _, c2, rfl, ho2.base hbw, HB.out.trans (hb2.mono hbw)⟩
        · obtain ⟨a, rfl⟩ : ∃ a : Nat, at_ = (a : Int) := ⟨at_.toNat, by omega⟩
          have h1 : ¬ ((a : Int) < 0) := by omega
          have h2 : ¬ (8 * (n : Int) - (k : Int) ≤ (a : Int)) := by omega
          clear hout
          have hturn : turns bs (a : Int).toNat mask (k + 1) = turn (turns bs (a : Int).toNat mask k) (a + k) := by
            rw [turns, if_pos HT.out]
            rfl
          have HTU := Lib.hid hturn; clear hturn
          have ho := HO.out
          generalize turns bs (a : Int).toNat mask k = ts at ho HTU
          clear HO
          have hNn : (a + k) / 8 < n := by omega
          rcases ho.2.2 with ⟨_, h0⟩ | ⟨g, cap, cur, hv, hg, hh, r⟩
          · exact absurd h0 (by omega)
          injection hv with e1 e2 e3
          subst e1
          subst e3
          have hlN : (a + k) / 8 < ts.length := by have := ho.1; omega
          have hc := ho.2.cellAt ((a + k) / 8) (by omega)
          have hf := ho.2.frozenAt ((a + k) / 8)
          rw [List.getElem?_map, List.getElem?_eq_getElem hlN] at hc
          have hb : ts[(a + k) / 8]? = some ts[(a + k) / 8] := List.getElem?_eq_getElem hlN
          generalize ts[(a + k) / 8] = x at hb hc
          have hc' : wr.cell? ⟨g, (a + k) / 8, none⟩ = some (.int .u8 (x.toNat : Int)) := hc
          have HO := Lib.hid ho
          have HX := Lib.hid hb
          clear ho hb hc r hh e2
          go_upto_region 9 with (fail)
          have e1 : (a : Int) + (k : Int) = ((a + k : Nat) : Int) := by omega
          rw [e1]
          clear e1
          obtain ⟨N, hN⟩ : ∃ N, N = a + k := ⟨_, rfl⟩
          rw [← hN] at hNn hlN hf hc' HX HTU ⊢
          clear hN
          go_region
          all_goals go_wp2
          all_goals
            refine ⟨⟨k + 1, by go_num, by omega, ?_, ?_, (HB.out.setCell hg _).drew⟩, by simp [intOf]; omega⟩
            · intro j hj hjb
              rcases Nat.lt_or_ge j k with h3 | h3
              · exact HIN.out j h3 hjb
              · obtain rfl : j = k := by omega
                omega
            · rw [HTU.out]
              refine ⟨by rw [turn_len]; exact HO.out.1, ?_⟩
              rw [turn_set _ _ _ HX.out, List.map_set, xor8_v _ _ (Nat.mod_lt _ (by omega))]
              exact (HO.out.2.stored (N / 8) _).1
    · go_wp2
      go_ret
      obtain rfl : k = 32 := by omega
      refine ⟨A1, _, c1, rfl, ?_, HB.out⟩
      rw [← burst_done bs at_ mask HM.out (fun j hj => by
        have := HIN.out j (Nat.lt_of_lt_of_le (bit_lt hj) (bitLen_le mask 32 HM.out)) hj
        rw [← HN.out]; exact this)]
      exact HO.out
end Go.Proofs.Ytbfegppjaoabaaa
