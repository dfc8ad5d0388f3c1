/- Contracts and words on which the claims of this seat stand, part 3: CrcC CrcD CrcE CrcF CrcL CrcT CrcA CrcR CrcQ. -/
import Derived.Test.YtfblnomkafimhaaGreatG01
import Derived.Laws.BitsAllLaws
import Derived.Laws.MathBits
import Derived.Deep.DeepCutAuto
import Derived.RegionTactic
import Derived.BigRegion
set_option linter.unusedSimpArgs false
set_option linter.unusedVariables false
namespace Go.Proofs.YtfblnomkafimhaaGreat
set_option maxRecDepth 20000
open Go.RowKit
open Crc

theorem xor_v (c d : BitVec 32) : Go.bits .xor .u32 (c.toNat : Int) (d.toNat : Int) = ((c ^^^ d).toNat : Int) := by
  rw [u32_xor_nat _ _ c.isLt d.isLt, BitVec.toNat_xor]
theorem not_v (d : BitVec 32) : Go.bits .xor .u32 IntKind.u32.max (d.toNat : Int) = ((~~~ d).toNat : Int) := by
  have := xor_v (BitVec.allOnes 32) d
  rw [BitVec.allOnes_xor] at this
  rw [← this]
  rfl
theorem low_v (d : BitVec 32) : Go.bits .and .u32 (d.toNat : Int) 1 = ((if d.getLsbD 0 then 1 else 0 : Nat) : Int) := by
  rw [show (1 : Int) = ((1 : Nat) : Int) from rfl, u32_and_nat _ _ d.isLt (by omega), Nat.and_one_is_mod]
  congr 1
  rw [← BitVec.testBit_toNat, Nat.testBit_zero]
  rcases Nat.mod_two_eq_zero_or_one d.toNat with h | h <;> simp [h]
theorem zero_v (d : BitVec 32) : Go.bits .xor .u32 ((d.toNat : Int) / 2) (Go.bits .and .u32 (d.toNat : Int) 1 * 3988292384 % 4294967296) = ((zero d).toNat : Int) := by
  have hd : (d.toNat : Int) / (2 : Int) = ((d >>> 1).toNat : Int) := by
    rw [BitVec.toNat_ushiftRight, Nat.shiftRight_eq_div_pow]
    omega
  rw [low_v, hd]
  unfold zero Crc.step
  rw [Bool.xor_false]
  cases d.getLsbD 0
  · have := xor_v (d >>> 1) 0#32
    rw [BitVec.xor_zero] at this
    simpa using this
  · have := xor_v (d >>> 1) poly
    simpa [poly] using this
theorem zeros_succ (k : Nat) : ∀ c, zeros (k + 1) c = zero (zeros k c) := by
  induction k with
  | zero => intro c; rfl
  | succ k ih => intro c; show zeros (k + 1) (zero c) = zero (zeros k (zero c)); exact ih _
theorem word_byte (x : UInt8) : word (bits8 x) = BitVec.ofNat 32 x.toNat := by
  apply BitVec.eq_of_getLsbD_eq
  intro i hi
  rw [word_bit _ _ hi, List.getD_eq_getElem?_getD, BitVec.getLsbD_ofNat, decide_eq_true hi]
  by_cases h : i < 8
  · simp [bits8, h]
  · rw [List.getElem?_eq_none (by rw [bits8_len]; omega)]
    have hx : x.toNat < 2 ^ i := Nat.lt_of_lt_of_le (UInt8.toNat_lt x) (Nat.pow_le_pow_right (by omega) (show 8 ≤ i by omega))
    simp [Nat.testBit_lt_two_pow hx]
theorem run_byte (c : BitVec 32) (x : UInt8) : run c (bits8 x) = zeros 8 (c ^^^ BitVec.ofNat 32 x.toNat) := by
  rw [run_word _ _ (by rw [bits8_len]; omega), word_byte, bits8_len]
theorem byte_v (c : BitVec 32) (x : UInt8) : Go.bits .xor .u32 (c.toNat : Int) (x.toNat : Int) = ((c ^^^ BitVec.ofNat 32 x.toNat).toNat : Int) := by
  have hx := UInt8.toNat_lt x
  have := xor_v c (BitVec.ofNat 32 x.toNat)
  rwa [BitVec.toNat_ofNat, Nat.mod_eq_of_lt (by omega)] at this

/-- one of the parts: a slice, and the bytes that it reads as -/
structure Part where
  a : Option Addr
  n : Nat
  c : Nat
  bs : List UInt8
def Part.v (p : Part) : Value := .slice p.a p.n p.c
def Parts (w : World) (B : Nat) (A : Option Addr) (ps : List Part) : Prop := Rd w B A (ps.map Part.v) ∧ ∀ p ∈ ps, p.n = p.bs.length ∧ p.n ≤ big ∧ Rd w B p.a (p.bs.map B8)
def Part.all (ps : List Part) : List UInt8 := ps.flatMap Part.bs
theorem all_take (ps : List Part) (k : Nat) (p : Part) (h : ps[k]? = some p) : Part.all (ps.take (k + 1)) = Part.all (ps.take k) ++ p.bs := by
  unfold Part.all
  rw [List.take_add_one, h]; simp
theorem bits_take (bs : List UInt8) (k : Nat) (x : UInt8) (h : bs[k]? = some x) : bitsL (bs.take (k + 1)) = bitsL (bs.take k) ++ bits8 x := by
  unfold bitsL
  rw [List.take_add_one, h]; simp

end Go.Proofs.YtfblnomkafimhaaGreat

namespace Go.Proofs.YtfblnomkafimhaaGreat
set_option maxRecDepth 20000
open Go.RowKit
open Crc

theorem byte0_le (s : Nat) : (s : Int) % 256 = ((UInt8.ofNat (s % 256)).toNat : Int) := by
  rw [UInt8.toNat_ofNat']
  omega
theorem byte_le (s d : Nat) : (s : Int) / (d : Int) % 256 = ((UInt8.ofNat (s / d % 256)).toNat : Int) := by
  rw [UInt8.toNat_ofNat', Nat.mod_mod]
  rfl
theorem byte3_le (s : Nat) (h : s < 2 ^ 32) : (s : Int) / 16777216 = ((UInt8.ofNat (s / 16777216 % 256)).toNat : Int) := by
  rw [UInt8.toNat_ofNat', Nat.mod_mod]
  omega

end Go.Proofs.YtfblnomkafimhaaGreat

namespace Go.Proofs.YtfblnomkafimhaaGreat
set_option maxRecDepth 20000
open Go.RowKit
open Crc

theorem or_v (s e : Nat) (hs : s < 2 ^ 32) : Go.bits .or .u32 ((s % 2 ^ e : Nat) : Int) ((s / 2 ^ e % 256 * 2 ^ e : Nat) : Int) = ((s % (2 ^ e * 256) : Nat) : Int) := by
  have h0 : 0 < 2 ^ e := Nat.pow_pos (by omega)
  have h1 : s % 2 ^ e < 2 ^ e := Nat.mod_lt _ h0
  have h2 : s / 2 ^ e % 256 * 2 ^ e ≤ s := Nat.le_trans (Nat.mul_le_mul_right _ (Nat.mod_le _ _)) (Nat.div_mul_le_self s _)
  rw [u32_or_nat _ _ (Nat.lt_of_le_of_lt (Nat.mod_le _ _) hs) (by omega), Nat.mul_comm (s / 2 ^ e % 256), Nat.or_comm, ← Nat.two_pow_add_eq_or_of_lt h1, Nat.mod_mul, Nat.add_comm]

end Go.Proofs.YtfblnomkafimhaaGreat

namespace Go.Proofs.YtfblnomkafimhaaGreat
set_option maxRecDepth 20000
open Go.RowKit
open Crc

def oE (o : Option (List UInt8)) : Int := if o.isSome then 0 else 31
def oB (o : Option (List UInt8)) : List UInt8 := o.getD []
/-- the bytes of a frame and the error's number, whichever way it ends -/
def RetOpen (w : World) (o : Option (List UInt8)) (e : Ending) (w' : World) : Prop :=
  ∃ A n c, e = .returned (.tuple #[.slice A n c, .int .i64 (oE o)]) ∧ n = (oB o).length ∧ n ≤ c ∧ Rd w' w'.heap.size A ((oB o).map B8) ∧ Below w.heap.size w w'

theorem le4_inj {a b : BitVec 32} (h : le4 a.toNat = le4 b.toNat) : a = b := by
  have h1 := run_le4 0#32 a
  rw [h, run_le4] at h1
  have := zeros_inj h1
  simpa using this.symm

end Go.Proofs.YtfblnomkafimhaaGreat

namespace Go.Proofs.YtfblnomkafimhaaGreat
set_option maxRecDepth 20000
open Go.RowKit

/-- one operation that only yields -/
theorem wp_val {P : Program} {w : World} {ops : Array Oper} {rest : List Oper} {o : Oper} {a : Act} {Q : Exit → Act → World → Prop} (hgd : o.guard = none) (v : Value) (hv : (execOp a.eval o).run P w = .ok (.value v) w)
    (h : wpList P ops Q rest (a.put o.dst v) w) : wpList P ops Q (o :: rest) a w := by
  refine wpList_plain hgd fun K hK => ?_
  unfold Oper.wp
  rw [hv]
  exact hK _ _ h

theorem wp_tab {w : World} {ops : Array Oper} {rest : List Oper} {o : Oper} {a : Act} {Q : Exit → Act → World → Prop} (hgd : o.guard = none) (T : ByteArray) (x : Operand) (ho : o.op = .index 9 (.const (.string T)) x) (z : Nat) (hz : z < 256) (hx : a.eval x = .int .u8 (z : Int))
    (hT : ∀ i : Fin 256, (T.data.toList[i.val]?).map UInt8.toNat = some (Go.bitLen i.val)) (h : wpList Tryz.prog ops Q rest (a.put o.dst (.int .u8 (Go.bitLen z : Int))) w) : wpList Tryz.prog ops Q (o :: rest) a w := by
  refine wp_val hgd _ ?_ h
  have h1 := hT ⟨z, hz⟩
  have h2 : z < T.size := by
    rcases Nat.lt_or_ge z T.data.toList.length with h2 | h2
    · exact h2
    · rw [List.getElem?_eq_none h2] at h1; cases h1
  have h3 : (T[z]'h2).toNat = Go.bitLen z := by
    rw [List.getElem?_eq_getElem (show z < T.data.toList.length from h2)] at h1
    have h5 : (T.data[z]'h2).toNat = Go.bitLen z := by simpa using h1
    exact h5
  have h4 := run_index_string (P := Tryz.prog) w 9 T .u8 (z : Int) Tryz.underlying9
  rw [dif_pos ⟨by omega, by omega⟩] at h4
  unfold execOp
  have hc : a.eval (.const (.string T)) = .string T := rfl
  simp only [ho, hx, hc, Sem.run_bind, h4, Result.andThen_ok, Sem.run_pure]
  rw [← h3]
  rfl

set_option maxRecDepth 100000 in
theorem len_c (m : Nat) (hm : m < 2 ^ 32) (w : World) : Calls Tryz.prog 138 #[.int .u32 (m : Int)] w fun e w' => e = .returned (.int .i64 (Go.bitLen m : Int)) ∧ w = w' := by
  go_enter Tryz.func138, Tryz.ntmps138
  go_upto_if 4 with (fail)
  rename_i Q' K hK
  have hK' : ∀ (y j : Nat) (v0 v3 v4 v5 v6 : Value), v0 = .int .u32 (y : Int) → y < 65536 → j ≤ 16 → (y = m ∧ j = 0 ∨ y = m / 65536 ∧ 65536 ≤ m ∧ j = 16) → K { tmps := #[v0, undef, .int .i64 (j : Int), v3, v4, v5, v6, undef, undef, undef, undef, undef, undef, undef, undef, undef, undef, undef, undef], defers := [] } w := by
    intro y j v0 v3 v4 v5 v6 hv0 hy hj hyj
    subst hv0
    refine hK _ _ ?_
    clear hK
    have hb : Go.bitLen m = j + Go.bitLen y := by
      rcases hyj with ⟨rfl, rfl⟩ | ⟨rfl, h, rfl⟩
      · omega
      · have := bitLen_shift m 16 (by omega)
        simpa using this
    have HYJ := Lib.hid hb
    clear hyj hb
    go_upto_if 8 with (fail)
    rename_i K2 hK2
    have hK2' : ∀ (z i : Nat) (v8 u9 u10 u11 u12 : Value), z < 256 → i ≤ 24 → Go.bitLen m = i + Go.bitLen z → K2 { tmps := #[.int .u32 (z : Int), undef, .int .i64 (i : Int), v3, v4, v5, v6, .int .u32 (y : Int), v8, u9, u10, u11, u12, undef, undef, undef, undef, undef, undef], defers := [] } w := by
      intro z i v8 u9 u10 u11 u12 hz hi hzi
      refine hK2 _ _ ?_
      clear hK2
      go_upto_region 7 with (fail)
      refine wp_region_list ?_
      refine wp_val rfl (.int .i64 (i : Int)) rfl ?_
      refine wp_val rfl (.int .u32 (z : Int)) rfl ?_
      refine wp_val rfl (.int .u8 (z : Int)) ?_ ?_
      · go_simp
        exact IntWalk.u8_in _ (by omega)
      refine wp_tab rfl _ (.tmp 15) rfl z hz rfl (by decide +kernel) ?_
      have hb8 := bitLen_le8 z hz
      generalize Go.bitLen z = q at hzi hb8 ⊢
      simp only [Act.put, List.setIfInBounds_toArray, List.set_cons_zero, List.set_cons_succ]
      refine wp_val rfl (.int .i64 (q : Int)) ?_ ?_
      · go_simp
        exact IntWalk.i64_in _ (by omega)
      refine wp_val rfl (.int .i64 ((i : Int) + (q : Int))) ?_ ?_
      · go_simp
        exact IntWalk.i64_in _ (by omega)
      refine wp_val rfl (.int .i64 ((i : Int) + (q : Int))) rfl ?_
      refine wpList_nil ?_
      simp only [Act.put, List.setIfInBounds_toArray, List.set_cons_zero, List.set_cons_succ]
      go_wp2
      go_ret
      exact ⟨ret_int (by rw [hzi]; omega), rfl⟩
    clear hK2
    have HK2 := Lib.hid hK2'
    clear hK2'
    clear_value Q'
    by_cases h1 : (256 : Int) ≤ (y : Int)
    · go_wp2
      have h8 : Go.bitLen y = 8 + Go.bitLen (y / 256) := by
        have := bitLen_shift y 8 (by omega)
        simpa using this
      refine HK2.out (y / 256) (j + 8) _ _ _ _ _ ?_ ?_ ?_
      · omega
      · omega
      · rw [HYJ.out, h8]
        omega
    · go_wp2
      refine HK2.out y j _ _ _ _ _ ?_ ?_ ?_
      · omega
      · omega
      · exact HYJ.out
  clear hK
  have HK := Lib.hid hK'
  clear hK'
  clear_value Q'
  by_cases h1 : (65536 : Int) ≤ (m : Int)
  · have H1 := Lib.hid h1
    have HM := Lib.hid hm
    rw [decide_eq_true h1]
    clear h1 hm
    go_wp2
    have h1 := H1.out
    have hm := HM.out
    refine HK.out (m / 65536) 16 _ _ _ _ _ ?_ ?_ ?_ ?_
    · exact congrArg (Value.int IntKind.u32) (by omega)
    · omega
    · omega
    · exact Or.inr ⟨rfl, by omega, rfl⟩
  · have H1 := Lib.hid h1
    rw [decide_eq_false h1]
    clear h1
    go_wp2
    have h1 := H1.out
    refine HK.out m 0 _ _ _ _ _ rfl ?_ ?_ ?_
    · omega
    · omega
    · exact Or.inl ⟨rfl, rfl⟩
end Go.Proofs.YtfblnomkafimhaaGreat

namespace Go.Proofs.YtfblnomkafimhaaGreat
set_option maxRecDepth 20000
open Go.RowKit
open Crc

theorem turn_set (bs : List UInt8) (k : Nat) (x : UInt8) (h : bs[k / 8]? = some x) : turn bs k = bs.set (k / 8) (x ^^^ UInt8.ofNat (2 ^ (k % 8))) := by
  unfold turn
  apply List.ext_getElem?
  intro i
  rw [List.getElem?_modify, List.getElem?_set]
  by_cases hi : k / 8 = i
  · subst hi
    rw [h]
    have hl : k / 8 < bs.length := by
      rcases Nat.lt_or_ge (k / 8) bs.length with h2 | h2
      · exact h2
      · rw [List.getElem?_eq_none h2] at h; cases h
    simp [hl]
  · simp [hi]
theorem xor8_v (x : UInt8) (j : Nat) (hj : j < 8) : Go.bits .xor .u8 (x.toNat : Int) ((2 : Int) ^ j % 256) = ((x ^^^ UInt8.ofNat (2 ^ j)).toNat : Int) := by
  have h : 2 ^ j < 256 := Nat.pow_lt_pow_right (by omega) (show j < 8 from hj)
  have e : (2 : Int) ^ j % 256 = ((2 ^ j : Nat) : Int) := by
    rw [show ((2 ^ j : Nat) : Int) = (2 : Int) ^ j from by simp]
    apply Int.emod_eq_of_lt
    · exact Int.pow_nonneg (by omega)
    · have : ((2 ^ j : Nat) : Int) < 256 := by omega
      simpa using this
  rw [e, u8_xor_nat _ _ (UInt8.toNat_lt x) h, UInt8.toNat_xor, UInt8.toNat_ofNat', Nat.mod_eq_of_lt h]

theorem bitLen_le (m k : Nat) (h : m < 2 ^ k) : Go.bitLen m ≤ k := by
  have h1 := (bitLen_spec m).2
  rcases Nat.eq_zero_or_pos m with h0 | h0
  · subst h0; simp [Go.bitLen]
  · have h2 := h1 (by omega)
    have h3 : Go.bitLen m - 1 < k := (Nat.pow_lt_pow_iff_right (by omega)).1 (Nat.lt_of_le_of_lt h2 h)
    omega

theorem bit_v (m k : Nat) (hm : m < 2 ^ 32) : Go.bits .and .u32 ((m : Int) / 2 ^ k) 1 = ((if m.testBit k then 1 else 0 : Nat) : Int) := by
  have e : (m : Int) / 2 ^ k = ((m / 2 ^ k : Nat) : Int) := by simp
  rw [e, show (1 : Int) = ((1 : Nat) : Int) from rfl, u32_and_nat _ _ (Nat.lt_of_le_of_lt (Nat.div_le_self _ _) hm) (by omega), Nat.and_one_is_mod, Nat.testBit_eq_decide_div_mod_eq]
  congr 1
  rcases Nat.mod_two_eq_zero_or_one (m / 2 ^ k) with h | h <;> simp [h]

/-- what Burst answers -/
def burstF (bs : List UInt8) (at_ : Int) (mask : Nat) : List UInt8 := if at_ < 0 ∨ 8 * (bs.length : Int) - (Go.bitLen mask : Int) < at_ then bs else turns bs at_.toNat mask (Go.bitLen mask)

end Go.Proofs.YtfblnomkafimhaaGreat

namespace Go.Proofs.YtfblnomkafimhaaGreat
set_option maxRecDepth 20000
open Go.RowKit
open Crc

theorem digits_sum : sum [49, 50, 51, 52, 53, 54, 55, 56, 57] = 0xCBF43926#32 := by decide +kernel
theorem nothing_seal : seal_ [] = [0, 0, 0, 0] := by decide +kernel

end Go.Proofs.YtfblnomkafimhaaGreat

namespace Go.Proofs.YtfblnomkafimhaaGreat
set_option maxRecDepth 20000
open Go.RowKit
open Crc

theorem low_bool (c : BitVec 32) (m k : Nat) (hm : m < 2 ^ 32) : (Go.bits .xor .u32 (Go.bits .and .u32 (c.toNat : Int) 1) (Go.bits .and .u32 ((m : Int) / 2 ^ k % 4294967296) 1) == 1) = (c.getLsbD 0 ^^ m.testBit k) := by
  have e : (m : Int) / 2 ^ k % 4294967296 = (m : Int) / 2 ^ k := by
    have e1 : (m : Int) / 2 ^ k = ((m / 2 ^ k : Nat) : Int) := by simp
    have := Nat.div_le_self m (2 ^ k)
    rw [e1]
    clear e1
    generalize m / 2 ^ k = q at this ⊢
    omega
  rw [e, low_v, bit_v m k hm]
  cases c.getLsbD 0 <;> cases m.testBit k <;> decide
theorem step_one (c : BitVec 32) (b : Bool) (h : (c.getLsbD 0 ^^ b) = true) : Go.bits .xor .u32 ((c.toNat : Int) / 2) 3988292384 = ((Crc.step c b).toNat : Int) := by
  have hd : (c.toNat : Int) / (2 : Int) = ((c >>> 1).toNat : Int) := by
    rw [BitVec.toNat_ushiftRight, Nat.shiftRight_eq_div_pow]
    omega
  have := xor_v (c >>> 1) poly
  unfold Crc.step
  rw [h, if_pos rfl, hd, ← this]
  rfl
theorem step_none (c : BitVec 32) (b : Bool) (h : (c.getLsbD 0 ^^ b) = false) : (c.toNat : Int) / 2 = ((Crc.step c b).toNat : Int) := by
  have hd : (c.toNat : Int) / (2 : Int) = ((c >>> 1).toNat : Int) := by
    rw [BitVec.toNat_ushiftRight, Nat.shiftRight_eq_div_pow]
    omega
  unfold Crc.step
  rw [h, if_neg (by simp), hd]
theorem run_take (l : List Bool) (k : Nat) (b : Bool) (c : BitVec 32) (h : l[k]? = some b) : run c (l.take (k + 1)) = Crc.step (run c (l.take k)) b := by
  rw [List.take_add_one, h, run_append]
  rfl

theorem rd_four (w : World) (s : Nat) (hs : s < 2 ^ 32) : Rd (w.alloc (.cells #[.int .u8 ((s : Int) % 256), .int .u8 ((s : Int) / 256 % 256), .int .u8 ((s : Int) / 65536 % 256), .int .u8 ((s : Int) / 16777216)] 5)) (w.heap.size + 1) (some ⟨w.heap.size, 0, none⟩) ((le4 s).map B8) := by
  rw [byte0_le, show (s : Int) / 256 % 256 = _ from byte_le s 256, show (s : Int) / 65536 % 256 = _ from byte_le s 65536, byte3_le s hs]
  exact rd_new w _

end Go.Proofs.YtfblnomkafimhaaGreat

namespace Go.Proofs.YtfblnomkafimhaaGreat
set_option maxRecDepth 20000
open Go.RowKit
open Crc

theorem bit_lt {m k : Nat} (h : m.testBit k = true) : k < Go.bitLen m := by
  have h1 := Nat.ge_two_pow_of_testBit h
  have h2 := (bitLen_spec m).1
  exact (Nat.pow_lt_pow_iff_right (by omega : 1 < 2)).1 (Nat.lt_of_le_of_lt h1 h2)
theorem top_bit {m : Nat} (h : m ≠ 0) : m.testBit (Go.bitLen m - 1) = true := by
  have h1 := (bitLen_spec m).2 h
  have h2 := (bitLen_spec m).1
  have h0 : 0 < Go.bitLen m := by
    rcases Nat.eq_zero_or_pos (Go.bitLen m) with h3 | h3
    · rw [h3] at h2; omega
    · exact h3
  rw [Nat.testBit_eq_decide_div_mod_eq]
  have e : m / 2 ^ (Go.bitLen m - 1) = 1 := by
    have hp : 2 ^ Go.bitLen m = 2 * 2 ^ (Go.bitLen m - 1) := by
      rw [show Go.bitLen m = (Go.bitLen m - 1) + 1 by omega, Nat.pow_succ, Nat.add_sub_cancel, Nat.mul_comm]
    rw [hp] at h2
    exact Nat.div_eq_of_lt_le (by omega) (by omega)
  rw [e]
  rfl
theorem turns_more (bs : List UInt8) (a m k : Nat) (hk : Go.bitLen m ≤ k) : turns bs a m k = turns bs a m (Go.bitLen m) := by
  induction k with
  | zero => rw [show Go.bitLen m = 0 by omega]
  | succ k ih =>
    rcases Nat.lt_or_ge k (Go.bitLen m) with h | h
    · rw [show Go.bitLen m = k + 1 by omega]
    · have hf : m.testBit k = false := by
        cases hb : m.testBit k with
        | false => rfl
        | true => have := bit_lt hb; omega
      rw [turns, if_neg (by rw [hf]; simp)]
      exact ih h
theorem burst_out (bs : List UInt8) (at_ : Int) (m k : Nat) (hb : m.testBit k = true) (h : at_ < 0 ∨ 8 * (bs.length : Int) - (k : Int) ≤ at_) : burstF bs at_ m = bs := by
  have h1 := bit_lt hb
  unfold burstF
  rw [if_pos]
  rcases h with h | h
  · exact Or.inl h
  · right; omega
theorem burst_done (bs : List UInt8) (at_ : Int) (m : Nat) (hm : m < 2 ^ 32) (h : ∀ k, m.testBit k = true → 0 ≤ at_ ∧ at_ < 8 * (bs.length : Int) - (k : Int)) : turns bs at_.toNat m 32 = burstF bs at_ m := by
  rw [turns_more _ _ _ _ (bitLen_le m 32 hm)]
  unfold burstF
  by_cases h0 : m = 0
  · subst h0
    rw [show Go.bitLen 0 = 0 from rfl]
    split <;> rfl
  · have h1 := h _ (top_bit h0)
    have h2 := bit_lt (top_bit h0)
    rw [if_neg (by omega)]

end Go.Proofs.YtfblnomkafimhaaGreat
