/- Contracts and words on which the claims of this seat stand, part 3: CrcC CrcD CrcE CrcF CrcL CrcT CrcA CrcR CrcQ. -/
import Derived.Test.YtldfccllpnplmaaG01
import Derived.Laws.BitsAllLaws
import Derived.Laws.MathBits
import Derived.Deep.DeepCutAuto
import Derived.RegionTactic
import Derived.BigRegion
set_option linter.unusedSimpArgs false
set_option linter.unusedVariables false
namespace Go.Proofs.Ytldfccllpnplmaa
set_option maxRecDepth 20000
open Go.RowKit
open Crc

theorem xor_v (c d : BitVec 32) : Go.bits .xor .u32 (c.toNat : Int) (d.toNat : Int) = ((c ^^^ d).toNat : Int) := by
  rw [u32_xor_nat _ _ c.isLt d.isLt, BitVec.toNat_xor]
theorem not_v (d : BitVec 32) : Go.bits .xor .u32 IntKind.u32.max (d.toNat : Int) = ((~~~ d).toNat : Int) := by
  have := xor_v (BitVec.allOnes 32) d
  rw [BitVec.allOnes_xor] at this
  rw [← this]
  rfl
theorem low_v (d : BitVec 32) : Go.bits .and .u32 (d.toNat : Int) 1 = ((if d.getLsbD 0 then 1 else 0 : Nat) : Int) := by
  rw [show (1 : Int) = ((1 : Nat) : Int) from rfl, u32_and_nat _ _ d.isLt (by omega), Nat.and_one_is_mod]
  congr 1
  rw [← BitVec.testBit_toNat, Nat.testBit_zero]
  rcases Nat.mod_two_eq_zero_or_one d.toNat with h | h <;> simp [h]
theorem zero_v (d : BitVec 32) : Go.bits .xor .u32 ((d.toNat : Int) / 2) (Go.bits .and .u32 (d.toNat : Int) 1 * 3988292384 % 4294967296) = ((zero d).toNat : Int) := by
  have hd : (d.toNat : Int) / (2 : Int) = ((d >>> 1).toNat : Int) := by
    rw [BitVec.toNat_ushiftRight, Nat.shiftRight_eq_div_pow]
    omega
  rw [low_v, hd]
  unfold zero Crc.step
  rw [Bool.xor_false]
  cases d.getLsbD 0
  · have := xor_v (d >>> 1) 0#32
    rw [BitVec.xor_zero] at this
    simpa using this
  · have := xor_v (d >>> 1) poly
    simpa [poly] using this
theorem zeros_succ (k : Nat) : ∀ c, zeros (k + 1) c = zero (zeros k c) := by
  induction k with
  | zero => intro c; rfl
  | succ k ih => intro c; show zeros (k + 1) (zero c) = zero (zeros k (zero c)); exact ih _
theorem word_byte (x : UInt8) : word (bits8 x) = BitVec.ofNat 32 x.toNat := by
  apply BitVec.eq_of_getLsbD_eq
  intro i hi
  rw [word_bit _ _ hi, List.getD_eq_getElem?_getD, BitVec.getLsbD_ofNat, decide_eq_true hi]
  by_cases h : i < 8
  · simp [bits8, h]
  · rw [List.getElem?_eq_none (by rw [bits8_len]; omega)]
    have hx : x.toNat < 2 ^ i := Nat.lt_of_lt_of_le (UInt8.toNat_lt x) (Nat.pow_le_pow_right (by omega) (show 8 ≤ i by omega))
    simp [Nat.testBit_lt_two_pow hx]
theorem run_byte (c : BitVec 32) (x : UInt8) : run c (bits8 x) = zeros 8 (c ^^^ BitVec.ofNat 32 x.toNat) := by
  rw [run_word _ _ (by rw [bits8_len]; omega), word_byte, bits8_len]
theorem byte_v (c : BitVec 32) (x : UInt8) : Go.bits .xor .u32 (c.toNat : Int) (x.toNat : Int) = ((c ^^^ BitVec.ofNat 32 x.toNat).toNat : Int) := by
  have hx := UInt8.toNat_lt x
  have := xor_v c (BitVec.ofNat 32 x.toNat)
  rwa [BitVec.toNat_ofNat, Nat.mod_eq_of_lt (by omega)] at this

theorem with_c (c : BitVec 32) (x : UInt8) (w : World) : Calls Try.prog 79 #[.int .u32 (c.toNat : Int), .int .u8 (x.toNat : Int)] w fun e w' => e = .returned (.int .u32 ((run c (bits8 x)).toNat : Int)) ∧ w = w' := by
  have hc := c.isLt
  have hx := UInt8.toNat_lt x
  go_enter Try.func79, Try.ntmps79
  go_wp2
  go_loop [0, 9] (fun s i => ∃ (k : Nat) (d : BitVec 32), s = .int .u32 (d.toNat : Int) ∧ i = .int .i64 k ∧ k ≤ 8 ∧ d = zeros k (c ^^^ BitVec.ofNat 32 x.toNat)) (fun _ i => 8 - (intOf i).toNat)
  case atStart => exact ⟨0, c ^^^ BitVec.ofNat 32 x.toNat, by rw [byte_v], rfl, by omega, rfl⟩
  case round =>
    obtain ⟨k, d, rfl, rfl, hk, hd⟩ := hrel
    have hd' := d.isLt
    have HD := Lib.hid hd
    clear hd
    by_cases h : k < 8
    · go_wp2
      exact ⟨⟨k + 1, zero d, by rw [zero_v], by go_num, by omega, by rw [zeros_succ, ← HD.out]⟩, by simp [intOf]; omega⟩
    · go_wp2
      go_ret
      obtain rfl : k = 8 := by omega
      exact ⟨by rw [run_byte, ← HD.out]; rfl, rfl⟩

/-- one of the parts: a slice, and the bytes that it reads as -/
structure Part where
  a : Option Addr
  n : Nat
  c : Nat
  bs : List UInt8
def Part.v (p : Part) : Value := .slice p.a p.n p.c
def Parts (w : World) (B : Nat) (A : Option Addr) (ps : List Part) : Prop := Rd w B A (ps.map Part.v) ∧ ∀ p ∈ ps, p.n = p.bs.length ∧ p.n ≤ big ∧ Rd w B p.a (p.bs.map B8)
def Part.all (ps : List Part) : List UInt8 := ps.flatMap Part.bs
theorem all_take (ps : List Part) (k : Nat) (p : Part) (h : ps[k]? = some p) : Part.all (ps.take (k + 1)) = Part.all (ps.take k) ++ p.bs := by
  unfold Part.all
  rw [List.take_add_one, h]; simp
theorem bits_take (bs : List UInt8) (k : Nat) (x : UInt8) (h : bs[k]? = some x) : bitsL (bs.take (k + 1)) = bitsL (bs.take k) ++ bits8 x := by
  unfold bitsL
  rw [List.take_add_one, h]; simp

theorem of_c (A : Option Addr) (n c : Nat) (ps : List Part) (hn : n = ps.length) (hl : n ≤ big) (B : Nat) (w : World) (hp : Parts w B A ps) :
    Calls Try.prog 58 #[.slice A n c] w fun e w' => e = .returned (.int .u32 ((sum (Part.all ps)).toNat : Int)) ∧ w = w' := by
  have HN := Lib.hid hn; clear hn
  have HP := Lib.hid hp; clear hp
  have h47 : n ≤ 140737488355328 := hl
  go_enter Try.func58, Try.ntmps58
  go_wp2
  go_loop [3, 10] (fun s i => ∃ (k : Nat) (d : BitVec 32), s = .int .u32 (d.toNat : Int) ∧ i = .int .i64 k ∧ k ≤ n ∧ d = run (BitVec.allOnes 32) (bitsL (Part.all (ps.take k)))) (fun _ i => n - (intOf i).toNat)
  case atStart => exact ⟨0, BitVec.allOnes 32, rfl, rfl, by omega, rfl⟩
  case round =>
    obtain ⟨k, d, rfl, rfl, hk, hd⟩ := hrel
    have HD := Lib.hid hd
    clear hd
    by_cases h : k < n
    · obtain ⟨b, o, rfl, hbB, hcell⟩ := HP.out.1 (by rw [List.length_map, ← HN.out]; omega)
      have hkl : k < ps.length := by rw [← HN.out]; exact h
      have hx : ps[k]? = some ps[k] := List.getElem?_eq_getElem hkl
      have hc0 := hcell k ps[k].v (by simp [hkl])
      have hpk := HP.out.2 ps[k] (List.getElem_mem hkl)
      generalize ps[k] = p at hx hc0 hpk
      obtain ⟨pa, pn, pc, pbs⟩ := p
      have hcx : w.cell? ⟨b, o + k, none⟩ = some (.slice pa pn pc) := hc0
      obtain ⟨hpn, hpl, hpr⟩ := hpk
      have hpl' : pn ≤ 140737488355328 := hpl
      have HX := Lib.hid hx
      have HPN := Lib.hid hpn
      have HPR := Lib.hid hpr
      clear hx hc0 hcell hkl hpn hpr hpl
      go_wp2
      go_loop [3, 16] (fun s i => ∃ (j : Nat) (g : BitVec 32), s = .int .u32 (g.toNat : Int) ∧ i = .int .i64 j ∧ j ≤ pn ∧ g = run d (bitsL (pbs.take j))) (fun _ i => pn - (intOf i).toNat)
      case atStart => exact ⟨0, d, rfl, rfl, by omega, rfl⟩
      case round =>
        obtain ⟨j, g, rfl, rfl, hj, hg⟩ := hrel
        have HG := Lib.hid hg
        clear hg
        by_cases h2 : j < pn
        · obtain ⟨b2, o2, rfl, _, hcell2⟩ := HPR.out (by rw [List.length_map, ← HPN.out]; omega)
          have hjl : j < pbs.length := by rw [← HPN.out]; exact h2
          have hy : pbs[j]? = some pbs[j] := List.getElem?_eq_getElem hjl
          have hc1 := hcell2 j (B8 pbs[j]) (by simp [hjl])
          generalize pbs[j] = y at hy hc1
          have hcy : w.cell? ⟨b2, o2 + j, none⟩ = some (.int .u8 (y.toNat : Int)) := hc1
          have hy8 := UInt8.toNat_lt y
          have HY := Lib.hid hy
          clear hy hc1 hcell2 hjl
          go_wp2_with (go_at_call 79; refine (with_c g y _).mono ?_; rintro e w' ⟨rfl, rfl⟩)
          exact ⟨⟨j + 1, _, rfl, by go_num, by omega, by rw [bits_take _ _ _ HY.out, run_append, ← HG.out]⟩, by simp [intOf]; omega⟩
        · go_wp2
          obtain rfl : j = pn := by omega
          refine ⟨⟨k + 1, g, rfl, by go_num, by omega, ?_⟩, by simp [intOf]; omega⟩
          rw [all_take _ _ _ HX.out, bitsL_append, run_append, ← HD.out, HG.out, List.take_of_length_le (by rw [← HPN.out]; omega)]
    · go_wp2
      go_ret
      obtain rfl : k = n := by omega
      have e := HD.out
      rw [List.take_of_length_le (by rw [← HN.out]; omega)] at e
      refine ⟨ret_int ?_, rfl⟩
      unfold sum
      rw [not_v, e]
end Go.Proofs.Ytldfccllpnplmaa

namespace Go.Proofs.Ytldfccllpnplmaa
set_option maxRecDepth 20000
open Go.RowKit
open Crc

theorem rd_newp (w : World) (xs : List Value) : Rd (w.alloc (.cells xs.toArray 30)) (w.heap.size + 1) (some ⟨w.heap.size, 0, none⟩) xs := by
  intro _
  refine ⟨_, _, rfl, by omega, fun j u hu => ?_⟩
  rw [cell_of_row _ _ _ _ _ _ (heap_alloc_new w _)]
  simpa using hu
theorem parts_one (w : World) (B : Nat) (A : Option Addr) (n c : Nat) (bs : List UInt8) (hn : n = bs.length) (hl : n ≤ big) (hr : Rd w B A (bs.map B8)) (hB : B ≤ w.heap.size) :
    Parts (w.alloc (.cells #[.slice A n c] 30)) (w.heap.size + 1) (some ⟨w.heap.size, 0, none⟩) [⟨A, n, c, bs⟩] := by
  refine ⟨rd_newp w [.slice A n c], fun p hp => ?_⟩
  rw [List.mem_singleton] at hp
  subst hp
  exact ⟨hn, hl, (hr.below ((Below.refl _ _).alloc hB _)).more (by omega)⟩
theorem of_one (w : World) (B : Nat) (A : Option Addr) (n c : Nat) (bs : List UInt8) (hn : n = bs.length) (hl : n ≤ big) (hr : Rd w B A (bs.map B8)) (hB : B ≤ w.heap.size) :
    Calls Try.prog 58 #[.slice (some ⟨w.heap.size, 0, none⟩) 1 1] (w.alloc (.cells #[.slice A n c] 30)) fun e w' => e = .returned (.int .u32 ((sum bs).toNat : Int)) ∧ w.alloc (.cells #[.slice A n c] 30) = w' := by
  have h := of_c _ 1 1 _ rfl (by show 1 ≤ big; unfold big; omega) _ _ (parts_one w B A n c bs hn hl hr hB)
  rwa [show Part.all [⟨A, n, c, bs⟩] = bs from by simp [Part.all]] at h

theorem of_at (w : World) (g : Nat) (hg : g = w.heap.size) (B : Nat) (A : Option Addr) (n c : Nat) (bs : List UInt8) (hn : n = bs.length) (hl : n ≤ big) (hr : Rd w B A (bs.map B8)) (hB : B ≤ w.heap.size) :
    Calls Try.prog 58 #[.slice (some ⟨g, 0, none⟩) 1 1] (w.alloc (.cells #[.slice A n c] 30)) fun e w' => e = .returned (.int .u32 ((sum bs).toNat : Int)) ∧ w.alloc (.cells #[.slice A n c] 30) = w' := by
  subst hg
  exact of_one w B A n c bs hn hl hr hB

theorem byte0_le (s : Nat) : (s : Int) % 256 = ((UInt8.ofNat (s % 256)).toNat : Int) := by
  rw [UInt8.toNat_ofNat']
  omega
theorem byte_le (s d : Nat) : (s : Int) / (d : Int) % 256 = ((UInt8.ofNat (s / d % 256)).toNat : Int) := by
  rw [UInt8.toNat_ofNat', Nat.mod_mod]
  rfl
theorem byte3_le (s : Nat) (h : s < 2 ^ 32) : (s : Int) / 16777216 = ((UInt8.ofNat (s / 16777216 % 256)).toNat : Int) := by
  rw [UInt8.toNat_ofNat', Nat.mod_mod]
  omega

theorem seal_c (A : Option Addr) (n c : Nat) (bs : List UInt8) (hn : n = bs.length) (B : Nat) (w : World) (hr : Rd w B A (bs.map B8)) (hB : B ≤ w.heap.size) (hl : n + 4 ≤ big) :
    Calls Try.prog 27 #[.slice A n c] w (RetOwn w w.heap.size (seal_ bs)) := by
  have HN := Lib.hid hn; clear hn
  have HR := Lib.hid hr; clear hr
  go_enter Try.func27, Try.ntmps27
  go_wp2_with (go_at_call 58; refine (of_one w B A n c bs HN.out (by omega) HR.out hB).mono ?_; rintro e w' ⟨rfl, rfl⟩)
  have hlt := (sum bs).isLt
  obtain ⟨s, hs⟩ : ∃ s, s = (sum bs).toNat := ⟨_, rfl⟩
  rw [← hs] at hlt ⊢
  go_wp2_with fail
  refine (clone_c A n c bs HN.out B _ (HR.out.below ((Below.refl _ _).alloc hB _)) (by simp; omega) (by omega)).mono ?_
  rintro e w1 ⟨A1, n1, c1, rfl, ho1, hb1⟩
  have hb1' : Below w.heap.size w w1 := ((Below.refl _ _).alloc (Nat.le_refl _) _).trans (hb1.mono (by simp))
  have HO1 := Lib.hid (ho1.base (show w.heap.size ≤ _ by simp)); clear ho1
  have HB1 := Lib.hid hb1'; clear hb1' hb1
  have HS := Lib.hid hs; clear hs
  have hn1 : n1 = n := by rw [HO1.out.1, HN.out]
  subst hn1
  go_wp2
  go_loopw [4, 11] (fun v i wr => ∃ (A' : Option Addr) (n' c' k : Nat), v = .slice A' n' c' ∧ i = .int .i64 k ∧ k ≤ 4 ∧ n' = n1 + k ∧ Own wr w.heap.size A' n' c' (bs ++ (le4 s).take k) ∧ Below w.heap.size w wr)
    (fun _ i _ => 4 - (intOf i).toNat)
  case atStart => exact ⟨A1, n1, c1, 0, rfl, rfl, by omega, rfl, by simpa using HO1.out, HB1.out⟩
  case round =>
    obtain ⟨A', n', c', k, rfl, rfl, hk, hn', ho, hb⟩ := hrel
    have HO' := Lib.hid ho; clear ho
    have hbw := hb.size
    have HB' := Lib.hid hb; clear hb
    have hl' : k < 4 → n' + 1 ≤ big := by omega
    have HN' := Lib.hid hn'; clear hn'
    obtain rfl | rfl | rfl | rfl | rfl : k = 0 ∨ k = 1 ∨ k = 2 ∨ k = 3 ∨ k = 4 := by omega
    · have hl2 := hl' (by omega); clear hl'
      go_wp2_with (at_builtin; refine wp_app8 rfl (.tmp 14) (.tmp 20) rfl w.heap.size A' n' c' _ rfl (HO'.out.alloc _) _ _ 1 1 [UInt8.ofNat (s % 256)] rfl rfl (rd_one wr _ _ (byte0_le s)) hl2 (by simp; omega) ?_; intro A2 c2 w2 ho2 hb2)
      have e2 := HN'.out
      rw [List.append_assoc] at ho2
      exact ⟨⟨A2, n' + 1, c2, 1, rfl, rfl, by omega, by omega, ho2, (HB'.out.alloc hbw _).trans hb2⟩, by simp [intOf]⟩
    · have hl2 := hl' (by omega); clear hl'
      go_wp2_with (at_builtin; refine wp_app8 rfl (.tmp 14) (.tmp 20) rfl w.heap.size A' n' c' _ rfl (HO'.out.alloc _) _ _ 1 1 [UInt8.ofNat (s / 256 % 256)] rfl rfl (rd_one wr _ _ (byte_le s 256)) hl2 (by simp; omega) ?_; intro A2 c2 w2 ho2 hb2)
      have e2 := HN'.out
      rw [List.append_assoc] at ho2
      exact ⟨⟨A2, n' + 1, c2, 2, rfl, rfl, by omega, by omega, ho2, (HB'.out.alloc hbw _).trans hb2⟩, by simp [intOf]⟩
    · have hl2 := hl' (by omega); clear hl'
      go_wp2_with (at_builtin; refine wp_app8 rfl (.tmp 14) (.tmp 20) rfl w.heap.size A' n' c' _ rfl (HO'.out.alloc _) _ _ 1 1 [UInt8.ofNat (s / 65536 % 256)] rfl rfl (rd_one wr _ _ (byte_le s 65536)) hl2 (by simp; omega) ?_; intro A2 c2 w2 ho2 hb2)
      have e2 := HN'.out
      rw [List.append_assoc] at ho2
      exact ⟨⟨A2, n' + 1, c2, 3, rfl, rfl, by omega, by omega, ho2, (HB'.out.alloc hbw _).trans hb2⟩, by simp [intOf]⟩
    · have hl2 := hl' (by omega); clear hl'
      go_wp2_with (at_builtin; refine wp_app8 rfl (.tmp 14) (.tmp 20) rfl w.heap.size A' n' c' _ rfl (HO'.out.alloc _) _ _ 1 1 [UInt8.ofNat (s / 16777216 % 256)] rfl rfl (rd_one wr _ _ (byte3_le s hlt)) hl2 (by simp; omega) ?_; intro A2 c2 w2 ho2 hb2)
      have e2 := HN'.out
      rw [List.append_assoc] at ho2
      exact ⟨⟨A2, n' + 1, c2, 4, rfl, rfl, by omega, by omega, ho2, (HB'.out.alloc hbw _).trans hb2⟩, by simp [intOf]⟩
    · go_wp2
      go_ret
      have o := HO'.out
      rw [List.take_of_length_le (by rw [le4_len]; omega), HS.out] at o
      exact ⟨A', _, c', rfl, o, HB'.out⟩
end Go.Proofs.Ytldfccllpnplmaa

namespace Go.Proofs.Ytldfccllpnplmaa
set_option maxRecDepth 20000
open Go.RowKit
open Crc

theorem or_v (s e : Nat) (hs : s < 2 ^ 32) : Go.bits .or .u32 ((s % 2 ^ e : Nat) : Int) ((s / 2 ^ e % 256 * 2 ^ e : Nat) : Int) = ((s % (2 ^ e * 256) : Nat) : Int) := by
  have h0 : 0 < 2 ^ e := Nat.pow_pos (by omega)
  have h1 : s % 2 ^ e < 2 ^ e := Nat.mod_lt _ h0
  have h2 : s / 2 ^ e % 256 * 2 ^ e ≤ s := Nat.le_trans (Nat.mul_le_mul_right _ (Nat.mod_le _ _)) (Nat.div_mul_le_self s _)
  rw [u32_or_nat _ _ (Nat.lt_of_le_of_lt (Nat.mod_le _ _) hs) (by omega), Nat.mul_comm (s / 2 ^ e % 256), Nat.or_comm, ← Nat.two_pow_add_eq_or_of_lt h1, Nat.mod_mul, Nat.add_comm]

theorem sumin_c (A : Option Addr) (c s : Nat) (hs : s < 2 ^ 32) (B : Nat) (w : World) (hr : Rd w B A ((le4 s).map B8)) :
    Calls Try.prog 71 #[.slice A 4 c] w fun e w' => e = .returned (.int .u32 (s : Int)) ∧ w = w' := by
  obtain ⟨b, o, rfl, _, hcell⟩ := hr (by simp [le4_len])
  have hc0 : w.cell? ⟨b, o, none⟩ = some (.int .u8 (((UInt8.ofNat (s % 256)).toNat : Nat) : Int)) := hcell 0 _ rfl
  have hc1 : w.cell? ⟨b, o + 1, none⟩ = some (.int .u8 (((UInt8.ofNat (s / 256 % 256)).toNat : Nat) : Int)) := hcell 1 _ rfl
  have hc2 : w.cell? ⟨b, o + 2, none⟩ = some (.int .u8 (((UInt8.ofNat (s / 65536 % 256)).toNat : Nat) : Int)) := hcell 2 _ rfl
  have hc3 : w.cell? ⟨b, o + 3, none⟩ = some (.int .u8 (((UInt8.ofNat (s / 16777216 % 256)).toNat : Nat) : Int)) := hcell 3 _ rfl
  rw [UInt8.toNat_ofNat', Nat.mod_mod] at hc0 hc1 hc2 hc3
  clear hr hcell
  go_enter Try.func71, Try.ntmps71
  go_wp2
  go_loop [3, 8] (fun v i => ∃ (m k : Nat), v = .int .u32 m ∧ i = .int .i64 k ∧ k ≤ 4 ∧ m = s % 256 ^ k) (fun _ i => 4 - (intOf i).toNat)
  case atStart => exact ⟨0, 0, rfl, rfl, by omega, by simp [Nat.mod_one]⟩
  case round =>
    obtain ⟨m, k, rfl, rfl, hk, hm⟩ := hrel
    have HM := Lib.hid hm; clear hm
    obtain rfl | rfl | rfl | rfl | rfl : k = 0 ∨ k = 1 ∨ k = 2 ∨ k = 3 ∨ k = 4 := by omega
    · go_wp2
      refine ⟨⟨s % 256 ^ 1, 1, ?_, rfl, by omega, rfl⟩, by simp [intOf]⟩
      have h := or_v s 0 hs
      rw [HM.out]
      simp only [Nat.pow_zero, Nat.mod_one, Nat.div_one, Nat.mul_one, Nat.one_mul] at h ⊢
      exact congrArg (Value.int IntKind.u32) h
    · go_wp2
      refine ⟨⟨s % 256 ^ 2, 2, ?_, rfl, by omega, rfl⟩, by simp [intOf]⟩
      have h := or_v s 8 hs
      rw [HM.out]
      exact congrArg (Value.int IntKind.u32) h
    · go_wp2
      refine ⟨⟨s % 256 ^ 3, 3, ?_, rfl, by omega, rfl⟩, by simp [intOf]⟩
      have h := or_v s 16 hs
      rw [HM.out]
      exact congrArg (Value.int IntKind.u32) h
    · go_wp2
      refine ⟨⟨s % 256 ^ 4, 4, ?_, rfl, by omega, rfl⟩, by simp [intOf]⟩
      have h := or_v s 24 hs
      rw [HM.out]
      exact congrArg (Value.int IntKind.u32) h
    · go_wp2
      go_ret
      have hm := HM.out
      rw [Nat.mod_eq_of_lt (by omega)] at hm
      subst hm
      exact ⟨rfl, rfl⟩
end Go.Proofs.Ytldfccllpnplmaa

namespace Go.Proofs.Ytldfccllpnplmaa
set_option maxRecDepth 20000
open Go.RowKit
open Crc

def oE (o : Option (List UInt8)) : Int := if o.isSome then 0 else 31
def oB (o : Option (List UInt8)) : List UInt8 := o.getD []
/-- the bytes of a frame and the error's number, whichever way it ends -/
def RetOpen (w : World) (o : Option (List UInt8)) (e : Ending) (w' : World) : Prop :=
  ∃ A n c, e = .returned (.tuple #[.slice A n c, .int .i64 (oE o)]) ∧ n = (oB o).length ∧ n ≤ c ∧ Rd w' w'.heap.size A ((oB o).map B8) ∧ Below w.heap.size w w'

theorem le4_inj {a b : BitVec 32} (h : le4 a.toNat = le4 b.toNat) : a = b := by
  have h1 := run_le4 0#32 a
  rw [h, run_le4] at h1
  have := zeros_inj h1
  simpa using this.symm

theorem open_c (A : Option Addr) (n c : Nat) (bs : List UInt8) (hn : n = bs.length) (hc : n ≤ c) (B : Nat) (w : World) (hr : Rd w B A (bs.map B8)) (hB : B ≤ w.heap.size) (hl : n ≤ big) :
    Calls Try.prog 43 #[.slice A n c] w (RetOpen w (openF bs)) := by
  have h47 : n ≤ 140737488355328 := hl
  by_cases h4 : n < 4
  · have ho : openF bs = none := by unfold openF; rw [if_pos (by omega)]
    rw [ho]
    have hd : decide ((n : Int) - 4 < 0) = true := decide_eq_true (by omega)
    clear hr hn ho
    go_enter Try.func43, Try.ntmps43
    go_wp2
    go_quiet (fail)
    go_wp2
    go_ret2
    exact ⟨none, 0, 0, rfl, rfl, Nat.le_refl _, Rd.nil, below_drewN _ _ _⟩
  · obtain ⟨m, rfl⟩ : ∃ m, n = m + 4 := ⟨n - 4, by omega⟩
    clear h4
    obtain ⟨s, hs⟩ := le4_of (bs.drop m) (by simp; omega)
    obtain ⟨A1, c1, hsl1, hr1⟩ := run_from' Try.underlying30 size8 A (m + 4) c m 4 (m : Int) .i64 rfl (by omega) hc (by omega)
    obtain ⟨A2, hsl2, hr2⟩ := run_upto Try.underlying30 size8 A (m + 4) c m (m : Int) .i64 rfl (by omega)
    have HR1 := Lib.hid (hr1 w B _ (by rw [List.length_map, ← hn]) hr)
    have HR2 := Lib.hid ((hr2 w B _ hr).take m)
    rw [← List.map_drop, hs] at HR1
    rw [← List.map_take] at HR2
    have HM : Hid (m = (bs.take m).length) := Lib.hid (by simp; omega)
    have HN := Lib.hid hn; clear hn
    have HS := Lib.hid hs; clear hs
    clear hr hr1 hr2
    have hsz : (((m + 4 : Nat) : Int) - 4) = (m : Int) := by omega
    have hd : decide ((m : Int) < 0) = false := decide_eq_false (by omega)
    by_cases hq : s = sum (bs.take m)
    · have HOP : Hid (openF bs = some (bs.take m)) := Lib.hid (by
        have e : seal_ (bs.take m) = bs := by unfold seal_; rw [← hq, ← HS.out, List.take_append_drop]
        unfold openF
        rw [← HN.out, if_neg (by omega), show m + 4 - 4 = m by omega, if_pos e])
      have hne : ((s.toNat : Int) != ((sum (bs.take m)).toNat : Int)) = false := by rw [hq]; simp
      clear hq HS
      go_enter Try.func43, Try.ntmps43
      go_wp2
      refine wp_region_held_drew (S := fun W' => Below w.heap.size w W') (by kernel_rfl) (Below.refl _ _).drew (fun hHeld => ?_)
      generalize w.drew = w2 at hHeld ⊢
      have HBD : Hid (Below w.heap.size w w2) := hHeld
      have hs2 := hHeld.size
      clear hHeld
      have HBA := Lib.hid (HBD.out.alloc hs2 (.cells #[.slice A2 m c] 30))
      refine take_in (i := 0) (oi := ⟨_, _, _, _, _, _⟩) (v := ?_) rfl (by kernel_rfl) (by kernel_rfl) (by kernel_rfl) (fun _ _ _ h => h) (by rfl) ?_ HBD.out ?_
      rotate_left
      · intro W hW; go_simp; with_reducible rfl
      simp only [Act.put, List.setIfInBounds_toArray, List.set_cons_zero, List.set_cons_succ]
      refine take_in (i := 1) (oi := ⟨_, _, _, _, _, _⟩) (v := ?_) rfl (by kernel_rfl) (by kernel_rfl) (by kernel_rfl) (fun _ _ _ h => h) (by rfl) ?_ HBD.out ?_
      rotate_left
      · intro W hW; go_simp; with_reducible rfl
      simp only [Act.put, List.setIfInBounds_toArray, List.set_cons_zero, List.set_cons_succ]
      refine take_in (i := 2) (oi := ⟨_, _, _, _, _, _⟩) (v := ?_) rfl (by kernel_rfl) (by kernel_rfl) (by kernel_rfl) (fun _ _ _ h => h) (by rfl) ?_ HBD.out ?_
      rotate_left
      · intro W hW; go_simp; with_reducible rfl
      simp only [Act.put, List.setIfInBounds_toArray, List.set_cons_zero, List.set_cons_succ]
      refine take_in (i := 3) (oi := ⟨_, _, _, _, _, _⟩) (v := ?_) rfl (by kernel_rfl) (by kernel_rfl) (by kernel_rfl) (fun _ _ _ h => h) (by rfl) ?_ HBD.out ?_
      rotate_left
      · intro W hW; go_simp; with_reducible rfl
      simp only [Act.put, List.setIfInBounds_toArray, List.set_cons_zero, List.set_cons_succ]
      refine take_in (i := 4) (oi := ⟨_, _, _, _, _, _⟩) (v := ?_) rfl (by kernel_rfl) (by kernel_rfl) (by kernel_rfl) (fun _ _ _ h => h) (by rfl) ?_ HBD.out ?_
      rotate_left
      · intro W hW; go_simp; with_reducible rfl
      simp only [Act.put, List.setIfInBounds_toArray, List.set_cons_zero, List.set_cons_succ]
      refine take_in (i := 5) (oi := ⟨_, _, _, _, _, _⟩) (v := ?_) rfl (by kernel_rfl) (by kernel_rfl) (by kernel_rfl) (fun _ _ _ h => h) (by rfl) ?_ HBD.out ?_
      rotate_left
      · intro W hW; go_simp; with_reducible rfl
      simp only [Act.put, List.setIfInBounds_toArray, List.set_cons_zero, List.set_cons_succ]
      refine take_in (i := 7) (oi := ⟨_, _, _, _, _, _⟩) (v := ?_) rfl (by kernel_rfl) (by kernel_rfl) (by kernel_rfl) (fun _ _ _ h => h) (by rfl) ?_ HBD.out ?_
      rotate_left
      · intro W hW; go_simp; with_reducible rfl
      simp only [Act.put, List.setIfInBounds_toArray, List.set_cons_zero, List.set_cons_succ]
      refine take_in (i := 8) (oi := ⟨_, _, _, _, _, _⟩) (v := ?_) rfl (by kernel_rfl) (by kernel_rfl) (by kernel_rfl) (fun _ _ _ h => h) (by rfl) ?_ HBD.out ?_
      rotate_left
      · intro W hW; go_simp; with_reducible rfl
      simp only [Act.put, List.setIfInBounds_toArray, List.set_cons_zero, List.set_cons_succ]
      refine take_in (i := 9) (oi := ⟨_, _, _, _, _, _⟩) (v := ?_) rfl (by kernel_rfl) (by kernel_rfl) (by kernel_rfl) (fun _ _ _ h => h) (by rfl) ?_ HBD.out ?_
      rotate_left
      · intro W hW; go_simp; with_reducible rfl
      simp only [Act.put, List.setIfInBounds_toArray, List.set_cons_zero, List.set_cons_succ]
      refine wpAnyH_ready (rs := [6, 10]) (by kernel_rfl) (by simp) ?_
      refine AllReadyH.cons (o := ⟨_, _, _, _, _, _⟩) rfl (fun K hK => ?_) (AllReadyH.cons (o := ⟨_, _, _, _, _, _⟩) rfl (fun K hK => ?_) AllReadyH.nil)
      · go_simp
        refine (sumin_c A1 c1 s.toNat s.isLt B _ (HR1.out.below (HBD.out.mono hB))).mono ?_
        rintro e w' ⟨rfl, rfl⟩
        refine hK.out _ _ HBD.out (fun _ => ?_)
        clear hK K
        refine wpAnyH_ready (rs := [10]) (by kernel_rfl) (by simp) ?_
        refine AllReadyH.cons (o := ⟨_, _, _, _, _, _⟩) rfl (fun K hK => ?_) AllReadyH.nil
        go_simp
        refine hK.out _ _ HBA.out (fun _ => ?_)
        clear hK K
        refine wpAnyH_ready (rs := [11]) (by kernel_rfl) (by simp) ?_
        refine AllReadyH.cons (o := ⟨_, _, _, _, _, _⟩) rfl (fun K hK => ?_) AllReadyH.nil
        go_simp
        refine (of_one w2 B A2 m c _ HM.out (by omega) (HR2.out.below (HBD.out.mono hB)) (by omega)).mono ?_
        rintro e w' ⟨rfl, rfl⟩
        refine hK.out _ _ HBA.out (fun _ => ?_)
        clear hK K
        refine take_in (i := 12) (oi := ⟨_, _, _, _, _, _⟩) (v := ?_) rfl (by kernel_rfl) (by kernel_rfl) (by kernel_rfl) (fun _ _ _ h => h) (by rfl) ?_ HBA.out ?_
        rotate_left
        · intro W hW; go_simp; with_reducible rfl
        simp only [Act.put, List.setIfInBounds_toArray, List.set_cons_zero, List.set_cons_succ]
        refine take_in (i := 13) (oi := ⟨_, _, _, _, _, _⟩) (v := ?_) rfl (by kernel_rfl) (by kernel_rfl) (by kernel_rfl) (fun _ _ _ h => h) (by rfl) ?_ HBA.out ?_
        rotate_left
        · intro W hW; go_simp; with_reducible rfl
        simp only [Act.put, List.setIfInBounds_toArray, List.set_cons_zero, List.set_cons_succ]
        refine wpAnyH_done (by kernel_rfl) ?_ _
        go_wp2_with fail
        refine (clone_c A2 m c _ HM.out B _ (HR2.out.below (HBA.out.mono hB)) (by simp; omega) (by omega)).mono ?_
        rintro e w3 ⟨A3, n3, c3, rfl, ho3, hb3⟩
        have HO3 := Lib.hid ho3; clear ho3
        have HB3 := Lib.hid (HBA.out.trans (hb3.mono (by simp; omega))); clear hb3
        go_wp2
        go_ret2
        rw [HOP.out]
        exact ⟨A3, n3, c3, rfl, HO3.out.1, HO3.out.cap, HO3.out.rd, HB3.out⟩
      · go_simp
        refine hK.out _ _ HBA.out (fun _ => ?_)
        clear hK K
        refine wpAnyH_ready (rs := [6]) (by kernel_rfl) (by simp) ?_
        refine AllReadyH.cons (o := ⟨_, _, _, _, _, _⟩) rfl (fun K hK => ?_) AllReadyH.nil
        go_simp
        refine (sumin_c A1 c1 s.toNat s.isLt B _ (HR1.out.below (HBA.out.mono hB))).mono ?_
        rintro e w' ⟨rfl, rfl⟩
        refine hK.out _ _ HBA.out (fun _ => ?_)
        clear hK K
        refine wpAnyH_ready (rs := [11]) (by kernel_rfl) (by simp) ?_
        refine AllReadyH.cons (o := ⟨_, _, _, _, _, _⟩) rfl (fun K hK => ?_) AllReadyH.nil
        go_simp
        refine (of_one w2 B A2 m c _ HM.out (by omega) (HR2.out.below (HBD.out.mono hB)) (by omega)).mono ?_
        rintro e w' ⟨rfl, rfl⟩
        refine hK.out _ _ HBA.out (fun _ => ?_)
        clear hK K
        refine take_in (i := 12) (oi := ⟨_, _, _, _, _, _⟩) (v := ?_) rfl (by kernel_rfl) (by kernel_rfl) (by kernel_rfl) (fun _ _ _ h => h) (by rfl) ?_ HBA.out ?_
        rotate_left
        · intro W hW; go_simp; with_reducible rfl
        simp only [Act.put, List.setIfInBounds_toArray, List.set_cons_zero, List.set_cons_succ]
        refine take_in (i := 13) (oi := ⟨_, _, _, _, _, _⟩) (v := ?_) rfl (by kernel_rfl) (by kernel_rfl) (by kernel_rfl) (fun _ _ _ h => h) (by rfl) ?_ HBA.out ?_
        rotate_left
        · intro W hW; go_simp; with_reducible rfl
        simp only [Act.put, List.setIfInBounds_toArray, List.set_cons_zero, List.set_cons_succ]
        refine wpAnyH_done (by kernel_rfl) ?_ _
        go_wp2_with fail
        refine (clone_c A2 m c _ HM.out B _ (HR2.out.below (HBA.out.mono hB)) (by simp; omega) (by omega)).mono ?_
        rintro e w3 ⟨A3, n3, c3, rfl, ho3, hb3⟩
        have HO3 := Lib.hid ho3; clear ho3
        have HB3 := Lib.hid (HBA.out.trans (hb3.mono (by simp; omega))); clear hb3
        go_wp2
        go_ret2
        rw [HOP.out]
        exact ⟨A3, n3, c3, rfl, HO3.out.1, HO3.out.cap, HO3.out.rd, HB3.out⟩
    · have HOP : Hid (openF bs = none) := Lib.hid (by
        have e : seal_ (bs.take m) ≠ bs := by
          intro e
          apply hq
          have h1 : (seal_ (bs.take m)).drop m = bs.drop m := by rw [e]
          unfold seal_ at h1
          rw [List.drop_left' HM.out.symm, HS.out] at h1
          exact (le4_inj h1).symm
        unfold openF
        rw [← HN.out, if_neg (by omega), show m + 4 - 4 = m by omega, if_neg e])
      have hne : ((s.toNat : Int) != ((sum (bs.take m)).toNat : Int)) = true := by
        rw [bne_iff_ne]
        intro h
        exact hq (BitVec.eq_of_toNat_eq (by omega))
      clear hq HS
      go_enter Try.func43, Try.ntmps43
      go_wp2
      refine wp_region_held_drew (S := fun W' => Below w.heap.size w W') (by kernel_rfl) (Below.refl _ _).drew (fun hHeld => ?_)
      generalize w.drew = w2 at hHeld ⊢
      have HBD : Hid (Below w.heap.size w w2) := hHeld
      have hs2 := hHeld.size
      clear hHeld
      have HBA := Lib.hid (HBD.out.alloc hs2 (.cells #[.slice A2 m c] 30))
      refine take_in (i := 0) (oi := ⟨_, _, _, _, _, _⟩) (v := ?_) rfl (by kernel_rfl) (by kernel_rfl) (by kernel_rfl) (fun _ _ _ h => h) (by rfl) ?_ HBD.out ?_
      rotate_left
      · intro W hW; go_simp; with_reducible rfl
      simp only [Act.put, List.setIfInBounds_toArray, List.set_cons_zero, List.set_cons_succ]
      refine take_in (i := 1) (oi := ⟨_, _, _, _, _, _⟩) (v := ?_) rfl (by kernel_rfl) (by kernel_rfl) (by kernel_rfl) (fun _ _ _ h => h) (by rfl) ?_ HBD.out ?_
      rotate_left
      · intro W hW; go_simp; with_reducible rfl
      simp only [Act.put, List.setIfInBounds_toArray, List.set_cons_zero, List.set_cons_succ]
      refine take_in (i := 2) (oi := ⟨_, _, _, _, _, _⟩) (v := ?_) rfl (by kernel_rfl) (by kernel_rfl) (by kernel_rfl) (fun _ _ _ h => h) (by rfl) ?_ HBD.out ?_
      rotate_left
      · intro W hW; go_simp; with_reducible rfl
      simp only [Act.put, List.setIfInBounds_toArray, List.set_cons_zero, List.set_cons_succ]
      refine take_in (i := 3) (oi := ⟨_, _, _, _, _, _⟩) (v := ?_) rfl (by kernel_rfl) (by kernel_rfl) (by kernel_rfl) (fun _ _ _ h => h) (by rfl) ?_ HBD.out ?_
      rotate_left
      · intro W hW; go_simp; with_reducible rfl
      simp only [Act.put, List.setIfInBounds_toArray, List.set_cons_zero, List.set_cons_succ]
      refine take_in (i := 4) (oi := ⟨_, _, _, _, _, _⟩) (v := ?_) rfl (by kernel_rfl) (by kernel_rfl) (by kernel_rfl) (fun _ _ _ h => h) (by rfl) ?_ HBD.out ?_
      rotate_left
      · intro W hW; go_simp; with_reducible rfl
      simp only [Act.put, List.setIfInBounds_toArray, List.set_cons_zero, List.set_cons_succ]
      refine take_in (i := 5) (oi := ⟨_, _, _, _, _, _⟩) (v := ?_) rfl (by kernel_rfl) (by kernel_rfl) (by kernel_rfl) (fun _ _ _ h => h) (by rfl) ?_ HBD.out ?_
      rotate_left
      · intro W hW; go_simp; with_reducible rfl
      simp only [Act.put, List.setIfInBounds_toArray, List.set_cons_zero, List.set_cons_succ]
      refine take_in (i := 7) (oi := ⟨_, _, _, _, _, _⟩) (v := ?_) rfl (by kernel_rfl) (by kernel_rfl) (by kernel_rfl) (fun _ _ _ h => h) (by rfl) ?_ HBD.out ?_
      rotate_left
      · intro W hW; go_simp; with_reducible rfl
      simp only [Act.put, List.setIfInBounds_toArray, List.set_cons_zero, List.set_cons_succ]
      refine take_in (i := 8) (oi := ⟨_, _, _, _, _, _⟩) (v := ?_) rfl (by kernel_rfl) (by kernel_rfl) (by kernel_rfl) (fun _ _ _ h => h) (by rfl) ?_ HBD.out ?_
      rotate_left
      · intro W hW; go_simp; with_reducible rfl
      simp only [Act.put, List.setIfInBounds_toArray, List.set_cons_zero, List.set_cons_succ]
      refine take_in (i := 9) (oi := ⟨_, _, _, _, _, _⟩) (v := ?_) rfl (by kernel_rfl) (by kernel_rfl) (by kernel_rfl) (fun _ _ _ h => h) (by rfl) ?_ HBD.out ?_
      rotate_left
      · intro W hW; go_simp; with_reducible rfl
      simp only [Act.put, List.setIfInBounds_toArray, List.set_cons_zero, List.set_cons_succ]
      refine wpAnyH_ready (rs := [6, 10]) (by kernel_rfl) (by simp) ?_
      refine AllReadyH.cons (o := ⟨_, _, _, _, _, _⟩) rfl (fun K hK => ?_) (AllReadyH.cons (o := ⟨_, _, _, _, _, _⟩) rfl (fun K hK => ?_) AllReadyH.nil)
      · go_simp
        refine (sumin_c A1 c1 s.toNat s.isLt B _ (HR1.out.below (HBD.out.mono hB))).mono ?_
        rintro e w' ⟨rfl, rfl⟩
        refine hK.out _ _ HBD.out (fun _ => ?_)
        clear hK K
        refine wpAnyH_ready (rs := [10]) (by kernel_rfl) (by simp) ?_
        refine AllReadyH.cons (o := ⟨_, _, _, _, _, _⟩) rfl (fun K hK => ?_) AllReadyH.nil
        go_simp
        refine hK.out _ _ HBA.out (fun _ => ?_)
        clear hK K
        refine wpAnyH_ready (rs := [11]) (by kernel_rfl) (by simp) ?_
        refine AllReadyH.cons (o := ⟨_, _, _, _, _, _⟩) rfl (fun K hK => ?_) AllReadyH.nil
        go_simp
        refine (of_one w2 B A2 m c _ HM.out (by omega) (HR2.out.below (HBD.out.mono hB)) (by omega)).mono ?_
        rintro e w' ⟨rfl, rfl⟩
        refine hK.out _ _ HBA.out (fun _ => ?_)
        clear hK K
        refine take_in (i := 12) (oi := ⟨_, _, _, _, _, _⟩) (v := ?_) rfl (by kernel_rfl) (by kernel_rfl) (by kernel_rfl) (fun _ _ _ h => h) (by rfl) ?_ HBA.out ?_
        rotate_left
        · intro W hW; go_simp; with_reducible rfl
        simp only [Act.put, List.setIfInBounds_toArray, List.set_cons_zero, List.set_cons_succ]
        refine take_in (i := 13) (oi := ⟨_, _, _, _, _, _⟩) (v := ?_) rfl (by kernel_rfl) (by kernel_rfl) (by kernel_rfl) (fun _ _ _ h => h) (by rfl) ?_ HBA.out ?_
        rotate_left
        · intro W hW; go_simp; with_reducible rfl
        simp only [Act.put, List.setIfInBounds_toArray, List.set_cons_zero, List.set_cons_succ]
        refine wpAnyH_done (by kernel_rfl) ?_ _
        go_wp2
        go_ret2
        rw [HOP.out]
        exact ⟨none, 0, 0, rfl, rfl, Nat.le_refl _, Rd.nil, HBA.out⟩
      · go_simp
        refine hK.out _ _ HBA.out (fun _ => ?_)
        clear hK K
        refine wpAnyH_ready (rs := [6]) (by kernel_rfl) (by simp) ?_
        refine AllReadyH.cons (o := ⟨_, _, _, _, _, _⟩) rfl (fun K hK => ?_) AllReadyH.nil
        go_simp
        refine (sumin_c A1 c1 s.toNat s.isLt B _ (HR1.out.below (HBA.out.mono hB))).mono ?_
        rintro e w' ⟨rfl, rfl⟩
        refine hK.out _ _ HBA.out (fun _ => ?_)
        clear hK K
        refine wpAnyH_ready (rs := [11]) (by kernel_rfl) (by simp) ?_
        refine AllReadyH.cons (o := ⟨_, _, _, _, _, _⟩) rfl (fun K hK => ?_) AllReadyH.nil
        go_simp
        refine (of_one w2 B A2 m c _ HM.out (by omega) (HR2.out.below (HBD.out.mono hB)) (by omega)).mono ?_
        rintro e w' ⟨rfl, rfl⟩
        refine hK.out _ _ HBA.out (fun _ => ?_)
        clear hK K
        refine take_in (i := 12) (oi := ⟨_, _, _, _, _, _⟩) (v := ?_) rfl (by kernel_rfl) (by kernel_rfl) (by kernel_rfl) (fun _ _ _ h => h) (by rfl) ?_ HBA.out ?_
        rotate_left
        · intro W hW; go_simp; with_reducible rfl
        simp only [Act.put, List.setIfInBounds_toArray, List.set_cons_zero, List.set_cons_succ]
        refine take_in (i := 13) (oi := ⟨_, _, _, _, _, _⟩) (v := ?_) rfl (by kernel_rfl) (by kernel_rfl) (by kernel_rfl) (fun _ _ _ h => h) (by rfl) ?_ HBA.out ?_
        rotate_left
        · intro W hW; go_simp; with_reducible rfl
        simp only [Act.put, List.setIfInBounds_toArray, List.set_cons_zero, List.set_cons_succ]
        refine wpAnyH_done (by kernel_rfl) ?_ _
        go_wp2
        go_ret2
        rw [HOP.out]
        exact ⟨none, 0, 0, rfl, rfl, Nat.le_refl _, Rd.nil, HBA.out⟩
end Go.Proofs.Ytldfccllpnplmaa

namespace Go.Proofs.Ytldfccllpnplmaa
set_option maxRecDepth 20000
open Go.RowKit

/-- one operation that only yields -/
theorem wp_val {P : Program} {w : World} {ops : Array Oper} {rest : List Oper} {o : Oper} {a : Act} {Q : Exit → Act → World → Prop} (hgd : o.guard = none) (v : Value) (hv : (execOp a.eval o).run P w = .ok (.value v) w)
    (h : wpList P ops Q rest (a.put o.dst v) w) : wpList P ops Q (o :: rest) a w := by
  refine wpList_plain hgd fun K hK => ?_
  unfold Oper.wp
  rw [hv]
  exact hK _ _ h

theorem wp_tab {w : World} {ops : Array Oper} {rest : List Oper} {o : Oper} {a : Act} {Q : Exit → Act → World → Prop} (hgd : o.guard = none) (T : ByteArray) (x : Operand) (ho : o.op = .index 9 (.const (.string T)) x) (z : Nat) (hz : z < 256) (hx : a.eval x = .int .u8 (z : Int))
    (hT : ∀ i : Fin 256, (T.data.toList[i.val]?).map UInt8.toNat = some (Go.bitLen i.val)) (h : wpList Try.prog ops Q rest (a.put o.dst (.int .u8 (Go.bitLen z : Int))) w) : wpList Try.prog ops Q (o :: rest) a w := by
  refine wp_val hgd _ ?_ h
  have h1 := hT ⟨z, hz⟩
  have h2 : z < T.size := by
    rcases Nat.lt_or_ge z T.data.toList.length with h2 | h2
    · exact h2
    · rw [List.getElem?_eq_none h2] at h1; cases h1
  have h3 : (T[z]'h2).toNat = Go.bitLen z := by
    rw [List.getElem?_eq_getElem (show z < T.data.toList.length from h2)] at h1
    have h5 : (T.data[z]'h2).toNat = Go.bitLen z := by simpa using h1
    exact h5
  have h4 := run_index_string (P := Try.prog) w 9 T .u8 (z : Int) Try.underlying9
  rw [dif_pos ⟨by omega, by omega⟩] at h4
  unfold execOp
  have hc : a.eval (.const (.string T)) = .string T := rfl
  simp only [ho, hx, hc, Sem.run_bind, h4, Result.andThen_ok, Sem.run_pure]
  rw [← h3]
  rfl

set_option maxRecDepth 100000 in
theorem len_c (m : Nat) (hm : m < 2 ^ 32) (w : World) : Calls Try.prog 52 #[.int .u32 (m : Int)] w fun e w' => e = .returned (.int .i64 (Go.bitLen m : Int)) ∧ w = w' := by
  go_enter Try.func52, Try.ntmps52
  go_upto_if 4 with (fail)
  rename_i Q' K hK
  have hK' : ∀ (y j : Nat) (v0 v3 v4 v5 v6 : Value), v0 = .int .u32 (y : Int) → y < 65536 → j ≤ 16 → (y = m ∧ j = 0 ∨ y = m / 65536 ∧ 65536 ≤ m ∧ j = 16) → K { tmps := #[v0, undef, .int .i64 (j : Int), v3, v4, v5, v6, undef, undef, undef, undef, undef, undef, undef, undef, undef, undef, undef, undef], defers := [] } w := by
    intro y j v0 v3 v4 v5 v6 hv0 hy hj hyj
    subst hv0
    refine hK _ _ ?_
    clear hK
    have hb : Go.bitLen m = j + Go.bitLen y := by
      rcases hyj with ⟨rfl, rfl⟩ | ⟨rfl, h, rfl⟩
      · omega
      · have := bitLen_shift m 16 (by omega)
        simpa using this
    have HYJ := Lib.hid hb
    clear hyj hb
    go_upto_if 8 with (fail)
    rename_i K2 hK2
    have hK2' : ∀ (z i : Nat) (v8 u9 u10 u11 u12 : Value), z < 256 → i ≤ 24 → Go.bitLen m = i + Go.bitLen z → K2 { tmps := #[.int .u32 (z : Int), undef, .int .i64 (i : Int), v3, v4, v5, v6, .int .u32 (y : Int), v8, u9, u10, u11, u12, undef, undef, undef, undef, undef, undef], defers := [] } w := by
      intro z i v8 u9 u10 u11 u12 hz hi hzi
      refine hK2 _ _ ?_
      clear hK2
      go_upto_region 7 with (fail)
      refine wp_region_list ?_
      refine wp_val rfl (.int .i64 (i : Int)) rfl ?_
      refine wp_val rfl (.int .u32 (z : Int)) rfl ?_
      refine wp_val rfl (.int .u8 (z : Int)) ?_ ?_
      · go_simp
        exact IntWalk.u8_in _ (by omega)
      refine wp_tab rfl _ (.tmp 15) rfl z hz rfl (by decide +kernel) ?_
      have hb8 := bitLen_le8 z hz
      generalize Go.bitLen z = q at hzi hb8 ⊢
      simp only [Act.put, List.setIfInBounds_toArray, List.set_cons_zero, List.set_cons_succ]
      refine wp_val rfl (.int .i64 (q : Int)) ?_ ?_
      · go_simp
        exact IntWalk.i64_in _ (by omega)
      refine wp_val rfl (.int .i64 ((i : Int) + (q : Int))) ?_ ?_
      · go_simp
        exact IntWalk.i64_in _ (by omega)
      refine wp_val rfl (.int .i64 ((i : Int) + (q : Int))) rfl ?_
      refine wpList_nil ?_
      simp only [Act.put, List.setIfInBounds_toArray, List.set_cons_zero, List.set_cons_succ]
      go_wp2
      go_ret
      exact ⟨ret_int (by rw [hzi]; omega), rfl⟩
    clear hK2
    have HK2 := Lib.hid hK2'
    clear hK2'
    clear_value Q'
    by_cases h1 : (256 : Int) ≤ (y : Int)
    · go_wp2
      have h8 : Go.bitLen y = 8 + Go.bitLen (y / 256) := by
        have := bitLen_shift y 8 (by omega)
        simpa using this
      refine HK2.out (y / 256) (j + 8) _ _ _ _ _ ?_ ?_ ?_
      · omega
      · omega
      · rw [HYJ.out, h8]
        omega
    · go_wp2
      refine HK2.out y j _ _ _ _ _ ?_ ?_ ?_
      · omega
      · omega
      · exact HYJ.out
  clear hK
  have HK := Lib.hid hK'
  clear hK'
  clear_value Q'
  by_cases h1 : (65536 : Int) ≤ (m : Int)
  · have H1 := Lib.hid h1
    have HM := Lib.hid hm
    rw [decide_eq_true h1]
    clear h1 hm
    go_wp2
    have h1 := H1.out
    have hm := HM.out
    refine HK.out (m / 65536) 16 _ _ _ _ _ ?_ ?_ ?_ ?_
    · exact congrArg (Value.int IntKind.u32) (by omega)
    · omega
    · omega
    · exact Or.inr ⟨rfl, by omega, rfl⟩
  · have H1 := Lib.hid h1
    rw [decide_eq_false h1]
    clear h1
    go_wp2
    have h1 := H1.out
    refine HK.out m 0 _ _ _ _ _ rfl ?_ ?_ ?_
    · omega
    · omega
    · exact Or.inl ⟨rfl, rfl⟩
end Go.Proofs.Ytldfccllpnplmaa

namespace Go.Proofs.Ytldfccllpnplmaa
set_option maxRecDepth 20000
open Go.RowKit
open Crc

theorem turn_set (bs : List UInt8) (k : Nat) (x : UInt8) (h : bs[k / 8]? = some x) : turn bs k = bs.set (k / 8) (x ^^^ UInt8.ofNat (2 ^ (k % 8))) := by
  unfold turn
  apply List.ext_getElem?
  intro i
  rw [List.getElem?_modify, List.getElem?_set]
  by_cases hi : k / 8 = i
  · subst hi
    rw [h]
    have hl : k / 8 < bs.length := by
      rcases Nat.lt_or_ge (k / 8) bs.length with h2 | h2
      · exact h2
      · rw [List.getElem?_eq_none h2] at h; cases h
    simp [hl]
  · simp [hi]
theorem xor8_v (x : UInt8) (j : Nat) (hj : j < 8) : Go.bits .xor .u8 (x.toNat : Int) ((2 : Int) ^ j % 256) = ((x ^^^ UInt8.ofNat (2 ^ j)).toNat : Int) := by
  have h : 2 ^ j < 256 := Nat.pow_lt_pow_right (by omega) (show j < 8 from hj)
  have e : (2 : Int) ^ j % 256 = ((2 ^ j : Nat) : Int) := by
    rw [show ((2 ^ j : Nat) : Int) = (2 : Int) ^ j from by simp]
    apply Int.emod_eq_of_lt
    · exact Int.pow_nonneg (by omega)
    · have : ((2 ^ j : Nat) : Int) < 256 := by omega
      simpa using this
  rw [e, u8_xor_nat _ _ (UInt8.toNat_lt x) h, UInt8.toNat_xor, UInt8.toNat_ofNat', Nat.mod_eq_of_lt h]

theorem bitLen_le (m k : Nat) (h : m < 2 ^ k) : Go.bitLen m ≤ k := by
  have h1 := (bitLen_spec m).2
  rcases Nat.eq_zero_or_pos m with h0 | h0
  · subst h0; simp [Go.bitLen]
  · have h2 := h1 (by omega)
    have h3 : Go.bitLen m - 1 < k := (Nat.pow_lt_pow_iff_right (by omega)).1 (Nat.lt_of_le_of_lt h2 h)
    omega

theorem bit_v (m k : Nat) (hm : m < 2 ^ 32) : Go.bits .and .u32 ((m : Int) / 2 ^ k) 1 = ((if m.testBit k then 1 else 0 : Nat) : Int) := by
  have e : (m : Int) / 2 ^ k = ((m / 2 ^ k : Nat) : Int) := by simp
  rw [e, show (1 : Int) = ((1 : Nat) : Int) from rfl, u32_and_nat _ _ (Nat.lt_of_le_of_lt (Nat.div_le_self _ _) hm) (by omega), Nat.and_one_is_mod, Nat.testBit_eq_decide_div_mod_eq]
  congr 1
  rcases Nat.mod_two_eq_zero_or_one (m / 2 ^ k) with h | h <;> simp [h]

theorem turn_c (A : Option Addr) (n c base k : Nat) (bs : List UInt8) (w : World) (ho : Own w base A n c bs) (hk : k / 8 < n) (hn : n ≤ big) :
    Calls Try.prog 53 #[.slice A n c, .int .i64 (k : Int)] w fun e w' => e = .returned (.tuple #[]) ∧ Own w' base A n c (turn bs k) ∧ Below base w w' := by
  have hn47 : n ≤ 140737488355328 := hn
  rcases ho.2.2 with ⟨_, h0⟩ | ⟨g, cap, cur, hv, hg, hh, r⟩
  · omega
  injection hv with h1 h2 h3
  subst h1
  subst h3
  have hl : k / 8 < bs.length := by have := ho.1; omega
  have hc := ho.2.cellAt (k / 8) (by omega)
  have hf := ho.2.frozenAt (k / 8)
  rw [List.getElem?_map, List.getElem?_eq_getElem hl] at hc
  have hb : bs[k / 8]? = some bs[k / 8] := List.getElem?_eq_getElem hl
  generalize bs[k / 8] = x at hb hc
  have hc' : w.cell? ⟨g, k / 8, none⟩ = some (.int .u8 (x.toNat : Int)) := hc
  have HO := Lib.hid ho
  have HB := Lib.hid hb
  clear ho hb hc r hh
  go_enter Try.func53, Try.ntmps53
  go_wp2
  go_region
  all_goals go_end0
  all_goals
    refine ⟨rfl, ⟨?_, ?_⟩, ((Below.refl _ _).setCell hg _).drew⟩
    · rw [turn_len]; exact HO.out.1
    · rw [turn_set _ _ _ HB.out, List.map_set, xor8_v _ _ (Nat.mod_lt _ (by omega))]
      exact (HO.out.2.stored (k / 8) _).1

/-- what Burst answers -/
def burstF (bs : List UInt8) (at_ : Int) (mask : Nat) : List UInt8 := if at_ < 0 ∨ 8 * (bs.length : Int) - (Go.bitLen mask : Int) < at_ then bs else turns bs at_.toNat mask (Go.bitLen mask)

theorem burst_c (A : Option Addr) (n c : Nat) (bs : List UInt8) (hn : n = bs.length) (at_ : Int) (ha1 : -9223372036854775808 ≤ at_) (ha2 : at_ ≤ 9223372036854775807) (mask : Nat) (hm : mask < 2 ^ 32)
    (B : Nat) (w : World) (hr : Rd w B A (bs.map B8)) (hB : B ≤ w.heap.size) (hl : n ≤ big) :
    Calls Try.prog 22 #[.slice A n c, .int .i64 at_, .int .u32 (mask : Int)] w (RetOwn w w.heap.size (burstF bs at_ mask)) := by
  have h47 : n ≤ 140737488355328 := hl
  have HN := Lib.hid hn
  have HR := Lib.hid hr; clear hr
  have hw32 : Go.bitLen mask ≤ 32 := bitLen_le _ _ hm
  obtain ⟨q, hq⟩ : ∃ q, q = Go.bitLen mask := ⟨_, rfl⟩
  have HF := Lib.hid (show burstF bs at_ mask = if at_ < 0 ∨ 8 * (n : Int) - (q : Int) < at_ then bs else turns bs at_.toNat mask q by rw [hq, hn]; rfl)
  have HM := Lib.hid hm
  rw [← hq] at hw32
  have HQ := Lib.hid hq
  clear hq hn hm
  go_enter Try.func22, Try.ntmps22
  go_wp2_with fail
  refine (clone_c A n c bs HN.out B _ HR.out hB hl).mono ?_
  rintro e w1 ⟨A1, n1, c1, rfl, ho1, hb1⟩
  have HO1 := Lib.hid ho1; clear ho1
  have HB1 := Lib.hid hb1; clear hb1
  have hn1 : n1 = n := by rw [HO1.out.1, HN.out]
  subst hn1
  go_wp2_with fail
  refine (len_c mask HM.out _).mono ?_
  rintro e w' ⟨rfl, rfl⟩
  rw [← HQ.out]
  by_cases h1 : at_ < 0
  · go_wp2
    go_ret
    rw [HF.out, if_pos (Or.inl h1)]
    exact ⟨A1, _, c1, rfl, HO1.out, HB1.out⟩
  by_cases h2 : 8 * (n1 : Int) - (q : Int) < at_
  · go_wp2
    go_ret
    rw [HF.out, if_pos (Or.inr h2)]
    exact ⟨A1, _, c1, rfl, HO1.out, HB1.out⟩
  obtain ⟨a, rfl⟩ : ∃ a : Nat, at_ = (a : Int) := ⟨at_.toNat, by omega⟩
  have HF2 := Lib.hid (HF.out.trans (if_neg (by omega)))
  clear HF
  go_wp2
  go_loopw [27] (fun i wr => ∃ k : Nat, i = .int .i64 k ∧ k ≤ q ∧ Own wr w.heap.size A1 n1 c1 (turns bs a mask k) ∧ Below w.heap.size w wr) (fun i _ => q - (intOf i).toNat)
  case atStart => exact ⟨0, rfl, by omega, HO1.out, HB1.out⟩
  case round =>
    obtain ⟨k, rfl, hk, ho, hb⟩ := hrel
    have HO := Lib.hid ho; clear ho
    have HB := Lib.hid hb; clear hb
    by_cases h : k < q
    · have hbv := bit_v mask k HM.out
      cases hb : mask.testBit k with
      | true =>
        have hbit : (Go.bits .and .u32 ((mask : Int) / 2 ^ k) 1 == 1) = true := by rw [hbv, hb]; rfl
        have HT := Lib.hid hb
        clear hbv hb
        go_wp2_with fail
        have e1 : (a : Int) + (k : Int) = ((a + k : Nat) : Int) := by omega
        rw [e1]
        clear e1
        refine (turn_c A1 n1 c1 w.heap.size (a + k) _ wr HO.out (by omega) hl).mono ?_
        rintro e w2 ⟨rfl, ho2, hb2⟩
        have HO2 := Lib.hid ho2; clear ho2
        have HB2 := Lib.hid (HB.out.trans hb2); clear hb2
        go_wp2
        refine ⟨⟨k + 1, by go_num, by omega, ?_, HB2.out⟩, by simp [intOf]; omega⟩
        rw [turns, if_pos HT.out]
        exact HO2.out
      | false =>
        have hbit : (Go.bits .and .u32 ((mask : Int) / 2 ^ k) 1 == 1) = false := by rw [hbv, hb]; rfl
        have HT := Lib.hid hb
        clear hbv hb
        go_wp2
        refine ⟨⟨k + 1, by go_num, by omega, ?_, HB.out⟩, by simp [intOf]; omega⟩
        rw [turns, if_neg (by rw [HT.out]; simp)]
        exact HO.out
    · go_wp2
      go_ret
      obtain rfl : k = q := by omega
      rw [HF2.out]
      exact ⟨A1, _, c1, rfl, HO.out, HB.out⟩
end Go.Proofs.Ytldfccllpnplmaa

namespace Go.Proofs.Ytldfccllpnplmaa
set_option maxRecDepth 20000
open Go.RowKit
open Crc

theorem digits_sum : sum [49, 50, 51, 52, 53, 54, 55, 56, 57] = 0xCBF43926#32 := by decide +kernel
theorem nothing_seal : seal_ [] = [0, 0, 0, 0] := by decide +kernel

end Go.Proofs.Ytldfccllpnplmaa

namespace Go.Proofs.Ytldfccllpnplmaa
set_option maxRecDepth 20000
open Go.RowKit
open Crc

theorem low_bool (c : BitVec 32) (m k : Nat) (hm : m < 2 ^ 32) : (Go.bits .xor .u32 (Go.bits .and .u32 (c.toNat : Int) 1) (Go.bits .and .u32 ((m : Int) / 2 ^ k % 4294967296) 1) == 1) = (c.getLsbD 0 ^^ m.testBit k) := by
  have e : (m : Int) / 2 ^ k % 4294967296 = (m : Int) / 2 ^ k := by
    have e1 : (m : Int) / 2 ^ k = ((m / 2 ^ k : Nat) : Int) := by simp
    have := Nat.div_le_self m (2 ^ k)
    rw [e1]
    clear e1
    generalize m / 2 ^ k = q at this ⊢
    omega
  rw [e, low_v, bit_v m k hm]
  cases c.getLsbD 0 <;> cases m.testBit k <;> decide
theorem step_one (c : BitVec 32) (b : Bool) (h : (c.getLsbD 0 ^^ b) = true) : Go.bits .xor .u32 ((c.toNat : Int) / 2) 3988292384 = ((Crc.step c b).toNat : Int) := by
  have hd : (c.toNat : Int) / (2 : Int) = ((c >>> 1).toNat : Int) := by
    rw [BitVec.toNat_ushiftRight, Nat.shiftRight_eq_div_pow]
    omega
  have := xor_v (c >>> 1) poly
  unfold Crc.step
  rw [h, if_pos rfl, hd, ← this]
  rfl
theorem step_none (c : BitVec 32) (b : Bool) (h : (c.getLsbD 0 ^^ b) = false) : (c.toNat : Int) / 2 = ((Crc.step c b).toNat : Int) := by
  have hd : (c.toNat : Int) / (2 : Int) = ((c >>> 1).toNat : Int) := by
    rw [BitVec.toNat_ushiftRight, Nat.shiftRight_eq_div_pow]
    omega
  unfold Crc.step
  rw [h, if_neg (by simp), hd]
theorem run_take (l : List Bool) (k : Nat) (b : Bool) (c : BitVec 32) (h : l[k]? = some b) : run c (l.take (k + 1)) = Crc.step (run c (l.take k)) b := by
  rw [List.take_add_one, h, run_append]
  rfl

theorem of_r (A : Option Addr) (n c : Nat) (bs : List UInt8) (hn : n = bs.length) (hl : n ≤ big) (B : Nat) (w : World) (hr : Rd w B A (bs.map B8)) :
    Calls Try.prog 64 #[.slice A n c] w fun e w' => e = .returned (.int .u32 ((sum bs).toNat : Int)) ∧ w = w' := by
  have HN := Lib.hid hn; clear hn
  have HR := Lib.hid hr; clear hr
  have h47 : n ≤ 140737488355328 := hl
  go_enter Try.func64, Try.ntmps64
  go_wp2
  go_loop [3, 4] (fun s i => ∃ (k : Nat) (d : BitVec 32), s = .int .u32 (d.toNat : Int) ∧ i = .int .i64 k ∧ k ≤ 8 * n ∧ d = run (BitVec.allOnes 32) ((bitsL bs).take k)) (fun _ i => 8 * n - (intOf i).toNat)
  case atStart => exact ⟨0, BitVec.allOnes 32, rfl, rfl, by omega, rfl⟩
  case round =>
    obtain ⟨k, d, rfl, rfl, hk, hd⟩ := hrel
    have HD := Lib.hid hd
    clear hd
    have hd32 := d.isLt
    by_cases h : k < 8 * n
    · obtain ⟨b, o, rfl, hbB, hcell⟩ := HR.out (by rw [List.length_map, ← HN.out]; omega)
      have hkl : k / 8 < bs.length := by rw [← HN.out]; omega
      have hx : bs[k / 8]? = some bs[k / 8] := List.getElem?_eq_getElem hkl
      have hc0 := hcell (k / 8) (B8 bs[k / 8]) (by simp [hkl])
      have hbit := bits_at bs k
      generalize bs[k / 8] = x at hx hc0
      rw [hx] at hbit
      have HBIT := Lib.hid hbit
      have hx8 := UInt8.toNat_lt x
      have hcx : w.cell? ⟨b, o + k / 8, none⟩ = some (.int .u8 (x.toNat : Int)) := hc0
      have hlow := low_bool d x.toNat (k % 8) (by omega)
      clear hx hc0 hcell hkl hbit
      cases hv : (d.getLsbD 0 ^^ x.toNat.testBit (k % 8)) with
      | true =>
        rw [hv] at hlow
        have HV := Lib.hid hv
        clear hv
        go_wp2
        exact ⟨⟨k + 1, _, by rw [step_one d _ HV.out], by go_num, by omega, by rw [run_take _ _ _ _ HBIT.out, ← HD.out]⟩, by simp [intOf]; omega⟩
      | false =>
        rw [hv] at hlow
        have HV := Lib.hid hv
        clear hv
        go_wp2
        exact ⟨⟨k + 1, _, by rw [step_none d _ HV.out], by go_num, by omega, by rw [run_take _ _ _ _ HBIT.out, ← HD.out]⟩, by simp [intOf]; omega⟩
    · go_wp2
      go_ret
      obtain rfl : k = 8 * n := by omega
      have e := HD.out
      rw [List.take_of_length_le (by rw [bitsL_len, ← HN.out]; omega)] at e
      refine ⟨ret_int ?_, rfl⟩
      unfold sum
      rw [← e, BitVec.toNat_not]
      omega

theorem rd_four (w : World) (s : Nat) (hs : s < 2 ^ 32) : Rd (w.alloc (.cells #[.int .u8 ((s : Int) % 256), .int .u8 ((s : Int) / 256 % 256), .int .u8 ((s : Int) / 65536 % 256), .int .u8 ((s : Int) / 16777216)] 5)) (w.heap.size + 1) (some ⟨w.heap.size, 0, none⟩) ((le4 s).map B8) := by
  rw [byte0_le, show (s : Int) / 256 % 256 = _ from byte_le s 256, show (s : Int) / 65536 % 256 = _ from byte_le s 65536, byte3_le s hs]
  exact rd_new w _

theorem seal_r (A : Option Addr) (n c : Nat) (bs : List UInt8) (hn : n = bs.length) (B : Nat) (w : World) (hr : Rd w B A (bs.map B8)) (hB : B ≤ w.heap.size) (hl : n + 4 ≤ big) :
    Calls Try.prog 31 #[.slice A n c] w (RetOwn w w.heap.size (seal_ bs)) := by
  have HN := Lib.hid hn; clear hn
  have HR := Lib.hid hr; clear hr
  go_enter Try.func31, Try.ntmps31
  go_wp2_with fail
  refine (of_r A n c bs HN.out (by omega) B _ HR.out).mono ?_
  rintro e w' ⟨rfl, rfl⟩
  have hlt := (sum bs).isLt
  obtain ⟨s, hs⟩ : ∃ s, s = (sum bs).toNat := ⟨_, rfl⟩
  rw [← hs] at hlt ⊢
  have HS := Lib.hid hs; clear hs
  go_wp2_with (first
    | (at_builtin; refine wp_copy8 rfl (.tmp 7) (.tmp 8) rfl w rfl B A n c bs rfl HN.out HR.out hB (by omega) ?_; intro A1 c1 w1 ho1 hb1; have HO1 := Lib.hid ho1; clear ho1; have HB1 := Lib.hid hb1; clear hb1)
    | (at_builtin; refine wp_app8 rfl (.tmp 10) (.tmp 25) rfl w.heap.size A1 n c1 bs rfl (HO1.out.alloc _) _ _ 4 4 (le4 s) rfl rfl (rd_four w1 s hlt) hl (by simp; exact Nat.le_succ_of_le HB1.out.size) ?_; intro A2 c2 w2 ho2 hb2; have HO2 := Lib.hid ho2; clear ho2; have HB2 := Lib.hid hb2; clear hb2))
  go_ret
  refine ⟨A2, _, c2, rfl, ?_, (HB1.out.alloc HB1.out.size _).trans HB2.out⟩
  have o := HO2.out
  rw [HS.out] at o
  exact o

theorem open_r (A : Option Addr) (n c : Nat) (bs : List UInt8) (hn : n = bs.length) (hc : n ≤ c) (B : Nat) (w : World) (hr : Rd w B A (bs.map B8)) (hB : B ≤ w.heap.size) (hl : n ≤ big) :
    Calls Try.prog 46 #[.slice A n c] w (RetOpen w (openF bs)) := by
  have h47 : n ≤ 140737488355328 := hl
  by_cases h4 : n < 4
  · have ho : openF bs = none := by unfold openF; rw [if_pos (by omega)]
    rw [ho]
    clear hr hn ho
    go_enter Try.func46, Try.ntmps46
    go_wp2
    go_ret2
    exact ⟨none, 0, 0, rfl, rfl, Nat.le_refl _, Rd.nil, Below.refl _ _⟩
  · obtain ⟨m, rfl⟩ : ∃ m, n = m + 4 := ⟨n - 4, by omega⟩
    clear h4
    obtain ⟨A2, hsl2, hr2⟩ := run_upto Try.underlying30 size8 A (m + 4) c m (m : Int) .i64 rfl (by omega)
    have HR2 := Lib.hid ((hr2 w B _ hr).take m)
    rw [← List.map_take] at HR2
    have HR := Lib.hid hr
    have HM : Hid (m = (bs.take m).length) := Lib.hid (by simp; omega)
    have HN := Lib.hid hn; clear hn
    clear hr hr2
    have hsz : (((m + 4 : Nat) : Int) - 4) = (m : Int) := by omega
    go_enter Try.func46, Try.ntmps46
    go_wp2_with (at_builtin; refine wp_copy8 rfl (.tmp 8) (.tmp 13) rfl w rfl B A2 m c (bs.take m) rfl HM.out HR2.out hB (by omega) ?_; intro A3 c3 w3 ho3 hb3)
    have HO3 := Lib.hid ho3; clear ho3
    have hs3 := hb3.size
    have HB3 := Lib.hid hb3; clear hb3
    obtain ⟨S1, hS1⟩ : ∃ S1, S1 = str (seal_ (bs.take m)) := ⟨_, rfl⟩
    obtain ⟨S2, hS2⟩ : ∃ S2, S2 = str bs := ⟨_, rfl⟩
    have HK : Hid (∀ W', Below w3.heap.size w3 W' → (convert 30 9 (.slice A (m + 4) c)).run Try.prog W' = .ok (.string S2) W') := Lib.hid (by
      intro W' h
      rw [hS2]
      exact str8' c ((HR.out.below (HB3.out.mono hB)).below (h.mono (by omega))) HN.out)
    have hss : (S1.toList == S2.toList) = decide (seal_ (bs.take m) = bs) := by
      rw [hS1, hS2, str_toList, str_toList]
      by_cases h : seal_ (bs.take m) = bs <;> simp [h]
    obtain ⟨v, hv⟩ : ∃ v, v = decide (seal_ (bs.take m) = bs) := ⟨_, rfl⟩
    rw [← hv] at hss
    have HV := Lib.hid hv; clear hv
    have HS1 := Lib.hid hS1
    clear hS1 hS2
    refine wp_region_held_drew (S := fun W' => Below w3.heap.size w3 W') (by kernel_rfl) (Below.refl _ _).drew (fun hHeld => ?_)
    generalize w3.drew = w4 at hHeld ⊢
    have HBD : Hid (Below w3.heap.size w3 w4) := hHeld
    have hs4 := hHeld.size
    clear hHeld
    refine take_in (i := 0) (oi := ⟨_, _, _, _, _, _⟩) (v := ?_) rfl (by kernel_rfl) (by kernel_rfl) (by kernel_rfl) (fun _ _ _ h => h) (by rfl) ?_ HBD.out ?_
    rotate_left
    · intro W hW; go_simp; with_reducible rfl
    simp only [Act.put, List.setIfInBounds_toArray, List.set_cons_zero, List.set_cons_succ]
    refine take_in (i := 3) (oi := ⟨_, _, _, _, _, _⟩) (v := ?_) rfl (by kernel_rfl) (by kernel_rfl) (by kernel_rfl) (fun _ _ _ h => h) (by rfl) ?_ HBD.out ?_
    rotate_left
    · intro W hW; go_simp; with_reducible rfl
    simp only [Act.put, List.setIfInBounds_toArray, List.set_cons_zero, List.set_cons_succ]
    refine take_in (i := 4) (oi := ⟨_, _, _, _, _, _⟩) (v := ?_) rfl (by kernel_rfl) (by kernel_rfl) (by kernel_rfl) (fun _ _ _ h => h) (by rfl) ?_ HBD.out ?_
    rotate_left
    · intro W hW; have hq := HK.out W hW; go_simp; with_reducible rfl
    simp only [Act.put, List.setIfInBounds_toArray, List.set_cons_zero, List.set_cons_succ]
    refine wpAnyH_ready (rs := [1]) (by kernel_rfl) (by simp) ?_
    refine AllReadyH.cons (o := ⟨_, _, _, _, _, _⟩) rfl (fun K hK => ?_) AllReadyH.nil
    go_simp
    refine (seal_r A3 m c3 _ HM.out w3.heap.size _ (HO3.out.rd.below HBD.out) hs4 hl).mono ?_
    rintro e w5 ⟨A5, n5, c5, rfl, ho5, hb5⟩
    have HB5 := Lib.hid (HBD.out.trans (hb5.mono hs4)); clear hb5
    refine hK.out _ _ HB5.out (fun _ => ?_)
    clear hK K
    refine switch HB5.out _ _ _ _ rfl ?_
    have hcv : (convert 30 9 (.slice A5 n5 c5)).run Try.prog w5 = .ok (.string S1) w5 := by rw [HS1.out]; exact str8' c5 ho5.rd ho5.1
    clear ho5
    refine take_in (i := 2) (oi := ⟨_, _, _, _, _, _⟩) (v := ?_) rfl (by kernel_rfl) (by kernel_rfl) (by kernel_rfl) (fun _ _ _ h => h) (by rfl) ?_ rfl ?_
    rotate_left
    · intro W hW; subst hW; go_simp; with_reducible rfl
    simp only [Act.put, List.setIfInBounds_toArray, List.set_cons_zero, List.set_cons_succ]
    refine take_in (i := 5) (oi := ⟨_, _, _, _, _, _⟩) (v := ?_) rfl (by kernel_rfl) (by kernel_rfl) (by kernel_rfl) (fun _ _ _ h => h) (by rfl) ?_ rfl ?_
    rotate_left
    · intro W hW; subst hW; go_simp; with_reducible rfl
    simp only [Act.put, List.setIfInBounds_toArray, List.set_cons_zero, List.set_cons_succ]
    refine wpAnyH_done (by kernel_rfl) ?_ _
    by_cases he : seal_ (bs.take m) = bs
    · have HOP : Hid (openF bs = some (bs.take m)) := Lib.hid (by
        unfold openF
        rw [← HN.out, if_neg (by omega), show m + 4 - 4 = m by omega, if_pos he])
      have hv := HV.out
      rw [decide_eq_true he] at hv
      subst hv
      clear he
      go_wp2
      go_ret2
      rw [HOP.out]
      exact ⟨A3, m, c3, rfl, HM.out, HO3.out.cap, (HO3.out.rd.below HB5.out).more HB5.out.size, HB3.out.trans (HB5.out.mono hs3)⟩
    · have HOP : Hid (openF bs = none) := Lib.hid (by
        unfold openF
        rw [← HN.out, if_neg (by omega), show m + 4 - 4 = m by omega, if_neg he])
      have hv := HV.out
      rw [decide_eq_false he] at hv
      subst hv
      clear he
      go_wp2
      go_ret2
      rw [HOP.out]
      exact ⟨none, 0, 0, rfl, rfl, Nat.le_refl _, Rd.nil, HB3.out.trans (HB5.out.mono hs3)⟩
end Go.Proofs.Ytldfccllpnplmaa

namespace Go.Proofs.Ytldfccllpnplmaa
set_option maxRecDepth 20000
open Go.RowKit
open Crc

theorem bit_lt {m k : Nat} (h : m.testBit k = true) : k < Go.bitLen m := by
  have h1 := Nat.ge_two_pow_of_testBit h
  have h2 := (bitLen_spec m).1
  exact (Nat.pow_lt_pow_iff_right (by omega : 1 < 2)).1 (Nat.lt_of_le_of_lt h1 h2)
theorem top_bit {m : Nat} (h : m ≠ 0) : m.testBit (Go.bitLen m - 1) = true := by
  have h1 := (bitLen_spec m).2 h
  have h2 := (bitLen_spec m).1
  have h0 : 0 < Go.bitLen m := by
    rcases Nat.eq_zero_or_pos (Go.bitLen m) with h3 | h3
    · rw [h3] at h2; omega
    · exact h3
  rw [Nat.testBit_eq_decide_div_mod_eq]
  have e : m / 2 ^ (Go.bitLen m - 1) = 1 := by
    have hp : 2 ^ Go.bitLen m = 2 * 2 ^ (Go.bitLen m - 1) := by
      rw [show Go.bitLen m = (Go.bitLen m - 1) + 1 by omega, Nat.pow_succ, Nat.add_sub_cancel, Nat.mul_comm]
    rw [hp] at h2
    exact Nat.div_eq_of_lt_le (by omega) (by omega)
  rw [e]
  rfl
theorem turns_more (bs : List UInt8) (a m k : Nat) (hk : Go.bitLen m ≤ k) : turns bs a m k = turns bs a m (Go.bitLen m) := by
  induction k with
  | zero => rw [show Go.bitLen m = 0 by omega]
  | succ k ih =>
    rcases Nat.lt_or_ge k (Go.bitLen m) with h | h
    · rw [show Go.bitLen m = k + 1 by omega]
    · have hf : m.testBit k = false := by
        cases hb : m.testBit k with
        | false => rfl
        | true => have := bit_lt hb; omega
      rw [turns, if_neg (by rw [hf]; simp)]
      exact ih h
theorem burst_out (bs : List UInt8) (at_ : Int) (m k : Nat) (hb : m.testBit k = true) (h : at_ < 0 ∨ 8 * (bs.length : Int) - (k : Int) ≤ at_) : burstF bs at_ m = bs := by
  have h1 := bit_lt hb
  unfold burstF
  rw [if_pos]
  rcases h with h | h
  · exact Or.inl h
  · right; omega
theorem burst_done (bs : List UInt8) (at_ : Int) (m : Nat) (hm : m < 2 ^ 32) (h : ∀ k, m.testBit k = true → 0 ≤ at_ ∧ at_ < 8 * (bs.length : Int) - (k : Int)) : turns bs at_.toNat m 32 = burstF bs at_ m := by
  rw [turns_more _ _ _ _ (bitLen_le m 32 hm)]
  unfold burstF
  by_cases h0 : m = 0
  · subst h0
    rw [show Go.bitLen 0 = 0 from rfl]
    split <;> rfl
  · have h1 := h _ (top_bit h0)
    have h2 := bit_lt (top_bit h0)
    rw [if_neg (by omega)]

end Go.Proofs.Ytldfccllpnplmaa
