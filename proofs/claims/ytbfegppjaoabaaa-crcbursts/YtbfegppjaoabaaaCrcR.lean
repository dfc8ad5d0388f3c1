/- What the document's functions of layer 3 answer: contracts by walks. -/
import Derived.Test.YtbfegppjaoabaaaCrcA
namespace Go.Proofs.Ytbfegppjaoabaaa
open Go.RowKit
open Crc

theorem low_bool (c : BitVec 32) (m k : Nat) (hm : m < 2 ^ 32) : (Go.bits .xor .u32 (Go.bits .and .u32 (c.toNat : Int) 1) (Go.bits .and .u32 ((m : Int) / 2 ^ k % 4294967296) 1) == 1) = (c.getLsbD 0 ^^ m.testBit k) := by
  have e : (m : Int) / 2 ^ k % 4294967296 = (m : Int) / 2 ^ k := by
    have e1 : (m : Int) / 2 ^ k = ((m / 2 ^ k : Nat) : Int) := by simp
    have := Nat.div_le_self m (2 ^ k)
    rw [e1]
    clear e1
    generalize m / 2 ^ k = q at this ⊢
    omega
  rw [e, low_v, bit_v m k hm]
  cases c.getLsbD 0 <;> cases m.testBit k <;> decide
theorem step_one (c : BitVec 32) (b : Bool) (h : (c.getLsbD 0 ^^ b) = true) : Go.bits .xor .u32 ((c.toNat : Int) / 2) 3988292384 = ((Crc.step c b).toNat : Int) := by
  have hd : (c.toNat : Int) / (2 : Int) = ((c >>> 1).toNat : Int) := by
    rw [BitVec.toNat_ushiftRight, Nat.shiftRight_eq_div_pow]
    omega
  have := xor_v (c >>> 1) poly
  unfold Crc.step
  rw [h, if_pos rfl, hd, ← this]
  rfl
theorem step_none (c : BitVec 32) (b : Bool) (h : (c.getLsbD 0 ^^ b) = false) : (c.toNat : Int) / 2 = ((Crc.step c b).toNat : Int) := by
  have hd : (c.toNat : Int) / (2 : Int) = ((c >>> 1).toNat : Int) := by
    rw [BitVec.toNat_ushiftRight, Nat.shiftRight_eq_div_pow]
    omega
  unfold Crc.step
  rw [h, if_neg (by simp), hd]
theorem run_take (l : List Bool) (k : Nat) (b : Bool) (c : BitVec 32) (h : l[k]? = some b) : run c (l.take (k + 1)) = Crc.step (run c (l.take k)) b := by
  rw [List.take_add_one, h, run_append]
  rfl

theorem of_r (A : Option Addr) (n c : Nat) (bs : List UInt8) (hn : n = bs.length) (hl : n ≤ big) (B : Nat) (w : World) (hr : Rd w B A (bs.map B8)) :
    Calls Try.prog 15 #[.slice A n c] w fun e w' => e = .returned (.int .u32 ((sum bs).toNat : Int)) ∧ w = w' := by
  have HN := Lib.hid hn; clear hn
  have HR := Lib.hid hr; clear hr
  have h47 : n ≤ 140737488355328 := hl
  go_enter Try.func15, Try.ntmps15
  go_wp2
  go_loop [3, 4] (fun s i => ∃ (k : Nat) (d : BitVec 32), s = .int .u32 (d.toNat : Int) ∧ i = .int .i64 k ∧ k ≤ 8 * n ∧ d = run (BitVec.allOnes 32) ((bitsL bs).take k)) (fun _ i => 8 * n - (intOf i).toNat)
  case atStart => exact ⟨0, BitVec.allOnes 32, rfl, rfl, by omega, rfl⟩
  case round =>
    obtain ⟨k, d, rfl, rfl, hk, hd⟩ := hrel
    have HD := Lib.hid hd
    clear hd
    have hd32 := d.isLt
    by_cases h : k < 8 * n
    · obtain ⟨b, o, rfl, hbB, hcell⟩ := HR.out (by rw [List.length_map, ← HN.out]; omega)
      have hkl : k / 8 < bs.length := by rw [← HN.out]; omega
      have hx : bs[k / 8]? = some bs[k / 8] := List.getElem?_eq_getElem hkl
      have hc0 := hcell (k / 8) (B8 bs[k / 8]) (by simp [hkl])
      have hbit := bits_at bs k
      generalize bs[k / 8] = x at hx hc0
      rw [hx] at hbit
      have HBIT := Lib.hid hbit
      have hx8 := UInt8.toNat_lt x
      have hcx : w.cell? ⟨b, o + k / 8, none⟩ = some (.int .u8 (x.toNat : Int)) := hc0
      have hlow := low_bool d x.toNat (k % 8) (by omega)
      clear hx hc0 hcell hkl hbit
      cases hv : (d.getLsbD 0 ^^ x.toNat.testBit (k % 8)) with
      | true =>
        rw [hv] at hlow
        have HV := Lib.hid hv
        clear hv
        go_wp2
        exact ⟨⟨k + 1, _, by rw [step_one d _ HV.out], by go_num, by omega, by rw [run_take _ _ _ _ HBIT.out, ← HD.out]⟩, by simp [intOf]; omega⟩
      | false =>
        rw [hv] at hlow
        have HV := Lib.hid hv
        clear hv
        go_wp2
        exact ⟨⟨k + 1, _, by rw [step_none d _ HV.out], by go_num, by omega, by rw [run_take _ _ _ _ HBIT.out, ← HD.out]⟩, by simp [intOf]; omega⟩
    · go_wp2
      go_ret
      obtain rfl : k = 8 * n := by omega
      have e := HD.out
      rw [List.take_of_length_le (by rw [bitsL_len, ← HN.out]; omega)] at e
      refine ⟨ret_int ?_, rfl⟩
      unfold sum
      rw [← e, BitVec.toNat_not]
      omega

theorem rd_four (w : World) (s : Nat) (hs : s < 2 ^ 32) : Rd (w.alloc (.cells #[.int .u8 ((s : Int) % 256), .int .u8 ((s : Int) / 256 % 256), .int .u8 ((s : Int) / 65536 % 256), .int .u8 ((s : Int) / 16777216)] 5)) (w.heap.size + 1) (some ⟨w.heap.size, 0, none⟩) ((le4 s).map B8) := by
  rw [byte0_le, show (s : Int) / 256 % 256 = _ from byte_le s 256, show (s : Int) / 65536 % 256 = _ from byte_le s 65536, byte3_le s hs]
  exact rd_new w _

theorem seal_r (A : Option Addr) (n c : Nat) (bs : List UInt8) (hn : n = bs.length) (B : Nat) (w : World) (hr : Rd w B A (bs.map B8)) (hB : B ≤ w.heap.size) (hl : n + 4 ≤ big) :
    Calls Try.prog 17 #[.slice A n c] w (RetOwn w w.heap.size (seal_ bs)) := by
  have HN := Lib.hid hn; clear hn
  have HR := Lib.hid hr; clear hr
  go_enter Try.func17, Try.ntmps17
  go_wp2_with fail
  refine (of_r A n c bs HN.out (by omega) B _ HR.out).mono ?_
  rintro e w' ⟨rfl, rfl⟩
  have hlt := (sum bs).isLt
  obtain ⟨s, hs⟩ : ∃ s, s = (sum bs).toNat := ⟨_, rfl⟩
  rw [← hs] at hlt ⊢
  have HS := Lib.hid hs; clear hs
  go_wp2_with (first
    | (at_builtin; refine wp_copy8 rfl (.tmp 7) (.tmp 8) rfl w rfl B A n c bs rfl HN.out HR.out hB (by omega) ?_; intro A1 c1 w1 ho1 hb1; have HO1 := Lib.hid ho1; clear ho1; have HB1 := Lib.hid hb1; clear hb1)
    | (at_builtin; refine wp_app8 rfl (.tmp 10) (.tmp 25) rfl w.heap.size A1 n c1 bs rfl (HO1.out.alloc _) _ _ 4 4 (le4 s) rfl rfl (rd_four w1 s hlt) hl (by simp; exact Nat.le_succ_of_le HB1.out.size) ?_; intro A2 c2 w2 ho2 hb2; have HO2 := Lib.hid ho2; clear ho2; have HB2 := Lib.hid hb2; clear hb2))
  go_ret
  refine ⟨A2, _, c2, rfl, ?_, (HB1.out.alloc HB1.out.size _).trans HB2.out⟩
  have o := HO2.out
  rw [HS.out] at o
  exact o

theorem open_r (A : Option Addr) (n c : Nat) (bs : List UInt8) (hn : n = bs.length) (hc : n ≤ c) (B : Nat) (w : World) (hr : Rd w B A (bs.map B8)) (hB : B ≤ w.heap.size) (hl : n ≤ big) :
    Calls Try.prog 13 #[.slice A n c] w (RetOpen w (openF bs)) := by
  have h47 : n ≤ 140737488355328 := hl
  by_cases h4 : n < 4
  · have ho : openF bs = none := by unfold openF; rw [if_pos (by omega)]
    rw [ho]
    clear hr hn ho
    go_enter Try.func13, Try.ntmps13
    go_wp2
    go_ret2
    exact ⟨none, 0, 0, rfl, rfl, Nat.le_refl _, Rd.nil, Below.refl _ _⟩
  · obtain ⟨m, rfl⟩ : ∃ m, n = m + 4 := ⟨n - 4, by omega⟩
    clear h4
    obtain ⟨A2, hsl2, hr2⟩ := run_upto Try.underlying22 size8 A (m + 4) c m (m : Int) .i64 rfl (by omega)
    have HR2 := Lib.hid ((hr2 w B _ hr).take m)
    rw [← List.map_take] at HR2
    have HR := Lib.hid hr
    have HM : Hid (m = (bs.take m).length) := Lib.hid (by simp; omega)
    have HN := Lib.hid hn; clear hn
    clear hr hr2
    have hsz : (((m + 4 : Nat) : Int) - 4) = (m : Int) := by omega
    go_enter Try.func13, Try.ntmps13
    go_wp2_with (at_builtin; refine wp_copy8 rfl (.tmp 8) (.tmp 13) rfl w rfl B A2 m c (bs.take m) rfl HM.out HR2.out hB (by omega) ?_; intro A3 c3 w3 ho3 hb3)
    have HO3 := Lib.hid ho3; clear ho3
    have hs3 := hb3.size
    have HB3 := Lib.hid hb3; clear hb3
    obtain ⟨S1, hS1⟩ : ∃ S1, S1 = str (seal_ (bs.take m)) := ⟨_, rfl⟩
    obtain ⟨S2, hS2⟩ : ∃ S2, S2 = str bs := ⟨_, rfl⟩
    have HK : Hid (∀ W', Below w3.heap.size w3 W' → (convert 22 9 (.slice A (m + 4) c)).run Try.prog W' = .ok (.string S2) W') := Lib.hid (by
      intro W' h
      rw [hS2]
      exact str8' c ((HR.out.below (HB3.out.mono hB)).below (h.mono (by omega))) HN.out)
    have hss : (S1.toList == S2.toList) = decide (seal_ (bs.take m) = bs) := by
      rw [hS1, hS2, str_toList, str_toList]
      by_cases h : seal_ (bs.take m) = bs <;> simp [h]
    obtain ⟨v, hv⟩ : ∃ v, v = decide (seal_ (bs.take m) = bs) := ⟨_, rfl⟩
    rw [← hv] at hss
    have HV := Lib.hid hv; clear hv
    have HS1 := Lib.hid hS1
    clear hS1 hS2
    refine wp_region_held_drew (S := fun W' => Below w3.heap.size w3 W') (by kernel_rfl) (Below.refl _ _).drew (fun hHeld => ?_)
    generalize w3.drew = w4 at hHeld ⊢
    have HBD : Hid (Below w3.heap.size w3 w4) := hHeld
    have hs4 := hHeld.size
    clear hHeld
    refine take_in (i := 0) (oi := ⟨_, _, _, _, _, _⟩) (v := ?_) rfl (by kernel_rfl) (by kernel_rfl) (by kernel_rfl) (fun _ _ _ h => h) (by rfl) ?_ HBD.out ?_
    rotate_left
    · intro W hW; go_simp; with_reducible rfl
    simp only [Act.put, List.setIfInBounds_toArray, List.set_cons_zero, List.set_cons_succ]
    refine take_in (i := 3) (oi := ⟨_, _, _, _, _, _⟩) (v := ?_) rfl (by kernel_rfl) (by kernel_rfl) (by kernel_rfl) (fun _ _ _ h => h) (by rfl) ?_ HBD.out ?_
    rotate_left
    · intro W hW; go_simp; with_reducible rfl
    simp only [Act.put, List.setIfInBounds_toArray, List.set_cons_zero, List.set_cons_succ]
    refine take_in (i := 4) (oi := ⟨_, _, _, _, _, _⟩) (v := ?_) rfl (by kernel_rfl) (by kernel_rfl) (by kernel_rfl) (fun _ _ _ h => h) (by rfl) ?_ HBD.out ?_
    rotate_left
    · intro W hW; have hq := HK.out W hW; go_simp; with_reducible rfl
    simp only [Act.put, List.setIfInBounds_toArray, List.set_cons_zero, List.set_cons_succ]
    refine wpAnyH_ready (rs := [1]) (by kernel_rfl) (by simp) ?_
    refine AllReadyH.cons (o := ⟨_, _, _, _, _, _⟩) rfl (fun K hK => ?_) AllReadyH.nil
    go_simp
    refine (seal_r A3 m c3 _ HM.out w3.heap.size _ (HO3.out.rd.below HBD.out) hs4 hl).mono ?_
    rintro e w5 ⟨A5, n5, c5, rfl, ho5, hb5⟩
    have HB5 := Lib.hid (HBD.out.trans (hb5.mono hs4)); clear hb5
    refine hK.out _ _ HB5.out (fun _ => ?_)
    clear hK K
    refine switch HB5.out _ _ _ _ rfl ?_
    have hcv : (convert 22 9 (.slice A5 n5 c5)).run Try.prog w5 = .ok (.string S1) w5 := by rw [HS1.out]; exact str8' c5 ho5.rd ho5.1
    clear ho5
    refine take_in (i := 2) (oi := ⟨_, _, _, _, _, _⟩) (v := ?_) rfl (by kernel_rfl) (by kernel_rfl) (by kernel_rfl) (fun _ _ _ h => h) (by rfl) ?_ rfl ?_
    rotate_left
    · intro W hW; subst hW; go_simp; with_reducible rfl
    simp only [Act.put, List.setIfInBounds_toArray, List.set_cons_zero, List.set_cons_succ]
    refine take_in (i := 5) (oi := ⟨_, _, _, _, _, _⟩) (v := ?_) rfl (by kernel_rfl) (by kernel_rfl) (by kernel_rfl) (fun _ _ _ h => h) (by rfl) ?_ rfl ?_
    rotate_left
    · intro W hW; subst hW; go_simp; with_reducible rfl
    simp only [Act.put, List.setIfInBounds_toArray, List.set_cons_zero, List.set_cons_succ]
    refine wpAnyH_done (by kernel_rfl) ?_ _
    by_cases he : seal_ (bs.take m) = bs
    · have HOP : Hid (openF bs = some (bs.take m)) := Lib.hid (by
        unfold openF
        rw [← HN.out, if_neg (by omega), show m + 4 - 4 = m by omega, if_pos he])
      have hv := HV.out
      rw [decide_eq_true he] at hv
      subst hv
      clear he
      go_wp2
      go_ret2
      rw [HOP.out]
      exact ⟨A3, m, c3, rfl, HM.out, HO3.out.cap, (HO3.out.rd.below HB5.out).more HB5.out.size, HB3.out.trans (HB5.out.mono hs3)⟩
    · have HOP : Hid (openF bs = none) := Lib.hid (by
        unfold openF
        rw [← HN.out, if_neg (by omega), show m + 4 - 4 = m by omega, if_neg he])
      have hv := HV.out
      rw [decide_eq_false he] at hv
      subst hv
      clear he
      go_wp2
      go_ret2
      rw [HOP.out]
      exact ⟨none, 0, 0, rfl, rfl, Nat.le_refl _, Rd.nil, HB3.out.trans (HB5.out.mono hs3)⟩
end Go.Proofs.Ytbfegppjaoabaaa
