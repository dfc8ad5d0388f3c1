/- What Get, Gets, Text and Cut of package wire answer. -/
import Derived.Test.YtlfolpbgekchjaaWireC
import Derived.Laws.BitsAllLaws
namespace Go.Proofs.Ytlfolpbgekchjaa
open Go.RowKit
open Wire

theorem size8 (w : World) : (sizeOf 5).run Try.prog w = .ok 1 w := by
  obtain ⟨i0, hi, hz0, hz1, hz2⟩ := info_parts info8
  simp [sizeOf, typeInfo, hi, hz1]

/-- a head and the rest in memory -/
theorem Rd.head {w : World} {B : Nat} {A : Option Addr} {s : UInt8} {l : List UInt8} (h : Rd w B A ((s :: l).map B8)) : ∃ b o, A = some ⟨b, o, none⟩ ∧ b < B ∧ w.cell? ⟨b, o, none⟩ = some (.int .u8 (s.toNat : Int)) := by
  obtain ⟨b, o, e, hb, hc⟩ := h (by simp)
  exact ⟨b, o, e, hb, hc 0 (B8 s) (by simp)⟩

def RetNo (w : World) (e : Ending) (w' : World) : Prop := e = .returned (.tuple #[.int .u64 0, .slice none 0 0, .bool false]) ∧ ∃ k, w' = w.drewN k
def RetYes (w : World) (B v : Nat) (r : List UInt8) (e : Ending) (w' : World) : Prop :=
  ∃ A n c, e = .returned (.tuple #[.int .u64 v, .slice A n c, .bool true]) ∧ n = r.length ∧ n ≤ c ∧ Rd w B A (r.map B8) ∧ ∃ k, w' = w.drewN k

theorem take_no (A : Option Addr) (n c : Nat) (bs : List UInt8) (hn : n = bs.length) (hc : n ≤ c) (B : Nat) (w : World) (hr : Rd w B A (bs.map B8)) (h : takeF bs = none) :
    Calls Try.prog 22 #[.slice A n c] w (RetNo w) := by
  cases bs with
  | nil =>
    subst hn
    have HR := Lib.hid hr; clear hr
    have HH := Lib.hid h; clear h
    go_enter Try.func22, Try.ntmps22
    go_wp2
    go_ret3
    exact ⟨rfl, 0, rfl⟩
  | cons s l =>
    obtain ⟨b, o, rfl, hb, hc0⟩ := hr.head
    have HR := Lib.hid hr; clear hr
    have hn1 : 1 ≤ n := by rw [hn]; simp
    have HN := Lib.hid hn; clear hn
    have HH := Lib.hid h; clear h
    have hne : ((n : Int) == 0) = false := by rw [beq_eq_false_iff_ne]; omega
    by_cases h8 : 8 < s.toNat
    · go_enter Try.func22, Try.ntmps22
      go_wp2
      go_ret3
      exact ⟨rfl, 0, rfl⟩
    · obtain ⟨A1, hs1, hr1⟩ := run_from Try.underlying23 size8 (some ⟨b, o, none⟩) n c 1 1 .i64 rfl hn1 hc
      have HR1 : Hid (Rd w B A1 (l.map B8)) := hr1 w B _ (by have := HN.out; simpa using this.symm) HR.out
      clear hr1
      have h8' : (s.toNat : Int) ≤ 8 := by omega
      by_cases hlen : l.length < s.toNat
      · have hlt : n - 1 < s.toNat := by have := HN.out; simp at this; omega
        go_enter Try.func22, Try.ntmps22
        go_wp2
        go_ret3
        exact ⟨rfl, 0, rfl⟩
      · have hlt : ¬ n - 1 < s.toNat := by have := HN.out; simp at this; omega
        have h0 : 0 < s.toNat ∧ l.head? = some 0 := by
          have h := HH.out
          rw [takeF_cons] at h
          split at h
          · rename_i hq
            rcases hq with hq | hq | hq
            · omega
            · omega
            · exact hq
          · cases h
        cases l with
        | nil => simp at h0
        | cons x l' =>
          obtain ⟨h0, hx⟩ := h0
          simp only [List.head?_cons, Option.some.injEq] at hx
          subst hx
          obtain ⟨b1, o1, rfl, hb1, hc1⟩ := Rd.head HR1.out
          have hn2 : 0 < n - 1 := by omega
          have hc1' : w.cell? ⟨b1, o1, none⟩ = some (.int .u8 0) := hc1
          clear hc1
          go_enter Try.func22, Try.ntmps22
          go_wp2
          go_ret3
          exact ⟨rfl, 0, rfl⟩

theorem wrap_u64 (a : Int) (h0 : 0 ≤ a) (h : a < 18446744073709551616) : IntKind.u64.wrap a = a := by
  simp [IntKind.wrap, IntKind.signed, IntKind.bits]
  omega
theorem or_byte (a : Nat) (x : UInt8) (h : a < 256 ^ 7) : bits .or .u64 (IntKind.u64.wrap ((a : Int) * 256)) (IntKind.u64.wrap (x.toNat : Int)) = ((a * 256 + x.toNat : Nat) : Int) := by
  have hx := UInt8.toNat_lt x
  rw [wrap_u64 _ (by omega) (by omega), wrap_u64 _ (by omega) (by omega), show (a : Int) * 256 = ((a * 256 : Nat) : Int) by omega, u64_or_nat _ _ (by omega) (by omega)]
  have e := Nat.shiftLeft_add_eq_or_of_lt (show x.toNat < 2 ^ 8 by omega) a
  rw [Nat.shiftLeft_eq] at e
  rw [← e]

theorem take_yes (A : Option Addr) (n c : Nat) (bs : List UInt8) (hn : n = bs.length) (hc : n ≤ c) (B v : Nat) (r : List UInt8) (w : World) (hr : Rd w B A (bs.map B8)) (h : takeF bs = some (v, r)) :
    Calls Try.prog 22 #[.slice A n c] w (RetYes w B v r) := by
  cases bs with
  | nil => cases h
  | cons s l =>
    obtain ⟨b, o, rfl, hb, hc0⟩ := hr.head
    have HR := Lib.hid hr; clear hr
    have hn1 : 1 ≤ n := by rw [hn]; simp
    have HN := Lib.hid hn; clear hn
    rw [takeF_cons] at h
    split at h
    · cases h
    rename_i hcond
    simp only [Option.some.injEq, Prod.mk.injEq] at h
    obtain ⟨rfl, rfl⟩ := h
    have h8' : (s.toNat : Int) ≤ 8 := by omega
    have hlt : ¬ n - 1 < s.toNat := by have := HN.out; simp at this; omega
    have h0 : 0 < s.toNat → l.head? ≠ some 0 := by intro h1 h2; exact hcond (Or.inr (Or.inr ⟨h1, h2⟩))
    have H0 := Lib.hid h0; clear h0 hcond
    have hne : ((n : Int) == 0) = false := by rw [beq_eq_false_iff_ne]; omega
    obtain ⟨A1, hs1, hr1⟩ := run_from Try.underlying23 size8 (some ⟨b, o, none⟩) n c 1 1 .i64 rfl hn1 hc
    have HR1 : Hid (Rd w B A1 (l.map B8)) := hr1 w B _ (by have := HN.out; simpa using this.symm) HR.out
    clear hr1
    obtain ⟨A2, hs2, hr2⟩ := run_upto Try.underlying23 size8 A1 (n - 1) (c - 1) s.toNat (s.toNat : Int) .i64 rfl (by omega)
    have HR2 : Hid (Rd w B A2 (l.map B8)) := hr2 w B _ HR1.out
    clear hr2
    obtain ⟨A3, hs3, hr3⟩ := run_from Try.underlying23 size8 A1 (n - 1) (c - 1) s.toNat (s.toNat : Int) .i64 rfl (by omega) (by omega)
    have HR3 : Hid (Rd w B A3 ((l.drop s.toNat).map B8)) := by rw [List.map_drop]; exact hr3 w B _ (by have := HN.out; simp at this ⊢; omega) HR1.out
    clear hr3
    have hll : s.toNat ≤ l.length := by have := HN.out; simp at this; omega
    have hd8 : decide (8 < (s.toNat : Int)) = false := by simp; omega
    have key : ∀ (fr : s.toNat = 0 ∨ (0 < s.toNat ∧ ∃ b1 o1 x, A1 = some ⟨b1, o1, none⟩ ∧ w.cell? ⟨b1, o1, none⟩ = some (.int .u8 x) ∧ (x == 0) = false)),
        Calls Try.prog 22 #[.slice (some ⟨b, o, none⟩) n c] w (RetYes w B (val (l.take s.toNat)) (l.drop s.toNat)) := by
      rintro (hs0 | ⟨hs0, b1, o1, x, rfl, hc1, hx0⟩)
      · have hs0' : ¬ 0 < s.toNat := by omega
        have hs00 : s.toNat = 0 := hs0
        have HS := Lib.hid hs00
        clear hs0 hs00
        go_enter Try.func22, Try.ntmps22
        go_wp2
        refine wp_loop_rounds 1 ?_
        rw [rounds_succ]
        go_wp2
        go_quiet (fail)
        go_wp2
        go_ret3
        refine ⟨A3, n - 1 - s.toNat, c - 1 - s.toNat, ?_, ?_, by omega, HR3.out, ⟨_, rfl⟩⟩
        · rw [HS.out]; rfl
        · have := HN.out; simp at this ⊢; omega
      · have hn2 : 0 < n - 1 := by omega
        go_enter Try.func22, Try.ntmps22
        go_wp2
        go_loop [2, 39] (fun a i => ∃ k : Nat, k ≤ s.toNat ∧ i = .int .i64 k ∧ a = .int .u64 (val (l.take k))) (fun _ i => s.toNat - (intOf i).toNat)
        case atStart => exact ⟨0, Nat.zero_le _, rfl, rfl⟩
        case round =>
          obtain ⟨k, hk, rfl, rfl⟩ := hrel
          by_cases hlt2 : k < s.toNat
          · obtain ⟨b2, o2, rfl, hb2, hcell⟩ := HR2.out (by rw [List.length_map]; omega)
            have hkl : k < l.length := by omega
            have hx : l[k]? = some l[k] := List.getElem?_eq_getElem hkl
            have hcx := hcell k (B8 l[k]) (by simp [hkl])
            clear hcell
            generalize l[k] = y at hx hcx
            have hcy : w.cell? ⟨b2, o2 + k, none⟩ = some (.int .u8 (y.toNat : Int)) := hcx
            clear hcx
            have HX := Lib.hid hx; clear hx
            have hv7 : val (l.take k) < 256 ^ 7 := Nat.lt_of_lt_of_le (val_lt _) (Nat.pow_le_pow_right (by omega) (by rw [List.length_take]; omega))
            have HV7 := Lib.hid hv7; clear hv7
            generalize hv : val (l.take k) = v0 at HV7
            have HV := Lib.hid hv; clear hv
            go_wp2
            have hst : val (l.take (k + 1)) = v0 * 256 + y.toNat := by rw [List.take_add_one, HX.out, Option.toList_some, val_snoc, HV.out]
            exact ⟨⟨k + 1, by omega, by go_num, by rw [or_byte _ _ HV7.out, hst]⟩, by simp [intOf]; omega⟩
          · go_wp2
            go_quiet (fail)
            go_wp2
            go_ret3
            obtain rfl : k = s.toNat := by omega
            refine ⟨A3, n - 1 - s.toNat, c - 1 - s.toNat, rfl, ?_, by omega, HR3.out, ⟨_, rfl⟩⟩
            have := HN.out; simp at this ⊢; omega
    refine key ?_
    rcases Nat.eq_zero_or_pos s.toNat with hs0 | hs0
    · exact Or.inl hs0
    · cases l with
      | nil => have := HN.out; simp at this; omega
      | cons x l' =>
        obtain ⟨b1, o1, rfl, hb1, hc1⟩ := Rd.head HR1.out
        refine Or.inr ⟨hs0, b1, o1, _, rfl, hc1, ?_⟩
        rw [beq_eq_false_iff_ne]
        intro h
        exact H0.out hs0 (by simp; exact UInt8.toNat_inj.1 (by simpa using h))
end Go.Proofs.Ytlfolpbgekchjaa
