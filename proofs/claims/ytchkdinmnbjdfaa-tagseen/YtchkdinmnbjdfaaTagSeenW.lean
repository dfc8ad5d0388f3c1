/- The walk of TagSeen. -/
import Derived.Test.YtchkdinmnbjdfaaTgA
import Derived.Test.YtchkdinmnbjdfaaRowT
import Derived.Test.YtchkdinmnbjdfaaWf
namespace Go.Proofs.Ytchkdinmnbjdfaa.tagSeen
open Go.RowKit
open Tg Tgw

set_option maxRecDepth 100000 in
set_option maxHeartbeats 2000000 in
theorem walk (w : World) (node : Int) (wn : (Lit.int .i64 node).wf = true) (last : Int) (wl : (Lit.int .i64 last).wf = true)
    (A : Option Addr) (n cc : Nat) (ts : List (Int × Int)) (hn : n = ts.length) (hnc : n ≤ cc) (hr : Rt w w.heap.size A ts) (hw : ∀ t ∈ ts, I2 t) (_hl : cc * 16 ≤ 140737488351232) :
    Calls Try.prog 8 #[.int .i64 node, .int .i64 last, .slice A n cc] w fun e w' => e = .returned (.bool true) ∧ Below w.heap.size w w' := by
  have heq := eq_tag
  have h47 : n ≤ 140737488355328 := by omega
  have Hn : Hid (I64 node) := Lib.hid (wf_i64 wn)
  have Hl : Hid (I64 last) := Lib.hid (wf_i64 wl)
  clear _hl wn wl
  have HN := Lib.hid hn; clear hn
  have HR := Lib.hid hr; clear hr
  have HW := Lib.hid hw; clear hw
  go_enter Try.func8, Try.ntmps8
  go_wp2_with fail
  refine (alive_c _).mono ?_
  rintro e w2 ⟨rfl, hb⟩
  have HB := Lib.hid hb; clear hb
  by_cases h100 : 100 < n
  · go_wp2
    go_ret
    exact ⟨rfl, HB.out⟩
  go_wp2_with fail
  refine (next_c node last Hn.out Hl.out A n cc ts HN.out h47 hnc HW.out w.heap.size _ (HR.out.below HB.out) HB.out.size).mono ?_
  rintro e w3 ⟨rfl, hb⟩
  have HB := Lib.hid (HB.out.trans (hb.mono HB.out.size)); clear hb
  obtain ⟨o1, ho1⟩ : ∃ o, o = next node last ts := ⟨_, rfl⟩
  rw [← ho1]
  have HO1 := Lib.hid ho1.symm; clear ho1
  obtain ⟨p, q, hpq⟩ : ∃ p q, gt o1 = (p, q) := ⟨_, _, rfl⟩
  rw [hpq]
  have HP := Lib.hid hpq; clear hpq
  obtain ⟨ee, he⟩ : ∃ ee, ee = ge o1 := ⟨_, rfl⟩
  rw [← he]
  have HE := Lib.hid he; clear he
  unfold tv
  obtain ⟨A', hsl, hA'⟩ := run_uptoT A n cc (n / 2) ((n / 2 : Nat) : Int) .i64 rfl (by omega)
  rw [hA'] at hsl
  clear hA' A'
  go_wp2_with fail
  clear hsl
  have VT := Lib.hid (show Tx (w3.alloc (.cells #[.int .i64 p, .int .i64 q] 23)) w3.heap.size p q from hat _ _ _ rfl)
  have HB := Lib.hid (bal HB.out (Nat.le_refl _) (.cells #[.int .i64 p, .int .i64 q] 23))
  generalize w3.alloc (.cells #[.int .i64 p, .int .i64 q] 23) = w4 at VT HB ⊢
  generalize w3.heap.size = gt1 at VT ⊢
  refine (next_c node last Hn.out Hl.out A (n / 2) cc (ts.take (n / 2)) (by rw [List.length_take, ← HN.out]; omega) (by omega) (by omega) (fun t ht => HW.out t (List.mem_of_mem_take ht)) w.heap.size _ ((HR.out.below HB.out).take _) HB.out.size).mono ?_
  rintro e w5 ⟨rfl, hb⟩
  have VT := Lib.hid (VT.out.all hb)
  have HB := Lib.hid (HB.out.trans (hb.mono HB.out.size)); clear hb
  obtain ⟨o2, ho2⟩ : ∃ o, o = next node last (ts.take (n / 2)) := ⟨_, rfl⟩
  rw [← ho2]
  have HO2 := Lib.hid ho2.symm; clear ho2
  obtain ⟨r, s, hrs⟩ : ∃ r s, gt o2 = (r, s) := ⟨_, _, rfl⟩
  rw [hrs]
  have HQ := Lib.hid hrs; clear hrs
  obtain ⟨ff, hf⟩ : ∃ ff, ff = ge o2 := ⟨_, rfl⟩
  rw [← hf]
  have HF := Lib.hid hf; clear hf
  unfold tv
  have h43 : n ≤ 8796093022208 := by omega
  go_wp2
  have VT := Lib.hid (show Tx ((w5.alloc (.cells #[.int .i64 r, .int .i64 s] 23)).alloc (.cells #[] 23)) gt1 p q from hbe (hbe VT.out))
  have VU := Lib.hid (show Tx ((w5.alloc (.cells #[.int .i64 r, .int .i64 s] 23)).alloc (.cells #[] 23)) w5.heap.size r s from hbe (hat _ _ _ rfl))
  have HO := Lib.hid (show OwnT ((w5.alloc (.cells #[.int .i64 r, .int .i64 s] 23)).alloc (.cells #[] 23)) (w5.heap.size + 1) (some ⟨w5.heap.size + 1, 0, none⟩) 0 0 [] from ownT_new _ _ _ (by simp) (by simp))
  have HBX := Lib.hid (bal (bal HB.out (Nat.le_refl _) (.cells #[.int .i64 r, .int .i64 s] 23)) (Nat.le_refl _) (.cells #[] 23))
  have hs5 := Nat.le_trans HB.out.size (Nat.le_refl _)
  have hgt := VT.out.lt
  have hg5 : gt1 < w5.heap.size + 1 := by
    have h := VT.out
    rcases Nat.lt_or_ge gt1 (w5.heap.size + 1) with h' | h'
    · exact h'
    · exfalso
      have e : gt1 = w5.heap.size + 1 := by simp at hgt; omega
      subst e
      have := hat (w5.alloc (.cells #[.int .i64 r, .int .i64 s] 23)) (.cells #[] 23) (w5.heap.size + 1) (by simp)
      unfold Tx at h
      rw [this] at h
      cases h
  generalize (w5.alloc (.cells #[.int .i64 r, .int .i64 s] 23)).alloc (.cells #[] 23) = w6 at VT VU HO HBX hgt ⊢
  generalize w5.heap.size = gu at VU HO hs5 hg5 ⊢
  clear HB h100
  go_loopw [11, 12] (fun x i wr => ∃ (A3 : Option Addr) (c3 m k : Nat), x = .slice A3 k c3 ∧ i = .int .i64 ((m : Int) - 1) ∧ m + k = n ∧ OwnT wr (gu + 1) A3 k c3 (ts.reverse.take k) ∧ Tx wr gt1 p q ∧ Tx wr gu r s ∧ gu + 1 ≤ wr.heap.size ∧ Below w.heap.size w wr) (fun _ i _ => (intOf i + 1).toNat)
  case atStart => exact ⟨_, 0, n, 0, rfl, rfl, rfl, HO.out, VT.out, VU.out, VU.out.lt, HBX.out⟩
  case round =>
    obtain ⟨A3, c3, m, k, rfl, rfl, hmk, ho, hvt, hvu, hsr, hb⟩ := hrel
    clear VT VU HO HBX
    have HO := Lib.hid ho; have VT := Lib.hid hvt; have VU := Lib.hid hvu; have HB := Lib.hid hb
    clear ho hvt hvu hb
    cases m with
    | succ j =>
      rw [show ((j + 1 : Nat) : Int) - 1 = (j : Int) by omega]
      have hj : j < n := by omega
      obtain ⟨b, o, rfl, hbB, hcell⟩ := HR.out (by rw [← HN.out]; omega)
      have hkl : j < ts.length := by rw [← HN.out]; exact hj
      have hz : ts[j]? = some ts[j] := List.getElem?_eq_getElem hkl
      have hc0 := hcell j ts[j] hz
      have HT : Hid (ts.reverse.take (k + 1) = ts.reverse.take k ++ [ts[j]]) := Lib.hid (by
        rw [List.take_add_one, List.getElem?_reverse (by rw [← HN.out]; omega), show ts.length - 1 - k = j by rw [← HN.out]; omega, hz]
        rfl)
      generalize ts[j] = v at hz hc0 HT
      obtain ⟨va, vd⟩ := v
      have hca : wr.cell? ⟨b, o + j * 2, none⟩ = some (.int .i64 va) := (HB.out.cell (by show b < _; omega)).trans hc0.1
      have hcd : wr.cell? ⟨b, o + j * 2 + 1, none⟩ = some (.int .i64 vd) := (HB.out.cell (by show b < _; omega)).trans hc0.2
      clear hz hc0 hcell hkl
      go_wp2_with (at_builtin; refine wp_appT rfl (.tmp 46) (.tmp 51) rfl (gu + 1) A3 k c3 _ rfl (HO.out.alloc _) wr.heap.size 0 1 1 [(va, vd)] rfl rfl (one_cells wr [(va, vd)]) (by omega) (by simp; omega) ?_; intro A4 c4 w4 ho4 hb4)
      have hs4 := hb4.size
      rw [World.size_alloc] at hs4
      refine ⟨⟨A4, c4, j, k + 1, rfl, rfl, by omega, ?_, Tx.below (hbe VT.out) hb4 hg5, Tx.below (hbe VU.out) hb4 (by omega), by omega, (bal HB.out (Nat.le_refl _) _).trans (hb4.mono (by omega))⟩, by simp [intOf]⟩
      rw [HT.out]
      exact ho4
    | zero =>
      obtain rfl : k = n := by omega
      have HRV := Lib.hid (show Rt wr wr.heap.size A3 ts.reverse from by have := HO.out.rt; rwa [List.take_of_length_le (by rw [List.length_reverse, ← HN.out]; omega)] at this)
      have HC3 := Lib.hid HO.out.cap
      clear HO
      go_wp2_with fail
      refine (next_c node last Hn.out Hl.out A3 k c3 ts.reverse (by rw [List.length_reverse]; exact HN.out) h47 HC3.out (fun t ht => HW.out t (List.mem_reverse.1 ht)) wr.heap.size _ HRV.out (Nat.le_refl _)).mono ?_
      rw [next_rev, HO1.out]
      rintro e w7 ⟨rfl, hb⟩
      have VT := Lib.hid (VT.out.all hb); have VU := Lib.hid (VU.out.all hb)
      have HB := Lib.hid (HB.out.trans (hb.mono HB.out.size)); clear hb
      rw [HP.out, ← HE.out]
      unfold tv
      show _
      have t0 : ∀ o, (w7.alloc o).cell? ⟨gt1, 0, none⟩ = some (.int .i64 p) := fun o => (show Tx (w7.alloc o) gt1 p q from hbe VT.out).c0
      have t1 : ∀ o, (w7.alloc o).cell? ⟨gt1, 1, none⟩ = some (.int .i64 q) := fun o => (show Tx (w7.alloc o) gt1 p q from hbe VT.out).c1
      have u0 : ∀ o, (w7.alloc o).cell? ⟨gu, 0, none⟩ = some (.int .i64 r) := fun o => (show Tx (w7.alloc o) gu r s from hbe VU.out).c0
      have u1 : ∀ o, (w7.alloc o).cell? ⟨gu, 1, none⟩ = some (.int .i64 s) := fun o => (show Tx (w7.alloc o) gu r s from hbe VU.out).c1
      cases o1 with
      | none =>
        obtain rfl : ee = 61 := HE.out
        go_wp2
        go_ret
        exact ⟨rfl, bal HB.out (Nat.le_refl _) _⟩
      | some t =>
        obtain rfl : ee = 0 := HE.out
        obtain rfl : t = (p, q) := HP.out
        obtain ⟨uu, hu1, hu2⟩ := next_fewer node last (ts.take (k / 2)) ts (fun x hx => List.mem_of_mem_take hx) (p, q) HO1.out
        rw [HO2.out] at hu1
        subst hu1
        obtain rfl : ff = 0 := HF.out
        obtain rfl : uu = (r, s) := HQ.out
        have HL := Lib.hid hu2; clear hu2
        go_wp2_with fail
        clear t0 t1 u0 u1
        refine (less_c (p, q) (r, s) (next_i2 HO1.out) (next_i2 HO2.out) _).mono ?_
        rw [HL.out]
        rintro e w8 ⟨rfl, hb⟩
        have HB := Lib.hid ((bal HB.out (Nat.le_refl _) (.cells #[.int .i64 p, .int .i64 q] 23)).trans (hb.mono (bal HB.out (Nat.le_refl _) (.cells #[.int .i64 p, .int .i64 q] 23)).size)); clear hb
        go_wp2
        go_ret
        exact ⟨rfl, HB.out⟩
end Go.Proofs.Ytchkdinmnbjdfaa.tagSeen
