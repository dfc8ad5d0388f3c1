/- What the document's Enough, Alike, Top, Same of layer 5 and SameInts answer: contracts by walks. -/
import Derived.Test.YtofjdfnoibfdfaaVwR
import Derived.RegionTactic
namespace Go.Proofs.Ytofjdfnoibfdfaa
open Go.RowKit
open Chg Vw

theorem withL_take (who l : List Int) (k : Nat) (m : Int) (h : l[k]? = some m) : withL who (l.take (k + 1)) = withL who (l.take k) + if who.contains m then 1 else 0 := by
  unfold withL
  rw [List.take_add_one, h, List.filter_append, List.length_append]
  congr 1
  simp only [Option.toList_some, List.filter_cons, List.filter_nil]
  cases who.contains m <;> rfl
theorem withoutL_take (who l : List Int) (k : Nat) (m : Int) (h : l[k]? = some m) : withoutL who (l.take (k + 1)) = withoutL who (l.take k) + if who.contains m then 0 else 1 := by
  unfold withoutL
  rw [List.take_add_one, h, List.filter_append, List.length_append]
  congr 1
  simp only [Option.toList_some, List.filter_cons, List.filter_nil]
  cases who.contains m <;> rfl
theorem withL_le (who l : List Int) : withL who l ≤ l.length := List.length_filter_le _ _
theorem withoutL_le (who l : List Int) : withoutL who l ≤ l.length := List.length_filter_le _ _
theorem contains_take (who : List Int) (k : Nat) (z m : Int) (h : who[k]? = some z) : (who.take (k + 1)).contains m = ((who.take k).contains m || z == m) := by
  rw [List.take_add_one, h, List.contains_append]
  congr 1
  simp only [Option.toList_some, List.contains_cons, List.contains_nil, Bool.or_false]
  exact BEq.comm

set_option maxHeartbeats 1000000 in
theorem enough_r (a d : Nat) (ha : a < 64) (hd : d < 64) (A : Option Addr) (n c : Nat) (who : List Int) (hn : n = who.length) (hl : n ≤ 140737488355328) (B : Nat) (w : World) (hr : Rd w B A (who.map (Value.int .i64))) (hB : B ≤ w.heap.size) :
    Calls Try.prog 19 #[vw a d, .slice A n c] w fun e w' => e = .returned (.bool (enough a d who)) ∧ Below w.heap.size w w' := by
  have HN := Lib.hid hn; clear hn
  have HR := Lib.hid hr; clear hr
  unfold vw
  go_enter Try.func19, Try.ntmps19
  go_wp2_with fail
  refine (members_r a d ha hd _).mono ?_
  rintro e w2 ⟨A2, n2, c2, rfl, ho2, hb2⟩
  have HB := Lib.hid ((bal (Below.refl w.heap.size w) (Nat.le_refl _) _).trans (hb2.mono (by simp))); clear hb2
  have HE : Hid (enough a d who = decide (withoutL who (members a d) < withL who (members a d))) := Lib.hid rfl
  have hm6 : n2 ≤ 6 := by rw [ho2.1]; exact memK_len a d 6
  have HRM := Lib.hid ho2.rd
  have HNM := Lib.hid ho2.1
  clear ho2
  generalize members a d = ms at HE HRM HNM
  have HRW := Lib.hid (HR.out.below (HB.out.mono hB))
  go_wp2
  go_loop [5, 6, 15] (fun x y i => ∃ k : Nat, x = .int .i64 ((withL who (ms.take k) : Nat) : Int) ∧ y = .int .i64 ((withoutL who (ms.take k) : Nat) : Int) ∧ i = .int .i64 k ∧ k ≤ n2) (fun _ _ i => n2 - (intOf i).toNat)
  case atStart => exact ⟨0, rfl, rfl, rfl, by omega⟩
  case round =>
    obtain ⟨k, rfl, rfl, rfl, hk⟩ := hrel
    have hx6 := Nat.le_trans (withL_le who (ms.take k)) (List.length_take_le k ms)
    have hy6 := Nat.le_trans (withoutL_le who (ms.take k)) (List.length_take_le k ms)
    obtain ⟨x, hx⟩ : ∃ x, x = withL who (ms.take k) := ⟨_, rfl⟩
    obtain ⟨y, hy⟩ : ∃ y, y = withoutL who (ms.take k) := ⟨_, rfl⟩
    rw [← hx] at hx6 ⊢
    rw [← hy] at hy6 ⊢
    have HX := Lib.hid hx; have HY := Lib.hid hy
    clear hx hy
    by_cases h : k < n2
    · obtain ⟨b, o, rfl, _, hcell⟩ := HRM.out (by rw [List.length_map, ← HNM.out]; omega)
      have hkl : k < ms.length := by rw [← HNM.out]; exact h
      have hz : ms[k]? = some ms[k] := List.getElem?_eq_getElem hkl
      have hc0 := hcell k (.int .i64 ms[k]) (by simp [hkl])
      generalize ms[k] = m at hz hc0
      have HXK := Lib.hid (withL_take who ms k m hz)
      have HYK := Lib.hid (withoutL_take who ms k m hz)
      clear hz hcell hkl
      go_wp2
      go_loop [9, 21] (fun q i => ∃ j : Nat, q = .bool ((who.take j).contains m) ∧ i = .int .i64 j ∧ j ≤ n) (fun _ i => n - (intOf i).toNat)
      case atStart => exact ⟨0, rfl, rfl, by omega⟩
      case round =>
        obtain ⟨j, rfl, rfl, hj⟩ := hrel
        by_cases h2 : j < n
        · obtain ⟨b2, o2, rfl, _, hcell2⟩ := HRW.out (by rw [List.length_map, ← HN.out]; omega)
          have hjl : j < who.length := by rw [← HN.out]; exact h2
          have hz2 : who[j]? = some who[j] := List.getElem?_eq_getElem hjl
          have hc1 := hcell2 j (.int .i64 who[j]) (by simp [hjl])
          generalize who[j] = z at hz2 hc1
          have HC := Lib.hid (contains_take who j z m hz2)
          clear hz2 hcell2 hjl
          cases hq : (who.take j).contains m
          all_goals
            rw [hq] at HC
            clear hq
            go_wp2
            refine ⟨⟨j + 1, ?_, by go_num, by omega⟩, by simp [intOf]; omega⟩
            rw [HC.out]
            simp
        · obtain rfl : j = n := by omega
          have e1 : (who.take j).contains m = who.contains m := by rw [List.take_of_length_le (by rw [← HN.out]; omega)]
          rw [e1]
          cases hq : who.contains m
          all_goals
            rw [hq] at HXK HYK
            clear hq e1
            go_wp2
            refine ⟨⟨k + 1, ?_, ?_, by go_num, by omega⟩, by simp [intOf]; omega⟩
            · rw [HXK.out, ← HX.out]; rfl
            · rw [HYK.out, ← HY.out]; rfl
    · go_wp2
      go_ret
      obtain rfl : k = n2 := by omega
      have h1 := HX.out
      have h2 := HY.out
      rw [List.take_of_length_le (by rw [← HNM.out]; omega)] at h1 h2
      refine ⟨ret_bool ?_, HB.out⟩
      rw [HE.out, ← h1, ← h2]

def okTwo (a b : Nat × Nat) : Bool := within2 a b || within2 b a
theorem alike_bad (l : List (Nat × Nat)) (k j : Nat) (a b : Nat × Nat) (ha : l[k]? = some a) (hb : l[j]? = some b) (h : okTwo a b = false) : alike l = false := by
  unfold alike
  rw [List.all_eq_false]
  refine ⟨a, List.mem_of_getElem? ha, ?_⟩
  rw [Bool.not_eq_true, List.all_eq_false]
  exact ⟨b, List.mem_of_getElem? hb, by unfold okTwo at h; rw [h]; simp⟩
theorem all_take_more {α : Type} (l : List α) (p : α → Bool) (k : Nat) (x : α) (h : l[k]? = some x) (hx : p x = true) (ha : (l.take k).all p = true) : (l.take (k + 1)).all p = true := by
  rw [List.take_add_one, h, List.all_append, ha]
  simp [hx]

set_option maxHeartbeats 1000000 in
theorem alike_r (A : Option Addr) (n c : Nat) (vs : List (Nat × Nat)) (hn : n = vs.length) (hl : n ≤ 140737488355328) (h64 : ∀ v ∈ vs, v.1 < 64 ∧ v.2 < 64) (B : Nat) (w : World) (hr : Rv w B A vs) (hB : B ≤ w.heap.size) :
    Calls Try.prog 22 #[.slice A n c] w fun e w' => e = .returned (.bool (alike vs)) ∧ Below w.heap.size w w' := by
  have HN := Lib.hid hn; clear hn
  have HR := Lib.hid hr; clear hr
  have H64 := Lib.hid h64; clear h64
  go_enter Try.func22, Try.ntmps22
  go_wp2
  go_loopw [9] (fun i wr => ∃ k : Nat, i = .int .i64 k ∧ k ≤ n ∧ (vs.take k).all (fun a => vs.all (okTwo a)) = true ∧ Below w.heap.size w wr) (fun i _ => n - (intOf i).toNat)
  case atStart => exact ⟨0, rfl, by omega, rfl, Below.refl _ _⟩
  case round =>
    obtain ⟨k, rfl, hk, hall, hb⟩ := hrel
    have HA := Lib.hid hall; have HB := Lib.hid hb
    have hsz := hb.size
    clear hall hb
    by_cases h : k < n
    · obtain ⟨b, o, rfl, hbB, hcell⟩ := HR.out (by rw [← HN.out]; omega)
      have hkl : k < vs.length := by rw [← HN.out]; exact h
      have hz : vs[k]? = some vs[k] := List.getElem?_eq_getElem hkl
      have hc0 := hcell k vs[k] hz
      have hv64 := H64.out vs[k] (List.getElem_mem hkl)
      generalize vs[k] = v at hz hc0 hv64
      obtain ⟨va, vd⟩ := v
      have hca : wr.cell? ⟨b, o + k * 2, none⟩ = some (.int .i64 (va : Int)) := (HB.out.cell (by show b < _; omega)).trans hc0.1
      have hcd : wr.cell? ⟨b, o + k * 2 + 1, none⟩ = some (.int .i64 (vd : Int)) := (HB.out.cell (by show b < _; omega)).trans hc0.2
      have hva : va < 64 := hv64.1
      have hvd : vd < 64 := hv64.2
      have HZ := Lib.hid hz
      have HCELL := Lib.hid hcell
      clear hz hc0 hcell hkl hv64
      go_wp2
      obtain ⟨gv, hgv⟩ : ∃ gv, gv = wr.heap.size := ⟨_, rfl⟩
      have K1 := Lib.hid (show Vx (wr.alloc (.cells #[.int .i64 (va : Int), .int .i64 (vd : Int)] 25)) gv va vd from hat _ _ _ hgv)
      have KB := Lib.hid (bal HB.out (Nat.le_refl _) (.cells #[.int .i64 (va : Int), .int .i64 (vd : Int)] 25))
      rw [← hgv] at hsz ⊢
      clear hgv HB hca hcd
      go_loopw [15] (fun i wq => ∃ j : Nat, i = .int .i64 j ∧ j ≤ n ∧ (vs.take j).all (okTwo (va, vd)) = true ∧ Vx wq gv va vd ∧ Below w.heap.size w wq) (fun i _ => n - (intOf i).toNat)
      case atStart => exact ⟨0, rfl, by omega, rfl, K1.out, KB.out⟩
      case round =>
        clear K1 KB
        obtain ⟨j, rfl, hj, hall, hv, hb⟩ := hrel
        have HA2 := Lib.hid hall; have HV := Lib.hid hv; have HB := Lib.hid hb
        have hlt := hv.lt
        clear hall hv hb
        by_cases h2 : j < n
        · have hjl : j < vs.length := by rw [← HN.out]; exact h2
          have hz : vs[j]? = some vs[j] := List.getElem?_eq_getElem hjl
          have hc0 := HCELL.out j vs[j] hz
          have hv64 := H64.out vs[j] (List.getElem_mem hjl)
          generalize vs[j] = v at hz hc0 hv64
          obtain ⟨ua, ud⟩ := v
          have hca : wr.cell? ⟨b, o + j * 2, none⟩ = some (.int .i64 (ua : Int)) := (HB.out.cell (by show b < _; omega)).trans hc0.1
          have hcd : wr.cell? ⟨b, o + j * 2 + 1, none⟩ = some (.int .i64 (ud : Int)) := (HB.out.cell (by show b < _; omega)).trans hc0.2
          have hua : ua < 64 := hv64.1
          have hud : ud < 64 := hv64.2
          have HZ2 := Lib.hid hz
          have c0 := HV.out.c0; have c1 := HV.out.c1
          clear hz hc0 hjl hv64
          go_wp2_with fail
          have V1 := Lib.hid (show Vx (wr.alloc (.cells #[.int .i64 (ua : Int), .int .i64 (ud : Int)] 25)) gv va vd from hbe HV.out)
          have V2 := Lib.hid (show Vx (wr.alloc (.cells #[.int .i64 (ua : Int), .int .i64 (ud : Int)] 25)) wr.heap.size ua ud from hat _ _ _ rfl)
          have HB3 := Lib.hid (bal HB.out (Nat.le_refl _) (.cells #[.int .i64 (ua : Int), .int .i64 (ud : Int)] 25))
          generalize wr.alloc (.cells #[.int .i64 (ua : Int), .int .i64 (ud : Int)] 25) = w3 at V1 V2 HB3 ⊢
          generalize wr.heap.size = gu at V2 ⊢
          clear c0 c1 hca hcd
          refine (within_r va vd hva hvd ua ud hua hud _).mono ?_
          rintro e w4 ⟨rfl, hb4⟩
          have V1 := Lib.hid (V1.out.below hb4 V1.out.lt)
          have V2 := Lib.hid (V2.out.below hb4 V2.out.lt)
          have HB4 := Lib.hid (HB3.out.trans (hb4.mono HB3.out.size)); clear hb4
          have HOK : Hid (okTwo (va, vd) (ua, ud) = (withinV va vd ua ud || withinV ua ud va vd)) := Lib.hid rfl
          cases hx : withinV va vd ua ud with
          | true =>
            rw [hx] at HOK
            clear hx
            go_wp2
            exact ⟨⟨j + 1, by go_num, by omega, all_take_more vs _ j _ HZ2.out (by rw [HOK.out]; rfl) HA2.out, V1.out, HB4.out⟩, by simp [intOf]; omega⟩
          | false =>
            rw [hx] at HOK
            clear hx
            have c0 := V1.out.c0; have c1 := V1.out.c1; have d0 := V2.out.c0; have d1 := V2.out.c1
            go_wp2_with fail
            refine (within_r ua ud hua hud va vd hva hvd _).mono ?_
            rintro e w5 ⟨rfl, hb5⟩
            have V1 := Lib.hid (V1.out.below hb5 V1.out.lt)
            have HB5 := Lib.hid (HB4.out.trans (hb5.mono HB4.out.size)); clear hb5 c0 c1 d0 d1
            cases hy : withinV ua ud va vd with
            | true =>
              rw [hy] at HOK
              clear hy
              go_wp2
              exact ⟨⟨j + 1, by go_num, by omega, all_take_more vs _ j _ HZ2.out (by rw [HOK.out]; rfl) HA2.out, V1.out, HB5.out⟩, by simp [intOf]; omega⟩
            | false =>
              rw [hy] at HOK
              clear hy
              go_wp2
              go_ret
              exact ⟨ret_bool (alike_bad vs k j _ _ HZ.out HZ2.out HOK.out).symm, HB5.out⟩
        · obtain rfl : j = n := by omega
          go_wp2
          refine ⟨⟨k + 1, by go_num, by omega, all_take_more vs _ k _ HZ.out ?_ HA.out, HB.out⟩, by simp [intOf]; omega⟩
          have := HA2.out
          rwa [List.take_of_length_le (by rw [← HN.out]; omega)] at this
    · go_wp2
      go_ret
      obtain rfl : k = n := by omega
      have := HA.out
      rw [List.take_of_length_le (by rw [← HN.out]; omega)] at this
      exact ⟨ret_bool this.symm, HB.out⟩
end Go.Proofs.Ytofjdfnoibfdfaa
