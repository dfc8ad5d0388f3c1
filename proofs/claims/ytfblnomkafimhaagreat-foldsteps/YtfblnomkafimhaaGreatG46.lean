/- Contracts and words on which the claims of this seat stand, part 46: FoSv FoSc. -/
import Derived.Test.YtfblnomkafimhaaGreatG34
import Derived.Test.YtfblnomkafimhaaGreatG35
import Derived.Test.YtfblnomkafimhaaGreatG37
import Derived.Test.YtfblnomkafimhaaGreatG39
import Derived.Lib.AppendZerosOnto
import Derived.Laws.NewBlocks
set_option linter.unusedSimpArgs false
set_option linter.unusedVariables false
namespace Go.Proofs.YtfblnomkafimhaaGreat.Fow
set_option maxRecDepth 20000
open Go.RowKit
open Chg Vw Cl Bk Lg Fo Clw Bkw
open Chgw (hat hbe vw ret_bool ret_i64 Vx)
open Rg (bal)

theorem take_snocF {α : Type} {l : List α} {k : Nat} {x : α} (h : l[k]? = some x) : l.take (k + 1) = l.take k ++ [x] := by rw [List.take_add_one, h]; rfl
theorem one_vF (w : World) (u : Nat × Nat) (g : Nat) (hg : g = w.heap.size) : Rg.Rs KV (w.alloc (.cells #[.int .i64 (u.1 : Int), .int .i64 (u.2 : Int)] 26)) (g + 1) (some ⟨g, 0, none⟩) [u] := by
  subst hg
  exact Rg.rs_new KV w [u]
set_option maxHeartbeats 2000000 in
theorem views_B (s : Sl) (xs : List XB) (hn : s.n = xs.length) (hl : s.n ≤ 4096) (w : World) (hr : Rg.Rs KB w w.heap.size s.a xs) :
    Calls Tryz.prog 58 #[shvB s] w (Rg.RetOwnG KV w w.heap.size (xs.map (·.1))) := by
  obtain ⟨sa, sn, sc⟩ := s
  simp only at hn hl hr
  have HN := Lib.hid hn; have HR := Lib.hid hr
  clear hn hr
  have HVO := Lib.hid (fun x W => viewof_B x W)
  unfold shvB vofB
  simp only
  have hsf := store_fnB
  go_enter Tryz.func58, Tryz.ntmps58
  go_upto_region 1 with (fail)
  have HX := Lib.hid (show (w.alloc (.cells #[.slice sa sn sc, .func (.func 82) #[] #[]] 85)).heap[w.heap.size]? = some (.cells #[.slice sa sn sc, .func (.func 82) #[] #[]] 85) from hat _ _ _ rfl)
  have HB := Lib.hid (bal (Below.refl w.heap.size w) (Nat.le_refl _) (.cells #[.slice sa sn sc, .func (.func 82) #[] #[]] 85))
  generalize w.alloc (.cells #[.slice sa sn sc, .func (.func 82) #[] #[]] 85) = w1 at HX HB ⊢
  have HGX := Lib.hid (Nat.le_refl w.heap.size)
  have HBZ := Lib.hid (show w.heap.size < w1.heap.size from (Array.getElem?_eq_some_iff.1 HX.out).1)
  generalize hgx : w.heap.size = gx at HX HB HGX HR HBZ ⊢
  have HGE := Lib.hid hgx; clear hgx
  obtain ⟨z0, z1⟩ := cells2 HX.out
  go_wp2
  go_loopw [3, 9] (fun o ix wr => ∃ (A : Option Addr) (n c k : Nat), o = .slice A n c ∧ ix = .int .i64 k ∧ k ≤ sn ∧ Rg.OwnG KV wr w1.heap.size A n c ((xs.take k).map (·.1)) ∧ Below w1.heap.size w1 wr) (fun _ ix _ => sn - (intOf ix).toNat)
  case atStart => exact ⟨none, 0, 0, 0, rfl, rfl, by omega, Rg.own_noneG KV _ _, Below.refl _ _⟩
  case round =>
    clear z0 z1
    rename World => wl
    obtain ⟨A, n, c, k, rfl, rfl, hk, ho, hb⟩ := hrel
    have HO := Lib.hid ho; have HC := Lib.hid hb
    clear ho hb
    by_cases h : k < sn
    · obtain ⟨b, o, rfl, hbB, hcell⟩ := HR.out (by rw [← HN.out]; omega)
      have hkl : k < xs.length := by rw [← HN.out]; exact h
      have hz : xs[k]? = some xs[k] := List.getElem?_eq_getElem hkl
      have hc0 := (hcell k xs[k] hz).below (HB.out.trans (HC.out.mono (Nat.le_of_lt HBZ.out))) hbB
      have HSN : Hid ((xs.take (k + 1)).map (·.1) = (xs.take k).map (·.1) ++ [xs[k].1]) := Lib.hid (by rw [take_snocF hz, List.map_append]; rfl)
      generalize xs[k] = x at hz hc0 HSN
      have x0 := hc0 0 _ rfl; have x1 := hc0 1 _ rfl; have x2 := hc0 2 _ rfl
      rw [show KB.k = 3 from rfl] at x0 x1 x2
      simp only [Nat.add_zero] at x0 x1 x2
      have HVX := Lib.hid (fun W => HVO.out x W)
      obtain ⟨⟨va, vd⟩, ⟨sa, sn, sc⟩⟩ := x
      simp only at HVX HSN x0 x1 x2
      rw [show elB (⟨⟨va, vd⟩, ⟨sa, sn, sc⟩⟩ : XB) = .agg #[.int .i64 (va : Int), .int .i64 (vd : Int), .slice sa sn sc] from rfl] at HVX
      unfold vw at HVX
      clear hz hc0 hcell hkl
      have hfx := (HC.out.block gx HBZ.out).trans HX.out
      go_upto_region 5 with (fail)
      have hbx := bal (Below.refl wl.heap.size wl) (Nat.le_refl _) (.cells #[.int .i64 (va : Int), .int .i64 (vd : Int), .slice sa sn sc] 69)
      have HE := Lib.hid (show (wl.alloc (.cells #[.int .i64 (va : Int), .int .i64 (vd : Int), .slice sa sn sc] 69)).heap[wl.heap.size]? = some (.cells #[.int .i64 (va : Int), .int .i64 (vd : Int), .slice sa sn sc] 69) from hat _ _ _ rfl)
      have HO := Lib.hid (HO.out.below hbx (Nat.le_refl _)); have HC := Lib.hid (HC.out.trans (hbx.mono HC.out.size)); have HFX := Lib.hid ((hbx.block gx (by have := HC.out.size; have := HBZ.out; have h1 := (Array.getElem?_eq_some_iff.1 hfx).1; exact h1)).trans hfx)
      clear hbx x0 x1 x2 hfx
      generalize wl.alloc (.cells #[.int .i64 (va : Int), .int .i64 (vd : Int), .slice sa sn sc] 69) = wm at HE HO HC HFX ⊢
      generalize wl.heap.size = ge at HE ⊢
      obtain ⟨z0, z1⟩ := cells2 HFX.out
      obtain ⟨e0, e1, e2⟩ := cells3 HE.out
      go_wp2_with fail
      refine (HVX.out wm).mono ?_
      rintro e w2 ⟨rfl, hb2⟩
      have HO := Lib.hid (HO.out.below hb2 (Nat.le_refl _)); have HC := Lib.hid (HC.out.trans (hb2.mono HC.out.size))
      clear hb2 z0 z1 e0 e1 e2 HFX HE
      have HOA := Lib.hid (HO.out.alloc (.cells #[.int .i64 (va : Int), .int .i64 (vd : Int)] 26))
      have HRA := Lib.hid (one_vF w2 (va, vd) w2.heap.size rfl)
      have HCA := Lib.hid (bal HC.out (Nat.le_refl _) (.cells #[.int .i64 (va : Int), .int .i64 (vd : Int)] 26))
      have HBD : Hid ((n + 1) * KV.bytes ≤ 140737488355328) := Lib.hid (by
        have h1 := HO.out.1
        rw [List.length_map, List.length_take] at h1
        show (n + 1) * 16 ≤ _
        omega)
      go_wp2_with (at_builtin; refine Rg.wp_appG (K := KV) rfl (.tmp 13) (.tmp 18) rfl w1.heap.size A n c _ rfl HOA.out (w2.heap.size + 1) (some ⟨w2.heap.size, 0, none⟩) 1 1 [(va, vd)] rfl rfl HRA.out HBD.out HCA.out.size ?_; intro A4 c4 w4 ho4 hb4)
      refine ⟨⟨A4, n + 1, c4, k + 1, rfl, by go_num, by omega, ?_, HCA.out.trans hb4⟩, by simp [intOf]; omega⟩
      rw [HSN.out]
      exact ho4
    · obtain rfl : k = sn := by omega
      have HL : Hid ((xs.take k).map (·.1) = xs.map (·.1)) := Lib.hid (by rw [List.take_of_length_le (by rw [← HN.out]; omega)])
      rw [HL.out] at HO
      go_wp2
      go_ret
      exact ⟨A, n, c, rfl, HO.out.base (by have := HBZ.out; have := HGE.out; omega), by rw [HGE.out]; exact HB.out.trans (HC.out.mono (Nat.le_of_lt HBZ.out))⟩
set_option maxHeartbeats 2000000 in
theorem views_C (s : Sl) (xs : List XC) (hn : s.n = xs.length) (hl : s.n ≤ 4096) (w : World) (hr : Rg.Rs KCs w w.heap.size s.a xs) :
    Calls Tryz.prog 59 #[shvC s] w (Rg.RetOwnG KV w w.heap.size (xs.map (·.1))) := by
  obtain ⟨sa, sn, sc⟩ := s
  simp only at hn hl hr
  have HN := Lib.hid hn; have HR := Lib.hid hr
  clear hn hr
  have HVO := Lib.hid (fun x W => viewof_C x W)
  unfold shvC vofC
  simp only
  have hsf := store_fnC
  go_enter Tryz.func59, Tryz.ntmps59
  go_upto_region 1 with (fail)
  have HX := Lib.hid (show (w.alloc (.cells #[.slice sa sn sc, .func (.func 85) #[] #[]] 92)).heap[w.heap.size]? = some (.cells #[.slice sa sn sc, .func (.func 85) #[] #[]] 92) from hat _ _ _ rfl)
  have HB := Lib.hid (bal (Below.refl w.heap.size w) (Nat.le_refl _) (.cells #[.slice sa sn sc, .func (.func 85) #[] #[]] 92))
  generalize w.alloc (.cells #[.slice sa sn sc, .func (.func 85) #[] #[]] 92) = w1 at HX HB ⊢
  have HGX := Lib.hid (Nat.le_refl w.heap.size)
  have HBZ := Lib.hid (show w.heap.size < w1.heap.size from (Array.getElem?_eq_some_iff.1 HX.out).1)
  generalize hgx : w.heap.size = gx at HX HB HGX HR HBZ ⊢
  have HGE := Lib.hid hgx; clear hgx
  obtain ⟨z0, z1⟩ := cells2 HX.out
  go_wp2
  go_loopw [3, 9] (fun o ix wr => ∃ (A : Option Addr) (n c k : Nat), o = .slice A n c ∧ ix = .int .i64 k ∧ k ≤ sn ∧ Rg.OwnG KV wr w1.heap.size A n c ((xs.take k).map (·.1)) ∧ Below w1.heap.size w1 wr) (fun _ ix _ => sn - (intOf ix).toNat)
  case atStart => exact ⟨none, 0, 0, 0, rfl, rfl, by omega, Rg.own_noneG KV _ _, Below.refl _ _⟩
  case round =>
    clear z0 z1
    rename World => wl
    obtain ⟨A, n, c, k, rfl, rfl, hk, ho, hb⟩ := hrel
    have HO := Lib.hid ho; have HC := Lib.hid hb
    clear ho hb
    by_cases h : k < sn
    · obtain ⟨b, o, rfl, hbB, hcell⟩ := HR.out (by rw [← HN.out]; omega)
      have hkl : k < xs.length := by rw [← HN.out]; exact h
      have hz : xs[k]? = some xs[k] := List.getElem?_eq_getElem hkl
      have hc0 := (hcell k xs[k] hz).below (HB.out.trans (HC.out.mono (Nat.le_of_lt HBZ.out))) hbB
      have HSN : Hid ((xs.take (k + 1)).map (·.1) = (xs.take k).map (·.1) ++ [xs[k].1]) := Lib.hid (by rw [take_snocF hz, List.map_append]; rfl)
      generalize xs[k] = x at hz hc0 HSN
      have x0 := hc0 0 _ rfl; have x1 := hc0 1 _ rfl; have x2 := hc0 2 _ rfl
      rw [show KCs.k = 3 from rfl] at x0 x1 x2
      simp only [Nat.add_zero] at x0 x1 x2
      have HVX := Lib.hid (fun W => HVO.out x W)
      obtain ⟨⟨va, vd⟩, ⟨sa, sn, sc⟩⟩ := x
      simp only at HVX HSN x0 x1 x2
      rw [show elC (⟨⟨va, vd⟩, ⟨sa, sn, sc⟩⟩ : XC) = .agg #[.int .i64 (va : Int), .int .i64 (vd : Int), .slice sa sn sc] from rfl] at HVX
      unfold vw at HVX
      clear hz hc0 hcell hkl
      have hfx := (HC.out.block gx HBZ.out).trans HX.out
      go_upto_region 5 with (fail)
      have hbx := bal (Below.refl wl.heap.size wl) (Nat.le_refl _) (.cells #[.int .i64 (va : Int), .int .i64 (vd : Int), .slice sa sn sc] 71)
      have HE := Lib.hid (show (wl.alloc (.cells #[.int .i64 (va : Int), .int .i64 (vd : Int), .slice sa sn sc] 71)).heap[wl.heap.size]? = some (.cells #[.int .i64 (va : Int), .int .i64 (vd : Int), .slice sa sn sc] 71) from hat _ _ _ rfl)
      have HO := Lib.hid (HO.out.below hbx (Nat.le_refl _)); have HC := Lib.hid (HC.out.trans (hbx.mono HC.out.size)); have HFX := Lib.hid ((hbx.block gx (by have := HC.out.size; have := HBZ.out; have h1 := (Array.getElem?_eq_some_iff.1 hfx).1; exact h1)).trans hfx)
      clear hbx x0 x1 x2 hfx
      generalize wl.alloc (.cells #[.int .i64 (va : Int), .int .i64 (vd : Int), .slice sa sn sc] 71) = wm at HE HO HC HFX ⊢
      generalize wl.heap.size = ge at HE ⊢
      obtain ⟨z0, z1⟩ := cells2 HFX.out
      obtain ⟨e0, e1, e2⟩ := cells3 HE.out
      go_wp2_with fail
      refine (HVX.out wm).mono ?_
      rintro e w2 ⟨rfl, hb2⟩
      have HO := Lib.hid (HO.out.below hb2 (Nat.le_refl _)); have HC := Lib.hid (HC.out.trans (hb2.mono HC.out.size))
      clear hb2 z0 z1 e0 e1 e2 HFX HE
      have HOA := Lib.hid (HO.out.alloc (.cells #[.int .i64 (va : Int), .int .i64 (vd : Int)] 26))
      have HRA := Lib.hid (one_vF w2 (va, vd) w2.heap.size rfl)
      have HCA := Lib.hid (bal HC.out (Nat.le_refl _) (.cells #[.int .i64 (va : Int), .int .i64 (vd : Int)] 26))
      have HBD : Hid ((n + 1) * KV.bytes ≤ 140737488355328) := Lib.hid (by
        have h1 := HO.out.1
        rw [List.length_map, List.length_take] at h1
        show (n + 1) * 16 ≤ _
        omega)
      go_wp2_with (at_builtin; refine Rg.wp_appG (K := KV) rfl (.tmp 13) (.tmp 18) rfl w1.heap.size A n c _ rfl HOA.out (w2.heap.size + 1) (some ⟨w2.heap.size, 0, none⟩) 1 1 [(va, vd)] rfl rfl HRA.out HBD.out HCA.out.size ?_; intro A4 c4 w4 ho4 hb4)
      refine ⟨⟨A4, n + 1, c4, k + 1, rfl, by go_num, by omega, ?_, HCA.out.trans hb4⟩, by simp [intOf]; omega⟩
      rw [HSN.out]
      exact ho4
    · obtain rfl : k = sn := by omega
      have HL : Hid ((xs.take k).map (·.1) = xs.map (·.1)) := Lib.hid (by rw [List.take_of_length_le (by rw [← HN.out]; omega)])
      rw [HL.out] at HO
      go_wp2
      go_ret
      exact ⟨A, n, c, rfl, HO.out.base (by have := HBZ.out; have := HGE.out; omega), by rw [HGE.out]; exact HB.out.trans (HC.out.mono (Nat.le_of_lt HBZ.out))⟩
set_option maxHeartbeats 2000000 in
theorem views_I (s : Sl) (xs : List XI) (hn : s.n = xs.length) (hl : s.n ≤ 4096) (w : World) (hr : Rg.Rs KI w w.heap.size s.a xs) :
    Calls Tryz.prog 60 #[shvI s] w (Rg.RetOwnG KV w w.heap.size (xs.map (·.1))) := by
  obtain ⟨sa, sn, sc⟩ := s
  simp only at hn hl hr
  have HN := Lib.hid hn; have HR := Lib.hid hr
  clear hn hr
  have HVO := Lib.hid (fun x W => viewof_I x W)
  unfold shvI vofI
  simp only
  have hsf := store_fnI
  go_enter Tryz.func60, Tryz.ntmps60
  go_upto_region 1 with (fail)
  have HX := Lib.hid (show (w.alloc (.cells #[.slice sa sn sc, .func (.func 79) #[] #[]] 79)).heap[w.heap.size]? = some (.cells #[.slice sa sn sc, .func (.func 79) #[] #[]] 79) from hat _ _ _ rfl)
  have HB := Lib.hid (bal (Below.refl w.heap.size w) (Nat.le_refl _) (.cells #[.slice sa sn sc, .func (.func 79) #[] #[]] 79))
  generalize w.alloc (.cells #[.slice sa sn sc, .func (.func 79) #[] #[]] 79) = w1 at HX HB ⊢
  have HGX := Lib.hid (Nat.le_refl w.heap.size)
  have HBZ := Lib.hid (show w.heap.size < w1.heap.size from (Array.getElem?_eq_some_iff.1 HX.out).1)
  generalize hgx : w.heap.size = gx at HX HB HGX HR HBZ ⊢
  have HGE := Lib.hid hgx; clear hgx
  obtain ⟨z0, z1⟩ := cells2 HX.out
  go_wp2
  go_loopw [3, 9] (fun o ix wr => ∃ (A : Option Addr) (n c k : Nat), o = .slice A n c ∧ ix = .int .i64 k ∧ k ≤ sn ∧ Rg.OwnG KV wr w1.heap.size A n c ((xs.take k).map (·.1)) ∧ Below w1.heap.size w1 wr) (fun _ ix _ => sn - (intOf ix).toNat)
  case atStart => exact ⟨none, 0, 0, 0, rfl, rfl, by omega, Rg.own_noneG KV _ _, Below.refl _ _⟩
  case round =>
    clear z0 z1
    rename World => wl
    obtain ⟨A, n, c, k, rfl, rfl, hk, ho, hb⟩ := hrel
    have HO := Lib.hid ho; have HC := Lib.hid hb
    clear ho hb
    by_cases h : k < sn
    · obtain ⟨b, o, rfl, hbB, hcell⟩ := HR.out (by rw [← HN.out]; omega)
      have hkl : k < xs.length := by rw [← HN.out]; exact h
      have hz : xs[k]? = some xs[k] := List.getElem?_eq_getElem hkl
      have hc0 := (hcell k xs[k] hz).below (HB.out.trans (HC.out.mono (Nat.le_of_lt HBZ.out))) hbB
      have HSN : Hid ((xs.take (k + 1)).map (·.1) = (xs.take k).map (·.1) ++ [xs[k].1]) := Lib.hid (by rw [take_snocF hz, List.map_append]; rfl)
      generalize xs[k] = x at hz hc0 HSN
      have x0 := hc0 0 _ rfl; have x1 := hc0 1 _ rfl; have x2 := hc0 2 _ rfl; have x3 := hc0 3 _ rfl
      rw [show KI.k = 4 from rfl] at x0 x1 x2 x3
      simp only [Nat.add_zero] at x0 x1 x2 x3
      have HVX := Lib.hid (fun W => HVO.out x W)
      obtain ⟨⟨va, vd⟩, ⟨sa, sd⟩⟩ := x
      simp only at HVX HSN x0 x1 x2 x3
      rw [show elI (⟨⟨va, vd⟩, ⟨sa, sd⟩⟩ : XI) = .agg #[.int .i64 (va : Int), .int .i64 (vd : Int), .int .i64 (sa : Int), .int .i64 (sd : Int)] from rfl] at HVX
      unfold vw at HVX
      clear hz hc0 hcell hkl
      have hfx := (HC.out.block gx HBZ.out).trans HX.out
      go_upto_region 5 with (fail)
      have hbx := bal (Below.refl wl.heap.size wl) (Nat.le_refl _) (.cells #[.int .i64 (va : Int), .int .i64 (vd : Int), .int .i64 (sa : Int), .int .i64 (sd : Int)] 73)
      have HE := Lib.hid (show (wl.alloc (.cells #[.int .i64 (va : Int), .int .i64 (vd : Int), .int .i64 (sa : Int), .int .i64 (sd : Int)] 73)).heap[wl.heap.size]? = some (.cells #[.int .i64 (va : Int), .int .i64 (vd : Int), .int .i64 (sa : Int), .int .i64 (sd : Int)] 73) from hat _ _ _ rfl)
      have HO := Lib.hid (HO.out.below hbx (Nat.le_refl _)); have HC := Lib.hid (HC.out.trans (hbx.mono HC.out.size)); have HFX := Lib.hid ((hbx.block gx (by have := HC.out.size; have := HBZ.out; have h1 := (Array.getElem?_eq_some_iff.1 hfx).1; exact h1)).trans hfx)
      clear hbx x0 x1 x2 x3 hfx
      generalize wl.alloc (.cells #[.int .i64 (va : Int), .int .i64 (vd : Int), .int .i64 (sa : Int), .int .i64 (sd : Int)] 73) = wm at HE HO HC HFX ⊢
      generalize wl.heap.size = ge at HE ⊢
      obtain ⟨z0, z1⟩ := cells2 HFX.out
      obtain ⟨e0, e1, e2, e3⟩ := cells4 HE.out
      go_wp2_with fail
      refine (HVX.out wm).mono ?_
      rintro e w2 ⟨rfl, hb2⟩
      have HO := Lib.hid (HO.out.below hb2 (Nat.le_refl _)); have HC := Lib.hid (HC.out.trans (hb2.mono HC.out.size))
      clear hb2 z0 z1 e0 e1 e2 e3 HFX HE
      have HOA := Lib.hid (HO.out.alloc (.cells #[.int .i64 (va : Int), .int .i64 (vd : Int)] 26))
      have HRA := Lib.hid (one_vF w2 (va, vd) w2.heap.size rfl)
      have HCA := Lib.hid (bal HC.out (Nat.le_refl _) (.cells #[.int .i64 (va : Int), .int .i64 (vd : Int)] 26))
      have HBD : Hid ((n + 1) * KV.bytes ≤ 140737488355328) := Lib.hid (by
        have h1 := HO.out.1
        rw [List.length_map, List.length_take] at h1
        show (n + 1) * 16 ≤ _
        omega)
      go_wp2_with (at_builtin; refine Rg.wp_appG (K := KV) rfl (.tmp 13) (.tmp 18) rfl w1.heap.size A n c _ rfl HOA.out (w2.heap.size + 1) (some ⟨w2.heap.size, 0, none⟩) 1 1 [(va, vd)] rfl rfl HRA.out HBD.out HCA.out.size ?_; intro A4 c4 w4 ho4 hb4)
      refine ⟨⟨A4, n + 1, c4, k + 1, rfl, by go_num, by omega, ?_, HCA.out.trans hb4⟩, by simp [intOf]; omega⟩
      rw [HSN.out]
      exact ho4
    · obtain rfl : k = sn := by omega
      have HL : Hid ((xs.take k).map (·.1) = xs.map (·.1)) := Lib.hid (by rw [List.take_of_length_le (by rw [← HN.out]; omega)])
      rw [HL.out] at HO
      go_wp2
      go_ret
      exact ⟨A, n, c, rfl, HO.out.base (by have := HBZ.out; have := HGE.out; omega), by rw [HGE.out]; exact HB.out.trans (HC.out.mono (Nat.le_of_lt HBZ.out))⟩
end Go.Proofs.YtfblnomkafimhaaGreat.Fow

namespace Go.Proofs.YtfblnomkafimhaaGreat.Fow
set_option maxRecDepth 20000
open Go.RowKit
open Chg Vw Cl Bk Lg Fo Clw Bkw
open Chgw (hat hbe vw ret_bool ret_i64 Vx)
open Rg (bal)

set_option maxHeartbeats 2000000 in
theorem grow_v (n : Nat) (hn : n ≤ 1000000) (w : World) : Calls Tryz.prog 98 #[.slice none 0 0, .int .i64 (n : Int)] w (Rg.RetOwnG KV w w.heap.size []) := by
  rcases Nat.eq_zero_or_pos n with h0 | h0
  · subst h0
    clear hn
    go_enter Tryz.func98, Tryz.ntmps98
    go_wp2
    go_ret
    exact ⟨none, 0, 0, rfl, Rg.own_noneG KV _ _, Below.refl _ _⟩
  · obtain ⟨i0, hi0, hz0, hzs, hzb⟩ := info_parts KV.info
    have hzs : i0.size = 2 := hzs
    have hzb : i0.bytes = 16 := hzb
    have hi0 : Tryz.prog.info? 26 = some i0 := hi0
    have hold : (Builtin.firstCells i0.size 0 (.slice none 0 0)).run Tryz.prog w.drew = .ok (([] : List Value).toArray) w.drew := run_firstCells_none w.drew _ 0 0 0
    obtain ⟨G, hG⟩ : ∃ G, G = grownCap w n 0 26 := ⟨_, rfl⟩
    obtain ⟨ROW, hROW⟩ : ∃ ROW : Array Value, ROW = ([] : List Value).toArray ++ Builtin.zeroCells KV.zero.cells n ++ Builtin.zeroCells KV.zero.cells (G - n) := ⟨_, rfl⟩
    have hrz : ∀ ty, (Builtin.append_ #[45, 3] ty #[.slice none 0 0, .int .i64 (n : Int)]).run Tryz.prog w = .ok (.slice (some ⟨w.heap.size, 0, none⟩) n G) (w.drew.alloc (.cells ROW 26)) := fun ty => by
      have h := Lib.run_append_grow_zeros w 45 3 ty 26 i0 _ .i64 .i64 Tryz.underlying45 Tryz.underlying3 hi0 hz0 none 0 0 _ hold n (by omega) (by omega) (by omega) (by omega) (by rw [hzb]; omega) (by rw [hzb]; exact growslice_fits (by omega) (by omega))
      rw [Nat.zero_add] at h
      rw [hROW, hG]
      exact h
    have hGn : n ≤ G := by rw [hG]; exact grownCap_ge w _ _ _
    have hGm : G ≤ maxLen := by rw [hG]; exact grownCap_le_maxLen w n 0 _ (by unfold maxLen; omega)
    have hG63 : G ≤ 9223372036854775807 := by unfold maxLen at hGm; omega
    have hzc : KV.zero.cells.size = 2 := KV.zs
    have hRs : ROW.size = G * KV.k := by
      rw [hROW, Array.size_append, Array.size_append, size_zeroCells, size_zeroCells, hzc]
      show 0 + n * 2 + (G - n) * 2 = G * 2
      omega
    have HP : Hid (Rg.OwnG KV (w.drew.alloc (.cells ROW 26)) w.heap.size (some ⟨w.heap.size, 0, none⟩) 0 G [] ∧ Below w.heap.size w (w.drew.alloc (.cells ROW 26))) := Lib.hid ⟨Rg.OwnG.of_row rfl (Nat.le_refl _) (heap_alloc_new w.drew _) (Nat.zero_le _) hGm hRs (by simp [Rg.flat]), bal (Below.refl _ _).drew (Nat.le_refl _) _⟩
    have HRZ := Lib.hid hrz
    clear hrz hG hROW hRs hzc hold hz0 hzs hzb hi0 hGm
    have hpos : (0 : Int) < (n : Int) := by omega
    have hg0 : ¬ (G = 0) := by omega
    go_enter Tryz.func98, Tryz.ntmps98
    go_wp2_with (at_builtin; refine Lib.wpList_append_run _ rfl _ _ _ _ rfl _ _ rfl rfl _ _ (HRZ.out _) ?_)
    all_goals (try go_ret)
    all_goals exact ⟨some ⟨w.heap.size, 0, none⟩, 0, G, rfl, HP.out.1, HP.out.2⟩
/-- slices of views that lie in a row of slices -/
def Pts (w : World) (g : Nat) (ps : List (Sl × List (Nat × Nat))) : Prop := w.heap[g]? = some (.cells (ps.map fun p => Value.slice p.1.a p.1.n p.1.c).toArray 45) ∧ ∀ p ∈ ps, p.1.n = p.2.length ∧ p.1.n ≤ 4097 ∧ Rg.Rs KV w w.heap.size p.1.a p.2
def sumP (ps : List (Sl × List (Nat × Nat))) : Nat := (ps.map (·.1.n)).sum
theorem sumP_succ {ps : List (Sl × List (Nat × Nat))} {k : Nat} {p : Sl × List (Nat × Nat)} (h : ps[k]? = some p) : sumP (ps.take (k + 1)) = sumP (ps.take k) + p.1.n := by
  unfold sumP
  rw [take_snocF h, List.map_append, List.sum_append]
  simp
theorem sumP_le (ps : List (Sl × List (Nat × Nat))) (h : ∀ p ∈ ps, p.1.n ≤ 4097) : sumP ps ≤ ps.length * 4097 := by
  induction ps with
  | nil => simp [sumP]
  | cons p l ih =>
    have h1 := ih (fun q hq => h q (List.mem_cons_of_mem _ hq))
    have h2 := h p (by simp)
    have e : sumP (p :: l) = p.1.n + sumP l := by simp [sumP]
    rw [e, List.length_cons, Nat.add_mul]
    omega
set_option maxHeartbeats 4000000 in
theorem concat_v (g : Nat) (ps : List (Sl × List (Nat × Nat))) (N c : Nat) (hN : N = ps.length) (h4 : N ≤ 4) (w : World) (h : Pts w g ps) :
    Calls Tryz.prog 57 #[.slice (some ⟨g, 0, none⟩) N c] w (Rg.RetOwnG KV w w.heap.size (ps.flatMap (·.2))) := by
  have HN := Lib.hid hN
  have HG := Lib.hid (fun n hn W => grow_v n hn W)
  have HC : Hid (∀ (k : Nat) p, ps[k]? = some p → ∀ W, Below w.heap.size w W → W.cell? ⟨g, k, none⟩ = some (.slice p.1.a p.1.n p.1.c)) := Lib.hid (fun k p hp W hW => by
    have hg := (hW.block g (Array.getElem?_eq_some_iff.1 h.1).1).trans h.1
    rw [cell_of_row _ _ _ _ _ _ hg]
    simp [hp])
  have HP := Lib.hid h.2
  have HSL : Hid (∀ k, sumP (ps.take k) ≤ 16388) := Lib.hid (fun k => by
    have h1 := sumP_le (ps.take k) (fun p hp => (h.2 p (List.mem_of_mem_take hp)).2.1)
    have h2 : (ps.take k).length ≤ 4 := by rw [List.length_take]; omega
    have h3 : (ps.take k).length * 4097 ≤ 4 * 4097 := Nat.mul_le_mul_right _ h2
    omega)
  clear h hN
  go_enter Tryz.func57, Tryz.ntmps57
  go_wp2
  go_loopw [3, 11] (fun sz ix wr => ∃ (m k : Nat), sz = .int .i64 m ∧ ix = .int .i64 k ∧ k ≤ N ∧ m = sumP (ps.take k) ∧ wr = w) (fun _ ix _ => N - (intOf ix).toNat)
  case atStart => exact ⟨0, 0, rfl, rfl, by omega, by simp [sumP], rfl⟩
  case round =>
    obtain ⟨m, k, rfl, rfl, hk, hm, rfl⟩ := hrel
    have HM := Lib.hid hm
    have hml : m ≤ 16388 := by rw [hm]; exact HSL.out k
    clear hm
    by_cases h : k < N
    · have hkl : k < ps.length := by rw [← HN.out]; exact h
      have hz : ps[k]? = some ps[k] := List.getElem?_eq_getElem hkl
      have hc := HC.out k _ hz wr (Below.refl _ _)
      have HS := Lib.hid (sumP_succ hz)
      have hn4 := (HP.out _ (List.getElem_mem hkl)).2.1
      generalize ps[k] = p at hc HS hn4
      clear hz hkl
      obtain ⟨⟨pa, pn, pc⟩, pl⟩ := p
      simp only at hc HS hn4
      go_wp2
      refine ⟨⟨m + pn, k + 1, by go_num, by go_num, by omega, by rw [HS.out, HM.out], by trivial⟩, by simp [intOf]; omega⟩
    · obtain rfl : k = N := by omega
      clear HM
      go_wp2_with fail
      refine (HG.out m (by omega) wr).mono ?_
      rintro e w2 ⟨A2, n2, c2, rfl, ho2, hb2⟩
      have hn0 : n2 = 0 := ho2.1
      subst hn0
      have HO := Lib.hid ho2; have HB := Lib.hid hb2
      clear ho2 hb2 HG
      go_wp2
      go_loopw [6, 27] (fun o ix ws => ∃ (A : Option Addr) (n c j : Nat), o = .slice A n c ∧ ix = .int .i64 j ∧ j ≤ k ∧ Rg.OwnG KV ws wr.heap.size A n c ((ps.take j).flatMap (·.2)) ∧ Below wr.heap.size wr ws) (fun _ ix _ => k - (intOf ix).toNat)
      case atStart => exact ⟨A2, 0, c2, 0, rfl, rfl, by omega, HO.out, HB.out⟩
      case round =>
        clear HO HB
        rename World => wl
        obtain ⟨A, n, c3, j, rfl, rfl, hj, ho, hb⟩ := hrel
        have HO := Lib.hid ho; have HB := Lib.hid hb
        clear ho hb
        by_cases h : j < k
        · have hkl : j < ps.length := by rw [← HN.out]; exact h
          have hz : ps[j]? = some ps[j] := List.getElem?_eq_getElem hkl
          have hc := HC.out j _ hz wl HB.out
          have hpp := HP.out _ (List.getElem_mem hkl)
          have HS : Hid ((ps.take (j + 1)).flatMap (·.2) = (ps.take j).flatMap (·.2) ++ ps[j].2) := Lib.hid (by rw [take_snocF hz, List.flatMap_append]; simp)
          have HLN : Hid (n ≤ 16388) := Lib.hid (by
            have h1 := HO.out.1
            have h2 := HSL.out j
            have h3 : ((ps.take j).flatMap (·.2)).length = sumP (ps.take j) := by
              unfold sumP
              rw [List.length_flatMap]
              congr 1
              apply List.map_congr_left
              intro q hq
              exact ((HP.out q (List.mem_of_mem_take hq)).1).symm
            omega)
          generalize ps[j] = p at hc hpp HS
          clear hz hkl
          obtain ⟨⟨pa, pn, pc⟩, pl⟩ := p
          simp only at hc hpp HS
          have HPN := Lib.hid hpp.1
          have HRS := Lib.hid (hpp.2.2.below HB.out)
          have HBD := Lib.hid (show (n + pn) * KV.bytes ≤ 140737488355328 from by have := HLN.out; have := hpp.2.1; show (n + pn) * 16 ≤ _; omega)
          clear hpp
          go_wp2_with (at_builtin; refine Rg.wp_appG (K := KV) rfl (.tmp 31) (.tmp 32) rfl wr.heap.size A n c3 _ rfl HO.out wr.heap.size pa pn pc pl rfl HPN.out HRS.out HBD.out HB.out.size ?_; intro A4 c4 w4 ho4 hb4)
          refine ⟨⟨A4, n + pn, c4, j + 1, rfl, by go_num, by omega, by rw [HS.out]; exact ho4, HB.out.trans hb4⟩, by simp [intOf]; omega⟩
        · obtain rfl : j = k := by omega
          have HL : Hid ((ps.take j).flatMap (·.2) = ps.flatMap (·.2)) := Lib.hid (by rw [List.take_of_length_le (by rw [← HN.out]; omega)])
          rw [HL.out] at HO
          go_wp2
          go_ret
          exact ⟨A, n, c3, rfl, HO.out, HB.out⟩
end Go.Proofs.YtfblnomkafimhaaGreat.Fow
