/- Contracts and words on which the claims of this seat stand, part 38: FoMgC. -/
import Derived.Test.YtfblnomkafimhaaGreatG37
set_option linter.unusedSimpArgs false
set_option linter.unusedVariables false
namespace Go.Proofs.YtfblnomkafimhaaGreat.Fow
set_option maxRecDepth 20000
open Go.RowKit
open Chg Vw Cl Bk Lg Fo Clw Bkw
open Chgw (hat hbe vw ret_bool ret_i64 Vx)
open Rg (bal)
set_option maxHeartbeats 4000000 in
set_option maxRecDepth 100000 in
theorem ins_grow_C (g n p : Nat) (xs : List XC) (base : Nat) (w : World) (ho : Rg.OwnG KCs w base (some ⟨g, 0, none⟩) n n xs) (hb : base ≤ w.heap.size) (hp : p < n) (hl : n ≤ 4096) (x : XC) (gv : Nat) (hv : w.heap[gv]? = some (.cells (KCs.cells x).toArray 71)) :
    Calls Tryz.prog 126 #[.slice (some ⟨g, 0, none⟩) n n, .int .i64 (p : Int), .slice (some ⟨gv, 0, none⟩) 1 1] w (RetInC w base (some ⟨g, 0, none⟩) n n (Rg.ins xs p x)) := by
  have hxl := ho.1
  obtain ⟨hbg, _, hcm, cur, hh, hcs, htk⟩ := ho.row
  obtain ⟨i0, hi0, hz0, hzs, hzb⟩ := info_parts KCs.info
  have hsz : (Tryz.prog.info? 71).map (·.size) = some 3 := by kernel_rfl
  have htk : cur.toList.take (n * 3) = Rg.flat KCs xs := htk
  have hcs : cur.size = n * 3 := hcs
  have hh : w.heap[g]? = some (.cells cur 71 (0, 0)) := hh
  have hzs : i0.size = 3 := hzs
  have hzb : i0.bytes = 40 := hzb
  have hi0 : Tryz.prog.info? 71 = some i0 := hi0
  have hfl : (Rg.flat KCs xs).length = n * 3 := by rw [Rg.flat_len, hxl]; rfl
  have hkc : ∀ u ∈ KCs.cells x, u.oneCell' = true := KCs.one x
  have hkl : (KCs.cells x).length = 3 := KCs.len x
  have hgw : g < w.heap.size := (Array.getElem?_eq_some_iff.1 hh).1
  have hvw : gv < w.heap.size := (Array.getElem?_eq_some_iff.1 hv).1
  have hik : p + (n + 1 - p) = n + 1 := by omega
  have hkk : (n : Int) + 1 - (p : Int) = ((n + 1 - p : Nat) : Int) := by omega
  have hold : (Builtin.firstCells i0.size p (.slice (some ⟨g, 0, none⟩) p n)).run Tryz.prog w.drew = .ok (((Rg.flat KCs xs).take (p * 3)).toArray) w.drew := by
    rw [hzs]
    exact run_firstCells_some w.drew 3 p ⟨g, 0, none⟩ p n ((Rg.flat KCs xs).take (p * 3)) (by rw [List.length_take, hfl]; omega) (fun j v hj => by
      rw [List.getElem?_take] at hj
      split at hj
      · exact ho.2.cells (g := g) rfl j v hj
      · cases hj)
  obtain ⟨G, hG⟩ : ∃ G, G = grownCap w (n + 1) n 71 := ⟨_, rfl⟩
  obtain ⟨ROW, hROW⟩ : ∃ ROW : Array Value, ROW = ((Rg.flat KCs xs).take (p * 3)).toArray ++ Builtin.zeroCells KCs.zero.cells (n + 1 - p) ++ Builtin.zeroCells KCs.zero.cells (G - (n + 1)) := ⟨_, rfl⟩
  have hrz : ∀ ty, (Builtin.append_ #[23, 3] ty #[.slice (some ⟨g, 0, none⟩) p n, .int .i64 ((n : Int) + 1 - (p : Int))]).run Tryz.prog w = .ok (.slice (some ⟨w.heap.size, 0, none⟩) (n + 1) G) (w.drew.alloc (.cells ROW 71)) := fun ty => by
    have h := Lib.run_append_grow_zeros w 23 3 ty 71 i0 _ .i64 .i64 Tryz.underlying23 Tryz.underlying3 hi0 hz0 (some ⟨g, 0, none⟩) p n _ hold (n + 1 - p) (by omega) (by omega) (by omega) (by omega) (by rw [hzb]; omega) (by rw [hzb, hik]; exact growslice_fits (by omega) (by omega))
    rw [hik] at h
    rw [hkk, hROW, hG]
    exact h
  have hGn : n + 1 ≤ G := by rw [hG]; exact grownCap_ge w _ _ _
  have hGm : G ≤ maxLen := by rw [hG]; exact grownCap_le_maxLen w (n + 1) n _ (by unfold maxLen; omega)
  have hG63 : G ≤ 9223372036854775807 := by unfold maxLen at hGm; omega
  have hzc : KCs.zero.cells.size = 3 := KCs.zs
  have hRs : ROW.size = G * 3 := by
    rw [hROW, Array.size_append, Array.size_append, size_zeroCells, size_zeroCells, hzc]
    simp only [List.size_toArray, List.length_take, hfl]
    rw [Nat.min_eq_left (by omega)]
    omega
  have hRt : ∀ j, j < p * 3 → ROW.toList[j]? = (Rg.flat KCs xs)[j]? := fun j hj => by
    rw [hROW, Array.append_assoc, Array.toList_append, List.getElem?_append_left (by simp only [List.length_take, hfl]; omega)]
    simp only [List.getElem?_take]
    rw [if_pos hj]
  obtain ⟨W1, hW1⟩ : ∃ W1 : World, W1 = w.drew.alloc (.cells ROW 71) := ⟨_, rfl⟩
  have hn1 : W1.heap[w.heap.size]? = some (.cells ROW 71 (0, 0)) := by rw [hW1]; exact heap_alloc_new w.drew _
  have hg1 : W1.heap[g]? = some (.cells cur 71 (0, 0)) := by rw [hW1]; exact (heap_alloc_old w.drew _ hgw).trans hh
  have hv1 : W1.heap[gv]? = some (.cells (KCs.cells x).toArray 71) := by rw [hW1]; exact (heap_alloc_old w.drew _ hvw).trans hv
  obtain ⟨C1, hC1⟩ : ∃ C1, C1 = (ROW.toList.take (p * 3) ++ KCs.cells x ++ ROW.toList.drop (p * 3 + (KCs.cells x).length)).toArray := ⟨_, rfl⟩
  obtain ⟨C2, hC2⟩ : ∃ C2, C2 = (C1.toList.take ((p + 1) * 3) ++ (Rg.flat KCs xs).drop (p * 3) ++ C1.toList.drop ((p + 1) * 3 + ((Rg.flat KCs xs).drop (p * 3)).length)).toArray := ⟨_, rfl⟩
  have hdl : ((Rg.flat KCs xs).drop (p * 3)).length = (n - p) * 3 := by rw [List.length_drop, hfl, Nat.sub_mul]
  have hl0 : ROW.toList.length = G * 3 := by rw [Array.length_toList]; exact hRs
  have hf1 : p * 3 + (KCs.cells x).length ≤ ROW.toList.length := by rw [hkl, hl0]; omega
  have hs1 : C1.size = G * 3 := by rw [hC1]; show List.length _ = _; rw [Rg.seg_len _ _ _ hf1, hl0]
  have hl1 : C1.toList.length = G * 3 := by rw [Array.length_toList]; exact hs1
  have hf2 : (p + 1) * 3 + ((Rg.flat KCs xs).drop (p * 3)).length ≤ C1.toList.length := by rw [hdl, hl1]; omega
  have hs2 : C2.size = G * 3 := by rw [hC2]; show List.length _ = _; rw [Rg.seg_len _ _ _ hf2, hl1]
  have hcp1 : ∀ (W : World), W.heap = W1.heap → ∀ ty dc, (Builtin.copy_ #[23, 23] ty #[.slice (some ⟨w.heap.size, p * 3, none⟩) (n + 1 - p) dc, .slice (some ⟨gv, 0, none⟩) 1 1]).run Tryz.prog W = .ok (goInt (1 : Nat)) (W.setRow w.heap.size C1) := fun W hW ty dc => by
    rw [hC1]
    exact Rg.run_copy_rowG W _ _ ty 71 3 w.heap.size (p * 3) (n + 1 - p) dc ⟨gv, 0, none⟩ 1 1 1 ROW 71 _ Tryz.underlying23 hsz (by rw [hW]; exact hn1) (by simp only [Nat.min_def]; split <;> omega) (by rw [hkl])
      (cells_srcC (by rw [hW]; exact hv1)) (by rw [← Array.length_toList]; exact hf1) hkc
  have hcp2 : ∀ (W : World), W.heap = (W1.setRow w.heap.size C1).heap → ∀ ty dc sc, (Builtin.copy_ #[23, 23] ty #[.slice (some ⟨w.heap.size, (p + 1) * 3, none⟩) (n - p) dc, .slice (some ⟨g, p * 3, none⟩) (n - p) sc]).run Tryz.prog W = .ok (goInt (n - p : Nat)) (W.setRow w.heap.size C2) := fun W hW ty dc sc => by
    have hn2 : W.heap[w.heap.size]? = some (.cells C1 71 (0, 0)) := by rw [hW]; exact Rg.heap_setRow _ _ _ _ _ _ hn1
    have hg2 : W.heap[g]? = some (.cells cur 71 (0, 0)) := by
      rw [hW]
      have : ¬ w.heap.size = g := by omega
      simp [World.setRow, Array.getElem?_modify, this]
      exact hg1
    rw [hC2]
    exact Rg.run_copy_rowG W _ _ ty 71 3 w.heap.size ((p + 1) * 3) (n - p) dc ⟨g, p * 3, none⟩ (n - p) sc (n - p) C1 71 _ Tryz.underlying23 hsz hn2 (by simp only [Nat.min_def]; split <;> omega) hdl
      (row_cellsC (c := n) hg2 hxl htk) (by rw [← Array.length_toList]; exact hf2) (fun v hv => Rg.flat_one KCs xs v (List.mem_of_mem_drop hv))
  have hfin : C2.toList.take ((n + 1) * 3) = Rg.flat KCs (Rg.ins xs p x) := by
    rw [Rg.flat_ins xs p x (by omega)]
    refine Rg.two_copies' (L := ROW.toList) hfl hkl (by omega) C1.toList C2.toList (fun j => ?_) (fun j => ?_) (fun j hj => hRt j hj)
    · rw [hC1, Rg.seg_get _ _ _ hf1, hkl]
    · rw [hC2, Rg.seg_get _ _ _ hf2, hdl]
  have HPO : Hid (∀ W : World, W.heap = ((W1.setRow w.heap.size C1).setRow w.heap.size C2).heap → W.os = w.os → W.tape = w.tape → W.output = w.output → RetInC w base (some ⟨g, 0, none⟩) n n (Rg.ins xs p x) (.returned (.slice (some ⟨w.heap.size, 0, none⟩) (n + 1) G)) W) := Lib.hid (fun W hW h1 h2 h3 => by
    refine ⟨_, G, rfl, Rg.OwnG.of_row (by rw [Rg.ins_len _ _ _ (by omega), hxl]) hb (cur := C2) (by rw [hW]; exact Rg.heap_setRow _ _ _ _ _ _ (Rg.heap_setRow _ _ _ _ _ _ hn1)) hGn hGm hs2 hfin, ?_⟩
    refine ⟨h1, h2, h3, by rw [hW, hW1]; simp [World.setRow], fun k hk hne => ?_⟩
    have : ¬ w.heap.size = k := by omega
    rw [hW, hW1]
    simp [World.setRow, Array.getElem?_modify, this]
    exact heap_alloc_old w.drew _ hk)
  rw [← hW1] at hrz
  have HC1 := Lib.hid hcp1; have HC2 := Lib.hid hcp2; have HRZ := Lib.hid hrz
  clear hcp1 hcp2 hfin hC1 hC2 hdl hl0 hf1 hs1 hl1 hf2 hs2 hkc hkl hfl hcs htk hsz hbg hcm hh hv ho hxl hgw hvw hold hrz hG hROW hzc hRs hRt hn1 hg1 hv1 hz0 hzs hzb hi0 hkk hik hb
  generalize RetInC w base (some ⟨g, 0, none⟩) n n (Rg.ins xs p x) = PP at HPO ⊢
  subst hW1
  have hz2 : ¬ ((p : Int) = (n : Int)) := by omega
  have hw1 : IntKind.i64.wrap ((p : Int) + 1) = (p : Int) + 1 := by rw [IntKind.wrap_i64]; omega
  have hb1 : (0 : Int) ≤ (p : Int) + 1 := by omega
  have hin : p ≤ n := by omega
  have htn : ((p : Int) + 1).toNat = p + 1 := by omega
  have hb2 : ¬ (G = p + 1) := by omega
  have hb3 : (p : Int) ≤ (n : Int) + 1 := by omega
  have hb4 : ¬ (G = p) := by omega
  have hb5 : ¬ (n = p) := by omega
  have mixed : Tryz.prog.follows Departure.mixedOrders = true := by kernel_rfl
  go_enter Tryz.func126, Tryz.ntmps126
  go_upto_region 11 with (first
    | (at_builtin; refine Lib.wpList_append_run _ rfl _ _ _ _ rfl _ _ rfl rfl _ _ (HRZ.out _) ?_)
    | (refine wpList_copy_runI _ rfl (.tmp 43) (.tmp 44) 23 23 rfl _ _ rfl rfl (HC1.out (w.drew.alloc (.cells ROW 71)) rfl _ _) ?_))
  go_region_law_o (refine step_copy_runI rfl _ _ 23 23 rfl (.slice (some ⟨w.heap.size, (p + 1) * 3, none⟩) (n - p) (G - (p + 1))) (.slice (some ⟨g, p * 3, none⟩) (n - p) (n - p)) (by simp [Act.eval, Act.put]) (by simp [Act.eval, Act.put]) (HC2.out ((w.drew.alloc (.cells ROW 71)).setRow w.heap.size C1).drew rfl 3 (G - (p + 1)) (n - p)) ?_)
  go_wp2
  try go_ret
  exact HPO.out (((w.drew.alloc (.cells ROW 71)).setRow w.heap.size C1).drew.setRow w.heap.size C2) rfl rfl rfl rfl
end Go.Proofs.YtfblnomkafimhaaGreat.Fow
