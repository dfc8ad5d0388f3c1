/- Of all messages to whom a question could have gone just one kind from one node answers it, and no answer is a question. Conditions: none. Conditions: none. -/
import Derived.Test.YtldfccllpnplmaaRows
import Derived.Test.YtldfccllpnplmaaG17
import Derived.Test.YtldfccllpnplmaaG23
import Derived.Test.YtldfccllpnplmaaG29
import Derived.WalkKit
import Derived.ProofKit
import Derived.OpenShut
import Derived.Laws.Cover2
import Derived.SizedLaws
import Derived.JoinedCond
import Derived.Carry
set_option linter.unusedSimpArgs false
set_option linter.unusedVariables false
namespace Go.Proofs.Ytldfccllpnplmaa.msgOne
set_option maxRecDepth 20000
open Go.RowKit
open Cl Bk Ms Clw Bkw Msw
open Chgw (hat hbe)
open Rg (bal)

set_option maxRecDepth 100000 in
set_option maxHeartbeats 2000000 in
theorem walk (w : World) (m : M) (s t : S3) (hm : Mo w m s t) (f : M) (s2 t2 : S3) (_hf : Mo w f s2 t2) :
    Calls Try.prog 8 #[mvv m s t, mvv f s2 t2] w fun e w' => e = .returned (.bool true) ∧ Below w.heap.size w w' := by
  have HB := Lib.hid (Below.refl w.heap.size w)
  have HM := Lib.hid hm; clear hm
  unfold mvv
  go_enter Try.func8, Try.ntmps8
  go_wp2_with fail
  have HX := Lib.hid (show Mx (w.alloc (.cells #[.int .i64 m.kind, .int .i64 m.src, .int .i64 m.dst, .int .i64 m.inc, .int .i64 m.seq, .int .i64 m.va, .int .i64 m.vd, .slice s.a s.n s.c, .slice t.a t.n t.c] 29)) w.heap.size m s t from hat _ _ _ rfl)
  have hs1 : (w.alloc (.cells #[.int .i64 m.kind, .int .i64 m.src, .int .i64 m.dst, .int .i64 m.inc, .int .i64 m.seq, .int .i64 m.va, .int .i64 m.vd, .slice s.a s.n s.c, .slice t.a t.n t.c] 29)).heap.size = w.heap.size + 1 := by simp
  have HY := Lib.hid (show Mx ((w.alloc (.cells #[.int .i64 m.kind, .int .i64 m.src, .int .i64 m.dst, .int .i64 m.inc, .int .i64 m.seq, .int .i64 m.va, .int .i64 m.vd, .slice s.a s.n s.c, .slice t.a t.n t.c] 29)).alloc (.cells #[.int .i64 f.kind, .int .i64 f.src, .int .i64 f.dst, .int .i64 f.inc, .int .i64 f.seq, .int .i64 f.va, .int .i64 f.vd, .slice s2.a s2.n s2.c, .slice t2.a t2.n t2.c] 29)) (w.heap.size + 1) f s2 t2 from hat _ _ _ (by simp))
  have hb := bal (Below.refl (w.alloc (.cells #[.int .i64 m.kind, .int .i64 m.src, .int .i64 m.dst, .int .i64 m.inc, .int .i64 m.seq, .int .i64 m.va, .int .i64 m.vd, .slice s.a s.n s.c, .slice t.a t.n t.c] 29)).heap.size (w.alloc (.cells #[.int .i64 m.kind, .int .i64 m.src, .int .i64 m.dst, .int .i64 m.inc, .int .i64 m.seq, .int .i64 m.va, .int .i64 m.vd, .slice s.a s.n s.c, .slice t.a t.n t.c] 29))) (Nat.le_refl _) (.cells #[.int .i64 f.kind, .int .i64 f.src, .int .i64 f.dst, .int .i64 f.inc, .int .i64 f.seq, .int .i64 f.va, .int .i64 f.vd, .slice s2.a s2.n s2.c, .slice t2.a t2.n t2.c] 29)
  have HX := Lib.hid (HX.out.all hb)
  have hb := bal (bal (Below.refl w.heap.size w) (Nat.le_refl _) (.cells #[.int .i64 m.kind, .int .i64 m.src, .int .i64 m.dst, .int .i64 m.inc, .int .i64 m.seq, .int .i64 m.va, .int .i64 m.vd, .slice s.a s.n s.c, .slice t.a t.n t.c] 29)) (by omega) (.cells #[.int .i64 f.kind, .int .i64 f.src, .int .i64 f.dst, .int .i64 f.inc, .int .i64 f.seq, .int .i64 f.va, .int .i64 f.vd, .slice s2.a s2.n s2.c, .slice t2.a t2.n t2.c] 29)
  have HM := Lib.hid (HM.out.all hb)
  have HB := Lib.hid (HB.out.trans (hb.mono HB.out.size)); clear hb
  generalize (w.alloc (.cells #[.int .i64 m.kind, .int .i64 m.src, .int .i64 m.dst, .int .i64 m.inc, .int .i64 m.seq, .int .i64 m.va, .int .i64 m.vd, .slice s.a s.n s.c, .slice t.a t.n t.c] 29)).alloc (.cells #[.int .i64 f.kind, .int .i64 f.src, .int .i64 f.dst, .int .i64 f.inc, .int .i64 f.seq, .int .i64 f.va, .int .i64 f.vd, .slice s2.a s2.n s2.c, .slice t2.a t2.n t2.c] 29) = v1 at HM HB HX HY ⊢
  clear hs1
  generalize w.heap.size + 1 = g2 at HY ⊢
  generalize w.heap.size = g1 at HX ⊢
  refine (msg_alive_c _).mono ?_
  rintro e w1 ⟨rfl, hb⟩
  have HM := Lib.hid (HM.out.all hb)
  have HX := Lib.hid (HX.out.all hb)
  have HY := Lib.hid (HY.out.all hb)
  have HB := Lib.hid (HB.out.trans (hb.mono HB.out.size)); clear hb
  obtain ⟨x0, x1, x2, x3, x4, x5, x6, x7, x8⟩ := HX.out.cs
  go_wp2_with fail
  refine (right_c m s t _ HM.out).mono ?_
  rintro e w2 ⟨rfl, hb⟩
  have HM := Lib.hid (HM.out.all hb)
  have HX := Lib.hid (HX.out.all hb)
  have HY := Lib.hid (HY.out.all hb)
  have HB := Lib.hid (HB.out.trans (hb.mono HB.out.size)); clear hb
  clear x0 x1 x2 x3 x4 x5 x6 x7 x8
  cases hrm : rightM m with
  | false =>
    go_wp2
    go_ret
    exact ⟨rfl, HB.out⟩
  | true =>
  clear HM
  go_wp2
  obtain ⟨hk0, hk7, hd0, hd5⟩ : 0 ≤ m.kind ∧ m.kind ≤ 7 ∧ 0 ≤ m.dst ∧ m.dst ≤ 5 := by have := (headM_iff m).1 ((rightM_iff m).1 hrm).1; omega
  go_loopw [5, 6] (fun y x wr => ∃ k : Nat, y = .int .i64 ((cntO m.kind m.dst k 0 : Nat) : Int) ∧ x = .int .i64 k ∧ k ≤ 8 ∧ Mx wr g1 m s t ∧ Mx wr g2 f s2 t2 ∧ Below w.heap.size w wr) (fun _ x _ => 8 - (intOf x).toNat)
  case atStart => exact ⟨0, by rw [cnt_zero]; rfl, rfl, by omega, HX.out, HY.out, HB.out⟩
  case round =>
    clear HX HY HB
    obtain ⟨k, rfl, rfl, hk, hx, hy, hb⟩ := hrel
    have HX := Lib.hid hx; have HY := Lib.hid hy; have HB := Lib.hid hb; clear hx hy hb
    by_cases h : k < 8
    · go_wp2
      rw [show (decide ((k : Int) < 8)) = true from decide_eq_true (by omega)]
      rename World => wo
      go_loopw [5, 7] (fun y x wr => ∃ j : Nat, y = .int .i64 ((cntO m.kind m.dst k j : Nat) : Int) ∧ x = .int .i64 j ∧ j ≤ 6 ∧ Mx wr g1 m s t ∧ Mx wr g2 f s2 t2 ∧ Below w.heap.size w wr) (fun _ x _ => 6 - (intOf x).toNat)
      case atStart => exact ⟨0, rfl, rfl, by omega, HX.out, HY.out, HB.out⟩
      case round =>
        clear HX HY HB
        obtain ⟨j, rfl, rfl, hj, hx, hy, hb⟩ := hrel
        have HX := Lib.hid hx; have HY := Lib.hid hy; have HB := Lib.hid hb; clear hx hy hb
        by_cases h2 : j < 6
        · obtain ⟨x0, x1, x2, x3, x4, x5, x6, x7, x8⟩ := HX.out.cs
          have HZ := Lib.hid (show Mx (wr.alloc (.cells #[.int .i64 (k : Int), .int .i64 (j : Int), .int .i64 m.src, .int .i64 m.inc, .int .i64 m.seq, .int .i64 m.va, .int .i64 m.vd, .slice none 0 0, .slice none 0 0] 29)) wr.heap.size (xM m k j) ⟨none, 0, 0⟩ ⟨none, 0, 0⟩ from hat _ _ _ rfl)
          have hb := bal (Below.refl wr.heap.size wr) (Nat.le_refl _) (.cells #[.int .i64 (k : Int), .int .i64 (j : Int), .int .i64 m.src, .int .i64 m.inc, .int .i64 m.seq, .int .i64 m.va, .int .i64 m.vd, .slice none 0 0, .slice none 0 0] 29)
          have HX := Lib.hid (HX.out.all hb)
          have HY := Lib.hid (HY.out.all hb)
          have HB := Lib.hid (HB.out.trans (hb.mono HB.out.size)); clear hb
          obtain ⟨y0, y1, y2, y3, y4, y5, y6, y7, y8⟩ := HX.out.cs
          obtain ⟨z0, z1, z2, z3, z4, z5, z6, z7, z8⟩ := HZ.out.cs
          go_wp2_with fail
          clear x0 x1 x2 x3 x4 x5 x6 x7 x8 y0 y1 y2 y3 y4 y5 y6 y7 y8 z0 z1 z2 z3 z4 z5 z6 z7 z8
          generalize wr.alloc (.cells #[.int .i64 (k : Int), .int .i64 (j : Int), .int .i64 m.src, .int .i64 m.inc, .int .i64 m.seq, .int .i64 m.va, .int .i64 m.vd, .slice none 0 0, .slice none 0 0] 29) = wx at HX HY HZ HB ⊢
          generalize wr.heap.size = gx at HZ ⊢
          refine (answers_c m (xM m k j) s t ⟨none, 0, 0⟩ ⟨none, 0, 0⟩ _).mono ?_
          rw [one_ans m k j h]
          rintro e w3 ⟨rfl, hb⟩
          have HX := Lib.hid (HX.out.all hb)
          have HY := Lib.hid (HY.out.all hb)
          have HZ := Lib.hid (HZ.out.all hb)
          have HB := Lib.hid (HB.out.trans (hb.mono HB.out.size)); clear hb
          by_cases hit : tgt m.kind = k ∧ m.dst = j
          · rw [decide_eq_true hit]
            have HT := Lib.hid hit; clear hit
            obtain ⟨c0, c1⟩ := cnt_hit m.kind m.dst k j HT.out
            have h5 := tgt_ge m.kind
            rw [HT.out.1] at h5
            have e1 : ((j : Int) == m.dst) = true := beq_iff_eq.2 HT.out.2.symm
            have e2 : ((j : Int) != m.dst) = false := by rw [bne, e1]; rfl
            have h7 : (5 : Int) ≤ (k : Int) := by omega
            obtain ⟨x0, x1, x2, x3, x4, x5, x6, x7, x8⟩ := HX.out.cs
            obtain ⟨z0, z1, z2, z3, z4, z5, z6, z7, z8⟩ := HZ.out.cs
            go_wp2_with fail
            refine (answers_c (xM m k j) m ⟨none, 0, 0⟩ ⟨none, 0, 0⟩ s t _).mono ?_
            rw [one_back m k j h5]
            rintro e w4 ⟨rfl, hb⟩
            have HX := Lib.hid (HX.out.all hb)
            have HY := Lib.hid (HY.out.all hb)
            have HZ := Lib.hid (HZ.out.all hb)
            have HB := Lib.hid (HB.out.trans (hb.mono HB.out.size)); clear hb
            clear x0 x1 x2 x3 x4 x5 x6 x7 x8 z0 z1 z2 z3 z4 z5 z6 z7 z8
            go_wp2
            go_roundw
            case rel => exact ⟨j + 1, by rw [c1]; rfl, by go_num, by omega, HX.out, HY.out, HB.out⟩
            case measure => simp [intOf]; omega
          · rw [decide_eq_false hit]
            have HT := Lib.hid (cnt_miss m.kind m.dst k j hit); clear hit
            go_wp2
            go_roundw
            case rel => exact ⟨j + 1, by rw [HT.out], by go_num, by omega, HX.out, HY.out, HB.out⟩
            case measure => simp [intOf]; omega
        · obtain rfl : j = 6 := by omega
          go_wp2
          exact ⟨⟨k + 1, by rw [cnt_row _ _ _ ⟨hd0, hd5⟩], by go_num, by omega, HX.out, HY.out, HB.out⟩, by simp [intOf]; omega⟩
    · obtain rfl : k = 8 := by omega
      obtain ⟨x0, x1, x2, x3, x4, x5, x6, x7, x8⟩ := HX.out.cs
      obtain ⟨y0, y1, y2, y3, y4, y5, y6, y7, y8⟩ := HY.out.cs
      rw [cnt_end _ _ hk0 hd0]
      obtain ⟨ct, hct⟩ : ∃ ct : Nat, ct = if m.kind < 5 then 1 else 0 := ⟨_, rfl⟩
      rw [← hct]
      go_wp2_with fail
      refine (answers_c m f s t s2 t2 _).mono ?_
      rintro e w3 ⟨rfl, hb⟩
      have HX := Lib.hid (HX.out.all hb)
      have HY := Lib.hid (HY.out.all hb)
      have HB := Lib.hid (HB.out.trans (hb.mono HB.out.size)); clear hb
      clear x0 x1 x2 x3 x4 x5 x6 x7 x8 y0 y1 y2 y3 y4 y5 y6 y7 y8
      obtain ⟨x0, x1, x2, x3, x4, x5, x6, x7, x8⟩ := HX.out.cs
      obtain ⟨y0, y1, y2, y3, y4, y5, y6, y7, y8⟩ := HY.out.cs
      cases hans : ansM m f with
      | true =>
        by_cases h5 : m.kind < 5
        · obtain rfl : ct = 1 := by rw [hct, if_pos h5]
          clear hct
          go_wp2
          all_goals go_ret
          all_goals refine ⟨?_, HB.out⟩
          all_goals first | rfl | simp [h5]
        · obtain rfl : ct = 0 := by rw [hct, if_neg h5]
          clear hct
          go_wp2
          all_goals go_ret
          all_goals refine ⟨?_, HB.out⟩
          all_goals first | rfl | simp [h5]
      | false =>
        have H0 := Lib.hid (ans_zero hans)
        by_cases h5 : m.kind < 5
        · obtain rfl : ct = 1 := by rw [hct, if_pos h5]
          clear hct
          go_wp2
          all_goals go_ret
          all_goals refine ⟨?_, HB.out⟩
          all_goals first | rfl | (simp; done) | (have h0 := H0.out (by assumption) (by assumption) (by assumption) (by assumption) (by assumption) (by assumption) (by assumption); simpa using h0)
        · obtain rfl : ct = 0 := by rw [hct, if_neg h5]
          clear hct
          go_wp2
          all_goals go_ret
          all_goals refine ⟨?_, HB.out⟩
          all_goals first | rfl | (simp [h5]; done) | (have h0 := H0.out (by assumption) (by assumption) (by assumption) (by assumption) (by assumption) (by assumption) (by assumption); simpa using h0)
end Go.Proofs.Ytldfccllpnplmaa.msgOne

namespace Go.Proofs.Ytldfccllpnplmaa
set_option maxRecDepth 20000
open Go.ChangeShapes Go.WideShapes Go.ChangeAt Go.RowKit
open Tg Cl Clw Bk Bkw Ms Msw

/-- a slice of cells among other things -/
theorem cells_of {H : Type} {enc : TypeId × Value → H} {W : World} {fuel : Nat} {t : TypeId} {cs : List Value} {x : DataW H × List MemPlace} (ht : Try.prog.underlying t = some (.slice 47))
    (h : DataW.trod enc Try.prog W 0 (fun _ => true) true fuel t cs = some x) :
    ∃ (s : S3) (rs : List C), cs = [.slice s.a s.n s.c] ∧ s.n = rs.length ∧ s.n ≤ s.c ∧ (s.c = 0 ∨ s.c * 24 ∈ x.1.weights Try.prog t) ∧ ((∀ y ∈ x.2, y.block < W.heap.size) → Rg.Rs KC W W.heap.size s.a rs) := by
  have ce : Try.prog.cellsOf 47 = 3 := by kernel_rfl
  have be : Try.prog.bytesOf 47 = 24 := by kernel_rfl
  rcases Deep.open_slice ht h with ⟨hcs, hx⟩ | ⟨a, len, cap', m, fl, D, Pl, hcs, _, hl, hm, hmm, hx, hrow⟩
  · subst hcs
    exact ⟨⟨none, 0, 0⟩, [], rfl, rfl, Nat.le_refl _, Or.inl rfl, fun _ => Rg.Rs.nil⟩
  · subst hcs
    obtain ⟨x1, x2⟩ := x
    simp only [Prod.mk.injEq] at hx
    obtain ⟨rfl, rfl⟩ := hx
    simp only [if_true] at hmm
    subst hmm
    have each : ∀ i, i < m → ∃ r : C, ∀ j u, j < 3 → (cellsC r)[j]? = some u → W.cell? (a.add (i * 3 + j)) = some u := by
      intro i hi
      obtain ⟨cs, h1, h2⟩ := hrow i hi
      rw [ce] at h1
      obtain ⟨_, hlen, hcell⟩ := World.cells?_some h1
      obtain ⟨r, rfl⟩ := trod_cellC hlen h2
      refine ⟨r, fun j u hj hu => ?_⟩
      have := hcell j hj
      rw [Deep.add_add] at this
      rw [this]
      exact hu
    let f : Nat → C := fun r => if h : r < m then (each r h).choose else (0, 0, 0)
    have hat : ∀ j, j < m → ∀ i u, i < 3 → (cellsC (f j))[i]? = some u → W.cell? (a.add (j * 3 + i)) = some u := by
      intro j hj
      have := (each j hj).choose_spec
      simp only [f, dif_pos hj]
      exact this
    refine ⟨⟨some a, len, m⟩, (List.range len).map f, rfl, by simp, hl, Or.inr ?_, fun hlt => ?_⟩
    · simp only [DataW.weights, ht, be, List.mem_cons]
      left
      simp
      omega
    · intro hpos
      simp only [List.length_map, List.length_range] at hpos
      obtain ⟨b, off, spot⟩ := a
      have hspot : spot = none := by simpa [Addr.add] using World.cell?_spot (hat 0 (by omega) 0 _ (by omega) rfl)
      subst hspot
      refine ⟨b, off, rfl, hlt (.cell b off) (List.mem_append_left _ (MemPlace.mem_row.2 ⟨0, by rw [ce]; omega, by simp⟩)), fun j u hu => ?_⟩
      rw [List.getElem?_map] at hu
      rcases Nat.lt_or_ge j len with hj | hj
      · rw [List.getElem?_range hj] at hu
        simp only [Option.map_some, Option.some.injEq] at hu
        subst hu
        intro i v hv
        have hi : i < 3 := Rg.lt_cells KC hv
        have := hat j (by omega) i v hi hv
        rw [add_plain] at this
        show W.cell? ⟨b, off + j * 3 + i, none⟩ = some v
        rw [Nat.add_assoc]
        exact this
      · rw [List.getElem?_eq_none (by simpa using hj)] at hu
        cases hu
theorem trod_ent4 {H : Type} {enc : TypeId × Value → H} {W : World} {fuel : Nat} {cs : List Value} (hlen : cs.length = 4) {x : DataW H × List MemPlace} (h : DataW.trod enc Try.prog W 0 (fun _ => true) true fuel 52 cs = some x) :
    ∃ e : E, WfE e ∧ cs = cellsE e := by
  obtain ⟨xs, k, hk, hxy, _, hxl, hfd⟩ := DataW.trod_struct Try.underlying52 h
  match xs, hxl, cs, hlen with
  | [y0, y1, y2], _, [v0, v1, v2, v3], _ =>
    have g0 := hfd 0 _ rfl
    have g1 := hfd 1 _ rfl
    have g2 := hfd 2 _ rfl
    simp only [show Try.prog.cellsOf 3 = 1 from by kernel_rfl, show Try.prog.cellsOf 49 = 2 from by kernel_rfl, show Try.prog.cellsOf 50 = 1 from by kernel_rfl, List.drop_zero, List.drop_succ_cons, List.take_succ_cons, List.take_zero, List.getElem?_cons_zero, List.getElem?_cons_succ] at g0 g1 g2
    obtain ⟨x0, e0, _, w0⟩ := DataW.trod_int Try.underlying3 g0
    obtain ⟨x3, e3, w3⟩ := trod_flt Try.underlying50 g2
    obtain ⟨zs, k2, hk2, _, _, hzl, hfz⟩ := DataW.trod_struct Try.underlying49 g1
    match zs, hzl with
    | [z0, z1], _ =>
      have q0 := hfz 0 _ rfl
      have q1 := hfz 1 _ rfl
      simp only [show Try.prog.cellsOf 3 = 1 from by kernel_rfl, List.drop_zero, List.drop_succ_cons, List.take_succ_cons, List.take_zero, List.getElem?_cons_zero, List.getElem?_cons_succ] at q0 q1
      obtain ⟨x1, e1, _, w1⟩ := DataW.trod_int Try.underlying3 q0
      obtain ⟨x2, e2, _, w2⟩ := DataW.trod_int Try.underlying3 q1
      obtain rfl : v0 = .int .i64 x0 := (List.cons.inj e0).1
      obtain rfl : v1 = .int .i64 x1 := (List.cons.inj e1).1
      obtain rfl : v2 = .int .i64 x2 := (List.cons.inj e2).1
      obtain rfl : v3 = .float .f64 x3 := (List.cons.inj e3).1
      exact ⟨⟨x0, x1, x2, x3⟩, ⟨i64_wf w0, i64_wf w1, i64_wf w2, f64_wf w3⟩, rfl⟩
/-- a slice of entries among other things -/
theorem ents_of {H : Type} {enc : TypeId × Value → H} {W : World} {fuel : Nat} {t : TypeId} {cs : List Value} {x : DataW H × List MemPlace} (ht : Try.prog.underlying t = some (.slice 52))
    (h : DataW.trod enc Try.prog W 0 (fun _ => true) true fuel t cs = some x) :
    ∃ (s : S3) (es : List E), cs = [.slice s.a s.n s.c] ∧ s.n = es.length ∧ s.n ≤ s.c ∧ (s.c = 0 ∨ s.c * 32 ∈ x.1.weights Try.prog t) ∧ (∀ e ∈ es, WfE e) ∧ ((∀ y ∈ x.2, y.block < W.heap.size) → Re W W.heap.size s.a es) := by
  have ce : Try.prog.cellsOf 52 = 4 := by kernel_rfl
  have be : Try.prog.bytesOf 52 = 32 := by kernel_rfl
  rcases Deep.open_slice ht h with ⟨hcs, hx⟩ | ⟨a, len, cap', m, fl, D, Pl, hcs, _, hl, hm, hmm, hx, hrow⟩
  · subst hcs
    exact ⟨⟨none, 0, 0⟩, [], rfl, rfl, Nat.le_refl _, Or.inl rfl, by simp, fun _ => Re.nil⟩
  · subst hcs
    obtain ⟨x1, x2⟩ := x
    simp only [Prod.mk.injEq] at hx
    obtain ⟨rfl, rfl⟩ := hx
    simp only [if_true] at hmm
    subst hmm
    have each : ∀ i, i < m → ∃ e : E, WfE e ∧ ∀ j u, j < 4 → (cellsE e)[j]? = some u → W.cell? (a.add (i * 4 + j)) = some u := by
      intro i hi
      obtain ⟨cs, h1, h2⟩ := hrow i hi
      rw [ce] at h1
      obtain ⟨_, hlen, hcell⟩ := World.cells?_some h1
      obtain ⟨e, hw, rfl⟩ := trod_ent4 hlen h2
      refine ⟨e, hw, fun j u hj hu => ?_⟩
      have := hcell j hj
      rw [Deep.add_add] at this
      rw [this]
      exact hu
    let f : Nat → E := fun r => if h : r < m then (each r h).choose else zero 0
    have hat : ∀ j, j < m → WfE (f j) ∧ ∀ i u, i < 4 → (cellsE (f j))[i]? = some u → W.cell? (a.add (j * 4 + i)) = some u := by
      intro j hj
      have := (each j hj).choose_spec
      simp only [f, dif_pos hj]
      exact this
    refine ⟨⟨some a, len, m⟩, (List.range len).map f, rfl, by simp, hl, Or.inr ?_, ?_, fun hlt => ?_⟩
    · simp only [DataW.weights, ht, be, List.mem_cons]
      left
      simp
      omega
    · intro x hx
      obtain ⟨j, hj, rfl⟩ := List.mem_map.1 hx
      exact (hat j (by have := List.mem_range.1 hj; omega)).1
    · intro hpos
      simp only [List.length_map, List.length_range] at hpos
      obtain ⟨b, off, spot⟩ := a
      have hspot : spot = none := by simpa [Addr.add] using World.cell?_spot ((hat 0 (by omega)).2 0 _ (by omega) rfl)
      subst hspot
      refine ⟨b, off, rfl, hlt (.cell b off) (List.mem_append_left _ (MemPlace.mem_row.2 ⟨0, by rw [ce]; omega, by simp⟩)), fun j u hu => ?_⟩
      rw [List.getElem?_map] at hu
      rcases Nat.lt_or_ge j len with hj | hj
      · rw [List.getElem?_range hj] at hu
        simp only [Option.map_some, Option.some.injEq] at hu
        subst hu
        refine four_of fun i u hi hu => ?_
        have := (hat j (by omega)).2 i u hi hu
        rw [add_plain] at this
        rw [Nat.add_assoc]
        exact this
      · rw [List.getElem?_eq_none (by simpa using hj)] at hu
        cases hu
/-- a message -/
theorem open_msg {H : Type} {enc : TypeId × Value → H} {W : World} {b0 : Nat} {v : Value} {d : DataW H} {p : List MemPlace}
    (hval : Value.okWide Try.prog W .any b0 29 v) (h : DataW.Trod enc Try.prog W 0 (fun _ => true) true 29 v d p) (hlt : ∀ x ∈ p, x.block < W.heap.size)
    (hw : ∀ n ∈ d.weights Try.prog 29, n ≤ reachBytes) :
    ∃ (m : M) (s t : S3), v = mvv m s t ∧ Mo W m s t := by
  obtain ⟨cs, rfl, hsz⟩ := okWide_struct Try.underlying29 hval
  obtain ⟨fuel, hf⟩ := h
  have ce : Try.prog.cellsOf 29 = 9 := by kernel_rfl
  rw [ce] at hsz
  obtain ⟨l, rfl⟩ : ∃ l : List Value, cs = l.toArray := ⟨cs.toList, by simp⟩
  have hlen : l.length = 9 := by simpa using hsz
  have hf : DataW.trod enc Try.prog W 0 (fun _ => true) true fuel 29 l = some (d, p) := by simpa [Value.cells] using hf
  obtain ⟨xs, k, hk, hxy, _, hxl, hfd⟩ := DataW.trod_struct Try.underlying29 hf
  match xs, hxl, l, hlen with
  | [y0, y1, y2, y3, y4, y5, y6, y7], _, [v0, v1, v2, v3, v4, v5, v6, v7, v8], _ =>
    have g0 := hfd 0 _ rfl
    have g1 := hfd 1 _ rfl
    have g2 := hfd 2 _ rfl
    have g3 := hfd 3 _ rfl
    have g4 := hfd 4 _ rfl
    have g5 := hfd 5 _ rfl
    have g6 := hfd 6 _ rfl
    have g7 := hfd 7 _ rfl
    simp only [show Try.prog.cellsOf 3 = 1 from by kernel_rfl, show Try.prog.cellsOf 25 = 2 from by kernel_rfl, show Try.prog.cellsOf 26 = 1 from by kernel_rfl, show Try.prog.cellsOf 27 = 1 from by kernel_rfl, List.drop_zero, List.drop_succ_cons, List.take_succ_cons, List.take_zero, List.getElem?_cons_zero, List.getElem?_cons_succ] at g0 g1 g2 g3 g4 g5 g6 g7
    obtain ⟨x0, e0, _, _⟩ := DataW.trod_int Try.underlying3 g0
    obtain ⟨x1, e1, _, _⟩ := DataW.trod_int Try.underlying3 g1
    obtain ⟨x2, e2, _, _⟩ := DataW.trod_int Try.underlying3 g2
    obtain ⟨x3, e3, _, _⟩ := DataW.trod_int Try.underlying3 g3
    obtain ⟨x4, e4, _, _⟩ := DataW.trod_int Try.underlying3 g4
    obtain ⟨x5, x6, e5, e6⟩ := trod_viewC g5
    obtain ⟨s, cl, e7, hn7, hc7, hb7, hr7⟩ := cells_of Try.underlying26 g6
    obtain ⟨t, bk, e8, hn8, hc8, hb8, hw8, hr8⟩ := ents_of Try.underlying27 g7
    obtain rfl : v0 = .int .i64 x0 := (List.cons.inj e0).1
    obtain rfl : v1 = .int .i64 x1 := (List.cons.inj e1).1
    obtain rfl : v2 = .int .i64 x2 := (List.cons.inj e2).1
    obtain rfl : v3 = .int .i64 x3 := (List.cons.inj e3).1
    obtain rfl : v4 = .int .i64 x4 := (List.cons.inj e4).1
    subst e5 e6
    obtain rfl := (List.cons.inj e7).1
    obtain rfl := (List.cons.inj e8).1
    simp only [Prod.mk.injEq] at hxy
    refine ⟨⟨x0, x1, x2, x3, x4, x5, x6, cl, bk⟩, s, t, rfl, ⟨hn7, hc7, ?_, hr7 fun y hy => hlt y ?_⟩, ⟨hn8, hc8, ?_, hw8, hr8 fun y hy => hlt y ?_⟩⟩
    · rcases hb7 with h | h
      · omega
      · have := hw (s.c * 24) (by
          rw [hxy.1]
          simp only [DataW.weights, Try.underlying29, DataW.weightsEach, List.map_cons, List.map_nil, List.mem_append]
          simp [h])
        unfold reachBytes at this
        omega
    · rw [hxy.2]
      simp [hy]
    · rcases hb8 with h | h
      · omega
      · have := hw (t.c * 32) (by
          rw [hxy.1]
          simp only [DataW.weights, Try.underlying29, DataW.weightsEach, List.map_cons, List.map_nil, List.mem_append]
          simp [h])
        unfold reachBytes at this
        omega
    · rw [hxy.2]
      simp [hy]
theorem sized_ofM {H : Type} {ts : List TypeId} {ds : List (DataW H)} (h : (DataW.weightsEach Try.prog ts ds).all (· ≤ reachBytes) = true) {j : Nat} {t : TypeId} {d : DataW H} (ht : ts[j]? = some t) (hd : ds[j]? = some d) : ∀ n ∈ d.weights Try.prog t, n ≤ reachBytes := by
  intro n hn
  have := List.all_eq_true.1 h n (DataW.weights_mem_each ht hd n hn)
  simpa using this
end Go.Proofs.Ytldfccllpnplmaa

namespace Go.Proofs.Ytldfccllpnplmaa
open Go.ChangeShapes Go.WideShapes Go.ChangeAt Go.RowKit

theorem msgOne_own : ownKnob Try.prog.godebug = none := by kernel_rfl
theorem msgOne_laid : laidOutB Try.prog = true := by kernel_rfl

set_option maxRecDepth 100000 in
theorem msgOne_lifted (os : Os) (started : os.Started) (H : Type) (enc : TypeId × Value → H) :
    ReturnsInHanded {} Try.checked os 8 .any (Rows.msgOneSpec.pre6 enc Try.prog Try.f8 Rows.msgOneRow.domain false) (Rows.msgOneSpec.post enc Try.prog Try.f8 false true false false) := by
  refine returnsInHanded_of_change_sized (C := Try.checked) msgOne_own started (by kernel_rfl) Try.func8
    (ChangeSpec.witness6 (enc := enc) (C := Try.checked) false ⟨#[], #[.agg #[.int .i64 0, .int .i64 0, .int .i64 0, .int .i64 0, .int .i64 0, .int .i64 0, .int .i64 0, .slice none 0 0, .slice none 0 0], .agg #[.int .i64 0, .int .i64 0, .int .i64 0, .int .i64 0, .int .i64 0, .int .i64 0, .int .i64 0, .slice none 0 0, .slice none 0 0]], []⟩ 8 (by kernel_rfl) (by kernel_rfl) (by kernel_rfl) (by kernel_rfl)) ?_
  intro W base args ds gs before hval0 hW _ hsz0 _
  have hsz : (DataW.weightsEach Try.prog (Try.f8.params.toList ++ Rows.msgOneSpec.plain.varTypes Try.prog) (ds ++ gs)).all (· ≤ reachBytes) = true := hsz0
  have hval : ∀ (j : Nat) t v, Try.f8.params[j]? = some t → args[j]? = some v → Value.okWide Try.prog W .any base t v := hval0
  have hW' := hW
  obtain ⟨p, q, hA0, hV, rfl, hfz, hnd⟩ := hW
  have hA : DataW.TrodAll enc Try.prog W 0 (fun _ => true) true Try.f8.params.toList args.toList ds p := hA0
  rw [Try.params8] at hA hval hsz
  obtain ⟨v0, vs0, d0, ds0, p0, q0, hargs, rfl, rfl, h0, r0⟩ := trodAll_cons hA
  obtain ⟨v1, vs1, d1, ds1, p1, q1, rfl, rfl, rfl, h1, r1⟩ := trodAll_cons r0
  obtain ⟨rfl, rfl, rfl⟩ := trodAll_nil r1
  obtain rfl : args = #[v0, v1] := by cases args; simp_all
  obtain ⟨rfl, rfl⟩ := trodVars_none hV
  clear hA0 hval0
  simp only [List.append_nil] at hW'
  have hk0 := h0
  have hlt0 : ∀ x ∈ p0, x.block < W.heap.size := (fun x hx => by have := hW'.lt x (by simp [hx]); simpa using this)
  obtain ⟨m0, s0, t0, rfl, hm0⟩ := open_msg (hval 0 29 v0 rfl rfl) h0 hlt0 (sized_ofM hsz (j := 0) rfl rfl)
  have hk1 := h1
  have hlt1 : ∀ x ∈ p1, x.block < W.heap.size := (fun x hx => by have := hW'.lt x (by simp [hx]); simpa using this)
  obtain ⟨m1, s1, t1, rfl, hm1⟩ := open_msg (hval 1 29 v1 rfl rfl) h1 hlt1 (sized_ofM hsz (j := 1) rfl rfl)
  refine (msgOne.walk W m0 s0 t0 hm0 m1 s1 t1 hm1).mono fun e W' ⟨he, hb⟩ => ?_
  subst he
  exact ⟨_, rfl, _, _, _, [], _, [], hW', trodAll_cons_mk (shut_bool Try.underlying4 _) trodAll_mk0, (trodAll_cons_mk (Below.trod msgOne_laid (by kernel_rfl) (of_decide_eq_true (by kernel_rfl)) hk0 hb hlt0) (trodAll_cons_mk (Below.trod msgOne_laid (by kernel_rfl) (of_decide_eq_true (by kernel_rfl)) hk1 hb hlt1) trodAll_mk0)), rfl, hb.frame _, fun h => by cases h⟩

theorem msgOne_proved : Rows.MsgOneSaid :=
  OpenClaim.holds_of_wide 8 Try.f8 rfl rfl rfl rfl rfl rfl rfl ⟨rfl, rfl, rfl, rfl, rfl⟩ rfl rfl rfl rfl rfl (by kernel_rfl) Try.func8 (by kernel_rfl)
    (of_decide_eq_true (by kernel_rfl)) (by unfold Func.isWrapper; first | (rw [if_pos (by decide +kernel)]; kernel_rfl) | (rw [if_neg (by decide +kernel)]; exact ⟨rfl, rfl⟩))
    (fun os started H enc _ => msgOne_lifted os started H enc)
#print axioms msgOne_proved
end Go.Proofs.Ytldfccllpnplmaa
