/- A frame has at least twelve bytes and at most forty, seven more for each cell and nineteen more for each entry; with another node to whom it goes just that changes. Conditions: none. Conditions: none. -/
import Derived.Test.YtldfccllpnplmaaRows
import Derived.Test.YtldfccllpnplmaaG01
import Derived.Test.YtldfccllpnplmaaG17
import Derived.Test.YtldfccllpnplmaaG23
import Derived.Test.YtldfccllpnplmaaG24
import Derived.Test.YtldfccllpnplmaaG29
import Derived.WalkKit
import Derived.ProofKit
import Derived.OpenShut
import Derived.Laws.Cover2
import Derived.SizedLaws
import Derived.JoinedCond
import Derived.Carry
set_option linter.unusedSimpArgs false
set_option linter.unusedVariables false
namespace Go.Proofs.Ytldfccllpnplmaa.msgShort
set_option maxRecDepth 20000
open Go.RowKit
open Cl Bk Ms Clw Bkw Msw
open Chgw (hat hbe)
open Rg (bal)

set_option maxHeartbeats 1000000 in
theorem walk (w : World) (m : M) (s t : S3) (hm : Mo w m s t) (to_ : Int) (_ha : (Lit.int .i64 to_).wf = true) :
    Calls Try.prog 9 #[mvv m s t, .int .i64 to_] w fun e w' => e = .returned (.bool true) ∧ Below w.heap.size w w' := by
  have HB := Lib.hid (Below.refl w.heap.size w)
  have HM := Lib.hid hm; clear hm
  unfold mvv
  go_enter Try.func9, Try.ntmps9
  go_wp2_with fail
  have HX := Lib.hid (show Mx (w.alloc (.cells #[.int .i64 m.kind, .int .i64 m.src, .int .i64 m.dst, .int .i64 m.inc, .int .i64 m.seq, .int .i64 m.va, .int .i64 m.vd, .slice s.a s.n s.c, .slice t.a t.n t.c] 29)) w.heap.size m s t from hat _ _ _ rfl)
  have hb := bal (Below.refl w.heap.size w) (Nat.le_refl _) (.cells #[.int .i64 m.kind, .int .i64 m.src, .int .i64 m.dst, .int .i64 m.inc, .int .i64 m.seq, .int .i64 m.va, .int .i64 m.vd, .slice s.a s.n s.c, .slice t.a t.n t.c] 29)
  have HM := Lib.hid (HM.out.all hb)
  have HB := Lib.hid (HB.out.trans (hb.mono HB.out.size)); clear hb
  generalize w.alloc (.cells #[.int .i64 m.kind, .int .i64 m.src, .int .i64 m.dst, .int .i64 m.inc, .int .i64 m.seq, .int .i64 m.va, .int .i64 m.vd, .slice s.a s.n s.c, .slice t.a t.n t.c] 29) = v1 at HM HB HX ⊢
  generalize w.heap.size = g1 at HX ⊢
  refine (msg_alive_c _).mono ?_
  rintro e w1 ⟨rfl, hb⟩
  have HM := Lib.hid (HM.out.all hb)
  have HX := Lib.hid (HX.out.all hb)
  have HB := Lib.hid (HB.out.trans (hb.mono HB.out.size)); clear hb
  obtain ⟨x0, x1, x2, x3, x4, x5, x6, x7, x8⟩ := HX.out.cs
  go_wp2_with fail
  refine (frame_c m s t _ HM.out).mono ?_
  rintro e w2 ⟨A, n, c, rfl, hn, hc, hr, hb⟩
  have HM := Lib.hid (HM.out.all hb)
  have HX := Lib.hid (HX.out.all hb)
  have HB := Lib.hid (HB.out.trans (hb.mono HB.out.size)); clear hb
  clear x0 x1 x2 x3 x4 x5 x6 x7 x8
  cases hrm : rightM m with
  | false =>
    rw [(fr_no hrm).1]
    clear hn hc hr
    go_wp2
    go_ret
    exact ⟨rfl, HB.out⟩
  | true =>
    rw [(fr_yes hrm).1]
    have hl := frB_len m
    rw [(fr_yes hrm).2] at hn hr hl
    rw [← hn] at hl
    have HR := Lib.hid (hr)
    have HN := Lib.hid hn; have HC := Lib.hid hc; have HL := Lib.hid hl; clear hn hc hr hl
    obtain ⟨x0, x1, x2, x3, x4, x5, x6, x7, x8⟩ := HX.out.cs
    obtain ⟨hz1, hz2⟩ := frame_size hrm
    rw [← HN.out] at hz1 hz2
    have hsn : s.n ≤ 6 := by rw [HM.out.1.1]; exact cl_len ((rightM_iff m).1 hrm).2.2.1
    have htn : t.n ≤ 4 := by rw [HM.out.2.1]; exact book_len ((rightM_iff m).1 hrm).2.2.2.1
    rw [← HM.out.1.1, ← HM.out.2.1] at hz2
    have hw1 : wrap64 (7 * (s.n : Int)) = 7 * s.n := by unfold wrap64; omega
    have hw2 : wrap64 (19 * (t.n : Int)) = 19 * t.n := by unfold wrap64; omega
    have hw3 : wrap64 (40 + 7 * (s.n : Int)) = 40 + 7 * s.n := by unfold wrap64; omega
    have hw4 : wrap64 (40 + 7 * (s.n : Int) + 19 * (t.n : Int)) = 40 + 7 * s.n + 19 * t.n := by unfold wrap64; omega
    have hz3 : (12 : Int) ≤ (n : Int) := by omega
    have hz4 : (n : Int) ≤ 40 + 7 * s.n + 19 * t.n := by omega
    go_wp2_with fail
    clear hz1 hz2 hsn htn hw1 hw2 hw3 hw4 hz3 hz4
    refine (copy_c m s t _ HM.out).mono ?_
    rintro e w3 ⟨s2, t2, rfl, hc2, ht2, hb⟩
    have HM := Lib.hid (HM.out.all hb)
    have HX := Lib.hid (HX.out.all hb)
    have HR := Lib.hid ((HR.out.below hb).more hb.size)
    have HB := Lib.hid (HB.out.trans (hb.mono HB.out.size)); clear hb
    clear x0 x1 x2 x3 x4 x5 x6 x7 x8
    have HM2 := Lib.hid (show Mo _ (toM m to_) s2 t2 from retCo_mo HM.out hc2 ht2)
    clear hc2 ht2
    unfold mvv
    go_wp2_with fail
    have HY := Lib.hid (show Mx (w3.alloc (.cells #[.int .i64 m.kind, .int .i64 m.src, .int .i64 to_, .int .i64 m.inc, .int .i64 m.seq, .int .i64 m.va, .int .i64 m.vd, .slice s2.a s2.n s2.c, .slice t2.a t2.n t2.c] 29)) w3.heap.size (toM m to_) s2 t2 from hat _ _ _ rfl)
    have hb := bal (Below.refl w3.heap.size w3) (Nat.le_refl _) (.cells #[.int .i64 m.kind, .int .i64 m.src, .int .i64 to_, .int .i64 m.inc, .int .i64 m.seq, .int .i64 m.va, .int .i64 m.vd, .slice s2.a s2.n s2.c, .slice t2.a t2.n t2.c] 29)
    have HM := Lib.hid (HM.out.all hb)
    have HX := Lib.hid (HX.out.all hb)
    have HR := Lib.hid ((HR.out.below hb).more hb.size)
    have HM2 := Lib.hid (HM2.out.all hb)
    have HB := Lib.hid (HB.out.trans (hb.mono HB.out.size)); clear hb
    generalize w3.alloc (.cells #[.int .i64 m.kind, .int .i64 m.src, .int .i64 to_, .int .i64 m.inc, .int .i64 m.seq, .int .i64 m.va, .int .i64 m.vd, .slice s2.a s2.n s2.c, .slice t2.a t2.n t2.c] 29) = v2 at HM HX HR HM2 HB HY ⊢
    generalize w3.heap.size = g2 at HY ⊢
    refine (frame_c (toM m to_) s2 t2 _ HM2.out).mono ?_
    rintro e w4 ⟨A4, n4, c4, rfl, hn4, hc4, hr4, hb⟩
    have HM := Lib.hid (HM.out.all hb)
    have HX := Lib.hid (HX.out.all hb)
    have HR := Lib.hid ((HR.out.below hb).more hb.size)
    have HM2 := Lib.hid (HM2.out.all hb)
    have HY := Lib.hid (HY.out.all hb)
    have HB := Lib.hid (HB.out.trans (hb.mono HB.out.size)); clear hb
    by_cases hto : 0 ≤ to_ ∧ to_ ≤ 5
    · have hrt : rightM (toM m to_) = true := by rw [to_right hrm, decide_eq_true hto]
      rw [(fr_yes hrt).1]
      have hl4 := frB_len (toM m to_)
      rw [(fr_yes hrt).2] at hn4 hr4 hl4
      rw [← hn4] at hl4
      have HR4 := Lib.hid (hr4)
      have HN4 := Lib.hid hn4; have HC4 := Lib.hid hc4; have HL4 := Lib.hid hl4; clear hn4 hc4 hr4 hl4
      have h1 : 0 ≤ to_ := hto.1
      have h2 : to_ ≤ 5 := hto.2
      go_wp2_with fail
      refine (read_c A4 n4 c4 _ HN4.out HC4.out _ HR4.out (by have := HL4.out; unfold big; omega)).mono ?_
      rw [readF_yes (HM2.out.ok hrt), retRd_some]
      rintro e w5 ⟨s5, t5, rfl, hm5, hb⟩
      have HM := Lib.hid (HM.out.all hb)
      have HX := Lib.hid (HX.out.all hb)
      have HR := Lib.hid ((HR.out.below hb).more hb.size)
      have HM2 := Lib.hid (HM2.out.all hb)
      have HY := Lib.hid (HY.out.all hb)
      have HR4 := Lib.hid ((HR4.out.below hb).more hb.size)
      have HB := Lib.hid (HB.out.trans (hb.mono HB.out.size)); clear hb
      have HM5 := Lib.hid (hm5)
      clear hm5
      unfold mvv
      have hb := bal (Below.refl w5.heap.size w5) (Nat.le_refl _) (.cells #[.int .i64 (cnM (toM m to_)).kind, .int .i64 (cnM (toM m to_)).src, .int .i64 (cnM (toM m to_)).dst, .int .i64 (cnM (toM m to_)).inc, .int .i64 (cnM (toM m to_)).seq, .int .i64 (cnM (toM m to_)).va, .int .i64 (cnM (toM m to_)).vd, .slice s5.a s5.n s5.c, .slice t5.a t5.n t5.c] 29)
      have HXa := Lib.hid (HX.out.all hb)
      clear hb
      have hb := bal (Below.refl w5.heap.size w5) (Nat.le_refl _) (.cells #[.int .i64 (cnM (toM m to_)).kind, .int .i64 (cnM (toM m to_)).src, .int .i64 m.dst, .int .i64 (cnM (toM m to_)).inc, .int .i64 (cnM (toM m to_)).seq, .int .i64 (cnM (toM m to_)).va, .int .i64 (cnM (toM m to_)).vd, .slice s5.a s5.n s5.c, .slice t5.a t5.n t5.c] 29)
      have HZ := Lib.hid (show Mx (w5.alloc (.cells #[.int .i64 (cnM (toM m to_)).kind, .int .i64 (cnM (toM m to_)).src, .int .i64 m.dst, .int .i64 (cnM (toM m to_)).inc, .int .i64 (cnM (toM m to_)).seq, .int .i64 (cnM (toM m to_)).va, .int .i64 (cnM (toM m to_)).vd, .slice s5.a s5.n s5.c, .slice t5.a t5.n t5.c] 29)) w5.heap.size (toM (cnM (toM m to_)) m.dst) s5 t5 from hat _ _ _ rfl)
      have HM5 := Lib.hid (show Mo _ (toM (cnM (toM m to_)) m.dst) s5 t5 from HM5.out)
      have HM := Lib.hid (HM.out.all hb)
      have HX := Lib.hid (HX.out.all hb)
      have HR := Lib.hid ((HR.out.below hb).more hb.size)
      have HM2 := Lib.hid (HM2.out.all hb)
      have HY := Lib.hid (HY.out.all hb)
      have HR4 := Lib.hid ((HR4.out.below hb).more hb.size)
      have HM5 := Lib.hid (HM5.out.all hb)
      have HB := Lib.hid (HB.out.trans (hb.mono HB.out.size)); clear hb
      obtain ⟨y0, y1, y2, y3, y4, y5, y6, y7, y8⟩ := HXa.out.cs
      obtain ⟨x0, x1, x2, x3, x4, x5, x6, x7, x8⟩ := HX.out.cs
      obtain ⟨z0, z1, z2, z3, z4, z5, z6, z7, z8⟩ := HZ.out.cs
      go_wp2_with fail
      refine (same_c (toM (cnM (toM m to_)) m.dst) m s5 t5 s t _ HM5.out HM.out).mono ?_
      rw [to_back]
      rintro e w6 ⟨rfl, hb⟩
      have HM := Lib.hid (HM.out.all hb)
      have HX := Lib.hid (HX.out.all hb)
      have HR := Lib.hid ((HR.out.below hb).more hb.size)
      have HM2 := Lib.hid (HM2.out.all hb)
      have HY := Lib.hid (HY.out.all hb)
      have HR4 := Lib.hid ((HR4.out.below hb).more hb.size)
      have HM5 := Lib.hid (HM5.out.all hb)
      have HB := Lib.hid (HB.out.trans (hb.mono HB.out.size)); clear hb
      clear HXa
      clear x0 x1 x2 x3 x4 x5 x6 x7 x8 y0 y1 y2 y3 y4 y5 y6 y7 y8 z0 z1 z2 z3 z4 z5 z6 z7 z8
      have hcv1 := str8' c HR.out HN.out
      have hcv2 := str8' c4 HR4.out HN4.out
      obtain ⟨x0, x1, x2, x3, x4, x5, x6, x7, x8⟩ := HX.out.cs
      have HF := Lib.hid HB.out
      have hfr := to_frame (HM.out.ok hrm) to_ hto
      by_cases hd : to_ = m.dst
      · have hsn : ((str (frameM m)).toList == (str (frameM (toM m to_))).toList) = true := by rw [str_toList, str_toList]; exact beq_iff_eq.2 (hfr.2 hd)
        subst hd
        go_wp2
        go_ret
        exact ⟨rfl, HF.out⟩
      · have hsn : ((str (frameM m)).toList == (str (frameM (toM m to_))).toList) = false := by rw [str_toList, str_toList]; exact beq_eq_false_iff_ne.2 fun h => hd (hfr.1 h)
        have e1 : (to_ == m.dst) = false := beq_eq_false_iff_ne.2 hd
        go_wp2
        go_ret
        exact ⟨rfl, HF.out⟩
    · have hrt : rightM (toM m to_) = false := by rw [to_right hrm, decide_eq_false hto]
      rw [(fr_no hrt).1]
      rw [(fr_no hrt).2] at hn4
      obtain rfl : n4 = 0 := hn4
      clear hc4 hr4
      rcases Int.lt_or_le to_ 0 with h1 | h1
      · go_wp2
        go_ret
        exact ⟨rfl, HB.out⟩
      · have h2 : 5 < to_ := by omega
        go_wp2
        go_ret
        exact ⟨rfl, HB.out⟩
end Go.Proofs.Ytldfccllpnplmaa.msgShort

namespace Go.Proofs.Ytldfccllpnplmaa
set_option maxRecDepth 20000
open Go.ChangeShapes Go.WideShapes Go.ChangeAt Go.RowKit
open Tg Cl Clw Bk Bkw Ms Msw

/-- a slice of cells among other things -/
theorem cells_of {H : Type} {enc : TypeId × Value → H} {W : World} {fuel : Nat} {t : TypeId} {cs : List Value} {x : DataW H × List MemPlace} (ht : Try.prog.underlying t = some (.slice 47))
    (h : DataW.trod enc Try.prog W 0 (fun _ => true) true fuel t cs = some x) :
    ∃ (s : S3) (rs : List C), cs = [.slice s.a s.n s.c] ∧ s.n = rs.length ∧ s.n ≤ s.c ∧ (s.c = 0 ∨ s.c * 24 ∈ x.1.weights Try.prog t) ∧ ((∀ y ∈ x.2, y.block < W.heap.size) → Rg.Rs KC W W.heap.size s.a rs) := by
  have ce : Try.prog.cellsOf 47 = 3 := by kernel_rfl
  have be : Try.prog.bytesOf 47 = 24 := by kernel_rfl
  rcases Deep.open_slice ht h with ⟨hcs, hx⟩ | ⟨a, len, cap', m, fl, D, Pl, hcs, _, hl, hm, hmm, hx, hrow⟩
  · subst hcs
    exact ⟨⟨none, 0, 0⟩, [], rfl, rfl, Nat.le_refl _, Or.inl rfl, fun _ => Rg.Rs.nil⟩
  · subst hcs
    obtain ⟨x1, x2⟩ := x
    simp only [Prod.mk.injEq] at hx
    obtain ⟨rfl, rfl⟩ := hx
    simp only [if_true] at hmm
    subst hmm
    have each : ∀ i, i < m → ∃ r : C, ∀ j u, j < 3 → (cellsC r)[j]? = some u → W.cell? (a.add (i * 3 + j)) = some u := by
      intro i hi
      obtain ⟨cs, h1, h2⟩ := hrow i hi
      rw [ce] at h1
      obtain ⟨_, hlen, hcell⟩ := World.cells?_some h1
      obtain ⟨r, rfl⟩ := trod_cellC hlen h2
      refine ⟨r, fun j u hj hu => ?_⟩
      have := hcell j hj
      rw [Deep.add_add] at this
      rw [this]
      exact hu
    let f : Nat → C := fun r => if h : r < m then (each r h).choose else (0, 0, 0)
    have hat : ∀ j, j < m → ∀ i u, i < 3 → (cellsC (f j))[i]? = some u → W.cell? (a.add (j * 3 + i)) = some u := by
      intro j hj
      have := (each j hj).choose_spec
      simp only [f, dif_pos hj]
      exact this
    refine ⟨⟨some a, len, m⟩, (List.range len).map f, rfl, by simp, hl, Or.inr ?_, fun hlt => ?_⟩
    · simp only [DataW.weights, ht, be, List.mem_cons]
      left
      simp
      omega
    · intro hpos
      simp only [List.length_map, List.length_range] at hpos
      obtain ⟨b, off, spot⟩ := a
      have hspot : spot = none := by simpa [Addr.add] using World.cell?_spot (hat 0 (by omega) 0 _ (by omega) rfl)
      subst hspot
      refine ⟨b, off, rfl, hlt (.cell b off) (List.mem_append_left _ (MemPlace.mem_row.2 ⟨0, by rw [ce]; omega, by simp⟩)), fun j u hu => ?_⟩
      rw [List.getElem?_map] at hu
      rcases Nat.lt_or_ge j len with hj | hj
      · rw [List.getElem?_range hj] at hu
        simp only [Option.map_some, Option.some.injEq] at hu
        subst hu
        intro i v hv
        have hi : i < 3 := Rg.lt_cells KC hv
        have := hat j (by omega) i v hi hv
        rw [add_plain] at this
        show W.cell? ⟨b, off + j * 3 + i, none⟩ = some v
        rw [Nat.add_assoc]
        exact this
      · rw [List.getElem?_eq_none (by simpa using hj)] at hu
        cases hu
theorem trod_ent4 {H : Type} {enc : TypeId × Value → H} {W : World} {fuel : Nat} {cs : List Value} (hlen : cs.length = 4) {x : DataW H × List MemPlace} (h : DataW.trod enc Try.prog W 0 (fun _ => true) true fuel 52 cs = some x) :
    ∃ e : E, WfE e ∧ cs = cellsE e := by
  obtain ⟨xs, k, hk, hxy, _, hxl, hfd⟩ := DataW.trod_struct Try.underlying52 h
  match xs, hxl, cs, hlen with
  | [y0, y1, y2], _, [v0, v1, v2, v3], _ =>
    have g0 := hfd 0 _ rfl
    have g1 := hfd 1 _ rfl
    have g2 := hfd 2 _ rfl
    simp only [show Try.prog.cellsOf 3 = 1 from by kernel_rfl, show Try.prog.cellsOf 49 = 2 from by kernel_rfl, show Try.prog.cellsOf 50 = 1 from by kernel_rfl, List.drop_zero, List.drop_succ_cons, List.take_succ_cons, List.take_zero, List.getElem?_cons_zero, List.getElem?_cons_succ] at g0 g1 g2
    obtain ⟨x0, e0, _, w0⟩ := DataW.trod_int Try.underlying3 g0
    obtain ⟨x3, e3, w3⟩ := trod_flt Try.underlying50 g2
    obtain ⟨zs, k2, hk2, _, _, hzl, hfz⟩ := DataW.trod_struct Try.underlying49 g1
    match zs, hzl with
    | [z0, z1], _ =>
      have q0 := hfz 0 _ rfl
      have q1 := hfz 1 _ rfl
      simp only [show Try.prog.cellsOf 3 = 1 from by kernel_rfl, List.drop_zero, List.drop_succ_cons, List.take_succ_cons, List.take_zero, List.getElem?_cons_zero, List.getElem?_cons_succ] at q0 q1
      obtain ⟨x1, e1, _, w1⟩ := DataW.trod_int Try.underlying3 q0
      obtain ⟨x2, e2, _, w2⟩ := DataW.trod_int Try.underlying3 q1
      obtain rfl : v0 = .int .i64 x0 := (List.cons.inj e0).1
      obtain rfl : v1 = .int .i64 x1 := (List.cons.inj e1).1
      obtain rfl : v2 = .int .i64 x2 := (List.cons.inj e2).1
      obtain rfl : v3 = .float .f64 x3 := (List.cons.inj e3).1
      exact ⟨⟨x0, x1, x2, x3⟩, ⟨i64_wf w0, i64_wf w1, i64_wf w2, f64_wf w3⟩, rfl⟩
/-- a slice of entries among other things -/
theorem ents_of {H : Type} {enc : TypeId × Value → H} {W : World} {fuel : Nat} {t : TypeId} {cs : List Value} {x : DataW H × List MemPlace} (ht : Try.prog.underlying t = some (.slice 52))
    (h : DataW.trod enc Try.prog W 0 (fun _ => true) true fuel t cs = some x) :
    ∃ (s : S3) (es : List E), cs = [.slice s.a s.n s.c] ∧ s.n = es.length ∧ s.n ≤ s.c ∧ (s.c = 0 ∨ s.c * 32 ∈ x.1.weights Try.prog t) ∧ (∀ e ∈ es, WfE e) ∧ ((∀ y ∈ x.2, y.block < W.heap.size) → Re W W.heap.size s.a es) := by
  have ce : Try.prog.cellsOf 52 = 4 := by kernel_rfl
  have be : Try.prog.bytesOf 52 = 32 := by kernel_rfl
  rcases Deep.open_slice ht h with ⟨hcs, hx⟩ | ⟨a, len, cap', m, fl, D, Pl, hcs, _, hl, hm, hmm, hx, hrow⟩
  · subst hcs
    exact ⟨⟨none, 0, 0⟩, [], rfl, rfl, Nat.le_refl _, Or.inl rfl, by simp, fun _ => Re.nil⟩
  · subst hcs
    obtain ⟨x1, x2⟩ := x
    simp only [Prod.mk.injEq] at hx
    obtain ⟨rfl, rfl⟩ := hx
    simp only [if_true] at hmm
    subst hmm
    have each : ∀ i, i < m → ∃ e : E, WfE e ∧ ∀ j u, j < 4 → (cellsE e)[j]? = some u → W.cell? (a.add (i * 4 + j)) = some u := by
      intro i hi
      obtain ⟨cs, h1, h2⟩ := hrow i hi
      rw [ce] at h1
      obtain ⟨_, hlen, hcell⟩ := World.cells?_some h1
      obtain ⟨e, hw, rfl⟩ := trod_ent4 hlen h2
      refine ⟨e, hw, fun j u hj hu => ?_⟩
      have := hcell j hj
      rw [Deep.add_add] at this
      rw [this]
      exact hu
    let f : Nat → E := fun r => if h : r < m then (each r h).choose else zero 0
    have hat : ∀ j, j < m → WfE (f j) ∧ ∀ i u, i < 4 → (cellsE (f j))[i]? = some u → W.cell? (a.add (j * 4 + i)) = some u := by
      intro j hj
      have := (each j hj).choose_spec
      simp only [f, dif_pos hj]
      exact this
    refine ⟨⟨some a, len, m⟩, (List.range len).map f, rfl, by simp, hl, Or.inr ?_, ?_, fun hlt => ?_⟩
    · simp only [DataW.weights, ht, be, List.mem_cons]
      left
      simp
      omega
    · intro x hx
      obtain ⟨j, hj, rfl⟩ := List.mem_map.1 hx
      exact (hat j (by have := List.mem_range.1 hj; omega)).1
    · intro hpos
      simp only [List.length_map, List.length_range] at hpos
      obtain ⟨b, off, spot⟩ := a
      have hspot : spot = none := by simpa [Addr.add] using World.cell?_spot ((hat 0 (by omega)).2 0 _ (by omega) rfl)
      subst hspot
      refine ⟨b, off, rfl, hlt (.cell b off) (List.mem_append_left _ (MemPlace.mem_row.2 ⟨0, by rw [ce]; omega, by simp⟩)), fun j u hu => ?_⟩
      rw [List.getElem?_map] at hu
      rcases Nat.lt_or_ge j len with hj | hj
      · rw [List.getElem?_range hj] at hu
        simp only [Option.map_some, Option.some.injEq] at hu
        subst hu
        refine four_of fun i u hi hu => ?_
        have := (hat j (by omega)).2 i u hi hu
        rw [add_plain] at this
        rw [Nat.add_assoc]
        exact this
      · rw [List.getElem?_eq_none (by simpa using hj)] at hu
        cases hu
/-- a message -/
theorem open_msg {H : Type} {enc : TypeId × Value → H} {W : World} {b0 : Nat} {v : Value} {d : DataW H} {p : List MemPlace}
    (hval : Value.okWide Try.prog W .any b0 29 v) (h : DataW.Trod enc Try.prog W 0 (fun _ => true) true 29 v d p) (hlt : ∀ x ∈ p, x.block < W.heap.size)
    (hw : ∀ n ∈ d.weights Try.prog 29, n ≤ reachBytes) :
    ∃ (m : M) (s t : S3), v = mvv m s t ∧ Mo W m s t := by
  obtain ⟨cs, rfl, hsz⟩ := okWide_struct Try.underlying29 hval
  obtain ⟨fuel, hf⟩ := h
  have ce : Try.prog.cellsOf 29 = 9 := by kernel_rfl
  rw [ce] at hsz
  obtain ⟨l, rfl⟩ : ∃ l : List Value, cs = l.toArray := ⟨cs.toList, by simp⟩
  have hlen : l.length = 9 := by simpa using hsz
  have hf : DataW.trod enc Try.prog W 0 (fun _ => true) true fuel 29 l = some (d, p) := by simpa [Value.cells] using hf
  obtain ⟨xs, k, hk, hxy, _, hxl, hfd⟩ := DataW.trod_struct Try.underlying29 hf
  match xs, hxl, l, hlen with
  | [y0, y1, y2, y3, y4, y5, y6, y7], _, [v0, v1, v2, v3, v4, v5, v6, v7, v8], _ =>
    have g0 := hfd 0 _ rfl
    have g1 := hfd 1 _ rfl
    have g2 := hfd 2 _ rfl
    have g3 := hfd 3 _ rfl
    have g4 := hfd 4 _ rfl
    have g5 := hfd 5 _ rfl
    have g6 := hfd 6 _ rfl
    have g7 := hfd 7 _ rfl
    simp only [show Try.prog.cellsOf 3 = 1 from by kernel_rfl, show Try.prog.cellsOf 25 = 2 from by kernel_rfl, show Try.prog.cellsOf 26 = 1 from by kernel_rfl, show Try.prog.cellsOf 27 = 1 from by kernel_rfl, List.drop_zero, List.drop_succ_cons, List.take_succ_cons, List.take_zero, List.getElem?_cons_zero, List.getElem?_cons_succ] at g0 g1 g2 g3 g4 g5 g6 g7
    obtain ⟨x0, e0, _, _⟩ := DataW.trod_int Try.underlying3 g0
    obtain ⟨x1, e1, _, _⟩ := DataW.trod_int Try.underlying3 g1
    obtain ⟨x2, e2, _, _⟩ := DataW.trod_int Try.underlying3 g2
    obtain ⟨x3, e3, _, _⟩ := DataW.trod_int Try.underlying3 g3
    obtain ⟨x4, e4, _, _⟩ := DataW.trod_int Try.underlying3 g4
    obtain ⟨x5, x6, e5, e6⟩ := trod_viewC g5
    obtain ⟨s, cl, e7, hn7, hc7, hb7, hr7⟩ := cells_of Try.underlying26 g6
    obtain ⟨t, bk, e8, hn8, hc8, hb8, hw8, hr8⟩ := ents_of Try.underlying27 g7
    obtain rfl : v0 = .int .i64 x0 := (List.cons.inj e0).1
    obtain rfl : v1 = .int .i64 x1 := (List.cons.inj e1).1
    obtain rfl : v2 = .int .i64 x2 := (List.cons.inj e2).1
    obtain rfl : v3 = .int .i64 x3 := (List.cons.inj e3).1
    obtain rfl : v4 = .int .i64 x4 := (List.cons.inj e4).1
    subst e5 e6
    obtain rfl := (List.cons.inj e7).1
    obtain rfl := (List.cons.inj e8).1
    simp only [Prod.mk.injEq] at hxy
    refine ⟨⟨x0, x1, x2, x3, x4, x5, x6, cl, bk⟩, s, t, rfl, ⟨hn7, hc7, ?_, hr7 fun y hy => hlt y ?_⟩, ⟨hn8, hc8, ?_, hw8, hr8 fun y hy => hlt y ?_⟩⟩
    · rcases hb7 with h | h
      · omega
      · have := hw (s.c * 24) (by
          rw [hxy.1]
          simp only [DataW.weights, Try.underlying29, DataW.weightsEach, List.map_cons, List.map_nil, List.mem_append]
          simp [h])
        unfold reachBytes at this
        omega
    · rw [hxy.2]
      simp [hy]
    · rcases hb8 with h | h
      · omega
      · have := hw (t.c * 32) (by
          rw [hxy.1]
          simp only [DataW.weights, Try.underlying29, DataW.weightsEach, List.map_cons, List.map_nil, List.mem_append]
          simp [h])
        unfold reachBytes at this
        omega
    · rw [hxy.2]
      simp [hy]
theorem sized_ofM {H : Type} {ts : List TypeId} {ds : List (DataW H)} (h : (DataW.weightsEach Try.prog ts ds).all (· ≤ reachBytes) = true) {j : Nat} {t : TypeId} {d : DataW H} (ht : ts[j]? = some t) (hd : ds[j]? = some d) : ∀ n ∈ d.weights Try.prog t, n ≤ reachBytes := by
  intro n hn
  have := List.all_eq_true.1 h n (DataW.weights_mem_each ht hd n hn)
  simpa using this
end Go.Proofs.Ytldfccllpnplmaa

namespace Go.Proofs.Ytldfccllpnplmaa
open Go.ChangeShapes Go.WideShapes Go.ChangeAt Go.RowKit

theorem msgShort_own : ownKnob Try.prog.godebug = none := by kernel_rfl
theorem msgShort_laid : laidOutB Try.prog = true := by kernel_rfl

set_option maxRecDepth 100000 in
theorem msgShort_lifted (os : Os) (started : os.Started) (H : Type) (enc : TypeId × Value → H) :
    ReturnsInHanded {} Try.checked os 9 .any (Rows.msgShortSpec.pre6 enc Try.prog Try.f9 Rows.msgShortRow.domain false) (Rows.msgShortSpec.post enc Try.prog Try.f9 false true false false) := by
  refine returnsInHanded_of_change_sized (C := Try.checked) msgShort_own started (by kernel_rfl) Try.func9
    (ChangeSpec.witness6 (enc := enc) (C := Try.checked) false ⟨#[], #[.agg #[.int .i64 0, .int .i64 0, .int .i64 0, .int .i64 0, .int .i64 0, .int .i64 0, .int .i64 0, .slice none 0 0, .slice none 0 0], .int .i64 0], []⟩ 8 (by kernel_rfl) (by kernel_rfl) (by kernel_rfl) (by kernel_rfl)) ?_
  intro W base args ds gs before hval0 hW _ hsz0 _
  have hsz : (DataW.weightsEach Try.prog (Try.f9.params.toList ++ Rows.msgShortSpec.plain.varTypes Try.prog) (ds ++ gs)).all (· ≤ reachBytes) = true := hsz0
  have hval : ∀ (j : Nat) t v, Try.f9.params[j]? = some t → args[j]? = some v → Value.okWide Try.prog W .any base t v := hval0
  have hW' := hW
  obtain ⟨p, q, hA0, hV, rfl, hfz, hnd⟩ := hW
  have hA : DataW.TrodAll enc Try.prog W 0 (fun _ => true) true Try.f9.params.toList args.toList ds p := hA0
  rw [Try.params9] at hA hval hsz
  obtain ⟨v0, vs0, d0, ds0, p0, q0, hargs, rfl, rfl, h0, r0⟩ := trodAll_cons hA
  obtain ⟨v1, vs1, d1, ds1, p1, q1, rfl, rfl, rfl, h1, r1⟩ := trodAll_cons r0
  obtain ⟨rfl, rfl, rfl⟩ := trodAll_nil r1
  obtain rfl : args = #[v0, v1] := by cases args; simp_all
  obtain ⟨rfl, rfl⟩ := trodVars_none hV
  clear hA0 hval0
  simp only [List.append_nil] at hW'
  have hk0 := h0
  have hlt0 : ∀ x ∈ p0, x.block < W.heap.size := (fun x hx => by have := hW'.lt x (by simp [hx]); simpa using this)
  obtain ⟨m0, s0, t0, rfl, hm0⟩ := open_msg (hval 0 29 v0 rfl rfl) h0 hlt0 (sized_ofM hsz (j := 0) rfl rfl)
  obtain ⟨a1, rfl, rfl, rfl, w1⟩ := open_int Try.underlying3 (hval 1 3 v1 rfl rfl) h1
  refine (msgShort.walk W m0 s0 t0 hm0 a1 w1).mono fun e W' ⟨he, hb⟩ => ?_
  subst he
  exact ⟨_, rfl, _, _, _, [], _, [], hW', trodAll_cons_mk (shut_bool Try.underlying4 _) trodAll_mk0, (trodAll_cons_mk (Below.trod msgShort_laid (by kernel_rfl) (of_decide_eq_true (by kernel_rfl)) hk0 hb hlt0) (trodAll_cons_mk (shut_int Try.underlying3 w1) trodAll_mk0)), rfl, hb.frame _, fun h => by cases h⟩

theorem msgShort_proved : Rows.MsgShortSaid :=
  OpenClaim.holds_of_wide 9 Try.f9 rfl rfl rfl rfl rfl rfl rfl ⟨rfl, rfl, rfl, rfl, rfl⟩ rfl rfl rfl rfl rfl (by kernel_rfl) Try.func9 (by kernel_rfl)
    (of_decide_eq_true (by kernel_rfl)) (by unfold Func.isWrapper; first | (rw [if_pos (by decide +kernel)]; kernel_rfl) | (rw [if_neg (by decide +kernel)]; exact ⟨rfl, rfl⟩))
    (fun os started H enc _ => msgShort_lifted os started H enc)
#print axioms msgShort_proved
end Go.Proofs.Ytldfccllpnplmaa
