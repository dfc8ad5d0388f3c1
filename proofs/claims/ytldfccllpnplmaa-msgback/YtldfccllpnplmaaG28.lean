/- Contracts and words on which the claims of this seat stand, part 28: MsCi. -/
import Derived.Test.YtldfccllpnplmaaG25
import Derived.Test.YtldfccllpnplmaaG27
set_option linter.unusedSimpArgs false
set_option linter.unusedVariables false
namespace Go.Proofs.Ytldfccllpnplmaa.Msw
set_option maxRecDepth 20000
open Go.RowKit
open Cl Bk Ms Clw Bkw Wire
open Crc hiding zero
open Lg (iw vA vD iw_to)
open Chgw (hat hbe ret_bool vw Vi)
open Rg (bal)

/-- a message's lists lie in rows of the call's own -/
def RowsM (w : World) (base : Nat) (m : M) (s t : S3) : Prop := Rg.OwnG KC w base s.a s.n s.c m.cells ∧ Rg.OwnG KE w base t.a t.n t.c m.book ∧ (∀ e ∈ m.book, WfE e) ∧ m.cells.length ≤ 6 ∧ m.book.length ≤ 4
def RetGu (w : World) (o : Option M) (e : Ending) (w' : World) : Prop :=
  Below w.heap.size w w' ∧ match o with
  | none => e = .returned (.tuple #[mvv zeroM ⟨none, 0, 0⟩ ⟨none, 0, 0⟩, .bool false])
  | some m => ∃ s t, e = .returned (.tuple #[mvv m s t, .bool true]) ∧ RowsM w' w.heap.size m s t
theorem getsF_rest : ∀ (k : Nat) (b : List UInt8) (ns : List Nat) (r : List UInt8), getsF k b = some (ns, r) → r.length ≤ b.length
  | 0, b, ns, r, h => by cases h; exact Nat.le_refl _
  | k + 1, b, ns, r, h => by
    rw [getsF] at h
    simp only [Option.bind_eq_some_iff, Option.map_eq_some_iff] at h
    obtain ⟨x, hx, y, hy, e⟩ := h
    cases e
    have h1 := takeF_len (r := x.2) (show takeF b = some (x.1, x.2) from hx)
    have h2 := getsF_rest k _ y.1 y.2 hy
    omega
theorem rowsG_rest {wide most : Nat} {b : List UInt8} {ns : List Nat} {r : List UInt8} (h : rowsG wide most b = some (ns, r)) : r.length ≤ b.length := by
  unfold rowsG at h
  cases ht : takeF b with
  | none => rw [ht] at h; cases h
  | some y =>
    obtain ⟨v, s⟩ := y
    rw [ht] at h
    simp only at h
    by_cases hv : most < v
    · rw [if_pos hv] at h; cases h
    · rw [if_neg hv] at h
      have h1 := takeF_len ht
      have h2 := getsF_rest _ _ _ _ h
      omega
theorem rowsG_most {wide most : Nat} (hw : 1 ≤ wide) {b : List UInt8} {ns : List Nat} {r : List UInt8} {k : Nat} (h : rowsG wide most b = some (ns, r)) (hk : ns.length = wide * k) : k ≤ most := by
  unfold rowsG at h
  cases ht : takeF b with
  | none => rw [ht] at h; cases h
  | some y =>
    obtain ⟨v, s⟩ := y
    rw [ht] at h
    simp only at h
    by_cases hv : most < v
    · rw [if_pos hv] at h; cases h
    · rw [if_neg hv] at h
      have h1 := getsF_len _ _ _ _ h
      rw [hk] at h1
      have := Nat.eq_of_mul_eq_mul_left (by omega) h1
      omega
theorem list6 {l : List Nat} (h : l.length = 6) : ∃ a b c d e f, l = [a, b, c, d, e, f] := by
  match l, h with
  | [a, b, c, d, e, f], _ => exact ⟨a, b, c, d, e, f, rfl⟩
theorem gt_get (n : List Nat) (i : Nat) (h : i < n.length) : (n.map N64)[i]? = some (.int .u64 ((gt n i : Nat) : Int)) := by
  unfold gt
  rw [List.getElem?_map, List.getElem?_eq_getElem h]
  rfl
theorem row_at (bn on wide j : Nat) : Msi.rowS (some ⟨bn, on, none⟩) wide j = .slice (some ⟨bn, on + wide * j, none⟩) wide wide := by
  unfold Msi.rowS
  rw [Option.map_some, Rg.add_at]
theorem wf_entsG {ns : List Nat} (hw : ∀ x ∈ ns, W64 x) (k : Nat) : ∀ e ∈ entsG ns k, WfE e := by
  intro e he
  obtain ⟨j, _, rfl⟩ := List.mem_map.1 he
  exact ⟨Lgw.iw_i64 _ (gt_w hw _), Lgw.iw_i64 _ (gt_w hw _), Lgw.iw_i64 _ (gt_w hw _), Lg.u64_clean (gt_w hw _)⟩
theorem cellsG_len (c : List Nat) (k : Nat) : (cellsG c k).length = k := by unfold cellsG; simp
theorem entsG_len (c : List Nat) (k : Nat) : (entsG c k).length = k := by unfold entsG; simp
theorem mx_ne {w : World} {g : Nat} {m : M} {s t : S3} {base k : Nat} {e : TypeId} {v : Value} {n : Nat} {xs : List Value} (h : Mx w g m s t) (h' : w.ownsRow base e k v n xs) (hne : 29 ≠ e) {j : Nat} (hj : v.ownBlock = some j) : j ≠ g := by
  rintro rfl
  rcases h'.2 with ⟨rfl, _⟩ | ⟨g', cap', cur', rfl, _, hh', _⟩
  · simp [Value.ownBlock] at hj
  · simp only [Value.ownBlock, Option.some.injEq] at hj
    subst hj
    unfold Mx at h
    rw [h] at hh'
    simp only [Option.some.injEq, Obj.cells.injEq] at hh'
    exact hne hh'.2.1
set_option maxHeartbeats 8000000 in
set_option maxRecDepth 100000 in
theorem guess_c (A : Option Addr) (n c : Nat) (bs : List UInt8) (hn : n = bs.length) (hc : n ≤ c) (hl : n ≤ big) (w : World) (hr : Rd w w.heap.size A (bs.map B8)) : Calls Try.prog 44 #[.slice A n c] w (RetGu w (guessG bs)) := by
  have HN := Lib.hid hn; have HR := Lib.hid hr
  have HNO : Hid (guessG bs = none → ∀ w', Below w.heap.size w w' → RetGu w (guessG bs) (.returned (.tuple #[mvv zeroM ⟨none, 0, 0⟩ ⟨none, 0, 0⟩, .bool false])) w') := Lib.hid (fun h w' hb => by rw [h]; exact ⟨hb, rfl⟩)
  have HYES : Hid (∀ m, guessG bs = some m → ∀ w' s t, Below w.heap.size w w' → RowsM w' w.heap.size m s t → RetGu w (guessG bs) (.returned (.tuple #[mvv m s t, .bool true])) w') := Lib.hid (fun m h w' s t hb hm => by rw [h]; exact ⟨hb, s, t, rfl, hm⟩)
  have HGE : Hid (guessG bs = match getsF 6 bs with
    | none => none
    | some (h, r) => match rowsG 2 6 r with
      | none => none
      | some (c, r2) => match rowsG 4 4 r2 with
        | none => none
        | some (e, _) => some (mkG h c e)) := Lib.hid rfl
  generalize RetGu w (guessG bs) = PP at HNO HYES ⊢
  clear hn hr
  go_enter Try.func44, Try.ntmps44
  go_upto_region 1 with (fail)
  have HZ := Lib.hid (show Mx (w.alloc (.cells #[.int .i64 0, .int .i64 0, .int .i64 0, .int .i64 0, .int .i64 0, .int .i64 0, .int .i64 0, .slice none 0 0, .slice none 0 0] 29)) w.heap.size zeroM ⟨none, 0, 0⟩ ⟨none, 0, 0⟩ from hat _ _ _ rfl)
  have HB := Lib.hid (bal (Below.refl w.heap.size w) (Nat.le_refl _) (.cells #[.int .i64 0, .int .i64 0, .int .i64 0, .int .i64 0, .int .i64 0, .int .i64 0, .int .i64 0, .slice none 0 0, .slice none 0 0] 29))
  generalize w.alloc (.cells #[.int .i64 0, .int .i64 0, .int .i64 0, .int .i64 0, .int .i64 0, .int .i64 0, .int .i64 0, .slice none 0 0, .slice none 0 0] 29) = w0 at HZ HB ⊢
  have HR0 := Lib.hid ((HR.out.below HB.out).more HB.out.size)
  go_wp2_with fail
  refine (gets_c A n c 6 bs HN.out hc _ w0 HR0.out (Nat.le_refl _) hl).mono ?_
  rintro e w1 ⟨hb1, h3⟩
  rw [show getsI 6 bs = getsF 6 bs from Lgw.getsI_in 6 (by omega) bs] at h3
  have HZ := Lib.hid (HZ.out.all hb1)
  have HB := Lib.hid (HB.out.trans (hb1.mono HB.out.size))
  have HB1 := Lib.hid hb1.size; clear hb1
  have HRL := Lib.hid (fun ns r h => getsF_rest 6 bs ns r h)
  cases hg : getsF 6 bs with
  | none =>
    rw [hg] at h3
    have HE := Lib.hid (HNO.out (by rw [HGE.out, hg]))
    have h3' : e = .returned (.tuple #[.slice none 0 0, .slice none 0 0, .int .i64 21]) := h3
    subst h3'
    clear h3 hg HNO HYES HGE HRL
    obtain ⟨y0, y1, y2, y3, y4, y5, y6, y7, y8⟩ := HZ.out.cs
    have f0 := HZ.out.frozen 0; have f1 := HZ.out.frozen 1; have f2 := HZ.out.frozen 2; have f3 := HZ.out.frozen 3; have f4 := HZ.out.frozen 4; have f5 := HZ.out.frozen 5; have f6 := HZ.out.frozen 6; have f7 := HZ.out.frozen 7; have f8 := HZ.out.frozen 8
    simp only [zeroM] at y0 y1 y2 y3 y4 y5 y6 y7 y8
    go_wp2
    refine bodyPost_ret (results_msg2 (g := w.heap.size) (m := zeroM) (s := ⟨none, 0, 0⟩) (t := ⟨none, 0, 0⟩) (x := .bool false) rfl rfl rfl (HZ.out.put zeroM ⟨none, 0, 0⟩ ⟨none, 0, 0⟩)) rfl ?_
    exact HE.out _ (((((((((HB.out.setCell (Nat.le_refl _) _).setCell (Nat.le_refl _) _).setCell (Nat.le_refl _) _).setCell (Nat.le_refl _) _).setCell (Nat.le_refl _) _).setCell (Nat.le_refl _) _).setCell (Nat.le_refl _) _).setCell (Nat.le_refl _) _).setCell (Nat.le_refl _) _)
  | some x =>
  obtain ⟨hd, r⟩ := x
  rw [hg] at h3
  have HGE : Hid (guessG bs = match rowsG 2 6 r with
      | none => none
      | some (c, r2) => match rowsG 4 4 r2 with
        | none => none
        | some (e, _) => some (mkG hd c e)) := Lib.hid (by rw [HGE.out, hg])
  have hle := Lgw.gets_len 6 bs hd r hg
  have HRL := Lib.hid (HRL.out hd r hg)
  obtain ⟨A1, n1, c1, A2, n2, c2, h3', ho1, ho2⟩ : ∃ A n c A2 n2 c2, e = .returned (.tuple #[.slice A n c, .slice A2 n2 c2, .int .i64 0]) ∧ OwnN w1 w0.heap.size A n c hd ∧ Own w1 w0.heap.size A2 n2 c2 r := h3
  subst h3'
  obtain ⟨a0, a1, a2, a3, a4, a5, rfl⟩ := list6 hle.1
  have HW := Lib.hid hle.2
  obtain ⟨b, rfl, hbb, hbl, hnc⟩ := Lgw.own_nums ho1 (by simp)
  have hn1 : n1 = 6 := ho1.1
  subst hn1
  have HNC := Lib.hid hnc; have HBL := Lib.hid hbl; have HO2 := Lib.hid ho2
  clear hle hbb hbl hnc hg ho1 ho2
  have HT := Lib.hid (takerows_c 2 6 (by omega) (by omega) (by omega) (by omega) A2 n2 c2 r HO2.out.1 HO2.out.cap w1.heap.size w1 HO2.out.rd (Nat.le_refl _) (by have := HO2.out.1; have := HRL.out; have := HN.out; omega))
  go_wp2_with fail
  refine HT.out.mono ?_
  clear HT
  rintro e w2 ⟨hb2, h3⟩
  have HZ := Lib.hid (HZ.out.all hb2)
  have HNC := Lib.hid (HNC.out.all HBL.out hb2); have HBL := Lib.hid (Nat.lt_of_lt_of_le HBL.out hb2.size)
  have HB := Lib.hid (HB.out.trans (hb2.mono HB.out.size)); clear hb2
  cases hg : rowsG 2 6 r with
  | none =>
    rw [hg] at h3
    have HE := Lib.hid (HNO.out (by rw [HGE.out, hg]))
    have h3' : e = .returned (.tuple #[.slice none 0 0, .slice none 0 0, .bool false]) := h3
    subst h3'
    clear h3 hg HNO HYES HGE HRL HNC
    obtain ⟨y0, y1, y2, y3, y4, y5, y6, y7, y8⟩ := HZ.out.cs
    have f0 := HZ.out.frozen 0; have f1 := HZ.out.frozen 1; have f2 := HZ.out.frozen 2; have f3 := HZ.out.frozen 3; have f4 := HZ.out.frozen 4; have f5 := HZ.out.frozen 5; have f6 := HZ.out.frozen 6; have f7 := HZ.out.frozen 7; have f8 := HZ.out.frozen 8
    simp only [zeroM] at y0 y1 y2 y3 y4 y5 y6 y7 y8
    go_wp2
    refine bodyPost_ret (results_msg2 (g := w.heap.size) (m := zeroM) (s := ⟨none, 0, 0⟩) (t := ⟨none, 0, 0⟩) (x := .bool false) rfl rfl rfl (HZ.out.put zeroM ⟨none, 0, 0⟩ ⟨none, 0, 0⟩)) rfl ?_
    exact HE.out _ (((((((((HB.out.setCell (Nat.le_refl _) _).setCell (Nat.le_refl _) _).setCell (Nat.le_refl _) _).setCell (Nat.le_refl _) _).setCell (Nat.le_refl _) _).setCell (Nat.le_refl _) _).setCell (Nat.le_refl _) _).setCell (Nat.le_refl _) _).setCell (Nat.le_refl _) _)
  | some x =>
  obtain ⟨nc, r2⟩ := x
  rw [hg] at h3
  have HGE : Hid (guessG bs = match rowsG 4 4 r2 with
        | none => none
        | some (e, _) => some (mkG [a0, a1, a2, a3, a4, a5] nc e)) := Lib.hid (by rw [HGE.out, hg])
  have HRL2 := Lib.hid (rowsG_rest hg)
  have HWC := Lib.hid (rowsG_w hg)
  obtain ⟨A3, k, c3, AN, A4, n4, c4, h3', hkn, hrr, hrn, ho4⟩ : ∃ A0 k c0 AN A n c, e = .returned (.tuple #[.slice A0 k c0, .slice A n c, .bool true]) ∧ nc.length = 2 * k ∧ Rd w2 w2.heap.size A0 ((List.range k).map (Msi.rowS AN 2)) ∧ Rd w2 w2.heap.size AN (nc.map N64) ∧ Own w2 w1.heap.size A n c r2 := h3
  subst h3'
  have HKN := Lib.hid hkn; have HRR := Lib.hid hrr; have HRN := Lib.hid hrn; have HO4 := Lib.hid ho4
  have hk6 : k ≤ 6 := rowsG_most (by omega) hg hkn
  clear hkn hrr hrn ho4 hg
  have HT := Lib.hid (takerows_c 4 4 (by omega) (by omega) (by omega) (by omega) A4 n4 c4 r2 HO4.out.1 HO4.out.cap w2.heap.size w2 HO4.out.rd (Nat.le_refl _) (by have := HO4.out.1; have := HRL.out; have := HRL2.out; have := HN.out; omega))
  go_wp2_with fail
  refine HT.out.mono ?_
  clear HT
  rintro e w3 ⟨hb3, h3⟩
  have HZ := Lib.hid (HZ.out.all hb3)
  have HNC := Lib.hid (HNC.out.all HBL.out hb3); have HBL := Lib.hid (Nat.lt_of_lt_of_le HBL.out hb3.size)
  have HRR := Lib.hid ((HRR.out.below hb3).more hb3.size); have HRN := Lib.hid ((HRN.out.below hb3).more hb3.size)
  have HB := Lib.hid (HB.out.trans (hb3.mono HB.out.size)); clear hb3
  cases hg : rowsG 4 4 r2 with
  | none =>
    rw [hg] at h3
    have HE := Lib.hid (HNO.out (by rw [HGE.out, hg]))
    have h3' : e = .returned (.tuple #[.slice none 0 0, .slice none 0 0, .bool false]) := h3
    subst h3'
    clear h3 hg HNO HYES HGE HRL HNC HRR HRN
    obtain ⟨y0, y1, y2, y3, y4, y5, y6, y7, y8⟩ := HZ.out.cs
    have f0 := HZ.out.frozen 0; have f1 := HZ.out.frozen 1; have f2 := HZ.out.frozen 2; have f3 := HZ.out.frozen 3; have f4 := HZ.out.frozen 4; have f5 := HZ.out.frozen 5; have f6 := HZ.out.frozen 6; have f7 := HZ.out.frozen 7; have f8 := HZ.out.frozen 8
    simp only [zeroM] at y0 y1 y2 y3 y4 y5 y6 y7 y8
    go_wp2
    refine bodyPost_ret (results_msg2 (g := w.heap.size) (m := zeroM) (s := ⟨none, 0, 0⟩) (t := ⟨none, 0, 0⟩) (x := .bool false) rfl rfl rfl (HZ.out.put zeroM ⟨none, 0, 0⟩ ⟨none, 0, 0⟩)) rfl ?_
    exact HE.out _ (((((((((HB.out.setCell (Nat.le_refl _) _).setCell (Nat.le_refl _) _).setCell (Nat.le_refl _) _).setCell (Nat.le_refl _) _).setCell (Nat.le_refl _) _).setCell (Nat.le_refl _) _).setCell (Nat.le_refl _) _).setCell (Nat.le_refl _) _).setCell (Nat.le_refl _) _)
  | some x =>
  obtain ⟨ne, r3⟩ := x
  rw [hg] at h3
  have HGE : Hid (guessG bs = some (mkG [a0, a1, a2, a3, a4, a5] nc ne)) := Lib.hid (by rw [HGE.out, hg])
  have HWE := Lib.hid (rowsG_w hg)
  obtain ⟨A5, k2, c5, AM, A6, n6, c6, h3', hkn, hrr, hrn, ho6⟩ : ∃ A0 k c0 AN A n c, e = .returned (.tuple #[.slice A0 k c0, .slice A n c, .bool true]) ∧ ne.length = 4 * k ∧ Rd w3 w3.heap.size A0 ((List.range k).map (Msi.rowS AN 4)) ∧ Rd w3 w3.heap.size AN (ne.map N64) ∧ Own w3 w2.heap.size A n c r3 := h3
  subst h3'
  have HKE := Lib.hid hkn; have HSR := Lib.hid hrr; have HSN := Lib.hid hrn
  have hk4 : k2 ≤ 4 := rowsG_most (by omega) hg hkn
  clear hkn hrr hrn ho6 hg HO4 HRL HRL2 HO2 HR HR0 HN HNO HB1 hl hc
  have HMK : Hid (mkG [a0, a1, a2, a3, a4, a5] nc ne = ⟨iw a0, iw a1, iw a2, iw a3, iw a4, (vwG a5).1, (vwG a5).2, cellsG nc k, entsG ne k2⟩) := Lib.hid (by
    have e1 : nc.length / 2 = k := by rw [HKN.out]; omega
    have e2 : ne.length / 4 = k2 := by rw [HKE.out]; omega
    unfold mkG
    rw [e1, e2]
    rfl)
  have HYES := Lib.hid (HYES.out _ (HGE.out.trans (congrArg some HMK.out)))
  have HV5 := Lib.hid (fun W => viewof_c a5 (HW.out a5 (by simp)) W)
  have hw0 := Lgw.wrap_iw a0 (HW.out a0 (by simp))
  have hw1 := Lgw.wrap_iw a1 (HW.out a1 (by simp))
  have hw2 := Lgw.wrap_iw a2 (HW.out a2 (by simp))
  have hw3 := Lgw.wrap_iw a3 (HW.out a3 (by simp))
  have hw4 := Lgw.wrap_iw a4 (HW.out a4 (by simp))
  clear HGE HMK HW
  generalize (vwG a5).1 = va at HYES HV5
  generalize (vwG a5).2 = vd at HYES HV5
  generalize iw a0 = q0 at hw0 HYES
  generalize iw a1 = q1 at hw1 HYES
  generalize iw a2 = q2 at hw2 HYES
  generalize iw a3 = q3 at hw3 HYES
  generalize iw a4 = q4 at hw4 HYES
  go_upto_region 10 with (fail)
  have HK : Hid (∀ W', Below w3.heap.size w3 W' → (W'.cell? ⟨b, 0, none⟩ = some (.int .u64 (a0 : Int)) ∧ W'.cell? ⟨b, 1, none⟩ = some (.int .u64 (a1 : Int)) ∧ W'.cell? ⟨b, 2, none⟩ = some (.int .u64 (a2 : Int)) ∧ W'.cell? ⟨b, 3, none⟩ = some (.int .u64 (a3 : Int)) ∧ W'.cell? ⟨b, 4, none⟩ = some (.int .u64 (a4 : Int))) ∧ W'.cell? ⟨b, 5, none⟩ = some (.int .u64 (a5 : Int))) := Lib.hid (fun W' h => by
    have h := HNC.out.all HBL.out h
    exact ⟨⟨h 0 a0 rfl, h 1 a1 rfl, h 2 a2 rfl, h 3 a3 rfl, h 4 a4 rfl⟩, h 5 a5 rfl⟩)
  go_cut [11] (fun s11 wq => ∃ g, s11 = .pointer (some ⟨g, 0, none⟩) ∧ w3.heap.size ≤ g ∧ Mx wq g ⟨q0, q1, q2, q3, q4, 0, 0, [], []⟩ ⟨none, 0, 0⟩ ⟨none, 0, 0⟩ ∧ Below w3.heap.size w3 wq)
  case first =>
    clear HYES HV5 HRR HRN HSR HSN HKN HKE HWC HWE HZ HB
    refine wp_region_held_drew (S := fun W' => Below w3.heap.size w3 W') (by kernel_rfl) (Below.refl _ _).drew (fun hHeld => ?_)
    generalize w3.drew = w5 at hHeld ⊢
    have HB5 : Hid (Below w3.heap.size w3 w5) := hHeld
    clear hHeld
    refine take_in (i := 0) (oi := ⟨_, _, _, _, _, _⟩) (v := ?_) rfl (by kernel_rfl) (by kernel_rfl) (by kernel_rfl) (fun _ _ _ h => h) (by rfl) ?_ HB5.out ?_
    rotate_left
    · intro W hW; obtain ⟨⟨m0, m1, m2, m3, m4⟩, _⟩ := HK.out W hW; go_simp; with_reducible rfl
    simp only [Act.put, List.setIfInBounds_toArray, List.set_cons_zero, List.set_cons_succ]
    refine take_in (i := 1) (oi := ⟨_, _, _, _, _, _⟩) (v := ?_) rfl (by kernel_rfl) (by kernel_rfl) (by kernel_rfl) (fun _ _ _ h => h) (by rfl) ?_ HB5.out ?_
    rotate_left
    · intro W hW; obtain ⟨⟨m0, m1, m2, m3, m4⟩, _⟩ := HK.out W hW; go_simp; with_reducible rfl
    simp only [Act.put, List.setIfInBounds_toArray, List.set_cons_zero, List.set_cons_succ]
    refine take_in (i := 2) (oi := ⟨_, _, _, _, _, _⟩) (v := ?_) rfl (by kernel_rfl) (by kernel_rfl) (by kernel_rfl) (fun _ _ _ h => h) (by rfl) ?_ HB5.out ?_
    rotate_left
    · intro W hW; obtain ⟨⟨m0, m1, m2, m3, m4⟩, _⟩ := HK.out W hW; go_simp; with_reducible rfl
    simp only [Act.put, List.setIfInBounds_toArray, List.set_cons_zero, List.set_cons_succ]
    refine take_in (i := 3) (oi := ⟨_, _, _, _, _, _⟩) (v := ?_) rfl (by kernel_rfl) (by kernel_rfl) (by kernel_rfl) (fun _ _ _ h => h) (by rfl) ?_ HB5.out ?_
    rotate_left
    · intro W hW; obtain ⟨⟨m0, m1, m2, m3, m4⟩, _⟩ := HK.out W hW; go_simp; with_reducible rfl
    simp only [Act.put, List.setIfInBounds_toArray, List.set_cons_zero, List.set_cons_succ]
    refine take_in (i := 4) (oi := ⟨_, _, _, _, _, _⟩) (v := ?_) rfl (by kernel_rfl) (by kernel_rfl) (by kernel_rfl) (fun _ _ _ h => h) (by rfl) ?_ HB5.out ?_
    rotate_left
    · intro W hW; obtain ⟨⟨m0, m1, m2, m3, m4⟩, _⟩ := HK.out W hW; go_simp; with_reducible rfl
    simp only [Act.put, List.setIfInBounds_toArray, List.set_cons_zero, List.set_cons_succ]
    refine take_in (i := 5) (oi := ⟨_, _, _, _, _, _⟩) (v := ?_) rfl (by kernel_rfl) (by kernel_rfl) (by kernel_rfl) (fun _ _ _ h => h) (by rfl) ?_ HB5.out ?_
    rotate_left
    · intro W hW; obtain ⟨⟨m0, m1, m2, m3, m4⟩, _⟩ := HK.out W hW; go_simp; with_reducible rfl
    simp only [Act.put, List.setIfInBounds_toArray, List.set_cons_zero, List.set_cons_succ]
    refine take_in (i := 6) (oi := ⟨_, _, _, _, _, _⟩) (v := ?_) rfl (by kernel_rfl) (by kernel_rfl) (by kernel_rfl) (fun _ _ _ h => h) (by rfl) ?_ HB5.out ?_
    rotate_left
    · intro W hW; obtain ⟨⟨m0, m1, m2, m3, m4⟩, _⟩ := HK.out W hW; go_simp; with_reducible rfl
    simp only [Act.put, List.setIfInBounds_toArray, List.set_cons_zero, List.set_cons_succ]
    refine take_in (i := 7) (oi := ⟨_, _, _, _, _, _⟩) (v := ?_) rfl (by kernel_rfl) (by kernel_rfl) (by kernel_rfl) (fun _ _ _ h => h) (by rfl) ?_ HB5.out ?_
    rotate_left
    · intro W hW; obtain ⟨⟨m0, m1, m2, m3, m4⟩, _⟩ := HK.out W hW; go_simp; with_reducible rfl
    simp only [Act.put, List.setIfInBounds_toArray, List.set_cons_zero, List.set_cons_succ]
    refine take_in (i := 8) (oi := ⟨_, _, _, _, _, _⟩) (v := ?_) rfl (by kernel_rfl) (by kernel_rfl) (by kernel_rfl) (fun _ _ _ h => h) (by rfl) ?_ HB5.out ?_
    rotate_left
    · intro W hW; obtain ⟨⟨m0, m1, m2, m3, m4⟩, _⟩ := HK.out W hW; go_simp; with_reducible rfl
    simp only [Act.put, List.setIfInBounds_toArray, List.set_cons_zero, List.set_cons_succ]
    refine take_in (i := 9) (oi := ⟨_, _, _, _, _, _⟩) (v := ?_) rfl (by kernel_rfl) (by kernel_rfl) (by kernel_rfl) (fun _ _ _ h => h) (by rfl) ?_ HB5.out ?_
    rotate_left
    · intro W hW; obtain ⟨⟨m0, m1, m2, m3, m4⟩, _⟩ := HK.out W hW; go_simp; with_reducible rfl
    simp only [Act.put, List.setIfInBounds_toArray, List.set_cons_zero, List.set_cons_succ]
    refine take_in (i := 10) (oi := ⟨_, _, _, _, _, _⟩) (v := ?_) rfl (by kernel_rfl) (by kernel_rfl) (by kernel_rfl) (fun _ _ _ h => h) (by rfl) ?_ HB5.out ?_
    rotate_left
    · intro W hW; obtain ⟨⟨m0, m1, m2, m3, m4⟩, _⟩ := HK.out W hW; go_simp; with_reducible rfl
    simp only [Act.put, List.setIfInBounds_toArray, List.set_cons_zero, List.set_cons_succ]
    refine take_in (i := 11) (oi := ⟨_, _, _, _, _, _⟩) (v := ?_) rfl (by kernel_rfl) (by kernel_rfl) (by kernel_rfl) (fun _ _ _ h => h) (by rfl) ?_ HB5.out ?_
    rotate_left
    · intro W hW; obtain ⟨⟨m0, m1, m2, m3, m4⟩, _⟩ := HK.out W hW; go_simp; with_reducible rfl
    simp only [Act.put, List.setIfInBounds_toArray, List.set_cons_zero, List.set_cons_succ]
    refine take_in (i := 12) (oi := ⟨_, _, _, _, _, _⟩) (v := ?_) rfl (by kernel_rfl) (by kernel_rfl) (by kernel_rfl) (fun _ _ _ h => h) (by rfl) ?_ HB5.out ?_
    rotate_left
    · intro W hW; obtain ⟨⟨m0, m1, m2, m3, m4⟩, _⟩ := HK.out W hW; go_simp; with_reducible rfl
    simp only [Act.put, List.setIfInBounds_toArray, List.set_cons_zero, List.set_cons_succ]
    refine take_in (i := 13) (oi := ⟨_, _, _, _, _, _⟩) (v := ?_) rfl (by kernel_rfl) (by kernel_rfl) (by kernel_rfl) (fun _ _ _ h => h) (by rfl) ?_ HB5.out ?_
    rotate_left
    · intro W hW; obtain ⟨⟨m0, m1, m2, m3, m4⟩, _⟩ := HK.out W hW; go_simp; with_reducible rfl
    simp only [Act.put, List.setIfInBounds_toArray, List.set_cons_zero, List.set_cons_succ]
    refine take_in (i := 14) (oi := ⟨_, _, _, _, _, _⟩) (v := ?_) rfl (by kernel_rfl) (by kernel_rfl) (by kernel_rfl) (fun _ _ _ h => h) (by rfl) ?_ HB5.out ?_
    rotate_left
    · intro W hW; obtain ⟨⟨m0, m1, m2, m3, m4⟩, _⟩ := HK.out W hW; go_simp; with_reducible rfl
    simp only [Act.put, List.setIfInBounds_toArray, List.set_cons_zero, List.set_cons_succ]
    refine take_in (i := 15) (oi := ⟨_, _, _, _, _, _⟩) (v := ?_) rfl (by kernel_rfl) (by kernel_rfl) (by kernel_rfl) (fun _ _ _ h => h) (by rfl) ?_ HB5.out ?_
    rotate_left
    · intro W hW; obtain ⟨⟨m0, m1, m2, m3, m4⟩, _⟩ := HK.out W hW; go_simp; with_reducible rfl
    simp only [Act.put, List.setIfInBounds_toArray, List.set_cons_zero, List.set_cons_succ]
    refine take_in (i := 16) (oi := ⟨_, _, _, _, _, _⟩) (v := ?_) rfl (by kernel_rfl) (by kernel_rfl) (by kernel_rfl) (fun _ _ _ h => h) (by rfl) ?_ HB5.out ?_
    rotate_left
    · intro W hW; obtain ⟨⟨m0, m1, m2, m3, m4⟩, _⟩ := HK.out W hW; go_simp; with_reducible rfl
    simp only [Act.put, List.setIfInBounds_toArray, List.set_cons_zero, List.set_cons_succ]
    refine take_in (i := 17) (oi := ⟨_, _, _, _, _, _⟩) (v := ?_) rfl (by kernel_rfl) (by kernel_rfl) (by kernel_rfl) (fun _ _ _ h => h) (by rfl) ?_ HB5.out ?_
    rotate_left
    · intro W hW; obtain ⟨⟨m0, m1, m2, m3, m4⟩, _⟩ := HK.out W hW; go_simp; with_reducible rfl
    simp only [Act.put, List.setIfInBounds_toArray, List.set_cons_zero, List.set_cons_succ]
    refine take_in (i := 18) (oi := ⟨_, _, _, _, _, _⟩) (v := ?_) rfl (by kernel_rfl) (by kernel_rfl) (by kernel_rfl) (fun _ _ _ h => h) (by rfl) ?_ HB5.out ?_
    rotate_left
    · intro W hW; obtain ⟨⟨m0, m1, m2, m3, m4⟩, _⟩ := HK.out W hW; go_simp; with_reducible rfl
    simp only [Act.put, List.setIfInBounds_toArray, List.set_cons_zero, List.set_cons_succ]
    refine take_in (i := 19) (oi := ⟨_, _, _, _, _, _⟩) (v := ?_) rfl (by kernel_rfl) (by kernel_rfl) (by kernel_rfl) (fun _ _ _ h => h) (by rfl) ?_ HB5.out ?_
    rotate_left
    · intro W hW; obtain ⟨⟨m0, m1, m2, m3, m4⟩, _⟩ := HK.out W hW; go_simp; with_reducible rfl
    simp only [Act.put, List.setIfInBounds_toArray, List.set_cons_zero, List.set_cons_succ]
    refine take_in (i := 20) (oi := ⟨_, _, _, _, _, _⟩) (v := ?_) rfl (by kernel_rfl) (by kernel_rfl) (by kernel_rfl) (fun _ _ _ h => h) (by rfl) ?_ HB5.out ?_
    rotate_left
    · intro W hW; obtain ⟨⟨m0, m1, m2, m3, m4⟩, _⟩ := HK.out W hW; go_simp; with_reducible rfl
    simp only [Act.put, List.setIfInBounds_toArray, List.set_cons_zero, List.set_cons_succ]
    refine wpAnyH_ready (rs := [21]) (by kernel_rfl) (by simp) ?_
    refine AllReadyH.cons (o := ⟨_, _, _, _, _, _⟩) rfl (fun K hK => ?_) AllReadyH.nil
    go_simp
    have HX := Lib.hid (show Mx (w5.alloc (.cells #[.int .i64 0, .int .i64 0, .int .i64 0, .int .i64 0, .int .i64 0, .int .i64 0, .int .i64 0, .slice none 0 0, .slice none 0 0] 29)) w5.heap.size zeroM ⟨none, 0, 0⟩ ⟨none, 0, 0⟩ from hat _ _ _ rfl)
    have HB6 := Lib.hid (bal HB5.out (Nat.le_refl _) (.cells #[.int .i64 0, .int .i64 0, .int .i64 0, .int .i64 0, .int .i64 0, .int .i64 0, .int .i64 0, .slice none 0 0, .slice none 0 0] 29))
    have HGG := Lib.hid HB5.out.size
    refine hK.out _ _ HB6.out (fun _ => ?_)
    clear hK K
    generalize w5.alloc (.cells #[.int .i64 0, .int .i64 0, .int .i64 0, .int .i64 0, .int .i64 0, .int .i64 0, .int .i64 0, .slice none 0 0, .slice none 0 0] 29) = w6 at HX HB6 ⊢
    generalize w5.heap.size = g at HX HGG ⊢
    refine wpAnyH_ready (rs := [22]) (by kernel_rfl) (by simp) ?_
    refine AllReadyH.cons (o := ⟨_, _, _, _, _, _⟩) rfl (fun K hK => ?_) AllReadyH.nil
    obtain ⟨x0, x1, x2, x3, x4, x5, x6, x7, x8⟩ := HX.out.cs
    have e0 := HX.out.frozen 0; have e1 := HX.out.frozen 1; have e2 := HX.out.frozen 2; have e3 := HX.out.frozen 3; have e4 := HX.out.frozen 4; have e5 := HX.out.frozen 5; have e6 := HX.out.frozen 6; have e7 := HX.out.frozen 7; have e8 := HX.out.frozen 8
    simp only [zeroM] at x0 x1 x2 x3 x4 x5 x6 x7 x8
    go_simp
    have HB7 := Lib.hid (show Below w3.heap.size w3 (((((((((w6.setCell ⟨g, 0, none⟩ (.int .i64 q0)).setCell ⟨g, 1, none⟩ (.int .i64 q1)).setCell ⟨g, 2, none⟩ (.int .i64 q2)).setCell ⟨g, 3, none⟩ (.int .i64 q3)).setCell ⟨g, 4, none⟩ (.int .i64 q4)).setCell ⟨g, 5, none⟩ (.int .i64 0)).setCell ⟨g, 6, none⟩ (.int .i64 0)).setCell ⟨g, 7, none⟩ (.slice none 0 0)).setCell ⟨g, 8, none⟩ (.slice none 0 0)) from (((((((((HB6.out.setCell (p := ⟨g, 0, none⟩) HGG.out _).setCell (p := ⟨g, 1, none⟩) HGG.out _).setCell (p := ⟨g, 2, none⟩) HGG.out _).setCell (p := ⟨g, 3, none⟩) HGG.out _).setCell (p := ⟨g, 4, none⟩) HGG.out _).setCell (p := ⟨g, 5, none⟩) HGG.out _).setCell (p := ⟨g, 6, none⟩) HGG.out _).setCell (p := ⟨g, 7, none⟩) HGG.out _).setCell (p := ⟨g, 8, none⟩) HGG.out _))
    have HX7 := Lib.hid (show Mx (((((((((w6.setCell ⟨g, 0, none⟩ (.int .i64 q0)).setCell ⟨g, 1, none⟩ (.int .i64 q1)).setCell ⟨g, 2, none⟩ (.int .i64 q2)).setCell ⟨g, 3, none⟩ (.int .i64 q3)).setCell ⟨g, 4, none⟩ (.int .i64 q4)).setCell ⟨g, 5, none⟩ (.int .i64 0)).setCell ⟨g, 6, none⟩ (.int .i64 0)).setCell ⟨g, 7, none⟩ (.slice none 0 0)).setCell ⟨g, 8, none⟩ (.slice none 0 0)) g ⟨q0, q1, q2, q3, q4, 0, 0, [], []⟩ ⟨none, 0, 0⟩ ⟨none, 0, 0⟩ from HX.out.put ⟨q0, q1, q2, q3, q4, 0, 0, [], []⟩ ⟨none, 0, 0⟩ ⟨none, 0, 0⟩)
    refine hK.out _ _ HB7.out (fun _ => ?_)
    clear hK K x0 x1 x2 x3 x4 x5 x6 x7 x8 e0 e1 e2 e3 e4 e5 e6 e7 e8 HX HB6 HB5
    generalize (((((((((w6.setCell ⟨g, 0, none⟩ (.int .i64 q0)).setCell ⟨g, 1, none⟩ (.int .i64 q1)).setCell ⟨g, 2, none⟩ (.int .i64 q2)).setCell ⟨g, 3, none⟩ (.int .i64 q3)).setCell ⟨g, 4, none⟩ (.int .i64 q4)).setCell ⟨g, 5, none⟩ (.int .i64 0)).setCell ⟨g, 6, none⟩ (.int .i64 0)).setCell ⟨g, 7, none⟩ (.slice none 0 0)).setCell ⟨g, 8, none⟩ (.slice none 0 0)) = w7 at HB7 HX7 ⊢
    refine wpAnyH_done (by kernel_rfl) ?_ _
    go_wp2
    go_meet
    case rel => exact ⟨g, rfl, HGG.out, HX7.out, HB7.out⟩
  case rest =>
  obtain ⟨g, rfl, hgg, hx7, hb7⟩ := hcut
  have HGG := Lib.hid hgg; have HX7 := Lib.hid hx7; have HB7 := Lib.hid hb7
  clear hgg hx7 hb7
  clear hw0 hw1 hw2 hw3 hw4
  have m5 := (HK.out wc HB7.out).2
  have HXK : Hid (∀ W', Below wc.heap.size wc W' → (W'.cell? ⟨g, 5, none⟩ = some (.int .i64 0) ∧ W'.cell? ⟨g, 6, none⟩ = some (.int .i64 0)) ∧ W'.frozen? ⟨g, 5, none⟩ = false ∧ W'.frozen? ⟨g, 6, none⟩ = false) := Lib.hid (fun W' h => ⟨⟨(HX7.out.all h).c5, (HX7.out.all h).c6⟩, (HX7.out.all h).frozen 5, (HX7.out.all h).frozen 6⟩)
  go_upto_region 12 with (refine (HV5.out _).mono ?_; rintro e w8 ⟨rfl, hb8⟩; obtain ⟨⟨p5, p6⟩, f5, f6⟩ := HXK.out w8 hb8)
  clear m5 p5 p6 f5 f6 HXK HV5
  have HX := Lib.hid (show Mx ((w8.setCell ⟨g, 5, none⟩ (.int .i64 va)).setCell ⟨g, 6, none⟩ (.int .i64 vd)) g ⟨q0, q1, q2, q3, q4, va, vd, [], []⟩ ⟨none, 0, 0⟩ ⟨none, 0, 0⟩ from ((HX7.out.all hb8).put1 5 (.int .i64 va) ⟨q0, q1, q2, q3, q4, va, 0, [], []⟩ ⟨none, 0, 0⟩ ⟨none, 0, 0⟩ rfl).put1 6 (.int .i64 vd) ⟨q0, q1, q2, q3, q4, va, vd, [], []⟩ ⟨none, 0, 0⟩ ⟨none, 0, 0⟩ rfl)
  have HBL := Lib.hid (show Below w3.heap.size w3 ((w8.setCell ⟨g, 5, none⟩ (.int .i64 va)).setCell ⟨g, 6, none⟩ (.int .i64 vd)) from (((HB7.out.trans (hb8.mono HB7.out.size)).setCell (p := ⟨g, 5, none⟩) HGG.out _).setCell (p := ⟨g, 6, none⟩) HGG.out _))
  clear hb8 HX7 HB7 HK
  generalize ((w8.setCell ⟨g, 5, none⟩ (.int .i64 va)).setCell ⟨g, 6, none⟩ (.int .i64 vd)) = w9 at HX HBL ⊢
  go_wp2
  go_loopw [72] (fun i wr => ∃ (j : Nat) (s : S3), i = .int .i64 j ∧ j ≤ k ∧ Mx wr g ⟨q0, q1, q2, q3, q4, va, vd, cellsG nc j, []⟩ s ⟨none, 0, 0⟩ ∧ Rg.OwnG KC wr w3.heap.size s.a s.n s.c (cellsG nc j) ∧ Below w3.heap.size w3 wr) (fun i _ => k - (intOf i).toNat)
  case atStart => exact ⟨0, ⟨none, 0, 0⟩, rfl, by omega, HX.out, Rg.own_noneG KC _ _, HBL.out⟩
  case round =>
    clear HX HBL
    rename World => wl
    obtain ⟨j, s, rfl, hj, hx, ho, hb⟩ := hrel
    have HX := Lib.hid hx; have HO := Lib.hid ho; have HBK := Lib.hid hb
    have hsz := hb.size
    have hsn : s.n = j := by have := ho.1; rwa [cellsG_len] at this
    clear hx ho hb
    by_cases h : j < k
    · obtain ⟨b0, o0, rfl, hb0, hc0⟩ := HRR.out (by simp; omega)
      obtain ⟨bn, on, rfl, hbn, hcn⟩ := HRN.out (by rw [List.length_map, HKN.out]; omega)
      have HQ : Hid (∀ W, Below w3.heap.size w3 W → W.cell? ⟨b0, o0 + j, none⟩ = some (.slice (some ⟨bn, on + 2 * j, none⟩) 2 2) ∧ W.cell? ⟨bn, on + 2 * j, none⟩ = some (.int .u64 ((gt nc (2 * j) : Nat) : Int)) ∧ W.cell? ⟨bn, on + 2 * j + 1, none⟩ = some (.int .u64 ((gt nc (2 * j + 1) : Nat) : Int))) := Lib.hid (fun W hW => ⟨(hW.cell (p := ⟨b0, o0 + j, none⟩) hb0).trans ((hc0 j _ (by rw [List.getElem?_map, List.getElem?_range h]; rfl)).trans (by rw [row_at])),
        (hW.cell (p := ⟨bn, on + 2 * j, none⟩) hbn).trans (hcn (2 * j) _ (gt_get nc (2 * j) (by rw [HKN.out]; omega))), (hW.cell (p := ⟨bn, on + 2 * j + 1, none⟩) hbn).trans (hcn (2 * j + 1) _ (gt_get nc (2 * j + 1) (by rw [HKN.out]; omega)))⟩)
      have HCS : Hid (cellsG nc (j + 1) = cellsG nc j ++ [(iw (gt nc (2 * j)), (vwG (gt nc (2 * j + 1))).1, (vwG (gt nc (2 * j + 1))).2)]) := Lib.hid (cellsG_succ nc j)
      have HV := Lib.hid (fun W => viewof_c (gt nc (2 * j + 1)) (gt_w HWC.out _) W)
      have hwu := Lgw.wrap_iw (gt nc (2 * j)) (gt_w HWC.out _)
      clear hb0 hc0 hbn hcn
      generalize on + 2 * j = oj at HQ
      generalize gt nc (2 * j) = u0 at HQ HCS hwu
      generalize gt nc (2 * j + 1) = u1 at HQ HCS HV
      generalize iw u0 = z0 at HCS hwu
      generalize (vwG u1).1 = z1 at HCS HV
      generalize (vwG u1).2 = z2 at HCS HV
      obtain ⟨sa, sn, sc⟩ := s
      simp only at hsn HO
      subst hsn
      have c0 := (HQ.out wl HBK.out).1
      go_upto_region 15 with (fail)
      clear c0
      refine wp_region_held_drew (S := fun W' => Below w3.heap.size w3 W') (by kernel_rfl) HBK.out.drew (fun hHeld => ?_)
      have HO := Lib.hid (show Rg.OwnG KC wl.drew w3.heap.size sa sn sc (cellsG nc sn) from HO.out)
      have HX := Lib.hid (show Mx wl.drew g ⟨q0, q1, q2, q3, q4, va, vd, cellsG nc sn, []⟩ ⟨sa, sn, sc⟩ ⟨none, 0, 0⟩ from HX.out)
      generalize wl.drew = w5 at hHeld HO HX ⊢
      have HB : Hid (Below w3.heap.size w3 w5) := hHeld
      clear hHeld HBK
      refine take_in (i := 0) (oi := ⟨_, _, _, _, _, _⟩) (v := ?_) rfl (by kernel_rfl) (by kernel_rfl) (by kernel_rfl) (fun _ _ _ h => h) (by rfl) ?_ HB.out ?_
      rotate_left
      · intro W hW; obtain ⟨_, c1, c2⟩ := HQ.out W hW; go_simp; with_reducible rfl
      simp only [Act.put, List.setIfInBounds_toArray, List.set_cons_zero, List.set_cons_succ]
      refine take_in (i := 2) (oi := ⟨_, _, _, _, _, _⟩) (v := ?_) rfl (by kernel_rfl) (by kernel_rfl) (by kernel_rfl) (fun _ _ _ h => h) (by rfl) ?_ HB.out ?_
      rotate_left
      · intro W hW; obtain ⟨_, c1, c2⟩ := HQ.out W hW; go_simp; with_reducible rfl
      simp only [Act.put, List.setIfInBounds_toArray, List.set_cons_zero, List.set_cons_succ]
      refine take_in (i := 3) (oi := ⟨_, _, _, _, _, _⟩) (v := ?_) rfl (by kernel_rfl) (by kernel_rfl) (by kernel_rfl) (fun _ _ _ h => h) (by rfl) ?_ HB.out ?_
      rotate_left
      · intro W hW; obtain ⟨_, c1, c2⟩ := HQ.out W hW; go_simp; with_reducible rfl
      simp only [Act.put, List.setIfInBounds_toArray, List.set_cons_zero, List.set_cons_succ]
      refine take_in (i := 4) (oi := ⟨_, _, _, _, _, _⟩) (v := ?_) rfl (by kernel_rfl) (by kernel_rfl) (by kernel_rfl) (fun _ _ _ h => h) (by rfl) ?_ HB.out ?_
      rotate_left
      · intro W hW; obtain ⟨_, c1, c2⟩ := HQ.out W hW; go_simp; with_reducible rfl
      simp only [Act.put, List.setIfInBounds_toArray, List.set_cons_zero, List.set_cons_succ]
      refine take_in (i := 5) (oi := ⟨_, _, _, _, _, _⟩) (v := ?_) rfl (by kernel_rfl) (by kernel_rfl) (by kernel_rfl) (fun _ _ _ h => h) (by rfl) ?_ HB.out ?_
      rotate_left
      · intro W hW; obtain ⟨_, c1, c2⟩ := HQ.out W hW; go_simp; with_reducible rfl
      simp only [Act.put, List.setIfInBounds_toArray, List.set_cons_zero, List.set_cons_succ]
      refine take_in (i := 6) (oi := ⟨_, _, _, _, _, _⟩) (v := ?_) rfl (by kernel_rfl) (by kernel_rfl) (by kernel_rfl) (fun _ _ _ h => h) (by rfl) ?_ HB.out ?_
      rotate_left
      · intro W hW; obtain ⟨_, c1, c2⟩ := HQ.out W hW; go_simp; with_reducible rfl
      simp only [Act.put, List.setIfInBounds_toArray, List.set_cons_zero, List.set_cons_succ]
      refine take_in (i := 7) (oi := ⟨_, _, _, _, _, _⟩) (v := ?_) rfl (by kernel_rfl) (by kernel_rfl) (by kernel_rfl) (fun _ _ _ h => h) (by rfl) ?_ HB.out ?_
      rotate_left
      · intro W hW; obtain ⟨_, c1, c2⟩ := HQ.out W hW; go_simp; with_reducible rfl
      simp only [Act.put, List.setIfInBounds_toArray, List.set_cons_zero, List.set_cons_succ]
      refine take_in (i := 8) (oi := ⟨_, _, _, _, _, _⟩) (v := ?_) rfl (by kernel_rfl) (by kernel_rfl) (by kernel_rfl) (fun _ _ _ h => h) (by rfl) ?_ HB.out ?_
      rotate_left
      · intro W hW; obtain ⟨_, c1, c2⟩ := HQ.out W hW; go_simp; with_reducible rfl
      simp only [Act.put, List.setIfInBounds_toArray, List.set_cons_zero, List.set_cons_succ]
      refine wpAnyH_ready (rs := [1, 9]) (by kernel_rfl) (by simp) ?_
      refine AllReadyH.cons (o := ⟨_, _, _, _, _, _⟩) rfl (fun K hK => ?_) (AllReadyH.cons (o := ⟨_, _, _, _, _, _⟩) rfl (fun K hK => ?_) AllReadyH.nil)
      · skip
        have x7 := HX.out.c7
        simp only at x7
        go_simp
        refine hK.out _ _ HB.out (fun _ => ?_)
        clear hK K x7
        refine wpAnyH_ready (rs := [9]) (by kernel_rfl) (by simp) ?_
        refine AllReadyH.cons (o := ⟨_, _, _, _, _, _⟩) rfl (fun K hK => ?_) AllReadyH.nil
        go_simp
        refine (HV.out _).mono ?_
        rintro e0 w6 ⟨rfl, hb6⟩
        have HO := Lib.hid (HO.out.below hb6 (Nat.le_refl _))
        have HX := Lib.hid (HX.out.all hb6)
        have HB := Lib.hid (HB.out.trans (hb6.mono HB.out.size)); clear hb6
        refine hK.out _ _ HB.out (fun _ => ?_)
        clear hK K
        generalize w6 = w5 at HO HX HB ⊢
        refine take_in (i := 10) (oi := ⟨_, _, _, _, _, _⟩) (v := ?_) rfl (by kernel_rfl) (by kernel_rfl) (by kernel_rfl) (fun _ _ _ h => h) (by rfl) ?_ HB.out ?_
        rotate_left
        · intro W hW; go_simp; with_reducible rfl
        simp only [Act.put, List.setIfInBounds_toArray, List.set_cons_zero, List.set_cons_succ]
        refine wpAnyH_ready (rs := [11]) (by kernel_rfl) (by simp) ?_
        refine AllReadyH.cons (o := ⟨_, _, _, _, _, _⟩) rfl (fun K hK => ?_) AllReadyH.nil
        go_simp
        have HX := Lib.hid (show Mx (w5.alloc (.cells #[.int .i64 z0, .int .i64 z1, .int .i64 z2] 47)) g ⟨q0, q1, q2, q3, q4, va, vd, cellsG nc sn, []⟩ ⟨sa, sn, sc⟩ ⟨none, 0, 0⟩ from hbe HX.out)
        have HRW := Lib.hid (show Rg.Rs KC (w5.alloc (.cells #[.int .i64 z0, .int .i64 z1, .int .i64 z2] 47)) (w5.heap.size + 1) (some ⟨w5.heap.size, 0, none⟩) [(z0, z1, z2)] from one_tri w5 (z0, z1, z2))
        have HO := Lib.hid (HO.out.alloc (.cells #[.int .i64 z0, .int .i64 z1, .int .i64 z2] 47))
        have HB := Lib.hid (bal HB.out (Nat.le_refl _) (.cells #[.int .i64 z0, .int .i64 z1, .int .i64 z2] 47))
        refine hK.out _ _ HB.out (fun _ => ?_)
        clear hK K
        generalize w5.alloc (.cells #[.int .i64 z0, .int .i64 z1, .int .i64 z2] 47) = w7 at HX HO HB HRW ⊢
        generalize w5.heap.size = g6 at HRW ⊢
        refine wpAnyH_ready (rs := [12]) (by kernel_rfl) (by simp) ?_
        refine AllReadyH.cons (o := ⟨_, _, _, _, _, _⟩) rfl (fun K hK => ?_) AllReadyH.nil
        refine Rg.op_appGg (K := KC) (.tmp 77) (.tmp 87) rfl w3.heap.size sa sn sc _ rfl HO.out _ _ 1 1 [(z0, z1, z2)] rfl rfl HRW.out (by show _ * 24 ≤ _; omega) HB.out.size ?_
        intro A9 c9 w9 ho9 hb9 hg9
        have HX := Lib.hid (show Mx w9 g ⟨q0, q1, q2, q3, q4, va, vd, cellsG nc sn, []⟩ ⟨sa, sn, sc⟩ ⟨none, 0, 0⟩ from Rg.blk_apart HX.out HO.out.2 (by decide) hg9)
        have HB := Lib.hid (HB.out.trans hb9)
        have HO := Lib.hid ho9
        clear ho9 hb9 hg9 HRW
        refine hK.out _ _ HB.out (fun _ => ?_)
        clear hK K
        simp only [Act.put, List.setIfInBounds_toArray, List.set_cons_zero, List.set_cons_succ]
        refine take_in (i := 13) (oi := ⟨_, _, _, _, _, _⟩) (v := ?_) rfl (by kernel_rfl) (by kernel_rfl) (by kernel_rfl) (fun _ _ _ h => h) (by rfl) ?_ HB.out ?_
        rotate_left
        · intro W hW; go_simp; with_reducible rfl
        simp only [Act.put, List.setIfInBounds_toArray, List.set_cons_zero, List.set_cons_succ]
        have x7 := HX.out.c7; have f7 := HX.out.frozen 7
        simp only at x7
        refine wpAnyH_ready (rs := [14]) (by kernel_rfl) (by simp) ?_
        refine AllReadyH.cons (o := ⟨_, _, _, _, _, _⟩) rfl (fun K hK => ?_) AllReadyH.nil
        go_simp
        have HBE := Lib.hid (show Below w3.heap.size w3 (w9.setCell ⟨g, 7, none⟩ (.slice A9 (sn + 1) c9)) from HB.out.setCell (p := ⟨g, 7, none⟩) HGG.out _)
        have HOE := Lib.hid (show Rg.OwnG KC (w9.setCell ⟨g, 7, none⟩ (.slice A9 (sn + 1) c9)) w3.heap.size A9 (sn + 1) c9 (cellsG nc sn ++ [(z0, z1, z2)]) from HO.out.keep (fun k hk => Below.heap_setCell _ _ _ _ (mx_ne HX.out HO.out.2 (by decide) hk)))
        have HX := Lib.hid (HX.out.put1 7 (.slice A9 (sn + 1) c9) ⟨q0, q1, q2, q3, q4, va, vd, cellsG nc (sn + 1), []⟩ ⟨A9, sn + 1, c9⟩ ⟨none, 0, 0⟩ rfl)
        refine hK.out _ _ HBE.out (fun _ => ?_)
        clear hK K x7 f7
        refine wpAnyH_done (by kernel_rfl) ?_ _
        generalize w9.setCell ⟨g, 7, none⟩ (.slice A9 (sn + 1) c9) = wz at HX HBE HOE ⊢
        go_wp2
        exact ⟨⟨sn + 1, ⟨A9, sn + 1, c9⟩, by go_num, by omega, HX.out, by rw [HCS.out]; exact HOE.out, HBE.out⟩, by simp [intOf]; omega⟩
      · skip
        go_simp
        refine (HV.out _).mono ?_
        rintro e0 w6 ⟨rfl, hb6⟩
        have HO := Lib.hid (HO.out.below hb6 (Nat.le_refl _))
        have HX := Lib.hid (HX.out.all hb6)
        have HB := Lib.hid (HB.out.trans (hb6.mono HB.out.size)); clear hb6
        refine hK.out _ _ HB.out (fun _ => ?_)
        clear hK K
        generalize w6 = w5 at HO HX HB ⊢
        refine take_in (i := 10) (oi := ⟨_, _, _, _, _, _⟩) (v := ?_) rfl (by kernel_rfl) (by kernel_rfl) (by kernel_rfl) (fun _ _ _ h => h) (by rfl) ?_ HB.out ?_
        rotate_left
        · intro W hW; go_simp; with_reducible rfl
        simp only [Act.put, List.setIfInBounds_toArray, List.set_cons_zero, List.set_cons_succ]
        refine wpAnyH_ready (rs := [1, 11]) (by kernel_rfl) (by simp) ?_
        refine AllReadyH.cons (o := ⟨_, _, _, _, _, _⟩) rfl (fun K hK => ?_) (AllReadyH.cons (o := ⟨_, _, _, _, _, _⟩) rfl (fun K hK => ?_) AllReadyH.nil)
        · skip
          have x7 := HX.out.c7
          simp only at x7
          go_simp
          refine hK.out _ _ HB.out (fun _ => ?_)
          clear hK K x7
          refine wpAnyH_ready (rs := [11]) (by kernel_rfl) (by simp) ?_
          refine AllReadyH.cons (o := ⟨_, _, _, _, _, _⟩) rfl (fun K hK => ?_) AllReadyH.nil
          go_simp
          have HX := Lib.hid (show Mx (w5.alloc (.cells #[.int .i64 z0, .int .i64 z1, .int .i64 z2] 47)) g ⟨q0, q1, q2, q3, q4, va, vd, cellsG nc sn, []⟩ ⟨sa, sn, sc⟩ ⟨none, 0, 0⟩ from hbe HX.out)
          have HRW := Lib.hid (show Rg.Rs KC (w5.alloc (.cells #[.int .i64 z0, .int .i64 z1, .int .i64 z2] 47)) (w5.heap.size + 1) (some ⟨w5.heap.size, 0, none⟩) [(z0, z1, z2)] from one_tri w5 (z0, z1, z2))
          have HO := Lib.hid (HO.out.alloc (.cells #[.int .i64 z0, .int .i64 z1, .int .i64 z2] 47))
          have HB := Lib.hid (bal HB.out (Nat.le_refl _) (.cells #[.int .i64 z0, .int .i64 z1, .int .i64 z2] 47))
          refine hK.out _ _ HB.out (fun _ => ?_)
          clear hK K
          generalize w5.alloc (.cells #[.int .i64 z0, .int .i64 z1, .int .i64 z2] 47) = w7 at HX HO HB HRW ⊢
          generalize w5.heap.size = g6 at HRW ⊢
          refine wpAnyH_ready (rs := [12]) (by kernel_rfl) (by simp) ?_
          refine AllReadyH.cons (o := ⟨_, _, _, _, _, _⟩) rfl (fun K hK => ?_) AllReadyH.nil
          refine Rg.op_appGg (K := KC) (.tmp 77) (.tmp 87) rfl w3.heap.size sa sn sc _ rfl HO.out _ _ 1 1 [(z0, z1, z2)] rfl rfl HRW.out (by show _ * 24 ≤ _; omega) HB.out.size ?_
          intro A9 c9 w9 ho9 hb9 hg9
          have HX := Lib.hid (show Mx w9 g ⟨q0, q1, q2, q3, q4, va, vd, cellsG nc sn, []⟩ ⟨sa, sn, sc⟩ ⟨none, 0, 0⟩ from Rg.blk_apart HX.out HO.out.2 (by decide) hg9)
          have HB := Lib.hid (HB.out.trans hb9)
          have HO := Lib.hid ho9
          clear ho9 hb9 hg9 HRW
          refine hK.out _ _ HB.out (fun _ => ?_)
          clear hK K
          simp only [Act.put, List.setIfInBounds_toArray, List.set_cons_zero, List.set_cons_succ]
          refine take_in (i := 13) (oi := ⟨_, _, _, _, _, _⟩) (v := ?_) rfl (by kernel_rfl) (by kernel_rfl) (by kernel_rfl) (fun _ _ _ h => h) (by rfl) ?_ HB.out ?_
          rotate_left
          · intro W hW; go_simp; with_reducible rfl
          simp only [Act.put, List.setIfInBounds_toArray, List.set_cons_zero, List.set_cons_succ]
          have x7 := HX.out.c7; have f7 := HX.out.frozen 7
          simp only at x7
          refine wpAnyH_ready (rs := [14]) (by kernel_rfl) (by simp) ?_
          refine AllReadyH.cons (o := ⟨_, _, _, _, _, _⟩) rfl (fun K hK => ?_) AllReadyH.nil
          go_simp
          have HBE := Lib.hid (show Below w3.heap.size w3 (w9.setCell ⟨g, 7, none⟩ (.slice A9 (sn + 1) c9)) from HB.out.setCell (p := ⟨g, 7, none⟩) HGG.out _)
          have HOE := Lib.hid (show Rg.OwnG KC (w9.setCell ⟨g, 7, none⟩ (.slice A9 (sn + 1) c9)) w3.heap.size A9 (sn + 1) c9 (cellsG nc sn ++ [(z0, z1, z2)]) from HO.out.keep (fun k hk => Below.heap_setCell _ _ _ _ (mx_ne HX.out HO.out.2 (by decide) hk)))
          have HX := Lib.hid (HX.out.put1 7 (.slice A9 (sn + 1) c9) ⟨q0, q1, q2, q3, q4, va, vd, cellsG nc (sn + 1), []⟩ ⟨A9, sn + 1, c9⟩ ⟨none, 0, 0⟩ rfl)
          refine hK.out _ _ HBE.out (fun _ => ?_)
          clear hK K x7 f7
          refine wpAnyH_done (by kernel_rfl) ?_ _
          generalize w9.setCell ⟨g, 7, none⟩ (.slice A9 (sn + 1) c9) = wz at HX HBE HOE ⊢
          go_wp2
          exact ⟨⟨sn + 1, ⟨A9, sn + 1, c9⟩, by go_num, by omega, HX.out, by rw [HCS.out]; exact HOE.out, HBE.out⟩, by simp [intOf]; omega⟩
        · skip
          go_simp
          have HX := Lib.hid (show Mx (w5.alloc (.cells #[.int .i64 z0, .int .i64 z1, .int .i64 z2] 47)) g ⟨q0, q1, q2, q3, q4, va, vd, cellsG nc sn, []⟩ ⟨sa, sn, sc⟩ ⟨none, 0, 0⟩ from hbe HX.out)
          have HRW := Lib.hid (show Rg.Rs KC (w5.alloc (.cells #[.int .i64 z0, .int .i64 z1, .int .i64 z2] 47)) (w5.heap.size + 1) (some ⟨w5.heap.size, 0, none⟩) [(z0, z1, z2)] from one_tri w5 (z0, z1, z2))
          have HO := Lib.hid (HO.out.alloc (.cells #[.int .i64 z0, .int .i64 z1, .int .i64 z2] 47))
          have HB := Lib.hid (bal HB.out (Nat.le_refl _) (.cells #[.int .i64 z0, .int .i64 z1, .int .i64 z2] 47))
          refine hK.out _ _ HB.out (fun _ => ?_)
          clear hK K
          generalize w5.alloc (.cells #[.int .i64 z0, .int .i64 z1, .int .i64 z2] 47) = w7 at HX HO HB HRW ⊢
          generalize w5.heap.size = g6 at HRW ⊢
          refine wpAnyH_ready (rs := [1]) (by kernel_rfl) (by simp) ?_
          refine AllReadyH.cons (o := ⟨_, _, _, _, _, _⟩) rfl (fun K hK => ?_) AllReadyH.nil
          have x7 := HX.out.c7
          simp only at x7
          go_simp
          refine hK.out _ _ HB.out (fun _ => ?_)
          clear hK K x7
          refine wpAnyH_ready (rs := [12]) (by kernel_rfl) (by simp) ?_
          refine AllReadyH.cons (o := ⟨_, _, _, _, _, _⟩) rfl (fun K hK => ?_) AllReadyH.nil
          refine Rg.op_appGg (K := KC) (.tmp 77) (.tmp 87) rfl w3.heap.size sa sn sc _ rfl HO.out _ _ 1 1 [(z0, z1, z2)] rfl rfl HRW.out (by show _ * 24 ≤ _; omega) HB.out.size ?_
          intro A9 c9 w9 ho9 hb9 hg9
          have HX := Lib.hid (show Mx w9 g ⟨q0, q1, q2, q3, q4, va, vd, cellsG nc sn, []⟩ ⟨sa, sn, sc⟩ ⟨none, 0, 0⟩ from Rg.blk_apart HX.out HO.out.2 (by decide) hg9)
          have HB := Lib.hid (HB.out.trans hb9)
          have HO := Lib.hid ho9
          clear ho9 hb9 hg9 HRW
          refine hK.out _ _ HB.out (fun _ => ?_)
          clear hK K
          simp only [Act.put, List.setIfInBounds_toArray, List.set_cons_zero, List.set_cons_succ]
          refine take_in (i := 13) (oi := ⟨_, _, _, _, _, _⟩) (v := ?_) rfl (by kernel_rfl) (by kernel_rfl) (by kernel_rfl) (fun _ _ _ h => h) (by rfl) ?_ HB.out ?_
          rotate_left
          · intro W hW; go_simp; with_reducible rfl
          simp only [Act.put, List.setIfInBounds_toArray, List.set_cons_zero, List.set_cons_succ]
          have x7 := HX.out.c7; have f7 := HX.out.frozen 7
          simp only at x7
          refine wpAnyH_ready (rs := [14]) (by kernel_rfl) (by simp) ?_
          refine AllReadyH.cons (o := ⟨_, _, _, _, _, _⟩) rfl (fun K hK => ?_) AllReadyH.nil
          go_simp
          have HBE := Lib.hid (show Below w3.heap.size w3 (w9.setCell ⟨g, 7, none⟩ (.slice A9 (sn + 1) c9)) from HB.out.setCell (p := ⟨g, 7, none⟩) HGG.out _)
          have HOE := Lib.hid (show Rg.OwnG KC (w9.setCell ⟨g, 7, none⟩ (.slice A9 (sn + 1) c9)) w3.heap.size A9 (sn + 1) c9 (cellsG nc sn ++ [(z0, z1, z2)]) from HO.out.keep (fun k hk => Below.heap_setCell _ _ _ _ (mx_ne HX.out HO.out.2 (by decide) hk)))
          have HX := Lib.hid (HX.out.put1 7 (.slice A9 (sn + 1) c9) ⟨q0, q1, q2, q3, q4, va, vd, cellsG nc (sn + 1), []⟩ ⟨A9, sn + 1, c9⟩ ⟨none, 0, 0⟩ rfl)
          refine hK.out _ _ HBE.out (fun _ => ?_)
          clear hK K x7 f7
          refine wpAnyH_done (by kernel_rfl) ?_ _
          generalize w9.setCell ⟨g, 7, none⟩ (.slice A9 (sn + 1) c9) = wz at HX HBE HOE ⊢
          go_wp2
          exact ⟨⟨sn + 1, ⟨A9, sn + 1, c9⟩, by go_num, by omega, HX.out, by rw [HCS.out]; exact HOE.out, HBE.out⟩, by simp [intOf]; omega⟩
    · have hjk : j = k := by omega
      have HO := Lib.hid (show Rg.OwnG KC wl w3.heap.size s.a s.n s.c (cellsG nc k) from by rw [← hjk]; exact HO.out)
      have HX := Lib.hid (show Mx wl g ⟨q0, q1, q2, q3, q4, va, vd, cellsG nc k, []⟩ s ⟨none, 0, 0⟩ from by rw [← hjk]; exact HX.out)
      have hj3 : ¬ ((j : Int) < (k : Int)) := by omega
      clear hjk hj h hsn
      go_wp2
      clear hj3
      go_loopw [93] (fun i wr => ∃ (tn : Nat) (t : S3), i = .int .i64 tn ∧ tn ≤ k2 ∧ Mx wr g ⟨q0, q1, q2, q3, q4, va, vd, cellsG nc k, entsG ne tn⟩ s t ∧ Rg.OwnG KC wr w3.heap.size s.a s.n s.c (cellsG nc k) ∧ Rg.OwnG KE wr w3.heap.size t.a t.n t.c (entsG ne tn) ∧ Below w3.heap.size w3 wr) (fun i _ => k2 - (intOf i).toNat)
      case atStart => exact ⟨0, ⟨none, 0, 0⟩, rfl, by omega, HX.out, HO.out, Rg.own_noneG KE _ _, HBK.out⟩
      case round =>
        clear HX HO HBK hsz
        rename World => we
        obtain ⟨j2, t, rfl, hj2, hx, hoc, hoe, hb⟩ := hrel
        have HX := Lib.hid hx; have HOC := Lib.hid hoc; have HOE := Lib.hid hoe; have HBK := Lib.hid hb
        have hsz := hb.size
        have htn : t.n = j2 := by have := hoe.1; rwa [entsG_len] at this
        clear hx hoc hoe hb
        by_cases h : j2 < k2
        · obtain ⟨ta, tn, tc⟩ := t
          simp only at htn HOE
          subst htn
          obtain ⟨b0, o0, rfl, hb0, hc0⟩ := HSR.out (by simp; omega)
          obtain ⟨bn, on, rfl, hbn, hcn⟩ := HSN.out (by rw [List.length_map, HKE.out]; omega)
          have HQ : Hid (∀ W, Below w3.heap.size w3 W → W.cell? ⟨b0, o0 + tn, none⟩ = some (.slice (some ⟨bn, on + 4 * tn, none⟩) 4 4) ∧ (W.cell? ⟨bn, on + 4 * tn, none⟩ = some (.int .u64 ((gt ne (4 * tn) : Nat) : Int)) ∧ W.cell? ⟨bn, on + 4 * tn + 1, none⟩ = some (.int .u64 ((gt ne (4 * tn + 1) : Nat) : Int)) ∧ W.cell? ⟨bn, on + 4 * tn + 2, none⟩ = some (.int .u64 ((gt ne (4 * tn + 2) : Nat) : Int)) ∧ W.cell? ⟨bn, on + 4 * tn + 3, none⟩ = some (.int .u64 ((gt ne (4 * tn + 3) : Nat) : Int)))) := Lib.hid (fun W hW => ⟨(hW.cell (p := ⟨b0, o0 + tn, none⟩) hb0).trans ((hc0 tn _ (by rw [List.getElem?_map, List.getElem?_range h]; rfl)).trans (by rw [row_at])),
            (hW.cell (p := ⟨bn, on + 4 * tn, none⟩) hbn).trans (hcn (4 * tn) _ (gt_get ne (4 * tn) (by rw [HKE.out]; omega))), (hW.cell (p := ⟨bn, on + 4 * tn + 1, none⟩) hbn).trans (hcn (4 * tn + 1) _ (gt_get ne (4 * tn + 1) (by rw [HKE.out]; omega))), (hW.cell (p := ⟨bn, on + 4 * tn + 2, none⟩) hbn).trans (hcn (4 * tn + 2) _ (gt_get ne (4 * tn + 2) (by rw [HKE.out]; omega))), (hW.cell (p := ⟨bn, on + 4 * tn + 3, none⟩) hbn).trans (hcn (4 * tn + 3) _ (gt_get ne (4 * tn + 3) (by rw [HKE.out]; omega)))⟩)
          have HES : Hid (entsG ne (tn + 1) = entsG ne tn ++ [⟨iw (gt ne (4 * tn)), iw (gt ne (4 * tn + 1)), iw (gt ne (4 * tn + 2)), Flt.clean (gt ne (4 * tn + 3))⟩]) := Lib.hid (entsG_succ ne tn)
          have HV : Hid (∀ W, Calls Try.prog 75 #[.int .u64 ((gt ne (4 * tn + 3) : Nat) : Int)] W fun e w' => e = .returned (.float .f64 (Flt.clean (gt ne (4 * tn + 3)))) ∧ W = w') := Lib.hid (fun W => by have := Lgw.num_of_c ((gt ne (4 * tn + 3) : Nat) : Int) W; rwa [Int.toNat_natCast] at this)
          have hwu0 := Lgw.wrap_iw (gt ne (4 * tn)) (gt_w HWE.out _)
          have hwu1 := Lgw.wrap_iw (gt ne (4 * tn + 1)) (gt_w HWE.out _)
          have hwu2 := Lgw.wrap_iw (gt ne (4 * tn + 2)) (gt_w HWE.out _)
          clear hb0 hc0 hbn hcn
          generalize on + 4 * tn = oj at HQ
          generalize gt ne (4 * tn) = u0 at HQ HES hwu0
          generalize gt ne (4 * tn + 1) = u1 at HQ HES hwu1
          generalize gt ne (4 * tn + 2) = u2 at HQ HES hwu2
          generalize gt ne (4 * tn + 3) = u3 at HQ HES HV
          generalize iw u0 = z0 at HES hwu0
          generalize iw u1 = z1 at HES hwu1
          generalize iw u2 = z2 at HES hwu2
          generalize Flt.clean u3 = cv at HES HV
          have hsf := store_flt
          have c0 := (HQ.out we HBK.out).1
          go_upto_region 20 with (fail)
          clear c0
          go_cut [16] (fun s16 wq => ∃ gv, s16 = .pointer (some ⟨gv, 0, none⟩) ∧ w3.heap.size ≤ gv ∧ gv ≠ g ∧ Tgw.Tx wq gv z1 z2 ∧ Mx wq g ⟨q0, q1, q2, q3, q4, va, vd, cellsG nc k, entsG ne tn⟩ s ⟨ta, tn, tc⟩ ∧ Rg.OwnG KC wq w3.heap.size s.a s.n s.c (cellsG nc k) ∧ Rg.OwnG KE wq w3.heap.size ta tn tc (entsG ne tn) ∧ Below w3.heap.size w3 wq)
          case first =>
            clear HV HES hwu0 HYES HWE HZ HB HRR HRN HKN HWC HSR HSN HKE
            refine wp_region_held_drew (S := fun W' => Below w3.heap.size w3 W') (by kernel_rfl) HBK.out.drew (fun hHeld => ?_)
            have HOC := Lib.hid (show Rg.OwnG KC we.drew w3.heap.size s.a s.n s.c (cellsG nc k) from HOC.out)
            have HOE := Lib.hid (show Rg.OwnG KE we.drew w3.heap.size ta tn tc (entsG ne tn) from HOE.out)
            have HX := Lib.hid (show Mx we.drew g ⟨q0, q1, q2, q3, q4, va, vd, cellsG nc k, entsG ne tn⟩ s ⟨ta, tn, tc⟩ from HX.out)
            generalize we.drew = w5 at hHeld HOC HOE HX ⊢
            have HB5 : Hid (Below w3.heap.size w3 w5) := hHeld
            clear hHeld HBK
            refine take_in (i := 0) (oi := ⟨_, _, _, _, _, _⟩) (v := ?_) rfl (by kernel_rfl) (by kernel_rfl) (by kernel_rfl) (fun _ _ _ h => h) (by rfl) ?_ HB5.out ?_
            rotate_left
            · intro W hW; obtain ⟨_, c1, c2, c3, c4⟩ := HQ.out W hW; go_simp; with_reducible rfl
            simp only [Act.put, List.setIfInBounds_toArray, List.set_cons_zero, List.set_cons_succ]
            refine take_in (i := 1) (oi := ⟨_, _, _, _, _, _⟩) (v := ?_) rfl (by kernel_rfl) (by kernel_rfl) (by kernel_rfl) (fun _ _ _ h => h) (by rfl) ?_ HB5.out ?_
            rotate_left
            · intro W hW; obtain ⟨_, c1, c2, c3, c4⟩ := HQ.out W hW; go_simp; with_reducible rfl
            simp only [Act.put, List.setIfInBounds_toArray, List.set_cons_zero, List.set_cons_succ]
            refine take_in (i := 2) (oi := ⟨_, _, _, _, _, _⟩) (v := ?_) rfl (by kernel_rfl) (by kernel_rfl) (by kernel_rfl) (fun _ _ _ h => h) (by rfl) ?_ HB5.out ?_
            rotate_left
            · intro W hW; obtain ⟨_, c1, c2, c3, c4⟩ := HQ.out W hW; go_simp; with_reducible rfl
            simp only [Act.put, List.setIfInBounds_toArray, List.set_cons_zero, List.set_cons_succ]
            refine take_in (i := 3) (oi := ⟨_, _, _, _, _, _⟩) (v := ?_) rfl (by kernel_rfl) (by kernel_rfl) (by kernel_rfl) (fun _ _ _ h => h) (by rfl) ?_ HB5.out ?_
            rotate_left
            · intro W hW; obtain ⟨_, c1, c2, c3, c4⟩ := HQ.out W hW; go_simp; with_reducible rfl
            simp only [Act.put, List.setIfInBounds_toArray, List.set_cons_zero, List.set_cons_succ]
            refine take_in (i := 4) (oi := ⟨_, _, _, _, _, _⟩) (v := ?_) rfl (by kernel_rfl) (by kernel_rfl) (by kernel_rfl) (fun _ _ _ h => h) (by rfl) ?_ HB5.out ?_
            rotate_left
            · intro W hW; obtain ⟨_, c1, c2, c3, c4⟩ := HQ.out W hW; go_simp; with_reducible rfl
            simp only [Act.put, List.setIfInBounds_toArray, List.set_cons_zero, List.set_cons_succ]
            refine take_in (i := 5) (oi := ⟨_, _, _, _, _, _⟩) (v := ?_) rfl (by kernel_rfl) (by kernel_rfl) (by kernel_rfl) (fun _ _ _ h => h) (by rfl) ?_ HB5.out ?_
            rotate_left
            · intro W hW; obtain ⟨_, c1, c2, c3, c4⟩ := HQ.out W hW; go_simp; with_reducible rfl
            simp only [Act.put, List.setIfInBounds_toArray, List.set_cons_zero, List.set_cons_succ]
            refine take_in (i := 6) (oi := ⟨_, _, _, _, _, _⟩) (v := ?_) rfl (by kernel_rfl) (by kernel_rfl) (by kernel_rfl) (fun _ _ _ h => h) (by rfl) ?_ HB5.out ?_
            rotate_left
            · intro W hW; obtain ⟨_, c1, c2, c3, c4⟩ := HQ.out W hW; go_simp; with_reducible rfl
            simp only [Act.put, List.setIfInBounds_toArray, List.set_cons_zero, List.set_cons_succ]
            refine take_in (i := 7) (oi := ⟨_, _, _, _, _, _⟩) (v := ?_) rfl (by kernel_rfl) (by kernel_rfl) (by kernel_rfl) (fun _ _ _ h => h) (by rfl) ?_ HB5.out ?_
            rotate_left
            · intro W hW; obtain ⟨_, c1, c2, c3, c4⟩ := HQ.out W hW; go_simp; with_reducible rfl
            simp only [Act.put, List.setIfInBounds_toArray, List.set_cons_zero, List.set_cons_succ]
            refine take_in (i := 8) (oi := ⟨_, _, _, _, _, _⟩) (v := ?_) rfl (by kernel_rfl) (by kernel_rfl) (by kernel_rfl) (fun _ _ _ h => h) (by rfl) ?_ HB5.out ?_
            rotate_left
            · intro W hW; obtain ⟨_, c1, c2, c3, c4⟩ := HQ.out W hW; go_simp; with_reducible rfl
            simp only [Act.put, List.setIfInBounds_toArray, List.set_cons_zero, List.set_cons_succ]
            refine wpAnyH_ready (rs := [9]) (by kernel_rfl) (by simp) ?_
            refine AllReadyH.cons (o := ⟨_, _, _, _, _, _⟩) rfl (fun K hK => ?_) AllReadyH.nil
            go_simp
            have HTX := Lib.hid (show Tgw.Tx (w5.alloc (.cells #[.int .i64 0, .int .i64 0] 49)) w5.heap.size 0 0 from hat _ _ _ rfl)
            have HNE : Hid (w5.heap.size ≠ g) := Lib.hid (by have := HX.out.lt; omega)
            have HGV := Lib.hid HB5.out.size
            have HRC : Hid (∀ j, (Value.slice s.a s.n s.c).ownBlock = some j → j ≠ w5.heap.size) := Lib.hid (fun j hj => by have := (HOC.out.2.lt j hj).2; omega)
            have HRE : Hid (∀ j, (Value.slice ta tn tc).ownBlock = some j → j ≠ w5.heap.size) := Lib.hid (fun j hj => by have := (HOE.out.2.lt j hj).2; omega)
            have HX := Lib.hid (show Mx (w5.alloc (.cells #[.int .i64 0, .int .i64 0] 49)) g ⟨q0, q1, q2, q3, q4, va, vd, cellsG nc k, entsG ne tn⟩ s ⟨ta, tn, tc⟩ from hbe HX.out)
            have HOC := Lib.hid (HOC.out.alloc (.cells #[.int .i64 0, .int .i64 0] 49)); have HOE := Lib.hid (HOE.out.alloc (.cells #[.int .i64 0, .int .i64 0] 49))
            have HB6 := Lib.hid (bal HB5.out (Nat.le_refl _) (.cells #[.int .i64 0, .int .i64 0] 49))
            refine hK.out _ _ HB6.out (fun _ => ?_)
            clear hK K
            generalize w5.alloc (.cells #[.int .i64 0, .int .i64 0] 49) = w6 at HTX HX HOC HOE HB6 ⊢
            generalize w5.heap.size = gv at HTX HNE HGV HRC HRE ⊢
            have t0 := HTX.out.c0; have t1 := HTX.out.c1
            have f0 := frozen_of_row w6 gv 0 _ _ HTX.out; have f1 := frozen_of_row w6 gv 1 _ _ HTX.out
            refine wpAnyH_ready (rs := [10]) (by kernel_rfl) (by simp) ?_
            refine AllReadyH.cons (o := ⟨_, _, _, _, _, _⟩) rfl (fun K hK => ?_) AllReadyH.nil
            go_simp
            have HB7 := Lib.hid (show Below w3.heap.size w3 ((w6.setCell ⟨gv, 0, none⟩ (.int .i64 z1)).setCell ⟨gv, 1, none⟩ (.int .i64 z2)) from (HB6.out.setCell (p := ⟨gv, 0, none⟩) HGV.out _).setCell (p := ⟨gv, 1, none⟩) HGV.out _)
            refine hK.out _ _ HB7.out (fun _ => ?_)
            clear hK K t0 t1 f0 f1
            have HTX := Lib.hid (show Tgw.Tx ((w6.setCell ⟨gv, 0, none⟩ (.int .i64 z1)).setCell ⟨gv, 1, none⟩ (.int .i64 z2)) gv z1 z2 from HTX.out.put z1 z2)
            have HX := Lib.hid (show Mx ((w6.setCell ⟨gv, 0, none⟩ (.int .i64 z1)).setCell ⟨gv, 1, none⟩ (.int .i64 z2)) g ⟨q0, q1, q2, q3, q4, va, vd, cellsG nc k, entsG ne tn⟩ s ⟨ta, tn, tc⟩ from (HX.out.other (p := ⟨gv, 0, none⟩) (fun e => HNE.out e.symm) _).other (p := ⟨gv, 1, none⟩) (fun e => HNE.out e.symm) _)
            have HOC := Lib.hid (show Rg.OwnG KC ((w6.setCell ⟨gv, 0, none⟩ (.int .i64 z1)).setCell ⟨gv, 1, none⟩ (.int .i64 z2)) w3.heap.size s.a s.n s.c (cellsG nc k) from HOC.out.keep (fun k hk => (Below.heap_setCell _ _ _ _ (HRC.out k hk)).trans (Below.heap_setCell _ _ _ _ (HRC.out k hk))))
            have HOE := Lib.hid (show Rg.OwnG KE ((w6.setCell ⟨gv, 0, none⟩ (.int .i64 z1)).setCell ⟨gv, 1, none⟩ (.int .i64 z2)) w3.heap.size ta tn tc (entsG ne tn) from HOE.out.keep (fun k hk => (Below.heap_setCell _ _ _ _ (HRE.out k hk)).trans (Below.heap_setCell _ _ _ _ (HRE.out k hk))))
            clear HB5 HB6 HRC HRE
            generalize ((w6.setCell ⟨gv, 0, none⟩ (.int .i64 z1)).setCell ⟨gv, 1, none⟩ (.int .i64 z2)) = w7 at HTX HX HOC HOE HB7 ⊢
            refine wpAnyH_done (by kernel_rfl) ?_ _
            go_wp2
            go_meet
            case rel => exact ⟨gv, rfl, HGV.out, HNE.out, HTX.out, HX.out, HOC.out, HOE.out, HB7.out⟩
          case rest =>
          obtain ⟨gv, rfl, hgv, hne, htx, hx, hoc, hoe, hb7⟩ := hcut
          have HGV := Lib.hid hgv; have HNE := Lib.hid hne; have HTX := Lib.hid htx; have HB7 := Lib.hid hb7
          clear HX HOC HOE HBK
          have HX := Lib.hid hx; have HOC := Lib.hid hoc; have HOE := Lib.hid hoe
          clear hgv hne htx hx hoc hoe hb7 hwu1 hwu2
          go_upto_region 21 with (fail)
          refine wp_region_held_drew (S := fun W' => Tgw.Tx W' gv z1 z2 ∧ Below w3.heap.size w3 W') (by kernel_rfl) ⟨HTX.out, HB7.out.drew⟩ (fun hHeld => ?_)
          have HOC := Lib.hid (show Rg.OwnG KC wc.drew w3.heap.size s.a s.n s.c (cellsG nc k) from HOC.out)
          have HOE := Lib.hid (show Rg.OwnG KE wc.drew w3.heap.size ta tn tc (entsG ne tn) from HOE.out)
          have HX := Lib.hid (show Mx wc.drew g ⟨q0, q1, q2, q3, q4, va, vd, cellsG nc k, entsG ne tn⟩ s ⟨ta, tn, tc⟩ from HX.out)
          generalize wc.drew = w7 at hHeld HOC HOE HX ⊢
          have HB := Lib.hid hHeld
          clear hHeld HB7 HTX
          refine take_in (i := 0) (oi := ⟨_, _, _, _, _, _⟩) (v := ?_) rfl (by kernel_rfl) (by kernel_rfl) (by kernel_rfl) (fun _ _ _ h => h) (by rfl) ?_ HB.out ?_
          rotate_left
          · intro W hW; obtain ⟨_, c1, c2, c3, c4⟩ := HQ.out W hW.2; have t0 := hW.1.c0; have t1 := hW.1.c1; go_simp; with_reducible rfl
          simp only [Act.put, List.setIfInBounds_toArray, List.set_cons_zero, List.set_cons_succ]
          refine take_in (i := 2) (oi := ⟨_, _, _, _, _, _⟩) (v := ?_) rfl (by kernel_rfl) (by kernel_rfl) (by kernel_rfl) (fun _ _ _ h => h) (by rfl) ?_ HB.out ?_
          rotate_left
          · intro W hW; obtain ⟨_, c1, c2, c3, c4⟩ := HQ.out W hW.2; have t0 := hW.1.c0; have t1 := hW.1.c1; go_simp; with_reducible rfl
          simp only [Act.put, List.setIfInBounds_toArray, List.set_cons_zero, List.set_cons_succ]
          refine take_in (i := 3) (oi := ⟨_, _, _, _, _, _⟩) (v := ?_) rfl (by kernel_rfl) (by kernel_rfl) (by kernel_rfl) (fun _ _ _ h => h) (by rfl) ?_ HB.out ?_
          rotate_left
          · intro W hW; obtain ⟨_, c1, c2, c3, c4⟩ := HQ.out W hW.2; have t0 := hW.1.c0; have t1 := hW.1.c1; go_simp; with_reducible rfl
          simp only [Act.put, List.setIfInBounds_toArray, List.set_cons_zero, List.set_cons_succ]
          refine take_in (i := 4) (oi := ⟨_, _, _, _, _, _⟩) (v := ?_) rfl (by kernel_rfl) (by kernel_rfl) (by kernel_rfl) (fun _ _ _ h => h) (by rfl) ?_ HB.out ?_
          rotate_left
          · intro W hW; obtain ⟨_, c1, c2, c3, c4⟩ := HQ.out W hW.2; have t0 := hW.1.c0; have t1 := hW.1.c1; go_simp; with_reducible rfl
          simp only [Act.put, List.setIfInBounds_toArray, List.set_cons_zero, List.set_cons_succ]
          refine take_in (i := 5) (oi := ⟨_, _, _, _, _, _⟩) (v := ?_) rfl (by kernel_rfl) (by kernel_rfl) (by kernel_rfl) (fun _ _ _ h => h) (by rfl) ?_ HB.out ?_
          rotate_left
          · intro W hW; obtain ⟨_, c1, c2, c3, c4⟩ := HQ.out W hW.2; have t0 := hW.1.c0; have t1 := hW.1.c1; go_simp; with_reducible rfl
          simp only [Act.put, List.setIfInBounds_toArray, List.set_cons_zero, List.set_cons_succ]
          refine take_in (i := 6) (oi := ⟨_, _, _, _, _, _⟩) (v := ?_) rfl (by kernel_rfl) (by kernel_rfl) (by kernel_rfl) (fun _ _ _ h => h) (by rfl) ?_ HB.out ?_
          rotate_left
          · intro W hW; obtain ⟨_, c1, c2, c3, c4⟩ := HQ.out W hW.2; have t0 := hW.1.c0; have t1 := hW.1.c1; go_simp; with_reducible rfl
          simp only [Act.put, List.setIfInBounds_toArray, List.set_cons_zero, List.set_cons_succ]
          refine take_in (i := 7) (oi := ⟨_, _, _, _, _, _⟩) (v := ?_) rfl (by kernel_rfl) (by kernel_rfl) (by kernel_rfl) (fun _ _ _ h => h) (by rfl) ?_ HB.out ?_
          rotate_left
          · intro W hW; obtain ⟨_, c1, c2, c3, c4⟩ := HQ.out W hW.2; have t0 := hW.1.c0; have t1 := hW.1.c1; go_simp; with_reducible rfl
          simp only [Act.put, List.setIfInBounds_toArray, List.set_cons_zero, List.set_cons_succ]
          refine take_in (i := 8) (oi := ⟨_, _, _, _, _, _⟩) (v := ?_) rfl (by kernel_rfl) (by kernel_rfl) (by kernel_rfl) (fun _ _ _ h => h) (by rfl) ?_ HB.out ?_
          rotate_left
          · intro W hW; obtain ⟨_, c1, c2, c3, c4⟩ := HQ.out W hW.2; have t0 := hW.1.c0; have t1 := hW.1.c1; go_simp; with_reducible rfl
          simp only [Act.put, List.setIfInBounds_toArray, List.set_cons_zero, List.set_cons_succ]
          refine take_in (i := 9) (oi := ⟨_, _, _, _, _, _⟩) (v := ?_) rfl (by kernel_rfl) (by kernel_rfl) (by kernel_rfl) (fun _ _ _ h => h) (by rfl) ?_ HB.out ?_
          rotate_left
          · intro W hW; obtain ⟨_, c1, c2, c3, c4⟩ := HQ.out W hW.2; have t0 := hW.1.c0; have t1 := hW.1.c1; go_simp; with_reducible rfl
          simp only [Act.put, List.setIfInBounds_toArray, List.set_cons_zero, List.set_cons_succ]
          refine wpAnyH_ready (rs := [1, 10]) (by kernel_rfl) (by simp) ?_
          refine AllReadyH.cons (o := ⟨_, _, _, _, _, _⟩) rfl (fun K hK => ?_) (AllReadyH.cons (o := ⟨_, _, _, _, _, _⟩) rfl (fun K hK => ?_) AllReadyH.nil)
          · skip
            have x8 := HX.out.c8
            simp only at x8
            go_simp
            refine hK.out _ _ HB.out (fun _ => ?_)
            clear hK K x8
            refine wpAnyH_ready (rs := [10]) (by kernel_rfl) (by simp) ?_
            refine AllReadyH.cons (o := ⟨_, _, _, _, _, _⟩) rfl (fun K hK => ?_) AllReadyH.nil
            go_simp
            refine (HV.out _).mono ?_
            rintro e0 w8 ⟨rfl, rfl⟩
            refine hK.out _ _ HB.out (fun _ => ?_)
            clear hK K
            refine take_in (i := 11) (oi := ⟨_, _, _, _, _, _⟩) (v := ?_) rfl (by kernel_rfl) (by kernel_rfl) (by kernel_rfl) (fun _ _ _ h => h) (by rfl) ?_ HB.out ?_
            rotate_left
            · intro W hW; go_simp; with_reducible rfl
            simp only [Act.put, List.setIfInBounds_toArray, List.set_cons_zero, List.set_cons_succ]
            refine wpAnyH_ready (rs := [12]) (by kernel_rfl) (by simp) ?_
            refine AllReadyH.cons (o := ⟨_, _, _, _, _, _⟩) rfl (fun K hK => ?_) AllReadyH.nil
            go_simp
            have HX := Lib.hid (show Mx (w7.alloc (.cells #[.int .i64 z0, .int .i64 z1, .int .i64 z2, .float .f64 cv] 52)) g ⟨q0, q1, q2, q3, q4, va, vd, cellsG nc k, entsG ne tn⟩ s ⟨ta, tn, tc⟩ from hbe HX.out)
            have HRW := Lib.hid (show Rg.Rs KE (w7.alloc (.cells #[.int .i64 z0, .int .i64 z1, .int .i64 z2, .float .f64 cv] 52)) (w7.heap.size + 1) (some ⟨w7.heap.size, 0, none⟩) [⟨z0, z1, z2, cv⟩] from Rg.rs_new KE w7 [⟨z0, z1, z2, cv⟩])
            have HOC := Lib.hid (HOC.out.alloc (.cells #[.int .i64 z0, .int .i64 z1, .int .i64 z2, .float .f64 cv] 52)); have HOE := Lib.hid (HOE.out.alloc (.cells #[.int .i64 z0, .int .i64 z1, .int .i64 z2, .float .f64 cv] 52))
            have HB := Lib.hid (show Tgw.Tx (w7.alloc (.cells #[.int .i64 z0, .int .i64 z1, .int .i64 z2, .float .f64 cv] 52)) gv z1 z2 ∧ Below w3.heap.size w3 (w7.alloc (.cells #[.int .i64 z0, .int .i64 z1, .int .i64 z2, .float .f64 cv] 52)) from ⟨hbe HB.out.1, bal HB.out.2 (Nat.le_refl _) _⟩)
            refine hK.out _ _ HB.out (fun _ => ?_)
            clear hK K
            generalize w7.alloc (.cells #[.int .i64 z0, .int .i64 z1, .int .i64 z2, .float .f64 cv] 52) = w8 at HX HOC HOE HB HRW ⊢
            generalize w7.heap.size = g6 at HRW ⊢
            refine wpAnyH_ready (rs := [13]) (by kernel_rfl) (by simp) ?_
            refine AllReadyH.cons (o := ⟨_, _, _, _, _, _⟩) rfl (fun K hK => ?_) AllReadyH.nil
            refine Rg.op_appGg (K := KE) (.tmp 107) (.tmp 118) rfl w3.heap.size ta tn tc _ rfl HOE.out _ _ 1 1 [⟨z0, z1, z2, cv⟩] rfl rfl HRW.out (by show _ * 32 ≤ _; omega) HB.out.2.size ?_
            intro A9 c9 w9 ho9 hb9 hg9
            have HX := Lib.hid (show Mx w9 g ⟨q0, q1, q2, q3, q4, va, vd, cellsG nc k, entsG ne tn⟩ s ⟨ta, tn, tc⟩ from Rg.blk_apart HX.out HOE.out.2 (by decide) hg9)
            have HOC := Lib.hid (show Rg.OwnG KC w9 w3.heap.size s.a s.n s.c (cellsG nc k) from ⟨HOC.out.1, Rg.rows_apart HOC.out.2 HOE.out.2 (by decide) hg9⟩)
            have HB := Lib.hid (show Tgw.Tx w9 gv z1 z2 ∧ Below w3.heap.size w3 w9 from ⟨Rg.blk_apart HB.out.1 HOE.out.2 (by decide) hg9, HB.out.2.trans hb9⟩)
            have HOE := Lib.hid ho9
            clear ho9 hb9 hg9 HRW
            refine hK.out _ _ HB.out (fun _ => ?_)
            clear hK K
            simp only [Act.put, List.setIfInBounds_toArray, List.set_cons_zero, List.set_cons_succ]
            refine take_in (i := 14) (oi := ⟨_, _, _, _, _, _⟩) (v := ?_) rfl (by kernel_rfl) (by kernel_rfl) (by kernel_rfl) (fun _ _ _ h => h) (by rfl) ?_ HB.out ?_
            rotate_left
            · intro W hW; go_simp; with_reducible rfl
            simp only [Act.put, List.setIfInBounds_toArray, List.set_cons_zero, List.set_cons_succ]
            have x8 := HX.out.c8; have f8 := HX.out.frozen 8
            simp only at x8
            refine wpAnyH_ready (rs := [15]) (by kernel_rfl) (by simp) ?_
            refine AllReadyH.cons (o := ⟨_, _, _, _, _, _⟩) rfl (fun K hK => ?_) AllReadyH.nil
            go_simp
            have HBE := Lib.hid (show Tgw.Tx (w9.setCell ⟨g, 8, none⟩ (.slice A9 (tn + 1) c9)) gv z1 z2 ∧ Below w3.heap.size w3 (w9.setCell ⟨g, 8, none⟩ (.slice A9 (tn + 1) c9)) from ⟨HB.out.1.other (p := ⟨g, 8, none⟩) HNE.out _, HB.out.2.setCell (p := ⟨g, 8, none⟩) HGG.out _⟩)
            have HOE := Lib.hid (show Rg.OwnG KE (w9.setCell ⟨g, 8, none⟩ (.slice A9 (tn + 1) c9)) w3.heap.size A9 (tn + 1) c9 (entsG ne tn ++ [⟨z0, z1, z2, cv⟩]) from HOE.out.keep (fun k hk => Below.heap_setCell _ _ _ _ (mx_ne HX.out HOE.out.2 (by decide) hk)))
            have HOC := Lib.hid (show Rg.OwnG KC (w9.setCell ⟨g, 8, none⟩ (.slice A9 (tn + 1) c9)) w3.heap.size s.a s.n s.c (cellsG nc k) from HOC.out.keep (fun k hk => Below.heap_setCell _ _ _ _ (mx_ne HX.out HOC.out.2 (by decide) hk)))
            have HX := Lib.hid (HX.out.put1 8 (.slice A9 (tn + 1) c9) ⟨q0, q1, q2, q3, q4, va, vd, cellsG nc k, entsG ne (tn + 1)⟩ s ⟨A9, tn + 1, c9⟩ rfl)
            refine hK.out _ _ HBE.out (fun _ => ?_)
            clear hK K x8 f8
            refine wpAnyH_done (by kernel_rfl) ?_ _
            generalize w9.setCell ⟨g, 8, none⟩ (.slice A9 (tn + 1) c9) = wz at HX HBE HOE HOC ⊢
            go_wp2
            exact ⟨⟨tn + 1, ⟨A9, tn + 1, c9⟩, by go_num, by omega, HX.out, HOC.out, by rw [HES.out]; exact HOE.out, HBE.out.2⟩, by simp [intOf]; omega⟩
          · skip
            go_simp
            refine (HV.out _).mono ?_
            rintro e0 w8 ⟨rfl, rfl⟩
            refine hK.out _ _ HB.out (fun _ => ?_)
            clear hK K
            refine take_in (i := 11) (oi := ⟨_, _, _, _, _, _⟩) (v := ?_) rfl (by kernel_rfl) (by kernel_rfl) (by kernel_rfl) (fun _ _ _ h => h) (by rfl) ?_ HB.out ?_
            rotate_left
            · intro W hW; go_simp; with_reducible rfl
            simp only [Act.put, List.setIfInBounds_toArray, List.set_cons_zero, List.set_cons_succ]
            refine wpAnyH_ready (rs := [1, 12]) (by kernel_rfl) (by simp) ?_
            refine AllReadyH.cons (o := ⟨_, _, _, _, _, _⟩) rfl (fun K hK => ?_) (AllReadyH.cons (o := ⟨_, _, _, _, _, _⟩) rfl (fun K hK => ?_) AllReadyH.nil)
            · skip
              have x8 := HX.out.c8
              simp only at x8
              go_simp
              refine hK.out _ _ HB.out (fun _ => ?_)
              clear hK K x8
              refine wpAnyH_ready (rs := [12]) (by kernel_rfl) (by simp) ?_
              refine AllReadyH.cons (o := ⟨_, _, _, _, _, _⟩) rfl (fun K hK => ?_) AllReadyH.nil
              go_simp
              have HX := Lib.hid (show Mx (w7.alloc (.cells #[.int .i64 z0, .int .i64 z1, .int .i64 z2, .float .f64 cv] 52)) g ⟨q0, q1, q2, q3, q4, va, vd, cellsG nc k, entsG ne tn⟩ s ⟨ta, tn, tc⟩ from hbe HX.out)
              have HRW := Lib.hid (show Rg.Rs KE (w7.alloc (.cells #[.int .i64 z0, .int .i64 z1, .int .i64 z2, .float .f64 cv] 52)) (w7.heap.size + 1) (some ⟨w7.heap.size, 0, none⟩) [⟨z0, z1, z2, cv⟩] from Rg.rs_new KE w7 [⟨z0, z1, z2, cv⟩])
              have HOC := Lib.hid (HOC.out.alloc (.cells #[.int .i64 z0, .int .i64 z1, .int .i64 z2, .float .f64 cv] 52)); have HOE := Lib.hid (HOE.out.alloc (.cells #[.int .i64 z0, .int .i64 z1, .int .i64 z2, .float .f64 cv] 52))
              have HB := Lib.hid (show Tgw.Tx (w7.alloc (.cells #[.int .i64 z0, .int .i64 z1, .int .i64 z2, .float .f64 cv] 52)) gv z1 z2 ∧ Below w3.heap.size w3 (w7.alloc (.cells #[.int .i64 z0, .int .i64 z1, .int .i64 z2, .float .f64 cv] 52)) from ⟨hbe HB.out.1, bal HB.out.2 (Nat.le_refl _) _⟩)
              refine hK.out _ _ HB.out (fun _ => ?_)
              clear hK K
              generalize w7.alloc (.cells #[.int .i64 z0, .int .i64 z1, .int .i64 z2, .float .f64 cv] 52) = w8 at HX HOC HOE HB HRW ⊢
              generalize w7.heap.size = g6 at HRW ⊢
              refine wpAnyH_ready (rs := [13]) (by kernel_rfl) (by simp) ?_
              refine AllReadyH.cons (o := ⟨_, _, _, _, _, _⟩) rfl (fun K hK => ?_) AllReadyH.nil
              refine Rg.op_appGg (K := KE) (.tmp 107) (.tmp 118) rfl w3.heap.size ta tn tc _ rfl HOE.out _ _ 1 1 [⟨z0, z1, z2, cv⟩] rfl rfl HRW.out (by show _ * 32 ≤ _; omega) HB.out.2.size ?_
              intro A9 c9 w9 ho9 hb9 hg9
              have HX := Lib.hid (show Mx w9 g ⟨q0, q1, q2, q3, q4, va, vd, cellsG nc k, entsG ne tn⟩ s ⟨ta, tn, tc⟩ from Rg.blk_apart HX.out HOE.out.2 (by decide) hg9)
              have HOC := Lib.hid (show Rg.OwnG KC w9 w3.heap.size s.a s.n s.c (cellsG nc k) from ⟨HOC.out.1, Rg.rows_apart HOC.out.2 HOE.out.2 (by decide) hg9⟩)
              have HB := Lib.hid (show Tgw.Tx w9 gv z1 z2 ∧ Below w3.heap.size w3 w9 from ⟨Rg.blk_apart HB.out.1 HOE.out.2 (by decide) hg9, HB.out.2.trans hb9⟩)
              have HOE := Lib.hid ho9
              clear ho9 hb9 hg9 HRW
              refine hK.out _ _ HB.out (fun _ => ?_)
              clear hK K
              simp only [Act.put, List.setIfInBounds_toArray, List.set_cons_zero, List.set_cons_succ]
              refine take_in (i := 14) (oi := ⟨_, _, _, _, _, _⟩) (v := ?_) rfl (by kernel_rfl) (by kernel_rfl) (by kernel_rfl) (fun _ _ _ h => h) (by rfl) ?_ HB.out ?_
              rotate_left
              · intro W hW; go_simp; with_reducible rfl
              simp only [Act.put, List.setIfInBounds_toArray, List.set_cons_zero, List.set_cons_succ]
              have x8 := HX.out.c8; have f8 := HX.out.frozen 8
              simp only at x8
              refine wpAnyH_ready (rs := [15]) (by kernel_rfl) (by simp) ?_
              refine AllReadyH.cons (o := ⟨_, _, _, _, _, _⟩) rfl (fun K hK => ?_) AllReadyH.nil
              go_simp
              have HBE := Lib.hid (show Tgw.Tx (w9.setCell ⟨g, 8, none⟩ (.slice A9 (tn + 1) c9)) gv z1 z2 ∧ Below w3.heap.size w3 (w9.setCell ⟨g, 8, none⟩ (.slice A9 (tn + 1) c9)) from ⟨HB.out.1.other (p := ⟨g, 8, none⟩) HNE.out _, HB.out.2.setCell (p := ⟨g, 8, none⟩) HGG.out _⟩)
              have HOE := Lib.hid (show Rg.OwnG KE (w9.setCell ⟨g, 8, none⟩ (.slice A9 (tn + 1) c9)) w3.heap.size A9 (tn + 1) c9 (entsG ne tn ++ [⟨z0, z1, z2, cv⟩]) from HOE.out.keep (fun k hk => Below.heap_setCell _ _ _ _ (mx_ne HX.out HOE.out.2 (by decide) hk)))
              have HOC := Lib.hid (show Rg.OwnG KC (w9.setCell ⟨g, 8, none⟩ (.slice A9 (tn + 1) c9)) w3.heap.size s.a s.n s.c (cellsG nc k) from HOC.out.keep (fun k hk => Below.heap_setCell _ _ _ _ (mx_ne HX.out HOC.out.2 (by decide) hk)))
              have HX := Lib.hid (HX.out.put1 8 (.slice A9 (tn + 1) c9) ⟨q0, q1, q2, q3, q4, va, vd, cellsG nc k, entsG ne (tn + 1)⟩ s ⟨A9, tn + 1, c9⟩ rfl)
              refine hK.out _ _ HBE.out (fun _ => ?_)
              clear hK K x8 f8
              refine wpAnyH_done (by kernel_rfl) ?_ _
              generalize w9.setCell ⟨g, 8, none⟩ (.slice A9 (tn + 1) c9) = wz at HX HBE HOE HOC ⊢
              go_wp2
              exact ⟨⟨tn + 1, ⟨A9, tn + 1, c9⟩, by go_num, by omega, HX.out, HOC.out, by rw [HES.out]; exact HOE.out, HBE.out.2⟩, by simp [intOf]; omega⟩
            · skip
              go_simp
              have HX := Lib.hid (show Mx (w7.alloc (.cells #[.int .i64 z0, .int .i64 z1, .int .i64 z2, .float .f64 cv] 52)) g ⟨q0, q1, q2, q3, q4, va, vd, cellsG nc k, entsG ne tn⟩ s ⟨ta, tn, tc⟩ from hbe HX.out)
              have HRW := Lib.hid (show Rg.Rs KE (w7.alloc (.cells #[.int .i64 z0, .int .i64 z1, .int .i64 z2, .float .f64 cv] 52)) (w7.heap.size + 1) (some ⟨w7.heap.size, 0, none⟩) [⟨z0, z1, z2, cv⟩] from Rg.rs_new KE w7 [⟨z0, z1, z2, cv⟩])
              have HOC := Lib.hid (HOC.out.alloc (.cells #[.int .i64 z0, .int .i64 z1, .int .i64 z2, .float .f64 cv] 52)); have HOE := Lib.hid (HOE.out.alloc (.cells #[.int .i64 z0, .int .i64 z1, .int .i64 z2, .float .f64 cv] 52))
              have HB := Lib.hid (show Tgw.Tx (w7.alloc (.cells #[.int .i64 z0, .int .i64 z1, .int .i64 z2, .float .f64 cv] 52)) gv z1 z2 ∧ Below w3.heap.size w3 (w7.alloc (.cells #[.int .i64 z0, .int .i64 z1, .int .i64 z2, .float .f64 cv] 52)) from ⟨hbe HB.out.1, bal HB.out.2 (Nat.le_refl _) _⟩)
              refine hK.out _ _ HB.out (fun _ => ?_)
              clear hK K
              generalize w7.alloc (.cells #[.int .i64 z0, .int .i64 z1, .int .i64 z2, .float .f64 cv] 52) = w8 at HX HOC HOE HB HRW ⊢
              generalize w7.heap.size = g6 at HRW ⊢
              refine wpAnyH_ready (rs := [1]) (by kernel_rfl) (by simp) ?_
              refine AllReadyH.cons (o := ⟨_, _, _, _, _, _⟩) rfl (fun K hK => ?_) AllReadyH.nil
              have x8 := HX.out.c8
              simp only at x8
              go_simp
              refine hK.out _ _ HB.out (fun _ => ?_)
              clear hK K x8
              refine wpAnyH_ready (rs := [13]) (by kernel_rfl) (by simp) ?_
              refine AllReadyH.cons (o := ⟨_, _, _, _, _, _⟩) rfl (fun K hK => ?_) AllReadyH.nil
              refine Rg.op_appGg (K := KE) (.tmp 107) (.tmp 118) rfl w3.heap.size ta tn tc _ rfl HOE.out _ _ 1 1 [⟨z0, z1, z2, cv⟩] rfl rfl HRW.out (by show _ * 32 ≤ _; omega) HB.out.2.size ?_
              intro A9 c9 w9 ho9 hb9 hg9
              have HX := Lib.hid (show Mx w9 g ⟨q0, q1, q2, q3, q4, va, vd, cellsG nc k, entsG ne tn⟩ s ⟨ta, tn, tc⟩ from Rg.blk_apart HX.out HOE.out.2 (by decide) hg9)
              have HOC := Lib.hid (show Rg.OwnG KC w9 w3.heap.size s.a s.n s.c (cellsG nc k) from ⟨HOC.out.1, Rg.rows_apart HOC.out.2 HOE.out.2 (by decide) hg9⟩)
              have HB := Lib.hid (show Tgw.Tx w9 gv z1 z2 ∧ Below w3.heap.size w3 w9 from ⟨Rg.blk_apart HB.out.1 HOE.out.2 (by decide) hg9, HB.out.2.trans hb9⟩)
              have HOE := Lib.hid ho9
              clear ho9 hb9 hg9 HRW
              refine hK.out _ _ HB.out (fun _ => ?_)
              clear hK K
              simp only [Act.put, List.setIfInBounds_toArray, List.set_cons_zero, List.set_cons_succ]
              refine take_in (i := 14) (oi := ⟨_, _, _, _, _, _⟩) (v := ?_) rfl (by kernel_rfl) (by kernel_rfl) (by kernel_rfl) (fun _ _ _ h => h) (by rfl) ?_ HB.out ?_
              rotate_left
              · intro W hW; go_simp; with_reducible rfl
              simp only [Act.put, List.setIfInBounds_toArray, List.set_cons_zero, List.set_cons_succ]
              have x8 := HX.out.c8; have f8 := HX.out.frozen 8
              simp only at x8
              refine wpAnyH_ready (rs := [15]) (by kernel_rfl) (by simp) ?_
              refine AllReadyH.cons (o := ⟨_, _, _, _, _, _⟩) rfl (fun K hK => ?_) AllReadyH.nil
              go_simp
              have HBE := Lib.hid (show Tgw.Tx (w9.setCell ⟨g, 8, none⟩ (.slice A9 (tn + 1) c9)) gv z1 z2 ∧ Below w3.heap.size w3 (w9.setCell ⟨g, 8, none⟩ (.slice A9 (tn + 1) c9)) from ⟨HB.out.1.other (p := ⟨g, 8, none⟩) HNE.out _, HB.out.2.setCell (p := ⟨g, 8, none⟩) HGG.out _⟩)
              have HOE := Lib.hid (show Rg.OwnG KE (w9.setCell ⟨g, 8, none⟩ (.slice A9 (tn + 1) c9)) w3.heap.size A9 (tn + 1) c9 (entsG ne tn ++ [⟨z0, z1, z2, cv⟩]) from HOE.out.keep (fun k hk => Below.heap_setCell _ _ _ _ (mx_ne HX.out HOE.out.2 (by decide) hk)))
              have HOC := Lib.hid (show Rg.OwnG KC (w9.setCell ⟨g, 8, none⟩ (.slice A9 (tn + 1) c9)) w3.heap.size s.a s.n s.c (cellsG nc k) from HOC.out.keep (fun k hk => Below.heap_setCell _ _ _ _ (mx_ne HX.out HOC.out.2 (by decide) hk)))
              have HX := Lib.hid (HX.out.put1 8 (.slice A9 (tn + 1) c9) ⟨q0, q1, q2, q3, q4, va, vd, cellsG nc k, entsG ne (tn + 1)⟩ s ⟨A9, tn + 1, c9⟩ rfl)
              refine hK.out _ _ HBE.out (fun _ => ?_)
              clear hK K x8 f8
              refine wpAnyH_done (by kernel_rfl) ?_ _
              generalize w9.setCell ⟨g, 8, none⟩ (.slice A9 (tn + 1) c9) = wz at HX HBE HOE HOC ⊢
              go_wp2
              exact ⟨⟨tn + 1, ⟨A9, tn + 1, c9⟩, by go_num, by omega, HX.out, HOC.out, by rw [HES.out]; exact HOE.out, HBE.out.2⟩, by simp [intOf]; omega⟩
        · have hjk : j2 = k2 := by omega
          have HOE := Lib.hid (show Rg.OwnG KE we w3.heap.size t.a t.n t.c (entsG ne k2) from by rw [← hjk]; exact HOE.out)
          have HX := Lib.hid (show Mx we g ⟨q0, q1, q2, q3, q4, va, vd, cellsG nc k, entsG ne k2⟩ s t from by rw [← hjk]; exact HX.out)
          have hj3 : ¬ ((j2 : Int) < (k2 : Int)) := by omega
          have HLW := Lib.hid HZ.out.lt
          have HZ := Lib.hid (HZ.out.all HBK.out)
          have HB := Lib.hid (HB.out.trans (HBK.out.mono HB.out.size))
          have HL1 := Lib.hid hk6; have HL2 := Lib.hid hk4
          clear hjk hj2 h htn hk6 hk4
          obtain ⟨x0, x1, x2, x3, x4, x5, x6, x7, x8⟩ := HX.out.cs
          simp only at x0 x1 x2 x3 x4 x5 x6
          obtain ⟨y0, y1, y2, y3, y4, y5, y6, y7, y8⟩ := HZ.out.cs
          have f0 := HZ.out.frozen 0; have f1 := HZ.out.frozen 1; have f2 := HZ.out.frozen 2; have f3 := HZ.out.frozen 3; have f4 := HZ.out.frozen 4; have f5 := HZ.out.frozen 5; have f6 := HZ.out.frozen 6; have f7 := HZ.out.frozen 7; have f8 := HZ.out.frozen 8
          simp only [zeroM] at y0 y1 y2 y3 y4 y5 y6 y7 y8
          go_wp2
          refine bodyPost_ret (results_msg2 (g := w.heap.size) (m := ⟨q0, q1, q2, q3, q4, va, vd, cellsG nc k, entsG ne k2⟩) (s := s) (t := t) (x := .bool true) rfl rfl rfl (HZ.out.put ⟨q0, q1, q2, q3, q4, va, vd, cellsG nc k, entsG ne k2⟩ s t)) rfl ?_
          have HBF := Lib.hid (show Below w.heap.size w (((((((((we.setCell ⟨w.heap.size, 0, none⟩ (.int .i64 q0)).setCell ⟨w.heap.size, 1, none⟩ (.int .i64 q1)).setCell ⟨w.heap.size, 2, none⟩ (.int .i64 q2)).setCell ⟨w.heap.size, 3, none⟩ (.int .i64 q3)).setCell ⟨w.heap.size, 4, none⟩ (.int .i64 q4)).setCell ⟨w.heap.size, 5, none⟩ (.int .i64 va)).setCell ⟨w.heap.size, 6, none⟩ (.int .i64 vd)).setCell ⟨w.heap.size, 7, none⟩ (.slice s.a s.n s.c)).setCell ⟨w.heap.size, 8, none⟩ (.slice t.a t.n t.c)) from (((((((((HB.out.setCell (Nat.le_refl _) _).setCell (Nat.le_refl _) _).setCell (Nat.le_refl _) _).setCell (Nat.le_refl _) _).setCell (Nat.le_refl _) _).setCell (Nat.le_refl _) _).setCell (Nat.le_refl _) _).setCell (Nat.le_refl _) _).setCell (Nat.le_refl _) _))
          have HO1 := Lib.hid (show Rg.OwnG KC (((((((((we.setCell ⟨w.heap.size, 0, none⟩ (.int .i64 q0)).setCell ⟨w.heap.size, 1, none⟩ (.int .i64 q1)).setCell ⟨w.heap.size, 2, none⟩ (.int .i64 q2)).setCell ⟨w.heap.size, 3, none⟩ (.int .i64 q3)).setCell ⟨w.heap.size, 4, none⟩ (.int .i64 q4)).setCell ⟨w.heap.size, 5, none⟩ (.int .i64 va)).setCell ⟨w.heap.size, 6, none⟩ (.int .i64 vd)).setCell ⟨w.heap.size, 7, none⟩ (.slice s.a s.n s.c)).setCell ⟨w.heap.size, 8, none⟩ (.slice t.a t.n t.c)) w3.heap.size s.a s.n s.c (cellsG nc k) from HOC.out.keep (fun k hk => chain9 (by have := (HOC.out.2.lt k hk).1; have := HLW.out; omega)))
          have HO2 := Lib.hid (show Rg.OwnG KE (((((((((we.setCell ⟨w.heap.size, 0, none⟩ (.int .i64 q0)).setCell ⟨w.heap.size, 1, none⟩ (.int .i64 q1)).setCell ⟨w.heap.size, 2, none⟩ (.int .i64 q2)).setCell ⟨w.heap.size, 3, none⟩ (.int .i64 q3)).setCell ⟨w.heap.size, 4, none⟩ (.int .i64 q4)).setCell ⟨w.heap.size, 5, none⟩ (.int .i64 va)).setCell ⟨w.heap.size, 6, none⟩ (.int .i64 vd)).setCell ⟨w.heap.size, 7, none⟩ (.slice s.a s.n s.c)).setCell ⟨w.heap.size, 8, none⟩ (.slice t.a t.n t.c)) w3.heap.size t.a t.n t.c (entsG ne k2) from HOE.out.keep (fun k hk => chain9 (by have := (HOE.out.2.lt k hk).1; have := HLW.out; omega)))
          exact HYES.out _ s t HBF.out ⟨HO1.out.base (Nat.le_of_lt HLW.out), HO2.out.base (Nat.le_of_lt HLW.out), wf_entsG HWE.out _, by rw [cellsG_len]; exact HL1.out, by rw [entsG_len]; exact HL2.out⟩
end Go.Proofs.Ytldfccllpnplmaa.Msw
