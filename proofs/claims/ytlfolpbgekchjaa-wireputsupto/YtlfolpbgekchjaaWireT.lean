/- What the document's own Cut and SameNums of layer 2 answer; wireAlive. -/
import Derived.Test.YtlfolpbgekchjaaWireS
namespace Go.Proofs.Ytlfolpbgekchjaa
open Go.RowKit
open Wire

theorem gets_r (A : Option Addr) (n c : Nat) (many : Int) (bs : List UInt8) (hn : n = bs.length) (B : Nat) (w : World) (hr : Rd w B A (bs.map B8)) (hB : B ≤ w.heap.size) (hl : n ≤ big) :
    Calls Try.prog 18 #[.slice A n c, .int .i64 many] w (RetGets w (getsI many bs)) := by
  by_cases h : many < 0 ∨ 100 < many
  · exact gets_rout A n c many bs w h
  · have hg : getsI many bs = getsF many.toNat bs := if_neg h
    obtain ⟨m, rfl⟩ := Int.eq_ofNat_of_zero_le (show 0 ≤ many by omega)
    rw [hg]
    exact gets_rin A n c m bs hn B w hr hB hl (by omega)

/-- what the document's Cut answers: two parts of one row -/
def RetCutR (w : World) (o : Option (List UInt8 × List UInt8)) (e : Ending) (w' : World) : Prop :=
  Below w.heap.size w w' ∧ match o with
  | none => e = .returned (.tuple #[.slice none 0 0, .slice none 0 0, .int .i64 21])
  | some (t, r) => ∃ A n c A2 n2 c2, e = .returned (.tuple #[.slice A n c, .slice A2 n2 c2, .int .i64 0]) ∧ n = t.length ∧ n2 = r.length ∧ Rd w' w'.heap.size A (t.map B8) ∧ Rd w' w'.heap.size A2 (r.map B8)

theorem cut_r (A : Option Addr) (n c : Nat) (bs : List UInt8) (hn : n = bs.length) (hc : n ≤ c) (B : Nat) (w : World) (hr : Rd w B A (bs.map B8)) (hB : B ≤ w.heap.size) (hl : n ≤ big) :
    Calls Try.prog 21 #[.slice A n c] w (RetCutR w (cutF bs)) := by
  have HN := Lib.hid hn; clear hn
  have HR := Lib.hid hr; clear hr
  cases ht : takeF bs with
  | none =>
    have hcut : cutF bs = none := by unfold cutF; rw [ht]
    rw [hcut]
    clear hcut
    have HT := Lib.hid ht; clear ht
    go_enter Try.func21, Try.ntmps21
    go_wp2_with fail
    refine (get_r _ _ _ bs HN.out hc B _ HR.out hB hl).mono ?_
    rintro e w1 ⟨hb1, h1⟩
    rw [HT.out] at h1
    have h1' : e = .returned (.tuple #[.int .u64 0, .slice none 0 0, .int .i64 21]) := h1
    clear h1
    subst h1'
    have HB1 := Lib.hid hb1; clear hb1
    go_wp2
    go_ret3
    exact ⟨HB1.out, rfl⟩
  | some x =>
    obtain ⟨v, r⟩ := x
    have hcut : cutF bs = if 4000 < v ∨ r.length < v then none else some (r.take v, r.drop v) := by unfold cutF; rw [ht]
    have HCUT := Lib.hid hcut
    clear hcut
    have hrl := takeF_len ht
    have hrb : r.length ≤ 140737488355328 := by have := HN.out; unfold big at hl; omega
    have HT := Lib.hid ht; clear ht hrl
    go_enter Try.func21, Try.ntmps21
    go_wp2_with fail
    refine (get_r _ _ _ bs HN.out hc B _ HR.out hB hl).mono ?_
    rintro e w1 ⟨hb1, h1⟩
    rw [HT.out] at h1
    obtain ⟨A1, n1, c1, h1', ho1⟩ := h1
    subst h1'
    have HB1 := Lib.hid hb1; clear hb1
    have hc1 := ho1.cap
    have hn1 : n1 = r.length := ho1.1
    have hn1b : n1 ≤ 140737488355328 := by omega
    have HO1 := Lib.hid ho1; clear ho1
    have HN1 := Lib.hid hn1; clear hn1
    by_cases h4 : 4000 < v
    · have HC : Hid (4000 < v ∨ r.length < v) := Or.inl h4
      go_wp2
      go_ret3
      rw [HCUT.out, if_pos HC.out]
      exact ⟨HB1.out, rfl⟩
    · by_cases h5 : n1 < v
      · have HC : Hid (4000 < v ∨ r.length < v) := Or.inr (by rw [← HN1.out]; exact h5)
        go_wp2
        go_ret3
        rw [HCUT.out, if_pos HC.out]
        exact ⟨HB1.out, rfl⟩
      · have HC : Hid (¬ (4000 < v ∨ r.length < v)) := by show ¬ _; rw [← HN1.out]; omega
        have h5' : v ≤ n1 := by omega
        obtain ⟨A2, hs2, hr2⟩ := run_upto Try.underlying23 size8 A1 n1 c1 v (v : Int) .u64 rfl (by omega)
        have HR2 : Hid (Rd w1 w1.heap.size A2 ((r.take v).map B8)) := by rw [List.map_take]; exact hr2 w1 _ _ (HO1.out.rd.take v)
        clear hr2
        obtain ⟨A3, hs3, hr3⟩ := run_from Try.underlying23 size8 A1 n1 c1 v (v : Int) .u64 rfl h5' hc1
        have HR3 : Hid (Rd w1 w1.heap.size A3 ((r.drop v).map B8)) := by rw [List.map_drop]; exact hr3 w1 _ _ (by rw [List.length_map]; exact HN1.out.symm) HO1.out.rd
        clear hr3
        have HL2 : Hid (v = (r.take v).length) := by show _ = _; rw [List.length_take, ← HN1.out]; omega
        have HL3 : Hid (n1 - v = (r.drop v).length) := by show _ = _; rw [List.length_drop, ← HN1.out]
        go_wp2
        go_quiet (fail)
        go_wp2
        go_ret3
        rw [HCUT.out, if_neg HC.out]
        exact ⟨HB1.out.trans (below_drewN _ _ _), A2, v, c1, A3, n1 - v, c1 - v, rfl, HL2.out, HL3.out, HR2.out, HR3.out⟩

theorem same_step (a b : List Nat) (k : Nat) (h : a.take k = b.take k) (x y : Nat) (hx : a[k]? = some x) (hy : b[k]? = some y) (e : x = y) : a.take (k + 1) = b.take (k + 1) := by
  rw [List.take_add_one, List.take_add_one, h, hx, hy, e]

def RetBool (w : World) (b : Bool) (e : Ending) (w' : World) : Prop := e = .returned (.bool b) ∧ ∃ k, w' = w.drewN k

theorem samenums_c (A : Option Addr) (n c : Nat) (xs : List Nat) (hn : n = xs.length) (A2 : Option Addr) (m c2 : Nat) (ys : List Nat) (hm : m = ys.length) (B : Nat) (w : World) (hr : Rd w B A (xs.map N64)) (hr2 : Rd w B A2 (ys.map N64)) (hl : n ≤ big) :
    Calls Try.prog 19 #[.slice A n c, .slice A2 m c2] w (RetBool w (decide (xs = ys))) := by
  have h47 : n ≤ 140737488355328 := hl
  have HN := Lib.hid hn
  have HM := Lib.hid hm
  have HR := Lib.hid hr; clear hr
  have HR2 := Lib.hid hr2; clear hr2
  by_cases hnm : n = m
  · subst hnm
    clear hn hm
    go_enter Try.func19, Try.ntmps19
    go_wp2
    go_loopw [13] (fun i wr => ∃ k : Nat, k ≤ n ∧ i = .int .i64 k ∧ xs.take k = ys.take k ∧ ∃ q, wr = w.drewN q) (fun i _ => n - (intOf i).toNat)
    case atStart => exact ⟨0, Nat.zero_le _, rfl, rfl, 0, rfl⟩
    case round =>
      obtain ⟨k, hk, rfl, ht, q, rfl⟩ := hrel
      have HT := Lib.hid ht; clear ht
      by_cases hlt : k < n
      · obtain ⟨b, o, rfl, hb, hc⟩ := HR.out (by rw [List.length_map, ← HN.out]; omega)
        obtain ⟨b2, o2, rfl, hb2, hc2⟩ := HR2.out (by rw [List.length_map, ← HM.out]; omega)
        have hkx : k < xs.length := by rw [← HN.out]; exact hlt
        have hky : k < ys.length := by rw [← HM.out]; exact hlt
        have hx : xs[k]? = some xs[k] := List.getElem?_eq_getElem hkx
        have hy : ys[k]? = some ys[k] := List.getElem?_eq_getElem hky
        have hcx := hc k (N64 xs[k]) (by simp [hkx])
        have hcy := hc2 k (N64 ys[k]) (by simp [hky])
        generalize xs[k] = x at hx hcx
        generalize ys[k] = y at hy hcy
        have hcx' : w.cell? ⟨b, o + k, none⟩ = some (.int .u64 (x : Int)) := hcx
        have hcy' : w.cell? ⟨b2, o2 + k, none⟩ = some (.int .u64 (y : Int)) := hcy
        have HX := Lib.hid hx
        have HY := Lib.hid hy
        clear hcx hcy hx hy hc hc2 hkx hky
        by_cases hxy : x = y
        · subst hxy
          go_wp2
          go_quiet (fail)
          go_wp2
          exact ⟨⟨k + 1, by omega, by go_num, same_step _ _ _ HT.out _ _ HX.out HY.out rfl, _, rfl⟩, by simp [intOf]; omega⟩
        · have hne : (((x : Int)) != (y : Int)) = true := by rw [bne_iff_ne]; omega
          have HNE := Lib.hid hxy; clear hxy
          go_wp2
          go_quiet (fail)
          go_wp2
          go_ret
          refine ⟨congrArg (fun b => Ending.returned (.bool b)) ?_, q + nq, by simp⟩
          symm
          rw [decide_eq_false_iff_not]
          rintro rfl
          have := HX.out.symm.trans HY.out
          injection this with this
          exact HNE.out this
      · go_wp2
        go_ret
        obtain rfl : k = n := by omega
        have e := HT.out
        rw [List.take_of_length_le (by rw [HN.out]; exact Nat.le_refl _), List.take_of_length_le (by rw [HM.out]; exact Nat.le_refl _)] at e
        exact ⟨congrArg (fun b => Ending.returned (.bool b)) (decide_eq_true e).symm, _, rfl⟩
  · have hne : (((n : Int)) != (m : Int)) = true := by rw [bne_iff_ne]; omega
    have hxy : ¬ xs = ys := by rintro rfl; omega
    have HXY := Lib.hid hxy; clear hxy hn hm hnm
    go_enter Try.func19, Try.ntmps19
    go_wp2
    go_ret
    exact ⟨congrArg (fun b => Ending.returned (.bool b)) (decide_eq_false HXY.out).symm, 0, rfl⟩

theorem rd_nums (w : World) (ns : List Nat) : Rd (w.alloc (.cells (ns.map N64).toArray 22)) (w.heap.size + 1) (some ⟨w.heap.size, 0, none⟩) (ns.map N64) := by
  intro _
  refine ⟨_, _, rfl, by omega, fun j u hu => ?_⟩
  rw [cell_of_row _ _ _ _ _ _ (heap_alloc_new w _)]
  simpa using hu

theorem alive_take : takeF [2, 1, 44, 9] = some (300, [9]) := by decide
theorem alive_form : [] ++ [0, 300].flatMap form = [0, 2, 1, 44] := by decide

theorem alive_c (w : World) : Calls Try.prog 11 #[] w fun e w' => e = .returned (.bool true) ∧ Below w.heap.size w w' := by
  have hb : 100 ≤ big := by unfold big; omega
  go_enter Try.func11, Try.ntmps11
  go_wp2_with fail
  refine (get_c _ _ _ [2, 1, 44, 9] rfl (Nat.le_refl _) (w.heap.size + 1) _ (rd_new w ([2, 1, 44, 9].map B8)) (by simp) (by show 4 ≤ big; omega)).mono ?_
  rintro e w1 ⟨hb1, h1⟩
  rw [alive_take] at h1
  obtain ⟨A1, n1, c1, h1', ho1⟩ := h1
  subst h1'
  obtain ⟨b, o, rfl, hbb, hc1⟩ := ho1.rd.head
  obtain rfl : n1 = 1 := ho1.1
  clear ho1
  have hb1' : Below w.heap.size w w1 := ((Below.refl _ _).alloc (Nat.le_refl _) _).trans (hb1.mono (by simp))
  have hsz := hb1'.size
  have HB1 := Lib.hid hb1'; clear hb1 hb1'
  go_wp2_with fail
  refine (put_c _ _ _ [] rfl _ _ _ [0, 300] rfl (by intro x hx; simp at hx; unfold W64; omega) (w1.heap.size + 1) _ Rd.nil (rd_nums w1 [0, 300]) (by simp) (by show 0 + 9 * 2 ≤ big; omega)).mono ?_
  rintro e w2 ⟨A2, n2, c2, rfl, ho2, hb2⟩
  rw [alive_form] at ho2
  have hc2 : w2.cell? ⟨b, o, none⟩ = some (.int .u8 9) := by
    rw [hb2.cell (p := ⟨b, o, none⟩) (by simp; omega), Below.cell ((Below.refl _ _).alloc (Nat.le_refl _) _) (p := ⟨b, o, none⟩) hbb]
    exact hc1
  have hcv := run_str (P := Try.prog) (c := c2) Try.underlying23 Try.underlying5 Try.underlying9 ho2.rd ho2.1
  have HO2 := Lib.hid ho2; clear ho2
  have hb2' : Below w.heap.size w w2 := (HB1.out.alloc hsz _).trans (hb2.mono (by simp; omega))
  have HB2 := Lib.hid hb2'; clear hb2 hb2' hc1
  have hsq : ((str [0, 2, 1, 44]).toList == [0, 2, 1, 44]) = true := by rw [str_toList]; decide
  go_wp2
  go_ret
  exact ⟨rfl, HB2.out⟩
end Go.Proofs.Ytlfolpbgekchjaa
