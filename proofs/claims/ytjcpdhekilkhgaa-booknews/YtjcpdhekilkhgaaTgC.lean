/- What package tag answers, as it landed: contracts by walks. -/
import Derived.Test.YtjcpdhekilkhgaaTgR
namespace Go.Proofs.Ytjcpdhekilkhgaa.Tgw
open Go.RowKit
open Tg

theorem node_c (d : Int) (w : World) : Calls Try.prog 43 #[.int .i64 d] w fun e w' => e = .returned (.bool (decide (0 ≤ d ∧ d ≤ 5))) ∧ Below w.heap.size w w' := by
  go_enter Try.func43, Try.ntmps43
  go_wp2
  all_goals go_ret
  all_goals refine ⟨ret_bool ?_, Below.refl _ _⟩

  all_goals
    rw [Bool.eq_iff_iff]
    simp only [Bool.and_eq_true, decide_eq_true_eq, Bool.false_eq_true, false_iff]
    omega
theorem right_c (n d : Int) (hn : I64 n) (hd : I64 d) (w : World) : Calls Try.prog 39 #[tv n d] w fun e w' => e = .returned (.bool (right n d)) ∧ Below w.heap.size w w' := by
  unfold tv
  clear hn hd
  by_cases h0 : n = 0
  · subst h0
    go_enter Try.func39, Try.ntmps39
    go_wp2
    go_ret
    refine ⟨ret_bool ?_, (Below.refl _ _).alloc (Nat.le_refl _) _⟩
    unfold right
    rw [Bool.eq_iff_iff, beq_iff_eq, decide_eq_true_iff]
    omega
  · have hq : (n == 0) = false := by rw [beq_eq_false_iff_ne]; exact h0
    have HQ := Lib.hid h0; clear h0
    go_enter Try.func39, Try.ntmps39
    go_wp2_with fail
    · refine (node_c d _).mono ?_
      rintro e w2 ⟨rfl, hb⟩
      have HB := Lib.hid ((bal (Below.refl w.heap.size w) (Nat.le_refl _) (.cells #[.int .i64 n, .int .i64 d] 23)).trans (hb.mono (by simp))); clear hb
      have HD : Hid ((decide (0 ≤ d ∧ d ≤ 5)) = right n d) := Lib.hid (by unfold right; exact decide_eq_decide.2 (by omega))
      generalize decide (0 ≤ d ∧ d ≤ 5) = v at HD ⊢
      go_wp2
      all_goals go_ret
      all_goals exact ⟨ret_bool HD.out, HB.out⟩
    all_goals
      go_ret
      refine ⟨ret_bool ?_, (Below.refl _ _).alloc (Nat.le_refl _) _⟩
      have h0 := HQ.out
      unfold right
      rw [Bool.eq_iff_iff]
      simp only [decide_eq_true_eq, Bool.false_eq_true, false_iff]
      omega
theorem less_any (a b : Int × Int) (w : World) : Calls Try.prog 23 #[tv a.1 a.2, tv b.1 b.2] w fun e w' => e = .returned (.bool (less a b)) ∧ Below w.heap.size w w' := by
  obtain ⟨n, d⟩ := a
  obtain ⟨m, c⟩ := b
  show Calls Try.prog 23 #[tv n d, tv m c] w _
  unfold tv
  by_cases h0 : n = m
  · subst h0
    go_enter Try.func23, Try.ntmps23
    go_wp2
    go_ret
    refine ⟨ret_bool ?_, ((Below.refl _ _).alloc (Nat.le_refl _) _).alloc (by simp) _⟩
    unfold less
    exact decide_eq_decide.2 (by show d < c ↔ n < n ∨ n = n ∧ d < c; omega)
  · have hq : (n == m) = false := by rw [beq_eq_false_iff_ne]; exact h0
    have HQ := Lib.hid h0; clear h0
    go_enter Try.func23, Try.ntmps23
    go_wp2
    go_ret
    refine ⟨ret_bool ?_, ((Below.refl _ _).alloc (Nat.le_refl _) _).alloc (by simp) _⟩
    have h0 := HQ.out
    unfold less
    exact decide_eq_decide.2 (by show n < m ↔ n < m ∨ n = m ∧ d < c; omega)
theorem less_c (a b : Int × Int) (_ha : I2 a) (_hb : I2 b) (w : World) : Calls Try.prog 23 #[tv a.1 a.2, tv b.1 b.2] w fun e w' => e = .returned (.bool (less a b)) ∧ Below w.heap.size w w' := less_any a b w
theorem Rt.drop {w : World} {B : Nat} {A : Option Addr} {ts : List (Int × Int)} (h : Rt w B A ts) (k c : Nat) (hc : ts.length ≤ c) : Rt w B (if c = k then A else A.map (·.add (k * 2))) (ts.drop k) := by
  intro hn
  rw [List.length_drop] at hn
  obtain ⟨b, o, rfl, hb, hcell⟩ := h (by omega)
  rw [if_neg (by omega)]
  refine ⟨b, o + k * 2, ?_, hb, fun j u hu => ?_⟩
  · simp only [Option.map_some, Option.some.injEq]
    unfold Addr.add
    split <;> simp_all
  · rw [List.getElem?_drop] at hu
    have := hcell (k + j) u hu
    rw [show o + (k + j) * 2 = o + k * 2 + j * 2 by omega] at this
    exact this
theorem run_fromT (A : Option Addr) (n c k : Nat) (j : Int) (q : IntKind) (hj : j = (k : Int)) (hk : k ≤ n) (hc : n ≤ c) :
    ∃ A', (∀ w, (Instr.slice 53 (.slice A n c) (some (.int q j)) none none).run Try.prog w = .ok (.slice A' (n - k) (c - k)) w) ∧ ∀ w B ts, ts.length = n → Rt w B A ts → Rt w B A' (ts.drop k) := by
  subst hj
  have u3 := Try.sizeOf23
  have he : Try.prog.elem 53 = 23 := by simp [Program.elem, Try.underlying53]
  refine ⟨_, fun w => ?_, fun w B xs hl hr => hr.drop k c (by omega)⟩
  rw [run_slice_l (P := Try.prog) w 53 A n c (by rw [he]; exact Try.underlying53) q k (by omega) (by omega), he, u3]
  simp [Result.andThen, sliced]
theorem maxT_drop (l : List (Int × Int)) (t : Int × Int) (h : l[0]? = some t) : (l.drop 1).foldl maxStep t = maxT l := by
  cases l with
  | nil => simp at h
  | cons x r => simp at h; subst h; rfl
set_option maxHeartbeats 1000000 in
theorem max_c (A : Option Addr) (n c : Nat) (ts : List (Int × Int)) (hn : n = ts.length) (hl : n ≤ 140737488355328) (hcap : n ≤ c) (hw : ∀ t ∈ ts, I2 t) (B : Nat) (w : World) (hr : Rt w B A ts) (hB : B ≤ w.heap.size) :
    Calls Try.prog 24 #[.slice A n c] w fun e w' => e = .returned (tv (maxT ts).1 (maxT ts).2) ∧ Below w.heap.size w w' := by
  have HN := Lib.hid hn; clear hn
  have HR := Lib.hid hr; clear hr
  have HW := Lib.hid hw; clear hw
  rcases Nat.eq_zero_or_pos n with h0 | h0
  · subst h0
    have hv : ts = [] := List.eq_nil_of_length_eq_zero HN.out.symm
    subst hv
    go_enter Try.func24, Try.ntmps24
    go_wp2
    refine bodyPost_ret (results_tag (g := w.heap.size) (a := 0) (d := 0) rfl rfl (hat _ _ _ rfl)) rfl ?_
    exact ⟨rfl, bal (Below.refl _ _) (Nat.le_refl _) _⟩
  · obtain ⟨A1, hs1, hr1⟩ := run_fromT A n c 1 1 .i64 rfl h0 hcap
    have HR1 := Lib.hid (fun W h => hr1 W B ts HN.out.symm h); clear hr1
    obtain ⟨b, o, rfl, hbB, hcell⟩ := HR.out (by rw [← HN.out]; omega)
    have hkl : 0 < ts.length := by rw [← HN.out]; exact h0
    have hz : ts[0]? = some ts[0] := List.getElem?_eq_getElem hkl
    have hc0 := hcell 0 ts[0] hz
    generalize ts[0] = v at hz hc0
    obtain ⟨fa, fd⟩ := v
    have hca : ∀ o1, (w.alloc o1).cell? ⟨b, o, none⟩ = some (.int .i64 fa) := fun o1 => by have := hc0.1; simp at this; exact ((bal (Below.refl w.heap.size w) (Nat.le_refl _) o1).cell (by show b < _; omega)).trans this
    have hcd : ∀ o1, (w.alloc o1).cell? ⟨b, o + 1, none⟩ = some (.int .i64 fd) := fun o1 => by have := hc0.2; simp at this; exact ((bal (Below.refl w.heap.size w) (Nat.le_refl _) o1).cell (by show b < _; omega)).trans this
    have hq : ((n : Int) == 0) = false := by rw [beq_eq_false_iff_ne]; omega
    have HF := Lib.hid (maxT_drop ts _ hz)
    clear hz hc0 hcell hkl
    go_enter Try.func24, Try.ntmps24
    go_wp2
    have HU : Hid (n - 1 = (ts.drop 1).length) := Lib.hid (by rw [List.length_drop, ← HN.out])
    have HV : Hid (Rt w B A1 (ts.drop 1)) := Lib.hid (HR1.out w HR.out)
    clear HR HR1 hs1 hca hcd hq HN HW
    have hm : n - 1 ≤ 140737488355328 := by omega
    generalize ts.drop 1 = us at HF HU HV
    generalize n - 1 = m at HU hm ⊢
    generalize c - 1 = c1
    go_loopw [16] (fun i wr => ∃ k : Nat, i = .int .i64 k ∧ k ≤ m ∧ Tx wr w.heap.size 0 0 ∧ Tx wr (w.heap.size + 1) ((us.take k).foldl maxStep (fa, fd)).1 ((us.take k).foldl maxStep (fa, fd)).2 ∧ Below w.heap.size w wr) (fun i _ => m - (intOf i).toNat)
    case atStart => exact ⟨0, rfl, by omega, hbe (hat _ _ _ rfl), hat _ _ _ (by simp), bal (bal (Below.refl _ _) (Nat.le_refl _) _) (Nat.le_refl _) _⟩
    case round =>
      obtain ⟨k, rfl, hk, hv0, hv1, hb⟩ := hrel
      have HB := Lib.hid hb; have H0 := Lib.hid hv0; have H1 := Lib.hid hv1
      have hsz := hv1.lt
      clear hb hv0 hv1
      by_cases h : k < m
      · obtain ⟨b', o', rfl, hbB', hcell⟩ := HV.out (by rw [← HU.out]; omega)
        have hkl : k < us.length := by rw [← HU.out]; exact h
        have hz : us[k]? = some us[k] := List.getElem?_eq_getElem hkl
        have hc0 := hcell k us[k] hz
        generalize us[k] = v at hz hc0
        obtain ⟨va, vd⟩ := v
        have hca : wr.cell? ⟨b', o' + k * 2, none⟩ = some (.int .i64 va) := (HB.out.cell (by show b' < _; omega)).trans hc0.1
        have hcd : wr.cell? ⟨b', o' + k * 2 + 1, none⟩ = some (.int .i64 vd) := (HB.out.cell (by show b' < _; omega)).trans hc0.2
        have HT : Hid ((us.take (k + 1)).foldl maxStep (fa, fd) = maxStep ((us.take k).foldl maxStep (fa, fd)) (va, vd)) := Lib.hid (fold_take us _ k _ hz)
        clear hz hc0 hcell hkl
        generalize (us.take k).foldl maxStep (fa, fd) = p at H1 HT
        obtain ⟨pa, pd⟩ := p
        have H1 : Hid (Tx wr (w.heap.size + 1) pa pd) := H1
        have z0 := H1.out.c0
        have z1 := H1.out.c1
        go_wp2_with fail
        have V0 := Lib.hid (show Tx (wr.alloc (.cells #[.int .i64 va, .int .i64 vd] 23)) w.heap.size 0 0 from hbe H0.out)
        have V1 := Lib.hid (show Tx (wr.alloc (.cells #[.int .i64 va, .int .i64 vd] 23)) (w.heap.size + 1) pa pd from hbe H1.out)
        have V2 := Lib.hid (show Tx (wr.alloc (.cells #[.int .i64 va, .int .i64 vd] 23)) wr.heap.size va vd from hat _ _ _ rfl)
        have HB3 := Lib.hid (bal HB.out (Nat.le_refl _) (.cells #[.int .i64 va, .int .i64 vd] 23))
        generalize wr.alloc (.cells #[.int .i64 va, .int .i64 vd] 23) = w3 at V0 V1 V2 HB3 ⊢
        generalize wr.heap.size = gu at V2 hsz ⊢
        clear z0 z1 hca hcd
        refine (less_any (pa, pd) (va, vd) _).mono ?_
        rintro e w4 ⟨rfl, hb4⟩
        have V0 := Lib.hid (V0.out.all hb4)
        have V1 := Lib.hid (V1.out.all hb4)
        have V2 := Lib.hid (V2.out.all hb4)
        have HB4 := Lib.hid (HB3.out.trans (hb4.mono HB3.out.size)); clear hb4
        have HS : Hid (maxStep (pa, pd) (va, vd) = if less (pa, pd) (va, vd) then (va, vd) else (pa, pd)) := Lib.hid rfl
        cases hx : less (pa, pd) (va, vd) with
        | false =>
          rw [hx] at HS
          clear hx
          go_wp2
          refine ⟨⟨k + 1, by go_num, by omega, V0.out, ?_, HB4.out⟩, by simp [intOf]; omega⟩
          rw [HT.out, HS.out]
          exact V1.out
        | true =>
          rw [hx] at HS
          clear hx
          have c0 := V2.out.c0; have c1 := V2.out.c1
          have z0 := V1.out.c0
          have z1 := V1.out.c1
          have z2 := frozen_of_row w4 (w.heap.size + 1) 0 _ _ V1.out
          have z3 := frozen_of_row w4 (w.heap.size + 1) 1 _ _ V1.out
          go_wp2
          refine ⟨⟨k + 1, by go_num, by omega, (V0.out.other (by simp) _).other (by simp) _, ?_, (HB4.out.setCell (by simp) _).setCell (by simp) _⟩, by simp [intOf]; omega⟩
          rw [HT.out, HS.out]
          exact V1.out.put va vd
      · obtain rfl : k = m := by omega
        have hT : Tx wr (w.heap.size + 1) (maxT ts).1 (maxT ts).2 := by
          have := H1.out
          rwa [List.take_of_length_le (by rw [← HU.out]; omega), HF.out] at this
        obtain ⟨pa, pd, hp⟩ : ∃ pa pd, maxT ts = (pa, pd) := ⟨_, _, rfl⟩
        have HP := Lib.hid hp
        rw [hp] at hT
        clear hp
        have hT : Tx wr (w.heap.size + 1) pa pd := hT
        have c0 := hT.c0; have c1 := hT.c1
        have z0 := H0.out.c0
        have z1 := H0.out.c1
        have z2 := frozen_of_row wr w.heap.size 0 _ _ H0.out
        have z3 := frozen_of_row wr w.heap.size 1 _ _ H0.out
        clear hT
        go_wp2
        refine bodyPost_ret (results_tag (g := w.heap.size) rfl rfl (H0.out.put pa pd)) rfl ?_
        exact ⟨by rw [HP.out], (HB.out.setCell (Nat.le_refl _) _).setCell (Nat.le_refl _) _⟩
/-- the greatest number of all is the number of the newest -/
theorem top_max (last : Int) (ts : List (Int × Int)) : topN (top0 last) ts = max (max 0 last) (maxT ts).1 := by
  obtain ⟨h1, h2, h3⟩ := topN_ge ts (top0 last)
  have h0 := top0_ge last
  have e0 : top0 last = max 0 last := by unfold top0; split <;> omega
  cases ts with
  | nil =>
    show top0 last = max _ 0
    omega
  | cons v l =>
    obtain ⟨m1, m2⟩ := maxT_mem (v :: l) (by simp)
    have h4 := h2 _ m1
    rcases h3 with h3 | ⟨x, hx, h3⟩
    · omega
    · have := m2 x hx
      rw [less_not] at this
      omega
theorem max3_c (ts : Array TypeId) (t : TypeId) (x y z : Int) (w : World) : (Builtin.max_ ts t #[.int .i64 x, .int .i64 y, .int .i64 z]).run Try.prog w = .ok (.int .i64 (max (max x y) z)) w := by
  have e : max (max x y) z = if z > (if y > x then y else x) then z else (if y > x then y else x) := by split <;> split <;> omega
  rw [e]
  simp [Builtin.max_, Builtin.max2]
theorem field_num (n d : Int) (w : World) : (Instr.field 23 (.agg #[.int .i64 n, .int .i64 d]) 0).run Try.prog w = .ok (.int .i64 n) w := by
  have u1 := run_underlying Try.underlying23
  have a1 := Try.isAgg3
  have z1 := Try.sizeOf3
  unfold Instr.field
  simp [go_sem, u1, part, asAgg, a1, z1]
end Go.Proofs.Ytjcpdhekilkhgaa.Tgw
