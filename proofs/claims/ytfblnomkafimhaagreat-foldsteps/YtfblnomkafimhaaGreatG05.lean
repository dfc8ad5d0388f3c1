/- Contracts and words on which the claims of this seat stand, part 5: TgW TgR BkN BkW RowE BkR BkS BkT BkU BkV BkX TgC BkB BkD BkE BkC. -/
import Derived.Test.YtfblnomkafimhaaGreatG01
import Derived.BigQuiet
import Derived.Deep.QuietTactic
import Derived.WalkSpells
import Derived.Handy
import Derived.Deep.DeepCutAuto
import Derived.Laws.StructEq
set_option linter.unusedSimpArgs false
set_option linter.unusedVariables false
namespace Go.Proofs.YtfblnomkafimhaaGreat.Tgw
set_option maxRecDepth 20000
open Go.RowKit
open Tg

theorem bal {B : Nat} {w0 w : World} (h : Below B w0 w) (hB : B ≤ w0.heap.size) (o : Obj) : Below B w0 (w.alloc o) := h.alloc (Nat.le_trans hB h.size) o
/-- a tag as a value -/
def tv (n d : Int) : Value := .agg #[.int .i64 n, .int .i64 d]
theorem ret_bool {a b : Bool} (h : a = b) : Ending.returned (.bool a) = .returned (.bool b) := by rw [h]
/-- a tag in a block of its own -/
def Tx (w : World) (g : Nat) (n d : Int) : Prop := w.heap[g]? = some (.cells #[.int .i64 n, .int .i64 d] 55)
theorem Tx.c0 {w : World} {g : Nat} {a d : Int} (h : Tx w g a d) : w.cell? ⟨g, 0, none⟩ = some (.int .i64 a) := by
  rw [cell_of_row _ _ _ _ _ _ h]; rfl
theorem Tx.c1 {w : World} {g : Nat} {a d : Int} (h : Tx w g a d) : w.cell? ⟨g, 1, none⟩ = some (.int .i64 d) := by
  rw [cell_of_row _ _ _ _ _ _ h]; rfl
theorem Tx.lt {w : World} {g : Nat} {a d : Int} (h : Tx w g a d) : g < w.heap.size := by
  rcases Nat.lt_or_ge g w.heap.size with h' | h'
  · exact h'
  · unfold Tx at h; rw [Array.getElem?_eq_none h'] at h; cases h
theorem Tx.below {w w' : World} {g B : Nat} {a d : Int} (h : Tx w g a d) (hb : Below B w w') (hg : g < B) : Tx w' g a d := (hb.block g hg).trans h
theorem Tx.all {w w' : World} {g : Nat} {a d : Int} (h : Tx w g a d) (hb : Below w.heap.size w w') : Tx w' g a d := h.below hb h.lt
theorem Tx.other {w : World} {g : Nat} {a d : Int} (h : Tx w g a d) {p : Addr} (hp : g ≠ p.block) (u : Value) : Tx (w.setCell p u) g a d := (Below.heap_setCell w p u g hp).trans h
theorem Tx.put {w : World} {g : Nat} {a d : Int} (h : Tx w g a d) (a' d' : Int) : Tx ((w.setCell ⟨g, 0, none⟩ (.int .i64 a')).setCell ⟨g, 1, none⟩ (.int .i64 d')) g a' d' := by
  unfold Tx
  rw [heap_setCell_same _ g 1 _ _ _ (heap_setCell_same w g 0 _ _ _ h)]
  rfl
theorem hat (w : World) (o : Obj) (g : Nat) (hg : g = w.heap.size) : (w.alloc o).heap[g]? = some o := by
  subst hg
  exact heap_alloc_new w o
theorem hbe {w : World} {o x : Obj} {g : Nat} (h : w.heap[g]? = some x) : (w.alloc o).heap[g]? = some x := by
  rw [Below.heap_alloc w o g ?_]
  · exact h
  · rcases Nat.lt_or_ge g w.heap.size with h' | h'
    · exact h'
    · rw [Array.getElem?_eq_none h'] at h; cases h
theorem results_tag {fn : Func} {t : Tmp} (h : fn.results = #[.cell t 55]) {tmps : Array Value} {w : World} {g : Nat} {a d : Int} (hp : tmps.getD t undef = .pointer (some ⟨g, 0, none⟩)) (hv : Tx w g a d) : (results fn tmps).run Tryz.prog w = .ok (tv a d) w := by
  have h0 := hv.c0
  have h1 := hv.c1
  have u3 := Tryz.sizeOf55
  have hp' : tmps[t]?.getD undef = .pointer (some ⟨g, 0, none⟩) := by rw [← hp, Array.getD_eq_getD_getElem?]
  unfold results tv
  simp only [h]
  simp [hp', go_sem, h0, h1]
theorem eq_tag (a b c d : Int) (w : World) : (Op.equalIn 10000 55 (.agg #[.int .i64 a, .int .i64 b]) (.agg #[.int .i64 c, .int .i64 d])).run Tryz.prog w = .ok (a == c && b == d) w := by
  have u3 := Tryz.underlying3
  have a3 := Tryz.isAgg3
  have z3 := Tryz.sizeOf3
  have hS : Tryz.prog.underlying 55 = some (.struct (Tryz.prog.fieldsOf 55)) := by kernel_rfl
  rw [show (10000 : Nat) = 9999 + 1 from rfl, run_equalIn_agg w 9999 55 _ _ hS (by kernel_rfl)]
  simp only [Program.fieldsOf, Tryz.underlying55]
  go_simp
  by_cases h1 : a = c <;> by_cases h2 : b = d <;> simp [h1, h2]
/-- the slice A holds these tags, below block B -/
def Rt (w : World) (B : Nat) (A : Option Addr) (ts : List (Int × Int)) : Prop :=
  0 < ts.length → ∃ b o, A = some ⟨b, o, none⟩ ∧ b < B ∧ ∀ (j : Nat) (t : Int × Int), ts[j]? = some t → w.cell? ⟨b, o + j * 2, none⟩ = some (.int .i64 t.1) ∧ w.cell? ⟨b, o + j * 2 + 1, none⟩ = some (.int .i64 t.2)
theorem Rt.nil {w : World} {B : Nat} {A : Option Addr} : Rt w B A [] := fun h => absurd h (by simp)
theorem Rt.below {w w' : World} {B : Nat} {A : Option Addr} {ts : List (Int × Int)} (h : Rt w B A ts) (hb : Below B w w') : Rt w' B A ts := by
  intro hn
  obtain ⟨b, o, e, hB, hc⟩ := h hn
  exact ⟨b, o, e, hB, fun j v hv => ⟨(hb.cell (p := ⟨b, o + j * 2, none⟩) hB).trans (hc j v hv).1, (hb.cell (p := ⟨b, o + j * 2 + 1, none⟩) hB).trans (hc j v hv).2⟩⟩
theorem Rt.more {w : World} {B B' : Nat} {A : Option Addr} {ts : List (Int × Int)} (h : Rt w B A ts) (hB : B ≤ B') : Rt w B' A ts := by
  intro hn
  obtain ⟨b, o, e, hb, hc⟩ := h hn
  exact ⟨b, o, e, by omega, hc⟩
theorem Rt.take {w : World} {B : Nat} {A : Option Addr} {ts : List (Int × Int)} (h : Rt w B A ts) (k : Nat) : Rt w B A (ts.take k) := by
  intro hn
  rw [List.length_take] at hn
  obtain ⟨b, o, e, hb, hc⟩ := h (by omega)
  refine ⟨b, o, e, hb, fun j t ht => hc j t ?_⟩
  rw [List.getElem?_take] at ht
  split at ht
  · exact ht
  · cases ht
def flat (ts : List (Int × Int)) : List Value := ts.flatMap fun t => [.int .i64 t.1, .int .i64 t.2]
theorem flat_at : ∀ (ts : List (Int × Int)) (j : Nat) (t : Int × Int), ts[j]? = some t → (flat ts)[j * 2]? = some (.int .i64 t.1) ∧ (flat ts)[j * 2 + 1]? = some (.int .i64 t.2)
  | [], _, _, h => by simp at h
  | x :: l, 0, v, h => by
    simp only [List.getElem?_cons_zero, Option.some.injEq] at h
    subst h
    exact ⟨rfl, rfl⟩
  | x :: l, j + 1, v, h => by
    have ih := flat_at l j v (by simpa using h)
    have e : flat (x :: l) = .int .i64 x.1 :: .int .i64 x.2 :: flat l := rfl
    rw [e, show (j + 1) * 2 = j * 2 + 1 + 1 by omega, show j * 2 + 1 + 1 + 1 = (j * 2 + 1) + 1 + 1 by omega]
    simpa using ih
theorem rt_new (w : World) (ts : List (Int × Int)) : Rt (w.alloc (.cells (flat ts).toArray 55)) (w.heap.size + 1) (some ⟨w.heap.size, 0, none⟩) ts := by
  intro _
  refine ⟨_, _, rfl, by omega, fun j v hv => ?_⟩
  have h := flat_at ts j v hv
  rw [cell_of_row _ _ _ _ _ _ (heap_alloc_new w _), cell_of_row _ _ _ _ _ _ (heap_alloc_new w _)]
  simpa using h
/-- a tag and the error's number, whichever way it ends -/
def gt (o : Option (Int × Int)) : Int × Int := o.getD (0, 0)
def ge (o : Option (Int × Int)) : Int := if o.isSome then 0 else 61
def RetT (w : World) (o : Option (Int × Int)) (e : Ending) (w' : World) : Prop := e = .returned (.tuple #[tv (gt o).1 (gt o).2, .int .i64 (ge o)]) ∧ Below w.heap.size w w'
end Go.Proofs.YtfblnomkafimhaaGreat.Tgw

namespace Go.Proofs.YtfblnomkafimhaaGreat.Tgw
set_option maxRecDepth 20000
open Go.RowKit
open Tg

theorem right_r (n d : Int) (w : World) : Calls Tryz.prog 109 #[tv n d] w fun e w' => e = .returned (.bool (right n d)) ∧ Below w.heap.size w w' := by
  unfold tv
  by_cases h0 : n = 0
  · subst h0
    go_enter Tryz.func109, Tryz.ntmps109
    go_wp2
    go_ret
    refine ⟨ret_bool ?_, (Below.refl _ _).alloc (Nat.le_refl _) _⟩
    unfold right
    rw [Bool.eq_iff_iff, beq_iff_eq, decide_eq_true_iff]
    omega
  · have hq : (n == 0) = false := by rw [beq_eq_false_iff_ne]; exact h0
    have HQ := Lib.hid h0; clear h0
    go_enter Tryz.func109, Tryz.ntmps109
    go_wp2
    all_goals go_ret
    all_goals refine ⟨ret_bool ?_, (Below.refl _ _).alloc (Nat.le_refl _) _⟩
    all_goals
      have h0 := HQ.out
      unfold right
      rw [Bool.eq_iff_iff]
      simp only [Bool.and_eq_true, decide_eq_true_eq, Bool.false_eq_true, false_iff]
      omega
theorem less_r (a b : Int × Int) (w : World) : Calls Tryz.prog 152 #[tv a.1 a.2, tv b.1 b.2] w fun e w' => e = .returned (.bool (less a b)) ∧ Below w.heap.size w w' := by
  obtain ⟨n, d⟩ := a
  obtain ⟨m, c⟩ := b
  show Calls Tryz.prog 152 #[tv n d, tv m c] w _
  unfold tv
  by_cases h0 : n = m
  · subst h0
    go_enter Tryz.func152, Tryz.ntmps152
    go_wp2
    go_ret
    refine ⟨ret_bool ?_, ((Below.refl _ _).alloc (Nat.le_refl _) _).alloc (by simp) _⟩
    unfold less
    exact decide_eq_decide.2 (by show d < c ↔ n < n ∨ n = n ∧ d < c; omega)
  · have hq : (n == m) = false := by rw [beq_eq_false_iff_ne]; exact h0
    have HQ := Lib.hid h0; clear h0
    go_enter Tryz.func152, Tryz.ntmps152
    go_wp2
    go_ret
    refine ⟨ret_bool ?_, ((Below.refl _ _).alloc (Nat.le_refl _) _).alloc (by simp) _⟩
    have h0 := HQ.out
    unfold less
    exact decide_eq_decide.2 (by show n < m ↔ n < m ∨ n = m ∧ d < c; omega)
set_option maxHeartbeats 1000000 in
theorem max_r (A : Option Addr) (n c : Nat) (ts : List (Int × Int)) (hn : n = ts.length) (hl : n ≤ 140737488355328) (B : Nat) (w : World) (hr : Rt w B A ts) (hB : B ≤ w.heap.size) :
    Calls Tryz.prog 107 #[.slice A n c] w fun e w' => e = .returned (tv (maxT ts).1 (maxT ts).2) ∧ Below w.heap.size w w' := by
  have HN := Lib.hid hn; clear hn
  have HR := Lib.hid hr; clear hr
  rcases Nat.eq_zero_or_pos n with h0 | h0
  · subst h0
    have hv : ts = [] := List.eq_nil_of_length_eq_zero HN.out.symm
    subst hv
    go_enter Tryz.func107, Tryz.ntmps107
    go_wp2
    refine bodyPost_ret (results_tag (g := w.heap.size) (a := 0) (d := 0) rfl rfl (hat _ _ _ rfl)) rfl ?_
    exact ⟨rfl, bal (Below.refl _ _) (Nat.le_refl _) _⟩
  · obtain ⟨b, o, rfl, hbB, hcell⟩ := HR.out (by rw [← HN.out]; omega)
    have hkl : 0 < ts.length := by rw [← HN.out]; exact h0
    have hz : ts[0]? = some ts[0] := List.getElem?_eq_getElem hkl
    have hc0 := hcell 0 ts[0] hz
    generalize ts[0] = v at hz hc0
    obtain ⟨fa, fd⟩ := v
    have hca : ∀ o1, (w.alloc o1).cell? ⟨b, o, none⟩ = some (.int .i64 fa) := fun o1 => by have := hc0.1; simp at this; exact ((bal (Below.refl w.heap.size w) (Nat.le_refl _) o1).cell (by show b < _; omega)).trans this
    have hcd : ∀ o1, (w.alloc o1).cell? ⟨b, o + 1, none⟩ = some (.int .i64 fd) := fun o1 => by have := hc0.2; simp at this; exact ((bal (Below.refl w.heap.size w) (Nat.le_refl _) o1).cell (by show b < _; omega)).trans this
    have hq : ((n : Int) == 0) = false := by rw [beq_eq_false_iff_ne]; omega
    have HF := Lib.hid (maxT_fold ts _ hz)
    clear hz hc0 hcell hkl
    go_enter Tryz.func107, Tryz.ntmps107
    go_wp2
    go_loopw [15] (fun i wr => ∃ k : Nat, i = .int .i64 k ∧ k ≤ n ∧ Tx wr w.heap.size 0 0 ∧ Tx wr (w.heap.size + 1) ((ts.take k).foldl maxStep (fa, fd)).1 ((ts.take k).foldl maxStep (fa, fd)).2 ∧ Below w.heap.size w wr) (fun i _ => n - (intOf i).toNat)
    case atStart => exact ⟨0, rfl, by omega, hbe (hat _ _ _ rfl), hat _ _ _ (by simp), bal (bal (Below.refl _ _) (Nat.le_refl _) _) (Nat.le_refl _) _⟩
    case round =>
      obtain ⟨k, rfl, hk, hv0, hv1, hb⟩ := hrel
      have HB := Lib.hid hb; have H0 := Lib.hid hv0; have H1 := Lib.hid hv1
      have hsz := hv1.lt
      clear hb hv0 hv1 hca hcd
      by_cases h : k < n
      · obtain ⟨b', o', e', hbB', hcell⟩ := HR.out (by rw [← HN.out]; omega)
        injection e' with e'
        injection e' with e1 e2
        subst e1; subst e2
        have hkl : k < ts.length := by rw [← HN.out]; exact h
        have hz : ts[k]? = some ts[k] := List.getElem?_eq_getElem hkl
        have hc0 := hcell k ts[k] hz
        generalize ts[k] = v at hz hc0
        obtain ⟨va, vd⟩ := v
        have hca : wr.cell? ⟨b, o + k * 2, none⟩ = some (.int .i64 va) := (HB.out.cell (by show b < _; omega)).trans hc0.1
        have hcd : wr.cell? ⟨b, o + k * 2 + 1, none⟩ = some (.int .i64 vd) := (HB.out.cell (by show b < _; omega)).trans hc0.2
        have HT : Hid ((ts.take (k + 1)).foldl maxStep (fa, fd) = maxStep ((ts.take k).foldl maxStep (fa, fd)) (va, vd)) := Lib.hid (fold_take ts _ k _ hz)
        clear hz hc0 hcell hkl
        generalize (ts.take k).foldl maxStep (fa, fd) = p at H1 HT
        obtain ⟨pa, pd⟩ := p
        have H1 : Hid (Tx wr (w.heap.size + 1) pa pd) := H1
        have z0 := H1.out.c0
        have z1 := H1.out.c1
        go_wp2_with fail
        have V0 := Lib.hid (show Tx (wr.alloc (.cells #[.int .i64 va, .int .i64 vd] 55)) w.heap.size 0 0 from hbe H0.out)
        have V1 := Lib.hid (show Tx (wr.alloc (.cells #[.int .i64 va, .int .i64 vd] 55)) (w.heap.size + 1) pa pd from hbe H1.out)
        have V2 := Lib.hid (show Tx (wr.alloc (.cells #[.int .i64 va, .int .i64 vd] 55)) wr.heap.size va vd from hat _ _ _ rfl)
        have HB3 := Lib.hid (bal HB.out (Nat.le_refl _) (.cells #[.int .i64 va, .int .i64 vd] 55))
        generalize wr.alloc (.cells #[.int .i64 va, .int .i64 vd] 55) = w3 at V0 V1 V2 HB3 ⊢
        generalize wr.heap.size = gu at V2 hsz ⊢
        clear z0 z1 hca hcd
        refine (less_r (pa, pd) (va, vd) _).mono ?_
        rintro e w4 ⟨rfl, hb4⟩
        have V0 := Lib.hid (V0.out.all hb4)
        have V1 := Lib.hid (V1.out.all hb4)
        have V2 := Lib.hid (V2.out.all hb4)
        have HB4 := Lib.hid (HB3.out.trans (hb4.mono HB3.out.size)); clear hb4
        have HS : Hid (maxStep (pa, pd) (va, vd) = if less (pa, pd) (va, vd) then (va, vd) else (pa, pd)) := Lib.hid rfl
        cases hx : less (pa, pd) (va, vd) with
        | false =>
          rw [hx] at HS
          clear hx
          go_wp2
          refine ⟨⟨k + 1, by go_num, by omega, V0.out, ?_, HB4.out⟩, by simp [intOf]; omega⟩
          rw [HT.out, HS.out]
          exact V1.out
        | true =>
          rw [hx] at HS
          clear hx
          have c0 := V2.out.c0; have c1 := V2.out.c1
          have z0 := V1.out.c0
          have z1 := V1.out.c1
          have z2 := frozen_of_row w4 (w.heap.size + 1) 0 _ _ V1.out
          have z3 := frozen_of_row w4 (w.heap.size + 1) 1 _ _ V1.out
          go_wp2
          refine ⟨⟨k + 1, by go_num, by omega, (V0.out.other (by simp) _).other (by simp) _, ?_, (HB4.out.setCell (by simp) _).setCell (by simp) _⟩, by simp [intOf]; omega⟩
          rw [HT.out, HS.out]
          exact V1.out.put va vd
      · obtain rfl : k = n := by omega
        have hT : Tx wr (w.heap.size + 1) (maxT ts).1 (maxT ts).2 := by
          have := H1.out
          rwa [List.take_of_length_le (by rw [← HN.out]; omega), HF.out] at this
        obtain ⟨pa, pd, hp⟩ : ∃ pa pd, maxT ts = (pa, pd) := ⟨_, _, rfl⟩
        have HP := Lib.hid hp
        rw [hp] at hT
        clear hp
        have hT : Tx wr (w.heap.size + 1) pa pd := hT
        have c0 := hT.c0; have c1 := hT.c1
        have z0 := H0.out.c0
        have z1 := H0.out.c1
        have z2 := frozen_of_row wr w.heap.size 0 _ _ H0.out
        have z3 := frozen_of_row wr w.heap.size 1 _ _ H0.out
        clear hT
        go_wp2
        refine bodyPost_ret (results_tag (g := w.heap.size) rfl rfl (H0.out.put pa pd)) rfl ?_
        exact ⟨by rw [HP.out], (HB.out.setCell (Nat.le_refl _) _).setCell (Nat.le_refl _) _⟩
end Go.Proofs.YtfblnomkafimhaaGreat.Tgw

namespace Go.Proofs.YtfblnomkafimhaaGreat.Bk
set_option maxRecDepth 20000
open Tg

/-- the news among the first k keys -/
def newsK (old l : List E) : Nat → List E
  | 0 => []
  | k + 1 => newsK old l k ++ if less (find old k).tag (find l k).tag then [find l k] else []
theorem newsK_len (old l : List E) : ∀ k, (newsK old l k).length ≤ k
  | 0 => Nat.le_refl _
  | k + 1 => by
    show (newsK old l k ++ _).length ≤ _
    rw [List.length_append]
    have := newsK_len old l k
    split <;> simp <;> omega
/-- what is newer than something of a book is there -/
theorem newer_ok (old l : List E) (ho : isBook old = true) (hl : isBook l = true) (j : Int) (h : less (find old j).tag (find l j).tag = true) : 0 ≤ j ∧ j ≤ 3 ∧ okE (find l j) = true ∧ find l j ∈ l := by
  rcases find_tag l hl j with ⟨h1, h2, h3⟩ | ⟨h1, h2, _, _, _, _, h3⟩
  · exfalso
    rw [less_iff] at h
    unfold E.tag at h
    simp only at h
    rcases find_tag old ho j with ⟨_, h5, h6⟩ | ⟨_, _, h5, _, h6, _⟩ <;> omega
  · exact ⟨h1, h2, (chk_mem l (-1) hl _ h3).1, h3⟩
theorem newsK_mem (old l : List E) (ho : isBook old = true) (hl : isBook l = true) : ∀ k, (isBook (newsK old l k) = true ∧ (∀ x ∈ newsK old l k, x.key < k) ∧ ∀ j : Int, (newsK old l k).find? (fun x => x.key == j) = if j < k ∧ less (find old j).tag (find l j).tag = true then some (find l j) else none)
  | 0 => by
    refine ⟨rfl, fun x hx => ?_, fun j => ?_⟩
    · have hx : x ∈ ([] : List E) := hx
      cases hx
    · rw [if_neg ?_]
      · rfl
      · rintro ⟨h1, h2⟩
        have := (newer_ok old l ho hl j h2).1
        omega
  | k + 1 => by
    obtain ⟨h1, h2, h3⟩ := newsK_mem old l ho hl k
    have e : newsK old l (k + 1) = newsK old l k ++ if less (find old k).tag (find l k).tag then [find l k] else [] := rfl
    rw [e]
    cases hx : less (find old k).tag (find l k).tag with
    | false =>
      rw [if_neg (by simp), List.append_nil]
      refine ⟨h1, fun x hx => by have := h2 x hx; omega, fun j => ?_⟩
      rw [h3 j]
      by_cases hj : j = k
      · subst hj; rw [if_neg (by omega), if_neg (fun hc => by rw [hx] at hc; cases hc.2)]
      · by_cases hc : j < k ∧ less (find old j).tag (find l j).tag = true
        · rw [if_pos hc, if_pos ⟨by omega, hc.2⟩]
        · rw [if_neg hc, if_neg (fun hd => hc ⟨by omega, hd.2⟩)]
    | true =>
      obtain ⟨q1, q2, q3, q4⟩ := newer_ok old l ho hl k hx
      have p1 := find_key l k
      rw [if_pos rfl]
      refine ⟨chk_append _ _ _ h1 (fun y hy => by rw [p1]; exact h2 y hy) (by rw [p1]; omega) q3, ?_, fun j => ?_⟩
      · intro x hx
        rcases List.mem_append.1 hx with hx | hx
        · have := h2 x hx; omega
        · rw [List.mem_singleton] at hx
          subst hx
          rw [p1]; omega
      · rw [List.find?_append, h3 j]
        by_cases hj : j = k
        · subst hj
          rw [if_neg (by omega), if_pos ⟨by omega, hx⟩]
          simp [p1]
        · have hn : [find l k].find? (fun x => x.key == j) = none := find?_none_of _ _ (by intro x hx; rw [List.mem_singleton] at hx; subst hx; rw [p1]; omega)
          rw [hn, Option.or_none]
          by_cases hc : j < k ∧ less (find old j).tag (find l j).tag = true
          · rw [if_pos hc, if_pos ⟨by omega, hc.2⟩]
          · rw [if_neg hc, if_neg (fun hd => hc ⟨by omega, hd.2⟩)]
theorem newsK_eq (old l : List E) (ho : isBook old = true) (hl : isBook l = true) : newsK old l 4 = news old l := by
  obtain ⟨h1, _, h3⟩ := newsK_mem old l ho hl 4
  refine book_ext _ _ (-1) h1 (news_book old l hl) (fun k => ?_)
  rw [find_news old l hl]
  show ((newsK old l 4).find? _).getD _ = _
  rw [h3 k]
  unfold isNew
  rw [find_key]
  by_cases hc : less (find old k).tag (find l k).tag = true
  · obtain ⟨q1, q2, q3, _⟩ := newer_ok old l ho hl k hc
    rw [if_pos ⟨by omega, hc⟩, if_pos ⟨hc, ok_tag _ q3⟩]
    rfl
  · rw [if_neg (fun h => hc h.2), if_neg (fun h => hc h.1)]
    rfl
end Go.Proofs.YtfblnomkafimhaaGreat.Bk

namespace Go.Proofs.YtfblnomkafimhaaGreat.Bkw
set_option maxRecDepth 20000
open Go.RowKit
open Tg Bk
open Tgw (bal hat hbe ret_bool tv)

/-- a float is stored as any one cell is: the walk takes it as a hypothesis ('have hsf := store_flt') -/
theorem store_flt (a : Addr) (m : Mode) (w : World) (n : Nat) : (store a (.float .f64 n) m).run Tryz.prog w = stored Tryz.prog w a (.float .f64 n) m := run_store _ w a _ m rfl
/-- the tag of an entry that is a value: the walk takes it as a hypothesis -/
theorem field_tag (k n d : Int) (v : Nat) (w : World) : (Instr.field 58 (.agg #[.int .i64 k, .int .i64 n, .int .i64 d, .float .f64 v]) 1).run Tryz.prog w = .ok (.agg #[.int .i64 n, .int .i64 d]) w := by
  have u1 := run_underlying Tryz.underlying58
  have a1 := Tryz.isAgg55
  have z1 := Tryz.sizeOf55
  unfold Instr.field
  simp [go_sem, u1, part, asAgg, a1, z1]
/-- an entry as a value -/
def ev (e : E) : Value := .agg #[.int .i64 e.key, .int .i64 e.num, .int .i64 e.node, .float .f64 e.val]
def cellsE (e : E) : List Value := [.int .i64 e.key, .int .i64 e.num, .int .i64 e.node, .float .f64 e.val]
/-- an entry in a block of its own -/
def Ex (w : World) (g : Nat) (e : E) : Prop := w.heap[g]? = some (.cells #[.int .i64 e.key, .int .i64 e.num, .int .i64 e.node, .float .f64 e.val] 58)
theorem Ex.c0 {w : World} {g : Nat} {e : E} (h : Ex w g e) : w.cell? ⟨g, 0, none⟩ = some (.int .i64 e.key) := by rw [cell_of_row _ _ _ _ _ _ h]; rfl
theorem Ex.c1 {w : World} {g : Nat} {e : E} (h : Ex w g e) : w.cell? ⟨g, 1, none⟩ = some (.int .i64 e.num) := by rw [cell_of_row _ _ _ _ _ _ h]; rfl
theorem Ex.c2 {w : World} {g : Nat} {e : E} (h : Ex w g e) : w.cell? ⟨g, 2, none⟩ = some (.int .i64 e.node) := by rw [cell_of_row _ _ _ _ _ _ h]; rfl
theorem Ex.c3 {w : World} {g : Nat} {e : E} (h : Ex w g e) : w.cell? ⟨g, 3, none⟩ = some (.float .f64 e.val) := by rw [cell_of_row _ _ _ _ _ _ h]; rfl
theorem Ex.lt {w : World} {g : Nat} {e : E} (h : Ex w g e) : g < w.heap.size := by
  rcases Nat.lt_or_ge g w.heap.size with h' | h'
  · exact h'
  · unfold Ex at h; rw [Array.getElem?_eq_none h'] at h; cases h
theorem Ex.below {w w' : World} {g B : Nat} {e : E} (h : Ex w g e) (hb : Below B w w') (hg : g < B) : Ex w' g e := (hb.block g hg).trans h
theorem Ex.all {w w' : World} {g : Nat} {e : E} (h : Ex w g e) (hb : Below w.heap.size w w') : Ex w' g e := h.below hb h.lt
theorem Ex.other {w : World} {g : Nat} {e : E} (h : Ex w g e) {p : Addr} (hp : g ≠ p.block) (u : Value) : Ex (w.setCell p u) g e := (Below.heap_setCell w p u g hp).trans h
theorem Ex.put {w : World} {g : Nat} {e : E} (h : Ex w g e) (f : E) : Ex ((((w.setCell ⟨g, 0, none⟩ (.int .i64 f.key)).setCell ⟨g, 1, none⟩ (.int .i64 f.num)).setCell ⟨g, 2, none⟩ (.int .i64 f.node)).setCell ⟨g, 3, none⟩ (.float .f64 f.val)) g f := by
  unfold Ex
  rw [heap_setCell_same _ g 3 _ _ _ (heap_setCell_same _ g 2 _ _ _ (heap_setCell_same _ g 1 _ _ _ (heap_setCell_same w g 0 _ _ _ h)))]
  rfl
theorem results_entry {fn : Func} {t : Tmp} (h : fn.results = #[.cell t 58]) {tmps : Array Value} {w : World} {g : Nat} {e : E} (hp : tmps.getD t undef = .pointer (some ⟨g, 0, none⟩)) (hv : Ex w g e) : (results fn tmps).run Tryz.prog w = .ok (ev e) w := by
  have h0 := hv.c0
  have h1 := hv.c1
  have h2 := hv.c2
  have h3 := hv.c3
  have u3 := Tryz.sizeOf58
  have hp' : tmps[t]?.getD undef = .pointer (some ⟨g, 0, none⟩) := by rw [← hp, Array.getD_eq_getD_getElem?]
  unfold results ev
  simp only [h]
  simp [hp', go_sem, h0, h1, h2, h3]
/-- the cells of the entry at an address -/
def Four (w : World) (b o : Nat) (e : E) : Prop := w.cell? ⟨b, o, none⟩ = some (.int .i64 e.key) ∧ w.cell? ⟨b, o + 1, none⟩ = some (.int .i64 e.num) ∧ w.cell? ⟨b, o + 2, none⟩ = some (.int .i64 e.node) ∧ w.cell? ⟨b, o + 3, none⟩ = some (.float .f64 e.val)
theorem Four.below {w w' : World} {b o B : Nat} {e : E} (h : Four w b o e) (hb : Below B w w') (hB : b < B) : Four w' b o e :=
  ⟨(hb.cell (p := ⟨b, o, none⟩) hB).trans h.1, (hb.cell (p := ⟨b, o + 1, none⟩) hB).trans h.2.1, (hb.cell (p := ⟨b, o + 2, none⟩) hB).trans h.2.2.1, (hb.cell (p := ⟨b, o + 3, none⟩) hB).trans h.2.2.2⟩
/-- the slice A holds these entries, below block B -/
def Re (w : World) (B : Nat) (A : Option Addr) (es : List E) : Prop :=
  0 < es.length → ∃ b o, A = some ⟨b, o, none⟩ ∧ b < B ∧ ∀ (j : Nat) (e : E), es[j]? = some e → Four w b (o + j * 4) e
theorem Re.nil {w : World} {B : Nat} {A : Option Addr} : Re w B A [] := fun h => absurd h (by simp)
theorem Re.below {w w' : World} {B : Nat} {A : Option Addr} {es : List E} (h : Re w B A es) (hb : Below B w w') : Re w' B A es := by
  intro hn
  obtain ⟨b, o, e, hB, hc⟩ := h hn
  exact ⟨b, o, e, hB, fun j v hv => (hc j v hv).below hb hB⟩
theorem Re.more {w : World} {B B' : Nat} {A : Option Addr} {es : List E} (h : Re w B A es) (hB : B ≤ B') : Re w B' A es := by
  intro hn
  obtain ⟨b, o, e, hb, hc⟩ := h hn
  exact ⟨b, o, e, by omega, hc⟩
def flat (es : List E) : List Value := es.flatMap cellsE
theorem flat_len (es : List E) : (flat es).length = es.length * 4 := by
  induction es with
  | nil => rfl
  | cons x l ih =>
    show (_ :: _ :: _ :: _ :: flat l).length = _
    simp only [List.length_cons, ih]
    omega
theorem flat_one (es : List E) : ∀ u ∈ flat es, u.oneCell' = true := by
  intro u hu
  obtain ⟨v, _, hv⟩ := List.mem_flatMap.1 hu
  simp only [cellsE, List.mem_cons, List.not_mem_nil, or_false] at hv
  rcases hv with rfl | rfl | rfl | rfl <;> rfl
theorem flat_at : ∀ (es : List E) (j : Nat) (e : E), es[j]? = some e → ∀ i, i < 4 → (flat es)[j * 4 + i]? = (cellsE e)[i]?
  | [], _, _, h, _, _ => by simp at h
  | x :: l, 0, v, h, i, hi => by
    simp only [List.getElem?_cons_zero, Option.some.injEq] at h
    subst h
    have e : flat (x :: l) = cellsE x ++ flat l := rfl
    rw [e, Nat.zero_mul, Nat.zero_add, List.getElem?_append_left (by simpa [cellsE] using hi)]
  | x :: l, j + 1, v, h, i, hi => by
    have ih := flat_at l j v (by simpa using h) i hi
    have e : flat (x :: l) = cellsE x ++ flat l := rfl
    rw [e, List.getElem?_append_right (by simp [cellsE]; omega), show (j + 1) * 4 + i - (cellsE x).length = j * 4 + i by simp [cellsE]; omega]
    exact ih
theorem flat_get (es : List E) (j : Nat) (u : Value) (h : (flat es)[j]? = some u) : ∃ (k i : Nat) (e : E), es[k]? = some e ∧ i < 4 ∧ j = k * 4 + i ∧ (cellsE e)[i]? = some u := by
  have hj : j < es.length * 4 := by
    rw [← flat_len]
    rcases Nat.lt_or_ge j (flat es).length with h' | h'
    · exact h'
    · rw [List.getElem?_eq_none h'] at h; cases h
  have hi : j / 4 < es.length := by omega
  have hv : es[j / 4]? = some es[j / 4] := List.getElem?_eq_getElem hi
  have hf := flat_at es (j / 4) _ hv (j % 4) (by omega)
  rw [show j / 4 * 4 + j % 4 = j by omega, h] at hf
  exact ⟨j / 4, j % 4, _, hv, by omega, by omega, hf.symm⟩
theorem Four.cells {w : World} {b o : Nat} {e : E} (h : Four w b o e) (i : Nat) (hi : i < 4) (u : Value) (hu : (cellsE e)[i]? = some u) : w.cell? ⟨b, o + i, none⟩ = some u := by
  obtain ⟨h0, h1, h2, h3⟩ := h
  match i, hi with
  | 0, _ => rw [Nat.add_zero, h0]; exact hu
  | 1, _ => rw [h1]; exact hu
  | 2, _ => rw [h2]; exact hu
  | 3, _ => rw [h3]; exact hu
theorem four_of {w : World} {b o : Nat} {e : E} (h : ∀ i u, i < 4 → (cellsE e)[i]? = some u → w.cell? ⟨b, o + i, none⟩ = some u) : Four w b o e :=
  ⟨h 0 _ (by omega) rfl, h 1 _ (by omega) rfl, h 2 _ (by omega) rfl, h 3 _ (by omega) rfl⟩
theorem re_new (w : World) (es : List E) : Re (w.alloc (.cells (flat es).toArray 58)) (w.heap.size + 1) (some ⟨w.heap.size, 0, none⟩) es := by
  intro _
  refine ⟨_, _, rfl, by omega, fun j v hv => four_of fun i u hi hu => ?_⟩
  have h := flat_at es j v hv i hi
  rw [cell_of_row _ _ _ _ _ _ (heap_alloc_new w _), Nat.zero_add]
  rw [hu] at h
  simpa using h
/-- an entry and the error's number, whichever way it ends -/
def RetE (w : World) (x : E) (n : Int) (e : Ending) (w' : World) : Prop := e = .returned (.tuple #[ev x, .int .i64 n]) ∧ Below w.heap.size w w'
end Go.Proofs.YtfblnomkafimhaaGreat.Bkw

namespace Go.Proofs.YtfblnomkafimhaaGreat.Bkw
set_option maxRecDepth 20000
open Go.RowKit
open Tg Bk
open Tgw (bal hat hbe ret_bool tv)

theorem infoE : (Tryz.prog.info? 58).map (fun i => (i.zero, i.size, i.bytes)) = some (some (.agg #[.int .i64 0, .int .i64 0, .int .i64 0, .float .f64 0]), 4, 32) := by kernel_rfl
theorem add_at (b o j : Nat) : (⟨b, o, none⟩ : Addr).add j = ⟨b, o + j, none⟩ := by unfold Addr.add; split <;> simp_all
/-- the slice A holds the entries es, in a row of the call's own from block base on -/
def OwnE (w : World) (base : Nat) (A : Option Addr) (n c : Nat) (es : List E) : Prop := n = es.length ∧ w.ownsRow base 58 4 (.slice A n c) n (flat es)
/-- it returns a slice of its own with these entries; below base nothing has turned -/
def RetOwnE (w : World) (base : Nat) (es : List E) (e : Ending) (w' : World) : Prop := ∃ A n c, e = .returned (.slice A n c) ∧ OwnE w' base A n c es ∧ Below base w w'
theorem OwnE.re {w : World} {base : Nat} {A : Option Addr} {n c : Nat} {es : List E} (h : OwnE w base A n c es) : Re w w.heap.size A es := by
  intro hp
  rcases h.2.2 with ⟨_, h0⟩ | ⟨g, cap, cur, e, _, hh, _⟩
  · exfalso
    rw [← h.1] at hp
    omega
  · injection e with e1 e2 e3
    subst e1
    refine ⟨g, 0, rfl, (h.2.lt g rfl).2, fun j v hv => four_of fun i u hi hu => ?_⟩
    have hf := flat_at es j v hv i hi
    rw [hu] at hf
    have h1 := h.2.cells (g := g) rfl _ _ hf
    rw [add_at] at h1
    rw [← h1]
    congr 2
    omega
theorem OwnE.below {w w' : World} {base B : Nat} {A : Option Addr} {n c : Nat} {es : List E} (h : OwnE w base A n c es) (hb : Below B w w') (hB : w.heap.size ≤ B) : OwnE w' base A n c es := by
  refine ⟨h.1, h.2.1, ?_⟩
  rcases h.2.2 with h0 | ⟨g, cap, cur, hv, hg, hh, r⟩
  · exact .inl h0
  · refine .inr ⟨g, cap, cur, hv, hg, ?_, r⟩
    injection hv with e1 e2 e3
    subst e1
    rw [hb.block g (Nat.lt_of_lt_of_le (h.2.lt g rfl).2 hB)]
    exact hh
theorem OwnE.alloc {w : World} {base : Nat} {A : Option Addr} {n c : Nat} {es : List E} (h : OwnE w base A n c es) (o : Obj) : OwnE (w.alloc o) base A n c es := ⟨h.1, h.2.alloc o⟩
theorem OwnE.base {w : World} {base base' : Nat} {A : Option Addr} {n c : Nat} {es : List E} (h : OwnE w base A n c es) (hB : base' ≤ base) : OwnE w base' A n c es := by
  refine ⟨h.1, h.2.1, ?_⟩
  rcases h.2.2 with h0 | ⟨g, cap, cur, hv, hg, r⟩
  · exact .inl h0
  · exact .inr ⟨g, cap, cur, hv, Nat.le_trans hB hg, r⟩
theorem ownE_new (w : World) (base g : Nat) (hg : g = w.heap.size) (hb : base ≤ w.heap.size) : OwnE (w.alloc (.cells #[] 58)) base (some ⟨g, 0, none⟩) 0 0 [] := by
  subst hg
  exact ⟨rfl, by simp [flat], .inr ⟨w.heap.size, 0, #[], rfl, hb, heap_alloc_new w _, Nat.le_refl _, by simp, by simp, by simp [flat]⟩⟩
theorem ownE_none (w : World) (base : Nat) : OwnE w base none 0 0 [] := ⟨rfl, by simp [flat], .inl ⟨rfl, rfl⟩⟩
theorem run_appE_any (ty : TypeId) (w : World) (base : Nat) (A0 : Option Addr) (n0 c0 : Nat) (es0 : List E) (hown : OwnE w base A0 n0 c0 es0) (ad : Addr) (m c : Nat) (es : List E) (hm : m = es.length)
    (hc : ∀ j u, (flat es)[j]? = some u → w.cell? (ad.add j) = some u) (hb : (n0 + m) * 32 ≤ 140737488355328) (hbase : base ≤ w.heap.size) :
    ∃ A' c' w', (Builtin.append_ #[34, 34] ty #[.slice A0 n0 c0, .slice (some ad) m c]).run Tryz.prog w = .ok (.slice A' (n0 + m) c') w' ∧ OwnE w' base A' (n0 + m) c' (es0 ++ es) ∧ Below base w w' := by
  obtain ⟨i0, hi, hz0, hz1, hz2⟩ := info_parts infoE
  obtain ⟨v', w', hrun, ho, hg, _⟩ := run_append_own (P := Tryz.prog) _ base 34 ty 58 i0 _ 4 32 Tryz.underlying34 hi hz0 hz1 hz2 rfl (by omega) _ n0 (flat es0) hown.2 ad m c (flat es) (by rw [flat_len, hm])
    hc (flat_one es) (by unfold maxLen; omega) (by omega) hbase
  have hbl : Below base w w' := (Below.refl _ _).grown hg hbase (fun k hk => (hown.2.lt k hk).1)
  have hfl : flat es0 ++ flat es = flat (es0 ++ es) := by unfold flat; rw [List.flatMap_append]
  rw [hfl] at ho
  have hlen : n0 + m = (es0 ++ es).length := by rw [List.length_append, hown.1, hm]
  rcases ho.2 with ⟨rfl, h0⟩ | ⟨g, cap, cur, rfl, _⟩
  · rw [h0] at ho hlen ⊢
    exact ⟨none, 0, w', hrun, ⟨hlen, ho⟩, hbl⟩
  · exact ⟨_, _, w', hrun, ⟨hlen, ho⟩, hbl⟩
theorem run_appE (ty : TypeId) (w : World) (base : Nat) (A0 : Option Addr) (n0 c0 : Nat) (es0 : List E) (hown : OwnE w base A0 n0 c0 es0) (b o m c : Nat) (es : List E) (hm : m = es.length)
    (hc : ∀ j e, es[j]? = some e → Four w b (o + j * 4) e) (hb : (n0 + m) * 32 ≤ 140737488355328) (hbase : base ≤ w.heap.size) :
    ∃ A' c' w', (Builtin.append_ #[34, 34] ty #[.slice A0 n0 c0, .slice (some ⟨b, o, none⟩) m c]).run Tryz.prog w = .ok (.slice A' (n0 + m) c') w' ∧ OwnE w' base A' (n0 + m) c' (es0 ++ es) ∧ Below base w w' :=
  run_appE_any ty w base A0 n0 c0 es0 hown ⟨b, o, none⟩ m c es hm (fun j u hu => by
    rw [add_at]
    obtain ⟨k, i, v, hv, hi, rfl, h⟩ := flat_get es j u hu
    rw [← Nat.add_assoc]
    exact (hc k v hv).cells i hi u h) hb hbase
theorem op_appE {w : World} {o : Oper} {a : Act} {K : Act → World → Prop} {Q : Exit → Act → World → Prop} (s x : Operand)
    (ho : o.op = .call { callee := .builtin .append, args := #[s, x], argTypes := #[34, 34] })
    (base : Nat) (A0 : Option Addr) (n0 c0 : Nat) (es0 : List E) (hs : a.eval s = .slice A0 n0 c0) (hown : OwnE w base A0 n0 c0 es0)
    (b of m c : Nat) (es : List E) (hx : a.eval x = .slice (some ⟨b, of, none⟩) m c) (hm : m = es.length)
    (hc : ∀ j e, es[j]? = some e → Four w b (of + j * 4) e) (hb : (n0 + m) * 32 ≤ 140737488355328) (hbase : base ≤ w.heap.size)
    (h : ∀ A' c' w', OwnE w' base A' (n0 + m) c' (es0 ++ es) → Below base w w' → K (a.put o.dst (.slice A' (n0 + m) c')) w') : o.wp Tryz.prog a w K Q := by
  obtain ⟨A', c', w', hrun, h2, h3⟩ := run_appE o.type w base A0 n0 c0 es0 hown b of m c es hm hc hb hbase
  unfold Oper.wp execOp
  simp only [ho, resolve, invoke, builtin, Sem.run_bind, Sem.run_pure, Result.andThen_ok, List.map_toArray, List.map_cons, List.map_nil, hs, hx, hrun]
  exact h A' c' w' h2 h3
theorem wp_appE {w : World} {ops : Array Oper} {rest : List Oper} {o : Oper} {a : Act} {Q : Exit → Act → World → Prop} (hgd : o.guard = none) (s x : Operand)
    (ho : o.op = .call { callee := .builtin .append, args := #[s, x], argTypes := #[34, 34] })
    (base : Nat) (A0 : Option Addr) (n0 c0 : Nat) (es0 : List E) (hs : a.eval s = .slice A0 n0 c0) (hown : OwnE w base A0 n0 c0 es0)
    (b of m c : Nat) (es : List E) (hx : a.eval x = .slice (some ⟨b, of, none⟩) m c) (hm : m = es.length)
    (hc : ∀ j e, es[j]? = some e → Four w b (of + j * 4) e) (hb : (n0 + m) * 32 ≤ 140737488355328) (hbase : base ≤ w.heap.size)
    (h : ∀ A' c' w', OwnE w' base A' (n0 + m) c' (es0 ++ es) → Below base w w' → wpList Tryz.prog ops Q rest (a.put o.dst (.slice A' (n0 + m) c')) w') : wpList Tryz.prog ops Q (o :: rest) a w :=
  wpList_plain hgd fun _ hK => op_appE s x ho base A0 n0 c0 es0 hs hown b of m c es hx hm hc hb hbase fun A' c' w' h1 h2 => hK _ _ (h A' c' w' h1 h2)
theorem one_cells (w : World) (es : List E) (j : Nat) (e : E) (he : es[j]? = some e) : Four (w.alloc (.cells (flat es).toArray 58)) w.heap.size (0 + j * 4) e := by
  refine four_of fun i u hi hu => ?_
  have h := flat_at es j e he i hi
  rw [cell_of_row _ _ _ _ _ _ (heap_alloc_new w _), Nat.zero_add]
  rw [hu] at h
  simpa using h
theorem OwnE.cap {w : World} {base : Nat} {A : Option Addr} {n c : Nat} {es : List E} (h : OwnE w base A n c es) : n ≤ c := by
  rcases h.2.2 with ⟨_, h0⟩ | ⟨g, cap, cur, e, _, _, hcp, _⟩
  · omega
  · injection e with e1 e2 e3
    omega
end Go.Proofs.YtfblnomkafimhaaGreat.Bkw

namespace Go.Proofs.YtfblnomkafimhaaGreat.Bkw
set_option maxRecDepth 20000
open Go.RowKit
open Tg Bk
open Tgw (bal hat hbe ret_bool tv)

theorem find_take (l : List E) (k : Nat) (key : Int) (x : E) (h : l[k]? = some x) (hx : x.key = key) (hn : ∀ y ∈ l.take k, ¬ y.key = key) : find l key = x := by
  have hs : l.find? (fun y => y.key == key) = some x := by
    rw [List.find?_eq_some_iff_getElem]
    have hk : k < l.length := by
      rcases Nat.lt_or_ge k l.length with h' | h'
      · exact h'
      · rw [List.getElem?_eq_none h'] at h; cases h
    rw [List.getElem?_eq_getElem hk] at h
    refine ⟨by simpa using hx, k, hk, Option.some.inj h, fun j hj => ?_⟩
    have := hn l[j] (List.mem_iff_getElem?.2 ⟨j, by rw [List.getElem?_take, if_pos hj, List.getElem?_eq_getElem]⟩)
    simpa using this
  unfold find
  rw [hs]
  rfl
theorem find_not (l : List E) (key : Int) (hn : ∀ y ∈ l, ¬ y.key = key) : find l key = zero key := by
  unfold find
  rw [List.find?_eq_none.2 (fun y hy => by simpa using hn y hy)]
  rfl
set_option maxHeartbeats 1000000 in
theorem find_r (A : Option Addr) (n c : Nat) (es : List E) (hn : n = es.length) (hl : n ≤ 140737488355328) (key : Int) (B : Nat) (w : World) (hr : Re w B A es) (hB : B ≤ w.heap.size) :
    Calls Tryz.prog 106 #[.slice A n c, .int .i64 key] w fun e w' => e = .returned (ev (find es key)) ∧ Below w.heap.size w w' := by
  have HN := Lib.hid hn; clear hn
  have HR := Lib.hid hr; clear hr
  have HF : Hid (∀ k x, es[k]? = some x → x.key = key → (∀ y ∈ es.take k, ¬ y.key = key) → find es key = x) := Lib.hid (fun k x => find_take es k key x)
  have HZ : Hid ((∀ y ∈ es, ¬ y.key = key) → find es key = zero key) := Lib.hid (find_not es key)
  generalize find es key = fx at HF HZ ⊢
  have hsf := store_flt
  go_enter Tryz.func106, Tryz.ntmps106
  go_wp2
  go_loopw [9] (fun i wr => ∃ k : Nat, i = .int .i64 k ∧ k ≤ n ∧ (∀ y ∈ es.take k, ¬ y.key = key) ∧ Ex wr w.heap.size (zero 0) ∧ Below w.heap.size w wr) (fun i _ => n - (intOf i).toNat)
  case atStart => exact ⟨0, rfl, by omega, by simp, hat _ _ _ rfl, bal (Below.refl _ _) (Nat.le_refl _) _⟩
  case round =>
    obtain ⟨k, rfl, hk, hno, hv0, hb⟩ := hrel
    have HB := Lib.hid hb; have V0 := Lib.hid hv0; have HNO := Lib.hid hno
    have hsz := hv0.lt
    clear hb hv0 hno
    have z0 := V0.out.c0; have z1 := V0.out.c1; have z2 := V0.out.c2; have z3 := V0.out.c3
    have f0 := frozen_of_row wr w.heap.size 0 _ _ V0.out
    have f1 := frozen_of_row wr w.heap.size 1 _ _ V0.out
    have f2 := frozen_of_row wr w.heap.size 2 _ _ V0.out
    have f3 := frozen_of_row wr w.heap.size 3 _ _ V0.out
    by_cases h : k < n
    · obtain ⟨b, o, rfl, hbB, hcell⟩ := HR.out (by rw [← HN.out]; omega)
      have hkl : k < es.length := by rw [← HN.out]; exact h
      have hz : es[k]? = some es[k] := List.getElem?_eq_getElem hkl
      have hc0 := (hcell k es[k] hz).below (HB.out.mono hB) hbB
      generalize es[k] = x at hz hc0
      obtain ⟨xk, xn, xd, xv⟩ := x
      obtain ⟨x0, x1, x2, x3⟩ := hc0
      have HX := Lib.hid hz
      clear hz hcell hkl
      by_cases hx : xk = key
      · have HE : Hid (fx = ⟨xk, xn, xd, xv⟩) := Lib.hid (HF.out k _ HX.out hx HNO.out)
        have hq : (xk == key) = true := by rw [beq_iff_eq]; exact hx
        clear hx HF HZ
        go_wp2
        refine bodyPost_ret (results_entry (g := w.heap.size) (e := ⟨xk, xn, xd, xv⟩) rfl rfl (hbe (V0.out.put ⟨xk, xn, xd, xv⟩))) rfl ?_
        exact ⟨by rw [HE.out], bal ((((HB.out.setCell (Nat.le_refl _) _).setCell (Nat.le_refl _) _).setCell (Nat.le_refl _) _).setCell (Nat.le_refl _) _) (Nat.le_refl _) _⟩
      · have hq : (xk == key) = false := by rw [beq_eq_false_iff_ne]; exact hx
        have HNX : Hid (∀ y ∈ es.take (k + 1), ¬ y.key = key) := Lib.hid (by
          intro y hy
          rw [List.take_add_one, HX.out, List.mem_append] at hy
          rcases hy with hy | hy
          · exact HNO.out y hy
          · simp at hy; subst hy; exact hx)
        clear hx
        go_wp2
        exact ⟨⟨k + 1, by go_num, by omega, HNX.out, hbe V0.out, bal HB.out (Nat.le_refl _) _⟩, by simp [intOf]; omega⟩
    · have HE : Hid (fx = zero key) := Lib.hid (HZ.out (by
        have := HNO.out
        rwa [List.take_of_length_le (by rw [← HN.out]; omega)] at this))
      clear HF HZ
      go_wp2
      refine bodyPost_ret (results_entry (g := w.heap.size) (e := zero key) rfl rfl (V0.out.put (zero key))) rfl ?_
      exact ⟨by rw [HE.out], (((HB.out.setCell (Nat.le_refl _) _).setCell (Nat.le_refl _) _).setCell (Nat.le_refl _) _).setCell (Nat.le_refl _) _⟩
def getF (es : List E) (key : Int) : E := if 0 ≤ key ∧ key ≤ 3 then find es key else zero 0
def getN (key : Int) : Int := if 0 ≤ key ∧ key ≤ 3 then 0 else 71
set_option maxHeartbeats 1000000 in
theorem alike_r (x y : E) (hx : Flt.U64 x.val) (hy : Flt.U64 y.val) (w : World) : Calls Tryz.prog 65 #[ev x, ev y] w fun e w' => e = .returned (.bool (alike x y)) ∧ Below w.heap.size w w' := by
  have heq := Tgw.eq_tag
  obtain ⟨a, b, c, d⟩ := x
  obtain ⟨a', b', c', d'⟩ := y
  have HA : Hid (alike ⟨a, b, c, d⟩ ⟨a', b', c', d'⟩ = (decide (a = a') && (decide (b = b' ∧ c = c') && decide (Flt.clean d = Flt.clean d')))) := Lib.hid rfl
  generalize alike ⟨a, b, c, d⟩ ⟨a', b', c', d'⟩ = r at HA ⊢
  have HB1 := Lib.hid (fun W => Nmw.refbits_c d W hx)
  have HB2' := Lib.hid (fun W => Nmw.refbits_c d' W hy)
  generalize Flt.clean d = u at HA HB1
  generalize Flt.clean d' = v at HA HB2'
  clear hx hy
  unfold ev
  go_enter Tryz.func65, Tryz.ntmps65
  go_wp2_with fail
  have V1 := Lib.hid (show Ex ((w.alloc (.cells #[.int .i64 a, .int .i64 b, .int .i64 c, .float .f64 d] 58)).alloc (.cells #[.int .i64 a', .int .i64 b', .int .i64 c', .float .f64 d'] 58)) w.heap.size ⟨a, b, c, d⟩ from hbe (hat _ _ _ rfl))
  have V2 := Lib.hid (show Ex ((w.alloc (.cells #[.int .i64 a, .int .i64 b, .int .i64 c, .float .f64 d] 58)).alloc (.cells #[.int .i64 a', .int .i64 b', .int .i64 c', .float .f64 d'] 58)) (w.heap.size + 1) ⟨a', b', c', d'⟩ from hat _ _ _ (by simp))
  have HB := Lib.hid (bal (bal (Below.refl w.heap.size w) (Nat.le_refl _) (.cells #[.int .i64 a, .int .i64 b, .int .i64 c, .float .f64 d] 58)) (Nat.le_refl _) (.cells #[.int .i64 a', .int .i64 b', .int .i64 c', .float .f64 d'] 58))
  generalize ((w.alloc (.cells #[.int .i64 a, .int .i64 b, .int .i64 c, .float .f64 d] 58)).alloc (.cells #[.int .i64 a', .int .i64 b', .int .i64 c', .float .f64 d'] 58)) = w1 at V1 V2 HB ⊢
  have HK : Hid (∀ W', Below w1.heap.size w1 W' → (W'.cell? ⟨w.heap.size, 0, none⟩ = some (.int .i64 a) ∧ W'.cell? ⟨w.heap.size, 1, none⟩ = some (.int .i64 b) ∧ W'.cell? ⟨w.heap.size, 2, none⟩ = some (.int .i64 c) ∧ W'.cell? ⟨w.heap.size, 3, none⟩ = some (.float .f64 d)) ∧ (W'.cell? ⟨w.heap.size + 1, 0, none⟩ = some (.int .i64 a') ∧ W'.cell? ⟨w.heap.size + 1, 1, none⟩ = some (.int .i64 b') ∧ W'.cell? ⟨w.heap.size + 1, 2, none⟩ = some (.int .i64 c') ∧ W'.cell? ⟨w.heap.size + 1, 3, none⟩ = some (.float .f64 d'))) := Lib.hid (fun W' h => ⟨⟨(V1.out.all h).c0, (V1.out.all h).c1, (V1.out.all h).c2, (V1.out.all h).c3⟩, (V2.out.all h).c0, (V2.out.all h).c1, (V2.out.all h).c2, (V2.out.all h).c3⟩)
  clear V1 V2
  refine wp_region_held_drew (S := fun W' => Below w1.heap.size w1 W') (by kernel_rfl) (Below.refl _ _).drew (fun hHeld => ?_)
  generalize w1.drew = w2 at hHeld ⊢
  have HB2 : Hid (Below w1.heap.size w1 w2) := hHeld
  clear hHeld
  by_cases h1 : a = a'
  · have hq : (a == a') = true := by rw [beq_iff_eq]; exact h1
    by_cases h2 : b = b' ∧ c = c'
    · have hq2 : (b == b' && c == c') = true := by simp only [Bool.and_eq_true, beq_iff_eq]; exact h2
      rw [decide_eq_true h1, decide_eq_true h2] at HA
      clear h1 h2
      refine take_in (i := 0) (oi := ⟨_, _, _, _, _, _⟩) (v := ?_) rfl (by kernel_rfl) (by kernel_rfl) (by kernel_rfl) (fun _ _ _ h => h) (by rfl) ?_ HB2.out ?_
      rotate_left
      · intro W hW; have hq3 := HK.out W hW; go_simp; with_reducible rfl
      simp only [Act.put, List.setIfInBounds_toArray, List.set_cons_zero, List.set_cons_succ]
      refine take_in (i := 1) (oi := ⟨_, _, _, _, _, _⟩) (v := ?_) rfl (by kernel_rfl) (by kernel_rfl) (by kernel_rfl) (fun _ _ _ h => h) (by rfl) ?_ HB2.out ?_
      rotate_left
      · intro W hW; have hq3 := HK.out W hW; go_simp; with_reducible rfl
      simp only [Act.put, List.setIfInBounds_toArray, List.set_cons_zero, List.set_cons_succ]
      refine take_in (i := 2) (oi := ⟨_, _, _, _, _, _⟩) (v := ?_) rfl (by kernel_rfl) (by kernel_rfl) (by kernel_rfl) (fun _ _ _ h => h) (by rfl) ?_ HB2.out ?_
      rotate_left
      · intro W hW; have hq3 := HK.out W hW; go_simp; with_reducible rfl
      simp only [Act.put, List.setIfInBounds_toArray, List.set_cons_zero, List.set_cons_succ]
      refine take_in (i := 3) (oi := ⟨_, _, _, _, _, _⟩) (v := ?_) rfl (by kernel_rfl) (by kernel_rfl) (by kernel_rfl) (fun _ _ _ h => h) (by rfl) ?_ HB2.out ?_
      rotate_left
      · intro W hW; have hq3 := HK.out W hW; go_simp; with_reducible rfl
      simp only [Act.put, List.setIfInBounds_toArray, List.set_cons_zero, List.set_cons_succ]
      refine take_in (i := 4) (oi := ⟨_, _, _, _, _, _⟩) (v := ?_) rfl (by kernel_rfl) (by kernel_rfl) (by kernel_rfl) (fun _ _ _ h => h) (by rfl) ?_ HB2.out ?_
      rotate_left
      · intro W hW; have hq3 := HK.out W hW; go_simp; with_reducible rfl
      simp only [Act.put, List.setIfInBounds_toArray, List.set_cons_zero, List.set_cons_succ]
      refine take_in (i := 5) (oi := ⟨_, _, _, _, _, _⟩) (v := ?_) rfl (by kernel_rfl) (by kernel_rfl) (by kernel_rfl) (fun _ _ _ h => h) (by rfl) ?_ HB2.out ?_
      rotate_left
      · intro W hW; have hq3 := HK.out W hW; go_simp; with_reducible rfl
      simp only [Act.put, List.setIfInBounds_toArray, List.set_cons_zero, List.set_cons_succ]
      refine take_in (i := 6) (oi := ⟨_, _, _, _, _, _⟩) (v := ?_) rfl (by kernel_rfl) (by kernel_rfl) (by kernel_rfl) (fun _ _ _ h => h) (by rfl) ?_ HB2.out ?_
      rotate_left
      · intro W hW; have hq3 := HK.out W hW; go_simp; with_reducible rfl
      simp only [Act.put, List.setIfInBounds_toArray, List.set_cons_zero, List.set_cons_succ]
      refine take_in (i := 7) (oi := ⟨_, _, _, _, _, _⟩) (v := ?_) rfl (by kernel_rfl) (by kernel_rfl) (by kernel_rfl) (fun _ _ _ h => h) (by rfl) ?_ HB2.out ?_
      rotate_left
      · intro W hW; have hq3 := HK.out W hW; go_simp; with_reducible rfl
      simp only [Act.put, List.setIfInBounds_toArray, List.set_cons_zero, List.set_cons_succ]
      refine take_in (i := 8) (oi := ⟨_, _, _, _, _, _⟩) (v := ?_) rfl (by kernel_rfl) (by kernel_rfl) (by kernel_rfl) (fun _ _ _ h => h) (by rfl) ?_ HB2.out ?_
      rotate_left
      · intro W hW; have hq3 := HK.out W hW; go_simp; with_reducible rfl
      simp only [Act.put, List.setIfInBounds_toArray, List.set_cons_zero, List.set_cons_succ]
      refine take_in (i := 9) (oi := ⟨_, _, _, _, _, _⟩) (v := ?_) rfl (by kernel_rfl) (by kernel_rfl) (by kernel_rfl) (fun _ _ _ h => h) (by rfl) ?_ HB2.out ?_
      rotate_left
      · intro W hW; have hq3 := HK.out W hW; go_simp; with_reducible rfl
      simp only [Act.put, List.setIfInBounds_toArray, List.set_cons_zero, List.set_cons_succ]
      refine take_in (i := 10) (oi := ⟨_, _, _, _, _, _⟩) (v := ?_) rfl (by kernel_rfl) (by kernel_rfl) (by kernel_rfl) (fun _ _ _ h => h) (by rfl) ?_ HB2.out ?_
      rotate_left
      · intro W hW; have hq3 := HK.out W hW; go_simp; with_reducible rfl
      simp only [Act.put, List.setIfInBounds_toArray, List.set_cons_zero, List.set_cons_succ]
      refine take_in (i := 11) (oi := ⟨_, _, _, _, _, _⟩) (v := ?_) rfl (by kernel_rfl) (by kernel_rfl) (by kernel_rfl) (fun _ _ _ h => h) (by rfl) ?_ HB2.out ?_
      rotate_left
      · intro W hW; have hq3 := HK.out W hW; go_simp; with_reducible rfl
      simp only [Act.put, List.setIfInBounds_toArray, List.set_cons_zero, List.set_cons_succ]
      refine take_in (i := 12) (oi := ⟨_, _, _, _, _, _⟩) (v := ?_) rfl (by kernel_rfl) (by kernel_rfl) (by kernel_rfl) (fun _ _ _ h => h) (by rfl) ?_ HB2.out ?_
      rotate_left
      · intro W hW; have hq3 := HK.out W hW; go_simp; with_reducible rfl
      simp only [Act.put, List.setIfInBounds_toArray, List.set_cons_zero, List.set_cons_succ]
      refine take_in (i := 13) (oi := ⟨_, _, _, _, _, _⟩) (v := ?_) rfl (by kernel_rfl) (by kernel_rfl) (by kernel_rfl) (fun _ _ _ h => h) (by rfl) ?_ HB2.out ?_
      rotate_left
      · intro W hW; have hq3 := HK.out W hW; go_simp; with_reducible rfl
      simp only [Act.put, List.setIfInBounds_toArray, List.set_cons_zero, List.set_cons_succ]
      refine take_in (i := 14) (oi := ⟨_, _, _, _, _, _⟩) (v := ?_) rfl (by kernel_rfl) (by kernel_rfl) (by kernel_rfl) (fun _ _ _ h => h) (by rfl) ?_ HB2.out ?_
      rotate_left
      · intro W hW; have hq3 := HK.out W hW; go_simp; with_reducible rfl
      simp only [Act.put, List.setIfInBounds_toArray, List.set_cons_zero, List.set_cons_succ]
      refine take_in (i := 16) (oi := ⟨_, _, _, _, _, _⟩) (v := ?_) rfl (by kernel_rfl) (by kernel_rfl) (by kernel_rfl) (fun _ _ _ h => h) (by rfl) ?_ HB2.out ?_
      rotate_left
      · intro W hW; have hq3 := HK.out W hW; go_simp; with_reducible rfl
      simp only [Act.put, List.setIfInBounds_toArray, List.set_cons_zero, List.set_cons_succ]
      refine take_in (i := 17) (oi := ⟨_, _, _, _, _, _⟩) (v := ?_) rfl (by kernel_rfl) (by kernel_rfl) (by kernel_rfl) (fun _ _ _ h => h) (by rfl) ?_ HB2.out ?_
      rotate_left
      · intro W hW; have hq3 := HK.out W hW; go_simp; with_reducible rfl
      simp only [Act.put, List.setIfInBounds_toArray, List.set_cons_zero, List.set_cons_succ]
      refine wpAnyH_ready (rs := [15]) (by kernel_rfl) (by simp) ?_
      refine AllReadyH.cons (o := ⟨_, _, _, _, _, _⟩) rfl (fun K hK => ?_) AllReadyH.nil
      go_simp
      refine (HB1.out _).mono ?_
      rintro e w3 ⟨rfl, rfl⟩
      refine hK.out _ _ HB2.out (fun _ => ?_)
      clear hK K
      refine wpAnyH_ready (rs := [18]) (by kernel_rfl) (by simp) ?_
      refine AllReadyH.cons (o := ⟨_, _, _, _, _, _⟩) rfl (fun K hK => ?_) AllReadyH.nil
      go_simp
      refine (HB2'.out _).mono ?_
      rintro e w3 ⟨rfl, rfl⟩
      refine hK.out _ _ HB2.out (fun _ => ?_)
      clear hK K
      refine take_in (i := 19) (oi := ⟨_, _, _, _, _, _⟩) (v := ?_) rfl (by kernel_rfl) (by kernel_rfl) (by kernel_rfl) (fun _ _ _ h => h) (by rfl) ?_ HB2.out ?_
      rotate_left
      · intro W hW; go_simp; with_reducible rfl
      simp only [Act.put, List.setIfInBounds_toArray, List.set_cons_zero, List.set_cons_succ]
      refine take_in (i := 20) (oi := ⟨_, _, _, _, _, _⟩) (v := ?_) rfl (by kernel_rfl) (by kernel_rfl) (by kernel_rfl) (fun _ _ _ h => h) (by rfl) ?_ HB2.out ?_
      rotate_left
      · intro W hW; go_simp; with_reducible rfl
      simp only [Act.put, List.setIfInBounds_toArray, List.set_cons_zero, List.set_cons_succ]
      refine take_in (i := 21) (oi := ⟨_, _, _, _, _, _⟩) (v := ?_) rfl (by kernel_rfl) (by kernel_rfl) (by kernel_rfl) (fun _ _ _ h => h) (by rfl) ?_ HB2.out ?_
      rotate_left
      · intro W hW; go_simp; with_reducible rfl
      simp only [Act.put, List.setIfInBounds_toArray, List.set_cons_zero, List.set_cons_succ]
      refine wpAnyH_done (by kernel_rfl) ?_ _
      go_wp2
      go_ret
      refine ⟨ret_bool ?_, HB.out.trans (HB2.out.mono HB.out.size)⟩
      rw [HA.out, Bool.true_and, Bool.true_and, Bool.eq_iff_iff, beq_iff_eq, decide_eq_true_iff]
      omega
    · have hq2 : (b == b' && c == c') = false := by rw [← Bool.not_eq_true]; simp only [Bool.and_eq_true, beq_iff_eq]; exact h2
      rw [decide_eq_false h2, Bool.false_and, Bool.and_false] at HA
      clear h1 h2
      refine take_in (i := 0) (oi := ⟨_, _, _, _, _, _⟩) (v := ?_) rfl (by kernel_rfl) (by kernel_rfl) (by kernel_rfl) (fun _ _ _ h => h) (by rfl) ?_ HB2.out ?_
      rotate_left
      · intro W hW; have hq3 := HK.out W hW; go_simp; with_reducible rfl
      simp only [Act.put, List.setIfInBounds_toArray, List.set_cons_zero, List.set_cons_succ]
      refine take_in (i := 1) (oi := ⟨_, _, _, _, _, _⟩) (v := ?_) rfl (by kernel_rfl) (by kernel_rfl) (by kernel_rfl) (fun _ _ _ h => h) (by rfl) ?_ HB2.out ?_
      rotate_left
      · intro W hW; have hq3 := HK.out W hW; go_simp; with_reducible rfl
      simp only [Act.put, List.setIfInBounds_toArray, List.set_cons_zero, List.set_cons_succ]
      refine take_in (i := 2) (oi := ⟨_, _, _, _, _, _⟩) (v := ?_) rfl (by kernel_rfl) (by kernel_rfl) (by kernel_rfl) (fun _ _ _ h => h) (by rfl) ?_ HB2.out ?_
      rotate_left
      · intro W hW; have hq3 := HK.out W hW; go_simp; with_reducible rfl
      simp only [Act.put, List.setIfInBounds_toArray, List.set_cons_zero, List.set_cons_succ]
      refine take_in (i := 3) (oi := ⟨_, _, _, _, _, _⟩) (v := ?_) rfl (by kernel_rfl) (by kernel_rfl) (by kernel_rfl) (fun _ _ _ h => h) (by rfl) ?_ HB2.out ?_
      rotate_left
      · intro W hW; have hq3 := HK.out W hW; go_simp; with_reducible rfl
      simp only [Act.put, List.setIfInBounds_toArray, List.set_cons_zero, List.set_cons_succ]
      refine take_in (i := 4) (oi := ⟨_, _, _, _, _, _⟩) (v := ?_) rfl (by kernel_rfl) (by kernel_rfl) (by kernel_rfl) (fun _ _ _ h => h) (by rfl) ?_ HB2.out ?_
      rotate_left
      · intro W hW; have hq3 := HK.out W hW; go_simp; with_reducible rfl
      simp only [Act.put, List.setIfInBounds_toArray, List.set_cons_zero, List.set_cons_succ]
      refine take_in (i := 5) (oi := ⟨_, _, _, _, _, _⟩) (v := ?_) rfl (by kernel_rfl) (by kernel_rfl) (by kernel_rfl) (fun _ _ _ h => h) (by rfl) ?_ HB2.out ?_
      rotate_left
      · intro W hW; have hq3 := HK.out W hW; go_simp; with_reducible rfl
      simp only [Act.put, List.setIfInBounds_toArray, List.set_cons_zero, List.set_cons_succ]
      refine take_in (i := 6) (oi := ⟨_, _, _, _, _, _⟩) (v := ?_) rfl (by kernel_rfl) (by kernel_rfl) (by kernel_rfl) (fun _ _ _ h => h) (by rfl) ?_ HB2.out ?_
      rotate_left
      · intro W hW; have hq3 := HK.out W hW; go_simp; with_reducible rfl
      simp only [Act.put, List.setIfInBounds_toArray, List.set_cons_zero, List.set_cons_succ]
      refine take_in (i := 7) (oi := ⟨_, _, _, _, _, _⟩) (v := ?_) rfl (by kernel_rfl) (by kernel_rfl) (by kernel_rfl) (fun _ _ _ h => h) (by rfl) ?_ HB2.out ?_
      rotate_left
      · intro W hW; have hq3 := HK.out W hW; go_simp; with_reducible rfl
      simp only [Act.put, List.setIfInBounds_toArray, List.set_cons_zero, List.set_cons_succ]
      refine take_in (i := 8) (oi := ⟨_, _, _, _, _, _⟩) (v := ?_) rfl (by kernel_rfl) (by kernel_rfl) (by kernel_rfl) (fun _ _ _ h => h) (by rfl) ?_ HB2.out ?_
      rotate_left
      · intro W hW; have hq3 := HK.out W hW; go_simp; with_reducible rfl
      simp only [Act.put, List.setIfInBounds_toArray, List.set_cons_zero, List.set_cons_succ]
      refine take_in (i := 9) (oi := ⟨_, _, _, _, _, _⟩) (v := ?_) rfl (by kernel_rfl) (by kernel_rfl) (by kernel_rfl) (fun _ _ _ h => h) (by rfl) ?_ HB2.out ?_
      rotate_left
      · intro W hW; have hq3 := HK.out W hW; go_simp; with_reducible rfl
      simp only [Act.put, List.setIfInBounds_toArray, List.set_cons_zero, List.set_cons_succ]
      refine take_in (i := 10) (oi := ⟨_, _, _, _, _, _⟩) (v := ?_) rfl (by kernel_rfl) (by kernel_rfl) (by kernel_rfl) (fun _ _ _ h => h) (by rfl) ?_ HB2.out ?_
      rotate_left
      · intro W hW; have hq3 := HK.out W hW; go_simp; with_reducible rfl
      simp only [Act.put, List.setIfInBounds_toArray, List.set_cons_zero, List.set_cons_succ]
      refine take_in (i := 11) (oi := ⟨_, _, _, _, _, _⟩) (v := ?_) rfl (by kernel_rfl) (by kernel_rfl) (by kernel_rfl) (fun _ _ _ h => h) (by rfl) ?_ HB2.out ?_
      rotate_left
      · intro W hW; have hq3 := HK.out W hW; go_simp; with_reducible rfl
      simp only [Act.put, List.setIfInBounds_toArray, List.set_cons_zero, List.set_cons_succ]
      refine take_in (i := 12) (oi := ⟨_, _, _, _, _, _⟩) (v := ?_) rfl (by kernel_rfl) (by kernel_rfl) (by kernel_rfl) (fun _ _ _ h => h) (by rfl) ?_ HB2.out ?_
      rotate_left
      · intro W hW; have hq3 := HK.out W hW; go_simp; with_reducible rfl
      simp only [Act.put, List.setIfInBounds_toArray, List.set_cons_zero, List.set_cons_succ]
      refine skip_in (i := 13) (oi := ⟨_, _, _, _, _, _⟩) rfl (by kernel_rfl) (by kernel_rfl) (by kernel_rfl) (fun _ _ _ h => h) (by rfl) HB2.out ?_
      simp only [Act.put, List.setIfInBounds_toArray, List.set_cons_zero, List.set_cons_succ]
      refine skip_in (i := 14) (oi := ⟨_, _, _, _, _, _⟩) rfl (by kernel_rfl) (by kernel_rfl) (by kernel_rfl) (fun _ _ _ h => h) (by rfl) HB2.out ?_
      simp only [Act.put, List.setIfInBounds_toArray, List.set_cons_zero, List.set_cons_succ]
      refine skip_in (i := 15) (oi := ⟨_, _, _, _, _, _⟩) rfl (by kernel_rfl) (by kernel_rfl) (by kernel_rfl) (fun _ _ _ h => h) (by rfl) HB2.out ?_
      simp only [Act.put, List.setIfInBounds_toArray, List.set_cons_zero, List.set_cons_succ]
      refine skip_in (i := 16) (oi := ⟨_, _, _, _, _, _⟩) rfl (by kernel_rfl) (by kernel_rfl) (by kernel_rfl) (fun _ _ _ h => h) (by rfl) HB2.out ?_
      simp only [Act.put, List.setIfInBounds_toArray, List.set_cons_zero, List.set_cons_succ]
      refine skip_in (i := 17) (oi := ⟨_, _, _, _, _, _⟩) rfl (by kernel_rfl) (by kernel_rfl) (by kernel_rfl) (fun _ _ _ h => h) (by rfl) HB2.out ?_
      simp only [Act.put, List.setIfInBounds_toArray, List.set_cons_zero, List.set_cons_succ]
      refine skip_in (i := 18) (oi := ⟨_, _, _, _, _, _⟩) rfl (by kernel_rfl) (by kernel_rfl) (by kernel_rfl) (fun _ _ _ h => h) (by rfl) HB2.out ?_
      simp only [Act.put, List.setIfInBounds_toArray, List.set_cons_zero, List.set_cons_succ]
      refine skip_in (i := 19) (oi := ⟨_, _, _, _, _, _⟩) rfl (by kernel_rfl) (by kernel_rfl) (by kernel_rfl) (fun _ _ _ h => h) (by rfl) HB2.out ?_
      simp only [Act.put, List.setIfInBounds_toArray, List.set_cons_zero, List.set_cons_succ]
      refine take_in (i := 20) (oi := ⟨_, _, _, _, _, _⟩) (v := ?_) rfl (by kernel_rfl) (by kernel_rfl) (by kernel_rfl) (fun _ _ _ h => h) (by rfl) ?_ HB2.out ?_
      rotate_left
      · intro W hW; go_simp; with_reducible rfl
      simp only [Act.put, List.setIfInBounds_toArray, List.set_cons_zero, List.set_cons_succ]
      refine take_in (i := 21) (oi := ⟨_, _, _, _, _, _⟩) (v := ?_) rfl (by kernel_rfl) (by kernel_rfl) (by kernel_rfl) (fun _ _ _ h => h) (by rfl) ?_ HB2.out ?_
      rotate_left
      · intro W hW; go_simp; with_reducible rfl
      simp only [Act.put, List.setIfInBounds_toArray, List.set_cons_zero, List.set_cons_succ]
      refine wpAnyH_done (by kernel_rfl) ?_ _
      go_wp2
      go_ret
      exact ⟨by rw [HA.out]; rfl, HB.out.trans (HB2.out.mono HB.out.size)⟩
  · have hq : (a == a') = false := by rw [beq_eq_false_iff_ne]; exact h1
    rw [decide_eq_false h1, Bool.false_and] at HA
    clear h1
    refine take_in (i := 0) (oi := ⟨_, _, _, _, _, _⟩) (v := ?_) rfl (by kernel_rfl) (by kernel_rfl) (by kernel_rfl) (fun _ _ _ h => h) (by rfl) ?_ HB2.out ?_
    rotate_left
    · intro W hW; have hq3 := HK.out W hW; go_simp; with_reducible rfl
    simp only [Act.put, List.setIfInBounds_toArray, List.set_cons_zero, List.set_cons_succ]
    refine take_in (i := 1) (oi := ⟨_, _, _, _, _, _⟩) (v := ?_) rfl (by kernel_rfl) (by kernel_rfl) (by kernel_rfl) (fun _ _ _ h => h) (by rfl) ?_ HB2.out ?_
    rotate_left
    · intro W hW; have hq3 := HK.out W hW; go_simp; with_reducible rfl
    simp only [Act.put, List.setIfInBounds_toArray, List.set_cons_zero, List.set_cons_succ]
    refine take_in (i := 2) (oi := ⟨_, _, _, _, _, _⟩) (v := ?_) rfl (by kernel_rfl) (by kernel_rfl) (by kernel_rfl) (fun _ _ _ h => h) (by rfl) ?_ HB2.out ?_
    rotate_left
    · intro W hW; have hq3 := HK.out W hW; go_simp; with_reducible rfl
    simp only [Act.put, List.setIfInBounds_toArray, List.set_cons_zero, List.set_cons_succ]
    refine take_in (i := 3) (oi := ⟨_, _, _, _, _, _⟩) (v := ?_) rfl (by kernel_rfl) (by kernel_rfl) (by kernel_rfl) (fun _ _ _ h => h) (by rfl) ?_ HB2.out ?_
    rotate_left
    · intro W hW; have hq3 := HK.out W hW; go_simp; with_reducible rfl
    simp only [Act.put, List.setIfInBounds_toArray, List.set_cons_zero, List.set_cons_succ]
    refine take_in (i := 4) (oi := ⟨_, _, _, _, _, _⟩) (v := ?_) rfl (by kernel_rfl) (by kernel_rfl) (by kernel_rfl) (fun _ _ _ h => h) (by rfl) ?_ HB2.out ?_
    rotate_left
    · intro W hW; have hq3 := HK.out W hW; go_simp; with_reducible rfl
    simp only [Act.put, List.setIfInBounds_toArray, List.set_cons_zero, List.set_cons_succ]
    refine take_in (i := 5) (oi := ⟨_, _, _, _, _, _⟩) (v := ?_) rfl (by kernel_rfl) (by kernel_rfl) (by kernel_rfl) (fun _ _ _ h => h) (by rfl) ?_ HB2.out ?_
    rotate_left
    · intro W hW; have hq3 := HK.out W hW; go_simp; with_reducible rfl
    simp only [Act.put, List.setIfInBounds_toArray, List.set_cons_zero, List.set_cons_succ]
    refine skip_in (i := 6) (oi := ⟨_, _, _, _, _, _⟩) rfl (by kernel_rfl) (by kernel_rfl) (by kernel_rfl) (fun _ _ _ h => h) (by rfl) HB2.out ?_
    simp only [Act.put, List.setIfInBounds_toArray, List.set_cons_zero, List.set_cons_succ]
    refine skip_in (i := 7) (oi := ⟨_, _, _, _, _, _⟩) rfl (by kernel_rfl) (by kernel_rfl) (by kernel_rfl) (fun _ _ _ h => h) (by rfl) HB2.out ?_
    simp only [Act.put, List.setIfInBounds_toArray, List.set_cons_zero, List.set_cons_succ]
    refine skip_in (i := 8) (oi := ⟨_, _, _, _, _, _⟩) rfl (by kernel_rfl) (by kernel_rfl) (by kernel_rfl) (fun _ _ _ h => h) (by rfl) HB2.out ?_
    simp only [Act.put, List.setIfInBounds_toArray, List.set_cons_zero, List.set_cons_succ]
    refine skip_in (i := 9) (oi := ⟨_, _, _, _, _, _⟩) rfl (by kernel_rfl) (by kernel_rfl) (by kernel_rfl) (fun _ _ _ h => h) (by rfl) HB2.out ?_
    simp only [Act.put, List.setIfInBounds_toArray, List.set_cons_zero, List.set_cons_succ]
    refine skip_in (i := 10) (oi := ⟨_, _, _, _, _, _⟩) rfl (by kernel_rfl) (by kernel_rfl) (by kernel_rfl) (fun _ _ _ h => h) (by rfl) HB2.out ?_
    simp only [Act.put, List.setIfInBounds_toArray, List.set_cons_zero, List.set_cons_succ]
    refine take_in (i := 11) (oi := ⟨_, _, _, _, _, _⟩) (v := ?_) rfl (by kernel_rfl) (by kernel_rfl) (by kernel_rfl) (fun _ _ _ h => h) (by rfl) ?_ HB2.out ?_
    rotate_left
    · intro W hW; go_simp; with_reducible rfl
    simp only [Act.put, List.setIfInBounds_toArray, List.set_cons_zero, List.set_cons_succ]
    refine take_in (i := 12) (oi := ⟨_, _, _, _, _, _⟩) (v := ?_) rfl (by kernel_rfl) (by kernel_rfl) (by kernel_rfl) (fun _ _ _ h => h) (by rfl) ?_ HB2.out ?_
    rotate_left
    · intro W hW; go_simp; with_reducible rfl
    simp only [Act.put, List.setIfInBounds_toArray, List.set_cons_zero, List.set_cons_succ]
    refine skip_in (i := 13) (oi := ⟨_, _, _, _, _, _⟩) rfl (by kernel_rfl) (by kernel_rfl) (by kernel_rfl) (fun _ _ _ h => h) (by rfl) HB2.out ?_
    simp only [Act.put, List.setIfInBounds_toArray, List.set_cons_zero, List.set_cons_succ]
    refine skip_in (i := 14) (oi := ⟨_, _, _, _, _, _⟩) rfl (by kernel_rfl) (by kernel_rfl) (by kernel_rfl) (fun _ _ _ h => h) (by rfl) HB2.out ?_
    simp only [Act.put, List.setIfInBounds_toArray, List.set_cons_zero, List.set_cons_succ]
    refine skip_in (i := 15) (oi := ⟨_, _, _, _, _, _⟩) rfl (by kernel_rfl) (by kernel_rfl) (by kernel_rfl) (fun _ _ _ h => h) (by rfl) HB2.out ?_
    simp only [Act.put, List.setIfInBounds_toArray, List.set_cons_zero, List.set_cons_succ]
    refine skip_in (i := 16) (oi := ⟨_, _, _, _, _, _⟩) rfl (by kernel_rfl) (by kernel_rfl) (by kernel_rfl) (fun _ _ _ h => h) (by rfl) HB2.out ?_
    simp only [Act.put, List.setIfInBounds_toArray, List.set_cons_zero, List.set_cons_succ]
    refine skip_in (i := 17) (oi := ⟨_, _, _, _, _, _⟩) rfl (by kernel_rfl) (by kernel_rfl) (by kernel_rfl) (fun _ _ _ h => h) (by rfl) HB2.out ?_
    simp only [Act.put, List.setIfInBounds_toArray, List.set_cons_zero, List.set_cons_succ]
    refine skip_in (i := 18) (oi := ⟨_, _, _, _, _, _⟩) rfl (by kernel_rfl) (by kernel_rfl) (by kernel_rfl) (fun _ _ _ h => h) (by rfl) HB2.out ?_
    simp only [Act.put, List.setIfInBounds_toArray, List.set_cons_zero, List.set_cons_succ]
    refine skip_in (i := 19) (oi := ⟨_, _, _, _, _, _⟩) rfl (by kernel_rfl) (by kernel_rfl) (by kernel_rfl) (fun _ _ _ h => h) (by rfl) HB2.out ?_
    simp only [Act.put, List.setIfInBounds_toArray, List.set_cons_zero, List.set_cons_succ]
    refine take_in (i := 20) (oi := ⟨_, _, _, _, _, _⟩) (v := ?_) rfl (by kernel_rfl) (by kernel_rfl) (by kernel_rfl) (fun _ _ _ h => h) (by rfl) ?_ HB2.out ?_
    rotate_left
    · intro W hW; go_simp; with_reducible rfl
    simp only [Act.put, List.setIfInBounds_toArray, List.set_cons_zero, List.set_cons_succ]
    refine take_in (i := 21) (oi := ⟨_, _, _, _, _, _⟩) (v := ?_) rfl (by kernel_rfl) (by kernel_rfl) (by kernel_rfl) (fun _ _ _ h => h) (by rfl) ?_ HB2.out ?_
    rotate_left
    · intro W hW; go_simp; with_reducible rfl
    simp only [Act.put, List.setIfInBounds_toArray, List.set_cons_zero, List.set_cons_succ]
    refine wpAnyH_done (by kernel_rfl) ?_ _
    go_wp2
    go_ret
    exact ⟨by rw [HA.out]; rfl, HB.out.trans (HB2.out.mono HB.out.size)⟩
end Go.Proofs.YtfblnomkafimhaaGreat.Bkw

namespace Go.Proofs.YtfblnomkafimhaaGreat.Bkw
set_option maxRecDepth 20000
open Go.RowKit
open Tg Bk
open Tgw (bal hat hbe ret_bool tv)

theorem same_false (a b : List E) (i : Nat) (x y : E) (hx : a[i]? = some x) (hy : b[i]? = some y) (h : alike x y = false) : same a b = false := by
  rw [← Bool.not_eq_true, same_iff]
  rintro ⟨_, h2⟩
  rw [h2 i x y hx hy] at h
  cases h
set_option maxHeartbeats 1000000 in
theorem same_r (A : Option Addr) (n c : Nat) (es : List E) (hn : n = es.length) (hl : n ≤ 140737488355328) (hw : ∀ e ∈ es, Flt.U64 e.val) (A2 : Option Addr) (n2 c2 : Nat) (fs : List E) (hn2 : n2 = fs.length) (hw2 : ∀ e ∈ fs, Flt.U64 e.val) (B : Nat) (w : World) (hr : Re w B A es) (hr2 : Re w B A2 fs) (hB : B ≤ w.heap.size) :
    Calls Tryz.prog 27 #[.slice A n c, .slice A2 n2 c2] w fun e w' => e = .returned (.bool (same es fs)) ∧ Below w.heap.size w w' := by
  have HN := Lib.hid hn; have HN2 := Lib.hid hn2
  have HR := Lib.hid hr; have HR2 := Lib.hid hr2
  have HW := Lib.hid hw; have HW2 := Lib.hid hw2
  clear hr hr2 hw hw2
  by_cases hnn : n = n2
  · subst hnn
    have HF : Hid (∀ (i : Nat) x y, es[i]? = some x → fs[i]? = some y → alike x y = false → same es fs = false) := Lib.hid (same_false es fs)
    have HT : Hid ((∀ (i : Nat) x y, i < n → es[i]? = some x → fs[i]? = some y → alike x y = true) → same es fs = true) := Lib.hid (fun h => (same_iff es fs).2 ⟨by rw [← hn, ← hn2], fun i x y hx hy => h i x y (by
      rw [hn]
      rcases Nat.lt_or_ge i es.length with h' | h'
      · exact h'
      · rw [List.getElem?_eq_none h'] at hx; cases hx) hx hy⟩)
    generalize same es fs = r at HF HT ⊢
    clear hn hn2
    go_enter Tryz.func27, Tryz.ntmps27
    go_wp2
    go_loopw [13] (fun i wr => ∃ k : Nat, i = .int .i64 k ∧ k ≤ n ∧ (∀ (i : Nat) x y, i < k → es[i]? = some x → fs[i]? = some y → alike x y = true) ∧ Below w.heap.size w wr) (fun i _ => n - (intOf i).toNat)
    case atStart => exact ⟨0, rfl, by omega, fun i x y hi => by omega, Below.refl _ _⟩
    case round =>
      obtain ⟨k, rfl, hk, hall, hb⟩ := hrel
      have HB := Lib.hid hb; have HA := Lib.hid hall
      have hsz := hb.size
      clear hb hall
      by_cases h : k < n
      · obtain ⟨b, o, rfl, hbB, hcell⟩ := HR.out (by rw [← HN.out]; omega)
        obtain ⟨b2, o2, rfl, hbB2, hcell2⟩ := HR2.out (by rw [← HN2.out]; omega)
        have hkl : k < es.length := by rw [← HN.out]; exact h
        have hkl2 : k < fs.length := by rw [← HN2.out]; exact h
        have hz : es[k]? = some es[k] := List.getElem?_eq_getElem hkl
        have hz2 : fs[k]? = some fs[k] := List.getElem?_eq_getElem hkl2
        have hc0 := hcell k es[k] hz
        have hc1 := hcell2 k fs[k] hz2
        have HU := Lib.hid (HW.out es[k] (List.getElem_mem hkl))
        have HU2 := Lib.hid (HW2.out fs[k] (List.getElem_mem hkl2))
        generalize es[k] = x at hz hc0 HU
        generalize fs[k] = y at hz2 hc1 HU2
        have HK : Hid (∀ W, Below w.heap.size w W → (W.cell? ⟨b, o + k * 4, none⟩ = some (.int .i64 x.key) ∧ W.cell? ⟨b, o + k * 4 + 1, none⟩ = some (.int .i64 x.num) ∧ W.cell? ⟨b, o + k * 4 + 2, none⟩ = some (.int .i64 x.node) ∧ W.cell? ⟨b, o + k * 4 + 3, none⟩ = some (.float .f64 x.val)) ∧ (W.cell? ⟨b2, o2 + k * 4, none⟩ = some (.int .i64 y.key) ∧ W.cell? ⟨b2, o2 + k * 4 + 1, none⟩ = some (.int .i64 y.num) ∧ W.cell? ⟨b2, o2 + k * 4 + 2, none⟩ = some (.int .i64 y.node) ∧ W.cell? ⟨b2, o2 + k * 4 + 3, none⟩ = some (.float .f64 y.val))) := Lib.hid (fun W hW => ⟨hc0.below (hW.mono hB) hbB, hc1.below (hW.mono hB) hbB2⟩)
        have HX := Lib.hid hz; have HY := Lib.hid hz2
        clear hz hz2 hc0 hc1 hcell hcell2 hkl hkl2
        go_wp2_with fail
        have hi1 : (k : Int) < (n : Int) := by omega
        refine wp_region_held_drew (S := fun W' => Below w.heap.size w W') (by kernel_rfl) HB.out.drew (fun hHeld => ?_)
        generalize wr.drew = w5 at hHeld ⊢
        have HB5 : Hid (Below w.heap.size w w5) := hHeld
        clear hHeld
        refine take_in (i := 0) (oi := ⟨_, _, _, _, _, _⟩) (v := ?_) rfl (by kernel_rfl) (by kernel_rfl) (by kernel_rfl) (fun _ _ _ h => h) (by rfl) ?_ HB5.out ?_
        rotate_left
        · intro W hW; have hq := HK.out W hW; go_simp; with_reducible rfl
        simp only [Act.put, List.setIfInBounds_toArray, List.set_cons_zero, List.set_cons_succ]
        refine take_in (i := 1) (oi := ⟨_, _, _, _, _, _⟩) (v := ?_) rfl (by kernel_rfl) (by kernel_rfl) (by kernel_rfl) (fun _ _ _ h => h) (by rfl) ?_ HB5.out ?_
        rotate_left
        · intro W hW; have hq := HK.out W hW; go_simp; with_reducible rfl
        simp only [Act.put, List.setIfInBounds_toArray, List.set_cons_zero, List.set_cons_succ]
        refine take_in (i := 2) (oi := ⟨_, _, _, _, _, _⟩) (v := ?_) rfl (by kernel_rfl) (by kernel_rfl) (by kernel_rfl) (fun _ _ _ h => h) (by rfl) ?_ HB5.out ?_
        rotate_left
        · intro W hW; have hq := HK.out W hW; go_simp; with_reducible rfl
        simp only [Act.put, List.setIfInBounds_toArray, List.set_cons_zero, List.set_cons_succ]
        refine take_in (i := 3) (oi := ⟨_, _, _, _, _, _⟩) (v := ?_) rfl (by kernel_rfl) (by kernel_rfl) (by kernel_rfl) (fun _ _ _ h => h) (by rfl) ?_ HB5.out ?_
        rotate_left
        · intro W hW; have hq := HK.out W hW; go_simp; with_reducible rfl
        simp only [Act.put, List.setIfInBounds_toArray, List.set_cons_zero, List.set_cons_succ]
        refine take_in (i := 4) (oi := ⟨_, _, _, _, _, _⟩) (v := ?_) rfl (by kernel_rfl) (by kernel_rfl) (by kernel_rfl) (fun _ _ _ h => h) (by rfl) ?_ HB5.out ?_
        rotate_left
        · intro W hW; have hq := HK.out W hW; go_simp; with_reducible rfl
        simp only [Act.put, List.setIfInBounds_toArray, List.set_cons_zero, List.set_cons_succ]
        refine take_in (i := 5) (oi := ⟨_, _, _, _, _, _⟩) (v := ?_) rfl (by kernel_rfl) (by kernel_rfl) (by kernel_rfl) (fun _ _ _ h => h) (by rfl) ?_ HB5.out ?_
        rotate_left
        · intro W hW; have hq := HK.out W hW; go_simp; with_reducible rfl
        simp only [Act.put, List.setIfInBounds_toArray, List.set_cons_zero, List.set_cons_succ]
        refine take_in (i := 6) (oi := ⟨_, _, _, _, _, _⟩) (v := ?_) rfl (by kernel_rfl) (by kernel_rfl) (by kernel_rfl) (fun _ _ _ h => h) (by rfl) ?_ HB5.out ?_
        rotate_left
        · intro W hW; have hq := HK.out W hW; go_simp; with_reducible rfl
        simp only [Act.put, List.setIfInBounds_toArray, List.set_cons_zero, List.set_cons_succ]
        refine take_in (i := 7) (oi := ⟨_, _, _, _, _, _⟩) (v := ?_) rfl (by kernel_rfl) (by kernel_rfl) (by kernel_rfl) (fun _ _ _ h => h) (by rfl) ?_ HB5.out ?_
        rotate_left
        · intro W hW; have hq := HK.out W hW; go_simp; with_reducible rfl
        simp only [Act.put, List.setIfInBounds_toArray, List.set_cons_zero, List.set_cons_succ]
        refine wpAnyH_ready (rs := [8]) (by kernel_rfl) (by simp) ?_
        refine AllReadyH.cons (o := ⟨_, _, _, _, _, _⟩) rfl (fun K hK => ?_) AllReadyH.nil
        go_simp
        refine (alike_r x y HU.out HU2.out _).mono ?_
        rintro e w6 ⟨rfl, hb6⟩
        have HB6 := Lib.hid (HB5.out.trans (hb6.mono HB5.out.size)); clear hb6
        refine hK.out _ _ HB6.out (fun _ => ?_)
        clear hK K
        have HAL : Hid (∀ t, alike x y = t → t = false → r = false) := Lib.hid (fun t h1 h2 => HF.out k x y HX.out HY.out (h1.trans h2))
        have HAT : Hid (∀ t, alike x y = t → t = true → alike x y = true) := Lib.hid (fun t h1 h2 => h1.trans h2)
        generalize ht : alike x y = t at HAL
        have HTT := Lib.hid ht; clear ht
        refine take_in (i := 9) (oi := ⟨_, _, _, _, _, _⟩) (v := ?_) rfl (by kernel_rfl) (by kernel_rfl) (by kernel_rfl) (fun _ _ _ h => h) (by rfl) ?_ HB6.out ?_
        rotate_left
        · intro W hW; go_simp; with_reducible rfl
        simp only [Act.put, List.setIfInBounds_toArray, List.set_cons_zero, List.set_cons_succ]
        refine wpAnyH_done (by kernel_rfl) ?_ _
        cases t with
        | false =>
          have HRF := Lib.hid (HAL.out false rfl rfl)
          go_wp2
          go_ret
          exact ⟨ret_bool HRF.out.symm, HB6.out⟩
        | true =>
          go_wp2
          refine ⟨⟨k + 1, by go_num, by omega, ?_, HB6.out⟩, by simp [intOf]; omega⟩
          intro j u v hj hu hv
          rcases Nat.lt_or_ge j k with h' | h'
          · exact HA.out j u v h' hu hv
          · obtain rfl : j = k := by omega
            have e1 := HX.out
            have e2 := HY.out
            rw [hu] at e1
            rw [hv] at e2
            cases e1; cases e2
            exact HTT.out
      · obtain rfl : k = n := by omega
        have HRT := Lib.hid (HT.out HA.out)
        go_wp2
        go_ret
        exact ⟨ret_bool HRT.out.symm, HB.out⟩
  · have HS : Hid (same es fs = false) := Lib.hid (by
      rw [← Bool.not_eq_true, same_iff]
      rintro ⟨h1, _⟩
      exact hnn (by rw [hn, hn2, h1]))
    have hq : ((n : Int) != (n2 : Int)) = true := by rw [bne_iff_ne]; omega
    clear hn hn2 hnn
    go_enter Tryz.func27, Tryz.ntmps27
    go_wp2
    go_ret
    exact ⟨ret_bool HS.out.symm, Below.refl _ _⟩
end Go.Proofs.YtfblnomkafimhaaGreat.Bkw

namespace Go.Proofs.YtfblnomkafimhaaGreat.Bkw
set_option maxRecDepth 20000
open Go.RowKit
open Tg Bk
open Tgw (bal hat hbe ret_bool tv)

end Go.Proofs.YtfblnomkafimhaaGreat.Bkw

namespace Go.Proofs.YtfblnomkafimhaaGreat.Bkw
set_option maxRecDepth 20000
open Go.RowKit
open Tg Bk
open Tgw (bal hat hbe ret_bool tv)

def chkN (es : List E) : Int := if isBook es then 0 else 71
/-- the key ahead of place k -/
def prev (es : List E) : Nat → Int
  | 0 => -1
  | k + 1 => match es[k]? with | some x => x.key | none => -1
theorem prev_succ (es : List E) (k : Nat) (x : E) (h : es[k]? = some x) : prev es (k + 1) = x.key := by show (match es[k]? with | some x => x.key | none => -1) = _; rw [h]
theorem chk_drop (es : List E) (k : Nat) (x : E) (h : es[k]? = some x) : chk (prev es k) (es.drop k) = ((okE x && decide (prev es k < x.key)) && chk (prev es (k + 1)) (es.drop (k + 1))) := by
  have hk : k < es.length := by
    rcases Nat.lt_or_ge k es.length with h' | h'
    · exact h'
    · rw [List.getElem?_eq_none h'] at h; cases h
  have hx : es[k] = x := by rw [List.getElem?_eq_getElem hk] at h; exact Option.some.inj h
  rw [List.drop_eq_getElem_cons hk, hx, prev_succ es k x h]
  rfl
set_option maxHeartbeats 1000000 in
theorem check_r (A : Option Addr) (n c : Nat) (es : List E) (hn : n = es.length) (hl : n ≤ 140737488355328) (B : Nat) (w : World) (hr : Re w B A es) (hB : B ≤ w.heap.size) :
    Calls Tryz.prog 68 #[.slice A n c] w fun e w' => e = .returned (.int .i64 (chkN es)) ∧ Below w.heap.size w w' := by
  have hsf := store_flt
  have hft := field_tag
  have HN := Lib.hid hn; have HR := Lib.hid hr
  have HZ : Hid (isBook es = true → chkN es = 0) := Lib.hid (fun h => by unfold chkN; rw [if_pos h])
  have HX : Hid (isBook es = false → chkN es = 71) := Lib.hid (fun h => by unfold chkN; rw [h]; rfl)
  generalize chkN es = r at HZ HX ⊢
  clear hn hr
  go_enter Tryz.func68, Tryz.ntmps68
  go_wp2
  go_loopw [7] (fun i wr => ∃ k : Nat, i = .int .i64 k ∧ k ≤ n ∧ isBook es = chk (prev es k) (es.drop k) ∧ Below w.heap.size w wr) (fun i _ => n - (intOf i).toNat)
  case atStart => exact ⟨0, rfl, by omega, rfl, Below.refl _ _⟩
  case round =>
    obtain ⟨k, rfl, hk, hall, hb⟩ := hrel
    have HB := Lib.hid hb; have HA := Lib.hid hall
    have hsz := hb.size
    clear hb hall
    by_cases h : k < n
    · obtain ⟨b, o, rfl, hbB, hcell⟩ := HR.out (by rw [← HN.out]; omega)
      have hkl : k < es.length := by rw [← HN.out]; exact h
      have hz : es[k]? = some es[k] := List.getElem?_eq_getElem hkl
      have hc0 := (hcell k es[k] hz).below (HB.out.mono hB) hbB
      have HD := Lib.hid (chk_drop es k es[k] hz)
      generalize es[k] = x at hz hc0 HD
      obtain ⟨xk, xn, xd, xv⟩ := x
      obtain ⟨x0, x1, x2, x3⟩ := hc0
      have HXX := Lib.hid hz
      clear hz hkl
      have HBAD : Hid (okE ⟨xk, xn, xd, xv⟩ = false ∨ ¬ prev es k < xk → r = 71) := Lib.hid (fun hc => HX.out (by
        rw [HA.out, HD.out]
        rcases hc with hc | hc
        · rw [hc]; rfl
        · rw [decide_eq_false hc, Bool.and_false]; rfl))
      by_cases h1 : xk < 0
      · have HR71 := Lib.hid (HBAD.out (Or.inl (by unfold okE; rw [decide_eq_false (by simp only; omega)]; rfl)))
        go_wp2_with fail
        have VX := Lib.hid (show Ex (wr.alloc (.cells #[.int .i64 xk, .int .i64 xn, .int .i64 xd, .float .f64 xv] 58)) wr.heap.size ⟨xk, xn, xd, xv⟩ from hat _ _ _ rfl)
        have HBW := Lib.hid (bal HB.out (Nat.le_refl _) (.cells #[.int .i64 xk, .int .i64 xn, .int .i64 xd, .float .f64 xv] 58))
        generalize wr.alloc (.cells #[.int .i64 xk, .int .i64 xn, .int .i64 xd, .float .f64 xv] 58) = w1 at VX HBW ⊢
        generalize wr.heap.size = gx at VX ⊢
        have HK : Hid (∀ W', Below w1.heap.size w1 W' → W'.cell? ⟨gx, 0, none⟩ = some (.int .i64 xk) ∧ W'.cell? ⟨gx, 1, none⟩ = some (.int .i64 xn) ∧ W'.cell? ⟨gx, 2, none⟩ = some (.int .i64 xd) ∧ W'.cell? ⟨gx, 3, none⟩ = some (.float .f64 xv)) := Lib.hid (fun W' h => ⟨(VX.out.all h).c0, (VX.out.all h).c1, (VX.out.all h).c2, (VX.out.all h).c3⟩)
        clear x0 x1 x2 x3
        refine wp_region_held_drew (S := fun W' => Below w1.heap.size w1 W') (by kernel_rfl) (Below.refl _ _).drew (fun hHeld => ?_)
        generalize w1.drew = w5 at hHeld ⊢
        have HB5 : Hid (Below w1.heap.size w1 w5) := hHeld
        clear hHeld
        refine take_in (i := 0) (oi := ⟨_, _, _, _, _, _⟩) (v := ?_) rfl (by kernel_rfl) (by kernel_rfl) (by kernel_rfl) (fun _ _ _ h => h) (by rfl) ?_ HB5.out ?_
        rotate_left
        · intro W hW; have hq := HK.out W hW; go_simp; with_reducible rfl
        simp only [Act.put, List.setIfInBounds_toArray, List.set_cons_zero, List.set_cons_succ]
        refine take_in (i := 1) (oi := ⟨_, _, _, _, _, _⟩) (v := ?_) rfl (by kernel_rfl) (by kernel_rfl) (by kernel_rfl) (fun _ _ _ h => h) (by rfl) ?_ HB5.out ?_
        rotate_left
        · intro W hW; have hq := HK.out W hW; go_simp; with_reducible rfl
        simp only [Act.put, List.setIfInBounds_toArray, List.set_cons_zero, List.set_cons_succ]
        refine take_in (i := 2) (oi := ⟨_, _, _, _, _, _⟩) (v := ?_) rfl (by kernel_rfl) (by kernel_rfl) (by kernel_rfl) (fun _ _ _ h => h) (by rfl) ?_ HB5.out ?_
        rotate_left
        · intro W hW; have hq := HK.out W hW; go_simp; with_reducible rfl
        simp only [Act.put, List.setIfInBounds_toArray, List.set_cons_zero, List.set_cons_succ]
        refine take_in (i := 3) (oi := ⟨_, _, _, _, _, _⟩) (v := ?_) rfl (by kernel_rfl) (by kernel_rfl) (by kernel_rfl) (fun _ _ _ h => h) (by rfl) ?_ HB5.out ?_
        rotate_left
        · intro W hW; have hq := HK.out W hW; go_simp; with_reducible rfl
        simp only [Act.put, List.setIfInBounds_toArray, List.set_cons_zero, List.set_cons_succ]
        refine skip_in (i := 4) (oi := ⟨_, _, _, _, _, _⟩) rfl (by kernel_rfl) (by kernel_rfl) (by kernel_rfl) (fun _ _ _ h => h) (by rfl) HB5.out ?_
        simp only [Act.put, List.setIfInBounds_toArray, List.set_cons_zero, List.set_cons_succ]
        refine skip_in (i := 5) (oi := ⟨_, _, _, _, _, _⟩) rfl (by kernel_rfl) (by kernel_rfl) (by kernel_rfl) (fun _ _ _ h => h) (by rfl) HB5.out ?_
        simp only [Act.put, List.setIfInBounds_toArray, List.set_cons_zero, List.set_cons_succ]
        refine skip_in (i := 6) (oi := ⟨_, _, _, _, _, _⟩) rfl (by kernel_rfl) (by kernel_rfl) (by kernel_rfl) (fun _ _ _ h => h) (by rfl) HB5.out ?_
        simp only [Act.put, List.setIfInBounds_toArray, List.set_cons_zero, List.set_cons_succ]
        refine take_in (i := 7) (oi := ⟨_, _, _, _, _, _⟩) (v := ?_) rfl (by kernel_rfl) (by kernel_rfl) (by kernel_rfl) (fun _ _ _ h => h) (by rfl) ?_ HB5.out ?_
        rotate_left
        · intro W hW; have hq := HK.out W hW; go_simp; with_reducible rfl
        simp only [Act.put, List.setIfInBounds_toArray, List.set_cons_zero, List.set_cons_succ]
        refine take_in (i := 8) (oi := ⟨_, _, _, _, _, _⟩) (v := ?_) rfl (by kernel_rfl) (by kernel_rfl) (by kernel_rfl) (fun _ _ _ h => h) (by rfl) ?_ HB5.out ?_
        rotate_left
        · intro W hW; have hq := HK.out W hW; go_simp; with_reducible rfl
        simp only [Act.put, List.setIfInBounds_toArray, List.set_cons_zero, List.set_cons_succ]
        refine skip_in (i := 9) (oi := ⟨_, _, _, _, _, _⟩) rfl (by kernel_rfl) (by kernel_rfl) (by kernel_rfl) (fun _ _ _ h => h) (by rfl) HB5.out ?_
        simp only [Act.put, List.setIfInBounds_toArray, List.set_cons_zero, List.set_cons_succ]
        refine skip_in (i := 10) (oi := ⟨_, _, _, _, _, _⟩) rfl (by kernel_rfl) (by kernel_rfl) (by kernel_rfl) (fun _ _ _ h => h) (by rfl) HB5.out ?_
        simp only [Act.put, List.setIfInBounds_toArray, List.set_cons_zero, List.set_cons_succ]
        refine skip_in (i := 11) (oi := ⟨_, _, _, _, _, _⟩) rfl (by kernel_rfl) (by kernel_rfl) (by kernel_rfl) (fun _ _ _ h => h) (by rfl) HB5.out ?_
        simp only [Act.put, List.setIfInBounds_toArray, List.set_cons_zero, List.set_cons_succ]
        refine skip_in (i := 12) (oi := ⟨_, _, _, _, _, _⟩) rfl (by kernel_rfl) (by kernel_rfl) (by kernel_rfl) (fun _ _ _ h => h) (by rfl) HB5.out ?_
        simp only [Act.put, List.setIfInBounds_toArray, List.set_cons_zero, List.set_cons_succ]
        refine take_in (i := 13) (oi := ⟨_, _, _, _, _, _⟩) (v := ?_) rfl (by kernel_rfl) (by kernel_rfl) (by kernel_rfl) (fun _ _ _ h => h) (by rfl) ?_ HB5.out ?_
        rotate_left
        · intro W hW; have hq := HK.out W hW; go_simp; with_reducible rfl
        simp only [Act.put, List.setIfInBounds_toArray, List.set_cons_zero, List.set_cons_succ]
        refine take_in (i := 14) (oi := ⟨_, _, _, _, _, _⟩) (v := ?_) rfl (by kernel_rfl) (by kernel_rfl) (by kernel_rfl) (fun _ _ _ h => h) (by rfl) ?_ HB5.out ?_
        rotate_left
        · intro W hW; have hq := HK.out W hW; go_simp; with_reducible rfl
        simp only [Act.put, List.setIfInBounds_toArray, List.set_cons_zero, List.set_cons_succ]
        refine skip_in (i := 15) (oi := ⟨_, _, _, _, _, _⟩) rfl (by kernel_rfl) (by kernel_rfl) (by kernel_rfl) (fun _ _ _ h => h) (by rfl) HB5.out ?_
        simp only [Act.put, List.setIfInBounds_toArray, List.set_cons_zero, List.set_cons_succ]
        refine skip_in (i := 16) (oi := ⟨_, _, _, _, _, _⟩) rfl (by kernel_rfl) (by kernel_rfl) (by kernel_rfl) (fun _ _ _ h => h) (by rfl) HB5.out ?_
        simp only [Act.put, List.setIfInBounds_toArray, List.set_cons_zero, List.set_cons_succ]
        refine skip_in (i := 17) (oi := ⟨_, _, _, _, _, _⟩) rfl (by kernel_rfl) (by kernel_rfl) (by kernel_rfl) (fun _ _ _ h => h) (by rfl) HB5.out ?_
        simp only [Act.put, List.setIfInBounds_toArray, List.set_cons_zero, List.set_cons_succ]
        refine skip_in (i := 18) (oi := ⟨_, _, _, _, _, _⟩) rfl (by kernel_rfl) (by kernel_rfl) (by kernel_rfl) (fun _ _ _ h => h) (by rfl) HB5.out ?_
        simp only [Act.put, List.setIfInBounds_toArray, List.set_cons_zero, List.set_cons_succ]
        refine take_in (i := 19) (oi := ⟨_, _, _, _, _, _⟩) (v := ?_) rfl (by kernel_rfl) (by kernel_rfl) (by kernel_rfl) (fun _ _ _ h => h) (by rfl) ?_ HB5.out ?_
        rotate_left
        · intro W hW; have hq := HK.out W hW; go_simp; with_reducible rfl
        simp only [Act.put, List.setIfInBounds_toArray, List.set_cons_zero, List.set_cons_succ]
        refine take_in (i := 20) (oi := ⟨_, _, _, _, _, _⟩) (v := ?_) rfl (by kernel_rfl) (by kernel_rfl) (by kernel_rfl) (fun _ _ _ h => h) (by rfl) ?_ HB5.out ?_
        rotate_left
        · intro W hW; have hq := HK.out W hW; go_simp; with_reducible rfl
        simp only [Act.put, List.setIfInBounds_toArray, List.set_cons_zero, List.set_cons_succ]
        refine skip_in (i := 21) (oi := ⟨_, _, _, _, _, _⟩) rfl (by kernel_rfl) (by kernel_rfl) (by kernel_rfl) (fun _ _ _ h => h) (by rfl) HB5.out ?_
        simp only [Act.put, List.setIfInBounds_toArray, List.set_cons_zero, List.set_cons_succ]
        refine skip_in (i := 22) (oi := ⟨_, _, _, _, _, _⟩) rfl (by kernel_rfl) (by kernel_rfl) (by kernel_rfl) (fun _ _ _ h => h) (by rfl) HB5.out ?_
        simp only [Act.put, List.setIfInBounds_toArray, List.set_cons_zero, List.set_cons_succ]
        refine skip_in (i := 23) (oi := ⟨_, _, _, _, _, _⟩) rfl (by kernel_rfl) (by kernel_rfl) (by kernel_rfl) (fun _ _ _ h => h) (by rfl) HB5.out ?_
        simp only [Act.put, List.setIfInBounds_toArray, List.set_cons_zero, List.set_cons_succ]
        refine skip_in (i := 24) (oi := ⟨_, _, _, _, _, _⟩) rfl (by kernel_rfl) (by kernel_rfl) (by kernel_rfl) (fun _ _ _ h => h) (by rfl) HB5.out ?_
        simp only [Act.put, List.setIfInBounds_toArray, List.set_cons_zero, List.set_cons_succ]
        refine skip_in (i := 25) (oi := ⟨_, _, _, _, _, _⟩) rfl (by kernel_rfl) (by kernel_rfl) (by kernel_rfl) (fun _ _ _ h => h) (by rfl) HB5.out ?_
        simp only [Act.put, List.setIfInBounds_toArray, List.set_cons_zero, List.set_cons_succ]
        refine skip_in (i := 26) (oi := ⟨_, _, _, _, _, _⟩) rfl (by kernel_rfl) (by kernel_rfl) (by kernel_rfl) (fun _ _ _ h => h) (by rfl) HB5.out ?_
        simp only [Act.put, List.setIfInBounds_toArray, List.set_cons_zero, List.set_cons_succ]
        refine skip_in (i := 27) (oi := ⟨_, _, _, _, _, _⟩) rfl (by kernel_rfl) (by kernel_rfl) (by kernel_rfl) (fun _ _ _ h => h) (by rfl) HB5.out ?_
        simp only [Act.put, List.setIfInBounds_toArray, List.set_cons_zero, List.set_cons_succ]
        refine skip_in (i := 28) (oi := ⟨_, _, _, _, _, _⟩) rfl (by kernel_rfl) (by kernel_rfl) (by kernel_rfl) (fun _ _ _ h => h) (by rfl) HB5.out ?_
        simp only [Act.put, List.setIfInBounds_toArray, List.set_cons_zero, List.set_cons_succ]
        refine skip_in (i := 29) (oi := ⟨_, _, _, _, _, _⟩) rfl (by kernel_rfl) (by kernel_rfl) (by kernel_rfl) (fun _ _ _ h => h) (by rfl) HB5.out ?_
        simp only [Act.put, List.setIfInBounds_toArray, List.set_cons_zero, List.set_cons_succ]
        refine skip_in (i := 30) (oi := ⟨_, _, _, _, _, _⟩) rfl (by kernel_rfl) (by kernel_rfl) (by kernel_rfl) (fun _ _ _ h => h) (by rfl) HB5.out ?_
        simp only [Act.put, List.setIfInBounds_toArray, List.set_cons_zero, List.set_cons_succ]
        refine skip_in (i := 31) (oi := ⟨_, _, _, _, _, _⟩) rfl (by kernel_rfl) (by kernel_rfl) (by kernel_rfl) (fun _ _ _ h => h) (by rfl) HB5.out ?_
        simp only [Act.put, List.setIfInBounds_toArray, List.set_cons_zero, List.set_cons_succ]
        refine skip_in (i := 32) (oi := ⟨_, _, _, _, _, _⟩) rfl (by kernel_rfl) (by kernel_rfl) (by kernel_rfl) (fun _ _ _ h => h) (by rfl) HB5.out ?_
        simp only [Act.put, List.setIfInBounds_toArray, List.set_cons_zero, List.set_cons_succ]
        refine skip_in (i := 33) (oi := ⟨_, _, _, _, _, _⟩) rfl (by kernel_rfl) (by kernel_rfl) (by kernel_rfl) (fun _ _ _ h => h) (by rfl) HB5.out ?_
        simp only [Act.put, List.setIfInBounds_toArray, List.set_cons_zero, List.set_cons_succ]
        refine take_in (i := 34) (oi := ⟨_, _, _, _, _, _⟩) (v := ?_) rfl (by kernel_rfl) (by kernel_rfl) (by kernel_rfl) (fun _ _ _ h => h) (by rfl) ?_ HB5.out ?_
        rotate_left
        · intro W hW; have hq := HK.out W hW; go_simp; with_reducible rfl
        simp only [Act.put, List.setIfInBounds_toArray, List.set_cons_zero, List.set_cons_succ]
        refine wpAnyH_done (by kernel_rfl) ?_ _
        go_wp2
        go_ret
        exact ⟨by rw [HR71.out]; rfl, HBW.out.trans (HB5.out.mono HBW.out.size)⟩
      have HH1 := Lib.hid h1; clear h1
      by_cases h2 : 3 < xk
      · have HR71 := Lib.hid (HBAD.out (Or.inl (by unfold okE; rw [decide_eq_false (by simp only; omega)]; rfl)))
        go_wp2_with fail
        have VX := Lib.hid (show Ex (wr.alloc (.cells #[.int .i64 xk, .int .i64 xn, .int .i64 xd, .float .f64 xv] 58)) wr.heap.size ⟨xk, xn, xd, xv⟩ from hat _ _ _ rfl)
        have HBW := Lib.hid (bal HB.out (Nat.le_refl _) (.cells #[.int .i64 xk, .int .i64 xn, .int .i64 xd, .float .f64 xv] 58))
        generalize wr.alloc (.cells #[.int .i64 xk, .int .i64 xn, .int .i64 xd, .float .f64 xv] 58) = w1 at VX HBW ⊢
        generalize wr.heap.size = gx at VX ⊢
        have HK : Hid (∀ W', Below w1.heap.size w1 W' → W'.cell? ⟨gx, 0, none⟩ = some (.int .i64 xk) ∧ W'.cell? ⟨gx, 1, none⟩ = some (.int .i64 xn) ∧ W'.cell? ⟨gx, 2, none⟩ = some (.int .i64 xd) ∧ W'.cell? ⟨gx, 3, none⟩ = some (.float .f64 xv)) := Lib.hid (fun W' h => ⟨(VX.out.all h).c0, (VX.out.all h).c1, (VX.out.all h).c2, (VX.out.all h).c3⟩)
        clear x0 x1 x2 x3
        refine wp_region_held_drew (S := fun W' => Below w1.heap.size w1 W') (by kernel_rfl) (Below.refl _ _).drew (fun hHeld => ?_)
        generalize w1.drew = w5 at hHeld ⊢
        have HB5 : Hid (Below w1.heap.size w1 w5) := hHeld
        clear hHeld
        refine take_in (i := 0) (oi := ⟨_, _, _, _, _, _⟩) (v := ?_) rfl (by kernel_rfl) (by kernel_rfl) (by kernel_rfl) (fun _ _ _ h => h) (by rfl) ?_ HB5.out ?_
        rotate_left
        · intro W hW; have hq := HK.out W hW; go_simp; with_reducible rfl
        simp only [Act.put, List.setIfInBounds_toArray, List.set_cons_zero, List.set_cons_succ]
        refine take_in (i := 1) (oi := ⟨_, _, _, _, _, _⟩) (v := ?_) rfl (by kernel_rfl) (by kernel_rfl) (by kernel_rfl) (fun _ _ _ h => h) (by rfl) ?_ HB5.out ?_
        rotate_left
        · intro W hW; have hq := HK.out W hW; go_simp; with_reducible rfl
        simp only [Act.put, List.setIfInBounds_toArray, List.set_cons_zero, List.set_cons_succ]
        refine take_in (i := 2) (oi := ⟨_, _, _, _, _, _⟩) (v := ?_) rfl (by kernel_rfl) (by kernel_rfl) (by kernel_rfl) (fun _ _ _ h => h) (by rfl) ?_ HB5.out ?_
        rotate_left
        · intro W hW; have hq := HK.out W hW; go_simp; with_reducible rfl
        simp only [Act.put, List.setIfInBounds_toArray, List.set_cons_zero, List.set_cons_succ]
        rw [decide_eq_false (show ¬ xk < 0 from by have := HH1.out; omega)]
        refine take_in (i := 3) (oi := ⟨_, _, _, _, _, _⟩) (v := ?_) rfl (by kernel_rfl) (by kernel_rfl) (by kernel_rfl) (fun _ _ _ h => h) (by rfl) ?_ HB5.out ?_
        rotate_left
        · intro W hW; have hq := HK.out W hW; go_simp; with_reducible rfl
        simp only [Act.put, List.setIfInBounds_toArray, List.set_cons_zero, List.set_cons_succ]
        refine take_in (i := 4) (oi := ⟨_, _, _, _, _, _⟩) (v := ?_) rfl (by kernel_rfl) (by kernel_rfl) (by kernel_rfl) (fun _ _ _ h => h) (by rfl) ?_ HB5.out ?_
        rotate_left
        · intro W hW; have hq := HK.out W hW; go_simp; with_reducible rfl
        simp only [Act.put, List.setIfInBounds_toArray, List.set_cons_zero, List.set_cons_succ]
        refine take_in (i := 5) (oi := ⟨_, _, _, _, _, _⟩) (v := ?_) rfl (by kernel_rfl) (by kernel_rfl) (by kernel_rfl) (fun _ _ _ h => h) (by rfl) ?_ HB5.out ?_
        rotate_left
        · intro W hW; have hq := HK.out W hW; go_simp; with_reducible rfl
        simp only [Act.put, List.setIfInBounds_toArray, List.set_cons_zero, List.set_cons_succ]
        refine take_in (i := 6) (oi := ⟨_, _, _, _, _, _⟩) (v := ?_) rfl (by kernel_rfl) (by kernel_rfl) (by kernel_rfl) (fun _ _ _ h => h) (by rfl) ?_ HB5.out ?_
        rotate_left
        · intro W hW; have hq := HK.out W hW; go_simp; with_reducible rfl
        simp only [Act.put, List.setIfInBounds_toArray, List.set_cons_zero, List.set_cons_succ]
        refine take_in (i := 7) (oi := ⟨_, _, _, _, _, _⟩) (v := ?_) rfl (by kernel_rfl) (by kernel_rfl) (by kernel_rfl) (fun _ _ _ h => h) (by rfl) ?_ HB5.out ?_
        rotate_left
        · intro W hW; have hq := HK.out W hW; go_simp; with_reducible rfl
        simp only [Act.put, List.setIfInBounds_toArray, List.set_cons_zero, List.set_cons_succ]
        refine take_in (i := 8) (oi := ⟨_, _, _, _, _, _⟩) (v := ?_) rfl (by kernel_rfl) (by kernel_rfl) (by kernel_rfl) (fun _ _ _ h => h) (by rfl) ?_ HB5.out ?_
        rotate_left
        · intro W hW; have hq := HK.out W hW; go_simp; with_reducible rfl
        simp only [Act.put, List.setIfInBounds_toArray, List.set_cons_zero, List.set_cons_succ]
        refine skip_in (i := 9) (oi := ⟨_, _, _, _, _, _⟩) rfl (by kernel_rfl) (by kernel_rfl) (by kernel_rfl) (fun _ _ _ h => h) (by rfl) HB5.out ?_
        simp only [Act.put, List.setIfInBounds_toArray, List.set_cons_zero, List.set_cons_succ]
        refine skip_in (i := 10) (oi := ⟨_, _, _, _, _, _⟩) rfl (by kernel_rfl) (by kernel_rfl) (by kernel_rfl) (fun _ _ _ h => h) (by rfl) HB5.out ?_
        simp only [Act.put, List.setIfInBounds_toArray, List.set_cons_zero, List.set_cons_succ]
        refine skip_in (i := 11) (oi := ⟨_, _, _, _, _, _⟩) rfl (by kernel_rfl) (by kernel_rfl) (by kernel_rfl) (fun _ _ _ h => h) (by rfl) HB5.out ?_
        simp only [Act.put, List.setIfInBounds_toArray, List.set_cons_zero, List.set_cons_succ]
        refine skip_in (i := 12) (oi := ⟨_, _, _, _, _, _⟩) rfl (by kernel_rfl) (by kernel_rfl) (by kernel_rfl) (fun _ _ _ h => h) (by rfl) HB5.out ?_
        simp only [Act.put, List.setIfInBounds_toArray, List.set_cons_zero, List.set_cons_succ]
        refine take_in (i := 13) (oi := ⟨_, _, _, _, _, _⟩) (v := ?_) rfl (by kernel_rfl) (by kernel_rfl) (by kernel_rfl) (fun _ _ _ h => h) (by rfl) ?_ HB5.out ?_
        rotate_left
        · intro W hW; have hq := HK.out W hW; go_simp; with_reducible rfl
        simp only [Act.put, List.setIfInBounds_toArray, List.set_cons_zero, List.set_cons_succ]
        refine take_in (i := 14) (oi := ⟨_, _, _, _, _, _⟩) (v := ?_) rfl (by kernel_rfl) (by kernel_rfl) (by kernel_rfl) (fun _ _ _ h => h) (by rfl) ?_ HB5.out ?_
        rotate_left
        · intro W hW; have hq := HK.out W hW; go_simp; with_reducible rfl
        simp only [Act.put, List.setIfInBounds_toArray, List.set_cons_zero, List.set_cons_succ]
        refine skip_in (i := 15) (oi := ⟨_, _, _, _, _, _⟩) rfl (by kernel_rfl) (by kernel_rfl) (by kernel_rfl) (fun _ _ _ h => h) (by rfl) HB5.out ?_
        simp only [Act.put, List.setIfInBounds_toArray, List.set_cons_zero, List.set_cons_succ]
        refine skip_in (i := 16) (oi := ⟨_, _, _, _, _, _⟩) rfl (by kernel_rfl) (by kernel_rfl) (by kernel_rfl) (fun _ _ _ h => h) (by rfl) HB5.out ?_
        simp only [Act.put, List.setIfInBounds_toArray, List.set_cons_zero, List.set_cons_succ]
        refine skip_in (i := 17) (oi := ⟨_, _, _, _, _, _⟩) rfl (by kernel_rfl) (by kernel_rfl) (by kernel_rfl) (fun _ _ _ h => h) (by rfl) HB5.out ?_
        simp only [Act.put, List.setIfInBounds_toArray, List.set_cons_zero, List.set_cons_succ]
        refine skip_in (i := 18) (oi := ⟨_, _, _, _, _, _⟩) rfl (by kernel_rfl) (by kernel_rfl) (by kernel_rfl) (fun _ _ _ h => h) (by rfl) HB5.out ?_
        simp only [Act.put, List.setIfInBounds_toArray, List.set_cons_zero, List.set_cons_succ]
        refine take_in (i := 19) (oi := ⟨_, _, _, _, _, _⟩) (v := ?_) rfl (by kernel_rfl) (by kernel_rfl) (by kernel_rfl) (fun _ _ _ h => h) (by rfl) ?_ HB5.out ?_
        rotate_left
        · intro W hW; have hq := HK.out W hW; go_simp; with_reducible rfl
        simp only [Act.put, List.setIfInBounds_toArray, List.set_cons_zero, List.set_cons_succ]
        refine take_in (i := 20) (oi := ⟨_, _, _, _, _, _⟩) (v := ?_) rfl (by kernel_rfl) (by kernel_rfl) (by kernel_rfl) (fun _ _ _ h => h) (by rfl) ?_ HB5.out ?_
        rotate_left
        · intro W hW; have hq := HK.out W hW; go_simp; with_reducible rfl
        simp only [Act.put, List.setIfInBounds_toArray, List.set_cons_zero, List.set_cons_succ]
        refine skip_in (i := 21) (oi := ⟨_, _, _, _, _, _⟩) rfl (by kernel_rfl) (by kernel_rfl) (by kernel_rfl) (fun _ _ _ h => h) (by rfl) HB5.out ?_
        simp only [Act.put, List.setIfInBounds_toArray, List.set_cons_zero, List.set_cons_succ]
        refine skip_in (i := 22) (oi := ⟨_, _, _, _, _, _⟩) rfl (by kernel_rfl) (by kernel_rfl) (by kernel_rfl) (fun _ _ _ h => h) (by rfl) HB5.out ?_
        simp only [Act.put, List.setIfInBounds_toArray, List.set_cons_zero, List.set_cons_succ]
        refine skip_in (i := 23) (oi := ⟨_, _, _, _, _, _⟩) rfl (by kernel_rfl) (by kernel_rfl) (by kernel_rfl) (fun _ _ _ h => h) (by rfl) HB5.out ?_
        simp only [Act.put, List.setIfInBounds_toArray, List.set_cons_zero, List.set_cons_succ]
        refine skip_in (i := 24) (oi := ⟨_, _, _, _, _, _⟩) rfl (by kernel_rfl) (by kernel_rfl) (by kernel_rfl) (fun _ _ _ h => h) (by rfl) HB5.out ?_
        simp only [Act.put, List.setIfInBounds_toArray, List.set_cons_zero, List.set_cons_succ]
        refine skip_in (i := 25) (oi := ⟨_, _, _, _, _, _⟩) rfl (by kernel_rfl) (by kernel_rfl) (by kernel_rfl) (fun _ _ _ h => h) (by rfl) HB5.out ?_
        simp only [Act.put, List.setIfInBounds_toArray, List.set_cons_zero, List.set_cons_succ]
        refine skip_in (i := 26) (oi := ⟨_, _, _, _, _, _⟩) rfl (by kernel_rfl) (by kernel_rfl) (by kernel_rfl) (fun _ _ _ h => h) (by rfl) HB5.out ?_
        simp only [Act.put, List.setIfInBounds_toArray, List.set_cons_zero, List.set_cons_succ]
        refine skip_in (i := 27) (oi := ⟨_, _, _, _, _, _⟩) rfl (by kernel_rfl) (by kernel_rfl) (by kernel_rfl) (fun _ _ _ h => h) (by rfl) HB5.out ?_
        simp only [Act.put, List.setIfInBounds_toArray, List.set_cons_zero, List.set_cons_succ]
        refine skip_in (i := 28) (oi := ⟨_, _, _, _, _, _⟩) rfl (by kernel_rfl) (by kernel_rfl) (by kernel_rfl) (fun _ _ _ h => h) (by rfl) HB5.out ?_
        simp only [Act.put, List.setIfInBounds_toArray, List.set_cons_zero, List.set_cons_succ]
        refine skip_in (i := 29) (oi := ⟨_, _, _, _, _, _⟩) rfl (by kernel_rfl) (by kernel_rfl) (by kernel_rfl) (fun _ _ _ h => h) (by rfl) HB5.out ?_
        simp only [Act.put, List.setIfInBounds_toArray, List.set_cons_zero, List.set_cons_succ]
        refine skip_in (i := 30) (oi := ⟨_, _, _, _, _, _⟩) rfl (by kernel_rfl) (by kernel_rfl) (by kernel_rfl) (fun _ _ _ h => h) (by rfl) HB5.out ?_
        simp only [Act.put, List.setIfInBounds_toArray, List.set_cons_zero, List.set_cons_succ]
        refine skip_in (i := 31) (oi := ⟨_, _, _, _, _, _⟩) rfl (by kernel_rfl) (by kernel_rfl) (by kernel_rfl) (fun _ _ _ h => h) (by rfl) HB5.out ?_
        simp only [Act.put, List.setIfInBounds_toArray, List.set_cons_zero, List.set_cons_succ]
        refine skip_in (i := 32) (oi := ⟨_, _, _, _, _, _⟩) rfl (by kernel_rfl) (by kernel_rfl) (by kernel_rfl) (fun _ _ _ h => h) (by rfl) HB5.out ?_
        simp only [Act.put, List.setIfInBounds_toArray, List.set_cons_zero, List.set_cons_succ]
        refine skip_in (i := 33) (oi := ⟨_, _, _, _, _, _⟩) rfl (by kernel_rfl) (by kernel_rfl) (by kernel_rfl) (fun _ _ _ h => h) (by rfl) HB5.out ?_
        simp only [Act.put, List.setIfInBounds_toArray, List.set_cons_zero, List.set_cons_succ]
        refine take_in (i := 34) (oi := ⟨_, _, _, _, _, _⟩) (v := ?_) rfl (by kernel_rfl) (by kernel_rfl) (by kernel_rfl) (fun _ _ _ h => h) (by rfl) ?_ HB5.out ?_
        rotate_left
        · intro W hW; have hq := HK.out W hW; go_simp; with_reducible rfl
        simp only [Act.put, List.setIfInBounds_toArray, List.set_cons_zero, List.set_cons_succ]
        refine wpAnyH_done (by kernel_rfl) ?_ _
        go_wp2
        go_ret
        exact ⟨by rw [HR71.out]; rfl, HBW.out.trans (HB5.out.mono HBW.out.size)⟩
      have HH2 := Lib.hid h2; clear h2
      cases hri : right xn xd with
      | false =>
        have HRI := Lib.hid hri
        have HR71 := Lib.hid (HBAD.out (Or.inl (by unfold okE; simp only [hri]; rw [Bool.false_and, Bool.and_false])))
        clear hri
        go_wp2_with fail
        have VX := Lib.hid (show Ex (wr.alloc (.cells #[.int .i64 xk, .int .i64 xn, .int .i64 xd, .float .f64 xv] 58)) wr.heap.size ⟨xk, xn, xd, xv⟩ from hat _ _ _ rfl)
        have HBW := Lib.hid (bal HB.out (Nat.le_refl _) (.cells #[.int .i64 xk, .int .i64 xn, .int .i64 xd, .float .f64 xv] 58))
        generalize wr.alloc (.cells #[.int .i64 xk, .int .i64 xn, .int .i64 xd, .float .f64 xv] 58) = w1 at VX HBW ⊢
        generalize wr.heap.size = gx at VX ⊢
        have HK : Hid (∀ W', Below w1.heap.size w1 W' → W'.cell? ⟨gx, 0, none⟩ = some (.int .i64 xk) ∧ W'.cell? ⟨gx, 1, none⟩ = some (.int .i64 xn) ∧ W'.cell? ⟨gx, 2, none⟩ = some (.int .i64 xd) ∧ W'.cell? ⟨gx, 3, none⟩ = some (.float .f64 xv)) := Lib.hid (fun W' h => ⟨(VX.out.all h).c0, (VX.out.all h).c1, (VX.out.all h).c2, (VX.out.all h).c3⟩)
        clear x0 x1 x2 x3
        refine wp_region_held_drew (S := fun W' => Below w1.heap.size w1 W') (by kernel_rfl) (Below.refl _ _).drew (fun hHeld => ?_)
        generalize w1.drew = w5 at hHeld ⊢
        have HB5 : Hid (Below w1.heap.size w1 w5) := hHeld
        clear hHeld
        refine take_in (i := 0) (oi := ⟨_, _, _, _, _, _⟩) (v := ?_) rfl (by kernel_rfl) (by kernel_rfl) (by kernel_rfl) (fun _ _ _ h => h) (by rfl) ?_ HB5.out ?_
        rotate_left
        · intro W hW; have hq := HK.out W hW; go_simp; with_reducible rfl
        simp only [Act.put, List.setIfInBounds_toArray, List.set_cons_zero, List.set_cons_succ]
        refine take_in (i := 1) (oi := ⟨_, _, _, _, _, _⟩) (v := ?_) rfl (by kernel_rfl) (by kernel_rfl) (by kernel_rfl) (fun _ _ _ h => h) (by rfl) ?_ HB5.out ?_
        rotate_left
        · intro W hW; have hq := HK.out W hW; go_simp; with_reducible rfl
        simp only [Act.put, List.setIfInBounds_toArray, List.set_cons_zero, List.set_cons_succ]
        refine take_in (i := 2) (oi := ⟨_, _, _, _, _, _⟩) (v := ?_) rfl (by kernel_rfl) (by kernel_rfl) (by kernel_rfl) (fun _ _ _ h => h) (by rfl) ?_ HB5.out ?_
        rotate_left
        · intro W hW; have hq := HK.out W hW; go_simp; with_reducible rfl
        simp only [Act.put, List.setIfInBounds_toArray, List.set_cons_zero, List.set_cons_succ]
        rw [decide_eq_false (show ¬ xk < 0 from by have := HH1.out; omega)]
        refine take_in (i := 3) (oi := ⟨_, _, _, _, _, _⟩) (v := ?_) rfl (by kernel_rfl) (by kernel_rfl) (by kernel_rfl) (fun _ _ _ h => h) (by rfl) ?_ HB5.out ?_
        rotate_left
        · intro W hW; have hq := HK.out W hW; go_simp; with_reducible rfl
        simp only [Act.put, List.setIfInBounds_toArray, List.set_cons_zero, List.set_cons_succ]
        refine take_in (i := 4) (oi := ⟨_, _, _, _, _, _⟩) (v := ?_) rfl (by kernel_rfl) (by kernel_rfl) (by kernel_rfl) (fun _ _ _ h => h) (by rfl) ?_ HB5.out ?_
        rotate_left
        · intro W hW; have hq := HK.out W hW; go_simp; with_reducible rfl
        simp only [Act.put, List.setIfInBounds_toArray, List.set_cons_zero, List.set_cons_succ]
        refine take_in (i := 5) (oi := ⟨_, _, _, _, _, _⟩) (v := ?_) rfl (by kernel_rfl) (by kernel_rfl) (by kernel_rfl) (fun _ _ _ h => h) (by rfl) ?_ HB5.out ?_
        rotate_left
        · intro W hW; have hq := HK.out W hW; go_simp; with_reducible rfl
        simp only [Act.put, List.setIfInBounds_toArray, List.set_cons_zero, List.set_cons_succ]
        refine take_in (i := 6) (oi := ⟨_, _, _, _, _, _⟩) (v := ?_) rfl (by kernel_rfl) (by kernel_rfl) (by kernel_rfl) (fun _ _ _ h => h) (by rfl) ?_ HB5.out ?_
        rotate_left
        · intro W hW; have hq := HK.out W hW; go_simp; with_reducible rfl
        simp only [Act.put, List.setIfInBounds_toArray, List.set_cons_zero, List.set_cons_succ]
        rw [decide_eq_false (show ¬ 3 < xk from by have := HH2.out; omega)]
        refine take_in (i := 7) (oi := ⟨_, _, _, _, _, _⟩) (v := ?_) rfl (by kernel_rfl) (by kernel_rfl) (by kernel_rfl) (fun _ _ _ h => h) (by rfl) ?_ HB5.out ?_
        rotate_left
        · intro W hW; have hq := HK.out W hW; go_simp; with_reducible rfl
        simp only [Act.put, List.setIfInBounds_toArray, List.set_cons_zero, List.set_cons_succ]
        refine take_in (i := 8) (oi := ⟨_, _, _, _, _, _⟩) (v := ?_) rfl (by kernel_rfl) (by kernel_rfl) (by kernel_rfl) (fun _ _ _ h => h) (by rfl) ?_ HB5.out ?_
        rotate_left
        · intro W hW; have hq := HK.out W hW; go_simp; with_reducible rfl
        simp only [Act.put, List.setIfInBounds_toArray, List.set_cons_zero, List.set_cons_succ]
        refine take_in (i := 9) (oi := ⟨_, _, _, _, _, _⟩) (v := ?_) rfl (by kernel_rfl) (by kernel_rfl) (by kernel_rfl) (fun _ _ _ h => h) (by rfl) ?_ HB5.out ?_
        rotate_left
        · intro W hW; have hq := HK.out W hW; go_simp; with_reducible rfl
        simp only [Act.put, List.setIfInBounds_toArray, List.set_cons_zero, List.set_cons_succ]
        refine take_in (i := 10) (oi := ⟨_, _, _, _, _, _⟩) (v := ?_) rfl (by kernel_rfl) (by kernel_rfl) (by kernel_rfl) (fun _ _ _ h => h) (by rfl) ?_ HB5.out ?_
        rotate_left
        · intro W hW; have hq := HK.out W hW; go_simp; with_reducible rfl
        simp only [Act.put, List.setIfInBounds_toArray, List.set_cons_zero, List.set_cons_succ]
        refine wpAnyH_ready (rs := [11]) (by kernel_rfl) (by simp) ?_
        refine AllReadyH.cons (o := ⟨_, _, _, _, _, _⟩) rfl (fun K hK => ?_) AllReadyH.nil
        go_simp
        refine (Tgw.right_r xn xd _).mono ?_
        rw [HRI.out]
        rintro e w6 ⟨rfl, hb6⟩
        have HB6 := Lib.hid (HB5.out.trans (hb6.mono HB5.out.size)); clear hb6
        refine hK.out _ _ HB6.out (fun _ => ?_)
        clear hK K
        refine take_in (i := 12) (oi := ⟨_, _, _, _, _, _⟩) (v := ?_) rfl (by kernel_rfl) (by kernel_rfl) (by kernel_rfl) (fun _ _ _ h => h) (by rfl) ?_ HB6.out ?_
        rotate_left
        · intro W hW; have hq := HK.out W hW; go_simp; with_reducible rfl
        simp only [Act.put, List.setIfInBounds_toArray, List.set_cons_zero, List.set_cons_succ]
        refine take_in (i := 13) (oi := ⟨_, _, _, _, _, _⟩) (v := ?_) rfl (by kernel_rfl) (by kernel_rfl) (by kernel_rfl) (fun _ _ _ h => h) (by rfl) ?_ HB6.out ?_
        rotate_left
        · intro W hW; have hq := HK.out W hW; go_simp; with_reducible rfl
        simp only [Act.put, List.setIfInBounds_toArray, List.set_cons_zero, List.set_cons_succ]
        refine take_in (i := 14) (oi := ⟨_, _, _, _, _, _⟩) (v := ?_) rfl (by kernel_rfl) (by kernel_rfl) (by kernel_rfl) (fun _ _ _ h => h) (by rfl) ?_ HB6.out ?_
        rotate_left
        · intro W hW; have hq := HK.out W hW; go_simp; with_reducible rfl
        simp only [Act.put, List.setIfInBounds_toArray, List.set_cons_zero, List.set_cons_succ]
        refine skip_in (i := 15) (oi := ⟨_, _, _, _, _, _⟩) rfl (by kernel_rfl) (by kernel_rfl) (by kernel_rfl) (fun _ _ _ h => h) (by rfl) HB6.out ?_
        simp only [Act.put, List.setIfInBounds_toArray, List.set_cons_zero, List.set_cons_succ]
        refine skip_in (i := 16) (oi := ⟨_, _, _, _, _, _⟩) rfl (by kernel_rfl) (by kernel_rfl) (by kernel_rfl) (fun _ _ _ h => h) (by rfl) HB6.out ?_
        simp only [Act.put, List.setIfInBounds_toArray, List.set_cons_zero, List.set_cons_succ]
        refine skip_in (i := 17) (oi := ⟨_, _, _, _, _, _⟩) rfl (by kernel_rfl) (by kernel_rfl) (by kernel_rfl) (fun _ _ _ h => h) (by rfl) HB6.out ?_
        simp only [Act.put, List.setIfInBounds_toArray, List.set_cons_zero, List.set_cons_succ]
        refine skip_in (i := 18) (oi := ⟨_, _, _, _, _, _⟩) rfl (by kernel_rfl) (by kernel_rfl) (by kernel_rfl) (fun _ _ _ h => h) (by rfl) HB6.out ?_
        simp only [Act.put, List.setIfInBounds_toArray, List.set_cons_zero, List.set_cons_succ]
        refine take_in (i := 19) (oi := ⟨_, _, _, _, _, _⟩) (v := ?_) rfl (by kernel_rfl) (by kernel_rfl) (by kernel_rfl) (fun _ _ _ h => h) (by rfl) ?_ HB6.out ?_
        rotate_left
        · intro W hW; have hq := HK.out W hW; go_simp; with_reducible rfl
        simp only [Act.put, List.setIfInBounds_toArray, List.set_cons_zero, List.set_cons_succ]
        refine take_in (i := 20) (oi := ⟨_, _, _, _, _, _⟩) (v := ?_) rfl (by kernel_rfl) (by kernel_rfl) (by kernel_rfl) (fun _ _ _ h => h) (by rfl) ?_ HB6.out ?_
        rotate_left
        · intro W hW; have hq := HK.out W hW; go_simp; with_reducible rfl
        simp only [Act.put, List.setIfInBounds_toArray, List.set_cons_zero, List.set_cons_succ]
        refine skip_in (i := 21) (oi := ⟨_, _, _, _, _, _⟩) rfl (by kernel_rfl) (by kernel_rfl) (by kernel_rfl) (fun _ _ _ h => h) (by rfl) HB6.out ?_
        simp only [Act.put, List.setIfInBounds_toArray, List.set_cons_zero, List.set_cons_succ]
        refine skip_in (i := 22) (oi := ⟨_, _, _, _, _, _⟩) rfl (by kernel_rfl) (by kernel_rfl) (by kernel_rfl) (fun _ _ _ h => h) (by rfl) HB6.out ?_
        simp only [Act.put, List.setIfInBounds_toArray, List.set_cons_zero, List.set_cons_succ]
        refine skip_in (i := 23) (oi := ⟨_, _, _, _, _, _⟩) rfl (by kernel_rfl) (by kernel_rfl) (by kernel_rfl) (fun _ _ _ h => h) (by rfl) HB6.out ?_
        simp only [Act.put, List.setIfInBounds_toArray, List.set_cons_zero, List.set_cons_succ]
        refine skip_in (i := 24) (oi := ⟨_, _, _, _, _, _⟩) rfl (by kernel_rfl) (by kernel_rfl) (by kernel_rfl) (fun _ _ _ h => h) (by rfl) HB6.out ?_
        simp only [Act.put, List.setIfInBounds_toArray, List.set_cons_zero, List.set_cons_succ]
        refine skip_in (i := 25) (oi := ⟨_, _, _, _, _, _⟩) rfl (by kernel_rfl) (by kernel_rfl) (by kernel_rfl) (fun _ _ _ h => h) (by rfl) HB6.out ?_
        simp only [Act.put, List.setIfInBounds_toArray, List.set_cons_zero, List.set_cons_succ]
        refine skip_in (i := 26) (oi := ⟨_, _, _, _, _, _⟩) rfl (by kernel_rfl) (by kernel_rfl) (by kernel_rfl) (fun _ _ _ h => h) (by rfl) HB6.out ?_
        simp only [Act.put, List.setIfInBounds_toArray, List.set_cons_zero, List.set_cons_succ]
        refine skip_in (i := 27) (oi := ⟨_, _, _, _, _, _⟩) rfl (by kernel_rfl) (by kernel_rfl) (by kernel_rfl) (fun _ _ _ h => h) (by rfl) HB6.out ?_
        simp only [Act.put, List.setIfInBounds_toArray, List.set_cons_zero, List.set_cons_succ]
        refine skip_in (i := 28) (oi := ⟨_, _, _, _, _, _⟩) rfl (by kernel_rfl) (by kernel_rfl) (by kernel_rfl) (fun _ _ _ h => h) (by rfl) HB6.out ?_
        simp only [Act.put, List.setIfInBounds_toArray, List.set_cons_zero, List.set_cons_succ]
        refine skip_in (i := 29) (oi := ⟨_, _, _, _, _, _⟩) rfl (by kernel_rfl) (by kernel_rfl) (by kernel_rfl) (fun _ _ _ h => h) (by rfl) HB6.out ?_
        simp only [Act.put, List.setIfInBounds_toArray, List.set_cons_zero, List.set_cons_succ]
        refine skip_in (i := 30) (oi := ⟨_, _, _, _, _, _⟩) rfl (by kernel_rfl) (by kernel_rfl) (by kernel_rfl) (fun _ _ _ h => h) (by rfl) HB6.out ?_
        simp only [Act.put, List.setIfInBounds_toArray, List.set_cons_zero, List.set_cons_succ]
        refine skip_in (i := 31) (oi := ⟨_, _, _, _, _, _⟩) rfl (by kernel_rfl) (by kernel_rfl) (by kernel_rfl) (fun _ _ _ h => h) (by rfl) HB6.out ?_
        simp only [Act.put, List.setIfInBounds_toArray, List.set_cons_zero, List.set_cons_succ]
        refine skip_in (i := 32) (oi := ⟨_, _, _, _, _, _⟩) rfl (by kernel_rfl) (by kernel_rfl) (by kernel_rfl) (fun _ _ _ h => h) (by rfl) HB6.out ?_
        simp only [Act.put, List.setIfInBounds_toArray, List.set_cons_zero, List.set_cons_succ]
        refine skip_in (i := 33) (oi := ⟨_, _, _, _, _, _⟩) rfl (by kernel_rfl) (by kernel_rfl) (by kernel_rfl) (fun _ _ _ h => h) (by rfl) HB6.out ?_
        simp only [Act.put, List.setIfInBounds_toArray, List.set_cons_zero, List.set_cons_succ]
        refine take_in (i := 34) (oi := ⟨_, _, _, _, _, _⟩) (v := ?_) rfl (by kernel_rfl) (by kernel_rfl) (by kernel_rfl) (fun _ _ _ h => h) (by rfl) ?_ HB6.out ?_
        rotate_left
        · intro W hW; have hq := HK.out W hW; go_simp; with_reducible rfl
        simp only [Act.put, List.setIfInBounds_toArray, List.set_cons_zero, List.set_cons_succ]
        refine wpAnyH_done (by kernel_rfl) ?_ _
        go_wp2
        go_ret
        exact ⟨by rw [HR71.out]; rfl, HBW.out.trans (HB6.out.mono HBW.out.size)⟩
      | true =>
      have HRI := Lib.hid hri
      by_cases h4 : xn = 0
      · have HR71 := Lib.hid (HBAD.out (Or.inl (by unfold okE; rw [decide_eq_false (p := xn ≠ 0) (by simp only [ne_eq, Decidable.not_not]; exact h4), Bool.and_false, Bool.and_false])))
        have hq4 : (xn == 0) = true := by rw [beq_iff_eq]; exact h4
        clear hri h4
        go_wp2_with fail
        have VX := Lib.hid (show Ex (wr.alloc (.cells #[.int .i64 xk, .int .i64 xn, .int .i64 xd, .float .f64 xv] 58)) wr.heap.size ⟨xk, xn, xd, xv⟩ from hat _ _ _ rfl)
        have HBW := Lib.hid (bal HB.out (Nat.le_refl _) (.cells #[.int .i64 xk, .int .i64 xn, .int .i64 xd, .float .f64 xv] 58))
        generalize wr.alloc (.cells #[.int .i64 xk, .int .i64 xn, .int .i64 xd, .float .f64 xv] 58) = w1 at VX HBW ⊢
        generalize wr.heap.size = gx at VX ⊢
        have HK : Hid (∀ W', Below w1.heap.size w1 W' → W'.cell? ⟨gx, 0, none⟩ = some (.int .i64 xk) ∧ W'.cell? ⟨gx, 1, none⟩ = some (.int .i64 xn) ∧ W'.cell? ⟨gx, 2, none⟩ = some (.int .i64 xd) ∧ W'.cell? ⟨gx, 3, none⟩ = some (.float .f64 xv)) := Lib.hid (fun W' h => ⟨(VX.out.all h).c0, (VX.out.all h).c1, (VX.out.all h).c2, (VX.out.all h).c3⟩)
        clear x0 x1 x2 x3
        refine wp_region_held_drew (S := fun W' => Below w1.heap.size w1 W') (by kernel_rfl) (Below.refl _ _).drew (fun hHeld => ?_)
        generalize w1.drew = w5 at hHeld ⊢
        have HB5 : Hid (Below w1.heap.size w1 w5) := hHeld
        clear hHeld
        refine take_in (i := 0) (oi := ⟨_, _, _, _, _, _⟩) (v := ?_) rfl (by kernel_rfl) (by kernel_rfl) (by kernel_rfl) (fun _ _ _ h => h) (by rfl) ?_ HB5.out ?_
        rotate_left
        · intro W hW; have hq := HK.out W hW; go_simp; with_reducible rfl
        simp only [Act.put, List.setIfInBounds_toArray, List.set_cons_zero, List.set_cons_succ]
        refine take_in (i := 1) (oi := ⟨_, _, _, _, _, _⟩) (v := ?_) rfl (by kernel_rfl) (by kernel_rfl) (by kernel_rfl) (fun _ _ _ h => h) (by rfl) ?_ HB5.out ?_
        rotate_left
        · intro W hW; have hq := HK.out W hW; go_simp; with_reducible rfl
        simp only [Act.put, List.setIfInBounds_toArray, List.set_cons_zero, List.set_cons_succ]
        refine take_in (i := 2) (oi := ⟨_, _, _, _, _, _⟩) (v := ?_) rfl (by kernel_rfl) (by kernel_rfl) (by kernel_rfl) (fun _ _ _ h => h) (by rfl) ?_ HB5.out ?_
        rotate_left
        · intro W hW; have hq := HK.out W hW; go_simp; with_reducible rfl
        simp only [Act.put, List.setIfInBounds_toArray, List.set_cons_zero, List.set_cons_succ]
        rw [decide_eq_false (show ¬ xk < 0 from by have := HH1.out; omega)]
        refine take_in (i := 3) (oi := ⟨_, _, _, _, _, _⟩) (v := ?_) rfl (by kernel_rfl) (by kernel_rfl) (by kernel_rfl) (fun _ _ _ h => h) (by rfl) ?_ HB5.out ?_
        rotate_left
        · intro W hW; have hq := HK.out W hW; go_simp; with_reducible rfl
        simp only [Act.put, List.setIfInBounds_toArray, List.set_cons_zero, List.set_cons_succ]
        refine take_in (i := 4) (oi := ⟨_, _, _, _, _, _⟩) (v := ?_) rfl (by kernel_rfl) (by kernel_rfl) (by kernel_rfl) (fun _ _ _ h => h) (by rfl) ?_ HB5.out ?_
        rotate_left
        · intro W hW; have hq := HK.out W hW; go_simp; with_reducible rfl
        simp only [Act.put, List.setIfInBounds_toArray, List.set_cons_zero, List.set_cons_succ]
        refine take_in (i := 5) (oi := ⟨_, _, _, _, _, _⟩) (v := ?_) rfl (by kernel_rfl) (by kernel_rfl) (by kernel_rfl) (fun _ _ _ h => h) (by rfl) ?_ HB5.out ?_
        rotate_left
        · intro W hW; have hq := HK.out W hW; go_simp; with_reducible rfl
        simp only [Act.put, List.setIfInBounds_toArray, List.set_cons_zero, List.set_cons_succ]
        refine take_in (i := 6) (oi := ⟨_, _, _, _, _, _⟩) (v := ?_) rfl (by kernel_rfl) (by kernel_rfl) (by kernel_rfl) (fun _ _ _ h => h) (by rfl) ?_ HB5.out ?_
        rotate_left
        · intro W hW; have hq := HK.out W hW; go_simp; with_reducible rfl
        simp only [Act.put, List.setIfInBounds_toArray, List.set_cons_zero, List.set_cons_succ]
        rw [decide_eq_false (show ¬ 3 < xk from by have := HH2.out; omega)]
        refine take_in (i := 7) (oi := ⟨_, _, _, _, _, _⟩) (v := ?_) rfl (by kernel_rfl) (by kernel_rfl) (by kernel_rfl) (fun _ _ _ h => h) (by rfl) ?_ HB5.out ?_
        rotate_left
        · intro W hW; have hq := HK.out W hW; go_simp; with_reducible rfl
        simp only [Act.put, List.setIfInBounds_toArray, List.set_cons_zero, List.set_cons_succ]
        refine take_in (i := 8) (oi := ⟨_, _, _, _, _, _⟩) (v := ?_) rfl (by kernel_rfl) (by kernel_rfl) (by kernel_rfl) (fun _ _ _ h => h) (by rfl) ?_ HB5.out ?_
        rotate_left
        · intro W hW; have hq := HK.out W hW; go_simp; with_reducible rfl
        simp only [Act.put, List.setIfInBounds_toArray, List.set_cons_zero, List.set_cons_succ]
        refine take_in (i := 9) (oi := ⟨_, _, _, _, _, _⟩) (v := ?_) rfl (by kernel_rfl) (by kernel_rfl) (by kernel_rfl) (fun _ _ _ h => h) (by rfl) ?_ HB5.out ?_
        rotate_left
        · intro W hW; have hq := HK.out W hW; go_simp; with_reducible rfl
        simp only [Act.put, List.setIfInBounds_toArray, List.set_cons_zero, List.set_cons_succ]
        refine take_in (i := 10) (oi := ⟨_, _, _, _, _, _⟩) (v := ?_) rfl (by kernel_rfl) (by kernel_rfl) (by kernel_rfl) (fun _ _ _ h => h) (by rfl) ?_ HB5.out ?_
        rotate_left
        · intro W hW; have hq := HK.out W hW; go_simp; with_reducible rfl
        simp only [Act.put, List.setIfInBounds_toArray, List.set_cons_zero, List.set_cons_succ]
        refine wpAnyH_ready (rs := [11]) (by kernel_rfl) (by simp) ?_
        refine AllReadyH.cons (o := ⟨_, _, _, _, _, _⟩) rfl (fun K hK => ?_) AllReadyH.nil
        go_simp
        refine (Tgw.right_r xn xd _).mono ?_
        rw [HRI.out]
        rintro e w6 ⟨rfl, hb6⟩
        have HB6 := Lib.hid (HB5.out.trans (hb6.mono HB5.out.size)); clear hb6
        refine hK.out _ _ HB6.out (fun _ => ?_)
        clear hK K
        refine take_in (i := 12) (oi := ⟨_, _, _, _, _, _⟩) (v := ?_) rfl (by kernel_rfl) (by kernel_rfl) (by kernel_rfl) (fun _ _ _ h => h) (by rfl) ?_ HB6.out ?_
        rotate_left
        · intro W hW; have hq := HK.out W hW; go_simp; with_reducible rfl
        simp only [Act.put, List.setIfInBounds_toArray, List.set_cons_zero, List.set_cons_succ]
        refine take_in (i := 13) (oi := ⟨_, _, _, _, _, _⟩) (v := ?_) rfl (by kernel_rfl) (by kernel_rfl) (by kernel_rfl) (fun _ _ _ h => h) (by rfl) ?_ HB6.out ?_
        rotate_left
        · intro W hW; have hq := HK.out W hW; go_simp; with_reducible rfl
        simp only [Act.put, List.setIfInBounds_toArray, List.set_cons_zero, List.set_cons_succ]
        refine take_in (i := 14) (oi := ⟨_, _, _, _, _, _⟩) (v := ?_) rfl (by kernel_rfl) (by kernel_rfl) (by kernel_rfl) (fun _ _ _ h => h) (by rfl) ?_ HB6.out ?_
        rotate_left
        · intro W hW; have hq := HK.out W hW; go_simp; with_reducible rfl
        simp only [Act.put, List.setIfInBounds_toArray, List.set_cons_zero, List.set_cons_succ]
        refine take_in (i := 15) (oi := ⟨_, _, _, _, _, _⟩) (v := ?_) rfl (by kernel_rfl) (by kernel_rfl) (by kernel_rfl) (fun _ _ _ h => h) (by rfl) ?_ HB6.out ?_
        rotate_left
        · intro W hW; have hq := HK.out W hW; go_simp; with_reducible rfl
        simp only [Act.put, List.setIfInBounds_toArray, List.set_cons_zero, List.set_cons_succ]
        refine take_in (i := 16) (oi := ⟨_, _, _, _, _, _⟩) (v := ?_) rfl (by kernel_rfl) (by kernel_rfl) (by kernel_rfl) (fun _ _ _ h => h) (by rfl) ?_ HB6.out ?_
        rotate_left
        · intro W hW; have hq := HK.out W hW; go_simp; with_reducible rfl
        simp only [Act.put, List.setIfInBounds_toArray, List.set_cons_zero, List.set_cons_succ]
        refine take_in (i := 17) (oi := ⟨_, _, _, _, _, _⟩) (v := ?_) rfl (by kernel_rfl) (by kernel_rfl) (by kernel_rfl) (fun _ _ _ h => h) (by rfl) ?_ HB6.out ?_
        rotate_left
        · intro W hW; have hq := HK.out W hW; go_simp; with_reducible rfl
        simp only [Act.put, List.setIfInBounds_toArray, List.set_cons_zero, List.set_cons_succ]
        refine take_in (i := 18) (oi := ⟨_, _, _, _, _, _⟩) (v := ?_) rfl (by kernel_rfl) (by kernel_rfl) (by kernel_rfl) (fun _ _ _ h => h) (by rfl) ?_ HB6.out ?_
        rotate_left
        · intro W hW; have hq := HK.out W hW; go_simp; with_reducible rfl
        simp only [Act.put, List.setIfInBounds_toArray, List.set_cons_zero, List.set_cons_succ]
        refine take_in (i := 19) (oi := ⟨_, _, _, _, _, _⟩) (v := ?_) rfl (by kernel_rfl) (by kernel_rfl) (by kernel_rfl) (fun _ _ _ h => h) (by rfl) ?_ HB6.out ?_
        rotate_left
        · intro W hW; have hq := HK.out W hW; go_simp; with_reducible rfl
        simp only [Act.put, List.setIfInBounds_toArray, List.set_cons_zero, List.set_cons_succ]
        refine take_in (i := 20) (oi := ⟨_, _, _, _, _, _⟩) (v := ?_) rfl (by kernel_rfl) (by kernel_rfl) (by kernel_rfl) (fun _ _ _ h => h) (by rfl) ?_ HB6.out ?_
        rotate_left
        · intro W hW; have hq := HK.out W hW; go_simp; with_reducible rfl
        simp only [Act.put, List.setIfInBounds_toArray, List.set_cons_zero, List.set_cons_succ]
        refine skip_in (i := 21) (oi := ⟨_, _, _, _, _, _⟩) rfl (by kernel_rfl) (by kernel_rfl) (by kernel_rfl) (fun _ _ _ h => h) (by rfl) HB6.out ?_
        simp only [Act.put, List.setIfInBounds_toArray, List.set_cons_zero, List.set_cons_succ]
        refine skip_in (i := 22) (oi := ⟨_, _, _, _, _, _⟩) rfl (by kernel_rfl) (by kernel_rfl) (by kernel_rfl) (fun _ _ _ h => h) (by rfl) HB6.out ?_
        simp only [Act.put, List.setIfInBounds_toArray, List.set_cons_zero, List.set_cons_succ]
        refine skip_in (i := 23) (oi := ⟨_, _, _, _, _, _⟩) rfl (by kernel_rfl) (by kernel_rfl) (by kernel_rfl) (fun _ _ _ h => h) (by rfl) HB6.out ?_
        simp only [Act.put, List.setIfInBounds_toArray, List.set_cons_zero, List.set_cons_succ]
        refine skip_in (i := 24) (oi := ⟨_, _, _, _, _, _⟩) rfl (by kernel_rfl) (by kernel_rfl) (by kernel_rfl) (fun _ _ _ h => h) (by rfl) HB6.out ?_
        simp only [Act.put, List.setIfInBounds_toArray, List.set_cons_zero, List.set_cons_succ]
        refine skip_in (i := 25) (oi := ⟨_, _, _, _, _, _⟩) rfl (by kernel_rfl) (by kernel_rfl) (by kernel_rfl) (fun _ _ _ h => h) (by rfl) HB6.out ?_
        simp only [Act.put, List.setIfInBounds_toArray, List.set_cons_zero, List.set_cons_succ]
        refine skip_in (i := 26) (oi := ⟨_, _, _, _, _, _⟩) rfl (by kernel_rfl) (by kernel_rfl) (by kernel_rfl) (fun _ _ _ h => h) (by rfl) HB6.out ?_
        simp only [Act.put, List.setIfInBounds_toArray, List.set_cons_zero, List.set_cons_succ]
        refine skip_in (i := 27) (oi := ⟨_, _, _, _, _, _⟩) rfl (by kernel_rfl) (by kernel_rfl) (by kernel_rfl) (fun _ _ _ h => h) (by rfl) HB6.out ?_
        simp only [Act.put, List.setIfInBounds_toArray, List.set_cons_zero, List.set_cons_succ]
        refine skip_in (i := 28) (oi := ⟨_, _, _, _, _, _⟩) rfl (by kernel_rfl) (by kernel_rfl) (by kernel_rfl) (fun _ _ _ h => h) (by rfl) HB6.out ?_
        simp only [Act.put, List.setIfInBounds_toArray, List.set_cons_zero, List.set_cons_succ]
        refine skip_in (i := 29) (oi := ⟨_, _, _, _, _, _⟩) rfl (by kernel_rfl) (by kernel_rfl) (by kernel_rfl) (fun _ _ _ h => h) (by rfl) HB6.out ?_
        simp only [Act.put, List.setIfInBounds_toArray, List.set_cons_zero, List.set_cons_succ]
        refine skip_in (i := 30) (oi := ⟨_, _, _, _, _, _⟩) rfl (by kernel_rfl) (by kernel_rfl) (by kernel_rfl) (fun _ _ _ h => h) (by rfl) HB6.out ?_
        simp only [Act.put, List.setIfInBounds_toArray, List.set_cons_zero, List.set_cons_succ]
        refine skip_in (i := 31) (oi := ⟨_, _, _, _, _, _⟩) rfl (by kernel_rfl) (by kernel_rfl) (by kernel_rfl) (fun _ _ _ h => h) (by rfl) HB6.out ?_
        simp only [Act.put, List.setIfInBounds_toArray, List.set_cons_zero, List.set_cons_succ]
        refine skip_in (i := 32) (oi := ⟨_, _, _, _, _, _⟩) rfl (by kernel_rfl) (by kernel_rfl) (by kernel_rfl) (fun _ _ _ h => h) (by rfl) HB6.out ?_
        simp only [Act.put, List.setIfInBounds_toArray, List.set_cons_zero, List.set_cons_succ]
        refine skip_in (i := 33) (oi := ⟨_, _, _, _, _, _⟩) rfl (by kernel_rfl) (by kernel_rfl) (by kernel_rfl) (fun _ _ _ h => h) (by rfl) HB6.out ?_
        simp only [Act.put, List.setIfInBounds_toArray, List.set_cons_zero, List.set_cons_succ]
        refine take_in (i := 34) (oi := ⟨_, _, _, _, _, _⟩) (v := ?_) rfl (by kernel_rfl) (by kernel_rfl) (by kernel_rfl) (fun _ _ _ h => h) (by rfl) ?_ HB6.out ?_
        rotate_left
        · intro W hW; have hq := HK.out W hW; go_simp; with_reducible rfl
        simp only [Act.put, List.setIfInBounds_toArray, List.set_cons_zero, List.set_cons_succ]
        refine wpAnyH_done (by kernel_rfl) ?_ _
        go_wp2
        go_ret
        exact ⟨by rw [HR71.out]; rfl, HBW.out.trans (HB6.out.mono HBW.out.size)⟩
      have HOK : Hid (okE ⟨xk, xn, xd, xv⟩ = true) := Lib.hid (by unfold okE; simp only [hri]; rw [decide_eq_true (by have := HH1.out; have := HH2.out; omega), decide_eq_true h4]; rfl)
      have HGO : Hid (prev es k < xk → isBook es = chk (prev es (k + 1)) (es.drop (k + 1))) := Lib.hid (fun hp => by rw [HA.out, HD.out, HOK.out, decide_eq_true hp]; rfl)
      have hq4 : (xn == 0) = false := by rw [beq_eq_false_iff_ne]; exact h4
      clear hri h4
      cases k with
      | zero =>
        have HGOOD := Lib.hid (HGO.out (by show (-1 : Int) < xk; have := HH1.out; omega))
        simp only [Nat.zero_mul, Nat.add_zero] at x0 x1 x2 x3
        go_wp2_with fail
        have VX := Lib.hid (show Ex (wr.alloc (.cells #[.int .i64 xk, .int .i64 xn, .int .i64 xd, .float .f64 xv] 58)) wr.heap.size ⟨xk, xn, xd, xv⟩ from hat _ _ _ rfl)
        have HBW := Lib.hid (bal HB.out (Nat.le_refl _) (.cells #[.int .i64 xk, .int .i64 xn, .int .i64 xd, .float .f64 xv] 58))
        generalize wr.alloc (.cells #[.int .i64 xk, .int .i64 xn, .int .i64 xd, .float .f64 xv] 58) = w1 at VX HBW ⊢
        generalize wr.heap.size = gx at VX ⊢
        have HK : Hid (∀ W', Below w1.heap.size w1 W' → W'.cell? ⟨gx, 0, none⟩ = some (.int .i64 xk) ∧ W'.cell? ⟨gx, 1, none⟩ = some (.int .i64 xn) ∧ W'.cell? ⟨gx, 2, none⟩ = some (.int .i64 xd) ∧ W'.cell? ⟨gx, 3, none⟩ = some (.float .f64 xv)) := Lib.hid (fun W' h => ⟨(VX.out.all h).c0, (VX.out.all h).c1, (VX.out.all h).c2, (VX.out.all h).c3⟩)
        clear x0 x1 x2 x3
        refine wp_region_held_drew (S := fun W' => Below w1.heap.size w1 W') (by kernel_rfl) (Below.refl _ _).drew (fun hHeld => ?_)
        generalize w1.drew = w5 at hHeld ⊢
        have HB5 : Hid (Below w1.heap.size w1 w5) := hHeld
        clear hHeld
        refine take_in (i := 0) (oi := ⟨_, _, _, _, _, _⟩) (v := ?_) rfl (by kernel_rfl) (by kernel_rfl) (by kernel_rfl) (fun _ _ _ h => h) (by rfl) ?_ HB5.out ?_
        rotate_left
        · intro W hW; have hq := HK.out W hW; go_simp; with_reducible rfl
        simp only [Act.put, List.setIfInBounds_toArray, List.set_cons_zero, List.set_cons_succ]
        refine take_in (i := 1) (oi := ⟨_, _, _, _, _, _⟩) (v := ?_) rfl (by kernel_rfl) (by kernel_rfl) (by kernel_rfl) (fun _ _ _ h => h) (by rfl) ?_ HB5.out ?_
        rotate_left
        · intro W hW; have hq := HK.out W hW; go_simp; with_reducible rfl
        simp only [Act.put, List.setIfInBounds_toArray, List.set_cons_zero, List.set_cons_succ]
        refine take_in (i := 2) (oi := ⟨_, _, _, _, _, _⟩) (v := ?_) rfl (by kernel_rfl) (by kernel_rfl) (by kernel_rfl) (fun _ _ _ h => h) (by rfl) ?_ HB5.out ?_
        rotate_left
        · intro W hW; have hq := HK.out W hW; go_simp; with_reducible rfl
        simp only [Act.put, List.setIfInBounds_toArray, List.set_cons_zero, List.set_cons_succ]
        rw [decide_eq_false (show ¬ xk < 0 from by have := HH1.out; omega)]
        refine take_in (i := 3) (oi := ⟨_, _, _, _, _, _⟩) (v := ?_) rfl (by kernel_rfl) (by kernel_rfl) (by kernel_rfl) (fun _ _ _ h => h) (by rfl) ?_ HB5.out ?_
        rotate_left
        · intro W hW; have hq := HK.out W hW; go_simp; with_reducible rfl
        simp only [Act.put, List.setIfInBounds_toArray, List.set_cons_zero, List.set_cons_succ]
        refine take_in (i := 4) (oi := ⟨_, _, _, _, _, _⟩) (v := ?_) rfl (by kernel_rfl) (by kernel_rfl) (by kernel_rfl) (fun _ _ _ h => h) (by rfl) ?_ HB5.out ?_
        rotate_left
        · intro W hW; have hq := HK.out W hW; go_simp; with_reducible rfl
        simp only [Act.put, List.setIfInBounds_toArray, List.set_cons_zero, List.set_cons_succ]
        refine take_in (i := 5) (oi := ⟨_, _, _, _, _, _⟩) (v := ?_) rfl (by kernel_rfl) (by kernel_rfl) (by kernel_rfl) (fun _ _ _ h => h) (by rfl) ?_ HB5.out ?_
        rotate_left
        · intro W hW; have hq := HK.out W hW; go_simp; with_reducible rfl
        simp only [Act.put, List.setIfInBounds_toArray, List.set_cons_zero, List.set_cons_succ]
        refine take_in (i := 6) (oi := ⟨_, _, _, _, _, _⟩) (v := ?_) rfl (by kernel_rfl) (by kernel_rfl) (by kernel_rfl) (fun _ _ _ h => h) (by rfl) ?_ HB5.out ?_
        rotate_left
        · intro W hW; have hq := HK.out W hW; go_simp; with_reducible rfl
        simp only [Act.put, List.setIfInBounds_toArray, List.set_cons_zero, List.set_cons_succ]
        rw [decide_eq_false (show ¬ 3 < xk from by have := HH2.out; omega)]
        refine take_in (i := 7) (oi := ⟨_, _, _, _, _, _⟩) (v := ?_) rfl (by kernel_rfl) (by kernel_rfl) (by kernel_rfl) (fun _ _ _ h => h) (by rfl) ?_ HB5.out ?_
        rotate_left
        · intro W hW; have hq := HK.out W hW; go_simp; with_reducible rfl
        simp only [Act.put, List.setIfInBounds_toArray, List.set_cons_zero, List.set_cons_succ]
        refine take_in (i := 8) (oi := ⟨_, _, _, _, _, _⟩) (v := ?_) rfl (by kernel_rfl) (by kernel_rfl) (by kernel_rfl) (fun _ _ _ h => h) (by rfl) ?_ HB5.out ?_
        rotate_left
        · intro W hW; have hq := HK.out W hW; go_simp; with_reducible rfl
        simp only [Act.put, List.setIfInBounds_toArray, List.set_cons_zero, List.set_cons_succ]
        refine take_in (i := 9) (oi := ⟨_, _, _, _, _, _⟩) (v := ?_) rfl (by kernel_rfl) (by kernel_rfl) (by kernel_rfl) (fun _ _ _ h => h) (by rfl) ?_ HB5.out ?_
        rotate_left
        · intro W hW; have hq := HK.out W hW; go_simp; with_reducible rfl
        simp only [Act.put, List.setIfInBounds_toArray, List.set_cons_zero, List.set_cons_succ]
        refine take_in (i := 10) (oi := ⟨_, _, _, _, _, _⟩) (v := ?_) rfl (by kernel_rfl) (by kernel_rfl) (by kernel_rfl) (fun _ _ _ h => h) (by rfl) ?_ HB5.out ?_
        rotate_left
        · intro W hW; have hq := HK.out W hW; go_simp; with_reducible rfl
        simp only [Act.put, List.setIfInBounds_toArray, List.set_cons_zero, List.set_cons_succ]
        refine wpAnyH_ready (rs := [11]) (by kernel_rfl) (by simp) ?_
        refine AllReadyH.cons (o := ⟨_, _, _, _, _, _⟩) rfl (fun K hK => ?_) AllReadyH.nil
        go_simp
        refine (Tgw.right_r xn xd _).mono ?_
        rw [HRI.out]
        rintro e w6 ⟨rfl, hb6⟩
        have HB6 := Lib.hid (HB5.out.trans (hb6.mono HB5.out.size)); clear hb6
        refine hK.out _ _ HB6.out (fun _ => ?_)
        clear hK K
        refine take_in (i := 12) (oi := ⟨_, _, _, _, _, _⟩) (v := ?_) rfl (by kernel_rfl) (by kernel_rfl) (by kernel_rfl) (fun _ _ _ h => h) (by rfl) ?_ HB6.out ?_
        rotate_left
        · intro W hW; have hq := HK.out W hW; go_simp; with_reducible rfl
        simp only [Act.put, List.setIfInBounds_toArray, List.set_cons_zero, List.set_cons_succ]
        refine take_in (i := 13) (oi := ⟨_, _, _, _, _, _⟩) (v := ?_) rfl (by kernel_rfl) (by kernel_rfl) (by kernel_rfl) (fun _ _ _ h => h) (by rfl) ?_ HB6.out ?_
        rotate_left
        · intro W hW; have hq := HK.out W hW; go_simp; with_reducible rfl
        simp only [Act.put, List.setIfInBounds_toArray, List.set_cons_zero, List.set_cons_succ]
        refine take_in (i := 14) (oi := ⟨_, _, _, _, _, _⟩) (v := ?_) rfl (by kernel_rfl) (by kernel_rfl) (by kernel_rfl) (fun _ _ _ h => h) (by rfl) ?_ HB6.out ?_
        rotate_left
        · intro W hW; have hq := HK.out W hW; go_simp; with_reducible rfl
        simp only [Act.put, List.setIfInBounds_toArray, List.set_cons_zero, List.set_cons_succ]
        refine take_in (i := 15) (oi := ⟨_, _, _, _, _, _⟩) (v := ?_) rfl (by kernel_rfl) (by kernel_rfl) (by kernel_rfl) (fun _ _ _ h => h) (by rfl) ?_ HB6.out ?_
        rotate_left
        · intro W hW; have hq := HK.out W hW; go_simp; with_reducible rfl
        simp only [Act.put, List.setIfInBounds_toArray, List.set_cons_zero, List.set_cons_succ]
        refine take_in (i := 16) (oi := ⟨_, _, _, _, _, _⟩) (v := ?_) rfl (by kernel_rfl) (by kernel_rfl) (by kernel_rfl) (fun _ _ _ h => h) (by rfl) ?_ HB6.out ?_
        rotate_left
        · intro W hW; have hq := HK.out W hW; go_simp; with_reducible rfl
        simp only [Act.put, List.setIfInBounds_toArray, List.set_cons_zero, List.set_cons_succ]
        refine take_in (i := 17) (oi := ⟨_, _, _, _, _, _⟩) (v := ?_) rfl (by kernel_rfl) (by kernel_rfl) (by kernel_rfl) (fun _ _ _ h => h) (by rfl) ?_ HB6.out ?_
        rotate_left
        · intro W hW; have hq := HK.out W hW; go_simp; with_reducible rfl
        simp only [Act.put, List.setIfInBounds_toArray, List.set_cons_zero, List.set_cons_succ]
        refine take_in (i := 18) (oi := ⟨_, _, _, _, _, _⟩) (v := ?_) rfl (by kernel_rfl) (by kernel_rfl) (by kernel_rfl) (fun _ _ _ h => h) (by rfl) ?_ HB6.out ?_
        rotate_left
        · intro W hW; have hq := HK.out W hW; go_simp; with_reducible rfl
        simp only [Act.put, List.setIfInBounds_toArray, List.set_cons_zero, List.set_cons_succ]
        refine take_in (i := 19) (oi := ⟨_, _, _, _, _, _⟩) (v := ?_) rfl (by kernel_rfl) (by kernel_rfl) (by kernel_rfl) (fun _ _ _ h => h) (by rfl) ?_ HB6.out ?_
        rotate_left
        · intro W hW; have hq := HK.out W hW; go_simp; with_reducible rfl
        simp only [Act.put, List.setIfInBounds_toArray, List.set_cons_zero, List.set_cons_succ]
        refine take_in (i := 20) (oi := ⟨_, _, _, _, _, _⟩) (v := ?_) rfl (by kernel_rfl) (by kernel_rfl) (by kernel_rfl) (fun _ _ _ h => h) (by rfl) ?_ HB6.out ?_
        rotate_left
        · intro W hW; have hq := HK.out W hW; go_simp; with_reducible rfl
        simp only [Act.put, List.setIfInBounds_toArray, List.set_cons_zero, List.set_cons_succ]
        refine take_in (i := 21) (oi := ⟨_, _, _, _, _, _⟩) (v := ?_) rfl (by kernel_rfl) (by kernel_rfl) (by kernel_rfl) (fun _ _ _ h => h) (by rfl) ?_ HB6.out ?_
        rotate_left
        · intro W hW; have hq := HK.out W hW; go_simp; with_reducible rfl
        simp only [Act.put, List.setIfInBounds_toArray, List.set_cons_zero, List.set_cons_succ]
        refine take_in (i := 22) (oi := ⟨_, _, _, _, _, _⟩) (v := ?_) rfl (by kernel_rfl) (by kernel_rfl) (by kernel_rfl) (fun _ _ _ h => h) (by rfl) ?_ HB6.out ?_
        rotate_left
        · intro W hW; have hq := HK.out W hW; go_simp; with_reducible rfl
        simp only [Act.put, List.setIfInBounds_toArray, List.set_cons_zero, List.set_cons_succ]
        refine take_in (i := 23) (oi := ⟨_, _, _, _, _, _⟩) (v := ?_) rfl (by kernel_rfl) (by kernel_rfl) (by kernel_rfl) (fun _ _ _ h => h) (by rfl) ?_ HB6.out ?_
        rotate_left
        · intro W hW; have hq := HK.out W hW; go_simp; with_reducible rfl
        simp only [Act.put, List.setIfInBounds_toArray, List.set_cons_zero, List.set_cons_succ]
        refine skip_in (i := 24) (oi := ⟨_, _, _, _, _, _⟩) rfl (by kernel_rfl) (by kernel_rfl) (by kernel_rfl) (fun _ _ _ h => h) (by rfl) HB6.out ?_
        simp only [Act.put, List.setIfInBounds_toArray, List.set_cons_zero, List.set_cons_succ]
        refine skip_in (i := 25) (oi := ⟨_, _, _, _, _, _⟩) rfl (by kernel_rfl) (by kernel_rfl) (by kernel_rfl) (fun _ _ _ h => h) (by rfl) HB6.out ?_
        simp only [Act.put, List.setIfInBounds_toArray, List.set_cons_zero, List.set_cons_succ]
        refine skip_in (i := 26) (oi := ⟨_, _, _, _, _, _⟩) rfl (by kernel_rfl) (by kernel_rfl) (by kernel_rfl) (fun _ _ _ h => h) (by rfl) HB6.out ?_
        simp only [Act.put, List.setIfInBounds_toArray, List.set_cons_zero, List.set_cons_succ]
        refine skip_in (i := 27) (oi := ⟨_, _, _, _, _, _⟩) rfl (by kernel_rfl) (by kernel_rfl) (by kernel_rfl) (fun _ _ _ h => h) (by rfl) HB6.out ?_
        simp only [Act.put, List.setIfInBounds_toArray, List.set_cons_zero, List.set_cons_succ]
        refine skip_in (i := 28) (oi := ⟨_, _, _, _, _, _⟩) rfl (by kernel_rfl) (by kernel_rfl) (by kernel_rfl) (fun _ _ _ h => h) (by rfl) HB6.out ?_
        simp only [Act.put, List.setIfInBounds_toArray, List.set_cons_zero, List.set_cons_succ]
        refine skip_in (i := 29) (oi := ⟨_, _, _, _, _, _⟩) rfl (by kernel_rfl) (by kernel_rfl) (by kernel_rfl) (fun _ _ _ h => h) (by rfl) HB6.out ?_
        simp only [Act.put, List.setIfInBounds_toArray, List.set_cons_zero, List.set_cons_succ]
        refine skip_in (i := 30) (oi := ⟨_, _, _, _, _, _⟩) rfl (by kernel_rfl) (by kernel_rfl) (by kernel_rfl) (fun _ _ _ h => h) (by rfl) HB6.out ?_
        simp only [Act.put, List.setIfInBounds_toArray, List.set_cons_zero, List.set_cons_succ]
        refine skip_in (i := 31) (oi := ⟨_, _, _, _, _, _⟩) rfl (by kernel_rfl) (by kernel_rfl) (by kernel_rfl) (fun _ _ _ h => h) (by rfl) HB6.out ?_
        simp only [Act.put, List.setIfInBounds_toArray, List.set_cons_zero, List.set_cons_succ]
        refine skip_in (i := 32) (oi := ⟨_, _, _, _, _, _⟩) rfl (by kernel_rfl) (by kernel_rfl) (by kernel_rfl) (fun _ _ _ h => h) (by rfl) HB6.out ?_
        simp only [Act.put, List.setIfInBounds_toArray, List.set_cons_zero, List.set_cons_succ]
        refine take_in (i := 33) (oi := ⟨_, _, _, _, _, _⟩) (v := ?_) rfl (by kernel_rfl) (by kernel_rfl) (by kernel_rfl) (fun _ _ _ h => h) (by rfl) ?_ HB6.out ?_
        rotate_left
        · intro W hW; have hq := HK.out W hW; go_simp; with_reducible rfl
        simp only [Act.put, List.setIfInBounds_toArray, List.set_cons_zero, List.set_cons_succ]
        refine take_in (i := 34) (oi := ⟨_, _, _, _, _, _⟩) (v := ?_) rfl (by kernel_rfl) (by kernel_rfl) (by kernel_rfl) (fun _ _ _ h => h) (by rfl) ?_ HB6.out ?_
        rotate_left
        · intro W hW; have hq := HK.out W hW; go_simp; with_reducible rfl
        simp only [Act.put, List.setIfInBounds_toArray, List.set_cons_zero, List.set_cons_succ]
        refine wpAnyH_done (by kernel_rfl) ?_ _
        go_wp2
        exact ⟨⟨_, by go_num, by omega, HGOOD.out, HBW.out.trans (HB6.out.mono HBW.out.size)⟩, by simp [intOf]; omega⟩
      | succ j =>
        have hjl : j < es.length := by rw [← HN.out]; omega
        have hzj : es[j]? = some es[j] := List.getElem?_eq_getElem hjl
        have hcj := ((hcell j es[j] hzj).below (HB.out.mono hB) hbB).1
        have HPR := Lib.hid (prev_succ es j es[j] hzj)
        generalize es[j].key = pk at hcj HPR
        have HCJ := Lib.hid hcj
        clear hcj hzj hjl hcell
        go_wp2_with fail
        have VX := Lib.hid (show Ex (wr.alloc (.cells #[.int .i64 xk, .int .i64 xn, .int .i64 xd, .float .f64 xv] 58)) wr.heap.size ⟨xk, xn, xd, xv⟩ from hat _ _ _ rfl)
        have HBW := Lib.hid (bal HB.out (Nat.le_refl _) (.cells #[.int .i64 xk, .int .i64 xn, .int .i64 xd, .float .f64 xv] 58))
        have HCJ := Lib.hid (show (wr.alloc (.cells #[.int .i64 xk, .int .i64 xn, .int .i64 xd, .float .f64 xv] 58)).cell? ⟨b, o + j * 4, none⟩ = some (.int .i64 pk) from ((bal (Below.refl wr.heap.size wr) (Nat.le_refl _) _).cell (by show b < _; omega)).trans HCJ.out)
        have hsz1 : b < (wr.alloc (.cells #[.int .i64 xk, .int .i64 xn, .int .i64 xd, .float .f64 xv] 58)).heap.size := by rw [World.size_alloc]; omega
        generalize wr.alloc (.cells #[.int .i64 xk, .int .i64 xn, .int .i64 xd, .float .f64 xv] 58) = w1 at VX HBW HCJ hsz1 ⊢
        generalize wr.heap.size = gx at VX ⊢
        have HK : Hid (∀ W', Below w1.heap.size w1 W' → (W'.cell? ⟨gx, 0, none⟩ = some (.int .i64 xk) ∧ W'.cell? ⟨gx, 1, none⟩ = some (.int .i64 xn) ∧ W'.cell? ⟨gx, 2, none⟩ = some (.int .i64 xd) ∧ W'.cell? ⟨gx, 3, none⟩ = some (.float .f64 xv)) ∧ W'.cell? ⟨b, o + j * 4, none⟩ = some (.int .i64 pk)) := Lib.hid (fun W' h => ⟨⟨(VX.out.all h).c0, (VX.out.all h).c1, (VX.out.all h).c2, (VX.out.all h).c3⟩, (h.cell (by show b < _; omega)).trans HCJ.out⟩)
        clear x0 x1 x2 x3
        have hw1 : IntKind.i64.wrap (j : Int) = (j : Int) := by simp [IntKind.wrap, IntKind.bits, IntKind.signed]; omega
        have hjn : j < n := by omega
        have hjp : (0 : Int) < (j : Int) + 1 := by omega
        refine wp_region_held_drew (S := fun W' => Below w1.heap.size w1 W') (by kernel_rfl) (Below.refl _ _).drew (fun hHeld => ?_)
        generalize w1.drew = w5 at hHeld ⊢
        have HB5 : Hid (Below w1.heap.size w1 w5) := hHeld
        clear hHeld
        refine take_in (i := 0) (oi := ⟨_, _, _, _, _, _⟩) (v := ?_) rfl (by kernel_rfl) (by kernel_rfl) (by kernel_rfl) (fun _ _ _ h => h) (by rfl) ?_ HB5.out ?_
        rotate_left
        · intro W hW; have hq := HK.out W hW; go_simp; with_reducible rfl
        simp only [Act.put, List.setIfInBounds_toArray, List.set_cons_zero, List.set_cons_succ]
        refine take_in (i := 1) (oi := ⟨_, _, _, _, _, _⟩) (v := ?_) rfl (by kernel_rfl) (by kernel_rfl) (by kernel_rfl) (fun _ _ _ h => h) (by rfl) ?_ HB5.out ?_
        rotate_left
        · intro W hW; have hq := HK.out W hW; go_simp; with_reducible rfl
        simp only [Act.put, List.setIfInBounds_toArray, List.set_cons_zero, List.set_cons_succ]
        refine take_in (i := 2) (oi := ⟨_, _, _, _, _, _⟩) (v := ?_) rfl (by kernel_rfl) (by kernel_rfl) (by kernel_rfl) (fun _ _ _ h => h) (by rfl) ?_ HB5.out ?_
        rotate_left
        · intro W hW; have hq := HK.out W hW; go_simp; with_reducible rfl
        simp only [Act.put, List.setIfInBounds_toArray, List.set_cons_zero, List.set_cons_succ]
        rw [decide_eq_false (show ¬ xk < 0 from by have := HH1.out; omega)]
        refine take_in (i := 3) (oi := ⟨_, _, _, _, _, _⟩) (v := ?_) rfl (by kernel_rfl) (by kernel_rfl) (by kernel_rfl) (fun _ _ _ h => h) (by rfl) ?_ HB5.out ?_
        rotate_left
        · intro W hW; have hq := HK.out W hW; go_simp; with_reducible rfl
        simp only [Act.put, List.setIfInBounds_toArray, List.set_cons_zero, List.set_cons_succ]
        refine take_in (i := 4) (oi := ⟨_, _, _, _, _, _⟩) (v := ?_) rfl (by kernel_rfl) (by kernel_rfl) (by kernel_rfl) (fun _ _ _ h => h) (by rfl) ?_ HB5.out ?_
        rotate_left
        · intro W hW; have hq := HK.out W hW; go_simp; with_reducible rfl
        simp only [Act.put, List.setIfInBounds_toArray, List.set_cons_zero, List.set_cons_succ]
        refine take_in (i := 5) (oi := ⟨_, _, _, _, _, _⟩) (v := ?_) rfl (by kernel_rfl) (by kernel_rfl) (by kernel_rfl) (fun _ _ _ h => h) (by rfl) ?_ HB5.out ?_
        rotate_left
        · intro W hW; have hq := HK.out W hW; go_simp; with_reducible rfl
        simp only [Act.put, List.setIfInBounds_toArray, List.set_cons_zero, List.set_cons_succ]
        refine take_in (i := 6) (oi := ⟨_, _, _, _, _, _⟩) (v := ?_) rfl (by kernel_rfl) (by kernel_rfl) (by kernel_rfl) (fun _ _ _ h => h) (by rfl) ?_ HB5.out ?_
        rotate_left
        · intro W hW; have hq := HK.out W hW; go_simp; with_reducible rfl
        simp only [Act.put, List.setIfInBounds_toArray, List.set_cons_zero, List.set_cons_succ]
        rw [decide_eq_false (show ¬ 3 < xk from by have := HH2.out; omega)]
        refine take_in (i := 7) (oi := ⟨_, _, _, _, _, _⟩) (v := ?_) rfl (by kernel_rfl) (by kernel_rfl) (by kernel_rfl) (fun _ _ _ h => h) (by rfl) ?_ HB5.out ?_
        rotate_left
        · intro W hW; have hq := HK.out W hW; go_simp; with_reducible rfl
        simp only [Act.put, List.setIfInBounds_toArray, List.set_cons_zero, List.set_cons_succ]
        refine take_in (i := 8) (oi := ⟨_, _, _, _, _, _⟩) (v := ?_) rfl (by kernel_rfl) (by kernel_rfl) (by kernel_rfl) (fun _ _ _ h => h) (by rfl) ?_ HB5.out ?_
        rotate_left
        · intro W hW; have hq := HK.out W hW; go_simp; with_reducible rfl
        simp only [Act.put, List.setIfInBounds_toArray, List.set_cons_zero, List.set_cons_succ]
        refine take_in (i := 9) (oi := ⟨_, _, _, _, _, _⟩) (v := ?_) rfl (by kernel_rfl) (by kernel_rfl) (by kernel_rfl) (fun _ _ _ h => h) (by rfl) ?_ HB5.out ?_
        rotate_left
        · intro W hW; have hq := HK.out W hW; go_simp; with_reducible rfl
        simp only [Act.put, List.setIfInBounds_toArray, List.set_cons_zero, List.set_cons_succ]
        refine take_in (i := 10) (oi := ⟨_, _, _, _, _, _⟩) (v := ?_) rfl (by kernel_rfl) (by kernel_rfl) (by kernel_rfl) (fun _ _ _ h => h) (by rfl) ?_ HB5.out ?_
        rotate_left
        · intro W hW; have hq := HK.out W hW; go_simp; with_reducible rfl
        simp only [Act.put, List.setIfInBounds_toArray, List.set_cons_zero, List.set_cons_succ]
        refine wpAnyH_ready (rs := [11]) (by kernel_rfl) (by simp) ?_
        refine AllReadyH.cons (o := ⟨_, _, _, _, _, _⟩) rfl (fun K hK => ?_) AllReadyH.nil
        go_simp
        refine (Tgw.right_r xn xd _).mono ?_
        rw [HRI.out]
        rintro e w6 ⟨rfl, hb6⟩
        have HB6 := Lib.hid (HB5.out.trans (hb6.mono HB5.out.size)); clear hb6
        refine hK.out _ _ HB6.out (fun _ => ?_)
        clear hK K
        refine take_in (i := 12) (oi := ⟨_, _, _, _, _, _⟩) (v := ?_) rfl (by kernel_rfl) (by kernel_rfl) (by kernel_rfl) (fun _ _ _ h => h) (by rfl) ?_ HB6.out ?_
        rotate_left
        · intro W hW; have hq := HK.out W hW; go_simp; with_reducible rfl
        simp only [Act.put, List.setIfInBounds_toArray, List.set_cons_zero, List.set_cons_succ]
        refine take_in (i := 13) (oi := ⟨_, _, _, _, _, _⟩) (v := ?_) rfl (by kernel_rfl) (by kernel_rfl) (by kernel_rfl) (fun _ _ _ h => h) (by rfl) ?_ HB6.out ?_
        rotate_left
        · intro W hW; have hq := HK.out W hW; go_simp; with_reducible rfl
        simp only [Act.put, List.setIfInBounds_toArray, List.set_cons_zero, List.set_cons_succ]
        refine take_in (i := 14) (oi := ⟨_, _, _, _, _, _⟩) (v := ?_) rfl (by kernel_rfl) (by kernel_rfl) (by kernel_rfl) (fun _ _ _ h => h) (by rfl) ?_ HB6.out ?_
        rotate_left
        · intro W hW; have hq := HK.out W hW; go_simp; with_reducible rfl
        simp only [Act.put, List.setIfInBounds_toArray, List.set_cons_zero, List.set_cons_succ]
        refine take_in (i := 15) (oi := ⟨_, _, _, _, _, _⟩) (v := ?_) rfl (by kernel_rfl) (by kernel_rfl) (by kernel_rfl) (fun _ _ _ h => h) (by rfl) ?_ HB6.out ?_
        rotate_left
        · intro W hW; have hq := HK.out W hW; go_simp; with_reducible rfl
        simp only [Act.put, List.setIfInBounds_toArray, List.set_cons_zero, List.set_cons_succ]
        refine take_in (i := 16) (oi := ⟨_, _, _, _, _, _⟩) (v := ?_) rfl (by kernel_rfl) (by kernel_rfl) (by kernel_rfl) (fun _ _ _ h => h) (by rfl) ?_ HB6.out ?_
        rotate_left
        · intro W hW; have hq := HK.out W hW; go_simp; with_reducible rfl
        simp only [Act.put, List.setIfInBounds_toArray, List.set_cons_zero, List.set_cons_succ]
        refine take_in (i := 17) (oi := ⟨_, _, _, _, _, _⟩) (v := ?_) rfl (by kernel_rfl) (by kernel_rfl) (by kernel_rfl) (fun _ _ _ h => h) (by rfl) ?_ HB6.out ?_
        rotate_left
        · intro W hW; have hq := HK.out W hW; go_simp; with_reducible rfl
        simp only [Act.put, List.setIfInBounds_toArray, List.set_cons_zero, List.set_cons_succ]
        refine take_in (i := 18) (oi := ⟨_, _, _, _, _, _⟩) (v := ?_) rfl (by kernel_rfl) (by kernel_rfl) (by kernel_rfl) (fun _ _ _ h => h) (by rfl) ?_ HB6.out ?_
        rotate_left
        · intro W hW; have hq := HK.out W hW; go_simp; with_reducible rfl
        simp only [Act.put, List.setIfInBounds_toArray, List.set_cons_zero, List.set_cons_succ]
        refine take_in (i := 19) (oi := ⟨_, _, _, _, _, _⟩) (v := ?_) rfl (by kernel_rfl) (by kernel_rfl) (by kernel_rfl) (fun _ _ _ h => h) (by rfl) ?_ HB6.out ?_
        rotate_left
        · intro W hW; have hq := HK.out W hW; go_simp; with_reducible rfl
        simp only [Act.put, List.setIfInBounds_toArray, List.set_cons_zero, List.set_cons_succ]
        refine take_in (i := 20) (oi := ⟨_, _, _, _, _, _⟩) (v := ?_) rfl (by kernel_rfl) (by kernel_rfl) (by kernel_rfl) (fun _ _ _ h => h) (by rfl) ?_ HB6.out ?_
        rotate_left
        · intro W hW; have hq := HK.out W hW; go_simp; with_reducible rfl
        simp only [Act.put, List.setIfInBounds_toArray, List.set_cons_zero, List.set_cons_succ]
        refine take_in (i := 21) (oi := ⟨_, _, _, _, _, _⟩) (v := ?_) rfl (by kernel_rfl) (by kernel_rfl) (by kernel_rfl) (fun _ _ _ h => h) (by rfl) ?_ HB6.out ?_
        rotate_left
        · intro W hW; have hq := HK.out W hW; go_simp; with_reducible rfl
        simp only [Act.put, List.setIfInBounds_toArray, List.set_cons_zero, List.set_cons_succ]
        refine take_in (i := 22) (oi := ⟨_, _, _, _, _, _⟩) (v := ?_) rfl (by kernel_rfl) (by kernel_rfl) (by kernel_rfl) (fun _ _ _ h => h) (by rfl) ?_ HB6.out ?_
        rotate_left
        · intro W hW; have hq := HK.out W hW; go_simp; with_reducible rfl
        simp only [Act.put, List.setIfInBounds_toArray, List.set_cons_zero, List.set_cons_succ]
        refine take_in (i := 23) (oi := ⟨_, _, _, _, _, _⟩) (v := ?_) rfl (by kernel_rfl) (by kernel_rfl) (by kernel_rfl) (fun _ _ _ h => h) (by rfl) ?_ HB6.out ?_
        rotate_left
        · intro W hW; have hq := HK.out W hW; go_simp; with_reducible rfl
        simp only [Act.put, List.setIfInBounds_toArray, List.set_cons_zero, List.set_cons_succ]
        refine take_in (i := 24) (oi := ⟨_, _, _, _, _, _⟩) (v := ?_) rfl (by kernel_rfl) (by kernel_rfl) (by kernel_rfl) (fun _ _ _ h => h) (by rfl) ?_ HB6.out ?_
        rotate_left
        · intro W hW; have hq := HK.out W hW; go_simp; with_reducible rfl
        simp only [Act.put, List.setIfInBounds_toArray, List.set_cons_zero, List.set_cons_succ]
        refine take_in (i := 25) (oi := ⟨_, _, _, _, _, _⟩) (v := ?_) rfl (by kernel_rfl) (by kernel_rfl) (by kernel_rfl) (fun _ _ _ h => h) (by rfl) ?_ HB6.out ?_
        rotate_left
        · intro W hW; have hq := HK.out W hW; go_simp; with_reducible rfl
        simp only [Act.put, List.setIfInBounds_toArray, List.set_cons_zero, List.set_cons_succ]
        refine take_in (i := 26) (oi := ⟨_, _, _, _, _, _⟩) (v := ?_) rfl (by kernel_rfl) (by kernel_rfl) (by kernel_rfl) (fun _ _ _ h => h) (by rfl) ?_ HB6.out ?_
        rotate_left
        · intro W hW; have hq := HK.out W hW; go_simp; with_reducible rfl
        simp only [Act.put, List.setIfInBounds_toArray, List.set_cons_zero, List.set_cons_succ]
        refine take_in (i := 27) (oi := ⟨_, _, _, _, _, _⟩) (v := ?_) rfl (by kernel_rfl) (by kernel_rfl) (by kernel_rfl) (fun _ _ _ h => h) (by rfl) ?_ HB6.out ?_
        rotate_left
        · intro W hW; have hq := HK.out W hW; go_simp; with_reducible rfl
        simp only [Act.put, List.setIfInBounds_toArray, List.set_cons_zero, List.set_cons_succ]
        refine take_in (i := 28) (oi := ⟨_, _, _, _, _, _⟩) (v := ?_) rfl (by kernel_rfl) (by kernel_rfl) (by kernel_rfl) (fun _ _ _ h => h) (by rfl) ?_ HB6.out ?_
        rotate_left
        · intro W hW; have hq := HK.out W hW; go_simp; with_reducible rfl
        simp only [Act.put, List.setIfInBounds_toArray, List.set_cons_zero, List.set_cons_succ]
        refine take_in (i := 29) (oi := ⟨_, _, _, _, _, _⟩) (v := ?_) rfl (by kernel_rfl) (by kernel_rfl) (by kernel_rfl) (fun _ _ _ h => h) (by rfl) ?_ HB6.out ?_
        rotate_left
        · intro W hW; have hq := HK.out W hW; go_simp; with_reducible rfl
        simp only [Act.put, List.setIfInBounds_toArray, List.set_cons_zero, List.set_cons_succ]
        refine take_in (i := 30) (oi := ⟨_, _, _, _, _, _⟩) (v := ?_) rfl (by kernel_rfl) (by kernel_rfl) (by kernel_rfl) (fun _ _ _ h => h) (by rfl) ?_ HB6.out ?_
        rotate_left
        · intro W hW; have hq := HK.out W hW; go_simp; with_reducible rfl
        simp only [Act.put, List.setIfInBounds_toArray, List.set_cons_zero, List.set_cons_succ]
        refine take_in (i := 31) (oi := ⟨_, _, _, _, _, _⟩) (v := ?_) rfl (by kernel_rfl) (by kernel_rfl) (by kernel_rfl) (fun _ _ _ h => h) (by rfl) ?_ HB6.out ?_
        rotate_left
        · intro W hW; have hq := HK.out W hW; go_simp; with_reducible rfl
        simp only [Act.put, List.setIfInBounds_toArray, List.set_cons_zero, List.set_cons_succ]
        refine take_in (i := 32) (oi := ⟨_, _, _, _, _, _⟩) (v := ?_) rfl (by kernel_rfl) (by kernel_rfl) (by kernel_rfl) (fun _ _ _ h => h) (by rfl) ?_ HB6.out ?_
        rotate_left
        · intro W hW; have hq := HK.out W hW; go_simp; with_reducible rfl
        simp only [Act.put, List.setIfInBounds_toArray, List.set_cons_zero, List.set_cons_succ]
        obtain ⟨v, hv⟩ : ∃ v, v = decide (xk ≤ pk) := ⟨_, rfl⟩
        rw [← hv]
        have HV := Lib.hid hv; clear hv
        cases v with
        | true =>
          have HR71 := Lib.hid (HBAD.out (Or.inr (by rw [HPR.out]; have := of_decide_eq_true HV.out.symm; omega)))
          refine take_in (i := 33) (oi := ⟨_, _, _, _, _, _⟩) (v := ?_) rfl (by kernel_rfl) (by kernel_rfl) (by kernel_rfl) (fun _ _ _ h => h) (by rfl) ?_ HB6.out ?_
          rotate_left
          · intro W hW; have hq := HK.out W hW; go_simp; with_reducible rfl
          simp only [Act.put, List.setIfInBounds_toArray, List.set_cons_zero, List.set_cons_succ]
          refine take_in (i := 34) (oi := ⟨_, _, _, _, _, _⟩) (v := ?_) rfl (by kernel_rfl) (by kernel_rfl) (by kernel_rfl) (fun _ _ _ h => h) (by rfl) ?_ HB6.out ?_
          rotate_left
          · intro W hW; have hq := HK.out W hW; go_simp; with_reducible rfl
          simp only [Act.put, List.setIfInBounds_toArray, List.set_cons_zero, List.set_cons_succ]
          refine wpAnyH_done (by kernel_rfl) ?_ _
          go_wp2
          go_ret
          exact ⟨by rw [HR71.out]; rfl, HBW.out.trans (HB6.out.mono HBW.out.size)⟩
        | false =>
          have HGOOD := Lib.hid (HGO.out (by rw [HPR.out]; have := of_decide_eq_false HV.out.symm; omega))
          refine take_in (i := 33) (oi := ⟨_, _, _, _, _, _⟩) (v := ?_) rfl (by kernel_rfl) (by kernel_rfl) (by kernel_rfl) (fun _ _ _ h => h) (by rfl) ?_ HB6.out ?_
          rotate_left
          · intro W hW; have hq := HK.out W hW; go_simp; with_reducible rfl
          simp only [Act.put, List.setIfInBounds_toArray, List.set_cons_zero, List.set_cons_succ]
          refine take_in (i := 34) (oi := ⟨_, _, _, _, _, _⟩) (v := ?_) rfl (by kernel_rfl) (by kernel_rfl) (by kernel_rfl) (fun _ _ _ h => h) (by rfl) ?_ HB6.out ?_
          rotate_left
          · intro W hW; have hq := HK.out W hW; go_simp; with_reducible rfl
          simp only [Act.put, List.setIfInBounds_toArray, List.set_cons_zero, List.set_cons_succ]
          refine wpAnyH_done (by kernel_rfl) ?_ _
          go_wp2
          exact ⟨⟨_, by go_num, by omega, HGOOD.out, HBW.out.trans (HB6.out.mono HBW.out.size)⟩, by simp [intOf]; omega⟩
    · obtain rfl : k = n := by omega
      have HR0 := Lib.hid (HZ.out (by rw [HA.out, List.drop_of_length_le (by rw [← HN.out]; omega)]; rfl))
      go_wp2
      go_ret
      exact ⟨by rw [HR0.out]; rfl, HB.out⟩
end Go.Proofs.YtfblnomkafimhaaGreat.Bkw

namespace Go.Proofs.YtfblnomkafimhaaGreat.Bkw
set_option maxRecDepth 20000
open Go.RowKit
open Tg Bk
open Tgw (bal hat hbe ret_bool tv)

theorem eq_tagE (a b c d : Int) (w : World) : (Op.equalIn 10000 55 (.agg #[.int .i64 a, .int .i64 b]) (.agg #[.int .i64 c, .int .i64 d])).run Tryz.prog w = .ok (a == c && b == d) w := Tgw.eq_tag a b c d w
theorem mergeK_len (a b : List E) : ∀ k, (mergeK a b k).length ≤ k
  | 0 => Nat.le_refl _
  | k + 1 => by
    show (mergeK a b k ++ _).length ≤ _
    rw [List.length_append]
    have := mergeK_len a b k
    split <;> simp <;> omega
/-- the newer of two is not the first just where the first is older -/
theorem max_ne (a b c d : Int) : (!((maxT [(a, b), (c, d)]).1 == a && (maxT [(a, b), (c, d)]).2 == b)) = less (a, b) (c, d) := by
  show (!((if less (a, b) (c, d) then (c, d) else (a, b)).1 == a && (if less (a, b) (c, d) then (c, d) else (a, b)).2 == b)) = less (a, b) (c, d)
  cases h : less (a, b) (c, d) with
  | false => simp
  | true =>
    rw [less_iff] at h
    simp only at h
    simp only [if_true, Bool.not_eq_true', Bool.and_eq_false_iff, beq_eq_false_iff_ne]
    omega
theorem tag_zero (z : E) (v : Bool) (h : (z.num == 0 && z.node == 0) = v) : (if z.tag = (0, 0) then [] else [z]) = if v then [] else [z] := by
  have : (z.tag = (0, 0)) ↔ v = true := by
    subst h
    unfold E.tag
    simp
  by_cases hz : z.tag = (0, 0)
  · rw [if_pos hz, if_pos (this.1 hz)]
  · rw [if_neg hz, if_neg (fun hv => hz (this.2 hv))]
set_option maxHeartbeats 1000000 in
theorem merge_r (A : Option Addr) (n c : Nat) (es : List E) (hn : n = es.length) (hl : n ≤ 140737488355328) (A2 : Option Addr) (n2 c2 : Nat) (fs : List E) (hn2 : n2 = fs.length) (hl2 : n2 ≤ 140737488355328) (B : Nat) (w : World) (hr : Re w B A es) (hr2 : Re w B A2 fs) (hB : B ≤ w.heap.size) :
    Calls Tryz.prog 66 #[.slice A n c, .slice A2 n2 c2] w (RetOwnE w w.heap.size (merge es fs)) := by
  have hsf := store_flt
  have hft := field_tag
  have heq := eq_tagE
  have HFA : Hid (∀ (key : Int) (W : World), Below w.heap.size w W → Calls Tryz.prog 106 #[.slice A n c, .int .i64 key] W fun e w' => e = .returned (ev (find es key)) ∧ Below W.heap.size W w') := Lib.hid (fun key W hW => find_r A n c es hn hl key B W (hr.below (hW.mono hB)) (Nat.le_trans hB hW.size))
  have HFB : Hid (∀ (key : Int) (W : World), Below w.heap.size w W → Calls Tryz.prog 106 #[.slice A2 n2 c2, .int .i64 key] W fun e w' => e = .returned (ev (find fs key)) ∧ Below W.heap.size W w') := Lib.hid (fun key W hW => find_r A2 n2 c2 fs hn2 hl2 key B W (hr2.below (hW.mono hB)) (Nat.le_trans hB hW.size))
  clear hn hr hr2 hn2 hl2 hl
  go_enter Tryz.func66, Tryz.ntmps66
  go_wp2
  go_loopw [5, 6] (fun x i wr => ∃ (A3 : Option Addr) (m c3 k : Nat), x = .slice A3 m c3 ∧ i = .int .i64 k ∧ k ≤ 4 ∧ OwnE wr w.heap.size A3 m c3 (mergeK es fs k) ∧ Below w.heap.size w wr) (fun _ i _ => 4 - (intOf i).toNat)
  case atStart => exact ⟨_, 0, 0, 0, rfl, rfl, by omega, ownE_new _ _ _ rfl (Nat.le_refl _), bal (Below.refl _ _) (Nat.le_refl _) _⟩
  case round =>
    obtain ⟨A3, m, c3, k, rfl, rfl, hk, ho, hb⟩ := hrel
    have HB := Lib.hid hb; have HO := Lib.hid ho
    have hmk : m ≤ k := by rw [ho.1]; exact mergeK_len es fs k
    have hsz := hb.size
    clear hb ho
    by_cases h : k < 4
    · have HMT : Hid (mergeK es fs (k + 1) = mergeK es fs k ++ if (pick es fs k).tag = (0, 0) then [] else [pick es fs k]) := Lib.hid rfl
      have HPK : Hid (pick es fs k = if less (find es k).tag (find fs k).tag then find fs k else find es k) := Lib.hid rfl
      generalize pick es fs k = pk at HMT HPK
      go_wp2_with fail
      refine (HFA.out _ _ HB.out).mono ?_
      rintro e w1 ⟨rfl, hb1⟩
      have HO := Lib.hid (HO.out.below hb1 (Nat.le_refl _))
      have HB := Lib.hid (HB.out.trans (hb1.mono HB.out.size)); clear hb1
      generalize find es (k : Int) = x at HPK ⊢
      go_wp2_with fail
      refine (HFB.out _ _ HB.out).mono ?_
      rintro e w2 ⟨rfl, hb2⟩
      have HO := Lib.hid (HO.out.below hb2 (Nat.le_refl _))
      have HB := Lib.hid (HB.out.trans (hb2.mono HB.out.size)); clear hb2
      have hszg := HB.out.size
      generalize find fs (k : Int) = y at HPK ⊢
      unfold ev
      go_wp2_with fail
      have VX := Lib.hid (show Ex ((w2.alloc (.cells #[.int .i64 x.key, .int .i64 x.num, .int .i64 x.node, .float .f64 x.val] 58)).alloc (.cells #[.int .i64 y.key, .int .i64 y.num, .int .i64 y.node, .float .f64 y.val] 58)) w2.heap.size x from hbe (hat _ _ _ rfl))
      have VY := Lib.hid (show Ex ((w2.alloc (.cells #[.int .i64 x.key, .int .i64 x.num, .int .i64 x.node, .float .f64 x.val] 58)).alloc (.cells #[.int .i64 y.key, .int .i64 y.num, .int .i64 y.node, .float .f64 y.val] 58)) (w2.heap.size + 1) y from hat _ _ _ (by simp))
      have HOO : Hid (∀ W', Below w2.heap.size w2 W' → OwnE W' w.heap.size A3 m c3 (mergeK es fs k)) := Lib.hid (fun W' h => HO.out.below h (Nat.le_refl _))
      have HBG := Lib.hid (bal (bal (Below.refl w2.heap.size w2) (Nat.le_refl _) (.cells #[.int .i64 x.key, .int .i64 x.num, .int .i64 x.node, .float .f64 x.val] 58)) (Nat.le_refl _) (.cells #[.int .i64 y.key, .int .i64 y.num, .int .i64 y.node, .float .f64 y.val] 58))
      have HO := Lib.hid ((HO.out.alloc (.cells #[.int .i64 x.key, .int .i64 x.num, .int .i64 x.node, .float .f64 x.val] 58)).alloc (.cells #[.int .i64 y.key, .int .i64 y.num, .int .i64 y.node, .float .f64 y.val] 58))
      have HB := Lib.hid (bal (bal HB.out (Nat.le_refl _) (.cells #[.int .i64 x.key, .int .i64 x.num, .int .i64 x.node, .float .f64 x.val] 58)) (Nat.le_refl _) (.cells #[.int .i64 y.key, .int .i64 y.num, .int .i64 y.node, .float .f64 y.val] 58))
      generalize ((w2.alloc (.cells #[.int .i64 x.key, .int .i64 x.num, .int .i64 x.node, .float .f64 x.val] 58)).alloc (.cells #[.int .i64 y.key, .int .i64 y.num, .int .i64 y.node, .float .f64 y.val] 58)) = w3 at VX VY HO HB HBG ⊢
      generalize w2.heap.size = gx at VX VY hszg HOO HBG ⊢
      have HK : Hid (∀ W', Below w3.heap.size w3 W' → (W'.cell? ⟨gx, 0, none⟩ = some (.int .i64 x.key) ∧ W'.cell? ⟨gx, 1, none⟩ = some (.int .i64 x.num) ∧ W'.cell? ⟨gx, 2, none⟩ = some (.int .i64 x.node) ∧ W'.cell? ⟨gx, 3, none⟩ = some (.float .f64 x.val)) ∧ (W'.cell? ⟨gx + 1, 0, none⟩ = some (.int .i64 y.key) ∧ W'.cell? ⟨gx + 1, 1, none⟩ = some (.int .i64 y.num) ∧ W'.cell? ⟨gx + 1, 2, none⟩ = some (.int .i64 y.node) ∧ W'.cell? ⟨gx + 1, 3, none⟩ = some (.float .f64 y.val))) := Lib.hid (fun W' h => ⟨⟨(VX.out.all h).c0, (VX.out.all h).c1, (VX.out.all h).c2, (VX.out.all h).c3⟩, (VY.out.all h).c0, (VY.out.all h).c1, (VY.out.all h).c2, (VY.out.all h).c3⟩)
      refine wp_region_held_drew (S := fun W' => Below w3.heap.size w3 W') (by kernel_rfl) (Below.refl _ _).drew (fun hHeld => ?_)
      generalize w3.drew = w5 at hHeld ⊢
      have HB5 : Hid (Below w3.heap.size w3 w5) := hHeld
      clear hHeld
      refine take_in (i := 0) (oi := ⟨_, _, _, _, _, _⟩) (v := ?_) rfl (by kernel_rfl) (by kernel_rfl) (by kernel_rfl) (fun _ _ _ h => h) (by rfl) ?_ HB5.out ?_
      rotate_left
      · intro W hW; have hq := HK.out W hW; go_simp; with_reducible rfl
      simp only [Act.put, List.setIfInBounds_toArray, List.set_cons_zero, List.set_cons_succ]
      refine take_in (i := 1) (oi := ⟨_, _, _, _, _, _⟩) (v := ?_) rfl (by kernel_rfl) (by kernel_rfl) (by kernel_rfl) (fun _ _ _ h => h) (by rfl) ?_ HB5.out ?_
      rotate_left
      · intro W hW; have hq := HK.out W hW; go_simp; with_reducible rfl
      simp only [Act.put, List.setIfInBounds_toArray, List.set_cons_zero, List.set_cons_succ]
      refine take_in (i := 2) (oi := ⟨_, _, _, _, _, _⟩) (v := ?_) rfl (by kernel_rfl) (by kernel_rfl) (by kernel_rfl) (fun _ _ _ h => h) (by rfl) ?_ HB5.out ?_
      rotate_left
      · intro W hW; have hq := HK.out W hW; go_simp; with_reducible rfl
      simp only [Act.put, List.setIfInBounds_toArray, List.set_cons_zero, List.set_cons_succ]
      refine take_in (i := 3) (oi := ⟨_, _, _, _, _, _⟩) (v := ?_) rfl (by kernel_rfl) (by kernel_rfl) (by kernel_rfl) (fun _ _ _ h => h) (by rfl) ?_ HB5.out ?_
      rotate_left
      · intro W hW; have hq := HK.out W hW; go_simp; with_reducible rfl
      simp only [Act.put, List.setIfInBounds_toArray, List.set_cons_zero, List.set_cons_succ]
      refine take_in (i := 6) (oi := ⟨_, _, _, _, _, _⟩) (v := ?_) rfl (by kernel_rfl) (by kernel_rfl) (by kernel_rfl) (fun _ _ _ h => h) (by rfl) ?_ HB5.out ?_
      rotate_left
      · intro W hW; have hq := HK.out W hW; go_simp; with_reducible rfl
      simp only [Act.put, List.setIfInBounds_toArray, List.set_cons_zero, List.set_cons_succ]
      refine take_in (i := 7) (oi := ⟨_, _, _, _, _, _⟩) (v := ?_) rfl (by kernel_rfl) (by kernel_rfl) (by kernel_rfl) (fun _ _ _ h => h) (by rfl) ?_ HB5.out ?_
      rotate_left
      · intro W hW; have hq := HK.out W hW; go_simp; with_reducible rfl
      simp only [Act.put, List.setIfInBounds_toArray, List.set_cons_zero, List.set_cons_succ]
      refine wpAnyH_ready (rs := [4]) (by kernel_rfl) (by simp) ?_
      refine AllReadyH.cons (o := ⟨_, _, _, _, _, _⟩) rfl (fun K hK => ?_) AllReadyH.nil
      go_simp
      refine hK.out _ _ (bal HB5.out (Nat.le_refl _) _) (fun _ => ?_)
      clear hK K
      have RX := Lib.hid (show Tgw.Rt (w5.alloc (.cells #[.int .i64 x.num, .int .i64 x.node, .int .i64 y.num, .int .i64 y.node] 55)) (w5.alloc (.cells #[.int .i64 x.num, .int .i64 x.node, .int .i64 y.num, .int .i64 y.node] 55)).heap.size (some ⟨w5.heap.size, 0, none⟩) [(x.num, x.node), (y.num, y.node)] from (Tgw.rt_new w5 [(x.num, x.node), (y.num, y.node)]).more (by simp))
      have HB5 := Lib.hid (bal HB5.out (Nat.le_refl _) (.cells #[.int .i64 x.num, .int .i64 x.node, .int .i64 y.num, .int .i64 y.node] 55))
      generalize w5.alloc (.cells #[.int .i64 x.num, .int .i64 x.node, .int .i64 y.num, .int .i64 y.node] 55) = w6 at RX HB5 ⊢
      generalize w5.heap.size = gt at RX ⊢
      refine wpAnyH_ready (rs := [5]) (by kernel_rfl) (by simp) ?_
      refine AllReadyH.cons (o := ⟨_, _, _, _, _, _⟩) rfl (fun K hK => ?_) AllReadyH.nil
      go_simp
      refine (Tgw.max_r _ 2 2 [(x.num, x.node), (y.num, y.node)] rfl (by omega) _ _ RX.out (Nat.le_refl _)).mono ?_
      rintro e w7 ⟨rfl, hb7⟩
      have HB7 := Lib.hid (HB5.out.trans (hb7.mono HB5.out.size)); clear hb7 RX
      refine hK.out _ _ HB7.out (fun _ => ?_)
      clear hK K
      have HL := Lib.hid (max_ne x.num x.node y.num y.node)
      have HPK : Hid (pk = if less (x.num, x.node) (y.num, y.node) then y else x) := HPK
      generalize (maxT [(x.num, x.node), (y.num, y.node)]).1 = mx at HL ⊢
      generalize (maxT [(x.num, x.node), (y.num, y.node)]).2 = my at HL ⊢
      unfold tv
      have hl2 := HL.out
      refine take_in (i := 8) (oi := ⟨_, _, _, _, _, _⟩) (v := ?_) rfl (by kernel_rfl) (by kernel_rfl) (by kernel_rfl) (fun _ _ _ h => h) (by rfl) ?_ HB7.out ?_
      rotate_left
      · intro W hW; go_simp; with_reducible rfl
      simp only [Act.put, List.setIfInBounds_toArray, List.set_cons_zero, List.set_cons_succ]
      refine wpAnyH_done (by kernel_rfl) ?_ _
      have HO := Lib.hid (HO.out.below HB7.out (Nat.le_refl _))
      have hgx := VX.out.lt
      have VX := Lib.hid (VX.out.all HB7.out)
      have VY := Lib.hid (VY.out.all HB7.out)
      have HBZ := Lib.hid (HB.out.trans (HB7.out.mono HB.out.size))
      have HBG := Lib.hid (HBG.out.trans (HB7.out.mono (Nat.le_of_lt hgx)))
      clear hl2 HL HK
      cases hx : less (x.num, x.node) (y.num, y.node) with
      | false =>
        rw [hx] at HPK
        clear hx
        obtain rfl : pk = x := HPK.out
        have x0 := VX.out.c0; have x1 := VX.out.c1; have x2 := VX.out.c2; have x3 := VX.out.c3
        cases hv : (pk.num == 0 && pk.node == 0) with
        | false =>
          have HMT := Lib.hid (HMT.out.trans (by rw [tag_zero _ _ hv]))
          have hv2 : (!(pk.num == 0 && pk.node == 0)) = true := by rw [hv]; rfl
          skip
          go_wp2_with (at_builtin; refine wp_appE rfl (.tmp 34) (.tmp 36) rfl w.heap.size A3 m c3 _ rfl (HO.out.alloc _) w7.heap.size 0 1 1 [pk] rfl rfl (one_cells _ [pk]) (by omega) (Nat.le_trans HBZ.out.size (by simp)) ?_; intro A4 c4 w9 ho4 hb4)
          refine ⟨⟨A4, m + 1, c4, k + 1, rfl, by go_num, by omega, ?_, (bal HBZ.out (Nat.le_refl _) _).trans hb4⟩, by simp [intOf]; omega⟩
          rw [HMT.out]
          exact ho4
        | true =>
          have HMT := Lib.hid (HMT.out.trans (by rw [tag_zero _ _ hv]))
          have hv2 : (!(pk.num == 0 && pk.node == 0)) = false := by rw [hv]; rfl
          go_wp2
          refine ⟨⟨A3, m, c3, k + 1, rfl, by go_num, by omega, ?_, HBZ.out⟩, by simp [intOf]; omega⟩
          rw [HMT.out]
          simpa using HO.out
      | true =>
        rw [hx] at HPK
        clear hx
        obtain rfl : pk = y := HPK.out
        have x0 := VX.out.c0; have x1 := VX.out.c1; have x2 := VX.out.c2; have x3 := VX.out.c3
        have y0 := VY.out.c0; have y1 := VY.out.c1; have y2 := VY.out.c2; have y3 := VY.out.c3
        have z0 := frozen_of_row w7 gx 0 _ _ VX.out
        have z1 := frozen_of_row w7 gx 1 _ _ VX.out
        have z2 := frozen_of_row w7 gx 2 _ _ VX.out
        have z3 := frozen_of_row w7 gx 3 _ _ VX.out
        go_upto_region 8 with (fail)
        have VX := Lib.hid (VX.out.put pk)
        have HBZ := Lib.hid (show Below w.heap.size w ((((w7.setCell ⟨gx, 0, none⟩ (.int .i64 pk.key)).setCell ⟨gx, 1, none⟩ (.int .i64 pk.num)).setCell ⟨gx, 2, none⟩ (.int .i64 pk.node)).setCell ⟨gx, 3, none⟩ (.float .f64 pk.val)) from (((HBZ.out.setCell (by show _ ≤ gx; omega) _).setCell (by show _ ≤ gx; omega) _).setCell (by show _ ≤ gx; omega) _).setCell (by show _ ≤ gx; omega) _)
        have HO := Lib.hid (show OwnE ((((w7.setCell ⟨gx, 0, none⟩ (.int .i64 pk.key)).setCell ⟨gx, 1, none⟩ (.int .i64 pk.num)).setCell ⟨gx, 2, none⟩ (.int .i64 pk.node)).setCell ⟨gx, 3, none⟩ (.float .f64 pk.val)) _ _ _ _ _ from HOO.out _ ((((HBG.out.setCell (Nat.le_refl _) _).setCell (Nat.le_refl _) _).setCell (Nat.le_refl _) _).setCell (Nat.le_refl _) _))
        clear x0 x1 x2 x3 y0 y1 y2 y3 z0 z1 z2 z3 HOO HBG
        generalize (((w7.setCell ⟨gx, 0, none⟩ (.int .i64 pk.key)).setCell ⟨gx, 1, none⟩ (.int .i64 pk.num)).setCell ⟨gx, 2, none⟩ (.int .i64 pk.node)).setCell ⟨gx, 3, none⟩ (.float .f64 pk.val) = w8 at VX HBZ HO ⊢
        have x0 := VX.out.c0; have x1 := VX.out.c1; have x2 := VX.out.c2; have x3 := VX.out.c3
        cases hv : (pk.num == 0 && pk.node == 0) with
        | false =>
          have HMT := Lib.hid (HMT.out.trans (by rw [tag_zero _ _ hv]))
          have hv2 : (!(pk.num == 0 && pk.node == 0)) = true := by rw [hv]; rfl
          skip
          go_wp2_with (at_builtin; refine wp_appE rfl (.tmp 34) (.tmp 36) rfl w.heap.size A3 m c3 _ rfl (HO.out.alloc _) w8.heap.size 0 1 1 [pk] rfl rfl (one_cells _ [pk]) (by omega) (Nat.le_trans HBZ.out.size (by simp)) ?_; intro A4 c4 w9 ho4 hb4)
          refine ⟨⟨A4, m + 1, c4, k + 1, rfl, by go_num, by omega, ?_, (bal HBZ.out (Nat.le_refl _) _).trans hb4⟩, by simp [intOf]; omega⟩
          rw [HMT.out]
          exact ho4
        | true =>
          have HMT := Lib.hid (HMT.out.trans (by rw [tag_zero _ _ hv]))
          have hv2 : (!(pk.num == 0 && pk.node == 0)) = false := by rw [hv]; rfl
          go_wp2
          refine ⟨⟨A3, m, c3, k + 1, rfl, by go_num, by omega, ?_, HBZ.out⟩, by simp [intOf]; omega⟩
          rw [HMT.out]
          simpa using HO.out
    · obtain rfl : k = 4 := by omega
      go_wp2
      go_ret
      exact ⟨A3, m, c3, rfl, HO.out, HB.out⟩
end Go.Proofs.YtfblnomkafimhaaGreat.Bkw

namespace Go.Proofs.YtfblnomkafimhaaGreat.Bkw
set_option maxRecDepth 20000
open Go.RowKit
open Tg Bk
open Tgw (bal hat hbe ret_bool tv)

/-- the slice A holds these entries, all that is now in memory -/
def So (w : World) (A : Option Addr) (n c : Nat) (es : List E) : Prop := n = es.length ∧ n ≤ c ∧ n * 32 ≤ 140737488355328 ∧ (∀ e ∈ es, WfE e) ∧ Re w w.heap.size A es
theorem So.all {w w' : World} {A : Option Addr} {n c : Nat} {es : List E} (h : So w A n c es) (hb : Below w.heap.size w w') : So w' A n c es :=
  ⟨h.1, h.2.1, h.2.2.1, h.2.2.2.1, (h.2.2.2.2.below hb).more hb.size⟩
theorem So.alloc {w : World} {A : Option Addr} {n c : Nat} {es : List E} (h : So w A n c es) (o : Obj) : So (w.alloc o) A n c es := h.all (bal (Below.refl _ _) (Nat.le_refl _) o)
theorem So.nil (w : World) : So w none 0 0 [] := ⟨rfl, Nat.le_refl _, by omega, by simp, Re.nil⟩
theorem So.u64 {w : World} {A : Option Addr} {n c : Nat} {es : List E} (h : So w A n c es) : ∀ e ∈ es, Flt.U64 e.val := fun e he => (h.2.2.2.1 e he).2.2.2
/-- a slice of entries is answered -/
def RetSl (w : World) (l : List E) (e : Ending) (w' : World) : Prop := ∃ A n c, e = .returned (.slice A n c) ∧ So w' A n c l ∧ Below w.heap.size w w'
theorem retSl_own {w : World} {l : List E} (hl : l.length * 32 ≤ 140737488355328) (hw : ∀ e ∈ l, WfE e) {e : Ending} {w' : World} (h : RetOwnE w w.heap.size l e w') : RetSl w l e w' := by
  obtain ⟨A, n, c, he, ho, hb⟩ := h
  exact ⟨A, n, c, he, ⟨ho.1, ho.cap, by rw [ho.1]; exact hl, hw, ho.re⟩, hb⟩
theorem same_o (A : Option Addr) (n c : Nat) (es : List E) (A2 : Option Addr) (n2 c2 : Nat) (fs : List E) (w : World) (h : So w A n c es) (h2 : So w A2 n2 c2 fs) : Calls Tryz.prog 27 #[.slice A n c, .slice A2 n2 c2] w fun e w' => e = .returned (.bool (same es fs)) ∧ Below w.heap.size w w' :=
  same_r A n c es h.1 (by have := h.2.2.1; omega) h.u64 A2 n2 c2 fs h2.1 h2.u64 _ w h.2.2.2.2 h2.2.2.2.2 (Nat.le_refl _)
theorem wf_news (es fs : List E) (h : ∀ e ∈ fs, WfE e) : ∀ e ∈ news es fs, WfE e := fun e he => h e (news_mem es fs e he).1
end Go.Proofs.YtfblnomkafimhaaGreat.Bkw

namespace Go.Proofs.YtfblnomkafimhaaGreat.Tgw
set_option maxRecDepth 20000
open Go.RowKit
open Tg

theorem less_any (a b : Int × Int) (w : World) : Calls Tryz.prog 111 #[tv a.1 a.2, tv b.1 b.2] w fun e w' => e = .returned (.bool (less a b)) ∧ Below w.heap.size w w' := by
  obtain ⟨n, d⟩ := a
  obtain ⟨m, c⟩ := b
  show Calls Tryz.prog 111 #[tv n d, tv m c] w _
  unfold tv
  by_cases h0 : n = m
  · subst h0
    go_enter Tryz.func111, Tryz.ntmps111
    go_wp2
    go_ret
    refine ⟨ret_bool ?_, ((Below.refl _ _).alloc (Nat.le_refl _) _).alloc (by simp) _⟩
    unfold less
    exact decide_eq_decide.2 (by show d < c ↔ n < n ∨ n = n ∧ d < c; omega)
  · have hq : (n == m) = false := by rw [beq_eq_false_iff_ne]; exact h0
    have HQ := Lib.hid h0; clear h0
    go_enter Tryz.func111, Tryz.ntmps111
    go_wp2
    go_ret
    refine ⟨ret_bool ?_, ((Below.refl _ _).alloc (Nat.le_refl _) _).alloc (by simp) _⟩
    have h0 := HQ.out
    unfold less
    exact decide_eq_decide.2 (by show n < m ↔ n < m ∨ n = m ∧ d < c; omega)
theorem Rt.drop {w : World} {B : Nat} {A : Option Addr} {ts : List (Int × Int)} (h : Rt w B A ts) (k c : Nat) (hc : ts.length ≤ c) : Rt w B (if c = k then A else A.map (·.add (k * 2))) (ts.drop k) := by
  intro hn
  rw [List.length_drop] at hn
  obtain ⟨b, o, rfl, hb, hcell⟩ := h (by omega)
  rw [if_neg (by omega)]
  refine ⟨b, o + k * 2, ?_, hb, fun j u hu => ?_⟩
  · simp only [Option.map_some, Option.some.injEq]
    unfold Addr.add
    split <;> simp_all
  · rw [List.getElem?_drop] at hu
    have := hcell (k + j) u hu
    rw [show o + (k + j) * 2 = o + k * 2 + j * 2 by omega] at this
    exact this
end Go.Proofs.YtfblnomkafimhaaGreat.Tgw

namespace Go.Proofs.YtfblnomkafimhaaGreat.Bkw
set_option maxRecDepth 20000
open Go.RowKit
open Tg Bk
open Tgw (bal hat hbe ret_bool tv)

theorem clos_c (x : E) (key : Int) (g : Nat) (w : World) (hg : w.cell? ⟨g, 0, none⟩ = some (.int .i64 key)) (hl : g < w.heap.size) : Calls Tryz.prog 154 #[ev x, .pointer (some ⟨g, 0, none⟩)] w fun e w' => e = .returned (.bool (x.key == key)) ∧ Below w.heap.size w w' := by
  obtain ⟨xk, xn, xd, xv⟩ := x
  have hg2 : (w.alloc (.cells #[.int .i64 xk, .int .i64 xn, .int .i64 xd, .float .f64 xv] 58)).cell? ⟨g, 0, none⟩ = some (.int .i64 key) := ((bal (Below.refl w.heap.size w) (Nat.le_refl _) _).cell (by show g < _; omega)).trans hg
  unfold ev
  simp only
  go_enter Tryz.func154, Tryz.ntmps154
  go_wp2
  go_ret
  exact ⟨rfl, bal (Below.refl _ _) (Nat.le_refl _) _⟩
/-- where a key stands: the first place, or none -/
def At (es : List E) (key : Int) : Option Nat → Prop
  | none => find es key = zero key
  | some k => ∃ x, es[k]? = some x ∧ find es key = x
def atI : Option Nat → Int
  | none => -1
  | some k => k
set_option maxHeartbeats 1000000 in
theorem index_c (A : Option Addr) (n c : Nat) (es : List E) (hn : n = es.length) (hl : n ≤ 140737488355328) (key : Int) (g : Nat) (B : Nat) (w : World) (hr : Re w B A es) (hB : B ≤ w.heap.size) (hg : w.cell? ⟨g, 0, none⟩ = some (.int .i64 key)) (hgl : g < w.heap.size) :
    Calls Tryz.prog 153 #[.slice A n c, .func (.func 154) #[] #[.pointer (some ⟨g, 0, none⟩)]] w fun e w' => ∃ k, e = .returned (.int .i64 (atI k)) ∧ At es key k ∧ Below w.heap.size w w' := by
  have HN := Lib.hid hn; clear hn
  have HR := Lib.hid hr; clear hr
  have HF : Hid (∀ k x, es[k]? = some x → x.key = key → (∀ y ∈ es.take k, ¬ y.key = key) → find es key = x) := Lib.hid (fun k x => find_take es k key x)
  have HZ : Hid ((∀ y ∈ es, ¬ y.key = key) → find es key = zero key) := Lib.hid (find_not es key)
  have HG : Hid (∀ W, Below w.heap.size w W → W.cell? ⟨g, 0, none⟩ = some (.int .i64 key)) := Lib.hid (fun W h => (h.cell (by show g < _; exact hgl)).trans hg)
  clear hg
  go_enter Tryz.func153, Tryz.ntmps153
  go_wp2
  go_loopw [8] (fun i wr => ∃ k : Nat, i = .int .i64 k ∧ k ≤ n ∧ (∀ y ∈ es.take k, ¬ y.key = key) ∧ Below w.heap.size w wr) (fun i _ => n - (intOf i).toNat)
  case atStart => exact ⟨0, rfl, by omega, by simp, Below.refl _ _⟩
  case round =>
    obtain ⟨k, rfl, hk, hno, hb⟩ := hrel
    have HB := Lib.hid hb; have HNO := Lib.hid hno
    have hsz := hb.size
    clear hb hno
    by_cases h : k < n
    · obtain ⟨b, o, rfl, hbB, hcell⟩ := HR.out (by rw [← HN.out]; omega)
      have hkl : k < es.length := by rw [← HN.out]; exact h
      have hz : es[k]? = some es[k] := List.getElem?_eq_getElem hkl
      have hc0 := (hcell k es[k] hz).below (HB.out.mono hB) hbB
      generalize es[k] = x at hz hc0
      obtain ⟨xk, xn, xd, xv⟩ := x
      obtain ⟨x0, x1, x2, x3⟩ := hc0
      have HX := Lib.hid hz
      clear hz hcell hkl
      go_wp2_with fail
      refine (clos_c ⟨xk, xn, xd, xv⟩ key g _ (HG.out _ HB.out) (by omega)).mono ?_
      rintro e w2 ⟨rfl, hb2⟩
      have HB := Lib.hid (HB.out.trans (hb2.mono HB.out.size)); clear hb2
      clear x0 x1 x2 x3
      simp only
      by_cases hx : xk = key
      · have HE := Lib.hid (HF.out k _ HX.out hx HNO.out)
        have hq : (xk == key) = true := by rw [beq_iff_eq]; exact hx
        clear hx HF HZ
        rw [hq]
        go_wp2
        go_ret
        exact ⟨some k, rfl, ⟨_, HX.out, HE.out⟩, HB.out⟩
      · have hq : (xk == key) = false := by rw [beq_eq_false_iff_ne]; exact hx
        have HNX : Hid (∀ y ∈ es.take (k + 1), ¬ y.key = key) := Lib.hid (by
          intro y hy
          rw [List.take_add_one, HX.out, List.mem_append] at hy
          rcases hy with hy | hy
          · exact HNO.out y hy
          · simp at hy; subst hy; exact hx)
        clear hx
        rw [hq]
        go_wp2
        exact ⟨⟨k + 1, by go_num, by omega, HNX.out, HB.out⟩, by simp [intOf]; omega⟩
    · have HE := Lib.hid (HZ.out (by
        have := HNO.out
        rwa [List.take_of_length_le (by rw [← HN.out]; omega)] at this))
      clear HF HZ
      go_wp2
      go_ret
      exact ⟨none, rfl, HE.out, HB.out⟩
set_option maxHeartbeats 1000000 in
theorem of_c (A : Option Addr) (n c : Nat) (es : List E) (hn : n = es.length) (hl : n ≤ 140737488355328) (key : Int) (B : Nat) (w : World) (hr : Re w B A es) (hB : B ≤ w.heap.size) :
    Calls Tryz.prog 110 #[.slice A n c, .int .i64 key] w fun e w' => e = .returned (ev (find es key)) ∧ Below w.heap.size w w' := by
  have hsf := store_flt
  have HN := Lib.hid hn
  have HR := Lib.hid hr
  have HI : Hid (∀ g W, Below w.heap.size w W → W.cell? ⟨g, 0, none⟩ = some (.int .i64 key) → g < W.heap.size → Calls Tryz.prog 153 #[.slice A n c, .func (.func 154) #[] #[.pointer (some ⟨g, 0, none⟩)]] W fun e w' => ∃ k, e = .returned (.int .i64 (atI k)) ∧ At es key k ∧ Below W.heap.size W w') := Lib.hid (fun g W hW hg hgl => index_c A n c es hn hl key g B W (hr.below (hW.mono hB)) (Nat.le_trans hB hW.size) hg hgl)
  clear hn hr
  go_enter Tryz.func110, Tryz.ntmps110
  go_wp2_with fail
  have V0 := Lib.hid (show Ex ((w.alloc (.cells #[.int .i64 key] 3)).alloc (.cells #[.int .i64 0, .int .i64 0, .int .i64 0, .float .f64 0] 58)) (w.heap.size + 1) (zero 0) from hat _ _ _ (by simp))
  have HC := Lib.hid (show ((w.alloc (.cells #[.int .i64 key] 3)).alloc (.cells #[.int .i64 0, .int .i64 0, .int .i64 0, .float .f64 0] 58)).heap[w.heap.size]? = some (.cells #[.int .i64 key] 3) from hbe (hat _ _ _ rfl))
  have HB := Lib.hid (bal (bal (Below.refl w.heap.size w) (Nat.le_refl _) (.cells #[.int .i64 key] 3)) (Nat.le_refl _) (.cells #[.int .i64 0, .int .i64 0, .int .i64 0, .float .f64 0] 58))
  generalize (w.alloc (.cells #[.int .i64 key] 3)).alloc (.cells #[.int .i64 0, .int .i64 0, .int .i64 0, .float .f64 0] 58) = w1 at V0 HC HB ⊢
  have hl1 := V0.out.lt
  have HC1 := Lib.hid (show w1.cell? ⟨w.heap.size, 0, none⟩ = some (.int .i64 key) from by rw [cell_of_row _ _ _ _ _ _ HC.out]; rfl)
  refine (HI.out w.heap.size w1 HB.out HC1.out (by omega)).mono ?_
  rintro e w2 ⟨k, rfl, hat, hb2⟩
  have V0 := Lib.hid (V0.out.all hb2)
  have HC1 := Lib.hid ((hb2.cell (by show w.heap.size < _; omega)).trans HC1.out)
  have HB := Lib.hid (HB.out.trans (hb2.mono HB.out.size)); clear hb2
  have z0 := V0.out.c0; have z1 := V0.out.c1; have z2 := V0.out.c2; have z3 := V0.out.c3
  have f0 := frozen_of_row w2 (w.heap.size + 1) 0 _ _ V0.out
  have f1 := frozen_of_row w2 (w.heap.size + 1) 1 _ _ V0.out
  have f2 := frozen_of_row w2 (w.heap.size + 1) 2 _ _ V0.out
  have f3 := frozen_of_row w2 (w.heap.size + 1) 3 _ _ V0.out
  have hcc := HC1.out
  clear HI HC HC1
  cases k with
  | none =>
    have HE : Hid (find es key = zero key) := Lib.hid hat
    clear hat HR HN
    simp only [atI]
    go_wp2
    refine bodyPost_ret (results_entry (g := w.heap.size + 1) (e := zero key) rfl rfl (V0.out.put (zero key))) rfl ?_
    exact ⟨by rw [HE.out], (((HB.out.setCell (by simp) _).setCell (by simp) _).setCell (by simp) _).setCell (by simp) _⟩
  | some k =>
    obtain ⟨x, hx, hf⟩ := hat
    have HE := Lib.hid hf
    have hkl : k < es.length := by
      rcases Nat.lt_or_ge k es.length with h' | h'
      · exact h'
      · rw [List.getElem?_eq_none h'] at hx; cases hx
    have h : k < n := by rw [HN.out]; exact hkl
    obtain ⟨b, o, rfl, hbB, hcell⟩ := HR.out (by omega)
    have hc0 := (hcell k x hx).below (HB.out.mono hB) hbB
    obtain ⟨xk, xn, xd, xv⟩ := x
    obtain ⟨x0, x1, x2, x3⟩ := hc0
    have hbw : b ≠ w.heap.size + 1 := by omega
    have hk0 : ¬ ((k : Int) < 0) := by omega
    clear hx hf hcell hkl HR HN
    simp only [atI]
    go_wp2
    refine bodyPost_ret (results_entry (g := w.heap.size + 1) (e := ⟨xk, xn, xd, xv⟩) rfl rfl (V0.out.put ⟨xk, xn, xd, xv⟩)) rfl ?_
    exact ⟨by rw [HE.out], (((HB.out.setCell (by simp) _).setCell (by simp) _).setCell (by simp) _).setCell (by simp) _⟩
end Go.Proofs.YtfblnomkafimhaaGreat.Bkw

namespace Go.Proofs.YtfblnomkafimhaaGreat.Bkw
set_option maxRecDepth 20000
open Go.RowKit
open Tg Bk
open Tgw (bal hat hbe ret_bool tv)

set_option maxHeartbeats 1000000 in
theorem alike_c (x y : E) (w : World) : Calls Tryz.prog 88 #[ev x, ev y] w fun e w' => e = .returned (.bool (alike x y)) ∧ Below w.heap.size w w' := by
  have heq := eq_tagE
  obtain ⟨a, b, c, d⟩ := x
  obtain ⟨a', b', c', d'⟩ := y
  have HA : Hid (alike ⟨a, b, c, d⟩ ⟨a', b', c', d'⟩ = (decide (a = a') && (decide (b = b' ∧ c = c') && Flt.sameB d d'))) := Lib.hid rfl
  generalize alike ⟨a, b, c, d⟩ ⟨a', b', c', d'⟩ = r at HA ⊢
  have HS := Lib.hid (fun W => Nmw.same_c d d' W)
  generalize Flt.sameB d d' = v at HA HS
  unfold ev
  simp only
  have HBB := Lib.hid (bal (bal (Below.refl w.heap.size w) (Nat.le_refl _) (.cells #[.int .i64 a, .int .i64 b, .int .i64 c, .float .f64 d] 58)) (Nat.le_refl _) (.cells #[.int .i64 a', .int .i64 b', .int .i64 c', .float .f64 d'] 58))
  by_cases h1 : a = a'
  · have hq : (a == a') = true := by rw [beq_iff_eq]; exact h1
    by_cases h2 : b = b' ∧ c = c'
    · have hq2 : (b == b' && c == c') = true := by simp only [Bool.and_eq_true, beq_iff_eq]; exact h2
      rw [decide_eq_true h1, decide_eq_true h2, Bool.true_and, Bool.true_and] at HA
      clear h1 h2
      go_enter Tryz.func88, Tryz.ntmps88
      go_wp2_with fail
      refine (HS.out _).mono ?_
      rintro e w3 ⟨rfl, rfl⟩
      go_wp2
      all_goals go_ret
      all_goals exact ⟨ret_bool HA.out.symm, HBB.out⟩
    · have hq2 : (b == b' && c == c') = false := by rw [← Bool.not_eq_true]; simp only [Bool.and_eq_true, beq_iff_eq]; exact h2
      rw [decide_eq_false h2, Bool.false_and, Bool.and_false] at HA
      clear h1 h2
      go_enter Tryz.func88, Tryz.ntmps88
      go_wp2
      all_goals go_ret
      all_goals exact ⟨ret_bool HA.out.symm, HBB.out⟩
  · have hq : (a == a') = false := by rw [beq_eq_false_iff_ne]; exact h1
    rw [decide_eq_false h1, Bool.false_and] at HA
    clear h1
    go_enter Tryz.func88, Tryz.ntmps88
    go_wp2
    all_goals go_ret
    all_goals exact ⟨ret_bool HA.out.symm, HBB.out⟩
set_option maxHeartbeats 1000000 in
theorem equal_c (A : Option Addr) (n c : Nat) (es : List E) (hn : n = es.length) (hl : n ≤ 140737488355328) (A2 : Option Addr) (n2 c2 : Nat) (fs : List E) (hn2 : n2 = fs.length) (B : Nat) (w : World) (hr : Re w B A es) (hr2 : Re w B A2 fs) (hB : B ≤ w.heap.size) :
    Calls Tryz.prog 87 #[.slice A n c, .slice A2 n2 c2, .func (.func 88) #[] #[]] w fun e w' => e = .returned (.bool (same es fs)) ∧ Below w.heap.size w w' := by
  have hsf := store_flt
  have HN := Lib.hid hn; have HN2 := Lib.hid hn2
  have HR := Lib.hid hr; have HR2 := Lib.hid hr2
  clear hr hr2
  by_cases hnn : n = n2
  · subst hnn
    have HF : Hid (∀ (i : Nat) x y, es[i]? = some x → fs[i]? = some y → alike x y = false → same es fs = false) := Lib.hid (same_false es fs)
    have HT : Hid ((∀ (i : Nat) x y, i < n → es[i]? = some x → fs[i]? = some y → alike x y = true) → same es fs = true) := Lib.hid (fun h => (same_iff es fs).2 ⟨by rw [← hn, ← hn2], fun i x y hx hy => h i x y (by
      rw [hn]
      rcases Nat.lt_or_ge i es.length with h' | h'
      · exact h'
      · rw [List.getElem?_eq_none h'] at hx; cases hx) hx hy⟩)
    generalize same es fs = r at HF HT ⊢
    clear hn hn2
    go_enter Tryz.func87, Tryz.ntmps87
    go_wp2
    go_loopw [17] (fun i wr => ∃ k : Nat, i = .int .i64 k ∧ k ≤ n ∧ (∀ (i : Nat) x y, i < k → es[i]? = some x → fs[i]? = some y → alike x y = true) ∧ Below w.heap.size w wr) (fun i _ => n - (intOf i).toNat)
    case atStart => exact ⟨0, rfl, by omega, fun i x y hi => by omega, Below.refl _ _⟩
    case round =>
      obtain ⟨k, rfl, hk, hall, hb⟩ := hrel
      have HB := Lib.hid hb; have HA := Lib.hid hall
      have hsz := hb.size
      clear hb hall
      by_cases h : k < n
      · obtain ⟨b, o, rfl, hbB, hcell⟩ := HR.out (by rw [← HN.out]; omega)
        obtain ⟨b2, o2, rfl, hbB2, hcell2⟩ := HR2.out (by rw [← HN2.out]; omega)
        have hkl : k < es.length := by rw [← HN.out]; exact h
        have hkl2 : k < fs.length := by rw [← HN2.out]; exact h
        have hz : es[k]? = some es[k] := List.getElem?_eq_getElem hkl
        have hz2 : fs[k]? = some fs[k] := List.getElem?_eq_getElem hkl2
        have hc0 := (hcell k es[k] hz).below (HB.out.mono hB) hbB
        have hc1 := (hcell2 k fs[k] hz2).below (HB.out.mono hB) hbB2
        generalize es[k] = x at hz hc0
        generalize fs[k] = y at hz2 hc1
        obtain ⟨xk, xn, xd, xv⟩ := x
        obtain ⟨yk, yn, yd, yv⟩ := y
        have hc2 : Four (wr.alloc (.cells #[.int .i64 xk, .int .i64 xn, .int .i64 xd, .float .f64 xv] 58)) b2 (o2 + k * 4) ⟨yk, yn, yd, yv⟩ := hc1.below (bal (Below.refl wr.heap.size wr) (Nat.le_refl _) _) (by omega)
        obtain ⟨x0, x1, x2, x3⟩ := hc0
        obtain ⟨y0, y1, y2, y3⟩ := hc2
        have HX := Lib.hid hz; have HY := Lib.hid hz2
        clear hz hz2 hc1 hcell hcell2 hkl hkl2
        go_wp2_with fail
        have HBW := Lib.hid (bal (bal HB.out (Nat.le_refl _) (.cells #[.int .i64 xk, .int .i64 xn, .int .i64 xd, .float .f64 xv] 58)) (Nat.le_refl _) (.cells #[.int .i64 yk, .int .i64 yn, .int .i64 yd, .float .f64 yv] 58))
        generalize (wr.alloc (.cells #[.int .i64 xk, .int .i64 xn, .int .i64 xd, .float .f64 xv] 58)).alloc (.cells #[.int .i64 yk, .int .i64 yn, .int .i64 yd, .float .f64 yv] 58) = w1 at HBW ⊢
        clear x0 x1 x2 x3 y0 y1 y2 y3
        refine (alike_c ⟨xk, xn, xd, xv⟩ ⟨yk, yn, yd, yv⟩ _).mono ?_
        rintro e w6 ⟨rfl, hb6⟩
        have HB6 := Lib.hid (HBW.out.trans (hb6.mono HBW.out.size)); clear hb6
        have HAL : Hid (∀ t, alike ⟨xk, xn, xd, xv⟩ ⟨yk, yn, yd, yv⟩ = t → t = false → r = false) := Lib.hid (fun t h1 h2 => HF.out k _ _ HX.out HY.out (h1.trans h2))
        generalize ht : alike ⟨xk, xn, xd, xv⟩ ⟨yk, yn, yd, yv⟩ = t at HAL
        have HTT := Lib.hid ht; clear ht
        cases t with
        | false =>
          have HRF := Lib.hid (HAL.out false rfl rfl)
          go_wp2
          go_ret
          exact ⟨ret_bool HRF.out.symm, HB6.out⟩
        | true =>
          go_wp2
          refine ⟨⟨k + 1, by go_num, by omega, ?_, HB6.out⟩, by simp [intOf]; omega⟩
          intro j u v hj hu hv
          rcases Nat.lt_or_ge j k with h' | h'
          · exact HA.out j u v h' hu hv
          · obtain rfl : j = k := by omega
            have e1 := HX.out
            have e2 := HY.out
            rw [hu] at e1
            rw [hv] at e2
            cases e1; cases e2
            exact HTT.out
      · obtain rfl : k = n := by omega
        have HRT := Lib.hid (HT.out HA.out)
        go_wp2
        go_ret
        exact ⟨ret_bool HRT.out.symm, HB.out⟩
  · have HS : Hid (same es fs = false) := Lib.hid (by
      rw [← Bool.not_eq_true, same_iff]
      rintro ⟨h1, _⟩
      exact hnn (by rw [hn, hn2, h1]))
    have hq : ((n : Int) != (n2 : Int)) = true := by rw [bne_iff_ne]; omega
    clear hn hn2 hnn
    go_enter Tryz.func87, Tryz.ntmps87
    go_wp2
    go_ret
    exact ⟨ret_bool HS.out.symm, Below.refl _ _⟩
theorem same_c (A : Option Addr) (n c : Nat) (es : List E) (A2 : Option Addr) (n2 c2 : Nat) (fs : List E) (w : World) (h : So w A n c es) (h2 : So w A2 n2 c2 fs) : Calls Tryz.prog 48 #[.slice A n c, .slice A2 n2 c2] w fun e w' => e = .returned (.bool (same es fs)) ∧ Below w.heap.size w w' := by
  have HE := Lib.hid (equal_c A n c es h.1 (by have := h.2.2.1; omega) A2 n2 c2 fs h2.1 w.heap.size w h.2.2.2.2 h2.2.2.2.2 (Nat.le_refl _))
  generalize same es fs = r at HE ⊢
  clear h h2
  go_enter Tryz.func48, Tryz.ntmps48
  go_wp2_with fail
  refine HE.out.mono ?_
  rintro e w2 ⟨rfl, hb⟩
  have HB := Lib.hid hb; clear hb
  go_wp2
  go_ret
  exact ⟨rfl, HB.out⟩
end Go.Proofs.YtfblnomkafimhaaGreat.Bkw

namespace Go.Proofs.YtfblnomkafimhaaGreat.Bkw
set_option maxRecDepth 20000
open Go.RowKit
open Tg Bk
open Tgw (bal hat hbe ret_bool tv)

set_option maxHeartbeats 1000000 in
theorem merge_own (A : Option Addr) (n c : Nat) (es : List E) (hn : n = es.length) (hl : n ≤ 140737488355328) (A2 : Option Addr) (n2 c2 : Nat) (fs : List E) (hn2 : n2 = fs.length) (hl2 : n2 ≤ 140737488355328) (B : Nat) (w : World) (hr : Re w B A es) (hr2 : Re w B A2 fs) (hB : B ≤ w.heap.size) :
    Calls Tryz.prog 91 #[.slice A n c, .slice A2 n2 c2] w (RetOwnE w w.heap.size (merge es fs)) := by
  have hsf := store_flt
  have heq := eq_tagE
  have HFA : Hid (∀ (key : Int) (W : World), Below w.heap.size w W → Calls Tryz.prog 110 #[.slice A n c, .int .i64 key] W fun e w' => e = .returned (ev (find es key)) ∧ Below W.heap.size W w') := Lib.hid (fun key W hW => of_c A n c es hn hl key B W (hr.below (hW.mono hB)) (Nat.le_trans hB hW.size))
  have HFB : Hid (∀ (key : Int) (W : World), Below w.heap.size w W → Calls Tryz.prog 110 #[.slice A2 n2 c2, .int .i64 key] W fun e w' => e = .returned (ev (find fs key)) ∧ Below W.heap.size W w') := Lib.hid (fun key W hW => of_c A2 n2 c2 fs hn2 hl2 key B W (hr2.below (hW.mono hB)) (Nat.le_trans hB hW.size))
  clear hn hr hr2 hn2 hl2 hl
  go_enter Tryz.func91, Tryz.ntmps91
  go_wp2
  go_loopw [5, 9] (fun x i wr => ∃ (A3 : Option Addr) (m c3 k : Nat), x = .slice A3 m c3 ∧ i = .int .i64 k ∧ k ≤ 4 ∧ OwnE wr w.heap.size A3 m c3 (mergeK es fs k) ∧ Below w.heap.size w wr) (fun _ i _ => 4 - (intOf i).toNat)
  case atStart => exact ⟨_, 0, 0, 0, rfl, rfl, by omega, ownE_none _ _, Below.refl _ _⟩
  case round =>
    obtain ⟨A3, m, c3, k, rfl, rfl, hk, ho, hb⟩ := hrel
    have HB := Lib.hid hb; have HO := Lib.hid ho
    have hmk : m ≤ k := by rw [ho.1]; exact mergeK_len es fs k
    have hsz := hb.size
    clear hb ho
    by_cases h : k < 4
    · have HMT : Hid (mergeK es fs (k + 1) = mergeK es fs k ++ if (pick es fs k).tag = (0, 0) then [] else [pick es fs k]) := Lib.hid rfl
      have HPK : Hid (pick es fs k = if less (find es k).tag (find fs k).tag then find fs k else find es k) := Lib.hid rfl
      generalize pick es fs k = pk at HMT HPK
      go_wp2_with fail
      refine (HFA.out _ _ HB.out).mono ?_
      rintro e w1 ⟨rfl, hb1⟩
      have HO := Lib.hid (HO.out.below hb1 (Nat.le_refl _))
      have HB := Lib.hid (HB.out.trans (hb1.mono HB.out.size)); clear hb1
      generalize find es (k : Int) = x at HPK ⊢
      have hszg := HB.out.size
      unfold ev
      go_wp2_with fail
      have VX := Lib.hid (show Ex (w1.alloc (.cells #[.int .i64 x.key, .int .i64 x.num, .int .i64 x.node, .float .f64 x.val] 58)) w1.heap.size x from hat _ _ _ rfl)
      have HOO : Hid (∀ W', Below w1.heap.size w1 W' → OwnE W' w.heap.size A3 m c3 (mergeK es fs k)) := Lib.hid (fun W' h => HO.out.below h (Nat.le_refl _))
      have HBG := Lib.hid (bal (Below.refl w1.heap.size w1) (Nat.le_refl _) (.cells #[.int .i64 x.key, .int .i64 x.num, .int .i64 x.node, .float .f64 x.val] 58))
      have HB := Lib.hid (bal HB.out (Nat.le_refl _) (.cells #[.int .i64 x.key, .int .i64 x.num, .int .i64 x.node, .float .f64 x.val] 58))
      clear HO
      generalize w1.alloc (.cells #[.int .i64 x.key, .int .i64 x.num, .int .i64 x.node, .float .f64 x.val] 58) = w2 at VX HB HBG ⊢
      generalize w1.heap.size = gx at VX HOO HBG hszg ⊢
      refine (HFB.out _ _ HB.out).mono ?_
      rintro e w3 ⟨rfl, hb2⟩
      have hgx := VX.out.lt
      have VX := Lib.hid (VX.out.all hb2)
      have HBG := Lib.hid (HBG.out.trans (hb2.mono (Nat.le_of_lt hgx)))
      have HB := Lib.hid (HB.out.trans (hb2.mono HB.out.size)); clear hb2
      generalize find fs (k : Int) = y at HPK ⊢
      unfold ev
      have x0 : (w3.alloc (.cells #[.int .i64 y.key, .int .i64 y.num, .int .i64 y.node, .float .f64 y.val] 58)).cell? ⟨gx, 0, none⟩ = some (.int .i64 x.key) := Ex.c0 (hbe VX.out)
      have x1 : (w3.alloc (.cells #[.int .i64 y.key, .int .i64 y.num, .int .i64 y.node, .float .f64 y.val] 58)).cell? ⟨gx, 1, none⟩ = some (.int .i64 x.num) := Ex.c1 (hbe VX.out)
      have x2 : (w3.alloc (.cells #[.int .i64 y.key, .int .i64 y.num, .int .i64 y.node, .float .f64 y.val] 58)).cell? ⟨gx, 2, none⟩ = some (.int .i64 x.node) := Ex.c2 (hbe VX.out)
      have x3 : (w3.alloc (.cells #[.int .i64 y.key, .int .i64 y.num, .int .i64 y.node, .float .f64 y.val] 58)).cell? ⟨gx, 3, none⟩ = some (.float .f64 x.val) := Ex.c3 (hbe VX.out)
      go_wp2_with fail
      clear x0 x1 x2 x3
      have hgx := VX.out.lt
      have VX := Lib.hid (show Ex (w3.alloc (.cells #[.int .i64 y.key, .int .i64 y.num, .int .i64 y.node, .float .f64 y.val] 58)) gx x from hbe VX.out)
      have VY := Lib.hid (show Ex (w3.alloc (.cells #[.int .i64 y.key, .int .i64 y.num, .int .i64 y.node, .float .f64 y.val] 58)) w3.heap.size y from hat _ _ _ rfl)
      have HBG := Lib.hid (HBG.out.alloc (Nat.le_of_lt hgx) (.cells #[.int .i64 y.key, .int .i64 y.num, .int .i64 y.node, .float .f64 y.val] 58))
      have HB := Lib.hid (bal HB.out (Nat.le_refl _) (.cells #[.int .i64 y.key, .int .i64 y.num, .int .i64 y.node, .float .f64 y.val] 58))
      generalize w3.alloc (.cells #[.int .i64 y.key, .int .i64 y.num, .int .i64 y.node, .float .f64 y.val] 58) = w3' at VX VY HB HBG ⊢
      generalize w3.heap.size = gy at VY hgx ⊢
      refine (Tgw.less_any (x.num, x.node) (y.num, y.node) _).mono ?_
      rintro e w4 ⟨rfl, hb4⟩
      have hgx2 := VX.out.lt
      have VX := Lib.hid (VX.out.all hb4)
      have VY := Lib.hid (VY.out.all hb4)
      have HBG := Lib.hid (HBG.out.trans (hb4.mono (Nat.le_of_lt hgx2)))
      have HBZ := Lib.hid (HB.out.trans (hb4.mono HB.out.size)); clear hb4 HB
      have HPK : Hid (pk = if less (x.num, x.node) (y.num, y.node) then y else x) := HPK
      cases hx : less (x.num, x.node) (y.num, y.node) with
      | false =>
        rw [hx] at HPK
        clear hx
        obtain rfl : pk = x := HPK.out
        have HO := Lib.hid (HOO.out _ HBG.out)
        have x0 := VX.out.c0; have x1 := VX.out.c1; have x2 := VX.out.c2; have x3 := VX.out.c3
        cases hv : (pk.num == 0 && pk.node == 0) with
        | false =>
          have HMT := Lib.hid (HMT.out.trans (by rw [tag_zero _ _ hv]))
          have hv2 : (!(pk.num == 0 && pk.node == 0)) = true := by rw [hv]; rfl
          skip
          go_wp2_with (at_builtin; refine wp_appE rfl (.tmp 28) (.tmp 30) rfl w.heap.size A3 m c3 _ rfl (HO.out.alloc _) w4.heap.size 0 1 1 [pk] rfl rfl (one_cells _ [pk]) (by omega) (Nat.le_trans HBZ.out.size (by simp)) ?_; intro A4 c4 w9 ho4 hb4)
          refine ⟨⟨A4, m + 1, c4, k + 1, rfl, by go_num, by omega, ?_, (bal HBZ.out (Nat.le_refl _) _).trans hb4⟩, by simp [intOf]; omega⟩
          rw [HMT.out]
          exact ho4
        | true =>
          have HMT := Lib.hid (HMT.out.trans (by rw [tag_zero _ _ hv]))
          have hv2 : (!(pk.num == 0 && pk.node == 0)) = false := by rw [hv]; rfl
          go_wp2
          refine ⟨⟨A3, m, c3, k + 1, rfl, by go_num, by omega, ?_, HBZ.out⟩, by simp [intOf]; omega⟩
          rw [HMT.out]
          simpa using HO.out
      | true =>
        rw [hx] at HPK
        clear hx
        obtain rfl : pk = y := HPK.out
        have x0 := VX.out.c0; have x1 := VX.out.c1; have x2 := VX.out.c2; have x3 := VX.out.c3
        have y0 := VY.out.c0; have y1 := VY.out.c1; have y2 := VY.out.c2; have y3 := VY.out.c3
        have z0 := frozen_of_row w4 gx 0 _ _ VX.out
        have z1 := frozen_of_row w4 gx 1 _ _ VX.out
        have z2 := frozen_of_row w4 gx 2 _ _ VX.out
        have z3 := frozen_of_row w4 gx 3 _ _ VX.out
        go_upto_region 9 with (fail)
        have VX := Lib.hid (VX.out.put pk)
        have HBZ := Lib.hid (show Below w.heap.size w ((((w4.setCell ⟨gx, 0, none⟩ (.int .i64 pk.key)).setCell ⟨gx, 1, none⟩ (.int .i64 pk.num)).setCell ⟨gx, 2, none⟩ (.int .i64 pk.node)).setCell ⟨gx, 3, none⟩ (.float .f64 pk.val)) from (((HBZ.out.setCell (by show _ ≤ gx; omega) _).setCell (by show _ ≤ gx; omega) _).setCell (by show _ ≤ gx; omega) _).setCell (by show _ ≤ gx; omega) _)
        have HO := Lib.hid (show OwnE ((((w4.setCell ⟨gx, 0, none⟩ (.int .i64 pk.key)).setCell ⟨gx, 1, none⟩ (.int .i64 pk.num)).setCell ⟨gx, 2, none⟩ (.int .i64 pk.node)).setCell ⟨gx, 3, none⟩ (.float .f64 pk.val)) _ _ _ _ _ from HOO.out _ ((((HBG.out.setCell (Nat.le_refl _) _).setCell (Nat.le_refl _) _).setCell (Nat.le_refl _) _).setCell (Nat.le_refl _) _))
        clear x0 x1 x2 x3 y0 y1 y2 y3 z0 z1 z2 z3 HOO HBG
        generalize ((((w4.setCell ⟨gx, 0, none⟩ (.int .i64 pk.key)).setCell ⟨gx, 1, none⟩ (.int .i64 pk.num)).setCell ⟨gx, 2, none⟩ (.int .i64 pk.node)).setCell ⟨gx, 3, none⟩ (.float .f64 pk.val)) = w8 at VX HBZ HO ⊢
        have x0 := VX.out.c0; have x1 := VX.out.c1; have x2 := VX.out.c2; have x3 := VX.out.c3
        cases hv : (pk.num == 0 && pk.node == 0) with
        | false =>
          have HMT := Lib.hid (HMT.out.trans (by rw [tag_zero _ _ hv]))
          have hv2 : (!(pk.num == 0 && pk.node == 0)) = true := by rw [hv]; rfl
          skip
          go_wp2_with (at_builtin; refine wp_appE rfl (.tmp 28) (.tmp 30) rfl w.heap.size A3 m c3 _ rfl (HO.out.alloc _) w8.heap.size 0 1 1 [pk] rfl rfl (one_cells _ [pk]) (by omega) (Nat.le_trans HBZ.out.size (by simp)) ?_; intro A4 c4 w9 ho4 hb4)
          refine ⟨⟨A4, m + 1, c4, k + 1, rfl, by go_num, by omega, ?_, (bal HBZ.out (Nat.le_refl _) _).trans hb4⟩, by simp [intOf]; omega⟩
          rw [HMT.out]
          exact ho4
        | true =>
          have HMT := Lib.hid (HMT.out.trans (by rw [tag_zero _ _ hv]))
          have hv2 : (!(pk.num == 0 && pk.node == 0)) = false := by rw [hv]; rfl
          go_wp2
          refine ⟨⟨A3, m, c3, k + 1, rfl, by go_num, by omega, ?_, HBZ.out⟩, by simp [intOf]; omega⟩
          rw [HMT.out]
          simpa using HO.out
    · obtain rfl : k = 4 := by omega
      go_wp2
      go_ret
      exact ⟨A3, m, c3, rfl, HO.out, HB.out⟩
set_option maxHeartbeats 1000000 in
theorem news_own (A : Option Addr) (n c : Nat) (es : List E) (hn : n = es.length) (hl : n ≤ 140737488355328) (A2 : Option Addr) (n2 c2 : Nat) (fs : List E) (hn2 : n2 = fs.length) (hl2 : n2 ≤ 140737488355328) (B : Nat) (w : World) (hr : Re w B A es) (hr2 : Re w B A2 fs) (hB : B ≤ w.heap.size) :
    Calls Tryz.prog 71 #[.slice A n c, .slice A2 n2 c2] w (RetOwnE w w.heap.size (newsK es fs 4)) := by
  have hsf := store_flt
  have hft := field_tag
  have HFA : Hid (∀ (key : Int) (W : World), Below w.heap.size w W → Calls Tryz.prog 110 #[.slice A n c, .int .i64 key] W fun e w' => e = .returned (ev (find es key)) ∧ Below W.heap.size W w') := Lib.hid (fun key W hW => of_c A n c es hn hl key B W (hr.below (hW.mono hB)) (Nat.le_trans hB hW.size))
  have HFB : Hid (∀ (key : Int) (W : World), Below w.heap.size w W → Calls Tryz.prog 110 #[.slice A2 n2 c2, .int .i64 key] W fun e w' => e = .returned (ev (find fs key)) ∧ Below W.heap.size W w') := Lib.hid (fun key W hW => of_c A2 n2 c2 fs hn2 hl2 key B W (hr2.below (hW.mono hB)) (Nat.le_trans hB hW.size))
  clear hn hr hr2 hn2 hl2 hl
  go_enter Tryz.func71, Tryz.ntmps71
  go_wp2
  go_loopw [5, 8] (fun x i wr => ∃ (A3 : Option Addr) (m c3 k : Nat), x = .slice A3 m c3 ∧ i = .int .i64 k ∧ k ≤ 4 ∧ OwnE wr w.heap.size A3 m c3 (newsK es fs k) ∧ Below w.heap.size w wr) (fun _ i _ => 4 - (intOf i).toNat)
  case atStart => exact ⟨_, 0, 0, 0, rfl, rfl, by omega, ownE_none _ _, Below.refl _ _⟩
  case round =>
    obtain ⟨A3, m, c3, k, rfl, rfl, hk, ho, hb⟩ := hrel
    have HB := Lib.hid hb; have HO := Lib.hid ho
    have hmk : m ≤ k := by rw [ho.1]; exact newsK_len es fs k
    have hsz := hb.size
    clear hb ho
    by_cases h : k < 4
    · have HMT : Hid (newsK es fs (k + 1) = newsK es fs k ++ if less ((find es k).num, (find es k).node) ((find fs k).num, (find fs k).node) then [find fs k] else []) := Lib.hid rfl
      go_wp2_with fail
      refine (HFB.out _ _ HB.out).mono ?_
      rintro e w1 ⟨rfl, hb1⟩
      have HO := Lib.hid (HO.out.below hb1 (Nat.le_refl _))
      have HB := Lib.hid (HB.out.trans (hb1.mono HB.out.size)); clear hb1
      generalize find fs (k : Int) = x at HMT ⊢
      unfold ev
      go_wp2_with fail
      have VX := Lib.hid (show Ex (w1.alloc (.cells #[.int .i64 x.key, .int .i64 x.num, .int .i64 x.node, .float .f64 x.val] 58)) w1.heap.size x from hat _ _ _ rfl)
      have HO := Lib.hid (HO.out.alloc (.cells #[.int .i64 x.key, .int .i64 x.num, .int .i64 x.node, .float .f64 x.val] 58))
      have HB := Lib.hid (bal HB.out (Nat.le_refl _) (.cells #[.int .i64 x.key, .int .i64 x.num, .int .i64 x.node, .float .f64 x.val] 58))
      generalize w1.alloc (.cells #[.int .i64 x.key, .int .i64 x.num, .int .i64 x.node, .float .f64 x.val] 58) = w3 at VX HB HO ⊢
      generalize w1.heap.size = gx at VX ⊢
      have HK : Hid (∀ W', Below w3.heap.size w3 W' → W'.cell? ⟨gx, 0, none⟩ = some (.int .i64 x.key) ∧ W'.cell? ⟨gx, 1, none⟩ = some (.int .i64 x.num) ∧ W'.cell? ⟨gx, 2, none⟩ = some (.int .i64 x.node) ∧ W'.cell? ⟨gx, 3, none⟩ = some (.float .f64 x.val)) := Lib.hid (fun W' h => ⟨(VX.out.all h).c0, (VX.out.all h).c1, (VX.out.all h).c2, (VX.out.all h).c3⟩)
      refine wp_region_held_drew (S := fun W' => Below w3.heap.size w3 W') (by kernel_rfl) (Below.refl _ _).drew (fun hHeld => ?_)
      generalize w3.drew = w5 at hHeld ⊢
      have HB5 : Hid (Below w3.heap.size w3 w5) := hHeld
      clear hHeld
      refine take_in (i := 0) (oi := ⟨_, _, _, _, _, _⟩) (v := ?_) rfl (by kernel_rfl) (by kernel_rfl) (by kernel_rfl) (fun _ _ _ h => h) (by rfl) ?_ HB5.out ?_
      rotate_left
      · intro W hW; have hq := HK.out W hW; go_simp; with_reducible rfl
      simp only [Act.put, List.setIfInBounds_toArray, List.set_cons_zero, List.set_cons_succ]
      refine take_in (i := 1) (oi := ⟨_, _, _, _, _, _⟩) (v := ?_) rfl (by kernel_rfl) (by kernel_rfl) (by kernel_rfl) (fun _ _ _ h => h) (by rfl) ?_ HB5.out ?_
      rotate_left
      · intro W hW; have hq := HK.out W hW; go_simp; with_reducible rfl
      simp only [Act.put, List.setIfInBounds_toArray, List.set_cons_zero, List.set_cons_succ]
      refine take_in (i := 4) (oi := ⟨_, _, _, _, _, _⟩) (v := ?_) rfl (by kernel_rfl) (by kernel_rfl) (by kernel_rfl) (fun _ _ _ h => h) (by rfl) ?_ HB5.out ?_
      rotate_left
      · intro W hW; have hq := HK.out W hW; go_simp; with_reducible rfl
      simp only [Act.put, List.setIfInBounds_toArray, List.set_cons_zero, List.set_cons_succ]
      refine take_in (i := 5) (oi := ⟨_, _, _, _, _, _⟩) (v := ?_) rfl (by kernel_rfl) (by kernel_rfl) (by kernel_rfl) (fun _ _ _ h => h) (by rfl) ?_ HB5.out ?_
      rotate_left
      · intro W hW; have hq := HK.out W hW; go_simp; with_reducible rfl
      simp only [Act.put, List.setIfInBounds_toArray, List.set_cons_zero, List.set_cons_succ]
      refine wpAnyH_ready (rs := [2]) (by kernel_rfl) (by simp) ?_
      refine AllReadyH.cons (o := ⟨_, _, _, _, _, _⟩) rfl (fun K hK => ?_) AllReadyH.nil
      go_simp
      refine (HFA.out _ _ (HB.out.trans (HB5.out.mono HB.out.size))).mono ?_
      rintro e w6 ⟨rfl, hb6⟩
      have HB6 := Lib.hid (HB5.out.trans (hb6.mono HB5.out.size)); clear hb6
      refine hK.out _ _ HB6.out (fun _ => ?_)
      clear hK K
      generalize find es (k : Int) = y at HMT ⊢
      unfold ev
      refine take_in (i := 3) (oi := ⟨_, _, _, _, _, _⟩) (v := ?_) rfl (by kernel_rfl) (by kernel_rfl) (by kernel_rfl) (fun _ _ _ h => h) (by rfl) ?_ HB6.out ?_
      rotate_left
      · intro W hW; go_simp; with_reducible rfl
      simp only [Act.put, List.setIfInBounds_toArray, List.set_cons_zero, List.set_cons_succ]
      refine wpAnyH_ready (rs := [6]) (by kernel_rfl) (by simp) ?_
      refine AllReadyH.cons (o := ⟨_, _, _, _, _, _⟩) rfl (fun K hK => ?_) AllReadyH.nil
      go_simp
      refine (Tgw.less_any (y.num, y.node) (x.num, x.node) _).mono ?_
      rintro e w7 ⟨rfl, hb7⟩
      have HB7 := Lib.hid (HB6.out.trans (hb7.mono HB6.out.size)); clear hb7
      refine hK.out _ _ HB7.out (fun _ => ?_)
      clear hK K
      refine wpAnyH_done (by kernel_rfl) ?_ _
      have HO := Lib.hid (HO.out.below HB7.out (Nat.le_refl _))
      have VX := Lib.hid (VX.out.all HB7.out)
      have HBZ := Lib.hid (HB.out.trans (HB7.out.mono HB.out.size))
      clear HK
      cases hx : less (y.num, y.node) (x.num, x.node) with
      | false =>
        rw [hx] at HMT
        clear hx
        go_wp2
        refine ⟨⟨A3, m, c3, k + 1, rfl, by go_num, by omega, ?_, HBZ.out⟩, by simp [intOf]; omega⟩
        rw [HMT.out]
        simpa using HO.out
      | true =>
        rw [hx] at HMT
        clear hx
        have x0 := VX.out.c0; have x1 := VX.out.c1; have x2 := VX.out.c2; have x3 := VX.out.c3
        go_wp2_with (at_builtin; refine wp_appE rfl (.tmp 21) (.tmp 23) rfl w.heap.size A3 m c3 _ rfl (HO.out.alloc _) w7.heap.size 0 1 1 [x] rfl rfl (one_cells _ [x]) (by omega) (Nat.le_trans HBZ.out.size (by simp)) ?_; intro A4 c4 w9 ho4 hb4)
        refine ⟨⟨A4, m + 1, c4, k + 1, rfl, by go_num, by omega, ?_, (bal HBZ.out (Nat.le_refl _) _).trans hb4⟩, by simp [intOf]; omega⟩
        rw [HMT.out]
        exact ho4
    · obtain rfl : k = 4 := by omega
      go_wp2
      go_ret
      exact ⟨A3, m, c3, rfl, HO.out, HB.out⟩
theorem news_c (A : Option Addr) (n c : Nat) (es : List E) (A2 : Option Addr) (n2 c2 : Nat) (fs : List E) (w : World) (h : So w A n c es) (h2 : So w A2 n2 c2 fs) (hb : isBook es = true) (hb2 : isBook fs = true) : Calls Tryz.prog 71 #[.slice A n c, .slice A2 n2 c2] w (RetSl w (news es fs)) := by
  have e := newsK_eq es fs hb hb2
  refine (news_own A n c es h.1 (by have := h.2.2.1; omega) A2 n2 c2 fs h2.1 (by have := h2.2.2.1; omega) _ w h.2.2.2.2 h2.2.2.2.2 (Nat.le_refl _)).mono fun _ _ hr => retSl_own ?_ (wf_news es fs h2.2.2.2.1) (e ▸ hr)
  have := newsK_len es fs 4
  rw [e] at this
  omega
theorem within_c (A : Option Addr) (n c : Nat) (es : List E) (A2 : Option Addr) (n2 c2 : Nat) (fs : List E) (w : World) (h : So w A n c es) (h2 : So w A2 n2 c2 fs) (hb : isBook es = true) (hb2 : isBook fs = true) : Calls Tryz.prog 34 #[.slice A n c, .slice A2 n2 c2] w fun e w' => e = .returned (.bool (within es fs)) ∧ Below w.heap.size w w' := by
  have HNC := Lib.hid (news_c A2 n2 c2 fs A n c es w h2 h hb2 hb)
  have HW := Lib.hid (news_zero fs es)
  generalize within es fs = r at HW ⊢
  clear h h2 hb hb2
  go_enter Tryz.func34, Tryz.ntmps34
  go_wp2_with fail
  refine HNC.out.mono ?_
  rintro e w2 ⟨A3, m, c3, rfl, hs, hb⟩
  have HB := Lib.hid hb
  have HM : Hid (((m : Int) == 0) = r) := Lib.hid (by
    rw [← HW.out, ← hs.1, Bool.eq_iff_iff, beq_iff_eq, decide_eq_true_iff]
    omega)
  clear hb hs HNC HW
  go_wp2
  go_ret
  exact ⟨ret_bool HM.out, HB.out⟩
end Go.Proofs.YtfblnomkafimhaaGreat.Bkw

namespace Go.Proofs.YtfblnomkafimhaaGreat.Bkw
set_option maxRecDepth 20000
open Go.RowKit
open Tg Bk
open Tgw (bal hat hbe ret_bool tv)

end Go.Proofs.YtfblnomkafimhaaGreat.Bkw
