/- Contracts and words on which the claims of this seat stand, part 6: DkW DkR DkS DkT DkX DkB DkC DkE DkA. -/
import Derived.Test.YtjcbdnbbdhjoiaaG01
import Derived.BigQuiet
import Derived.Deep.QuietTactic
import Derived.WalkSpells
import Derived.Handy
import Derived.Deep.DeepCutAuto
import Derived.Laws.Concat
import Derived.Laws.CopyOwn
import Derived.Deep.RegionLaw
set_option linter.unusedSimpArgs false
set_option linter.unusedVariables false
namespace Go.Proofs.Ytjcbdnbbdhjoiaa.Dkw
set_option maxRecDepth 20000
open Go.RowKit
open Dk

theorem bal {B : Nat} {w0 w : World} (h : Below B w0 w) (hB : B ≤ w0.heap.size) (o : Obj) : Below B w0 (w.alloc o) := h.alloc (Nat.le_trans hB h.size) o
theorem hat (w : World) (o : Obj) (g : Nat) (hg : g = w.heap.size) : (w.alloc o).heap[g]? = some o := by
  subst hg
  exact heap_alloc_new w o
theorem hbe {w : World} {o x : Obj} {g : Nat} (h : w.heap[g]? = some x) : (w.alloc o).heap[g]? = some x := by
  rw [Below.heap_alloc w o g ?_]
  · exact h
  · rcases Nat.lt_or_ge g w.heap.size with h' | h'
    · exact h'
    · rw [Array.getElem?_eq_none h'] at h; cases h
/-- all outside of F that was there is as it was -/
structure Kp (F : Nat → Prop) (w w' : World) : Prop where
  os : w'.os = w.os
  tape : w'.tape = w.tape
  output : w'.output = w.output
  size : w.heap.size ≤ w'.heap.size
  block : ∀ k, k < w.heap.size → ¬ F k → w'.heap[k]? = w.heap[k]?
theorem Kp.below {F : Nat → Prop} {w w' : World} (h : Kp F w w') {B : Nat} (hB : B ≤ w.heap.size) (hF : ∀ k, F k → B ≤ k) : Below B w w' :=
  ⟨h.os, h.tape, h.output, h.size, fun k hk => h.block k (by omega) (fun hf => by have := hF k hf; omega)⟩
theorem Kp.of_below {F : Nat → Prop} {w w' : World} (h : Below w.heap.size w w') : Kp F w w' := ⟨h.os, h.tape, h.output, h.size, fun k hk _ => h.block k hk⟩
theorem Kp.refl (F : Nat → Prop) (w : World) : Kp F w w := ⟨rfl, rfl, rfl, Nat.le_refl _, fun _ _ _ => rfl⟩
theorem Kp.setCell {F : Nat → Prop} {w w' : World} (h : Kp F w w') {p : Addr} (hp : F p.block) (u : Value) : Kp F w (w'.setCell p u) := by
  have hb := (Below.refl 0 w').setCell (p := p) (Nat.zero_le _) u
  refine ⟨hb.os.trans h.os, hb.tape.trans h.tape, hb.output.trans h.output, Nat.le_trans h.size hb.size, fun k hk hf => ?_⟩
  rw [Below.heap_setCell w' p u k (fun e => hf (e ▸ hp))]
  exact h.block k hk hf
theorem Kp.alloc {F : Nat → Prop} {w w' : World} (h : Kp F w w') (o : Obj) : Kp F w (w'.alloc o) := by
  have hb := (Below.refl w'.heap.size w').alloc (Nat.le_refl _) o
  exact ⟨hb.os.trans h.os, hb.tape.trans h.tape, hb.output.trans h.output, Nat.le_trans h.size hb.size, fun k hk hf => (hb.block k (Nat.lt_of_lt_of_le hk h.size)).trans (h.block k hk hf)⟩
/-- the slice A leads to these cells, outside of F -/
def Rf (w : World) (F : Nat → Prop) (A : Option Addr) (xs : List Value) : Prop :=
  0 < xs.length → ∃ b o, A = some ⟨b, o, none⟩ ∧ b < w.heap.size ∧ ¬ F b ∧ ∀ j u, xs[j]? = some u → w.cell? ⟨b, o + j, none⟩ = some u
theorem Rf.nil {w : World} {F : Nat → Prop} {A : Option Addr} : Rf w F A [] := fun h => absurd h (by simp)
theorem Rf.rd {w : World} {F : Nat → Prop} {A : Option Addr} {xs : List Value} (h : Rf w F A xs) : Rd w w.heap.size A xs := by
  intro hn
  obtain ⟨b, o, e, hb, _, hc⟩ := h hn
  exact ⟨b, o, e, hb, hc⟩
theorem cell_block {w w' : World} {p : Addr} (h : w'.heap[p.block]? = w.heap[p.block]?) : w'.cell? p = w.cell? p := by
  unfold World.cell?
  rw [h]
theorem Rf.keep {w w' : World} {F F' : Nat → Prop} {A : Option Addr} {xs : List Value} (h : Rf w F A xs) (hk : Kp F w w') (hF : ∀ k, F' k → F k ∨ w.heap.size ≤ k) : Rf w' F' A xs := by
  intro hn
  obtain ⟨b, o, e, hb, hf, hc⟩ := h hn
  refine ⟨b, o, e, Nat.lt_of_lt_of_le hb hk.size, fun hf' => ?_, fun j u hu => ?_⟩
  · rcases hF b hf' with h1 | h1
    · exact hf h1
    · omega
  · rw [← hc j u hu]
    exact cell_block (hk.block b hb hf)
theorem Rf.all {w w' : World} {F : Nat → Prop} {A : Option Addr} {xs : List Value} (h : Rf w F A xs) (hb : Below w.heap.size w w') : Rf w' F A xs := h.keep (Kp.of_below hb) (fun _ hk => Or.inl hk)
theorem Rf.of_rd {w : World} {F : Nat → Prop} {A : Option Addr} {xs : List Value} {B : Nat} (h : Rd w B A xs) (hB : B ≤ w.heap.size) (hF : ∀ k, F k → B ≤ k) : Rf w F A xs := by
  intro hn
  obtain ⟨b, o, e, hb, hc⟩ := h hn
  exact ⟨b, o, e, by omega, fun hf => by have := hF b hf; omega, hc⟩
theorem Rf.of_own {w : World} {F : Nat → Prop} {base : Nat} {A : Option Addr} {n c : Nat} {bs : List UInt8} (h : Own w base A n c bs) (hF : ∀ k, F k → k < base) : Rf w F A (bs.map B8) := by
  intro hn
  obtain ⟨b, o, e, hb, hc⟩ := h.rd hn
  refine ⟨b, o, e, hb, fun hf => ?_, hc⟩
  have h1 := hF b hf
  subst e
  rcases h.2.2 with ⟨h0, _⟩ | ⟨g, cap, cur, hv, hg, _⟩
  · cases h0
  · injection hv with e1 e2 e3
    injection e1 with e1
    injection e1 with e1
    omega
/-- the document's disk as a value -/
def dv (A : Option Addr) (n c : Nat) (d : D) : Value := .agg #[.slice A n c, .int .i64 d.safe, .int .i64 d.room, .int .i64 d.fuse, .bool d.off]
def Ds (w : World) (F : Nat → Prop) (v : Value) (d : D) : Prop := ∃ A n c, v = dv A n c d ∧ n = d.data.length ∧ n ≤ c ∧ Rf w F A (d.data.map B8)
theorem Ds.keep {w w' : World} {F F' : Nat → Prop} {v : Value} {d : D} (h : Ds w F v d) (hk : Kp F w w') (hF : ∀ k, F' k → F k ∨ w.heap.size ≤ k) : Ds w' F' v d := by
  obtain ⟨A, n, c, e, hn, hc, hr⟩ := h
  exact ⟨A, n, c, e, hn, hc, hr.keep hk hF⟩
theorem Ds.all {w w' : World} {F : Nat → Prop} {v : Value} {d : D} (h : Ds w F v d) (hb : Below w.heap.size w w') : Ds w' F v d := h.keep (Kp.of_below hb) (fun _ hk => Or.inl hk)
/-- a disk in a block of its own -/
def Dx (w : World) (g : Nat) (A : Option Addr) (n c : Nat) (s r f : Int) (o : Bool) : Prop := w.heap[g]? = some (.cells #[.slice A n c, .int .i64 s, .int .i64 r, .int .i64 f, .bool o] 51)
section
variable {w : World} {g : Nat} {A : Option Addr} {n c : Nat} {s r f : Int} {o : Bool}
theorem Dx.c0 (h : Dx w g A n c s r f o) : w.cell? ⟨g, 0, none⟩ = some (.slice A n c) := by rw [cell_of_row _ _ _ _ _ _ h]; rfl
theorem Dx.c1 (h : Dx w g A n c s r f o) : w.cell? ⟨g, 1, none⟩ = some (.int .i64 s) := by rw [cell_of_row _ _ _ _ _ _ h]; rfl
theorem Dx.c2 (h : Dx w g A n c s r f o) : w.cell? ⟨g, 2, none⟩ = some (.int .i64 r) := by rw [cell_of_row _ _ _ _ _ _ h]; rfl
theorem Dx.c3 (h : Dx w g A n c s r f o) : w.cell? ⟨g, 3, none⟩ = some (.int .i64 f) := by rw [cell_of_row _ _ _ _ _ _ h]; rfl
theorem Dx.c4 (h : Dx w g A n c s r f o) : w.cell? ⟨g, 4, none⟩ = some (.bool o) := by rw [cell_of_row _ _ _ _ _ _ h]; rfl
theorem Dx.lt (h : Dx w g A n c s r f o) : g < w.heap.size := by
  rcases Nat.lt_or_ge g w.heap.size with h' | h'
  · exact h'
  · unfold Dx at h; rw [Array.getElem?_eq_none h'] at h; cases h
theorem Dx.all {w' : World} (h : Dx w g A n c s r f o) (hb : Below w.heap.size w w') : Dx w' g A n c s r f o := (hb.block g h.lt).trans h
theorem Dx.other (h : Dx w g A n c s r f o) {p : Addr} (hp : g ≠ p.block) (u : Value) : Dx (w.setCell p u) g A n c s r f o := (Below.heap_setCell w p u g hp).trans h
theorem Dx.put1 (h : Dx w g A n c s r f o) (i : Nat) (u : Value) : (w.setCell ⟨g, i, none⟩ u).heap[g]? = some (.cells (#[.slice A n c, .int .i64 s, .int .i64 r, .int .i64 f, .bool o].setIfInBounds i u) 51) := heap_setCell_same w g i _ _ _ h
theorem Dx.setA (h : Dx w g A n c s r f o) (A' : Option Addr) (n' c' : Nat) : Dx (w.setCell ⟨g, 0, none⟩ (.slice A' n' c')) g A' n' c' s r f o := by unfold Dx; rw [h.put1]; rfl
theorem Dx.setS (h : Dx w g A n c s r f o) (x : Int) : Dx (w.setCell ⟨g, 1, none⟩ (.int .i64 x)) g A n c x r f o := by unfold Dx; rw [h.put1]; rfl
theorem Dx.setR (h : Dx w g A n c s r f o) (x : Int) : Dx (w.setCell ⟨g, 2, none⟩ (.int .i64 x)) g A n c s x f o := by unfold Dx; rw [h.put1]; rfl
theorem Dx.setF (h : Dx w g A n c s r f o) (x : Int) : Dx (w.setCell ⟨g, 3, none⟩ (.int .i64 x)) g A n c s r x o := by unfold Dx; rw [h.put1]; rfl
theorem Dx.setO (h : Dx w g A n c s r f o) (x : Bool) : Dx (w.setCell ⟨g, 4, none⟩ (.bool x)) g A n c s r f x := by unfold Dx; rw [h.put1]; rfl
end
end Go.Proofs.Ytjcbdnbbdhjoiaa.Dkw

namespace Go.Proofs.Ytjcbdnbbdhjoiaa.Dkw
set_option maxRecDepth 20000
open Go.RowKit
open Dk

theorem results_disk {fn : Func} {t : Tmp} (h : fn.results = #[.cell t 51]) {tmps : Array Value} {w : World} {g : Nat} {A : Option Addr} {n c : Nat} {s r f : Int} {o : Bool} (hp : tmps.getD t undef = .pointer (some ⟨g, 0, none⟩)) (hv : Dx w g A n c s r f o) : (results fn tmps).run Try.prog w = .ok (.agg #[.slice A n c, .int .i64 s, .int .i64 r, .int .i64 f, .bool o]) w := by
  have h0 := hv.c0
  have h1 := hv.c1
  have h2 := hv.c2
  have h3 := hv.c3
  have h4 := hv.c4
  have u3 := Try.sizeOf51
  have hp' : tmps[t]?.getD undef = .pointer (some ⟨g, 0, none⟩) := by rw [← hp, Array.getD_eq_getD_getElem?]
  unfold results
  simp only [h]
  simp [hp', go_sem, h0, h1, h2, h3, h4]
theorem results_disk2 {fn : Func} {t u : Tmp} (h : fn.results = #[.cell t 51, .tmp u]) {tmps : Array Value} {w : World} {g : Nat} {A : Option Addr} {n c : Nat} {s r f : Int} {o : Bool} {x : Value} (hp : tmps.getD t undef = .pointer (some ⟨g, 0, none⟩)) (hx : tmps.getD u undef = x) (hv : Dx w g A n c s r f o) : (results fn tmps).run Try.prog w = .ok (.tuple #[.agg #[.slice A n c, .int .i64 s, .int .i64 r, .int .i64 f, .bool o], x]) w := by
  have h0 := hv.c0
  have h1 := hv.c1
  have h2 := hv.c2
  have h3 := hv.c3
  have h4 := hv.c4
  have u3 := Try.sizeOf51
  have hp' : tmps[t]?.getD undef = .pointer (some ⟨g, 0, none⟩) := by rw [← hp, Array.getD_eq_getD_getElem?]
  have hx' : tmps[u]?.getD undef = x := by rw [← hx, Array.getD_eq_getD_getElem?]
  unfold results
  simp only [h]
  simp [hp', hx', go_sem, h0, h1, h2, h3, h4]
/-- a disk is answered -/
def RetD (w : World) (F : Nat → Prop) (d : D) (e : Ending) (w' : World) : Prop := ∃ v, e = .returned v ∧ Ds w' F v d ∧ Below w.heap.size w w'
theorem store_slc (a : Addr) (m : Mode) (w : World) (A : Option Addr) (n c : Nat) : (store a (.slice A n c) m).run Try.prog w = stored Try.prog w a (.slice A n c) m := run_store _ w a _ m rfl
set_option maxHeartbeats 1000000 in
theorem limit_r (v : Value) (d : D) (room : Int) (F : Nat → Prop) (w : World) (h : Ds w F v d) : Calls Try.prog 56 #[v, .int .i64 room] w (RetD w F (limit d room)) := by
  obtain ⟨A, n, c, rfl, hn, hc, hr⟩ := h
  have HN := Lib.hid hn; have HC := Lib.hid hc; have HR := Lib.hid hr
  clear hn hc hr
  unfold dv
  go_enter Try.func56, Try.ntmps56
  go_wp2
  all_goals refine bodyPost_ret (results_disk (g := w.heap.size + 1) rfl rfl (hat _ _ _ (by simp))) rfl ?_
  all_goals refine ⟨_, rfl, ⟨A, n, c, ?_, HN.out, HC.out, HR.out.all (bal (bal (Below.refl _ _) (Nat.le_refl _) _) (Nat.le_refl _) _)⟩, bal (bal (Below.refl _ _) (Nat.le_refl _) _) (Nat.le_refl _) _⟩
  all_goals
    unfold dv limit clampR
    simp only
    congr 3
    congr 1
    simp only [List.cons.injEq, true_and, and_true, Value.int.injEq]
    split <;> (try split) <;> omega
set_option maxHeartbeats 1000000 in
theorem fuse_r (v : Value) (d : D) (n : Int) (F : Nat → Prop) (w : World) (h : Ds w F v d) : Calls Try.prog 26 #[v, .int .i64 n] w (RetD w F (fuseD d n)) := by
  obtain ⟨A, m, c, rfl, hn, hc, hr⟩ := h
  have HN := Lib.hid hn; have HC := Lib.hid hc; have HR := Lib.hid hr
  clear hn hc hr
  unfold dv
  go_enter Try.func26, Try.ntmps26
  go_wp2
  all_goals refine bodyPost_ret (results_disk (g := w.heap.size + 1) rfl rfl (hat _ _ _ (by simp))) rfl ?_
  all_goals refine ⟨_, rfl, ⟨A, m, c, ?_, HN.out, HC.out, HR.out.all (bal (bal (Below.refl _ _) (Nat.le_refl _) _) (Nat.le_refl _) _)⟩, bal (bal (Below.refl _ _) (Nat.le_refl _) _) (Nat.le_refl _) _⟩
  all_goals
    unfold dv fuseD clampF
    simp only
    congr 3
    congr 1
    simp only [List.cons.injEq, true_and, and_true, Value.int.injEq]
    split <;> omega
set_option maxHeartbeats 1000000 in
theorem sync_r (v : Value) (d : D) (F : Nat → Prop) (w : World) (h : Ds w F v d) : Calls Try.prog 57 #[v] w (RetD w F (syncD d)) := by
  obtain ⟨A, m, c, rfl, hn, hc, hr⟩ := h
  have HN := Lib.hid hn; have HC := Lib.hid hc; have HR := Lib.hid hr
  clear hn hc hr
  unfold dv
  cases ho : d.off
  all_goals
    go_enter Try.func57, Try.ntmps57
    go_wp2
    refine bodyPost_ret (results_disk (g := w.heap.size + 1) rfl rfl (hat _ _ _ (by simp))) rfl ?_
    refine ⟨_, rfl, ⟨A, m, c, ?_, ?_, HC.out, ?_⟩, bal (bal (Below.refl _ _) (Nat.le_refl _) _) (Nat.le_refl _) _⟩
    · unfold dv syncD
      simp [ho, HN.out]
    · unfold syncD
      simp [ho, HN.out]
    · have := HR.out.all (bal (bal (Below.refl w.heap.size w) (Nat.le_refl _) (.cells #[.slice A m c, .int .i64 d.safe, .int .i64 d.room, .int .i64 d.fuse, .bool d.off] 51)) (Nat.le_refl _) (.cells #[.slice A m c, .int .i64 d.safe, .int .i64 d.room, .int .i64 d.fuse, .bool d.off] 51))
      unfold syncD
      simp only [ho]
      exact HR.out.all (bal (bal (Below.refl _ _) (Nat.le_refl _) _) (Nat.le_refl _) _)
set_option maxHeartbeats 1000000 in
theorem new_r (room : Int) (F : Nat → Prop) (w : World) : Calls Try.prog 21 #[.int .i64 room] w (RetD w F (newD room)) := by
  have HD : Hid (limit ⟨[], 0, 0, -1, false⟩ room = newD room) := Lib.hid rfl
  have HE : Hid ((newD room).data = []) := Lib.hid rfl
  generalize newD room = d at HE HD ⊢
  go_enter Try.func21, Try.ntmps21
  go_wp2_with fail
  have H0 := Lib.hid (show Dx (w.alloc (.cells #[.slice none 0 0, .int .i64 0, .int .i64 0, .int .i64 0, .bool false] 51)) w.heap.size none 0 0 0 0 0 false from hat _ _ _ rfl)
  have HB := Lib.hid (bal (Below.refl w.heap.size w) (Nat.le_refl _) (.cells #[.slice none 0 0, .int .i64 0, .int .i64 0, .int .i64 0, .bool false] 51))
  generalize w.alloc (.cells #[.slice none 0 0, .int .i64 0, .int .i64 0, .int .i64 0, .bool false] 51) = w1 at H0 HB ⊢
  refine (limit_r _ ⟨[], 0, 0, -1, false⟩ room F w1 ⟨none, 0, 0, rfl, rfl, Nat.le_refl _, Rf.nil⟩).mono ?_
  rintro e w2 ⟨v, rfl, ⟨A, n, c, rfl, hn, hc, hr⟩, hb⟩
  have HN := Lib.hid hn; have HC := Lib.hid hc
  have H0 := Lib.hid (H0.out.all hb)
  have HB := Lib.hid (HB.out.trans (hb.mono HB.out.size)); clear hn hc hr hb
  rw [HD.out] at HN ⊢
  have z0 := H0.out.c0; have z1 := H0.out.c1; have z2 := H0.out.c2; have z3 := H0.out.c3; have z4 := H0.out.c4
  have y0 := frozen_of_row w2 w.heap.size 0 _ _ H0.out
  have y1 := frozen_of_row w2 w.heap.size 1 _ _ H0.out
  have y2 := frozen_of_row w2 w.heap.size 2 _ _ H0.out
  have y3 := frozen_of_row w2 w.heap.size 3 _ _ H0.out
  have y4 := frozen_of_row w2 w.heap.size 4 _ _ H0.out
  unfold dv
  go_wp2
  refine bodyPost_ret (results_disk (g := w.heap.size) rfl rfl (((((H0.out.setA A n c).setS d.safe).setR d.room).setF d.fuse).setO d.off)) rfl ?_
  exact ⟨_, rfl, ⟨A, n, c, rfl, HN.out, HC.out, by rw [HE.out]; exact Rf.nil⟩, ((((HB.out.setCell (Nat.le_refl _) _).setCell (Nat.le_refl _) _).setCell (Nat.le_refl _) _).setCell (Nat.le_refl _) _).setCell (Nat.le_refl _) _⟩
/-- what may be written to: F's blocks, and two of one's own -/
def Two (F : Nat → Prop) (g k : Nat) : Prop := F k ∨ k = g ∨ k = g + 1
theorem own_two {F : Nat → Prop} {g : Nat} {w w' : World} {A : Option Addr} {n c : Nat} {bs : List UInt8} (hF : ∀ k, F k → k < g) (h : Own w (g + 2) A n c bs) (hk : Kp (Two F g) w w') : Rf w' F A (bs.map B8) := by
  have h1 : Rf w (Two F g) A (bs.map B8) := Rf.of_own h (fun k hk => by
    rcases hk with h | h | h
    · have := hF k h; omega
    · omega
    · omega)
  exact h1.keep hk (fun k h => Or.inl (Or.inl h))
end Go.Proofs.Ytjcbdnbbdhjoiaa.Dkw

namespace Go.Proofs.Ytjcbdnbbdhjoiaa.Dkw
set_option maxRecDepth 20000
open Go.RowKit
open Dk

set_option maxHeartbeats 1000000 in
theorem crash_r (v : Value) (d : D) (keep : Int) (F : Nat → Prop) (w : World) (hF : ∀ k, F k → k < w.heap.size) (h : Ds w F v d) (hi : Iv d) (hkeep : keep ≤ 9223372036854775807) : Calls Try.prog 24 #[v, .int .i64 keep] w (RetD w F (crashD d keep)) := by
  obtain ⟨A, m, c, rfl, hn, hc, hr⟩ := h
  have HN := Lib.hid hn; have HC := Lib.hid hc; have HR := Lib.hid hr; have HF := Lib.hid hF
  have hm6 : m ≤ 60000 := by rw [hn]; exact hi.2.2.1
  obtain ⟨s, hs⟩ : ∃ s : Nat, d.safe = (s : Int) := ⟨d.safe.toNat, by have := hi.1; omega⟩
  have hsm : s ≤ m := by have := hi.2.1; omega
  have HP : Hid (∀ k : Nat, k ≤ m → d.data.take (s + keep.toNat) = d.data.take k → RetD w F (crashD d keep) = RetD w F ⟨d.data.take k, k, d.room, -1, false⟩) := Lib.hid (fun k hk ht => by
    unfold crashD
    rw [hs, Int.toNat_natCast, ht, List.length_take, Nat.min_eq_left (by rw [← HN.out]; exact hk)])
  generalize RetD w F (crashD d keep) = P at HP ⊢
  unfold dv
  rw [hs]
  obtain ⟨A1, hs1, hr1⟩ := run_upto Try.underlying41 size8 A m c s (s : Int) .i64 rfl (by have := HC.out; omega)
  have HS1 := Lib.hid hr1
  have hcap := HC.out
  clear hn hc hr hF hr1
  go_enter Try.func24, Try.ntmps24
  have HRS := Lib.hid (show Rd ((w.alloc (.cells #[.slice A m c, .int .i64 (s : Int), .int .i64 d.room, .int .i64 d.fuse, .bool d.off] 51)).alloc (.cells #[.slice none 0 0, .int .i64 0, .int .i64 0, .int .i64 0, .bool false] 51)) w.heap.size A1 ((d.data.take s).map B8) from (HS1.out _ _ _ (by rw [List.map_take]; exact (HR.out.rd.take s))).below (bal (bal (Below.refl _ _) (Nat.le_refl _) _) (Nat.le_refl _) _))
  go_wp2_with (at_builtin; refine wp_copy8 rfl (.tmp 7) (.tmp 12) rfl ((w.alloc (.cells #[.slice A m c, .int .i64 (s : Int), .int .i64 d.room, .int .i64 d.fuse, .bool d.off] 51)).alloc (.cells #[.slice none 0 0, .int .i64 0, .int .i64 0, .int .i64 0, .bool false] 51)) (by rw [World.size_alloc, World.size_alloc]; rfl) w.heap.size A1 s c (d.data.take s) rfl (by rw [List.length_take, ← HN.out]; omega) HRS.out (by simp; omega) (by unfold big; omega) ?_; intro A2 c2 w2 how hb2; have hx := (show Dx ((w.alloc (.cells #[.slice A m c, .int .i64 (s : Int), .int .i64 d.room, .int .i64 d.fuse, .bool d.off] 51)).alloc (.cells #[.slice none 0 0, .int .i64 0, .int .i64 0, .int .i64 0, .bool false] 51)) w.heap.size A m c s d.room d.fuse d.off from hbe (hat _ _ _ rfl)).all hb2; have x1 := hx.c1)
  have HXX := Lib.hid hx
  have HYY := Lib.hid ((show Dx ((w.alloc (.cells #[.slice A m c, .int .i64 (s : Int), .int .i64 d.room, .int .i64 d.fuse, .bool d.off] 51)).alloc (.cells #[.slice none 0 0, .int .i64 0, .int .i64 0, .int .i64 0, .bool false] 51)) (w.heap.size + 1) none 0 0 0 0 0 false from hat _ _ _ (by simp)).all hb2)
  have HOO := Lib.hid (show Own w2 (w.heap.size + 2) A2 s c2 (d.data.take s) from how.base (by simp))
  have HBB := Lib.hid ((bal (bal (Below.refl w.heap.size w) (Nat.le_refl _) (.cells #[.slice A m c, .int .i64 (s : Int), .int .i64 d.room, .int .i64 d.fuse, .bool d.off] 51)) (Nat.le_refl _) (.cells #[.slice none 0 0, .int .i64 0, .int .i64 0, .int .i64 0, .bool false] 51)).trans (hb2.mono (by simp; omega)))
  have HSZ : Hid (w.heap.size + 2 ≤ w2.heap.size) := Lib.hid (by have := hb2.size; simp at this; omega)
  clear hx x1 how hb2 hs1
  go_loopw [5, 6] (fun x i wr => ∃ (A3 : Option Addr) (c3 k : Nat), x = .slice A3 k c3 ∧ i = .int .i64 k ∧ s ≤ k ∧ k ≤ m ∧ ((k : Int) - s ≤ keep ∨ k = s) ∧ Own wr (w.heap.size + 2) A3 k c3 (d.data.take k) ∧ Dx wr w.heap.size A m c s d.room d.fuse d.off ∧ Dx wr (w.heap.size + 1) none 0 0 0 0 0 false ∧ Below w.heap.size w wr ∧ w.heap.size + 2 ≤ wr.heap.size) (fun _ i _ => m - (intOf i).toNat)
  case atStart => exact ⟨A2, c2, s, rfl, rfl, Nat.le_refl _, hsm, Or.inr rfl, HOO.out, HXX.out, HYY.out, HBB.out, HSZ.out⟩
  case round =>
    obtain ⟨A3, c3, k, rfl, rfl, hsk, hk, hkn, how, hx, hy, hb, hsz⟩ := hrel
    have HO := Lib.hid how; have HX := Lib.hid hx; have HY := Lib.hid hy; have HB := Lib.hid hb
    clear how hx hy hb HOO HXX HYY HBB HSZ
    have x0 := HX.out.c0
    have x1 := HX.out.c1
    by_cases h : k < m ∧ (k : Int) - s < keep
    · have h1 := h.1
      have h2 := h.2
      obtain ⟨b, o, rfl, hbB, _, hcell⟩ := HR.out (by rw [List.length_map, ← HN.out]; omega)
      have hkl : k < d.data.length := by rw [← HN.out]; exact h1
      have hz : d.data[k]? = some d.data[k] := List.getElem?_eq_getElem hkl
      have hcu := hcell k (B8 d.data[k]) (by rw [List.getElem?_map, hz]; rfl)
      have HT : Hid (d.data.take (k + 1) = d.data.take k ++ [d.data[k]]) := Lib.hid (by rw [List.take_add_one, hz]; rfl)
      generalize d.data[k] = u at hcu HT
      have hcw : wr.cell? ⟨b, o + k, none⟩ = some (.int .u8 (u.toNat : Int)) := (HB.out.cell (by show b < _; omega)).trans hcu
      clear hcu hz hkl hcell h
      go_wp2_with (at_builtin; refine wp_app8 rfl (.tmp 31) (.tmp 37) rfl (w.heap.size + 2) A3 k c3 _ rfl (HO.out.alloc _) (wr.heap.size + 1) _ 1 1 [u] rfl rfl (rd_one wr _ u rfl) (by unfold big; omega) (by simp; omega) ?_; intro A4 c4 w4 ho4 hb4)
      have hs4 := hb4.size
      rw [World.size_alloc] at hs4
      refine ⟨⟨A4, c4, k + 1, rfl, by go_num, by omega, by omega, by omega, ?_, ?_, ?_, ?_, by omega⟩, by simp [intOf]; omega⟩
      · rw [HT.out]; exact ho4
      · exact (hb4.block _ (by omega)).trans (hbe HX.out)
      · exact (hb4.block _ (by omega)).trans (hbe HY.out)
      · exact (bal HB.out (Nat.le_refl _) _).trans (hb4.mono (by omega))
    · have HTK : Hid (d.data.take (s + keep.toNat) = d.data.take k) := Lib.hid (by
        by_cases h1 : k < m
        · rcases hkn with h2 | h2
          · rw [show s + keep.toNat = k by omega]
          · rw [show s + keep.toNat = k by omega]
        · rw [List.take_of_length_le (by rw [← HN.out]; omega), List.take_of_length_le (by rw [← HN.out]; omega)])
      have HP2 := Lib.hid (HP.out k hk HTK.out)
      have x2 := HX.out.c2; have x3 := HX.out.c3; have x4 := HX.out.c4
      have y0 := HY.out.c0; have y1 := HY.out.c1; have y2 := HY.out.c2; have y3 := HY.out.c3; have y4 := HY.out.c4
      have g0 := frozen_of_row wr (w.heap.size + 1) 0 _ _ HY.out
      have g1 := frozen_of_row wr (w.heap.size + 1) 1 _ _ HY.out
      have g2 := frozen_of_row wr (w.heap.size + 1) 2 _ _ HY.out
      have g3 := frozen_of_row wr (w.heap.size + 1) 3 _ _ HY.out
      have g4 := frozen_of_row wr (w.heap.size + 1) 4 _ _ HY.out
      by_cases h1 : k < m
      · have h2 : keep ≤ (k : Int) - s := by omega
        go_wp2
        refine bodyPost_ret (results_disk (g := w.heap.size + 1) rfl rfl (((((HY.out.setA A3 k c3).setS (k : Int)).setR d.room).setF (-1)).setO false)) rfl ?_
        rw [HP2.out]
        refine ⟨_, rfl, ⟨A3, k, c3, rfl, ?_, HO.out.cap, own_two HF.out HO.out ((((((Kp.refl (Two F w.heap.size) wr).setCell (Or.inr (Or.inr rfl)) _).setCell (Or.inr (Or.inr rfl)) _).setCell (Or.inr (Or.inr rfl)) _).setCell (Or.inr (Or.inr rfl)) _).setCell (Or.inr (Or.inr rfl)) _)⟩, (((((HB.out.setCell (Nat.le_succ _) _).setCell (Nat.le_succ _) _).setCell (Nat.le_succ _) _).setCell (Nat.le_succ _) _).setCell (Nat.le_succ _) _)⟩
        rw [List.length_take, Nat.min_eq_left (by rw [← HN.out]; exact hk)]
      · go_wp2
        refine bodyPost_ret (results_disk (g := w.heap.size + 1) rfl rfl (((((HY.out.setA A3 k c3).setS (k : Int)).setR d.room).setF (-1)).setO false)) rfl ?_
        rw [HP2.out]
        refine ⟨_, rfl, ⟨A3, k, c3, rfl, ?_, HO.out.cap, own_two HF.out HO.out ((((((Kp.refl (Two F w.heap.size) wr).setCell (Or.inr (Or.inr rfl)) _).setCell (Or.inr (Or.inr rfl)) _).setCell (Or.inr (Or.inr rfl)) _).setCell (Or.inr (Or.inr rfl)) _).setCell (Or.inr (Or.inr rfl)) _)⟩, (((((HB.out.setCell (Nat.le_succ _) _).setCell (Nat.le_succ _) _).setCell (Nat.le_succ _) _).setCell (Nat.le_succ _) _).setCell (Nat.le_succ _) _)⟩
        rw [List.length_take, Nat.min_eq_left (by rw [← HN.out]; exact hk)]
end Go.Proofs.Ytjcbdnbbdhjoiaa.Dkw

namespace Go.Proofs.Ytjcbdnbbdhjoiaa.Dkw
set_option maxRecDepth 20000
open Go.RowKit
open Dk

/-- a disk and an error's number are answered -/
def RetDE (w : World) (F : Nat → Prop) (d : D) (x : Int) (e : Ending) (w' : World) : Prop := ∃ v, e = .returned (.tuple #[v, .int .i64 x]) ∧ Ds w' F v d ∧ Below w.heap.size w w'
theorem own_set {w : World} {base : Nat} {A : Option Addr} {n c : Nat} {bs : List UInt8} (h : Own w base A n c bs) {p : Addr} (hp : p.block < base) (u : Value) : Own (w.setCell p u) base A n c bs := by
  refine ⟨h.1, h.2.1, ?_⟩
  rcases h.2.2 with h0 | ⟨g, cap, cur, hv, hg, hh, r⟩
  · exact .inl h0
  · exact .inr ⟨g, cap, cur, hv, hg, (Below.heap_setCell w p u g (by omega)).trans hh, r⟩
set_option maxHeartbeats 1000000 in
theorem append_r (v : Value) (d : D) (Ab : Option Addr) (nb cb : Nat) (bs : List UInt8) (hnb : nb = bs.length) (hlb : nb ≤ big) (F : Nat → Prop) (w : World) (hF : ∀ k, F k → k < w.heap.size) (h : Ds w F v d) (hi : Iv d) (hrb : Rd w w.heap.size Ab (bs.map B8)) :
    Calls Try.prog 28 #[v, .slice Ab nb cb] w (RetDE w F (appD d bs) (appE d bs)) := by
  obtain ⟨A, m, c, rfl, hn, hc, hr⟩ := h
  have HN := Lib.hid hn; have HC := Lib.hid hc; have HR := Lib.hid hr; have HF := Lib.hid hF
  have HNB := Lib.hid hnb; have HRB := Lib.hid hrb
  have hm6 : m ≤ 60000 := by rw [hn]; exact hi.2.2.1
  have hr6 : d.room ≤ 60000 := hi.2.2.2.2.1
  have hr0 : 0 ≤ d.room := hi.2.2.2.1
  have hf1 : -1 ≤ d.fuse := hi.2.2.2.2.2.1
  have hf2 : d.fuse ≤ 9223372036854775807 := hi.2.2.2.2.2.2
  unfold big at hlb
  clear hn hc hr hF hnb hrb
  cases ho : d.off with
  | true =>
    have HP : Hid (RetDE w F (appD d bs) (appE d bs) = RetDE w F d 82) := Lib.hid (by unfold appD appE; rw [ho]; rfl)
    rw [HP.out]
    unfold dv
    rw [ho]
    go_enter Try.func28, Try.ntmps28
    go_wp2
    refine bodyPost_ret (results_disk2 (g := w.heap.size + 1) rfl rfl rfl (hat _ _ _ (by simp))) rfl ?_
    exact ⟨_, rfl, ⟨A, m, c, by unfold dv; rw [ho], HN.out, HC.out, HR.out.all (bal (bal (Below.refl _ _) (Nat.le_refl _) _) (Nat.le_refl _) _)⟩, bal (bal (Below.refl _ _) (Nat.le_refl _) _) (Nat.le_refl _) _⟩
  | false =>
  by_cases hfull : 0 < nb ∧ d.room - m < nb
  · have HP : Hid (RetDE w F (appD d bs) (appE d bs) = RetDE w F d 81) := Lib.hid (by unfold appD appE; rw [ho, ← HNB.out, ← HN.out, if_pos hfull, if_pos hfull]; rfl)
    rw [HP.out]
    unfold dv
    rw [ho]
    have h1 := hfull.1
    have h2 := hfull.2
    clear hfull
    go_enter Try.func28, Try.ntmps28
    go_wp2
    refine bodyPost_ret (results_disk2 (g := w.heap.size + 1) rfl rfl rfl (hat _ _ _ (by simp))) rfl ?_
    exact ⟨_, rfl, ⟨A, m, c, by unfold dv; rw [ho], HN.out, HC.out, HR.out.all (bal (bal (Below.refl _ _) (Nat.le_refl _) _) (Nat.le_refl _) _)⟩, bal (bal (Below.refl _ _) (Nat.le_refl _) _) (Nat.le_refl _) _⟩
  · have HPP : Hid (∀ k : Nat, d.fuse = k → k < nb → RetDE w F (appD d bs) (appE d bs) = RetDE w F ⟨d.data ++ bs.take k, d.safe, d.room, 0, true⟩ 82) := Lib.hid (fun k hk hkn => by
      have hq : 0 ≤ d.fuse ∧ d.fuse < (nb : Int) := by omega
      unfold appD appE
      rw [ho, ← HNB.out, ← HN.out, if_neg hfull, if_neg hfull, if_pos hq, if_pos hq, hk]
      rfl)
    have HPF : Hid (¬ (0 ≤ d.fuse ∧ d.fuse < nb) → RetDE w F (appD d bs) (appE d bs) = RetDE w F ⟨d.data ++ bs, d.safe, d.room, if 0 ≤ d.fuse then d.fuse - nb else d.fuse, false⟩ 0) := Lib.hid (fun hk => by
      unfold appD appE
      rw [ho, ← HNB.out, ← HN.out, if_neg hfull, if_neg hfull, if_neg hk, if_neg hk]
      rfl)
    generalize RetDE w F (appD d bs) (appE d bs) = P at HPP HPF ⊢
    have hfit : nb = 0 ∨ (0 < nb ∧ (nb : Int) ≤ d.room - m) := by omega
    unfold dv
    rw [ho]
    have HRS := Lib.hid (show Rd ((w.alloc (.cells #[.slice A m c, .int .i64 d.safe, .int .i64 d.room, .int .i64 d.fuse, .bool false] 51)).alloc (.cells #[.slice none 0 0, .int .i64 0, .int .i64 0, .int .i64 0, .bool false] 51)) w.heap.size A (d.data.map B8) from HR.out.rd.below (bal (bal (Below.refl _ _) (Nat.le_refl _) _) (Nat.le_refl _) _))
    clear hfull
    go_enter Try.func28, Try.ntmps28
    have HLN : Hid (m = d.data.length) := HN
    rcases hfit with hz | ⟨hz0, hz⟩
    · subst hz
      go_wp2_with (at_builtin; refine wp_copy8 rfl (.tmp 29) (.tmp 31) rfl ((w.alloc (.cells #[.slice A m c, .int .i64 d.safe, .int .i64 d.room, .int .i64 d.fuse, .bool false] 51)).alloc (.cells #[.slice none 0 0, .int .i64 0, .int .i64 0, .int .i64 0, .bool false] 51)) (by rw [World.size_alloc, World.size_alloc]; rfl) w.heap.size A m c d.data rfl HLN.out HRS.out (by simp; omega) (by unfold big; omega) ?_; intro A2 c2 w2 how hb2)
      have HXX := Lib.hid ((show Dx ((w.alloc (.cells #[.slice A m c, .int .i64 d.safe, .int .i64 d.room, .int .i64 d.fuse, .bool false] 51)).alloc (.cells #[.slice none 0 0, .int .i64 0, .int .i64 0, .int .i64 0, .bool false] 51)) w.heap.size A m c d.safe d.room d.fuse false from hbe (hat _ _ _ rfl)).all hb2)
      have HYY := Lib.hid ((show Dx ((w.alloc (.cells #[.slice A m c, .int .i64 d.safe, .int .i64 d.room, .int .i64 d.fuse, .bool false] 51)).alloc (.cells #[.slice none 0 0, .int .i64 0, .int .i64 0, .int .i64 0, .bool false] 51)) (w.heap.size + 1) none 0 0 0 0 0 false from hat _ _ _ (by simp)).all hb2)
      have HOO := Lib.hid (show Own w2 (w.heap.size + 2) A2 m c2 d.data from how.base (by simp))
      have HBB := Lib.hid ((bal (bal (Below.refl w.heap.size w) (Nat.le_refl _) (.cells #[.slice A m c, .int .i64 d.safe, .int .i64 d.room, .int .i64 d.fuse, .bool false] 51)) (Nat.le_refl _) (.cells #[.slice none 0 0, .int .i64 0, .int .i64 0, .int .i64 0, .bool false] 51)).trans (hb2.mono (by simp; omega)))
      have HSZ : Hid (w.heap.size + 2 ≤ w2.heap.size) := Lib.hid (by have := hb2.size; simp at this; omega)
      clear how hb2 HRS
      go_loopw [7, 35] (fun x i wr => x = .slice A2 m c2 ∧ i = .int .i64 0 ∧ wr = w2) (fun _ _ _ => 0)
      case atStart => exact ⟨rfl, rfl, rfl⟩
      case round =>
        obtain ⟨rfl, rfl, rfl⟩ := hrel
        have HO := HOO; have HX := HXX; have HY := HYY; have HB := HBB
        have HP2 := Lib.hid (HPF.out (by omega))
        have HB0 : Hid (bs = []) := Lib.hid (List.eq_nil_of_length_eq_zero HNB.out.symm)
        have HE : Hid ((if 0 ≤ d.fuse then d.fuse - ((0 : Nat) : Int) else d.fuse) = d.fuse) := Lib.hid (by split <;> omega)
        rw [HE.out] at HP2
        clear HOO HXX HYY HBB HSZ HE
        have x0 := HX.out.c0; have x1 := HX.out.c1; have x2 := HX.out.c2; have x3 := HX.out.c3; have x4 := HX.out.c4
        have f0 := frozen_of_row wr w.heap.size 0 _ _ HX.out
        have y0 := HY.out.c0; have y1 := HY.out.c1; have y2 := HY.out.c2; have y3 := HY.out.c3; have y4 := HY.out.c4
        have g0 := frozen_of_row wr (w.heap.size + 1) 0 _ _ HY.out
        have g1 := frozen_of_row wr (w.heap.size + 1) 1 _ _ HY.out
        have g2 := frozen_of_row wr (w.heap.size + 1) 2 _ _ HY.out
        have g3 := frozen_of_row wr (w.heap.size + 1) 3 _ _ HY.out
        have g4 := frozen_of_row wr (w.heap.size + 1) 4 _ _ HY.out
        go_wp2
        refine bodyPost_ret (results_disk2 (g := w.heap.size + 1) rfl rfl rfl (((((((HY.out.other (Nat.succ_ne_self _) _)).setA A2 m c2).setS d.safe).setR d.room).setF d.fuse).setO false)) rfl ?_
        rw [HP2.out]
        refine ⟨_, rfl, ⟨A2, m, c2, rfl, ?_, HO.out.cap, ?_⟩, ((((((HB.out.setCell (Nat.le_refl _) _).setCell (Nat.le_succ _) _).setCell (Nat.le_succ _) _).setCell (Nat.le_succ _) _).setCell (Nat.le_succ _) _).setCell (Nat.le_succ _) _)⟩
        · rw [HB0.out, List.append_nil]; exact HLN.out
        · show Rf _ F A2 ((d.data ++ bs).map B8)
          rw [HB0.out, List.append_nil]
          exact own_two HF.out HO.out (((((((Kp.refl (Two F w.heap.size) wr).setCell (Or.inr (Or.inl rfl)) _).setCell (Or.inr (Or.inr rfl)) _).setCell (Or.inr (Or.inr rfl)) _).setCell (Or.inr (Or.inr rfl)) _).setCell (Or.inr (Or.inr rfl)) _).setCell (Or.inr (Or.inr rfl)) _)
    · skip
      go_wp2_with (at_builtin; refine wp_copy8 rfl (.tmp 29) (.tmp 31) rfl ((w.alloc (.cells #[.slice A m c, .int .i64 d.safe, .int .i64 d.room, .int .i64 d.fuse, .bool false] 51)).alloc (.cells #[.slice none 0 0, .int .i64 0, .int .i64 0, .int .i64 0, .bool false] 51)) (by rw [World.size_alloc, World.size_alloc]; rfl) w.heap.size A m c d.data rfl HLN.out HRS.out (by simp; omega) (by unfold big; omega) ?_; intro A2 c2 w2 how hb2)
      have HXX := Lib.hid ((show Dx ((w.alloc (.cells #[.slice A m c, .int .i64 d.safe, .int .i64 d.room, .int .i64 d.fuse, .bool false] 51)).alloc (.cells #[.slice none 0 0, .int .i64 0, .int .i64 0, .int .i64 0, .bool false] 51)) w.heap.size A m c d.safe d.room d.fuse false from hbe (hat _ _ _ rfl)).all hb2)
      have HYY := Lib.hid ((show Dx ((w.alloc (.cells #[.slice A m c, .int .i64 d.safe, .int .i64 d.room, .int .i64 d.fuse, .bool false] 51)).alloc (.cells #[.slice none 0 0, .int .i64 0, .int .i64 0, .int .i64 0, .bool false] 51)) (w.heap.size + 1) none 0 0 0 0 0 false from hat _ _ _ (by simp)).all hb2)
      have HOO := Lib.hid (show Own w2 (w.heap.size + 2) A2 m c2 d.data from how.base (by simp))
      have HBB := Lib.hid ((bal (bal (Below.refl w.heap.size w) (Nat.le_refl _) (.cells #[.slice A m c, .int .i64 d.safe, .int .i64 d.room, .int .i64 d.fuse, .bool false] 51)) (Nat.le_refl _) (.cells #[.slice none 0 0, .int .i64 0, .int .i64 0, .int .i64 0, .bool false] 51)).trans (hb2.mono (by simp; omega)))
      have HSZ : Hid (w.heap.size + 2 ≤ w2.heap.size) := Lib.hid (by have := hb2.size; simp at this; omega)
      clear how hb2 HRS
      go_loopw [7, 35] (fun x i wr => ∃ (A3 : Option Addr) (c3 k : Nat), x = .slice A3 (m + k) c3 ∧ i = .int .i64 k ∧ k ≤ nb ∧ (0 ≤ d.fuse → (k : Int) ≤ d.fuse) ∧ Own wr (w.heap.size + 2) A3 (m + k) c3 (d.data ++ bs.take k) ∧ Dx wr w.heap.size A m c d.safe d.room (if 0 ≤ d.fuse then d.fuse - k else d.fuse) false ∧ Dx wr (w.heap.size + 1) none 0 0 0 0 0 false ∧ Below w.heap.size w wr ∧ w.heap.size + 2 ≤ wr.heap.size) (fun _ i _ => nb - (intOf i).toNat)
      case atStart => exact ⟨A2, c2, 0, rfl, rfl, Nat.zero_le _, by omega, by simpa using HOO.out, by have := HXX.out; simpa using this, HYY.out, HBB.out, HSZ.out⟩
      case round =>
        obtain ⟨A3, c3, k, rfl, rfl, hk, hkf, how, hx, hy, hb, hsz⟩ := hrel
        obtain ⟨f, hf⟩ : ∃ f, f = (if 0 ≤ d.fuse then d.fuse - (k : Int) else d.fuse) := ⟨_, rfl⟩
        rw [← hf] at hx
        have HO := Lib.hid how; have HX := Lib.hid hx; have HY := Lib.hid hy; have HB := Lib.hid hb; have HFU := Lib.hid hf
        have hfr : -1 ≤ f ∧ f ≤ 9223372036854775807 := by rw [hf]; split <;> omega
        clear how hx hy hb hf HOO HXX HYY HBB HSZ
        have x0 := HX.out.c0; have x1 := HX.out.c1; have x2 := HX.out.c2; have x3 := HX.out.c3; have x4 := HX.out.c4
        have f0 := frozen_of_row wr w.heap.size 0 _ _ HX.out
        have f3 := frozen_of_row wr w.heap.size 3 _ _ HX.out
        have f4 := frozen_of_row wr w.heap.size 4 _ _ HX.out
        have y0 := HY.out.c0; have y1 := HY.out.c1; have y2 := HY.out.c2; have y3 := HY.out.c3; have y4 := HY.out.c4
        have g0 := frozen_of_row wr (w.heap.size + 1) 0 _ _ HY.out
        have g1 := frozen_of_row wr (w.heap.size + 1) 1 _ _ HY.out
        have g2 := frozen_of_row wr (w.heap.size + 1) 2 _ _ HY.out
        have g3 := frozen_of_row wr (w.heap.size + 1) 3 _ _ HY.out
        have g4 := frozen_of_row wr (w.heap.size + 1) 4 _ _ HY.out
        by_cases h1 : k < nb
        · obtain ⟨b, o, rfl, hbB, hcell⟩ := HRB.out (by rw [List.length_map, ← HNB.out]; omega)
          have hkl : k < bs.length := by rw [← HNB.out]; exact h1
          have hzz : bs[k]? = some bs[k] := List.getElem?_eq_getElem hkl
          have hcu := hcell k (B8 bs[k]) (by rw [List.getElem?_map, hzz]; rfl)
          have HT : Hid (d.data ++ bs.take (k + 1) = (d.data ++ bs.take k) ++ [bs[k]]) := Lib.hid (by rw [List.take_add_one, hzz, List.append_assoc]; rfl)
          generalize bs[k] = u at hcu HT
          have hcw : wr.cell? ⟨b, o + k, none⟩ = some (.int .u8 (u.toNat : Int)) := (HB.out.cell (by show b < _; omega)).trans hcu
          clear hcu hzz hkl hcell
          by_cases hf0 : f = 0
          · have HK : Hid (d.fuse = k) := Lib.hid (by have := HFU.out; rw [hf0] at this; split at this <;> omega)
            have HP2 := Lib.hid (HPP.out k HK.out h1)
            subst hf0
            go_wp2
            refine bodyPost_ret (results_disk2 (g := w.heap.size + 1) rfl rfl rfl ((((((((HY.out.other (Nat.succ_ne_self _) _).other (Nat.succ_ne_self _) _)).setA A3 (m + k) c3).setS d.safe).setR d.room).setF 0).setO true)) rfl ?_
            rw [HP2.out]
            refine ⟨_, rfl, ⟨A3, m + k, c3, rfl, ?_, HO.out.cap, own_two HF.out HO.out ((((((((Kp.refl (Two F w.heap.size) wr).setCell (Or.inr (Or.inl rfl)) _).setCell (Or.inr (Or.inl rfl)) _).setCell (Or.inr (Or.inr rfl)) _).setCell (Or.inr (Or.inr rfl)) _).setCell (Or.inr (Or.inr rfl)) _).setCell (Or.inr (Or.inr rfl)) _).setCell (Or.inr (Or.inr rfl)) _)⟩, (((((((HB.out.setCell (Nat.le_refl _) _).setCell (Nat.le_refl _) _).setCell (Nat.le_succ _) _).setCell (Nat.le_succ _) _).setCell (Nat.le_succ _) _).setCell (Nat.le_succ _) _).setCell (Nat.le_succ _) _)⟩
            rw [List.length_append, ← HLN.out, List.length_take, Nat.min_eq_left (by rw [← HNB.out]; exact hk)]
          · have hfn : (f == 0) = false := by rw [beq_eq_false_iff_ne]; exact hf0
            clear y0 y1 y2 y3 y4 g0 g1 g2 g3 g4
            by_cases hfp : 0 < f
            · have HF2 : Hid (f - 1 = if 0 ≤ d.fuse then d.fuse - ((k + 1 : Nat) : Int) else d.fuse) := Lib.hid (by have := HFU.out; split at this <;> rename_i h7 <;> (first | rw [if_pos h7] | rw [if_neg h7]) <;> omega)
              go_wp2_with (at_builtin; refine wp_app8 rfl (.tmp 53) (.tmp 55) rfl (w.heap.size + 2) A3 (m + k) c3 _ rfl ((own_set HO.out (by show w.heap.size < _; omega) _).alloc _) (wr.heap.size + 1) _ 1 1 [u] rfl rfl (by have := rd_one (wr.setCell ⟨w.heap.size, 3, none⟩ (.int .i64 (f - 1))) _ u rfl; simpa using this) (by unfold big; omega) (by simp; omega) ?_; intro A4 c4 w4 ho4 hb4)
              have hs4 := hb4.size
              rw [World.size_alloc] at hs4
              have hsw : (wr.setCell ⟨w.heap.size, 3, none⟩ (.int .i64 (f - 1))).heap.size = wr.heap.size := by simp
              refine ⟨⟨A4, c4, k + 1, rfl, by go_num, by omega, ?_, ?_, ?_, ?_, ?_, by omega⟩, by simp [intOf]; omega⟩
              · intro h8
                have := HFU.out
                rw [if_pos h8] at this
                omega
              · rw [HT.out]; exact ho4
              · rw [← HF2.out]
                exact (hb4.block _ (by omega)).trans (hbe (HX.out.setF (f - 1)))
              · exact (hb4.block _ (by omega)).trans (hbe (HY.out.other (Nat.succ_ne_self _) _))
              · exact (bal (HB.out.setCell (Nat.le_refl _) _) (Nat.le_refl _) _).trans (hb4.mono (by omega))
            · have hfl : f < 0 := by omega
              have HF2 : Hid (f = if 0 ≤ d.fuse then d.fuse - ((k + 1 : Nat) : Int) else d.fuse) := Lib.hid (by have := HFU.out; split at this <;> rename_i h7 <;> (first | rw [if_pos h7] | rw [if_neg h7]) <;> omega)
              go_wp2_with (at_builtin; refine wp_app8 rfl (.tmp 53) (.tmp 55) rfl (w.heap.size + 2) A3 (m + k) c3 _ rfl (HO.out.alloc _) (wr.heap.size + 1) _ 1 1 [u] rfl rfl (rd_one wr _ u rfl) (by unfold big; omega) (by simp; omega) ?_; intro A4 c4 w4 ho4 hb4)
              have hs4 := hb4.size
              rw [World.size_alloc] at hs4
              refine ⟨⟨A4, c4, k + 1, rfl, by go_num, by omega, ?_, ?_, ?_, ?_, ?_, by omega⟩, by simp [intOf]; omega⟩
              · intro h8
                have := HFU.out
                rw [if_pos h8] at this
                have := hkf h8
                omega
              · rw [HT.out]; exact ho4
              · rw [← HF2.out]
                exact (hb4.block _ (by omega)).trans (hbe HX.out)
              · exact (hb4.block _ (by omega)).trans (hbe HY.out)
              · exact (bal HB.out (Nat.le_refl _) _).trans (hb4.mono (by omega))
        · obtain rfl : k = nb := by omega
          have HNF : Hid (¬ (0 ≤ d.fuse ∧ d.fuse < (k : Int))) := Lib.hid (by rintro ⟨h3, h4⟩; have := hkf h3; omega)
          have HP2 := Lib.hid (HPF.out HNF.out)
          rw [← HFU.out] at HP2
          go_wp2
          refine bodyPost_ret (results_disk2 (g := w.heap.size + 1) rfl rfl rfl (((((((HY.out.other (Nat.succ_ne_self _) _)).setA A3 (m + k) c3).setS d.safe).setR d.room).setF f).setO false)) rfl ?_
          rw [HP2.out]
          have HT : d.data ++ bs.take k = d.data ++ bs := by rw [List.take_of_length_le (by rw [← HNB.out]; omega)]
          refine ⟨_, rfl, ⟨A3, m + k, c3, rfl, ?_, HO.out.cap, ?_⟩, ((((((HB.out.setCell (Nat.le_refl _) _).setCell (Nat.le_succ _) _).setCell (Nat.le_succ _) _).setCell (Nat.le_succ _) _).setCell (Nat.le_succ _) _).setCell (Nat.le_succ _) _)⟩
          · rw [List.length_append, ← HLN.out, ← HNB.out]
          · show Rf _ F A3 ((d.data ++ bs).map B8)
            rw [← HT]
            exact own_two HF.out HO.out (((((((Kp.refl (Two F w.heap.size) wr).setCell (Or.inr (Or.inl rfl)) _).setCell (Or.inr (Or.inr rfl)) _).setCell (Or.inr (Or.inr rfl)) _).setCell (Or.inr (Or.inr rfl)) _).setCell (Or.inr (Or.inr rfl)) _).setCell (Or.inr (Or.inr rfl)) _)
end Go.Proofs.Ytjcbdnbbdhjoiaa.Dkw

namespace Go.Proofs.Ytjcbdnbbdhjoiaa.Dkw
set_option maxRecDepth 20000
open Go.RowKit
open Dk

def I64 (x : Int) : Prop := -9223372036854775808 ≤ x ∧ x ≤ 9223372036854775807
/-- F' has nothing but F's blocks and new ones, and all outside of F is as it was -/
def Gw (F F' : Nat → Prop) (w w' : World) : Prop := Kp F w w' ∧ ∀ k, F' k → F k ∨ w.heap.size ≤ k
theorem Gw.below {F F' : Nat → Prop} {w w' : World} (h : Gw F F' w w') {B : Nat} (hB : B ≤ w.heap.size) (hF : ∀ k, F k → B ≤ k) : Below B w w' ∧ ∀ k, F' k → B ≤ k :=
  ⟨h.1.below hB hF, fun k hk => by
    rcases h.2 k hk with h1 | h1
    · exact hF k h1
    · omega⟩
/-- an object of one's own, outside of F -/
def Lc (w : World) (F : Nat → Prop) (g : Nat) (o : Obj) : Prop := w.heap[g]? = some o ∧ ¬ F g
theorem Lc.lt {w : World} {F : Nat → Prop} {g : Nat} {o : Obj} (h : Lc w F g o) : g < w.heap.size := by
  rcases Nat.lt_or_ge g w.heap.size with h' | h'
  · exact h'
  · have := h.1; rw [Array.getElem?_eq_none h'] at this; cases this
theorem Lc.keep {w w' : World} {F F' : Nat → Prop} {g : Nat} {o : Obj} (h : Lc w F g o) (hg : Gw F F' w w') : Lc w' F' g o :=
  ⟨(hg.1.block g h.lt h.2).trans h.1, fun hf => by
    rcases hg.2 g hf with h1 | h1
    · exact h.2 h1
    · have := h.lt; omega⟩
theorem Lc.all {w w' : World} {F : Nat → Prop} {g : Nat} {o : Obj} (h : Lc w F g o) (hb : Below w.heap.size w w') : Lc w' F g o := ⟨(hb.block g h.lt).trans h.1, h.2⟩
theorem Lc.new {w : World} {F : Nat → Prop} {o : Obj} (hF : ∀ k, F k → k < w.heap.size) : Lc (w.alloc o) F w.heap.size o := ⟨hat _ _ _ rfl, fun hf => by have := hF _ hf; omega⟩
/-- the document's disk in a variable of one's own, outside of F -/
def Rw (w : World) (F : Nat → Prop) (g : Nat) (d : D) : Prop := ∃ A n c, Dx w g A n c d.safe d.room d.fuse d.off ∧ n = d.data.length ∧ n ≤ c ∧ Rf w (fun k => F k ∨ k = g) A (d.data.map B8) ∧ ¬ F g
theorem Rw.keep {w w' : World} {F F' : Nat → Prop} {g : Nat} {d : D} (h : Rw w F g d) (hg : Gw F F' w w') : Rw w' F' g d := by
  obtain ⟨A, n, c, hx, hn, hc, hr, hf⟩ := h
  have hl := Lc.keep ⟨hx, hf⟩ hg
  refine ⟨A, n, c, hl.1, hn, hc, ?_, hl.2⟩
  have h1 : Rf w' F' A (d.data.map B8) := Rf.keep (F := F) (fun hp => by
    obtain ⟨b, o, e, hb, hq, hc⟩ := hr hp
    exact ⟨b, o, e, hb, fun h => hq (Or.inl h), hc⟩) hg.1 hg.2
  intro hp
  obtain ⟨b, o, e, hb, hq, hc⟩ := h1 hp
  obtain ⟨b2, o2, e2, _, hq2, _⟩ := hr hp
  rw [e] at e2
  injection e2 with e2
  injection e2 with e3 e4
  subst e3
  exact ⟨b, o, e, hb, fun h => h.elim hq (fun h => hq2 (Or.inr h)), hc⟩
theorem Rw.all {w w' : World} {F : Nat → Prop} {g : Nat} {d : D} (h : Rw w F g d) (hb : Below w.heap.size w w') : Rw w' F g d := h.keep ⟨Kp.of_below hb, fun _ hk => Or.inl hk⟩
/-- another one is stored there -/
theorem Rw.store {w : World} {F : Nat → Prop} {g : Nat} {d d' : D} (h : Rw w F g d) {A : Option Addr} {n c : Nat} (hn : n = d'.data.length) (hc : n ≤ c) (hr : Rf w (fun k => F k ∨ k = g) A (d'.data.map B8)) :
    Rw (((((w.setCell ⟨g, 0, none⟩ (.slice A n c)).setCell ⟨g, 1, none⟩ (.int .i64 d'.safe)).setCell ⟨g, 2, none⟩ (.int .i64 d'.room)).setCell ⟨g, 3, none⟩ (.int .i64 d'.fuse)).setCell ⟨g, 4, none⟩ (.bool d'.off)) F g d' := by
  obtain ⟨A0, n0, c0, hx, _, _, _, hf⟩ := h
  refine ⟨A, n, c, ((((hx.setA A n c).setS _).setR _).setF _).setO _, hn, hc, ?_, hf⟩
  exact hr.keep (((((((Kp.refl _ w).setCell (Or.inr rfl) _).setCell (Or.inr rfl) _).setCell (Or.inr rfl) _).setCell (Or.inr rfl) _).setCell (Or.inr rfl) _)) (fun _ h => Or.inl h)
theorem Rw.sub {w : World} {F F' : Nat → Prop} {g : Nat} {d : D} (h : Rw w F' g d) (hs : ∀ k, F k → F' k) : Rw w F g d := by
  obtain ⟨A, n, c, hx, hn, hc, hr, hf⟩ := h
  refine ⟨A, n, c, hx, hn, hc, ?_, fun h => hf (hs _ h)⟩
  intro hp
  obtain ⟨b, o, e, hb, hq, hce⟩ := hr hp
  exact ⟨b, o, e, hb, fun h => hq (h.elim (fun h => Or.inl (hs _ h)) Or.inr), hce⟩
theorem Rw.sup {w : World} {F F' : Nat → Prop} {g : Nat} {d : D} (h : Rw w F g d) (hs : ∀ k, F' k → F k ∨ w.heap.size ≤ k) : Rw w F' g d := h.keep ⟨Kp.refl _ _, hs⟩
theorem Kp.mono {F F' : Nat → Prop} {w w' : World} (h : Kp F w w') (hs : ∀ k, F k → F' k) : Kp F' w w' := ⟨h.os, h.tape, h.output, h.size, fun k hk hf => h.block k hk (fun h => hf (hs k h))⟩
/-- a row of one's own stays where something else is stored to -/
theorem rows_set {w : World} {base g n c : Nat} {e : TypeId} {A : Option Addr} {vs : List Value} (h : w.ownsRow base e 1 (.slice A n c) n vs) (hg : ∀ k, A = some ⟨k, 0, none⟩ → k ≠ g ∨ False) (i : Nat) (u : Value) : (w.setCell ⟨g, i, none⟩ u).ownsRow base e 1 (.slice A n c) n vs := by
  refine ⟨h.1, ?_⟩
  rcases h.2 with h0 | ⟨b, cap, cur, hv, hgb, hh, r⟩
  · exact .inl h0
  · refine .inr ⟨b, cap, cur, hv, hgb, ?_, r⟩
    injection hv with e1 e2 e3
    have hne : b ≠ g := (hg b e1).elim id False.elim
    exact (Below.heap_setCell w ⟨g, i, none⟩ u b hne).trans hh
/-- a slice of bytes that came in -/
structure Pt where
  a : Option Addr
  n : Nat
  c : Nat
  bs : List UInt8
def Pt.v (p : Pt) : Value := .slice p.a p.n p.c
def Pt.ok (w : World) (B : Nat) (p : Pt) : Prop := p.n = p.bs.length ∧ p.n ≤ p.c ∧ p.n ≤ big ∧ Rd w B p.a (p.bs.map B8)
theorem Pt.ok.below {w w' : World} {B : Nat} {p : Pt} (h : p.ok w B) (hb : Below B w w') : p.ok w' B := ⟨h.1, h.2.1, h.2.2.1, h.2.2.2.below hb⟩
/-- the slice A holds these texts, below block B -/
def Pts (w : World) (B : Nat) (A : Option Addr) (ps : List Pt) : Prop := Rd w B A (ps.map Pt.v) ∧ ∀ p ∈ ps, p.ok w B
theorem Pts.below {w w' : World} {B : Nat} {A : Option Addr} {ps : List Pt} (h : Pts w B A ps) (hb : Below B w w') : Pts w' B A ps := ⟨h.1.below hb, fun p hp => (h.2 p hp).below hb⟩
theorem str_append (a b : List UInt8) : str a ++ str b = str (a ++ b) := by
  apply ByteArray.ext
  simp [str]
theorem str_add (a b : List UInt8) (ha : a.length ≤ 8388608) (hb : b.length ≤ 8388608) (w : World) : (Op.stringOp .add (str a) (str b)).run Try.prog w = .ok (.string (str (a ++ b))) w := by
  rw [run_string_add w (str a) (str b) (by rw [str_size]; omega) (by rw [str_size]; omega), str_append]
theorem str_take (W : List UInt8) (n : Nat) : (str W).extract 0 n = str (W.take n) := by
  apply ByteArray.ext
  simp [str]
theorem str_same (a : List UInt8) : ((str a).toList == (str a).toList) = true := by simp
/-- something done with a disk, as it came in -/
structure Ac where
  kind : Int
  num : Int
  pt : Pt
def Three (w : World) (b o : Nat) (x : Ac) : Prop := w.cell? ⟨b, o, none⟩ = some (.int .i64 x.kind) ∧ w.cell? ⟨b, o + 1, none⟩ = some (.int .i64 x.num) ∧ w.cell? ⟨b, o + 2, none⟩ = some (.slice x.pt.a x.pt.n x.pt.c)
theorem Three.below {w w' : World} {b o B : Nat} {x : Ac} (h : Three w b o x) (hb : Below B w w') (hB : b < B) : Three w' b o x :=
  ⟨(hb.cell (p := ⟨b, o, none⟩) hB).trans h.1, (hb.cell (p := ⟨b, o + 1, none⟩) hB).trans h.2.1, (hb.cell (p := ⟨b, o + 2, none⟩) hB).trans h.2.2⟩
/-- the slice A holds these acts, below block B -/
def Acs (w : World) (B : Nat) (A : Option Addr) (xs : List Ac) : Prop :=
  (0 < xs.length → ∃ b o, A = some ⟨b, o, none⟩ ∧ b < B ∧ ∀ (j : Nat) (x : Ac), xs[j]? = some x → Three w b (o + j * 3) x) ∧ ∀ x ∈ xs, I64 x.kind ∧ I64 x.num ∧ x.pt.ok w B
end Go.Proofs.Ytjcbdnbbdhjoiaa.Dkw

namespace Go.Proofs.Ytjcbdnbbdhjoiaa.Dkw
set_option maxRecDepth 20000
open Go.RowKit
open Dk

/-- a disk's block -/
def Dy (w : World) (g : Nat) (A : Option Addr) (n c : Nat) (s r f : Int) (o : Bool) : Prop := w.heap[g]? = some (.cells #[.slice A n c, .int .i64 s, .int .i64 r, .int .i64 f, .bool o] 78)
section
variable {w : World} {g : Nat} {A : Option Addr} {n c : Nat} {s r f : Int} {o : Bool}
theorem Dy.c0 (h : Dy w g A n c s r f o) : w.cell? ⟨g, 0, none⟩ = some (.slice A n c) := by rw [cell_of_row _ _ _ _ _ _ h]; rfl
theorem Dy.c1 (h : Dy w g A n c s r f o) : w.cell? ⟨g, 1, none⟩ = some (.int .i64 s) := by rw [cell_of_row _ _ _ _ _ _ h]; rfl
theorem Dy.c2 (h : Dy w g A n c s r f o) : w.cell? ⟨g, 2, none⟩ = some (.int .i64 r) := by rw [cell_of_row _ _ _ _ _ _ h]; rfl
theorem Dy.c3 (h : Dy w g A n c s r f o) : w.cell? ⟨g, 3, none⟩ = some (.int .i64 f) := by rw [cell_of_row _ _ _ _ _ _ h]; rfl
theorem Dy.c4 (h : Dy w g A n c s r f o) : w.cell? ⟨g, 4, none⟩ = some (.bool o) := by rw [cell_of_row _ _ _ _ _ _ h]; rfl
theorem Dy.lt (h : Dy w g A n c s r f o) : g < w.heap.size := by
  rcases Nat.lt_or_ge g w.heap.size with h' | h'
  · exact h'
  · unfold Dy at h; rw [Array.getElem?_eq_none h'] at h; cases h
theorem Dy.all {w' : World} (h : Dy w g A n c s r f o) (hb : Below w.heap.size w w') : Dy w' g A n c s r f o := (hb.block g h.lt).trans h
theorem Dy.put1 (h : Dy w g A n c s r f o) (i : Nat) (u : Value) : (w.setCell ⟨g, i, none⟩ u).heap[g]? = some (.cells (#[.slice A n c, .int .i64 s, .int .i64 r, .int .i64 f, .bool o].setIfInBounds i u) 78) := heap_setCell_same w g i _ _ _ h
theorem Dy.setA (h : Dy w g A n c s r f o) (A' : Option Addr) (n' c' : Nat) : Dy (w.setCell ⟨g, 0, none⟩ (.slice A' n' c')) g A' n' c' s r f o := by unfold Dy; rw [h.put1]; rfl
theorem Dy.setS (h : Dy w g A n c s r f o) (x : Int) : Dy (w.setCell ⟨g, 1, none⟩ (.int .i64 x)) g A n c x r f o := by unfold Dy; rw [h.put1]; rfl
theorem Dy.setR (h : Dy w g A n c s r f o) (x : Int) : Dy (w.setCell ⟨g, 2, none⟩ (.int .i64 x)) g A n c s x f o := by unfold Dy; rw [h.put1]; rfl
theorem Dy.setF (h : Dy w g A n c s r f o) (x : Int) : Dy (w.setCell ⟨g, 3, none⟩ (.int .i64 x)) g A n c s r x o := by unfold Dy; rw [h.put1]; rfl
theorem Dy.setO (h : Dy w g A n c s r f o) (x : Bool) : Dy (w.setCell ⟨g, 4, none⟩ (.bool x)) g A n c s r f x := by unfold Dy; rw [h.put1]; rfl
end
/-- the blocks of a disk: its own, and that of its bytes -/
def Fs (g : Nat) (v : Value) (k : Nat) : Prop := k = g ∨ v.ownBlock = some k
/-- what package disk has of every disk -/
def Fits (d : D) : Prop := Iv d ∧ True
/-- the value p leads to a disk in state d, whose blocks are F -/
def Dd (w : World) (F : Nat → Prop) (p : Value) (d : D) : Prop :=
  ∃ g A n c, p = .pointer (some ⟨g, 0, none⟩) ∧ Dy w g A n c d.safe d.room d.fuse d.off ∧ Own w 0 A n c d.data ∧ (∀ k, F k ↔ Fs g (.slice A n c) k) ∧ Fits d
theorem own_ne {w : World} {g b : Nat} {A : Option Addr} {n c m : Nat} {s r f : Int} {o : Bool} {A2 : Option Addr} {n2 c2 : Nat} {bs : List UInt8} (h : Dy w g A n c s r f o) (ho : Own w m A2 n2 c2 bs) (hb : (Value.slice A2 n2 c2).ownBlock = some b) : b ≠ g := by
  rintro rfl
  rcases ho.2.2 with ⟨hv, _⟩ | ⟨g', cap, cur, hv, _, hh, _⟩
  · rw [hv] at hb; simp [Value.ownBlock] at hb
  · rw [hv] at hb
    simp only [Value.ownBlock, Option.some.injEq] at hb
    subst hb
    unfold Dy at h
    rw [hh] at h
    simp only [Option.some.injEq, Obj.cells.injEq] at h
    exact absurd h.2.1 (by decide)
theorem Dd.lt {w : World} {F : Nat → Prop} {p : Value} {d : D} (h : Dd w F p d) : ∀ k, F k → k < w.heap.size := by
  obtain ⟨g, A, n, c, rfl, hy, ho, hF, _⟩ := h
  intro k hk
  rcases (hF k).1 hk with h1 | h1
  · subst h1; exact hy.lt
  · exact (ho.2.lt k h1).2
theorem Dd.iv {w : World} {F : Nat → Prop} {p : Value} {d : D} (h : Dd w F p d) : Iv d := by
  obtain ⟨g, A, n, c, rfl, hy, ho, hF, h1, _⟩ := h
  exact h1
theorem Dd.ptr {w : World} {F : Nat → Prop} {p : Value} {d : D} (h : Dd w F p d) : ∃ a, p = .pointer (some a) := by
  obtain ⟨g, A, n, c, rfl, _⟩ := h
  exact ⟨_, rfl⟩
/-- a row of one's own stays if its block does -/
theorem own_keep {w w' : World} {base : Nat} {A : Option Addr} {n c : Nat} {bs : List UInt8} (h : Own w base A n c bs) (hk : ∀ k, (Value.slice A n c).ownBlock = some k → w'.heap[k]? = w.heap[k]?) : Own w' base A n c bs := by
  refine ⟨h.1, h.2.1, ?_⟩
  rcases h.2.2 with h0 | ⟨g, cap, cur, hv, hg, hh, r⟩
  · exact .inl h0
  · refine .inr ⟨g, cap, cur, hv, hg, ?_, r⟩
    rw [← hh]
    exact hk g (by rw [hv]; rfl)
theorem Dd.keep {w w' : World} {F : Nat → Prop} {p : Value} {d : D} (h : Dd w F p d) (_hs : w.heap.size ≤ w'.heap.size) (hk : ∀ k, F k → w'.heap[k]? = w.heap[k]?) : Dd w' F p d := by
  obtain ⟨g, A, n, c, rfl, hy, ho, hF, hi⟩ := h
  exact ⟨g, A, n, c, rfl, (hk g ((hF g).2 (Or.inl rfl))).trans hy, own_keep ho (fun k h1 => hk k ((hF k).2 (Or.inr h1))), hF, hi⟩
/-- answered, with the disk in another state -/
def RetK (w : World) (F : Nat → Prop) (p : Value) (d : D) (v : Value) (e : Ending) (w' : World) : Prop := ∃ F', e = .returned v ∧ Dd w' F' p d ∧ Gw F F' w w'
/-- a row of one's own, cut -/
theorem own_cut {w : World} {base : Nat} {A : Option Addr} {n c : Nat} {bs : List UInt8} (h : Own w base A n c bs) (k : Nat) (hk : k ≤ n) : Own w base A k c (bs.take k) := by
  refine ⟨by rw [List.length_take, ← h.1]; omega, by simp [← h.1]; omega, ?_⟩
  rcases h.2.2 with ⟨h0, h1⟩ | ⟨g, cap, cur, hv, hg, hh, hnc, hm, hs, ht⟩
  · left
    injection h0 with e1 e2 e3
    have : k = 0 := by omega
    subst this
    exact ⟨by rw [e1, e3], rfl⟩
  · right
    injection hv with e1 e2 e3
    refine ⟨g, cap, cur, by rw [e1, e3], hg, hh, by omega, hm, hs, ?_⟩
    rw [List.map_take, ← ht, List.take_take]
    congr 1
    omega
theorem fs_cut (g : Nat) (A : Option Addr) (n c n' c' : Nat) : Fs g (.slice A n c) = Fs g (.slice A n' c') := by
  unfold Fs
  cases A <;> rfl
/-- the disk's own block is stored to: its row stays -/
theorem own_put {w : World} {g i m : Nat} {A : Option Addr} {n c : Nat} {s r f : Int} {o : Bool} {A2 : Option Addr} {n2 c2 : Nat} {bs : List UInt8} (h : Dy w g A n c s r f o) (ho : Own w m A2 n2 c2 bs) (u : Value) : Own (w.setCell ⟨g, i, none⟩ u) m A2 n2 c2 bs :=
  own_keep ho (fun k hk => Below.heap_setCell w ⟨g, i, none⟩ u k (own_ne h ho hk))
/-- append onto a disk's row: the row grows where it lies, or lies in a new block -/
theorem run_appK (w : World) (ty : TypeId) (A : Option Addr) (n c : Nat) (bs : List UInt8) (hown : Own w 0 A n c bs) (B : Nat) (A2 : Option Addr) (m c2 : Nat) (news : List UInt8) (hm : m = news.length) (hr : Rd w B A2 (news.map B8)) (hb : n + m ≤ big) :
    ∃ A' c' w', (Builtin.append_ #[41, 41] ty #[.slice A n c, .slice A2 m c2]).run Try.prog w = .ok (.slice A' (n + m) c') w' ∧ Own w' 0 A' (n + m) c' (bs ++ news) ∧ w.grownBy w' (Value.slice A n c).ownBlock ∧ (A' = A ∨ ∃ b, A' = some ⟨b, 0, none⟩ ∧ w.heap.size ≤ b) := by
  obtain ⟨i0, hi, hz0, hz1, hz2⟩ := info_parts info8
  have key : ∀ base, base ≤ w.heap.size → w.ownsRow base 5 1 (.slice A n c) n (bs.map B8) → ∃ A' c' w', (Builtin.append_ #[41, 41] ty #[.slice A n c, .slice A2 m c2]).run Try.prog w = .ok (.slice A' (n + m) c') w' ∧ w'.ownsRow base 5 1 (.slice A' (n + m) c') (n + m) ((bs ++ news).map B8) ∧ w.grownBy w' (Value.slice A n c).ownBlock := by
    intro base hbase ho
    obtain ⟨A', c', w', h1, h2, _, h4⟩ := run_app (P := Try.prog) w base 41 ty 5 i0 (.int .u8 0) 1 Try.underlying41 hi hz0 hz1 hz2 rfl (.slice A n c) n (bs.map B8) ho B A2 m c2 (news.map B8) (by simpa using hm) hr (B8_one news) (by unfold big at hb; unfold maxLen; omega) (by unfold big at hb; omega) hbase
    exact ⟨A', c', w', h1, by rw [List.map_append]; exact h2, h4⟩
  have hlen : n + m = (bs ++ news).length := by rw [List.length_append, ← hown.1, ← hm]
  rcases hown.2.2 with ⟨h0, h0n⟩ | ⟨g, cap, cur, hv, hbg, hg, hnc, hcm, hcs, htake⟩
  · obtain ⟨A', c', w', h1, h2, h3⟩ := key w.heap.size (Nat.le_refl _) ⟨hown.2.1, .inl ⟨h0, h0n⟩⟩
    refine ⟨A', c', w', h1, ⟨hlen, own_base h2 (Nat.zero_le _)⟩, h3, ?_⟩
    rcases h2.2 with ⟨h4, _⟩ | ⟨g, cap, cur, hv, hbg, _⟩
    · injection h4 with e1
      injection h0 with e2
      left; rw [e1, e2]
    · injection hv with e1
      exact Or.inr ⟨g, e1, hbg⟩
  · obtain ⟨A', c', w', h1, h2, h3⟩ := key 0 (Nat.zero_le _) hown.2
    refine ⟨A', c', w', h1, ⟨hlen, h2⟩, h3, ?_⟩
    injection hv with e1 e2 e3
    subst e1
    subst e3
    cases A2 with
    | none =>
      have hm0 : m = 0 := by
        cases news with
        | nil => simpa using hm
        | cons x y => obtain ⟨b, o, h, _⟩ := hr (by simp); cases h
      subst hm0
      left
      have h5 : (Builtin.append_ #[41, 41] ty #[.slice (some ⟨g, 0, none⟩) n c, .slice none 0 c2]).run Try.prog w = .ok (.slice (some ⟨g, 0, none⟩) n c) w := by
        simp [Builtin.append_, run_underlying Try.underlying41, sizeOf, typeInfo, hi, Builtin.lenOf, Builtin.firstCells, hnc, storeCells]
      rw [h5] at h1
      injection h1 with e4
      injection e4 with e4
      exact e4.symm
    | some ad =>
      have hcell : ∀ j u, (news.map B8)[j]? = some u → w.cell? (ad.add j) = some u := by
        intro j u hu
        have hp : 0 < (news.map B8).length := by
          rcases Nat.eq_zero_or_pos (news.map B8).length with h | h
          · rw [List.eq_nil_of_length_eq_zero h] at hu; cases hu
          · exact h
        obtain ⟨b, o, e, _, hc⟩ := hr hp
        injection e with e
        subst e
        have := hc j u hu
        rw [Addr.add_lit]
        exact this
      by_cases hroom : n + m ≤ c
      · left
        obtain ⟨w2, h5, _⟩ := run_append_fits (P := Try.prog) w 0 41 ty 5 i0 1 Try.underlying41 hi hz1 g n c (bs.map B8) hown.2 ad m c2 (news.map B8) (by simp [hm]) hcell (B8_one news) hroom
        rw [h5] at h1
        injection h1 with e4
        injection e4 with e4
        exact e4.symm
      · right
        have holds : ∀ j u, (bs.map B8)[j]? = some u → w.cell? ((⟨g, 0, none⟩ : Addr).add j) = some u := hown.2.cells (g := g) rfl
        have h5 := run_append_grow (P := Try.prog) w 41 ty 5 i0 (.int .u8 0) Try.underlying41 hi hz0 ⟨g, 0, none⟩ n c (bs.map B8) (by rw [hz1]; exact hown.2.1) holds ad m c2 (news.map B8) (by rw [hz1]; simp [hm]) hcell (by omega) (by unfold big at hb; omega) (by rw [hz2]; exact growslice_fits (by omega) (by unfold big at hb; omega))
        rw [h5] at h1
        injection h1 with e4
        injection e4 with e4
        exact ⟨_, e4.symm, Nat.le_refl _⟩
theorem op_appK {w : World} {o : Oper} {a : Act} {K : Act → World → Prop} {Q : Exit → Act → World → Prop} (s x : Operand)
    (ho : o.op = .call { callee := .builtin .append, args := #[s, x], argTypes := #[41, 41] })
    (A : Option Addr) (n c : Nat) (bs : List UInt8) (hs : a.eval s = .slice A n c) (hown : Own w 0 A n c bs)
    (B : Nat) (A2 : Option Addr) (m c2 : Nat) (news : List UInt8) (hx : a.eval x = .slice A2 m c2) (hm : m = news.length) (hr : Rd w B A2 (news.map B8)) (hb : n + m ≤ big)
    (h : ∀ A' c' w', Own w' 0 A' (n + m) c' (bs ++ news) → w.grownBy w' (Value.slice A n c).ownBlock → (A' = A ∨ ∃ b, A' = some ⟨b, 0, none⟩ ∧ w.heap.size ≤ b) → K (a.put o.dst (.slice A' (n + m) c')) w') : o.wp Try.prog a w K Q := by
  obtain ⟨A', c', w', hrun, h2, h3, h4⟩ := run_appK w o.type A n c bs hown B A2 m c2 news hm hr hb
  unfold Oper.wp execOp
  simp only [ho, resolve, invoke, builtin, Sem.run_bind, Sem.run_pure, Result.andThen_ok, List.map_toArray, List.map_cons, List.map_nil, hs, hx, hrun]
  exact h A' c' w' h2 h3 h4
theorem wp_appK {w : World} {ops : Array Oper} {rest : List Oper} {o : Oper} {a : Act} {Q : Exit → Act → World → Prop} (hgd : o.guard = none) (s x : Operand)
    (ho : o.op = .call { callee := .builtin .append, args := #[s, x], argTypes := #[41, 41] })
    (A : Option Addr) (n c : Nat) (bs : List UInt8) (hs : a.eval s = .slice A n c) (hown : Own w 0 A n c bs)
    (B : Nat) (A2 : Option Addr) (m c2 : Nat) (news : List UInt8) (hx : a.eval x = .slice A2 m c2) (hm : m = news.length) (hr : Rd w B A2 (news.map B8)) (hb : n + m ≤ big)
    (h : ∀ A' c' w', Own w' 0 A' (n + m) c' (bs ++ news) → w.grownBy w' (Value.slice A n c).ownBlock → (A' = A ∨ ∃ b, A' = some ⟨b, 0, none⟩ ∧ w.heap.size ≤ b) → wpList Try.prog ops Q rest (a.put o.dst (.slice A' (n + m) c')) w') : wpList Try.prog ops Q (o :: rest) a w :=
  wpList_plain hgd fun _ hK => op_appK s x ho A n c bs hs hown B A2 m c2 news hx hm hr hb fun A' c' w' h1 h2 h3 => hK _ _ (h A' c' w' h1 h2 h3)
theorem Gw.trans {F F1 F2 : Nat → Prop} {w w1 w2 : World} (h : Gw F F1 w w1) (h2 : Gw F1 F2 w1 w2) : Gw F F2 w w2 := by
  refine ⟨⟨h2.1.os.trans h.1.os, h2.1.tape.trans h.1.tape, h2.1.output.trans h.1.output, Nat.le_trans h.1.size h2.1.size, fun k hk hf => ?_⟩, fun k hk => ?_⟩
  · refine (h2.1.block k (Nat.lt_of_lt_of_le hk h.1.size) (fun h3 => ?_)).trans (h.1.block k hk hf)
    rcases h.2 k h3 with h4 | h4
    · exact hf h4
    · omega
  · rcases h2.2 k hk with h3 | h3
    · exact h.2 k h3
    · exact Or.inr (Nat.le_trans h.1.size h3)
theorem RetK.trans {F F1 : Nat → Prop} {w w1 w2 : World} {p : Value} {d : D} {v : Value} {e : Ending} (h : Gw F F1 w w1) (h2 : RetK w1 F1 p d v e w2) : RetK w F p d v e w2 := by
  obtain ⟨F2, he, hd, hg⟩ := h2
  exact ⟨F2, he, hd, h.trans hg⟩
theorem Gw.of_below {F : Nat → Prop} {w w' : World} (h : Below w.heap.size w w') : Gw F F w w' := ⟨Kp.of_below h, fun _ h => Or.inl h⟩
theorem run_head (A : Option Addr) (n c k : Nat) (j : Int) (q : IntKind) (hj : j = (k : Int)) (hk : k ≤ c) (w : World) : (Instr.slice 41 (.slice A n c) none (some (.int q j)) none).run Try.prog w = .ok (.slice A k c) w := by
  subst hj
  have he : Try.prog.elem 41 = 5 := by simp [Program.elem, Try.underlying41]
  rw [run_slice_h (P := Try.prog) w 41 A n c (by rw [he]; exact Try.underlying41) q k (by omega) (by omega), he, size8]
  simp [Result.andThen, sliced]
  intro _
  cases A <;> simp [Addr.add]
/-- make([]byte, n) -/
theorem run_mk (n : Nat) (hn : n ≤ 60000) (w : World) : (Instr.makeSlice 41 (.int .i64 (n : Int)) (.int .i64 (n : Int))).run Try.prog w = .ok (.slice (some ⟨w.heap.size, 0, none⟩) n n) (w.alloc (.cells (List.replicate n (Value.int .u8 0)).toArray 5)) := by
  obtain ⟨i0, hi, hz0, hz1, hz2⟩ := info_parts info8
  rw [run_make (P := Try.prog) w 41 5 i0 (.int .u8 0) Try.underlying41 hi hz0 .i64 .i64 n n (by omega) (Int.le_refl _) (by rw [hz2]; omega) (by omega)]
  have h1 : madeCells (Value.int .u8 0).cells ((n : Int).toNat * i0.size) = (List.replicate n (Value.int .u8 0)).toArray := by
    rw [hz1]
    apply Array.toList_inj.1
    rw [show (Value.int .u8 0).cells = #[Value.int .u8 0] from rfl, toList_madeCells_one]
    simp
  rw [h1]
  simp
theorem step_appK {ops : Array Oper} {o : Oper} {a : Act} {w : World} {K : Act → World → Prop} {Q : Exit → Act → World → Prop} {E : Prop} (hgd : o.guard = none) (s x : Operand)
    (ho : o.op = .call { callee := .builtin .append, args := #[s, x], argTypes := #[41, 41] })
    (A : Option Addr) (n c : Nat) (bs : List UInt8) (hs : a.eval s = .slice A n c) (hown : Own w 0 A n c bs)
    (B : Nat) (A2 : Option Addr) (m c2 : Nat) (news : List UInt8) (hx : a.eval x = .slice A2 m c2) (hm : m = news.length) (hr : Rd w B A2 (news.map B8)) (hb : n + m ≤ big)
    (h : ∀ A' c' w', Own w' 0 A' (n + m) c' (bs ++ news) → w.grownBy w' (Value.slice A n c).ownBlock → (A' = A ∨ ∃ b, A' = some ⟨b, 0, none⟩ ∧ w.heap.size ≤ b) → K (a.put o.dst (.slice A' (n + m) c')) w') :
    if Region.wanted o (yielded ops a.tmps) = true then Oper.wp Try.prog o a w K Q else E := by
  have hw : Region.wanted o (yielded ops a.tmps) = true := by simp [Region.wanted, hgd]
  rw [if_pos hw]
  exact op_appK s x ho A n c bs hs hown B A2 m c2 news hx hm hr hb h
/-- answered, the row where it was -/
theorem ret_same {w w' : World} {F : Nat → Prop} {g : Nat} {A : Option Addr} {n c n' c' : Nat} {d' : D} (v : Value) (hF : ∀ k, F k ↔ Fs g (.slice A n c) k) (hk : Kp F w w') (hy : Dy w' g A n' c' d'.safe d'.room d'.fuse d'.off) (ho : Own w' 0 A n' c' d'.data) (hi : Fits d') : RetK w F (.pointer (some ⟨g, 0, none⟩)) d' v (.returned v) w' :=
  ⟨F, rfl, ⟨g, A, n', c', rfl, hy, ho, by rw [fs_cut g A n' c' n c]; exact hF, hi⟩, hk, fun _ h => Or.inl h⟩
theorem after_app {w w1 w2 : World} {F : Nat → Prop} {g : Nat} {A : Option Addr} {m c : Nat} {s r f : Int} {o : Bool} {A' : Option Addr} {n' c' : Nat} {bs : List UInt8} (hF : ∀ k, F k ↔ Fs g (.slice A m c) k) (hk : Kp F w w1) (hy : Dy w1 g A m c s r f o) (ho1 : Own w1 0 A m c bs) (hg : w1.grownBy w2 (Value.slice A m c).ownBlock) (hA : A' = A ∨ ∃ b, A' = some ⟨b, 0, none⟩ ∧ w1.heap.size ≤ b) :
    Dy w2 g A m c s r f o ∧ Gw F (Fs g (.slice A' n' c')) w w2 := by
  have hkg : Kp F w1 w2 := ⟨hg.os, hg.tape, hg.output, hg.size, fun k hk hf => hg.block k hk (fun e => hf ((hF k).2 (Or.inr e.symm)))⟩
  refine ⟨(hg.block g hy.lt (fun e => own_ne hy ho1 e.symm rfl)).trans hy, ?_⟩
  have h1 : Gw F F w w1 := ⟨hk, fun _ h => Or.inl h⟩
  refine h1.trans ⟨hkg, fun k hk2 => ?_⟩
  rcases hk2 with rfl | h2
  · exact Or.inl ((hF _).2 (Or.inl rfl))
  · rcases hA with rfl | ⟨b, rfl, hb⟩
    · left
      refine (hF k).2 (Or.inr ?_)
      rw [← h2]
      cases A' <;> rfl
    · right
      simp only [Value.ownBlock, Option.some.injEq] at h2
      omega
theorem fs_own {F : Nat → Prop} {g : Nat} {A : Option Addr} {n c : Nat} (hF : ∀ k, F k ↔ Fs g (.slice A n c) k) : F g := (hF g).2 (Or.inl rfl)
theorem fits_new (r : Int) : Fits (newD r) := ⟨iv_new r, trivial⟩
theorem fits_fuse (d : D) (n : Int) (hn : n ≤ 9223372036854775807) (h : Fits d) : Fits (fuseD d n) := ⟨iv_fuse d n hn h.1, trivial⟩
theorem fits_limit (d : D) (r : Int) (h : Fits d) : Fits (limit d r) := ⟨iv_limit d r h.1, trivial⟩
theorem fits_sync (d : D) (h : Fits d) : Fits (syncD d) := ⟨iv_sync d h.1, trivial⟩
theorem fits_crash (d : D) (n : Int) (h : Fits d) : Fits (crashD d n) := ⟨iv_crash d n h.1, trivial⟩
theorem fits_cut (d : D) (n : Int) (h : Fits d) : Fits (cutD d n) := ⟨iv_cut d n h.1, trivial⟩
theorem fits_app (d : D) (b : List UInt8) (h : Fits d) : Fits (appD d b) := ⟨iv_app d b h.1, trivial⟩
end Go.Proofs.Ytjcbdnbbdhjoiaa.Dkw

namespace Go.Proofs.Ytjcbdnbbdhjoiaa.Dkw
set_option maxRecDepth 20000
open Go.RowKit
open Dk

theorem safe_c (p : Value) (d : D) (F : Nat → Prop) (w : World) (h : Dd w F p d) : Calls Try.prog 30 #[p] w fun e w' => e = .returned (.int .i64 d.safe) ∧ Below w.heap.size w w' := by
  obtain ⟨g, A, n, c, rfl, hy, _⟩ := h
  have z1 := hy.c1
  go_enter Try.func30, Try.ntmps30
  go_wp2
  go_ret
  exact ⟨rfl, Below.refl _ _⟩
theorem off_c (p : Value) (d : D) (F : Nat → Prop) (w : World) (h : Dd w F p d) : Calls Try.prog 31 #[p] w fun e w' => e = .returned (.bool d.off) ∧ Below w.heap.size w w' := by
  obtain ⟨g, A, n, c, rfl, hy, _⟩ := h
  have z1 := hy.c4
  go_enter Try.func31, Try.ntmps31
  go_wp2
  go_ret
  exact ⟨rfl, Below.refl _ _⟩
theorem between_c (a n b : Int) (w : World) : Calls Try.prog 38 #[.int .i64 a, .int .i64 n, .int .i64 b] w fun e w' => e = .returned (.int .i64 (max a (min n b))) ∧ Below w.heap.size w w' := by
  go_enter Try.func38, Try.ntmps38
  go_wp2
  all_goals
    go_ret
    refine ⟨ret_int ?_, Below.refl _ _⟩
    omega
theorem fuse_c (p : Value) (d : D) (n : Int) (hk : I64 n) (F : Nat → Prop) (w : World) (h : Dd w F p d) : Calls Try.prog 25 #[p, .int .i64 n] w (RetK w F p (fuseD d n) (.tuple #[])) := by
  obtain ⟨g, A, m, c, rfl, hy, ho, hF, hi⟩ := h
  have HY := Lib.hid hy; have HO := Lib.hid ho; have HF := Lib.hid hF; have HI := Lib.hid (fits_fuse d n hk.2 hi)
  have z3 := HY.out.c3
  have y3 := frozen_of_row w g 3 _ _ HY.out
  clear hy ho hF hi
  have HE : Hid ((fuseD d n).fuse = if n < 0 then -1 else n) := Lib.hid rfl
  go_enter Try.func25, Try.ntmps25
  go_wp2
  · go_end0
    refine ret_same _ HF.out ((Kp.refl _ _).setCell (fs_own HF.out) _) ?_ (own_put HY.out HO.out _) HI.out
    rw [show (fuseD d n).fuse = -1 by rw [HE.out, if_pos (by omega)]]
    exact HY.out.setF (-1)
  · go_end0
    refine ret_same _ HF.out ((Kp.refl _ _).setCell (fs_own HF.out) _) ?_ (own_put HY.out HO.out _) HI.out
    rw [show (fuseD d n).fuse = n by rw [HE.out]; split <;> omega]
    exact HY.out.setF n
theorem new_c (room : Int) (_h : I64 room) (w : World) : Calls Try.prog 14 #[.int .i64 room] w fun e w' => ∃ p F, e = .returned p ∧ Dd w' F p (newD room) ∧ (∀ k, F k → w.heap.size ≤ k) ∧ Below w.heap.size w w' := by
  go_enter Try.func14, Try.ntmps14
  go_wp2_with fail
  refine (between_c _ _ _ _).mono ?_
  rintro e w1 ⟨rfl, hb⟩
  have HB := Lib.hid hb; clear hb
  go_wp2
  go_ret
  refine ⟨_, Fs w1.heap.size (.slice none 0 0), rfl, ⟨w1.heap.size, none, 0, 0, rfl, ?_, own_none _ _, fun _ => Iff.rfl, fits_new room⟩, fun k hk => ?_, bal HB.out (Nat.le_refl _) _⟩
  · have e1 : (newD room).room = max 0 (min room 60000) := by
      show clampR room = _
      unfold clampR
      split <;> (try split) <;> omega
    rw [e1]
    exact hat _ _ _ rfl
  · rcases hk with rfl | hk
    · exact HB.out.size
    · cases hk
theorem sync_c (p : Value) (d : D) (F : Nat → Prop) (w : World) (h : Dd w F p d) : Calls Try.prog 37 #[p] w (RetK w F p (syncD d) (.tuple #[])) := by
  obtain ⟨g, A, m, c, rfl, hy, ho, hF, hi⟩ := h
  have HY := Lib.hid hy; have HO := Lib.hid ho; have HF := Lib.hid hF; have HI := Lib.hid (fits_sync d hi)
  clear hy ho hF hi
  cases hoff : d.off with
  | true =>
    have e1 : syncD d = d := by unfold syncD; rw [hoff]; rfl
    rw [e1] at HI ⊢
    have z4 := HY.out.c4
    rw [hoff] at z4
    go_enter Try.func37, Try.ntmps37
    go_wp2
    go_end0
    exact ret_same _ HF.out (Kp.refl _ _) HY.out HO.out HI.out
  | false =>
    have e1 : syncD d = { d with safe := d.data.length } := by unfold syncD; rw [hoff]; rfl
    rw [e1] at HI ⊢
    have z4 := HY.out.c4
    have z0 := HY.out.c0
    have z1 := HY.out.c1
    have y1 := frozen_of_row w g 1 _ _ HY.out
    rw [hoff] at z4
    go_enter Try.func37, Try.ntmps37
    go_wp2
    go_end0
    refine ret_same _ HF.out ((Kp.refl _ _).setCell (fs_own HF.out) _) ?_ (own_put HY.out HO.out _) HI.out
    show Dy _ g A m c (d.data.length : Int) d.room d.fuse d.off
    rw [← HO.out.1]
    exact HY.out.setS m
/-- the first n bytes are left -/
def leaveD (d : D) (n : Nat) : D := { d with data := d.data.take n, safe := min d.safe n }
theorem fits_leave (d : D) (n : Nat) (h : Fits d) : Fits (leaveD d n) := by
  obtain ⟨⟨h1, h2, h3, h4, h5, h6, h7⟩, _⟩ := h
  refine ⟨?_, trivial⟩
  unfold leaveD Iv
  simp only [List.length_take]
  omega
theorem leave_c (p : Value) (d : D) (n : Int) (k : Nat) (hn : n = (k : Int)) (hk : k ≤ d.data.length) (F : Nat → Prop) (w : World) (h : Dd w F p d) : Calls Try.prog 58 #[p, .int .i64 n] w (RetK w F p (leaveD d k) (.tuple #[])) := by
  obtain ⟨g, A, m, c, rfl, hy, ho, hF, hi⟩ := h
  have HY := Lib.hid hy; have HO := Lib.hid ho; have HF := Lib.hid hF; have HI := Lib.hid (fits_leave d k hi)
  have hkm : k ≤ m := by rw [ho.1]; exact hk
  have hmc : m ≤ c := ho.cap
  have hsi := hi.1.1
  clear hy ho hF hi hk
  subst hn
  have z0 := HY.out.c0
  have z1 := HY.out.c1
  have y0 := frozen_of_row w g 0 _ _ HY.out
  have y1 := frozen_of_row w g 1 _ _ HY.out
  have hsl := run_head A m c k k .i64 rfl (by omega)
  have HO2 : Hid (Own w 0 A k c (d.data.take k)) := Lib.hid (own_cut HO.out k hkm)
  have HE : Hid ((leaveD d k).safe = min d.safe k) := Lib.hid rfl
  go_enter Try.func58, Try.ntmps58
  go_wp2
  all_goals
    go_end0
    refine ret_same _ HF.out (((Kp.refl _ _).setCell (fs_own HF.out) _).setCell (fs_own HF.out) _) ?_ (own_put (HY.out.setA A k c) (own_put HY.out HO2.out _) _) HI.out
    rw [HE.out]
  · rw [show min d.safe (k : Int) = k by omega]
    exact (HY.out.setA A k c).setS k
  · rw [show min d.safe (k : Int) = d.safe by omega]
    exact (HY.out.setA A k c).setS d.safe
theorem splice_all (n : Nat) (cs : List Value) (z : Value) (h : cs.length = n) : splice (List.replicate n z) 0 cs = cs := by
  unfold splice
  rw [List.take_zero, List.nil_append, List.drop_of_length_le (by simp [h]), List.append_nil]
theorem bytes_c (p : Value) (d : D) (F : Nat → Prop) (w : World) (h : Dd w F p d) : Calls Try.prog 29 #[p] w (RetOwn w w.heap.size d.data) := by
  obtain ⟨g, A, m, c, rfl, hy, ho, hF, hi⟩ := h
  have HY := Lib.hid hy; have HO := Lib.hid ho; have HF := Lib.hid hF
  have hm : m ≤ 60000 := by rw [ho.1]; exact hi.1.2.2.1
  clear hy ho hF hi
  have z0 := HY.out.c0
  have hmk := run_mk m hm w
  have HZ : Hid ((List.replicate m (Value.int .u8 0)).length = m) := Lib.hid (by simp)
  have HS : Hid (splice (List.replicate m (Value.int .u8 0)) 0 (d.data.map B8) = d.data.map B8) := Lib.hid (splice_all _ _ _ (by rw [List.length_map, ← HO.out.1]))
  generalize List.replicate m (Value.int .u8 0) = Z at hmk HZ HS
  have z0' := (HY.out.all (bal (Below.refl _ _) (Nat.le_refl _) (.cells Z.toArray 5))).c0
  have HO' := Lib.hid (HO.out.alloc (.cells Z.toArray 5))
  have HL : Hid (m = d.data.length) := Lib.hid HO.out.1
  have HP : Hid (0 < (d.data.map B8).length → (some ⟨w.heap.size, 0, none⟩ : Option Addr) = some ⟨w.heap.size, 0, none⟩ ∧ ∃ ad, A = some ad ∧ ∀ j v, (d.data.map B8)[j]? = some v → (w.alloc (.cells Z.toArray 5)).cell? (ad.add j) = some v) := Lib.hid (fun h => by
    obtain ⟨b, o, e, _, hc⟩ := HO'.out.rd h
    exact ⟨rfl, _, e, fun j v hv => by rw [Addr.add_lit]; exact hc j v hv⟩)
  go_enter Try.func29, Try.ntmps29
  go_wp2_with (with_reducible refine wpList_copy_splice rfl (.tmp 10) (.tmp 14) 41 41 rfl 5 Try.underlying41 (by kernel_rfl) (some ⟨w.heap.size, 0, none⟩) A m m m c rfl rfl w.heap.size 0 Z 5 (hat _ _ _ rfl) (d.data.map B8) (by rw [List.length_map, ← HL.out]; exact (Nat.min_self m).symm) HP.out (by rw [List.length_map, ← HL.out, HZ.out, Nat.zero_add]; exact Nat.le_refl _) (B8_one _) w.heap.size w (bal (Below.refl _ _) (Nat.le_refl _) _) (Nat.le_refl _) ?_; intro w4 hg4 hb4)
  go_ret
  refine ⟨_, _, _, rfl, ?_, hb4⟩
  have h4 := hg4.out
  rw [HS.out] at h4
  refine ⟨HL.out, by simp [← HL.out], .inr ⟨w.heap.size, m, _, rfl, Nat.le_refl _, h4, Nat.le_refl _, by unfold maxLen; omega, by simp [← HL.out], ?_⟩⟩
  rw [List.take_of_length_le (by simp [← HL.out])]
theorem Dd.at {w : World} {F : Nat → Prop} {g : Nat} {d : D} (h : Dd w F (.pointer (some ⟨g, 0, none⟩)) d) : ∃ A n c, Dy w g A n c d.safe d.room d.fuse d.off ∧ Own w 0 A n c d.data ∧ (∀ k, F k ↔ Fs g (.slice A n c) k) ∧ Fits d := by
  obtain ⟨g2, A, n, c, hp, h⟩ := h
  injection hp with hp
  injection hp with hp
  injection hp with hp
  subst hp
  exact ⟨A, n, c, h⟩
theorem crash_take (d : D) (keep : Int) (hi : Iv d) : d.data.take (d.safe + max 0 (min keep ((d.data.length : Int) - d.safe))).toNat = d.data.take (d.safe.toNat + keep.toNat) := by
  obtain ⟨h1, h2, h3, _⟩ := hi
  by_cases h : keep ≤ (d.data.length : Int) - d.safe
  · congr 1
    omega
  · rw [List.take_of_length_le (by omega), List.take_of_length_le (by omega)]
set_option maxHeartbeats 1000000 in
theorem crash_c (p : Value) (d : D) (keep : Int) (_hk : I64 keep) (F : Nat → Prop) (w : World) (h : Dd w F p d) : Calls Try.prog 23 #[p, .int .i64 keep] w (RetK w F p (crashD d keep) (.tuple #[])) := by
  obtain ⟨g, A, m, c, rfl, hy, ho, hF, hi⟩ := h
  have HY := Lib.hid hy; have HD := Lib.hid (show Dd w F (.pointer (some ⟨g, 0, none⟩)) d from ⟨g, A, m, c, rfl, hy, ho, hF, hi⟩)
  have HT := Lib.hid (crash_take d keep hi.1)
  have HI := Lib.hid (fits_crash d keep hi)
  have HL : Hid (m = d.data.length) := Lib.hid ho.1
  have h1 := hi.1.1
  have h2 : d.safe ≤ (m : Int) := by rw [ho.1]; exact hi.1.2.1
  have h3 : m ≤ 60000 := by rw [ho.1]; exact hi.1.2.2.1
  clear hy ho hF hi
  rw [← HL.out] at HT
  have z0 := HY.out.c0; have z1 := HY.out.c1
  have HK : Hid (∀ W', Below w.heap.size w W' → W'.cell? ⟨g, 0, none⟩ = some (.slice A m c) ∧ W'.cell? ⟨g, 1, none⟩ = some (.int .i64 d.safe)) := Lib.hid (fun W' h => ⟨(HY.out.all h).c0, (HY.out.all h).c1⟩)
  clear z0 z1
  go_enter Try.func23, Try.ntmps23
  go_wp2_with fail
  refine wp_region_held_drew (S := fun W' => Below w.heap.size w W') (by kernel_rfl) (Below.refl _ _).drew (fun hHeld => ?_)
  generalize w.drew = w5 at hHeld ⊢
  have HB5 : Hid (Below w.heap.size w w5) := hHeld
  clear hHeld
  refine take_in (i := 0) (oi := ⟨_, _, _, _, _, _⟩) (v := ?_) rfl (by kernel_rfl) (by kernel_rfl) (by kernel_rfl) (fun _ _ _ h => h) (by rfl) ?_ HB5.out ?_
  rotate_left
  · intro W hW; have hq := HK.out W hW; go_simp; with_reducible rfl
  simp only [Act.put, List.setIfInBounds_toArray, List.set_cons_zero, List.set_cons_succ]
  refine take_in (i := 1) (oi := ⟨_, _, _, _, _, _⟩) (v := ?_) rfl (by kernel_rfl) (by kernel_rfl) (by kernel_rfl) (fun _ _ _ h => h) (by rfl) ?_ HB5.out ?_
  rotate_left
  · intro W hW; have hq := HK.out W hW; go_simp; with_reducible rfl
  simp only [Act.put, List.setIfInBounds_toArray, List.set_cons_zero, List.set_cons_succ]
  refine take_in (i := 2) (oi := ⟨_, _, _, _, _, _⟩) (v := ?_) rfl (by kernel_rfl) (by kernel_rfl) (by kernel_rfl) (fun _ _ _ h => h) (by rfl) ?_ HB5.out ?_
  rotate_left
  · intro W hW; have hq := HK.out W hW; go_simp; with_reducible rfl
  simp only [Act.put, List.setIfInBounds_toArray, List.set_cons_zero, List.set_cons_succ]
  refine take_in (i := 3) (oi := ⟨_, _, _, _, _, _⟩) (v := ?_) rfl (by kernel_rfl) (by kernel_rfl) (by kernel_rfl) (fun _ _ _ h => h) (by rfl) ?_ HB5.out ?_
  rotate_left
  · intro W hW; have hq := HK.out W hW; go_simp; with_reducible rfl
  simp only [Act.put, List.setIfInBounds_toArray, List.set_cons_zero, List.set_cons_succ]
  refine take_in (i := 4) (oi := ⟨_, _, _, _, _, _⟩) (v := ?_) rfl (by kernel_rfl) (by kernel_rfl) (by kernel_rfl) (fun _ _ _ h => h) (by rfl) ?_ HB5.out ?_
  rotate_left
  · intro W hW; have hq := HK.out W hW; go_simp; with_reducible rfl
  simp only [Act.put, List.setIfInBounds_toArray, List.set_cons_zero, List.set_cons_succ]
  refine take_in (i := 5) (oi := ⟨_, _, _, _, _, _⟩) (v := ?_) rfl (by kernel_rfl) (by kernel_rfl) (by kernel_rfl) (fun _ _ _ h => h) (by rfl) ?_ HB5.out ?_
  rotate_left
  · intro W hW; have hq := HK.out W hW; go_simp; with_reducible rfl
  simp only [Act.put, List.setIfInBounds_toArray, List.set_cons_zero, List.set_cons_succ]
  refine take_in (i := 6) (oi := ⟨_, _, _, _, _, _⟩) (v := ?_) rfl (by kernel_rfl) (by kernel_rfl) (by kernel_rfl) (fun _ _ _ h => h) (by rfl) ?_ HB5.out ?_
  rotate_left
  · intro W hW; have hq := HK.out W hW; go_simp; with_reducible rfl
  simp only [Act.put, List.setIfInBounds_toArray, List.set_cons_zero, List.set_cons_succ]
  refine take_in (i := 7) (oi := ⟨_, _, _, _, _, _⟩) (v := ?_) rfl (by kernel_rfl) (by kernel_rfl) (by kernel_rfl) (fun _ _ _ h => h) (by rfl) ?_ HB5.out ?_
  rotate_left
  · intro W hW; have hq := HK.out W hW; go_simp; with_reducible rfl
  simp only [Act.put, List.setIfInBounds_toArray, List.set_cons_zero, List.set_cons_succ]
  refine take_in (i := 8) (oi := ⟨_, _, _, _, _, _⟩) (v := ?_) rfl (by kernel_rfl) (by kernel_rfl) (by kernel_rfl) (fun _ _ _ h => h) (by rfl) ?_ HB5.out ?_
  rotate_left
  · intro W hW; have hq := HK.out W hW; go_simp; with_reducible rfl
  simp only [Act.put, List.setIfInBounds_toArray, List.set_cons_zero, List.set_cons_succ]
  refine take_in (i := 9) (oi := ⟨_, _, _, _, _, _⟩) (v := ?_) rfl (by kernel_rfl) (by kernel_rfl) (by kernel_rfl) (fun _ _ _ h => h) (by rfl) ?_ HB5.out ?_
  rotate_left
  · intro W hW; have hq := HK.out W hW; go_simp; with_reducible rfl
  simp only [Act.put, List.setIfInBounds_toArray, List.set_cons_zero, List.set_cons_succ]
  refine take_in (i := 10) (oi := ⟨_, _, _, _, _, _⟩) (v := ?_) rfl (by kernel_rfl) (by kernel_rfl) (by kernel_rfl) (fun _ _ _ h => h) (by rfl) ?_ HB5.out ?_
  rotate_left
  · intro W hW; have hq := HK.out W hW; go_simp; with_reducible rfl
  simp only [Act.put, List.setIfInBounds_toArray, List.set_cons_zero, List.set_cons_succ]
  refine wpAnyH_ready (rs := [11]) (by kernel_rfl) (by simp) ?_
  refine AllReadyH.cons (o := ⟨_, _, _, _, _, _⟩) rfl (fun K hK => ?_) AllReadyH.nil
  go_simp
  refine (between_c _ _ _ _).mono ?_
  rintro e w1 ⟨rfl, hb⟩
  have HB6 := Lib.hid (HB5.out.trans (hb.mono HB5.out.size)); clear hb
  refine hK.out _ _ HB6.out (fun _ => ?_)
  clear hK K
  refine take_in (i := 12) (oi := ⟨_, _, _, _, _, _⟩) (v := ?_) rfl (by kernel_rfl) (by kernel_rfl) (by kernel_rfl) (fun _ _ _ h => h) (by rfl) ?_ HB6.out ?_
  rotate_left
  · intro W hW; go_simp; with_reducible rfl
  simp only [Act.put, List.setIfInBounds_toArray, List.set_cons_zero, List.set_cons_succ]
  refine wpAnyH_done (by kernel_rfl) ?_ _
  have hb := HB6.out
  clear HB5 HB6 HK
  have HY := Lib.hid (HY.out.all hb)
  have HD := Lib.hid (HD.out.keep hb.size (fun k hk => hb.block k (HD.out.lt k hk)))
  have HG := Lib.hid (Gw.of_below (F := F) hb)
  clear hb
  have hwr : IntKind.i64.wrap ((m : Int) - d.safe) = (m : Int) - d.safe := by rw [IntKind.wrap_i64]; omega
  rw [hwr]
  clear hwr
  obtain ⟨q, hq⟩ : ∃ q, q = max 0 (min keep ((m : Int) - d.safe)) := ⟨_, rfl⟩
  rw [← hq] at HT ⊢
  have hq0 : 0 ≤ q := by omega
  have hqm : d.safe + q ≤ m := by omega
  have HQ := Lib.hid hq; clear hq
  have z1 := HY.out.c1
  go_wp2_with fail
  refine (leave_c _ d _ (d.safe + q).toNat (by omega) (by rw [← HL.out]; omega) F _ HD.out).mono ?_
  rintro e w2 ⟨F2, rfl, hd, hg⟩
  obtain ⟨A2, n2, c2, hy2, ho2, hF2, _⟩ := hd.at
  have HY2 := Lib.hid hy2; have HO2 := Lib.hid ho2; have HF2 := Lib.hid hF2; have HG := Lib.hid (HG.out.trans hg)
  clear hd hg hy2 ho2 hF2
  simp only [leaveD] at HY2 HO2
  rw [HT.out] at HO2
  have y0 := HY2.out.c0; have y1 := HY2.out.c1; have y3 := HY2.out.c3; have y4 := HY2.out.c4
  have f1 := frozen_of_row w2 g 1 _ _ HY2.out
  have f3 := frozen_of_row w2 g 3 _ _ HY2.out
  have f4 := frozen_of_row w2 g 4 _ _ HY2.out
  go_wp2
  go_end0
  have a1 := HY2.out.setS (n2 : Int)
  have a2 := a1.setO false
  have b1 := own_put (i := 1) HY2.out HO2.out (.int .i64 (n2 : Int))
  have b2 := own_put (i := 4) a1 b1 (.bool false)
  refine RetK.trans HG.out (ret_same _ HF2.out ((((Kp.refl _ _).setCell (fs_own HF2.out) _).setCell (fs_own HF2.out) _).setCell (fs_own HF2.out) _) ?_ (own_put a2 b2 _) HI.out)
  show Dy _ g A2 n2 c2 ((d.data.take (d.safe.toNat + keep.toNat)).length : Int) d.room (-1) false
  rw [← HO2.out.1]
  exact a2.setF (-1)
theorem cut_min (d : D) (n : Int) : d.data.take (max 0 (min n (d.data.length : Int))).toNat = d.data.take n.toNat := by
  by_cases h : n ≤ (d.data.length : Int)
  · congr 1
    omega
  · rw [List.take_of_length_le (by omega), List.take_of_length_le (by omega)]
theorem cut_c (p : Value) (d : D) (n : Int) (_hk : I64 n) (F : Nat → Prop) (w : World) (h : Dd w F p d) : Calls Try.prog 35 #[p, .int .i64 n] w (RetK w F p (cutD d n) (.tuple #[])) := by
  obtain ⟨g, A, m, c, rfl, hy, ho, hF, hi⟩ := h
  have HY := Lib.hid hy; have HD := Lib.hid (show Dd w F (.pointer (some ⟨g, 0, none⟩)) d from ⟨g, A, m, c, rfl, hy, ho, hF, hi⟩)
  have HL : Hid (m = d.data.length) := Lib.hid ho.1
  have hs0 := hi.1.1
  clear hy ho hF hi
  have z0 := HY.out.c0; have z4 := HY.out.c4
  cases hoff : d.off with
  | true =>
    have e1 : cutD d n = d := by unfold cutD; rw [hoff]; rfl
    rw [e1]
    rw [hoff] at z4
    go_enter Try.func35, Try.ntmps35
    go_wp2
    go_end0
    exact ⟨F, rfl, HD.out, Kp.refl _ _, fun _ h => Or.inl h⟩
  | false =>
    have HE : Hid (cutD d n = leaveD d (max 0 (min n (m : Int))).toNat) := Lib.hid (by
      have e2 := cut_min d n
      rw [← HL.out] at e2
      unfold cutD leaveD
      rw [hoff, ← e2]
      simp only [Bool.false_eq_true, if_false, D.mk.injEq, true_and, and_true, List.length_take, ← HL.out]
      split <;> omega)
    rw [HE.out]
    rw [hoff] at z4
    go_enter Try.func35, Try.ntmps35
    go_wp2_with fail
    refine (between_c _ _ _ _).mono ?_
    rintro e w1 ⟨rfl, hb⟩
    have HD := Lib.hid (HD.out.keep hb.size (fun k hk => hb.block k (HD.out.lt k hk)))
    have HG := Lib.hid (Gw.of_below (F := F) hb)
    clear hb
    obtain ⟨q, hq⟩ : ∃ q, q = max 0 (min n (m : Int)) := ⟨_, rfl⟩
    simp only [← hq]
    have hq0 : 0 ≤ q ∧ q ≤ m := by omega
    have HQ := Lib.hid hq; clear hq
    go_wp2_with fail
    refine (leave_c _ d _ q.toNat (by omega) (by rw [← HL.out]; omega) F _ HD.out).mono ?_
    intro e w2 hr
    have HR := Lib.hid (RetK.trans HG.out hr)
    obtain ⟨F2, rfl, hd, hg⟩ := hr
    clear hd hg
    go_wp2
    go_end0
    rw [← HQ.out]
    exact HR.out
end Go.Proofs.Ytjcbdnbbdhjoiaa.Dkw

namespace Go.Proofs.Ytjcbdnbbdhjoiaa.Dkw
set_option maxRecDepth 20000
open Go.RowKit
open Dk

theorem app_off (d : D) (bs : List UInt8) (h : d.off = true) : appD d bs = d ∧ appE d bs = 82 := by
  constructor
  · unfold appD; rw [if_pos h]
  · unfold appE; rw [if_pos h]
theorem app_full (d : D) (bs : List UInt8) (h : d.off = false) (h1 : 0 < bs.length) (h2 : d.room - d.data.length < bs.length) : appD d bs = d ∧ appE d bs = 81 := by
  have h0 : ¬ d.off = true := by rw [h]; decide
  constructor
  · unfold appD; rw [if_neg h0, if_pos ⟨h1, h2⟩]
  · unfold appE; rw [if_neg h0, if_pos ⟨h1, h2⟩]
theorem app_cut (d : D) (bs : List UInt8) (h : d.off = false) (h2 : ¬ (0 < bs.length ∧ d.room - d.data.length < bs.length)) (h3 : 0 ≤ d.fuse) (h4 : d.fuse < bs.length) : appD d bs = ⟨d.data ++ bs.take d.fuse.toNat, d.safe, d.room, 0, true⟩ ∧ appE d bs = 82 := by
  have h0 : ¬ d.off = true := by rw [h]; decide
  constructor
  · unfold appD; rw [if_neg h0, if_neg h2, if_pos ⟨h3, h4⟩]
  · unfold appE; rw [if_neg h0, if_neg h2, if_pos ⟨h3, h4⟩]
theorem app_all (d : D) (bs : List UInt8) (h : d.off = false) (h2 : ¬ (0 < bs.length ∧ d.room - d.data.length < bs.length)) (h3 : ¬ (0 ≤ d.fuse ∧ d.fuse < bs.length)) : appD d bs = ⟨d.data ++ bs, d.safe, d.room, if 0 ≤ d.fuse then d.fuse - bs.length else d.fuse, false⟩ ∧ appE d bs = 0 := by
  have h0 : ¬ d.off = true := by rw [h]; decide
  constructor
  · unfold appD; rw [if_neg h0, if_neg h2, if_neg h3, h]
  · unfold appE; rw [if_neg h0, if_neg h2, if_neg h3]
set_option maxHeartbeats 2000000 in
theorem append_c (p : Value) (d : D) (A2 : Option Addr) (n c2 : Nat) (bs : List UInt8) (hn : n = bs.length) (hc : n ≤ c2) (hl : n ≤ big) (F : Nat → Prop) (w : World) (h : Dd w F p d) (hr : Rf w F A2 (bs.map B8)) : Calls Try.prog 27 #[p, .slice A2 n c2] w (RetK w F p (appD d bs) (.int .i64 (appE d bs))) := by
  obtain ⟨g, A, m, c, rfl, hy, ho, hF, hi⟩ := h
  have HY := Lib.hid hy; have HO := Lib.hid ho; have HF := Lib.hid hF; have HI := Lib.hid hi; have HIA := Lib.hid (fits_app d bs hi); have HR := Lib.hid hr
  have HL : Hid (m = d.data.length) := Lib.hid ho.1
  have HN := Lib.hid hn
  have h3 : m ≤ 60000 := by rw [ho.1]; exact hi.1.2.2.1
  have h4 := hi.1.2.2.2.1
  have h5 := hi.1.2.2.2.2.1
  have h6 := hi.1.2.2.2.2.2
  have hl2 : n ≤ 140737488355328 := hl
  clear hy ho hF hi hr hl hn
  have z0 := HY.out.c0; have z2 := HY.out.c2; have z3 := HY.out.c3; have z4 := HY.out.c4
  cases hoff : d.off with
  | true =>
    obtain ⟨e1, e2⟩ := app_off d bs hoff
    rw [e1, e2]
    rw [hoff] at z4
    go_enter Try.func27, Try.ntmps27
    go_wp2
    go_ret
    exact ret_same _ HF.out (Kp.refl _ _) HY.out HO.out HI.out
  | false =>
    rw [hoff] at z4
    obtain ⟨rm, hrm⟩ : ∃ rm, rm = max 0 (d.room - (m : Int)) := ⟨_, rfl⟩
    have hmax : ∀ ts t W, (Builtin.max_ ts t #[.int .i64 0, .int .i64 (d.room - (m : Int))]).run Try.prog W = .ok (.int .i64 rm) W := by
      intro ts t W
      rw [run_max_int2, hrm]
      congr 2
      split <;> omega
    by_cases hfull : rm < (n : Int)
    · obtain ⟨e1, e2⟩ := app_full d bs hoff (by rw [← HN.out]; omega) (by rw [← HL.out, ← HN.out]; omega)
      rw [e1, e2]
      clear hrm
      go_enter Try.func27, Try.ntmps27
      go_wp2_with fail
      go_region
      have hb := (Below.refl w.heap.size w).drew
      generalize w.drew = w1 at hb ⊢
      have HK1 := Lib.hid (Kp.of_below (F := F) hb); have HY1 := Lib.hid (HY.out.all hb); have HO1 := Lib.hid (HO.out.below hb (Nat.le_refl _))
      clear hb z0 z2 z3 z4 hmax
      go_wp2
      go_ret
      exact ret_same _ HF.out HK1.out HY1.out HO1.out HI.out
    · have hroom : (n : Int) ≤ rm := by omega
      have HNF : Hid (¬ (0 < bs.length ∧ d.room - d.data.length < bs.length)) := Lib.hid (by rw [← HL.out, ← HN.out]; omega)
      have hn6 : n ≤ 60000 := by omega
      clear hfull hrm
      by_cases hnf : d.fuse = -1
      · obtain ⟨e1, e2⟩ := app_all d bs hoff HNF.out (by omega)
        rw [if_neg (by omega)] at e1
        rw [e2]
        have HE := Lib.hid e1; clear e1 e2
        go_enter Try.func27, Try.ntmps27
        go_wp2_with fail
        go_region
        have hb := (Below.refl w.heap.size w).drew
        generalize w.drew = w1 at hb ⊢
        have HK1 := Lib.hid (Kp.of_below (F := F) hb); have HY1 := Lib.hid (HY.out.all hb); have HO1 := Lib.hid (HO.out.below hb (Nat.le_refl _))
        have HR1 := Lib.hid (show Rd w1 w.heap.size A2 (bs.map B8) from (HR.out.rd).below hb)
        clear hb z0 z2 z3 z4 hmax
        have z0 := HY1.out.c0; have z3 := HY1.out.c3
        rw [hnf] at z3
        have hsl := run_head A2 n c2 n n .i64 rfl hc
        go_wp2_with fail
        have HK2 := Lib.hid (show Kp F w w1.drew from ⟨HK1.out.os, HK1.out.tape, HK1.out.output, HK1.out.size, HK1.out.block⟩)
        have HY2 := Lib.hid (show Dy w1.drew g A m c d.safe d.room d.fuse d.off from HY1.out)
        have HO2 := Lib.hid (show Own w1.drew 0 A m c d.data from HO1.out)
        have HR2 := Lib.hid (show Rd w1.drew w.heap.size A2 (bs.map B8) from HR1.out)
        go_region_law (refine step_appK rfl (.tmp 49) (.tmp 52) rfl A m c d.data rfl HO2.out w.heap.size A2 n c2 bs rfl HN.out HR2.out (by unfold big; omega) ?_; intro A3 c3 w3 ho3 hg3 ha3; have HAF := Lib.hid (after_app (n' := m + n) (c' := c3) HF.out HK2.out HY2.out HO2.out hg3 ha3); have HO3 := Lib.hid ho3; have x0 := HAF.out.1.c0; have f0 := frozen_of_row w3 g 0 _ _ HAF.out.1; clear ho3 hg3 ha3)
        all_goals
          clear x0 f0 z0 z3 HK2 HY2 HO2 HR2 HK1 HY1 HO1 HR1
          go_wp2
          go_ret
          rw [HE.out] at HIA ⊢
          refine RetK.trans HAF.out.2 (ret_same _ (fun _ => Iff.rfl) ((Kp.refl _ _).setCell (Or.inl rfl) _) ?_ (own_put HAF.out.1 HO3.out _) HIA.out)
          rw [← hoff]
          exact HAF.out.1.setA A3 (m + n) c3
      · have h7 : 0 ≤ d.fuse := by omega
        have hne : (d.fuse == -1) = false := by rw [beq_eq_false_iff_ne]; exact hnf
        by_cases hlt : d.fuse < (n : Int)
        · obtain ⟨e1, e2⟩ := app_cut d bs hoff HNF.out h7 (by rw [← HN.out]; exact hlt)
          rw [e2]
          have HE := Lib.hid e1; clear e1 e2
          obtain ⟨q, hq⟩ : ∃ q : Nat, d.fuse = (q : Int) := ⟨d.fuse.toNat, by omega⟩
          have hqn : q < n := by omega
          have HQ : Hid (d.fuse.toNat = q) := Lib.hid (by omega)
          go_enter Try.func27, Try.ntmps27
          go_wp2_with fail
          go_region
          have hb := (Below.refl w.heap.size w).drew
          generalize w.drew = w1 at hb ⊢
          have HK1 := Lib.hid (Kp.of_below (F := F) hb); have HY1 := Lib.hid (HY.out.all hb); have HO1 := Lib.hid (HO.out.below hb (Nat.le_refl _)); have HR1 := Lib.hid (HR.out.all hb)
          clear hb z0 z2 z3 z4 hmax
          have z0 := HY1.out.c0; have z3 := HY1.out.c3
          have f3 := frozen_of_row w1 g 3 _ _ HY1.out
          have hsl := run_head A2 n c2 q q .i64 rfl (by omega)
          rw [hq] at z3 hne
          go_wp2_with fail
          have HK2 := Lib.hid (HK1.out.setCell (p := ⟨g, 3, none⟩) (fs_own HF.out) (.int .i64 0))
          have HY2 := Lib.hid (HY1.out.setF 0)
          have HO2 := Lib.hid (own_put (i := 3) HY1.out HO1.out (.int .i64 0))
          have HR2 := Lib.hid (Rf.rd (HR1.out.keep ((Kp.refl F w1).setCell (p := ⟨g, 3, none⟩) (fs_own HF.out) (.int .i64 0)) (fun _ h => Or.inl h)))
          generalize w1.setCell ⟨g, 3, none⟩ (.int .i64 0) = w2 at HK2 HY2 HO2 HR2 ⊢
          clear z0 z3 f3 HK1 HY1 HO1 HR1
          have z0 := HY2.out.c0
          have HK3 := Lib.hid (show Kp F w w2.drew from ⟨HK2.out.os, HK2.out.tape, HK2.out.output, HK2.out.size, HK2.out.block⟩)
          have HY3 := Lib.hid (show Dy w2.drew g A m c d.safe d.room 0 d.off from HY2.out)
          have HO3 := Lib.hid (show Own w2.drew 0 A m c d.data from HO2.out)
          have HR3 := Lib.hid (show Rd w2.drew w2.heap.size A2 ((bs.take q).map B8) from by rw [List.map_take]; exact HR2.out.take q)
          have HTN : Hid (q = (bs.take q).length) := Lib.hid (by rw [List.length_take, ← HN.out]; omega)
          go_region_law (refine step_appK rfl (.tmp 49) (.tmp 52) rfl A m c d.data rfl HO3.out w2.heap.size A2 q c2 (bs.take q) rfl HTN.out HR3.out (by unfold big; omega) ?_; intro A3 c3 w3 ho3 hg3 ha3; have HAF := Lib.hid (after_app (n' := m + q) (c' := c3) HF.out HK3.out HY3.out HO3.out hg3 ha3); have HO4 := Lib.hid ho3; have x0 := HAF.out.1.c0; have f0 := frozen_of_row w3 g 0 _ _ HAF.out.1; clear ho3 hg3 ha3)
          all_goals
            have HY4 := Lib.hid (HAF.out.1.setA A3 (m + q) c3)
            have HO5 := Lib.hid (own_put (i := 0) HAF.out.1 HO4.out (.slice A3 (m + q) c3))
            have x4 := HY4.out.c4
            have f4 := frozen_of_row _ g 4 _ _ HY4.out
            rw [hoff] at x4
            clear x0 f0 z0 HK3 HY3 HO3 HR3 HK2 HY2 HO2 HR2
            go_wp2
            go_ret
            rw [HE.out, HQ.out] at HIA ⊢
            refine RetK.trans HAF.out.2 (ret_same _ (fun _ => Iff.rfl) (((Kp.refl _ _).setCell (Or.inl rfl) _).setCell (Or.inl rfl) _) (HY4.out.setO true) (own_put HY4.out HO5.out _) HIA.out)
        · obtain ⟨e1, e2⟩ := app_all d bs hoff HNF.out (by rw [← HN.out]; omega)
          rw [if_pos h7, ← HN.out] at e1
          rw [e2]
          have HE := Lib.hid e1; clear e1 e2
          have hnq : (n : Int) ≤ d.fuse := by omega
          go_enter Try.func27, Try.ntmps27
          go_wp2_with fail
          go_region
          have hb := (Below.refl w.heap.size w).drew
          generalize w.drew = w1 at hb ⊢
          have HK1 := Lib.hid (Kp.of_below (F := F) hb); have HY1 := Lib.hid (HY.out.all hb); have HO1 := Lib.hid (HO.out.below hb (Nat.le_refl _)); have HR1 := Lib.hid (HR.out.all hb)
          clear hb z0 z2 z3 z4 hmax
          have z0 := HY1.out.c0; have z3 := HY1.out.c3
          have f3 := frozen_of_row w1 g 3 _ _ HY1.out
          have hsl := run_head A2 n c2 n n .i64 rfl hc
          go_wp2_with fail
          have HK2 := Lib.hid (HK1.out.setCell (p := ⟨g, 3, none⟩) (fs_own HF.out) (.int .i64 (d.fuse - n)))
          have HY2 := Lib.hid (HY1.out.setF (d.fuse - n))
          have HO2 := Lib.hid (own_put (i := 3) HY1.out HO1.out (.int .i64 (d.fuse - n)))
          have HR2 := Lib.hid (Rf.rd (HR1.out.keep ((Kp.refl F w1).setCell (p := ⟨g, 3, none⟩) (fs_own HF.out) (.int .i64 (d.fuse - n))) (fun _ h => Or.inl h)))
          generalize w1.setCell ⟨g, 3, none⟩ (.int .i64 (d.fuse - n)) = w2 at HK2 HY2 HO2 HR2 ⊢
          clear z0 z3 f3 HK1 HY1 HO1 HR1
          have z0 := HY2.out.c0
          have HK3 := Lib.hid (show Kp F w w2.drew from ⟨HK2.out.os, HK2.out.tape, HK2.out.output, HK2.out.size, HK2.out.block⟩)
          have HY3 := Lib.hid (show Dy w2.drew g A m c d.safe d.room (d.fuse - n) d.off from HY2.out)
          have HO3 := Lib.hid (show Own w2.drew 0 A m c d.data from HO2.out)
          have HR3 := Lib.hid (show Rd w2.drew w2.heap.size A2 (bs.map B8) from HR2.out)
          go_region_law (refine step_appK rfl (.tmp 49) (.tmp 52) rfl A m c d.data rfl HO3.out w2.heap.size A2 n c2 bs rfl HN.out HR3.out (by unfold big; omega) ?_; intro A3 c3 w3 ho3 hg3 ha3; have HAF := Lib.hid (after_app (n' := m + n) (c' := c3) HF.out HK3.out HY3.out HO3.out hg3 ha3); have HO4 := Lib.hid ho3; have x0 := HAF.out.1.c0; have f0 := frozen_of_row w3 g 0 _ _ HAF.out.1; clear ho3 hg3 ha3)
          all_goals
            clear x0 f0 z0 HK3 HY3 HO3 HR3 HK2 HY2 HO2 HR2
            go_wp2
            go_ret
            rw [HE.out] at HIA ⊢
            refine RetK.trans HAF.out.2 (ret_same _ (fun _ => Iff.rfl) ((Kp.refl _ _).setCell (Or.inl rfl) _) ?_ (own_put HAF.out.1 HO4.out _) HIA.out)
            rw [← hoff]
            exact HAF.out.1.setA A3 (m + n) c3
end Go.Proofs.Ytjcbdnbbdhjoiaa.Dkw

namespace Go.Proofs.Ytjcbdnbbdhjoiaa.Dkw
set_option maxRecDepth 20000
open Go.RowKit
open Dk

theorem Dd.all {w w' : World} {F : Nat → Prop} {p : Value} {d : D} (h : Dd w F p d) (hb : Below w.heap.size w w') : Dd w' F p d := h.keep hb.size (fun k hk => hb.block k (h.lt k hk))
theorem Dd.setCell {w : World} {F : Nat → Prop} {p : Value} {d : D} (h : Dd w F p d) {q : Addr} (hq : ¬ F q.block) (u : Value) : Dd (w.setCell q u) F p d :=
  h.keep ((Below.refl 0 w).setCell (p := q) (Nat.zero_le _) u).size (fun k hk => Below.heap_setCell w q u k (fun e => hq (e ▸ hk)))
theorem rf_mark (w : World) (F : Nat → Prop) (xs : List Value) (m : Nat × Nat) (hF : ∀ k, F k → k < w.heap.size) : Rf (w.alloc (.cells xs.toArray 5 m)) F (some ⟨w.heap.size, 0, none⟩) xs := by
  intro hn
  obtain ⟨b, o, e, hb, hc⟩ := rd_mark w xs m hn
  injection e with e
  injection e with e1 e2
  subst e1; subst e2
  exact ⟨_, _, rfl, by simp, fun hf => by have := hF _ hf; omega, hc⟩
theorem a1 : appE (newD 9) [97, 98] = 0 := by decide +kernel
theorem d1 : appD (newD 9) [97, 98] = ⟨[97, 98], 0, 9, -1, false⟩ := by kernel_rfl
theorem d2 : syncD ⟨[97, 98], 0, 9, -1, false⟩ = ⟨[97, 98], 2, 9, -1, false⟩ := by kernel_rfl
theorem d3 : fuseD ⟨[97, 98], 2, 9, -1, false⟩ 1 = ⟨[97, 98], 2, 9, 1, false⟩ := by kernel_rfl
theorem a4 : appE ⟨[97, 98], 2, 9, 1, false⟩ [99, 100] = 82 := by decide +kernel
theorem d4 : appD ⟨[97, 98], 2, 9, 1, false⟩ [99, 100] = ⟨[97, 98, 99], 2, 9, 0, true⟩ := by kernel_rfl
theorem i64_small (x : Int) (h : 0 ≤ x ∧ x ≤ 10000000) : I64 x := by unfold I64; omega
end Go.Proofs.Ytjcbdnbbdhjoiaa.Dkw
