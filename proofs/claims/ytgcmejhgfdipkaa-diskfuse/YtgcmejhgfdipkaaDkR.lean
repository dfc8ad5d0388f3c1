/- What the document's functions of layer 8 answer: contracts by walks. -/
import Derived.Test.YtgcmejhgfdipkaaDkW
namespace Go.Proofs.Ytgcmejhgfdipkaa.Dkw
open Go.RowKit
open Dk

theorem results_disk {fn : Func} {t : Tmp} (h : fn.results = #[.cell t 30]) {tmps : Array Value} {w : World} {g : Nat} {A : Option Addr} {n c : Nat} {s r f : Int} {o : Bool} (hp : tmps.getD t undef = .pointer (some ⟨g, 0, none⟩)) (hv : Dx w g A n c s r f o) : (results fn tmps).run Try.prog w = .ok (.agg #[.slice A n c, .int .i64 s, .int .i64 r, .int .i64 f, .bool o]) w := by
  have h0 := hv.c0
  have h1 := hv.c1
  have h2 := hv.c2
  have h3 := hv.c3
  have h4 := hv.c4
  have u3 := Try.sizeOf30
  have hp' : tmps[t]?.getD undef = .pointer (some ⟨g, 0, none⟩) := by rw [← hp, Array.getD_eq_getD_getElem?]
  unfold results
  simp only [h]
  simp [hp', go_sem, h0, h1, h2, h3, h4]
theorem results_disk2 {fn : Func} {t u : Tmp} (h : fn.results = #[.cell t 30, .tmp u]) {tmps : Array Value} {w : World} {g : Nat} {A : Option Addr} {n c : Nat} {s r f : Int} {o : Bool} {x : Value} (hp : tmps.getD t undef = .pointer (some ⟨g, 0, none⟩)) (hx : tmps.getD u undef = x) (hv : Dx w g A n c s r f o) : (results fn tmps).run Try.prog w = .ok (.tuple #[.agg #[.slice A n c, .int .i64 s, .int .i64 r, .int .i64 f, .bool o], x]) w := by
  have h0 := hv.c0
  have h1 := hv.c1
  have h2 := hv.c2
  have h3 := hv.c3
  have h4 := hv.c4
  have u3 := Try.sizeOf30
  have hp' : tmps[t]?.getD undef = .pointer (some ⟨g, 0, none⟩) := by rw [← hp, Array.getD_eq_getD_getElem?]
  have hx' : tmps[u]?.getD undef = x := by rw [← hx, Array.getD_eq_getD_getElem?]
  unfold results
  simp only [h]
  simp [hp', hx', go_sem, h0, h1, h2, h3, h4]
/-- a disk is answered -/
def RetD (w : World) (F : Nat → Prop) (d : D) (e : Ending) (w' : World) : Prop := ∃ v, e = .returned v ∧ Ds w' F v d ∧ Below w.heap.size w w'
theorem store_slc (a : Addr) (m : Mode) (w : World) (A : Option Addr) (n c : Nat) : (store a (.slice A n c) m).run Try.prog w = stored Try.prog w a (.slice A n c) m := run_store _ w a _ m rfl
set_option maxHeartbeats 1000000 in
theorem limit_r (v : Value) (d : D) (room : Int) (F : Nat → Prop) (w : World) (h : Ds w F v d) : Calls Try.prog 19 #[v, .int .i64 room] w (RetD w F (limit d room)) := by
  obtain ⟨A, n, c, rfl, hn, hc, hr⟩ := h
  have HN := Lib.hid hn; have HC := Lib.hid hc; have HR := Lib.hid hr
  clear hn hc hr
  unfold dv
  go_enter Try.func19, Try.ntmps19
  go_wp2
  all_goals refine bodyPost_ret (results_disk (g := w.heap.size + 1) rfl rfl (hat _ _ _ (by simp))) rfl ?_
  all_goals refine ⟨_, rfl, ⟨A, n, c, ?_, HN.out, HC.out, HR.out.all (bal (bal (Below.refl _ _) (Nat.le_refl _) _) (Nat.le_refl _) _)⟩, bal (bal (Below.refl _ _) (Nat.le_refl _) _) (Nat.le_refl _) _⟩
  all_goals
    unfold dv limit clampR
    simp only
    congr 3
    congr 1
    simp only [List.cons.injEq, true_and, and_true, Value.int.injEq]
    split <;> (try split) <;> omega
set_option maxHeartbeats 1000000 in
theorem fuse_r (v : Value) (d : D) (n : Int) (F : Nat → Prop) (w : World) (h : Ds w F v d) : Calls Try.prog 23 #[v, .int .i64 n] w (RetD w F (fuseD d n)) := by
  obtain ⟨A, m, c, rfl, hn, hc, hr⟩ := h
  have HN := Lib.hid hn; have HC := Lib.hid hc; have HR := Lib.hid hr
  clear hn hc hr
  unfold dv
  go_enter Try.func23, Try.ntmps23
  go_wp2
  all_goals refine bodyPost_ret (results_disk (g := w.heap.size + 1) rfl rfl (hat _ _ _ (by simp))) rfl ?_
  all_goals refine ⟨_, rfl, ⟨A, m, c, ?_, HN.out, HC.out, HR.out.all (bal (bal (Below.refl _ _) (Nat.le_refl _) _) (Nat.le_refl _) _)⟩, bal (bal (Below.refl _ _) (Nat.le_refl _) _) (Nat.le_refl _) _⟩
  all_goals
    unfold dv fuseD clampF
    simp only
    congr 3
    congr 1
    simp only [List.cons.injEq, true_and, and_true, Value.int.injEq]
    split <;> omega
set_option maxHeartbeats 1000000 in
theorem sync_r (v : Value) (d : D) (F : Nat → Prop) (w : World) (h : Ds w F v d) : Calls Try.prog 15 #[v] w (RetD w F (syncD d)) := by
  obtain ⟨A, m, c, rfl, hn, hc, hr⟩ := h
  have HN := Lib.hid hn; have HC := Lib.hid hc; have HR := Lib.hid hr
  clear hn hc hr
  unfold dv
  cases ho : d.off
  all_goals
    go_enter Try.func15, Try.ntmps15
    go_wp2
    refine bodyPost_ret (results_disk (g := w.heap.size + 1) rfl rfl (hat _ _ _ (by simp))) rfl ?_
    refine ⟨_, rfl, ⟨A, m, c, ?_, ?_, HC.out, ?_⟩, bal (bal (Below.refl _ _) (Nat.le_refl _) _) (Nat.le_refl _) _⟩
    · unfold dv syncD
      simp [ho, HN.out]
    · unfold syncD
      simp [ho, HN.out]
    · have := HR.out.all (bal (bal (Below.refl w.heap.size w) (Nat.le_refl _) (.cells #[.slice A m c, .int .i64 d.safe, .int .i64 d.room, .int .i64 d.fuse, .bool d.off] 30)) (Nat.le_refl _) (.cells #[.slice A m c, .int .i64 d.safe, .int .i64 d.room, .int .i64 d.fuse, .bool d.off] 30))
      unfold syncD
      simp only [ho]
      exact HR.out.all (bal (bal (Below.refl _ _) (Nat.le_refl _) _) (Nat.le_refl _) _)
set_option maxHeartbeats 1000000 in
theorem new_r (room : Int) (F : Nat → Prop) (w : World) : Calls Try.prog 12 #[.int .i64 room] w (RetD w F (newD room)) := by
  have HD : Hid (limit ⟨[], 0, 0, -1, false⟩ room = newD room) := Lib.hid rfl
  have HE : Hid ((newD room).data = []) := Lib.hid rfl
  generalize newD room = d at HE HD ⊢
  go_enter Try.func12, Try.ntmps12
  go_wp2_with fail
  have H0 := Lib.hid (show Dx (w.alloc (.cells #[.slice none 0 0, .int .i64 0, .int .i64 0, .int .i64 0, .bool false] 30)) w.heap.size none 0 0 0 0 0 false from hat _ _ _ rfl)
  have HB := Lib.hid (bal (Below.refl w.heap.size w) (Nat.le_refl _) (.cells #[.slice none 0 0, .int .i64 0, .int .i64 0, .int .i64 0, .bool false] 30))
  generalize w.alloc (.cells #[.slice none 0 0, .int .i64 0, .int .i64 0, .int .i64 0, .bool false] 30) = w1 at H0 HB ⊢
  refine (limit_r _ ⟨[], 0, 0, -1, false⟩ room F w1 ⟨none, 0, 0, rfl, rfl, Nat.le_refl _, Rf.nil⟩).mono ?_
  rintro e w2 ⟨v, rfl, ⟨A, n, c, rfl, hn, hc, hr⟩, hb⟩
  have HN := Lib.hid hn; have HC := Lib.hid hc
  have H0 := Lib.hid (H0.out.all hb)
  have HB := Lib.hid (HB.out.trans (hb.mono HB.out.size)); clear hn hc hr hb
  rw [HD.out] at HN ⊢
  have z0 := H0.out.c0; have z1 := H0.out.c1; have z2 := H0.out.c2; have z3 := H0.out.c3; have z4 := H0.out.c4
  have y0 := frozen_of_row w2 w.heap.size 0 _ _ H0.out
  have y1 := frozen_of_row w2 w.heap.size 1 _ _ H0.out
  have y2 := frozen_of_row w2 w.heap.size 2 _ _ H0.out
  have y3 := frozen_of_row w2 w.heap.size 3 _ _ H0.out
  have y4 := frozen_of_row w2 w.heap.size 4 _ _ H0.out
  unfold dv
  go_wp2
  refine bodyPost_ret (results_disk (g := w.heap.size) rfl rfl (((((H0.out.setA A n c).setS d.safe).setR d.room).setF d.fuse).setO d.off)) rfl ?_
  exact ⟨_, rfl, ⟨A, n, c, rfl, HN.out, HC.out, by rw [HE.out]; exact Rf.nil⟩, ((((HB.out.setCell (Nat.le_refl _) _).setCell (Nat.le_refl _) _).setCell (Nat.le_refl _) _).setCell (Nat.le_refl _) _).setCell (Nat.le_refl _) _⟩
/-- what may be written to: F's blocks, and two of one's own -/
def Two (F : Nat → Prop) (g k : Nat) : Prop := F k ∨ k = g ∨ k = g + 1
theorem own_two {F : Nat → Prop} {g : Nat} {w w' : World} {A : Option Addr} {n c : Nat} {bs : List UInt8} (hF : ∀ k, F k → k < g) (h : Own w (g + 2) A n c bs) (hk : Kp (Two F g) w w') : Rf w' F A (bs.map B8) := by
  have h1 : Rf w (Two F g) A (bs.map B8) := Rf.of_own h (fun k hk => by
    rcases hk with h | h | h
    · have := hF k h; omega
    · omega
    · omega)
  exact h1.keep hk (fun k h => Or.inl (Or.inl h))
theorem cut_take (d : D) (n : Int) (k : Nat) (h : ¬ ((k : Int) < d.data.length ∧ (k : Int) < n)) (hk : k ≤ d.data.length) (hn : (k : Int) ≤ n ∨ k = 0) : d.data.take n.toNat = d.data.take k := by
  by_cases h1 : (k : Int) < d.data.length
  · have : n.toNat = k := by omega
    rw [this]
  · rw [List.take_of_length_le (by omega), List.take_of_length_le (by omega)]
set_option maxHeartbeats 1000000 in
theorem cut_r (v : Value) (d : D) (n : Int) (F : Nat → Prop) (w : World) (hF : ∀ k, F k → k < w.heap.size) (h : Ds w F v d) (hi : Iv d) : Calls Try.prog 21 #[v, .int .i64 n] w (RetD w F (cutD d n)) := by
  obtain ⟨A, m, c, rfl, hn, hc, hr⟩ := h
  have HN := Lib.hid hn; have HC := Lib.hid hc; have HR := Lib.hid hr; have HF := Lib.hid hF
  have hm6 : m ≤ 60000 := by rw [hn]; exact hi.2.2.1
  clear hn hc hr hF
  cases ho : d.off with
  | true =>
    have HD : Hid (cutD d n = d) := Lib.hid (by unfold cutD; rw [ho]; rfl)
    rw [HD.out]
    unfold dv
    rw [ho]
    go_enter Try.func21, Try.ntmps21
    go_wp2
    refine bodyPost_ret (results_disk (g := w.heap.size + 1) rfl rfl (hat _ _ _ (by simp))) rfl ?_
    exact ⟨_, rfl, ⟨A, m, c, by unfold dv; rw [ho], HN.out, HC.out, HR.out.all (bal (bal (Below.refl _ _) (Nat.le_refl _) _) (Nat.le_refl _) _)⟩, bal (bal (Below.refl _ _) (Nat.le_refl _) _) (Nat.le_refl _) _⟩
  | false =>
    have HP : Hid (∀ k : Nat, k ≤ m → d.data.take n.toNat = d.data.take k → RetD w F (cutD d n) = RetD w F ⟨d.data.take k, if (k : Int) < d.safe then (k : Int) else d.safe, d.room, d.fuse, false⟩) := Lib.hid (fun k hk ht => by
      unfold cutD
      rw [ho, ht, List.length_take, Nat.min_eq_left (by rw [← HN.out]; exact hk)]
      rfl)
    generalize RetD w F (cutD d n) = P at HP ⊢
    unfold dv
    rw [ho]
    go_enter Try.func21, Try.ntmps21
    go_wp2
    go_loopw [5, 6] (fun x i wr => ∃ (A3 : Option Addr) (c3 k : Nat), x = .slice A3 k c3 ∧ i = .int .i64 k ∧ k ≤ m ∧ ((k : Int) ≤ n ∨ k = 0) ∧ Own wr (w.heap.size + 2) A3 k c3 (d.data.take k) ∧ Dx wr w.heap.size A m c d.safe d.room d.fuse false ∧ Dx wr (w.heap.size + 1) none 0 0 0 0 0 false ∧ Below w.heap.size w wr ∧ w.heap.size + 2 ≤ wr.heap.size) (fun _ i _ => m - (intOf i).toNat)
    case atStart => exact ⟨_, 0, 0, rfl, rfl, by omega, Or.inr rfl, own_at _ _ _ [] (by simp) (by simp) (by simp), hbe (hbe (hat _ _ _ rfl)), hbe (hat _ _ _ (by simp)), bal (bal (bal (Below.refl _ _) (Nat.le_refl _) _) (Nat.le_refl _) _) (Nat.le_refl _) _, by simp⟩
    case round =>
      obtain ⟨A3, c3, k, rfl, rfl, hk, hkn, how, hx, hy, hb, hsz⟩ := hrel
      have HO := Lib.hid how; have HX := Lib.hid hx; have HY := Lib.hid hy; have HB := Lib.hid hb
      clear how hx hy hb
      have x0 := HX.out.c0
      by_cases h : k < m ∧ (k : Int) < n
      · have h1 := h.1
        have h2 := h.2
        obtain ⟨b, o, rfl, hbB, _, hcell⟩ := HR.out (by rw [List.length_map, ← HN.out]; omega)
        have hkl : k < d.data.length := by rw [← HN.out]; exact h1
        have hz : d.data[k]? = some d.data[k] := List.getElem?_eq_getElem hkl
        have hcu := hcell k (B8 d.data[k]) (by rw [List.getElem?_map, hz]; rfl)
        have HT : Hid (d.data.take (k + 1) = d.data.take k ++ [d.data[k]]) := Lib.hid (by rw [List.take_add_one, hz]; rfl)
        generalize d.data[k] = u at hcu HT
        have hcw : wr.cell? ⟨b, o + k, none⟩ = some (.int .u8 (u.toNat : Int)) := (HB.out.cell (by show b < _; omega)).trans hcu
        clear hcu hz hkl hcell h
        go_wp2_with (at_builtin; refine wp_app8 rfl (.tmp 23) (.tmp 29) rfl (w.heap.size + 2) A3 k c3 _ rfl (HO.out.alloc _) (wr.heap.size + 1) _ 1 1 [u] rfl rfl (rd_one wr _ u rfl) (by unfold big; omega) (by simp; omega) ?_; intro A4 c4 w4 ho4 hb4)
        have hs4 := hb4.size
        rw [World.size_alloc] at hs4
        refine ⟨⟨A4, c4, k + 1, rfl, by go_num, by omega, by omega, ?_, ?_, ?_, ?_, by omega⟩, by simp [intOf]; omega⟩
        · rw [HT.out]; exact ho4
        · exact (hb4.block _ (by omega)).trans (hbe HX.out)
        · exact (hb4.block _ (by omega)).trans (hbe HY.out)
        · exact (bal HB.out (Nat.le_refl _) _).trans (hb4.mono (by omega))
      · have HTK : Hid (d.data.take n.toNat = d.data.take k) := Lib.hid (cut_take d n k (by rw [← HN.out]; omega) (by rw [← HN.out]; exact hk) hkn)
        have HP2 := Lib.hid (HP.out k hk HTK.out)
        have x1 := HX.out.c1; have x2 := HX.out.c2; have x3 := HX.out.c3; have x4 := HX.out.c4
        have f0 := frozen_of_row wr w.heap.size 0 _ _ HX.out
        have f1 := frozen_of_row wr w.heap.size 1 _ _ HX.out
        have y0 := HY.out.c0; have y1 := HY.out.c1; have y2 := HY.out.c2; have y3 := HY.out.c3; have y4 := HY.out.c4
        have g0 := frozen_of_row wr (w.heap.size + 1) 0 _ _ HY.out
        have g1 := frozen_of_row wr (w.heap.size + 1) 1 _ _ HY.out
        have g2 := frozen_of_row wr (w.heap.size + 1) 2 _ _ HY.out
        have g3 := frozen_of_row wr (w.heap.size + 1) 3 _ _ HY.out
        have g4 := frozen_of_row wr (w.heap.size + 1) 4 _ _ HY.out
        by_cases h1 : k < m
        · have h2 : n ≤ (k : Int) := by omega
          by_cases hs : (k : Int) < d.safe
          · rw [if_pos hs] at HP2
            go_wp2
            refine bodyPost_ret (results_disk (g := w.heap.size + 1) rfl rfl ((((((((HY.out.other (Nat.succ_ne_self _) _).other (Nat.succ_ne_self _) _)).setA A3 k c3).setS (k : Int)).setR d.room).setF d.fuse).setO false)) rfl ?_
            rw [HP2.out]
            refine ⟨_, rfl, ⟨A3, k, c3, rfl, ?_, HO.out.cap, (own_two HF.out HO.out ((((((((Kp.refl (Two F w.heap.size) wr).setCell (Or.inr (Or.inl rfl)) _).setCell (Or.inr (Or.inl rfl)) _).setCell (Or.inr (Or.inr rfl)) _).setCell (Or.inr (Or.inr rfl)) _).setCell (Or.inr (Or.inr rfl)) _).setCell (Or.inr (Or.inr rfl)) _).setCell (Or.inr (Or.inr rfl)) _)).keep (Kp.refl _ _) (fun _ h => Or.inl h)⟩, (((((((HB.out.setCell (Nat.le_refl _) _).setCell (Nat.le_refl _) _).setCell (Nat.le_succ _) _).setCell (Nat.le_succ _) _).setCell (Nat.le_succ _) _).setCell (Nat.le_succ _) _).setCell (Nat.le_succ _) _)⟩
            rw [List.length_take, Nat.min_eq_left (by rw [← HN.out]; exact hk)]
          · rw [if_neg hs] at HP2
            go_wp2
            refine bodyPost_ret (results_disk (g := w.heap.size + 1) rfl rfl (((((((HY.out.other (Nat.succ_ne_self _) _)).setA A3 k c3).setS d.safe).setR d.room).setF d.fuse).setO false)) rfl ?_
            rw [HP2.out]
            refine ⟨_, rfl, ⟨A3, k, c3, rfl, ?_, HO.out.cap, (own_two HF.out HO.out (((((((Kp.refl (Two F w.heap.size) wr).setCell (Or.inr (Or.inl rfl)) _).setCell (Or.inr (Or.inr rfl)) _).setCell (Or.inr (Or.inr rfl)) _).setCell (Or.inr (Or.inr rfl)) _).setCell (Or.inr (Or.inr rfl)) _).setCell (Or.inr (Or.inr rfl)) _)).keep (Kp.refl _ _) (fun _ h => Or.inl h)⟩, ((((((HB.out.setCell (Nat.le_refl _) _).setCell (Nat.le_succ _) _).setCell (Nat.le_succ _) _).setCell (Nat.le_succ _) _).setCell (Nat.le_succ _) _).setCell (Nat.le_succ _) _)⟩
            rw [List.length_take, Nat.min_eq_left (by rw [← HN.out]; exact hk)]
        · by_cases hs : (k : Int) < d.safe
          · rw [if_pos hs] at HP2
            go_wp2
            refine bodyPost_ret (results_disk (g := w.heap.size + 1) rfl rfl ((((((((HY.out.other (Nat.succ_ne_self _) _).other (Nat.succ_ne_self _) _)).setA A3 k c3).setS (k : Int)).setR d.room).setF d.fuse).setO false)) rfl ?_
            rw [HP2.out]
            refine ⟨_, rfl, ⟨A3, k, c3, rfl, ?_, HO.out.cap, (own_two HF.out HO.out ((((((((Kp.refl (Two F w.heap.size) wr).setCell (Or.inr (Or.inl rfl)) _).setCell (Or.inr (Or.inl rfl)) _).setCell (Or.inr (Or.inr rfl)) _).setCell (Or.inr (Or.inr rfl)) _).setCell (Or.inr (Or.inr rfl)) _).setCell (Or.inr (Or.inr rfl)) _).setCell (Or.inr (Or.inr rfl)) _)).keep (Kp.refl _ _) (fun _ h => Or.inl h)⟩, (((((((HB.out.setCell (Nat.le_refl _) _).setCell (Nat.le_refl _) _).setCell (Nat.le_succ _) _).setCell (Nat.le_succ _) _).setCell (Nat.le_succ _) _).setCell (Nat.le_succ _) _).setCell (Nat.le_succ _) _)⟩
            rw [List.length_take, Nat.min_eq_left (by rw [← HN.out]; exact hk)]
          · rw [if_neg hs] at HP2
            go_wp2
            refine bodyPost_ret (results_disk (g := w.heap.size + 1) rfl rfl (((((((HY.out.other (Nat.succ_ne_self _) _)).setA A3 k c3).setS d.safe).setR d.room).setF d.fuse).setO false)) rfl ?_
            rw [HP2.out]
            refine ⟨_, rfl, ⟨A3, k, c3, rfl, ?_, HO.out.cap, (own_two HF.out HO.out (((((((Kp.refl (Two F w.heap.size) wr).setCell (Or.inr (Or.inl rfl)) _).setCell (Or.inr (Or.inr rfl)) _).setCell (Or.inr (Or.inr rfl)) _).setCell (Or.inr (Or.inr rfl)) _).setCell (Or.inr (Or.inr rfl)) _).setCell (Or.inr (Or.inr rfl)) _)).keep (Kp.refl _ _) (fun _ h => Or.inl h)⟩, ((((((HB.out.setCell (Nat.le_refl _) _).setCell (Nat.le_succ _) _).setCell (Nat.le_succ _) _).setCell (Nat.le_succ _) _).setCell (Nat.le_succ _) _).setCell (Nat.le_succ _) _)⟩
            rw [List.length_take, Nat.min_eq_left (by rw [← HN.out]; exact hk)]
end Go.Proofs.Ytgcmejhgfdipkaa.Dkw
