/- Contracts and words on which the claims of this seat stand, part 44: FoBc FoBa. -/
import Derived.Test.YtfblnomkafimhaaGreatG34
import Derived.Test.YtfblnomkafimhaaGreatG43
set_option linter.unusedSimpArgs false
set_option linter.unusedVariables false
namespace Go.Proofs.YtfblnomkafimhaaGreat.Fow
set_option maxRecDepth 20000
open Go.RowKit
open Chg Vw Cl Bk Lg Fo Clw Bkw
open Lgw (rvv Rx KR Sr Elv elv_at)
open Chgw (hat hbe vw ret_bool ret_i64 Vx)
open Rg (bal)

/-- rows that are of the call's own up to place k, and from there on as they came -/
def MidB (wr : World) (base k : Nat) (xs0 xs : List ((Nat × Nat) × Sl)) (l : List ((Nat × Nat) × List E)) : Prop := xs.length = l.length ∧ (∀ (j : Nat) x y, j < k → xs[j]? = some x → l[j]? = some y → x.1 = y.1 ∧ OwnE wr base x.2.a x.2.n x.2.c y.2) ∧ ∀ j, k ≤ j → xs[j]? = xs0[j]?
theorem MidB.start {wr : World} {base : Nat} {xs0 : List ((Nat × Nat) × Sl)} {l : List ((Nat × Nat) × List E)} (h : xs0.length = l.length) : MidB wr base 0 xs0 xs0 l := ⟨h, fun j x y hj => by omega, fun _ _ => rfl⟩
theorem MidB.below {wr wr' : World} {base k : Nat} {xs0 xs : List ((Nat × Nat) × Sl)} {l : List ((Nat × Nat) × List E)} (h : MidB wr base k xs0 xs l) (hb : Below wr.heap.size wr wr') : MidB wr' base k xs0 xs l := ⟨h.1, fun j x y hj hx hy => ⟨(h.2.1 j x y hj hx hy).1, (h.2.1 j x y hj hx hy).2.below hb (Nat.le_refl _)⟩, h.2.2⟩
theorem MidB.step {wr : World} {base k g jj : Nat} {u : Value} {cs : Array Value} {xs0 xs : List ((Nat × Nat) × Sl)} {l : List ((Nat × Nat) × List E)} {v : Nat × Nat} {sl0 sl : Sl} {y : (Nat × Nat) × List E} (h : MidB wr base k xs0 xs l) (hx : xs[k]? = some (v, sl0)) (hl : l[k]? = some y) (hv : v = y.1) (hg : wr.heap[g]? = some (.cells cs 69)) (ho : OwnE wr base sl.a sl.n sl.c y.2) : MidB (wr.setCell ⟨g, jj, none⟩ u) base (k + 1) xs0 (xs.set k (v, sl)) l := by
  have hk : k < xs.length := lt_of_get hx
  refine ⟨by rw [List.length_set, h.1], fun j x z hj hx' hz => ?_, fun j hj => by rw [List.getElem?_set_ne (by omega)]; exact h.2.2 j (by omega)⟩
  rcases Nat.lt_or_ge j k with h1 | h1
  · rw [List.getElem?_set_ne (by omega)] at hx'
    obtain ⟨e, o⟩ := h.2.1 j x z h1 hx' hz
    exact ⟨e, o.1, row_store hg o.2 (by decide) _⟩
  · obtain rfl : j = k := by omega
    rw [List.getElem?_set_self hk] at hx'
    rw [hl] at hz
    cases hx'; cases hz
    exact ⟨hv, ho.1, row_store hg ho.2 (by decide) _⟩
theorem MidB.fin {wr : World} {base k : Nat} {xs0 xs : List ((Nat × Nat) × Sl)} {l : List ((Nat × Nat) × List E)} (h : MidB wr base k xs0 xs l) (hk : k = l.length) : Bko wr base xs l := ⟨h.1, fun j x y hx hy => h.2.1 j x y (by rw [hk]; exact lt_of_get hy) hx hy⟩
/-- such rows, and what they lead to -/
def RowsB (w : World) (base : Nat) (A : Option Addr) (n c : Nat) (xs : List ((Nat × Nat) × Sl)) (l : List ((Nat × Nat) × List E)) : Prop := Rg.OwnG KB w base A n c xs ∧ Bko w base xs l
theorem RowsB.below {w w' : World} {base : Nat} {A : Option Addr} {n c : Nat} {xs : List ((Nat × Nat) × Sl)} {l : List ((Nat × Nat) × List E)} (h : RowsB w base A n c xs l) (hb : Below w.heap.size w w') : RowsB w' base A n c xs l := ⟨h.1.below hb (Nat.le_refl _), h.2.map (fun _ _ _ _ h1 => h1.below hb (Nat.le_refl _))⟩
theorem RowsB.store {w : World} {base g j : Nat} {cs : Array Value} {T : TypeId} {A : Option Addr} {n c : Nat} {xs : List ((Nat × Nat) × Sl)} {l : List ((Nat × Nat) × List E)} (h : RowsB w base A n c xs l) (hg : w.heap[g]? = some (.cells cs T)) (h1 : T ≠ 69) (h2 : T ≠ 58) (u : Value) : RowsB (w.setCell ⟨g, j, none⟩ u) base A n c xs l := ⟨⟨h.1.1, row_store hg h.1.2 h1 _⟩, h.2.map (fun _ _ _ _ ho => ⟨ho.1, row_store hg ho.2 h2 _⟩)⟩
/-- rows that are of the call's own up to place k, and from there on as they came -/
def MidC (wr : World) (base k : Nat) (xs0 xs : List ((Nat × Nat) × Sl)) (l : List ((Nat × Nat) × List C)) : Prop := xs.length = l.length ∧ (∀ (j : Nat) x y, j < k → xs[j]? = some x → l[j]? = some y → x.1 = y.1 ∧ Rg.OwnG KC wr base x.2.a x.2.n x.2.c y.2) ∧ ∀ j, k ≤ j → xs[j]? = xs0[j]?
theorem MidC.start {wr : World} {base : Nat} {xs0 : List ((Nat × Nat) × Sl)} {l : List ((Nat × Nat) × List C)} (h : xs0.length = l.length) : MidC wr base 0 xs0 xs0 l := ⟨h, fun j x y hj => by omega, fun _ _ => rfl⟩
theorem MidC.below {wr wr' : World} {base k : Nat} {xs0 xs : List ((Nat × Nat) × Sl)} {l : List ((Nat × Nat) × List C)} (h : MidC wr base k xs0 xs l) (hb : Below wr.heap.size wr wr') : MidC wr' base k xs0 xs l := ⟨h.1, fun j x y hj hx hy => ⟨(h.2.1 j x y hj hx hy).1, (h.2.1 j x y hj hx hy).2.below hb (Nat.le_refl _)⟩, h.2.2⟩
theorem MidC.step {wr : World} {base k g jj : Nat} {u : Value} {cs : Array Value} {xs0 xs : List ((Nat × Nat) × Sl)} {l : List ((Nat × Nat) × List C)} {v : Nat × Nat} {sl0 sl : Sl} {y : (Nat × Nat) × List C} (h : MidC wr base k xs0 xs l) (hx : xs[k]? = some (v, sl0)) (hl : l[k]? = some y) (hv : v = y.1) (hg : wr.heap[g]? = some (.cells cs 71)) (ho : Rg.OwnG KC wr base sl.a sl.n sl.c y.2) : MidC (wr.setCell ⟨g, jj, none⟩ u) base (k + 1) xs0 (xs.set k (v, sl)) l := by
  have hk : k < xs.length := lt_of_get hx
  refine ⟨by rw [List.length_set, h.1], fun j x z hj hx' hz => ?_, fun j hj => by rw [List.getElem?_set_ne (by omega)]; exact h.2.2 j (by omega)⟩
  rcases Nat.lt_or_ge j k with h1 | h1
  · rw [List.getElem?_set_ne (by omega)] at hx'
    obtain ⟨e, o⟩ := h.2.1 j x z h1 hx' hz
    exact ⟨e, o.1, row_store hg o.2 (by decide) _⟩
  · obtain rfl : j = k := by omega
    rw [List.getElem?_set_self hk] at hx'
    rw [hl] at hz
    cases hx'; cases hz
    exact ⟨hv, ho.1, row_store hg ho.2 (by decide) _⟩
theorem MidC.fin {wr : World} {base k : Nat} {xs0 xs : List ((Nat × Nat) × Sl)} {l : List ((Nat × Nat) × List C)} (h : MidC wr base k xs0 xs l) (hk : k = l.length) : Cko wr base xs l := ⟨h.1, fun j x y hx hy => h.2.1 j x y (by rw [hk]; exact lt_of_get hy) hx hy⟩
/-- such rows, and what they lead to -/
def RowsC (w : World) (base : Nat) (A : Option Addr) (n c : Nat) (xs : List ((Nat × Nat) × Sl)) (l : List ((Nat × Nat) × List C)) : Prop := Rg.OwnG KCs w base A n c xs ∧ Cko w base xs l
theorem RowsC.below {w w' : World} {base : Nat} {A : Option Addr} {n c : Nat} {xs : List ((Nat × Nat) × Sl)} {l : List ((Nat × Nat) × List C)} (h : RowsC w base A n c xs l) (hb : Below w.heap.size w w') : RowsC w' base A n c xs l := ⟨h.1.below hb (Nat.le_refl _), h.2.map (fun _ _ _ _ h1 => h1.below hb (Nat.le_refl _))⟩
theorem RowsC.store {w : World} {base g j : Nat} {cs : Array Value} {T : TypeId} {A : Option Addr} {n c : Nat} {xs : List ((Nat × Nat) × Sl)} {l : List ((Nat × Nat) × List C)} (h : RowsC w base A n c xs l) (hg : w.heap[g]? = some (.cells cs T)) (h1 : T ≠ 71) (h2 : T ≠ 53) (u : Value) : RowsC (w.setCell ⟨g, j, none⟩ u) base A n c xs l := ⟨⟨h.1.1, row_store hg h.1.2 h1 _⟩, h.2.map (fun _ _ _ _ ho => ⟨ho.1, row_store hg ho.2 h2 _⟩)⟩

theorem not_row {α : Type} {K : Kind α} {w : World} {base k g n c : Nat} {cs : Array Value} {T : TypeId} {l : List α} (h : w.heap[k]? = some (.cells cs T)) (ho : Rg.OwnG K w base (some ⟨g, 0, none⟩) n c l) (hne : T ≠ K.T) : k ≠ g := fun e => by
  obtain ⟨_, _, _, cur, hh, _⟩ := ho.row
  rw [← e, h] at hh
  simp only [Option.some.injEq, Obj.cells.injEq] at hh
  exact hne hh.2.1
set_option maxHeartbeats 8000000 in
theorem copy_c (s : St) (b c i : Sl) (w : World) (h : Sto w s b c i) (hw : WfS s) : Calls Tryz.prog 37 #[stv s b c i] w (RetOw w s) := by
  have hbn : b.n ≤ 4096 := by obtain ⟨xs, h1, _⟩ := h.1; rw [h1]; exact sd_len hw.sb hw.ab
  have hcn : c.n ≤ 4096 := by obtain ⟨xs, h1, _⟩ := h.2.1; rw [h1]; exact sd_len hw.sc hw.ac
  have hin : i.n ≤ 4096 := by rw [h.2.2.1]; exact sd_len hw.si hw.ai
  obtain ⟨xs0, hxn, _, _, hxr, hxb⟩ := h.1
  obtain ⟨ys0, hyn, _, _, hyr, hyb⟩ := h.2.1
  have HCB := Lib.hid (fun W (hW : Below w.heap.size w W) => clone_B b.a b.n b.c xs0 w.heap.size W (by rw [hxn, hxb.1]) (hxr.below hW) hW.size (by show b.n * 40 ≤ _; omega))
  have HCC := Lib.hid (fun W (hW : Below w.heap.size w W) => clone_C c.a c.n c.c ys0 w.heap.size W (by rw [hyn, hyb.1]) (hyr.below hW) hW.size (by show c.n * 40 ≤ _; omega))
  have HCI := Lib.hid (fun W (hW : Below w.heap.size w W) => clone_I i.a i.n i.c s.ints w.heap.size W h.2.2.1 (h.2.2.2.2.2.below hW) hW.size (by show i.n * 32 ≤ _; omega))
  have HIN := Lib.hid h.2.2.1
  have HXB := Lib.hid hxb; have HYB := Lib.hid hyb; have HXN := Lib.hid hxn; have HYN := Lib.hid hyn
  clear h hxn hxr hxb hyn hyr hyb hw hin
  unfold stv
  go_enter Tryz.func37, Tryz.ntmps37
  go_upto_region 1 with (fail)
  have HX := Lib.hid (show Sx ((w.alloc (.cells #[.slice b.a b.n b.c, .slice c.a c.n c.c, .slice i.a i.n i.c, .int .i64 (s.held.1 : Int), .int .i64 (s.held.2 : Int), .int .i64 s.inc, .int .i64 s.last] 28)).alloc (.cells #[.slice none 0 0, .slice none 0 0, .slice none 0 0, .int .i64 0, .int .i64 0, .int .i64 0, .int .i64 0] 28)) w.heap.size s b c i from hbe (hat _ _ _ rfl))
  have HZ := Lib.hid (show Sx ((w.alloc (.cells #[.slice b.a b.n b.c, .slice c.a c.n c.c, .slice i.a i.n i.c, .int .i64 (s.held.1 : Int), .int .i64 (s.held.2 : Int), .int .i64 s.inc, .int .i64 s.last] 28)).alloc (.cells #[.slice none 0 0, .slice none 0 0, .slice none 0 0, .int .i64 0, .int .i64 0, .int .i64 0, .int .i64 0] 28)) (w.heap.size + 1) zeroSt nilS nilS nilS from hat _ _ _ (by simp))
  have HB := Lib.hid (bal (bal (Below.refl w.heap.size w) (Nat.le_refl _) (.cells #[.slice b.a b.n b.c, .slice c.a c.n c.c, .slice i.a i.n i.c, .int .i64 (s.held.1 : Int), .int .i64 (s.held.2 : Int), .int .i64 s.inc, .int .i64 s.last] 28)) (Nat.le_refl _) (.cells #[.slice none 0 0, .slice none 0 0, .slice none 0 0, .int .i64 0, .int .i64 0, .int .i64 0, .int .i64 0] 28))
  generalize (w.alloc (.cells #[.slice b.a b.n b.c, .slice c.a c.n c.c, .slice i.a i.n i.c, .int .i64 (s.held.1 : Int), .int .i64 (s.held.2 : Int), .int .i64 s.inc, .int .i64 s.last] 28)).alloc (.cells #[.slice none 0 0, .slice none 0 0, .slice none 0 0, .int .i64 0, .int .i64 0, .int .i64 0, .int .i64 0] 28) = w1 at HX HZ HB ⊢
  have HGZ := Lib.hid (show w.heap.size ≤ w.heap.size + 1 by omega)
  have HNE2 := Lib.hid (show w.heap.size + 1 ≠ w.heap.size by omega)
  generalize w.heap.size + 1 = gz at HZ HGZ HNE2 ⊢
  have HGX : Hid (w.heap.size ≤ w.heap.size) := Lib.hid (Nat.le_refl _)
  obtain ⟨z0, z1, z2, z3, z4, z5, z6⟩ := HX.out.cs
  go_upto_region 2 with (refine (HCB.out w1 HB.out).mono ?_; rintro e w2 ⟨A2, n2, c2, rfl, ho2, hb2⟩; obtain ⟨q0, q1, q2, q3, q4, q5, q6⟩ := (HX.out.all hb2).cs; have hf0 := (HX.out.all hb2).frozen 0)
  have hn2 : n2 = b.n := by rw [ho2.1, HXB.out.1, ← HXN.out]
  subst hn2
  have HO := Lib.hid (show Rg.OwnG KB (w2.setCell ⟨w.heap.size, 0, none⟩ (.slice A2 b.n c2)) w.heap.size A2 b.n c2 xs0 from ⟨ho2.1, row_store (HX.out.all hb2) (ho2.base HB.out.size).2 (by decide) _⟩)
  have HX := Lib.hid (show Sx (w2.setCell ⟨w.heap.size, 0, none⟩ (.slice A2 b.n c2)) w.heap.size s ⟨A2, b.n, c2⟩ c i from (HX.out.all hb2).put1 0 (.slice A2 b.n c2) _ _ _ _ rfl)
  have HZ := Lib.hid (show Sx (w2.setCell ⟨w.heap.size, 0, none⟩ (.slice A2 b.n c2)) gz zeroSt nilS nilS nilS from (HZ.out.all hb2).other HNE2.out _)
  have HB := Lib.hid (show Below w.heap.size w (w2.setCell ⟨w.heap.size, 0, none⟩ (.slice A2 b.n c2)) from (HB.out.trans (hb2.mono HB.out.size)).setCell HGX.out _)
  clear hb2 ho2 z0 z1 z2 z3 z4 z5 z6 q0 q1 q2 q3 q4 q5 q6 hf0
  generalize (w2.setCell ⟨w.heap.size, 0, none⟩ (.slice A2 b.n c2)) = w3 at HO HX HZ HB  ⊢
  obtain ⟨z0, z1, z2, z3, z4, z5, z6⟩ := HX.out.cs
  have HMD := Lib.hid (MidB.start (wr := w3) (base := w.heap.size) HXB.out.1)
  go_wp2
  go_loopw [14] (fun ix wr => ∃ (xs : List ((Nat × Nat) × Sl)) (k : Nat), ix = .int .i64 k ∧ k ≤ b.n ∧ Sx wr w.heap.size s ⟨A2, b.n, c2⟩ c i ∧ Rg.OwnG KB wr w.heap.size A2 b.n c2 xs ∧ MidB wr w.heap.size k xs0 xs s.books ∧ Sx wr gz zeroSt nilS nilS nilS ∧ Below w.heap.size w wr) (fun ix _ => b.n - (intOf ix).toNat)
  case atStart => exact ⟨xs0, 0, rfl, by omega, HX.out, HO.out, HMD.out, HZ.out, HB.out⟩
  case round =>
    clear HX HO HZ HB HMD z0 z1 z2 z3 z4 z5 z6 
    rename World => wlB
    obtain ⟨xs, k, rfl, hk, hx, ho, hm, hz0, hb⟩ := hrel
    have HX := Lib.hid hx; have HO := Lib.hid ho; have HZ := Lib.hid hz0; have HB := Lib.hid hb; have HM := Lib.hid hm
    clear hx ho hz0 hb hm
    by_cases h : k < b.n
    · obtain ⟨g1, rfl, hg1⟩ := HO.out.at0 (by omega)
      have HG1 := Lib.hid hg1
      have hkx : k < xs.length := by rw [← HO.out.1]; exact h
      have hkl : k < s.books.length := by rw [← HM.out.1]; exact hkx
      have hzx : xs[k]? = some xs[k] := List.getElem?_eq_getElem hkx
      have hzl : s.books[k]? = some s.books[k] := List.getElem?_eq_getElem hkl
      have hzo : xs0[k]? = some xs[k] := by rw [← HM.out.2.2 k (Nat.le_refl _)]; exact hzx
      have hso := HXB.out.2 k _ _ hzo hzl
      have HZX := Lib.hid hzx; have HZL := Lib.hid hzl
      clear hzo
      generalize xs[k] = x at hzx hso HZX
      generalize s.books[k] = y at hzl hso HZL
      have HSO := Lib.hid hso
      obtain ⟨bb, o, hbo, hbB, hcell⟩ := HO.out.rs (by omega)
      have hcx := hcell k x HZX.out
      simp only [Option.some.injEq, Addr.mk.injEq] at hbo
      obtain ⟨rfl, rfl, -⟩ := hbo
      have x0 := hcx 0 _ rfl; have x1 := hcx 1 _ rfl; have x2 := hcx 2 _ rfl
      rw [show KB.k = 3 from rfl] at x0 x1 x2
      simp only [Nat.zero_add, Nat.add_zero] at x0 x1 x2
      clear hcx hcell hbB hkx hkl hzx hzl hso hg1
      obtain ⟨z0, z1, z2, z3, z4, z5, z6⟩ := HX.out.cs
      obtain ⟨v, sl⟩ := x
      obtain ⟨ya, yl⟩ := y
      simp only at HSO x0 x1 x2
      have hi1 : (k : Int) < (b.n : Int) := by omega
      go_upto_region 5 with (fail)
      have HY := Lib.hid (show (wlB.alloc (.cells #[.int .i64 (v.1 : Int), .int .i64 (v.2 : Int), .slice sl.a sl.n sl.c] 69)).heap[wlB.heap.size]? = some (.cells #[.int .i64 (v.1 : Int), .int .i64 (v.2 : Int), .slice sl.a sl.n sl.c] 69) from hat _ _ _ rfl)
      have hbx := bal (Below.refl wlB.heap.size wlB) (Nat.le_refl _) (.cells #[.int .i64 (v.1 : Int), .int .i64 (v.2 : Int), .slice sl.a sl.n sl.c] 69)
      have HGY2 := Lib.hid (show wlB.heap.size ≠ g1 from by have := HG1.out; omega)
      have HX := Lib.hid (HX.out.all hbx); have HZ := Lib.hid (HZ.out.all hbx); have HO := Lib.hid (HO.out.below hbx (Nat.le_refl _)); have HM := Lib.hid (HM.out.below hbx); have HB := Lib.hid (HB.out.trans (hbx.mono HB.out.size))
      clear hbx x0 x1 x2 z0 z1 z2 z3 z4 z5 z6
      generalize wlB.alloc (.cells #[.int .i64 (v.1 : Int), .int .i64 (v.2 : Int), .slice sl.a sl.n sl.c] 69) = wm at HX HZ HO HM HB HY  ⊢
      generalize wlB.heap.size = gy at HY HGY2 ⊢
      have HCL := Lib.hid (fun W (hW : Below w.heap.size w W) => clone_E sl.a sl.n sl.c yl w.heap.size W HSO.out.2.1 ((re_rsF HSO.out.2.2.2.2.2).below hW) hW.size HSO.out.2.2.2.1)
      have HQ : Hid (∀ W, (Sx W w.heap.size s ⟨some ⟨g1, 0, none⟩, b.n, c2⟩ c i ∧ W.heap[gy]? = some (.cells #[.int .i64 (v.1 : Int), .int .i64 (v.2 : Int), .slice sl.a sl.n sl.c] 69)) → W.cell? ⟨w.heap.size, 0, none⟩ = some (.slice (some ⟨g1, 0, none⟩) b.n c2) ∧ W.cell? ⟨gy, 1 + 1, none⟩ = some (.slice sl.a sl.n sl.c)) := Lib.hid (fun W hW => ⟨hW.1.cs.1, (cells3 hW.2).2.2⟩)
      refine wp_region_held_drew (S := fun W => Sx W w.heap.size s ⟨some ⟨g1, 0, none⟩, b.n, c2⟩ c i ∧ W.heap[gy]? = some (.cells #[.int .i64 (v.1 : Int), .int .i64 (v.2 : Int), .slice sl.a sl.n sl.c] 69)) (by kernel_rfl) ⟨HX.out, HY.out⟩ (fun hHeld => ?_)
      have HS := Lib.hid hHeld; clear hHeld
      have HC : Hid (Below wm.heap.size wm wm.drew) := Lib.hid (Below.refl _ _).drew
      generalize wm.drew = w5 at HS HC ⊢
      refine take_in (i := 0) (oi := ⟨_, _, _, _, _, _⟩) (v := ?_) rfl (by kernel_rfl) (by kernel_rfl) (by kernel_rfl) (fun _ _ _ h => h) (by rfl) ?_ HS.out ?_
      rotate_left
      · intro W hW; obtain ⟨q0, q1⟩ := HQ.out W hW; go_simp; with_reducible rfl
      simp only [Act.put, List.setIfInBounds_toArray, List.set_cons_zero, List.set_cons_succ]
      refine take_in (i := 1) (oi := ⟨_, _, _, _, _, _⟩) (v := ?_) rfl (by kernel_rfl) (by kernel_rfl) (by kernel_rfl) (fun _ _ _ h => h) (by rfl) ?_ HS.out ?_
      rotate_left
      · intro W hW; obtain ⟨q0, q1⟩ := HQ.out W hW; go_simp; with_reducible rfl
      simp only [Act.put, List.setIfInBounds_toArray, List.set_cons_zero, List.set_cons_succ]
      refine take_in (i := 2) (oi := ⟨_, _, _, _, _, _⟩) (v := ?_) rfl (by kernel_rfl) (by kernel_rfl) (by kernel_rfl) (fun _ _ _ h => h) (by rfl) ?_ HS.out ?_
      rotate_left
      · intro W hW; obtain ⟨q0, q1⟩ := HQ.out W hW; go_simp; with_reducible rfl
      simp only [Act.put, List.setIfInBounds_toArray, List.set_cons_zero, List.set_cons_succ]
      refine take_in (i := 3) (oi := ⟨_, _, _, _, _, _⟩) (v := ?_) rfl (by kernel_rfl) (by kernel_rfl) (by kernel_rfl) (fun _ _ _ h => h) (by rfl) ?_ HS.out ?_
      rotate_left
      · intro W hW; obtain ⟨q0, q1⟩ := HQ.out W hW; go_simp; with_reducible rfl
      simp only [Act.put, List.setIfInBounds_toArray, List.set_cons_zero, List.set_cons_succ]
      refine take_in (i := 4) (oi := ⟨_, _, _, _, _, _⟩) (v := ?_) rfl (by kernel_rfl) (by kernel_rfl) (by kernel_rfl) (fun _ _ _ h => h) (by rfl) ?_ HS.out ?_
      rotate_left
      · intro W hW; obtain ⟨q0, q1⟩ := HQ.out W hW; go_simp; with_reducible rfl
      simp only [Act.put, List.setIfInBounds_toArray, List.set_cons_zero, List.set_cons_succ]
      refine wpAnyH_ready (rs := [5]) (by kernel_rfl) (by simp) ?_
      refine AllReadyH.cons (o := ⟨_, _, _, _, _, _⟩) rfl (fun K hK => ?_) AllReadyH.nil
      go_simp
      refine (HCL.out w5 (HB.out.trans (HC.out.mono HB.out.size))).mono ?_
      rintro e w6 ⟨A6, n6, c6, rfl, ho6, hb6⟩
      have HS := Lib.hid (show Sx w6 w.heap.size s ⟨some ⟨g1, 0, none⟩, b.n, c2⟩ c i ∧ w6.heap[gy]? = some (.cells #[.int .i64 (v.1 : Int), .int .i64 (v.2 : Int), .slice sl.a sl.n sl.c] 69) from ⟨HS.out.1.all hb6, (hb6.block _ (Array.getElem?_eq_some_iff.1 HS.out.2).1).trans HS.out.2⟩)
      have HN6 := Lib.hid (ho6.base (HB.out.trans (HC.out.mono HB.out.size)).size)
      have HC := Lib.hid (HC.out.trans (hb6.mono HC.out.size)); clear hb6 ho6
      refine hK.out _ _ HS.out (fun _ => ?_)
      clear hK K
      have HO6 := Lib.hid (HO.out.below HC.out (Nat.le_refl _))
      refine take_in (i := 6) (oi := ⟨_, _, _, _, _, _⟩) (v := ?_) rfl (by kernel_rfl) (by kernel_rfl) (by kernel_rfl) (fun _ _ _ h => h) (by rfl) ?_ HS.out ?_
      rotate_left
      · intro W hW; go_simp; with_reducible rfl
      simp only [Act.put, List.setIfInBounds_toArray, List.set_cons_zero, List.set_cons_succ]
      refine take_in (i := 7) (oi := ⟨_, _, _, _, _, _⟩) (v := ?_) rfl (by kernel_rfl) (by kernel_rfl) (by kernel_rfl) (fun _ _ _ h => h) (by rfl) ?_ HS.out ?_
      rotate_left
      · intro W hW; go_simp; with_reducible rfl
      simp only [Act.put, List.setIfInBounds_toArray, List.set_cons_zero, List.set_cons_succ]
      refine wpAnyH_ready (rs := [8]) (by kernel_rfl) (by simp) ?_
      refine AllReadyH.cons (o := ⟨_, _, _, _, _, _⟩) rfl (fun K hK => ?_) AllReadyH.nil
      obtain ⟨_, _, _, cur, hh6, hs6, _⟩ := HO6.out.row
      have hf := frozen_of_row w6 g1 (k * 3 + 2) _ _ hh6
      have hcp := HO6.out.cap
      obtain ⟨u6, hu6⟩ : ∃ u6, w6.cell? ⟨g1, k * 3 + 2, none⟩ = some u6 := ⟨_, by rw [cell_of_row _ _ _ _ _ _ hh6, Array.getElem?_eq_getElem (by rw [hs6]; show _ < c2 * 3; omega)]⟩
      have HR := Lib.hid (HO6.out.cell (j := 2) (u := .slice A6 n6 c6) (x' := (v, ⟨A6, n6, c6⟩)) HZX.out (by show 2 < 3; omega) rfl)
      rw [show KB.k = 3 from rfl] at HR
      have hne := not_row HS.out.1 HO6.out (by decide)
      have hzn := not_row (HZ.out.all HC.out) HO6.out (by decide)
      have HHR : Hid (w6.heap[g1]? = some (.cells cur 69)) := Lib.hid hh6
      clear hh6 hs6 hcp
      go_simp
      refine hK.out _ _ ⟨HS.out.1.other hne _, (Below.heap_setCell w6 ⟨g1, k * 3 + 2, none⟩ _ gy HGY2.out).trans HS.out.2⟩ (fun _ => ?_)
      clear hK K hf hu6
      refine wpAnyH_done (by kernel_rfl) ?_ _
      have HX := Lib.hid (HS.out.1.other hne (.slice A6 n6 c6) (p := ⟨g1, k * 3 + 2, none⟩))
      have HZ := Lib.hid ((HZ.out.all HC.out).other hzn (.slice A6 n6 c6) (p := ⟨g1, k * 3 + 2, none⟩))
      have HB6 := Lib.hid (show Below w.heap.size w (w6.setCell ⟨g1, k * 3 + 2, none⟩ (.slice A6 n6 c6)) from (HB.out.trans (HC.out.mono HB.out.size)).setCell (HO6.out.2.lt g1 rfl).1 _)
      have HM := Lib.hid (MidB.step (sl := ⟨A6, n6, c6⟩) (jj := k * 3 + 2) (u := .slice A6 n6 c6) (HM.out.below HC.out) HZX.out HZL.out HSO.out.1 HHR.out HN6.out)
      clear HS HC HB HO HO6 HY hne hzn HHR HN6 HZX HZL
      generalize w6.setCell ⟨g1, k * 3 + 2, none⟩ (.slice A6 n6 c6) = w7 at HX HZ HR HM HB6  ⊢
      go_wp2
      exact ⟨⟨_, k + 1, by go_num, by omega, HX.out, HR.out.1, HM.out, HZ.out, HB6.out⟩, by simp [intOf]; omega⟩
    · obtain rfl : k = b.n := by omega
      have HBO : Hid (RowsB wlB w.heap.size A2 b.n c2 xs s.books) := Lib.hid ⟨HO.out, MidB.fin HM.out (by rw [← HM.out.1, ← HO.out.1])⟩
      clear HM HO h hk HCB HXB HXN
      generalize xs = xsB at HBO
      obtain ⟨z0, z1, z2, z3, z4, z5, z6⟩ := HX.out.cs
      go_upto_region 8 with (refine (HCC.out wlB HB.out).mono ?_; rintro e w2 ⟨A3, n2, c3, rfl, ho2, hb2⟩; obtain ⟨q0, q1, q2, q3, q4, q5, q6⟩ := (HX.out.all hb2).cs; have hf0 := (HX.out.all hb2).frozen 1)
      have hn2 : n2 = c.n := by rw [ho2.1, HYB.out.1, ← HYN.out]
      subst hn2
      have HO := Lib.hid (show Rg.OwnG KCs (w2.setCell ⟨w.heap.size, 1, none⟩ (.slice A3 c.n c3)) w.heap.size A3 c.n c3 ys0 from ⟨ho2.1, row_store (HX.out.all hb2) (ho2.base HB.out.size).2 (by decide) _⟩)
      have HBO := Lib.hid ((HBO.out.below hb2).store (j := 1) (HX.out.all hb2) (by decide) (by decide) (.slice A3 c.n c3))
      have HX := Lib.hid (show Sx (w2.setCell ⟨w.heap.size, 1, none⟩ (.slice A3 c.n c3)) w.heap.size s ⟨A2, b.n, c2⟩ ⟨A3, c.n, c3⟩ i from (HX.out.all hb2).put1 1 (.slice A3 c.n c3) _ _ _ _ rfl)
      have HZ := Lib.hid (show Sx (w2.setCell ⟨w.heap.size, 1, none⟩ (.slice A3 c.n c3)) gz zeroSt nilS nilS nilS from (HZ.out.all hb2).other HNE2.out _)
      have HB := Lib.hid (show Below w.heap.size w (w2.setCell ⟨w.heap.size, 1, none⟩ (.slice A3 c.n c3)) from (HB.out.trans (hb2.mono HB.out.size)).setCell HGX.out _)
      clear hb2 ho2 z0 z1 z2 z3 z4 z5 z6 q0 q1 q2 q3 q4 q5 q6 hf0
      generalize (w2.setCell ⟨w.heap.size, 1, none⟩ (.slice A3 c.n c3)) = w3 at HO HX HZ HB HBO ⊢
      obtain ⟨z0, z1, z2, z3, z4, z5, z6⟩ := HX.out.cs
      have HMD := Lib.hid (MidC.start (wr := w3) (base := w.heap.size) HYB.out.1)
      go_wp2
      go_loopw [35] (fun ix wr => ∃ (xs : List ((Nat × Nat) × Sl)) (k : Nat), ix = .int .i64 k ∧ k ≤ c.n ∧ Sx wr w.heap.size s ⟨A2, b.n, c2⟩ ⟨A3, c.n, c3⟩ i ∧ Rg.OwnG KCs wr w.heap.size A3 c.n c3 xs ∧ MidC wr w.heap.size k ys0 xs s.cells ∧ Sx wr gz zeroSt nilS nilS nilS ∧ Below w.heap.size w wr ∧ RowsB wr w.heap.size A2 b.n c2 xsB s.books) (fun ix _ => c.n - (intOf ix).toNat)
      case atStart => exact ⟨ys0, 0, rfl, by omega, HX.out, HO.out, HMD.out, HZ.out, HB.out, HBO.out⟩
      case round =>
        clear HX HO HZ HB HMD z0 z1 z2 z3 z4 z5 z6 HBO
        rename World => wlC
        obtain ⟨xs, k, rfl, hk, hx, ho, hm, hz0, hb, hHBO⟩ := hrel
        have HX := Lib.hid hx; have HO := Lib.hid ho; have HZ := Lib.hid hz0; have HB := Lib.hid hb; have HM := Lib.hid hm; have HBO := Lib.hid hHBO
        clear hx ho hz0 hb hm hHBO
        by_cases h : k < c.n
        · obtain ⟨g1, rfl, hg1⟩ := HO.out.at0 (by omega)
          have HG1 := Lib.hid hg1
          have hkx : k < xs.length := by rw [← HO.out.1]; exact h
          have hkl : k < s.cells.length := by rw [← HM.out.1]; exact hkx
          have hzx : xs[k]? = some xs[k] := List.getElem?_eq_getElem hkx
          have hzl : s.cells[k]? = some s.cells[k] := List.getElem?_eq_getElem hkl
          have hzo : ys0[k]? = some xs[k] := by rw [← HM.out.2.2 k (Nat.le_refl _)]; exact hzx
          have hso := HYB.out.2 k _ _ hzo hzl
          have HZX := Lib.hid hzx; have HZL := Lib.hid hzl
          clear hzo
          generalize xs[k] = x at hzx hso HZX
          generalize s.cells[k] = y at hzl hso HZL
          have HSO := Lib.hid hso
          obtain ⟨bb, o, hbo, hbB, hcell⟩ := HO.out.rs (by omega)
          have hcx := hcell k x HZX.out
          simp only [Option.some.injEq, Addr.mk.injEq] at hbo
          obtain ⟨rfl, rfl, -⟩ := hbo
          have x0 := hcx 0 _ rfl; have x1 := hcx 1 _ rfl; have x2 := hcx 2 _ rfl
          rw [show KCs.k = 3 from rfl] at x0 x1 x2
          simp only [Nat.zero_add, Nat.add_zero] at x0 x1 x2
          clear hcx hcell hbB hkx hkl hzx hzl hso hg1
          obtain ⟨z0, z1, z2, z3, z4, z5, z6⟩ := HX.out.cs
          obtain ⟨v, sl⟩ := x
          obtain ⟨ya, yl⟩ := y
          simp only at HSO x0 x1 x2
          have hi1 : (k : Int) < (c.n : Int) := by omega
          go_upto_region 11 with (fail)
          have HY := Lib.hid (show (wlC.alloc (.cells #[.int .i64 (v.1 : Int), .int .i64 (v.2 : Int), .slice sl.a sl.n sl.c] 71)).heap[wlC.heap.size]? = some (.cells #[.int .i64 (v.1 : Int), .int .i64 (v.2 : Int), .slice sl.a sl.n sl.c] 71) from hat _ _ _ rfl)
          have hbx := bal (Below.refl wlC.heap.size wlC) (Nat.le_refl _) (.cells #[.int .i64 (v.1 : Int), .int .i64 (v.2 : Int), .slice sl.a sl.n sl.c] 71)
          have HGY2 := Lib.hid (show wlC.heap.size ≠ g1 from by have := HG1.out; omega)
          have HX := Lib.hid (HX.out.all hbx); have HZ := Lib.hid (HZ.out.all hbx); have HO := Lib.hid (HO.out.below hbx (Nat.le_refl _)); have HM := Lib.hid (HM.out.below hbx); have HB := Lib.hid (HB.out.trans (hbx.mono HB.out.size)); have HBO := Lib.hid (HBO.out.below hbx)
          clear hbx x0 x1 x2 z0 z1 z2 z3 z4 z5 z6
          generalize wlC.alloc (.cells #[.int .i64 (v.1 : Int), .int .i64 (v.2 : Int), .slice sl.a sl.n sl.c] 71) = wm at HX HZ HO HM HB HY HBO ⊢
          generalize wlC.heap.size = gy at HY HGY2 ⊢
          have HCL := Lib.hid (fun W (hW : Below w.heap.size w W) => clone_Ce sl.a sl.n sl.c yl w.heap.size W HSO.out.2.1 (HSO.out.2.2.2.2.below hW) hW.size HSO.out.2.2.2.1)
          have HQ : Hid (∀ W, (Sx W w.heap.size s ⟨A2, b.n, c2⟩ ⟨some ⟨g1, 0, none⟩, c.n, c3⟩ i ∧ W.heap[gy]? = some (.cells #[.int .i64 (v.1 : Int), .int .i64 (v.2 : Int), .slice sl.a sl.n sl.c] 71)) → W.cell? ⟨w.heap.size, 1, none⟩ = some (.slice (some ⟨g1, 0, none⟩) c.n c3) ∧ W.cell? ⟨gy, 1 + 1, none⟩ = some (.slice sl.a sl.n sl.c)) := Lib.hid (fun W hW => ⟨hW.1.cs.2.1, (cells3 hW.2).2.2⟩)
          refine wp_region_held_drew (S := fun W => Sx W w.heap.size s ⟨A2, b.n, c2⟩ ⟨some ⟨g1, 0, none⟩, c.n, c3⟩ i ∧ W.heap[gy]? = some (.cells #[.int .i64 (v.1 : Int), .int .i64 (v.2 : Int), .slice sl.a sl.n sl.c] 71)) (by kernel_rfl) ⟨HX.out, HY.out⟩ (fun hHeld => ?_)
          have HS := Lib.hid hHeld; clear hHeld
          have HC : Hid (Below wm.heap.size wm wm.drew) := Lib.hid (Below.refl _ _).drew
          generalize wm.drew = w5 at HS HC ⊢
          refine take_in (i := 0) (oi := ⟨_, _, _, _, _, _⟩) (v := ?_) rfl (by kernel_rfl) (by kernel_rfl) (by kernel_rfl) (fun _ _ _ h => h) (by rfl) ?_ HS.out ?_
          rotate_left
          · intro W hW; obtain ⟨q0, q1⟩ := HQ.out W hW; go_simp; with_reducible rfl
          simp only [Act.put, List.setIfInBounds_toArray, List.set_cons_zero, List.set_cons_succ]
          refine take_in (i := 1) (oi := ⟨_, _, _, _, _, _⟩) (v := ?_) rfl (by kernel_rfl) (by kernel_rfl) (by kernel_rfl) (fun _ _ _ h => h) (by rfl) ?_ HS.out ?_
          rotate_left
          · intro W hW; obtain ⟨q0, q1⟩ := HQ.out W hW; go_simp; with_reducible rfl
          simp only [Act.put, List.setIfInBounds_toArray, List.set_cons_zero, List.set_cons_succ]
          refine take_in (i := 2) (oi := ⟨_, _, _, _, _, _⟩) (v := ?_) rfl (by kernel_rfl) (by kernel_rfl) (by kernel_rfl) (fun _ _ _ h => h) (by rfl) ?_ HS.out ?_
          rotate_left
          · intro W hW; obtain ⟨q0, q1⟩ := HQ.out W hW; go_simp; with_reducible rfl
          simp only [Act.put, List.setIfInBounds_toArray, List.set_cons_zero, List.set_cons_succ]
          refine take_in (i := 3) (oi := ⟨_, _, _, _, _, _⟩) (v := ?_) rfl (by kernel_rfl) (by kernel_rfl) (by kernel_rfl) (fun _ _ _ h => h) (by rfl) ?_ HS.out ?_
          rotate_left
          · intro W hW; obtain ⟨q0, q1⟩ := HQ.out W hW; go_simp; with_reducible rfl
          simp only [Act.put, List.setIfInBounds_toArray, List.set_cons_zero, List.set_cons_succ]
          refine take_in (i := 4) (oi := ⟨_, _, _, _, _, _⟩) (v := ?_) rfl (by kernel_rfl) (by kernel_rfl) (by kernel_rfl) (fun _ _ _ h => h) (by rfl) ?_ HS.out ?_
          rotate_left
          · intro W hW; obtain ⟨q0, q1⟩ := HQ.out W hW; go_simp; with_reducible rfl
          simp only [Act.put, List.setIfInBounds_toArray, List.set_cons_zero, List.set_cons_succ]
          refine wpAnyH_ready (rs := [5]) (by kernel_rfl) (by simp) ?_
          refine AllReadyH.cons (o := ⟨_, _, _, _, _, _⟩) rfl (fun K hK => ?_) AllReadyH.nil
          go_simp
          refine (HCL.out w5 (HB.out.trans (HC.out.mono HB.out.size))).mono ?_
          rintro e w6 ⟨A6, n6, c6, rfl, ho6, hb6⟩
          have HS := Lib.hid (show Sx w6 w.heap.size s ⟨A2, b.n, c2⟩ ⟨some ⟨g1, 0, none⟩, c.n, c3⟩ i ∧ w6.heap[gy]? = some (.cells #[.int .i64 (v.1 : Int), .int .i64 (v.2 : Int), .slice sl.a sl.n sl.c] 71) from ⟨HS.out.1.all hb6, (hb6.block _ (Array.getElem?_eq_some_iff.1 HS.out.2).1).trans HS.out.2⟩)
          have HN6 := Lib.hid (ho6.base (HB.out.trans (HC.out.mono HB.out.size)).size)
          have HC := Lib.hid (HC.out.trans (hb6.mono HC.out.size)); clear hb6 ho6
          refine hK.out _ _ HS.out (fun _ => ?_)
          clear hK K
          have HO6 := Lib.hid (HO.out.below HC.out (Nat.le_refl _))
          refine take_in (i := 6) (oi := ⟨_, _, _, _, _, _⟩) (v := ?_) rfl (by kernel_rfl) (by kernel_rfl) (by kernel_rfl) (fun _ _ _ h => h) (by rfl) ?_ HS.out ?_
          rotate_left
          · intro W hW; go_simp; with_reducible rfl
          simp only [Act.put, List.setIfInBounds_toArray, List.set_cons_zero, List.set_cons_succ]
          refine take_in (i := 7) (oi := ⟨_, _, _, _, _, _⟩) (v := ?_) rfl (by kernel_rfl) (by kernel_rfl) (by kernel_rfl) (fun _ _ _ h => h) (by rfl) ?_ HS.out ?_
          rotate_left
          · intro W hW; go_simp; with_reducible rfl
          simp only [Act.put, List.setIfInBounds_toArray, List.set_cons_zero, List.set_cons_succ]
          refine wpAnyH_ready (rs := [8]) (by kernel_rfl) (by simp) ?_
          refine AllReadyH.cons (o := ⟨_, _, _, _, _, _⟩) rfl (fun K hK => ?_) AllReadyH.nil
          obtain ⟨_, _, _, cur, hh6, hs6, _⟩ := HO6.out.row
          have hf := frozen_of_row w6 g1 (k * 3 + 2) _ _ hh6
          have hcp := HO6.out.cap
          obtain ⟨u6, hu6⟩ : ∃ u6, w6.cell? ⟨g1, k * 3 + 2, none⟩ = some u6 := ⟨_, by rw [cell_of_row _ _ _ _ _ _ hh6, Array.getElem?_eq_getElem (by rw [hs6]; show _ < c3 * 3; omega)]⟩
          have HR := Lib.hid (HO6.out.cell (j := 2) (u := .slice A6 n6 c6) (x' := (v, ⟨A6, n6, c6⟩)) HZX.out (by show 2 < 3; omega) rfl)
          rw [show KCs.k = 3 from rfl] at HR
          have hne := not_row HS.out.1 HO6.out (by decide)
          have hzn := not_row (HZ.out.all HC.out) HO6.out (by decide)
          have HHR : Hid (w6.heap[g1]? = some (.cells cur 71)) := Lib.hid hh6
          clear hh6 hs6 hcp
          go_simp
          refine hK.out _ _ ⟨HS.out.1.other hne _, (Below.heap_setCell w6 ⟨g1, k * 3 + 2, none⟩ _ gy HGY2.out).trans HS.out.2⟩ (fun _ => ?_)
          clear hK K hf hu6
          refine wpAnyH_done (by kernel_rfl) ?_ _
          have HX := Lib.hid (HS.out.1.other hne (.slice A6 n6 c6) (p := ⟨g1, k * 3 + 2, none⟩))
          have HZ := Lib.hid ((HZ.out.all HC.out).other hzn (.slice A6 n6 c6) (p := ⟨g1, k * 3 + 2, none⟩))
          have HBO := Lib.hid ((HBO.out.below HC.out).store (j := k * 3 + 2) HHR.out (by decide) (by decide) (.slice A6 n6 c6))
          have HB6 := Lib.hid (show Below w.heap.size w (w6.setCell ⟨g1, k * 3 + 2, none⟩ (.slice A6 n6 c6)) from (HB.out.trans (HC.out.mono HB.out.size)).setCell (HO6.out.2.lt g1 rfl).1 _)
          have HM := Lib.hid (MidC.step (sl := ⟨A6, n6, c6⟩) (jj := k * 3 + 2) (u := .slice A6 n6 c6) (HM.out.below HC.out) HZX.out HZL.out HSO.out.1 HHR.out HN6.out)
          clear HS HC HB HO HO6 HY hne hzn HHR HN6 HZX HZL
          generalize w6.setCell ⟨g1, k * 3 + 2, none⟩ (.slice A6 n6 c6) = w7 at HX HZ HR HM HB6 HBO ⊢
          go_wp2
          exact ⟨⟨_, k + 1, by go_num, by omega, HX.out, HR.out.1, HM.out, HZ.out, HB6.out, HBO.out⟩, by simp [intOf]; omega⟩
        · obtain rfl : k = c.n := by omega
          have HCO : Hid (RowsC wlC w.heap.size A3 c.n c3 xs s.cells) := Lib.hid ⟨HO.out, MidC.fin HM.out (by rw [← HM.out.1, ← HO.out.1])⟩
          clear HM HO h hk HCC HYB HYN
          obtain ⟨z0, z1, z2, z3, z4, z5, z6⟩ := HX.out.cs
          go_upto_region 14 with (refine (HCI.out wlC HB.out).mono ?_; rintro e w2 ⟨A4, n2, c4, rfl, ho2, hb2⟩; obtain ⟨q0, q1, q2, q3, q4, q5, q6⟩ := (HX.out.all hb2).cs; have hf0 := (HX.out.all hb2).frozen 2)
          have HIO := Lib.hid (show Rg.OwnG KI (w2.setCell ⟨w.heap.size, 2, none⟩ (.slice A4 n2 c4)) w.heap.size A4 n2 c4 s.ints from ⟨ho2.1, row_store (HX.out.all hb2) (ho2.base HB.out.size).2 (by decide) _⟩)
          have HBO := Lib.hid ((HBO.out.below hb2).store (j := 2) (HX.out.all hb2) (by decide) (by decide) (.slice A4 n2 c4))
          have HCO := Lib.hid ((HCO.out.below hb2).store (j := 2) (HX.out.all hb2) (by decide) (by decide) (.slice A4 n2 c4))
          have HX := Lib.hid (show Sx (w2.setCell ⟨w.heap.size, 2, none⟩ (.slice A4 n2 c4)) w.heap.size s ⟨A2, b.n, c2⟩ ⟨A3, c.n, c3⟩ ⟨A4, n2, c4⟩ from (HX.out.all hb2).put1 2 (.slice A4 n2 c4) _ _ _ _ rfl)
          have HZ := Lib.hid (show Sx (w2.setCell ⟨w.heap.size, 2, none⟩ (.slice A4 n2 c4)) gz zeroSt nilS nilS nilS from (HZ.out.all hb2).other HNE2.out _)
          have HB := Lib.hid (show Below w.heap.size w (w2.setCell ⟨w.heap.size, 2, none⟩ (.slice A4 n2 c4)) from (HB.out.trans (hb2.mono HB.out.size)).setCell HGX.out _)
          clear hb2 ho2 z0 z1 z2 z3 z4 z5 z6 q0 q1 q2 q3 q4 q5 q6 hf0 HCI
          generalize (w2.setCell ⟨w.heap.size, 2, none⟩ (.slice A4 n2 c4)) = wf at HIO HBO HCO HX HZ HB ⊢
          obtain ⟨z0, z1, z2, z3, z4, z5, z6⟩ := HX.out.cs
          obtain ⟨q0, q1, q2, q3, q4, q5, q6⟩ := HZ.out.cs
          have f0 := HZ.out.frozen 0; have f1 := HZ.out.frozen 1; have f2 := HZ.out.frozen 2; have f3 := HZ.out.frozen 3; have f4 := HZ.out.frozen 4; have f5 := HZ.out.frozen 5; have f6 := HZ.out.frozen 6
          have HPP := Lib.hid (Ors.put (W := wf) (base := w.heap.size) (s := s) (b := ⟨A2, b.n, c2⟩) (c := ⟨A3, c.n, c3⟩) (i := ⟨A4, n2, c4⟩) (xs := xsB) (ys := xs) ⟨HBO.out, HCO.out, HIO.out⟩ HZ.out s ⟨A2, b.n, c2⟩ ⟨A3, c.n, c3⟩ ⟨A4, n2, c4⟩)
          have HBF := Lib.hid (show Below w.heap.size w (((((((wf.setCell ⟨gz, 0, none⟩ (.slice A2 b.n c2)).setCell ⟨gz, 1, none⟩ (.slice A3 c.n c3)).setCell ⟨gz, 2, none⟩ (.slice A4 n2 c4)).setCell ⟨gz, 3, none⟩ (.int .i64 (s.held.1 : Int))).setCell ⟨gz, 4, none⟩ (.int .i64 (s.held.2 : Int))).setCell ⟨gz, 5, none⟩ (.int .i64 s.inc)).setCell ⟨gz, 6, none⟩ (.int .i64 s.last)) from (((((((HB.out.setCell HGZ.out _).setCell HGZ.out _).setCell HGZ.out _).setCell HGZ.out _).setCell HGZ.out _).setCell HGZ.out _).setCell HGZ.out _))
          go_wp2
          refine bodyPost_ret (results_state (g := gz) (s := s) (b := ⟨A2, b.n, c2⟩) (c := ⟨A3, c.n, c3⟩) (i := ⟨A4, n2, c4⟩) rfl rfl HPP.out.2) rfl ?_
          exact ⟨_, _, _, _, _, rfl, HPP.out.1, HBF.out⟩
end Go.Proofs.YtfblnomkafimhaaGreat.Fow

namespace Go.Proofs.YtfblnomkafimhaaGreat.Fow
set_option maxRecDepth 20000
open Go.RowKit
open Chg Vw Cl Bk Lg Fo Clw Bkw
open Lgw (rvv Rx KR Sr Elv elv_at)
open Chgw (hat hbe vw ret_bool ret_i64 Vx)
open Rg (bal)

set_option maxHeartbeats 8000000 in
theorem apply_c (s : St) (b c i : Sl) (w : World) (h : Sto w s b c i) (hw : WfS s) (r : R) (hr : OkR r) : Calls Tryz.prog 32 #[stv s b c i, rvv r] w (RetOw w (applyS s r)) := by
  have hsf := Lgw.store_flt
  have HCP := Lib.hid (fun W hW => copy_c s b c i W (h.all hW) hw)
  have HW := Lib.hid hw; have HR := Lib.hid hr
  clear h hw hr
  unfold stv at HCP
  unfold stv rvv
  go_enter Tryz.func32, Tryz.ntmps32
  go_upto_region 1 with (fail)
  have HX := Lib.hid (show Sx (((w.alloc (.cells #[.slice b.a b.n b.c, .slice c.a c.n c.c, .slice i.a i.n i.c, .int .i64 (s.held.1 : Int), .int .i64 (s.held.2 : Int), .int .i64 s.inc, .int .i64 s.last] 28)).alloc (.cells #[.int .i64 r.kind, .int .i64 r.va, .int .i64 r.vd, .int .i64 r.cn, .int .i64 r.ca, .int .i64 r.cd, .int .i64 r.e.key, .int .i64 r.e.num, .int .i64 r.e.node, .float .f64 r.e.val, .int .i64 r.n] 60)).alloc (.cells #[.slice none 0 0, .slice none 0 0, .slice none 0 0, .int .i64 0, .int .i64 0, .int .i64 0, .int .i64 0] 28)) w.heap.size s b c i from hbe (hbe (hat _ _ _ rfl)))
  have HXR := Lib.hid (show Rx (((w.alloc (.cells #[.slice b.a b.n b.c, .slice c.a c.n c.c, .slice i.a i.n i.c, .int .i64 (s.held.1 : Int), .int .i64 (s.held.2 : Int), .int .i64 s.inc, .int .i64 s.last] 28)).alloc (.cells #[.int .i64 r.kind, .int .i64 r.va, .int .i64 r.vd, .int .i64 r.cn, .int .i64 r.ca, .int .i64 r.cd, .int .i64 r.e.key, .int .i64 r.e.num, .int .i64 r.e.node, .float .f64 r.e.val, .int .i64 r.n] 60)).alloc (.cells #[.slice none 0 0, .slice none 0 0, .slice none 0 0, .int .i64 0, .int .i64 0, .int .i64 0, .int .i64 0] 28)) (w.heap.size + 1) r from hbe (hat _ _ _ (by simp)))
  have HZ := Lib.hid (show Sx (((w.alloc (.cells #[.slice b.a b.n b.c, .slice c.a c.n c.c, .slice i.a i.n i.c, .int .i64 (s.held.1 : Int), .int .i64 (s.held.2 : Int), .int .i64 s.inc, .int .i64 s.last] 28)).alloc (.cells #[.int .i64 r.kind, .int .i64 r.va, .int .i64 r.vd, .int .i64 r.cn, .int .i64 r.ca, .int .i64 r.cd, .int .i64 r.e.key, .int .i64 r.e.num, .int .i64 r.e.node, .float .f64 r.e.val, .int .i64 r.n] 60)).alloc (.cells #[.slice none 0 0, .slice none 0 0, .slice none 0 0, .int .i64 0, .int .i64 0, .int .i64 0, .int .i64 0] 28)) (w.heap.size + 1 + 1) zeroSt nilS nilS nilS from hat _ _ _ (by simp))
  have HB := Lib.hid (bal (bal (bal (Below.refl w.heap.size w) (Nat.le_refl _) (.cells #[.slice b.a b.n b.c, .slice c.a c.n c.c, .slice i.a i.n i.c, .int .i64 (s.held.1 : Int), .int .i64 (s.held.2 : Int), .int .i64 s.inc, .int .i64 s.last] 28)) (Nat.le_refl _) (.cells #[.int .i64 r.kind, .int .i64 r.va, .int .i64 r.vd, .int .i64 r.cn, .int .i64 r.ca, .int .i64 r.cd, .int .i64 r.e.key, .int .i64 r.e.num, .int .i64 r.e.node, .float .f64 r.e.val, .int .i64 r.n] 60)) (Nat.le_refl _) (.cells #[.slice none 0 0, .slice none 0 0, .slice none 0 0, .int .i64 0, .int .i64 0, .int .i64 0, .int .i64 0] 28))
  generalize ((w.alloc (.cells #[.slice b.a b.n b.c, .slice c.a c.n c.c, .slice i.a i.n i.c, .int .i64 (s.held.1 : Int), .int .i64 (s.held.2 : Int), .int .i64 s.inc, .int .i64 s.last] 28)).alloc (.cells #[.int .i64 r.kind, .int .i64 r.va, .int .i64 r.vd, .int .i64 r.cn, .int .i64 r.ca, .int .i64 r.cd, .int .i64 r.e.key, .int .i64 r.e.num, .int .i64 r.e.node, .float .f64 r.e.val, .int .i64 r.n] 60)).alloc (.cells #[.slice none 0 0, .slice none 0 0, .slice none 0 0, .int .i64 0, .int .i64 0, .int .i64 0, .int .i64 0] 28) = w1 at HX HXR HZ HB ⊢
  have HGZ := Lib.hid (show w.heap.size ≤ w.heap.size + 1 + 1 by omega)
  generalize w.heap.size + 1 + 1 = gz at HZ HGZ ⊢
  generalize w.heap.size + 1 = gr at HXR ⊢
  obtain ⟨z0, z1, z2, z3, z4, z5, z6⟩ := HX.out.cs
  go_wp2_with fail
  refine (HCP.out w1 HB.out).mono ?_
  rintro e w2 ⟨b2, c2, i2, xs, ys, rfl, ho2, hb2⟩
  have HO := Lib.hid (ho2.base HB.out.size); clear ho2
  have HB2 := Lib.hid hb2; clear hb2
  clear z0 z1 z2 z3 z4 z5 z6
  unfold stv
  go_upto_region 2 with (fail)
  have hb2 := HB2.out; clear HB2
  have HXR := Lib.hid (HXR.out.all hb2); have HZ := Lib.hid (HZ.out.all hb2); have HB := Lib.hid (HB.out.trans (hb2.mono HB.out.size))
  clear HX hb2 HCP
  have HX := Lib.hid (show Sx (w2.alloc (.cells #[.slice b2.a b2.n b2.c, .slice c2.a c2.n c2.c, .slice i2.a i2.n i2.c, .int .i64 (s.held.1 : Int), .int .i64 (s.held.2 : Int), .int .i64 s.inc, .int .i64 s.last] 28)) w2.heap.size s b2 c2 i2 from hat _ _ _ rfl)
  have hbx := bal (Below.refl w2.heap.size w2) (Nat.le_refl _) (.cells #[.slice b2.a b2.n b2.c, .slice c2.a c2.n c2.c, .slice i2.a i2.n i2.c, .int .i64 (s.held.1 : Int), .int .i64 (s.held.2 : Int), .int .i64 s.inc, .int .i64 s.last] 28)
  have HNE := Lib.hid (show gz ≠ w2.heap.size from Nat.ne_of_lt HZ.out.lt)
  have HGS := Lib.hid HB.out.size
  have HO := Lib.hid (HO.out.below hbx); have HXR := Lib.hid (HXR.out.all hbx); have HZ := Lib.hid (HZ.out.all hbx); have HB := Lib.hid (HB.out.trans (hbx.mono HB.out.size))
  clear hbx
  generalize w2.alloc (.cells #[.slice b2.a b2.n b2.c, .slice c2.a c2.n c2.c, .slice i2.a i2.n i2.c, .int .i64 (s.held.1 : Int), .int .i64 (s.held.2 : Int), .int .i64 s.inc, .int .i64 s.last] 28) = w3 at HX HO HXR HZ HB ⊢
  generalize w2.heap.size = gs at HX HNE HGS ⊢
  obtain ⟨y0, y1, y2, y3, y4, y5, y6, y7, y8, y9, y10⟩ := HXR.out.cs
  have HADD := Lib.hid (add_c gs s b2 c2 i2 xs ys w.heap.size w3 HX.out HO.out HW.out r HR.out HB.out.size)
  unfold rvv at HADD
  go_wp2_with fail
  refine HADD.out.mono ?_
  rintro e w5 ⟨rfl, b', c', i', xs', ys', hx', ho', hf'⟩
  have HZ := Lib.hid (show Sx w5 gz zeroSt nilS nilS nilS from hf'.keep HZ.out ⟨HNE.out, HO.out.blk HZ.out (by decide) (by decide) (by decide)⟩)
  have HB := Lib.hid (hf'.belowB HB.out (Nat.le_refl _) (HO.out.past HGS.out))
  have HX := Lib.hid hx'; have HO := Lib.hid ho'
  clear hx' ho' hf' HADD y0 y1 y2 y3 y4 y5 y6 y7 y8 y9 y10 HXR
  generalize hsf2 : applyS s r = sf at HX HO
  have HSF := Lib.hid hsf2; clear hsf2
  obtain ⟨z0, z1, z2, z3, z4, z5, z6⟩ := HX.out.cs
  obtain ⟨q0, q1, q2, q3, q4, q5, q6⟩ := HZ.out.cs
  have f0 := HZ.out.frozen 0; have f1 := HZ.out.frozen 1; have f2 := HZ.out.frozen 2; have f3 := HZ.out.frozen 3; have f4 := HZ.out.frozen 4; have f5 := HZ.out.frozen 5; have f6 := HZ.out.frozen 6
  have HPP := Lib.hid (HO.out.put HZ.out sf b' c' i')
  have HBF := Lib.hid (show Below w.heap.size w (((((((w5.setCell ⟨gz, 0, none⟩ (.slice b'.a b'.n b'.c)).setCell ⟨gz, 1, none⟩ (.slice c'.a c'.n c'.c)).setCell ⟨gz, 2, none⟩ (.slice i'.a i'.n i'.c)).setCell ⟨gz, 3, none⟩ (.int .i64 (sf.held.1 : Int))).setCell ⟨gz, 4, none⟩ (.int .i64 (sf.held.2 : Int))).setCell ⟨gz, 5, none⟩ (.int .i64 sf.inc)).setCell ⟨gz, 6, none⟩ (.int .i64 sf.last)) from (((((((HB.out.setCell HGZ.out _).setCell HGZ.out _).setCell HGZ.out _).setCell HGZ.out _).setCell HGZ.out _).setCell HGZ.out _).setCell HGZ.out _))
  go_wp2
  refine bodyPost_ret (results_state (g := gz) (s := sf) (b := b') (c := c') (i := i') rfl rfl HPP.out.2) rfl ?_
  refine ⟨b', c', i', xs', ys', ?_, ?_, HBF.out⟩
  · rw [HSF.out]
  · rw [HSF.out]; exact HPP.out.1
end Go.Proofs.YtfblnomkafimhaaGreat.Fow
