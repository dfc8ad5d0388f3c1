/- Contracts and words on which the claims of this seat stand, part 39: FoKI FoLI FoMI FoMsI. -/
import Derived.Test.YtfblnomkafimhaaGreatG24
import Derived.Test.YtfblnomkafimhaaGreatG34
import Derived.Shelf.Spec.SlicesInsert
import Derived.Lib.AppendZerosOnto
import Derived.Laws.NewBlocks
set_option linter.unusedSimpArgs false
set_option linter.unusedVariables false
namespace Go.Proofs.YtfblnomkafimhaaGreat.Fow
set_option maxRecDepth 20000
open Go.RowKit
open Chg Vw Cl Bk Lg Fo Clw Bkw
open Chgw (hat hbe vw ret_bool ret_i64 Vx)
open Rg (bal)

abbrev XI := (Nat × Nat) × (Nat × Nat)
def elI (x : XI) : Value := .agg (KI.cells x).toArray
def vofI : Value := .func (.func 79) #[] #[]
def shvI (s : Sl) : Value := .agg #[.slice s.a s.n s.c, vofI]
def shxI (s : Sl) : Obj := .cells #[.slice s.a s.n s.c, vofI] 79
theorem results_shI {fn : Func} {p : Tmp} {w : World} {g : Nat} {s : Sl} (h : fn.results = #[.cell p 79]) {tmps : Array Value} (hp : tmps.getD p undef = .pointer (some ⟨g, 0, none⟩)) (hv : w.heap[g]? = some (shxI s)) : (results fn tmps).run Tryz.prog w = .ok (shvI s) w := by
  obtain ⟨z0, z1⟩ := cells2 hv
  have u3 := Tryz.sizeOf79
  have hp' : tmps[p]?.getD undef = .pointer (some ⟨g, 0, none⟩) := by rw [← hp, Array.getD_eq_getD_getElem?]
  unfold results shvI
  simp only [h]
  simp [hp', go_sem, z0, z1]
theorem store_fnI (a : Addr) (m : Mode) (w : World) (f : Fn) (l b : Array Value) : (store a (.func f l b) m).run Tryz.prog w = stored Tryz.prog w a (.func f l b) m := run_store _ w a _ m rfl
theorem viewof_I (x : XI) (w : World) : Calls Tryz.prog 79 #[elI x] w fun e w' => e = .returned (vw (x.1.1 : Int) (x.1.2 : Int)) ∧ Below w.heap.size w w' := by
  obtain ⟨⟨va, vd⟩, ⟨sa, sd⟩⟩ := x
  show Calls Tryz.prog 79 #[.agg #[.int .i64 (va : Int), .int .i64 (vd : Int), .int .i64 (sa : Int), .int .i64 (sd : Int)]] w _
  unfold vw
  go_enter Tryz.func79, Tryz.ntmps79
  go_wp2
  refine bodyPost_ret (Chgw.results_view (g := w.heap.size + 1) (a := va) (d := vd) rfl rfl (hat _ _ _ (by simp))) rfl ?_
  exact ⟨rfl, bal (bal (Below.refl _ _) (Nat.le_refl _) _) (Nat.le_refl _) _⟩
theorem newshelf_I (s : Sl) (w : World) : Calls Tryz.prog 78 #[.slice s.a s.n s.c, vofI] w fun e w' => e = .returned (shvI s) ∧ Below w.heap.size w w' := by
  have hsf := store_fnI
  unfold vofI
  go_enter Tryz.func78, Tryz.ntmps78
  go_wp2
  refine bodyPost_ret (results_shI (g := w.heap.size) (s := s) rfl rfl (hat _ _ _ rfl)) rfl ?_
  exact ⟨rfl, bal (Below.refl _ _) (Nat.le_refl _) _⟩
theorem shelf_I (s : St) (b c i : Sl) (w : World) : Calls Tryz.prog 39 #[stv s b c i] w fun e w' => e = .returned (shvI i) ∧ Below w.heap.size w w' := by
  have HS := Lib.hid (newshelf_I i)
  unfold vofI at HS
  have hsf := store_fnI
  unfold stv
  go_enter Tryz.func39, Tryz.ntmps39
  go_wp2_with fail
  have HB := Lib.hid (bal (bal (Below.refl w.heap.size w) (Nat.le_refl _) (.cells #[.slice b.a b.n b.c, .slice c.a c.n c.c, .slice i.a i.n i.c, .int .i64 (s.held.1 : Int), .int .i64 (s.held.2 : Int), .int .i64 s.inc, .int .i64 s.last] 28)) (Nat.le_refl _) (.cells #[.slice none 0 0, .nilFunc] 79))
  have HZ := Lib.hid (show ((w.alloc (.cells #[.slice b.a b.n b.c, .slice c.a c.n c.c, .slice i.a i.n i.c, .int .i64 (s.held.1 : Int), .int .i64 (s.held.2 : Int), .int .i64 s.inc, .int .i64 s.last] 28)).alloc (.cells #[.slice none 0 0, .nilFunc] 79)).heap[w.heap.size + 1]? = some (.cells #[.slice none 0 0, .nilFunc] 79) from hat _ _ _ (by simp))
  generalize ((w.alloc (.cells #[.slice b.a b.n b.c, .slice c.a c.n c.c, .slice i.a i.n i.c, .int .i64 (s.held.1 : Int), .int .i64 (s.held.2 : Int), .int .i64 s.inc, .int .i64 s.last] 28)).alloc (.cells #[.slice none 0 0, .nilFunc] 79)) = w1 at HB HZ ⊢
  refine (HS.out w1).mono ?_
  rintro e w2 ⟨rfl, hb2⟩
  have hlt : w.heap.size + 1 < w1.heap.size := (Array.getElem?_eq_some_iff.1 HZ.out).1
  have HZ2 := Lib.hid ((hb2.block (w.heap.size + 1) hlt).trans HZ.out)
  obtain ⟨z0, z1⟩ := cells2 HZ2.out
  have f0 := frozen_of_row w2 (w.heap.size + 1) 0 _ _ HZ2.out
  have f1 := frozen_of_row w2 (w.heap.size + 1) 1 _ _ HZ2.out
  have HB := Lib.hid (HB.out.trans (hb2.mono HB.out.size)); clear hb2
  unfold shvI
  unfold vofI
  go_wp2
  refine bodyPost_ret (results_shI (g := w.heap.size + 1) (s := i) rfl rfl ?_) rfl ?_
  · unfold shxI vofI
    rw [heap_setCell_same _ _ _ _ _ _ (heap_setCell_same _ _ _ _ _ _ HZ2.out)]
    rfl
  exact ⟨rfl, (HB.out.setCell (by simp) _).setCell (by simp) _⟩
set_option maxHeartbeats 1000000 in
theorem key_I (x : XI) (hx : V64 x.1) (m : Nat) (g : Nat) (w : World) (hg : w.cell? ⟨g, 1, none⟩ = some vofI) (hl : g < w.heap.size) : Calls Tryz.prog 117 #[elI x, .int .i64 (m : Int), .pointer (some ⟨g, 0, none⟩)] w fun e w' => e = .returned (.int .i64 (cmpI ((name2 x.1 : Nat) : Int) (m : Int))) ∧ Below w.heap.size w w' := by
  have HV := Lib.hid (viewof_I x)
  have HN := Lib.hid (fun W => Chgw.name_c x.1.1 x.1.2 hx.1 hx.2 W)
  have HE : Hid (∀ a, ((64 * x.1.1 + x.1.2 : Nat) : Int) = a → cmpI a (m : Int) = cmpI ((name2 x.1 : Nat) : Int) (m : Int)) := Lib.hid (fun a h => by rw [← h]; rfl)
  generalize cmpI ((name2 x.1 : Nat) : Int) (m : Int) = r at HE ⊢
  generalize ((64 * x.1.1 + x.1.2 : Nat) : Int) = nm at HN HE
  have HR := Lib.hid (HE.out nm rfl); clear HE
  obtain ⟨⟨va, vd⟩, ⟨sa, sd⟩⟩ := x
  simp only at HV HN
  unfold vw at HV HN
  rw [show elI (⟨⟨va, vd⟩, ⟨sa, sd⟩⟩ : XI) = .agg #[.int .i64 (va : Int), .int .i64 (vd : Int), .int .i64 (sa : Int), .int .i64 (sd : Int)] from rfl] at HV
  unfold vofI at hg
  have hg2 : (w.alloc (.cells #[.int .i64 (va : Int), .int .i64 (vd : Int), .int .i64 (sa : Int), .int .i64 (sd : Int)] 73)).cell? ⟨g, 1, none⟩ = some (.func (.func 79) #[] #[]) := ((bal (Below.refl w.heap.size w) (Nat.le_refl _) _).cell (by show g < _; omega)).trans hg
  clear hg
  show Calls Tryz.prog 117 #[.agg #[.int .i64 (va : Int), .int .i64 (vd : Int), .int .i64 (sa : Int), .int .i64 (sd : Int)], .int .i64 (m : Int), .pointer (some ⟨g, 0, none⟩)] w _
  go_enter Tryz.func117, Tryz.ntmps117
  go_wp2_with fail
  have HB := Lib.hid (bal (Below.refl w.heap.size w) (Nat.le_refl _) (.cells #[.int .i64 (va : Int), .int .i64 (vd : Int), .int .i64 (sa : Int), .int .i64 (sd : Int)] 73))
  generalize w.alloc (.cells #[.int .i64 (va : Int), .int .i64 (vd : Int), .int .i64 (sa : Int), .int .i64 (sd : Int)] 73) = w1 at HB hg2 ⊢
  refine (HV.out w1).mono ?_
  rintro e w2 ⟨rfl, hb⟩
  have HB := Lib.hid (HB.out.trans (hb.mono HB.out.size)); clear hb hg2
  go_wp2_with fail
  refine (HN.out w2).mono ?_
  rintro e w3 ⟨rfl, hb⟩
  have HB := Lib.hid (HB.out.trans (hb.mono HB.out.size)); clear hb
  go_wp2_with fail
  refine (Chgw.cmp_c nm (m : Int) w3).mono ?_
  rintro e w4 ⟨rfl, rfl⟩
  rw [HR.out]
  go_wp2
  go_ret
  exact ⟨rfl, HB.out⟩
set_option maxHeartbeats 2000000 in
theorem search_I (A : Option Addr) (n c : Nat) (xs : List XI) (hn : n = xs.length) (hl : n ≤ 4096) (hs : Sd xs) (ha : A64 xs) (m g B : Nat) (w : World) (hr : Rg.Rs KI w B A xs) (hB : B ≤ w.heap.size) (hg : w.cell? ⟨g, 1, none⟩ = some vofI) (hgl : g < w.heap.size) :
    Calls Tryz.prog 115 #[.slice A n c, .int .i64 (m : Int), .func (.func 117) #[] #[.pointer (some ⟨g, 0, none⟩)]] w fun e w' => ∃ p, e = .returned (.tuple #[.int .i64 ((p : Nat) : Int), .bool (hitN xs m p)]) ∧ Cut xs m p ∧ Below w.heap.size w w' := by
  have HN := Lib.hid hn; clear hn
  have HR := Lib.hid hr; clear hr
  have HSD := Lib.hid hs; have HA := Lib.hid ha; clear hs ha
  have HKEY : Hid (∀ x W, Below w.heap.size w W → V64 x.1 → Calls Tryz.prog 117 #[elI x, .int .i64 (m : Int), .pointer (some ⟨g, 0, none⟩)] W fun e w' => e = .returned (.int .i64 (cmpI ((name2 x.1 : Nat) : Int) (m : Int))) ∧ Below W.heap.size W w') := Lib.hid (fun x W hW hv => key_I x hv m g W ((hW.cell (by show g < _; exact hgl)).trans hg) (Nat.lt_of_lt_of_le hgl hW.size))
  clear hg hgl
  go_enter Tryz.func115, Tryz.ntmps115
  go_wp2
  go_loopw [9, 10] (fun i j wr => ∃ lo hi : Nat, i = .int .i64 lo ∧ j = .int .i64 hi ∧ lo ≤ hi ∧ hi ≤ n ∧ (∀ (t : Nat) x, t < lo → xs[t]? = some x → name2 x.1 < m) ∧ (∀ (t : Nat) x, hi ≤ t → xs[t]? = some x → m ≤ name2 x.1) ∧ Below w.heap.size w wr) (fun i j _ => (intOf j).toNat - (intOf i).toNat)
  case atStart => exact ⟨0, n, rfl, rfl, by omega, by omega, fun t x ht _ => absurd ht (by omega), fun t x ht hx => by rw [HN.out, List.getElem?_eq_none (by rw [HN.out] at ht; omega)] at * <;> simp_all, Below.refl _ _⟩
  case round =>
    obtain ⟨lo, hi, rfl, rfl, hlh, hhn, h1, h2, hb⟩ := hrel
    have H1 := Lib.hid h1; have H2 := Lib.hid h2; have HB := Lib.hid hb
    clear h1 h2 hb
    by_cases hlt : lo < hi
    · have hk : (lo + hi) / 2 < n := by omega
      obtain ⟨b, o, rfl, hbB, hcell⟩ := HR.out (by rw [← HN.out]; omega)
      have hkl : (lo + hi) / 2 < xs.length := by rw [← HN.out]; exact hk
      have hz : xs[(lo + hi) / 2]? = some xs[(lo + hi) / 2] := List.getElem?_eq_getElem hkl
      have hc0 := (hcell _ _ hz).below (HB.out.mono hB) hbB
      have hv := HA.out _ (List.getElem_mem hkl)
      generalize xs[(lo + hi) / 2] = x at hz hc0 hv
      have HK := Lib.hid (HKEY.out x wr HB.out hv)
      have HZ := Lib.hid hz
      have HX : Hid (∀ t y, t ≤ (lo + hi) / 2 → xs[t]? = some y → name2 y.1 ≤ name2 x.1) := Lib.hid (fun t y ht hy => by
        rcases Nat.lt_or_ge t ((lo + hi) / 2) with h' | h'
        · exact Nat.le_of_lt (sd_get HSD.out hy HZ.out h')
        · obtain rfl : t = (lo + hi) / 2 := by omega
          rw [HZ.out] at hy
          cases hy
          exact Nat.le_refl _)
      have HY : Hid (∀ t y, (lo + hi) / 2 ≤ t → xs[t]? = some y → name2 x.1 ≤ name2 y.1) := Lib.hid (fun t y ht hy => by
        rcases Nat.lt_or_ge ((lo + hi) / 2) t with h' | h'
        · exact Nat.le_of_lt (sd_get HSD.out HZ.out hy h')
        · obtain rfl : t = (lo + hi) / 2 := by omega
          rw [HZ.out] at hy
          cases hy
          exact Nat.le_refl _)
      have x0 := hc0 0 _ rfl; have x1 := hc0 1 _ rfl; have x2 := hc0 2 _ rfl; have x3 := hc0 3 _ rfl
      rw [show KI.k = 4 from rfl] at x0 x1 x2 x3
      clear hz hc0 hcell hkl hv
      by_cases hc : name2 x.1 < m
      · have hq : cmpI ((name2 x.1 : Nat) : Int) (m : Int) = -1 := by unfold cmpI; rw [if_pos (by omega)]
        rw [hq] at HK
        have HC := Lib.hid hc; clear hq hc
        obtain ⟨⟨va, vd⟩, ⟨sa, sd⟩⟩ := x
        rw [show elI (⟨⟨va, vd⟩, ⟨sa, sd⟩⟩ : XI) = .agg #[.int .i64 (va : Int), .int .i64 (vd : Int), .int .i64 (sa : Int), .int .i64 (sd : Int)] from rfl] at HK
        simp only [Nat.add_zero] at x0 x1 x2 x3
        go_wp2_with fail
        refine HK.out.mono ?_
        rintro e w2 ⟨rfl, hb2⟩
        have HB := Lib.hid (HB.out.trans (hb2.mono HB.out.size)); clear hb2 x0 x1 x2 x3
        go_wp2
        refine ⟨⟨(lo + hi) / 2 + 1, hi, by go_num, rfl, by omega, hhn, fun t y ht hy => Nat.lt_of_le_of_lt (HX.out t y (by omega) hy) HC.out, H2.out, HB.out⟩, by simp [intOf]; omega⟩
      · have HC := Lib.hid hc
        obtain ⟨r, hr0, hr⟩ : ∃ r, cmpI ((name2 x.1 : Nat) : Int) (m : Int) = r ∧ ¬ r < 0 := ⟨_, rfl, by unfold cmpI; rw [if_neg (by omega)]; split <;> omega⟩
        rw [hr0] at HK
        clear hc hr0
        obtain ⟨⟨va, vd⟩, ⟨sa, sd⟩⟩ := x
        rw [show elI (⟨⟨va, vd⟩, ⟨sa, sd⟩⟩ : XI) = .agg #[.int .i64 (va : Int), .int .i64 (vd : Int), .int .i64 (sa : Int), .int .i64 (sd : Int)] from rfl] at HK
        simp only [Nat.add_zero] at x0 x1 x2 x3
        go_wp2_with fail
        refine HK.out.mono ?_
        rintro e w2 ⟨rfl, hb2⟩
        have HB := Lib.hid (HB.out.trans (hb2.mono HB.out.size)); clear hb2 x0 x1 x2 x3
        go_wp2
        refine ⟨⟨lo, (lo + hi) / 2, rfl, by go_num, by omega, by omega, H1.out, fun t y ht hy => Nat.le_trans (by have := HC.out; omega) (HY.out t y ht hy), HB.out⟩, by simp [intOf]; omega⟩
    · obtain rfl : lo = hi := by omega
      have HCUT : Hid (Cut xs m lo) := Lib.hid ⟨by rw [← HN.out]; exact hhn, H1.out, H2.out⟩
      clear H1 H2
      by_cases hk : lo < n
      · obtain ⟨b, o, rfl, hbB, hcell⟩ := HR.out (by rw [← HN.out]; omega)
        have hkl : lo < xs.length := by rw [← HN.out]; exact hk
        have hz : xs[lo]? = some xs[lo] := List.getElem?_eq_getElem hkl
        have hc0 := (hcell _ _ hz).below (HB.out.mono hB) hbB
        have hv := HA.out _ (List.getElem_mem hkl)
        generalize xs[lo] = x at hz hc0 hv
        have HK := Lib.hid (HKEY.out x wr HB.out hv)
        have HH : Hid (hitN xs m lo = decide (name2 x.1 = m)) := Lib.hid (by unfold hitN; rw [hz])
        have x0 := hc0 0 _ rfl; have x1 := hc0 1 _ rfl; have x2 := hc0 2 _ rfl; have x3 := hc0 3 _ rfl
        rw [show KI.k = 4 from rfl] at x0 x1 x2 x3
        clear hz hc0 hcell hkl hv
        obtain ⟨r, hr0, hr⟩ : ∃ r, cmpI ((name2 x.1 : Nat) : Int) (m : Int) = r ∧ (r == 0) = decide (name2 x.1 = m) := ⟨_, rfl, by
          unfold cmpI
          by_cases e : name2 x.1 = m
          · rw [if_neg (by omega), if_neg (by omega), decide_eq_true e]; rfl
          · rw [decide_eq_false e]
            split
            · rfl
            · rw [if_pos (by omega)]; rfl⟩
        rw [hr0] at HK
        rw [← hr] at HH
        clear hr0 hr
        obtain ⟨⟨va, vd⟩, ⟨sa, sd⟩⟩ := x
        rw [show elI (⟨⟨va, vd⟩, ⟨sa, sd⟩⟩ : XI) = .agg #[.int .i64 (va : Int), .int .i64 (vd : Int), .int .i64 (sa : Int), .int .i64 (sd : Int)] from rfl] at HK
        simp only [Nat.add_zero] at x0 x1 x2 x3
        go_wp2_with fail
        refine HK.out.mono ?_
        rintro e w2 ⟨rfl, hb2⟩
        have HB := Lib.hid (HB.out.trans (hb2.mono HB.out.size)); clear hb2 x0 x1 x2 x3
        cases hq : (r == 0) with
        | true => rw [hq] at HH; go_wp2; go_ret2; exact ⟨lo, by (rw [HH.out]; first | done | rfl), HCUT.out, HB.out⟩
        | false => rw [hq] at HH; go_wp2; go_ret2; exact ⟨lo, by (rw [HH.out]; first | done | rfl), HCUT.out, HB.out⟩
      · have HH : Hid (hitN xs m lo = false) := Lib.hid (by unfold hitN; rw [List.getElem?_eq_none (by rw [← HN.out]; omega)])
        go_wp2
        go_ret2
        exact ⟨lo, by (rw [HH.out]; first | done | rfl), HCUT.out, HB.out⟩
end Go.Proofs.YtfblnomkafimhaaGreat.Fow

namespace Go.Proofs.YtfblnomkafimhaaGreat.Fow
set_option maxRecDepth 20000
open Go.RowKit
open Chg Vw Cl Bk Lg Fo Clw Bkw
open Chgw (hat hbe vw ret_bool ret_i64 Vx)
open Rg (bal)

set_option maxHeartbeats 2000000 in
theorem place_I (s : Sl) (xs : List XI) (v : Nat × Nat) (hv : V64 v) (hn : s.n = xs.length) (hl : s.n ≤ 4096) (hs : Sd xs) (ha : A64 xs) (B : Nat) (w : World) (hr : Rg.Rs KI w B s.a xs) (hB : B ≤ w.heap.size) :
    Calls Tryz.prog 80 #[shvI s, vw (v.1 : Int) (v.2 : Int)] w fun e w' => ∃ p, e = .returned (.tuple #[.int .i64 ((p : Nat) : Int), .bool (hitN xs (name2 v) p)]) ∧ Cut xs (name2 v) p ∧ Below w.heap.size w w' := by
  have HSR : Hid (∀ g W, Below w.heap.size w W → W.cell? ⟨g, 1, none⟩ = some vofI → g < W.heap.size → Calls Tryz.prog 115 #[.slice s.a s.n s.c, .int .i64 ((name2 v : Nat) : Int), .func (.func 117) #[] #[.pointer (some ⟨g, 0, none⟩)]] W fun e w' => ∃ p, e = .returned (.tuple #[.int .i64 ((p : Nat) : Int), .bool (hitN xs (name2 v) p)]) ∧ Cut xs (name2 v) p ∧ Below W.heap.size W w') := Lib.hid (fun g W hW hg hgl => search_I s.a s.n s.c xs hn hl hs ha (name2 v) g B W (hr.below (hW.mono hB)) (Nat.le_trans hB hW.size) hg hgl)
  have HN : Hid (∀ W, Calls Tryz.prog 116 #[vw (v.1 : Int) (v.2 : Int)] W fun e w' => e = .returned (.int .i64 ((name2 v : Nat) : Int)) ∧ Below W.heap.size W w') := Lib.hid (fun W => Chgw.name_c v.1 v.2 hv.1 hv.2 W)
  generalize name2 v = m at HSR HN ⊢
  clear hn hl hs ha hr hv
  obtain ⟨va, vd⟩ := v
  obtain ⟨sa, sn, sc⟩ := s
  simp only at HSR HN ⊢
  unfold vw at HN
  unfold shvI vofI vw
  simp only
  have hsf := store_fnI
  go_enter Tryz.func80, Tryz.ntmps80
  go_upto_region 1 with (fail)
  have HX := Lib.hid (show ((w.alloc (shxI ⟨sa, sn, sc⟩)).alloc (.cells #[.int .i64 (va : Int), .int .i64 (vd : Int)] 26)).heap[w.heap.size]? = some (shxI ⟨sa, sn, sc⟩) from hbe (hat _ _ _ rfl))
  have HV := Lib.hid (show Vx ((w.alloc (shxI ⟨sa, sn, sc⟩)).alloc (.cells #[.int .i64 (va : Int), .int .i64 (vd : Int)] 26)) (w.heap.size + 1) va vd from hat _ _ _ (by simp))
  have HB := Lib.hid (bal (bal (Below.refl w.heap.size w) (Nat.le_refl _) (shxI ⟨sa, sn, sc⟩)) (Nat.le_refl _) (.cells #[.int .i64 (va : Int), .int .i64 (vd : Int)] 26))
  unfold shxI vofI at HX HV HB
  simp only at HX HV HB
  generalize ((w.alloc (.cells #[.slice sa sn sc, .func (.func 79) #[] #[]] 79)).alloc (.cells #[.int .i64 (va : Int), .int .i64 (vd : Int)] 26)) = w1 at HX HV HB ⊢
  have HQ : Hid (∀ W, Below w1.heap.size w1 W → (W.cell? ⟨w.heap.size, 0, none⟩ = some (.slice sa sn sc) ∧ W.cell? ⟨w.heap.size, 1, none⟩ = some (.func (.func 79) #[] #[])) ∧ W.cell? ⟨w.heap.size + 1, 0, none⟩ = some (.int .i64 (va : Int)) ∧ W.cell? ⟨w.heap.size + 1, 1, none⟩ = some (.int .i64 (vd : Int))) := Lib.hid (fun W hb => by
    have h1 := (hb.block _ (Array.getElem?_eq_some_iff.1 HX.out).1).trans HX.out
    have h2 := (hb.block _ (Array.getElem?_eq_some_iff.1 HV.out).1).trans HV.out
    exact ⟨cells2 h1, cells2 h2⟩)
  have HGL := Lib.hid (show w.heap.size < w1.heap.size from (Array.getElem?_eq_some_iff.1 HX.out).1)
  clear HX HV
  refine wp_region_held_drew (S := fun W' => Below w1.heap.size w1 W') (by kernel_rfl) (Below.refl _ _).drew (fun hHeld => ?_)
  generalize w1.drew = w5 at hHeld ⊢
  have HB5 : Hid (Below w1.heap.size w1 w5) := hHeld
  clear hHeld
  refine take_in (i := 0) (oi := ⟨_, _, _, _, _, _⟩) (v := ?_) rfl (by kernel_rfl) (by kernel_rfl) (by kernel_rfl) (fun _ _ _ h => h) (by rfl) ?_ HB5.out ?_
  rotate_left
  · intro W hW; obtain ⟨⟨q1, q2⟩, q3, q4⟩ := HQ.out W hW; go_simp; with_reducible rfl
  simp only [Act.put, List.setIfInBounds_toArray, List.set_cons_zero, List.set_cons_succ]
  refine take_in (i := 1) (oi := ⟨_, _, _, _, _, _⟩) (v := ?_) rfl (by kernel_rfl) (by kernel_rfl) (by kernel_rfl) (fun _ _ _ h => h) (by rfl) ?_ HB5.out ?_
  rotate_left
  · intro W hW; obtain ⟨⟨q1, q2⟩, q3, q4⟩ := HQ.out W hW; go_simp; with_reducible rfl
  simp only [Act.put, List.setIfInBounds_toArray, List.set_cons_zero, List.set_cons_succ]
  refine take_in (i := 2) (oi := ⟨_, _, _, _, _, _⟩) (v := ?_) rfl (by kernel_rfl) (by kernel_rfl) (by kernel_rfl) (fun _ _ _ h => h) (by rfl) ?_ HB5.out ?_
  rotate_left
  · intro W hW; obtain ⟨⟨q1, q2⟩, q3, q4⟩ := HQ.out W hW; go_simp; with_reducible rfl
  simp only [Act.put, List.setIfInBounds_toArray, List.set_cons_zero, List.set_cons_succ]
  refine take_in (i := 4) (oi := ⟨_, _, _, _, _, _⟩) (v := ?_) rfl (by kernel_rfl) (by kernel_rfl) (by kernel_rfl) (fun _ _ _ h => h) (by rfl) ?_ HB5.out ?_
  rotate_left
  · intro W hW; obtain ⟨⟨q1, q2⟩, q3, q4⟩ := HQ.out W hW; go_simp; with_reducible rfl
  simp only [Act.put, List.setIfInBounds_toArray, List.set_cons_zero, List.set_cons_succ]
  refine wpAnyH_ready (rs := [3]) (by kernel_rfl) (by simp) ?_
  refine AllReadyH.cons (o := ⟨_, _, _, _, _, _⟩) rfl (fun K hK => ?_) AllReadyH.nil
  go_simp
  refine (HN.out _).mono ?_
  rintro e w6 ⟨rfl, hb6⟩
  have HB6 := Lib.hid (HB5.out.trans (hb6.mono HB5.out.size)); clear hb6
  refine hK.out _ _ HB6.out (fun _ => ?_)
  clear hK K
  refine wpAnyH_ready (rs := [5]) (by kernel_rfl) (by simp) ?_
  refine AllReadyH.cons (o := ⟨_, _, _, _, _, _⟩) rfl (fun K hK => ?_) AllReadyH.nil
  go_simp
  refine (HSR.out w.heap.size w6 (HB.out.trans (HB6.out.mono HB.out.size)) (HQ.out _ HB6.out).1.2 (Nat.lt_of_lt_of_le HGL.out HB6.out.size)).mono ?_
  rintro e w7 ⟨p, rfl, hc, hb7⟩
  have HB7 := Lib.hid (HB6.out.trans (hb7.mono HB6.out.size)); clear hb7
  have HC := Lib.hid hc; clear hc
  refine hK.out _ _ HB7.out (fun _ => ?_)
  clear hK K
  refine take_in (i := 6) (oi := ⟨_, _, _, _, _, _⟩) (v := ?_) rfl (by kernel_rfl) (by kernel_rfl) (by kernel_rfl) (fun _ _ _ h => h) (by rfl) ?_ HB7.out ?_
  rotate_left
  · intro W hW; go_simp; with_reducible rfl
  simp only [Act.put, List.setIfInBounds_toArray, List.set_cons_zero, List.set_cons_succ]
  refine take_in (i := 7) (oi := ⟨_, _, _, _, _, _⟩) (v := ?_) rfl (by kernel_rfl) (by kernel_rfl) (by kernel_rfl) (fun _ _ _ h => h) (by rfl) ?_ HB7.out ?_
  rotate_left
  · intro W hW; go_simp; with_reducible rfl
  simp only [Act.put, List.setIfInBounds_toArray, List.set_cons_zero, List.set_cons_succ]
  refine take_in (i := 8) (oi := ⟨_, _, _, _, _, _⟩) (v := ?_) rfl (by kernel_rfl) (by kernel_rfl) (by kernel_rfl) (fun _ _ _ h => h) (by rfl) ?_ HB7.out ?_
  rotate_left
  · intro W hW; go_simp; with_reducible rfl
  simp only [Act.put, List.setIfInBounds_toArray, List.set_cons_zero, List.set_cons_succ]
  refine take_in (i := 9) (oi := ⟨_, _, _, _, _, _⟩) (v := ?_) rfl (by kernel_rfl) (by kernel_rfl) (by kernel_rfl) (fun _ _ _ h => h) (by rfl) ?_ HB7.out ?_
  rotate_left
  · intro W hW; go_simp; with_reducible rfl
  simp only [Act.put, List.setIfInBounds_toArray, List.set_cons_zero, List.set_cons_succ]
  refine wpAnyH_done (by kernel_rfl) ?_ _
  generalize hh : hitN xs m p = hit
  have HH := Lib.hid hh; clear hh
  go_wp2
  go_ret2
  exact ⟨p, by (rw [HH.out]; first | done | rfl), HC.out, HB.out.trans (HB7.out.mono HB.out.size)⟩
theorem results_fndI {fn : Func} {p q : Tmp} {w : World} {g : Nat} {u1 u2 u3 u4 : Value} (h : fn.results = #[.cell p 73, .tmp q]) {tmps : Array Value} {x : Value} (hp : tmps.getD p undef = .pointer (some ⟨g, 0, none⟩)) (hx : tmps.getD q undef = x) (hv : w.heap[g]? = some (.cells #[u1, u2, u3, u4] 73)) : (results fn tmps).run Tryz.prog w = .ok (.tuple #[.agg #[u1, u2, u3, u4], x]) w := by
  obtain ⟨z0, z1, z2, z3⟩ := cells4 hv
  have u3 := Tryz.sizeOf73
  have hp' : tmps[p]?.getD undef = .pointer (some ⟨g, 0, none⟩) := by rw [← hp, Array.getD_eq_getD_getElem?]
  have hx' : tmps[q]?.getD undef = x := by rw [← hx, Array.getD_eq_getD_getElem?]
  unfold results
  simp only [h]
  simp [hp', hx', go_sem, z0, z1, z2, z3]
/-- what a look-up answers -/
def fndI (v : Nat × Nat) : Option (Nat × Nat) → Value
  | none => .tuple #[.agg #[.int .i64 0, .int .i64 0, .int .i64 0, .int .i64 0], .bool false]
  | some a => .tuple #[elI (v, a), .bool true]
theorem putsI {w : World} {g : Nat} {c : Array Value} (h : w.heap[g]? = some (.cells c 73)) (hc : c.size = 4) (u1 u2 u3 u4 : Value) : (((((w.setCell ⟨g, 0, none⟩ u1).setCell ⟨g, 1, none⟩ u2).setCell ⟨g, 2, none⟩ u3).setCell ⟨g, 3, none⟩ u4)).heap[g]? = some (.cells #[u1, u2, u3, u4] 73) := by
  rw [heap_setCell_same _ _ _ _ _ _ (heap_setCell_same _ _ _ _ _ _ (heap_setCell_same _ _ _ _ _ _ (heap_setCell_same _ _ _ _ _ _ h)))]
  obtain ⟨l⟩ := c
  match l, hc with
  | [_, _, _, _], _ => rfl
set_option maxHeartbeats 2000000 in
theorem find_I (s : Sl) (xs : List XI) (v : Nat × Nat) (hv : V64 v) (hn : s.n = xs.length) (hl : s.n ≤ 4096) (hs : Sd xs) (ha : A64 xs) (B : Nat) (w : World) (hr : Rg.Rs KI w B s.a xs) (hB : B ≤ w.heap.size) :
    Calls Tryz.prog 40 #[shvI s, vw (v.1 : Int) (v.2 : Int)] w fun e w' => e = .returned (fndI v (lk xs v)) ∧ Below w.heap.size w w' := by
  have HPL : Hid (∀ W, Below w.heap.size w W → Calls Tryz.prog 80 #[shvI s, vw (v.1 : Int) (v.2 : Int)] W fun e w' => ∃ p, e = .returned (.tuple #[.int .i64 ((p : Nat) : Int), .bool (hitN xs (name2 v) p)]) ∧ Cut xs (name2 v) p ∧ Below W.heap.size W w') := Lib.hid (fun W hW => place_I s xs v hv hn hl hs ha B W (hr.below (hW.mono hB)) (Nat.le_trans hB hW.size))
  have HT : Hid (∀ p, Cut xs (name2 v) p → hitN xs (name2 v) p = true → ∃ a, xs[p]? = some (v, a) ∧ lk xs v = some a) := Lib.hid (fun p _ h => hit_some hs ha hv h)
  have HF : Hid (∀ p, Cut xs (name2 v) p → hitN xs (name2 v) p = false → lk xs v = none) := Lib.hid (fun p hc h => hit_none hs hc h)
  have HN := Lib.hid hn; have HR := Lib.hid hr
  clear hn hs ha hr hv
  obtain ⟨va, vd⟩ := v
  obtain ⟨sa, sn, sc⟩ := s
  generalize lk xs (va, vd) = o at HT HF ⊢
  generalize name2 (va, vd) = m at HPL HT HF
  simp only at HPL HN HR hl ⊢
  unfold shvI vofI vw at HPL
  unfold shvI vofI vw
  simp only at HPL ⊢
  have hsf := store_fnI
  go_enter Tryz.func40, Tryz.ntmps40
  go_upto_region 1 with (fail)
  have HX := Lib.hid (show (((w.alloc (shxI ⟨sa, sn, sc⟩)).alloc (.cells #[.int .i64 (va : Int), .int .i64 (vd : Int)] 26)).alloc (.cells #[.int .i64 0, .int .i64 0, .int .i64 0, .int .i64 0] 73)).heap[w.heap.size]? = some (shxI ⟨sa, sn, sc⟩) from hbe (hbe (hat _ _ _ rfl)))
  have HV := Lib.hid (show Vx (((w.alloc (shxI ⟨sa, sn, sc⟩)).alloc (.cells #[.int .i64 (va : Int), .int .i64 (vd : Int)] 26)).alloc (.cells #[.int .i64 0, .int .i64 0, .int .i64 0, .int .i64 0] 73)) (w.heap.size + 1) va vd from hbe (hat _ _ _ (by simp)))
  have HZ := Lib.hid (show (((w.alloc (shxI ⟨sa, sn, sc⟩)).alloc (.cells #[.int .i64 (va : Int), .int .i64 (vd : Int)] 26)).alloc (.cells #[.int .i64 0, .int .i64 0, .int .i64 0, .int .i64 0] 73)).heap[w.heap.size + 1 + 1]? = some (.cells #[.int .i64 0, .int .i64 0, .int .i64 0, .int .i64 0] 73) from hat _ _ _ (by simp))
  have HB := Lib.hid (bal (bal (bal (Below.refl w.heap.size w) (Nat.le_refl _) (shxI ⟨sa, sn, sc⟩)) (Nat.le_refl _) (.cells #[.int .i64 (va : Int), .int .i64 (vd : Int)] 26)) (Nat.le_refl _) (.cells #[.int .i64 0, .int .i64 0, .int .i64 0, .int .i64 0] 73))
  unfold shxI vofI at HX HV HZ HB
  simp only at HX HV HZ HB
  generalize (((w.alloc (.cells #[.slice sa sn sc, .func (.func 79) #[] #[]] 79)).alloc (.cells #[.int .i64 (va : Int), .int .i64 (vd : Int)] 26)).alloc (.cells #[.int .i64 0, .int .i64 0, .int .i64 0, .int .i64 0] 73)) = w1 at HX HV HZ HB ⊢
  have HG1 := Lib.hid (show w.heap.size ≤ w.heap.size + 1 + 1 by omega)
  have HG2 := Lib.hid (show w.heap.size ≠ w.heap.size + 1 + 1 by omega)
  obtain ⟨x0, x1⟩ := cells2 HX.out
  obtain ⟨v0, v1⟩ := cells2 HV.out
  have hbw1 := HB.out
  generalize w.heap.size + 1 = gv at HV HZ HG1 HG2 v0 v1 ⊢
  generalize gv + 1 = gz at HZ HG1 HG2 ⊢
  have hgs : Hid (w.heap.size ≤ w.heap.size) := Lib.hid (Nat.le_refl _)
  clear hbw1
  go_upto_region 2 with (refine (HPL.out w1 HB.out).mono ?_; rintro e w2 ⟨p, rfl, hc, hb2⟩)
  have HC := Lib.hid hc; clear hc
  have HX := Lib.hid ((hb2.block _ (Array.getElem?_eq_some_iff.1 HX.out).1).trans HX.out)
  have HZ := Lib.hid ((hb2.block _ (Array.getElem?_eq_some_iff.1 HZ.out).1).trans HZ.out)
  have HB := Lib.hid (HB.out.trans (hb2.mono HB.out.size)); clear hb2 HV
  clear x0 x1 v0 v1 HPL
  obtain ⟨x0, x1⟩ := cells2 HX.out
  obtain ⟨z0, z1, z2, z3⟩ := cells4 HZ.out
  have f0 := frozen_of_row w2 gz 0 _ _ HZ.out; have f1 := frozen_of_row w2 gz 1 _ _ HZ.out; have f2 := frozen_of_row w2 gz 2 _ _ HZ.out; have f3 := frozen_of_row w2 gz 3 _ _ HZ.out
  cases hh : hitN xs m p with
  | false =>
    have HO := Lib.hid (HF.out p HC.out hh); clear hh
    have HWN := Lib.hid (show w2.heap.size ≠ gz from Nat.ne_of_gt (Array.getElem?_eq_some_iff.1 HZ.out).1)
    clear HT HF
    go_upto_region 4 with (fail)
    have HZ := Lib.hid (hbe (w := w2) (o := .cells #[.int .i64 0, .int .i64 0, .int .i64 0, .int .i64 0] 73) HZ.out)
    have HY := Lib.hid (show (w2.alloc (.cells #[.int .i64 0, .int .i64 0, .int .i64 0, .int .i64 0] 73)).heap[w2.heap.size]? = some (.cells #[.int .i64 0, .int .i64 0, .int .i64 0, .int .i64 0] 73) from hat _ _ _ rfl)
    have HB := Lib.hid (bal HB.out (Nat.le_refl _) (.cells #[.int .i64 0, .int .i64 0, .int .i64 0, .int .i64 0] 73))
    generalize w2.alloc (.cells #[.int .i64 0, .int .i64 0, .int .i64 0, .int .i64 0] 73) = w3 at HZ HY HB ⊢
    generalize w2.heap.size = gy at HY HWN ⊢
    clear x0 x1 z0 z1 z2 z3 f0 f1 f2 f3
    obtain ⟨z0, z1, z2, z3⟩ := cells4 HZ.out
    obtain ⟨y0, y1, y2, y3⟩ := cells4 HY.out
    have f0 := frozen_of_row w3 gz 0 _ _ HZ.out; have f1 := frozen_of_row w3 gz 1 _ _ HZ.out; have f2 := frozen_of_row w3 gz 2 _ _ HZ.out; have f3 := frozen_of_row w3 gz 3 _ _ HZ.out
    go_wp2
    refine bodyPost_ret (results_fndI (g := gz) rfl rfl rfl (putsI HZ.out rfl _ _ _ _)) rfl ?_
    exact ⟨by rw [HO.out]; rfl, ((((HB.out.setCell HG1.out _).setCell HG1.out _).setCell HG1.out _).setCell HG1.out _)⟩
  | true =>
    obtain ⟨a, hx, ho⟩ := HT.out p HC.out hh; clear hh
    have HO := Lib.hid ho; clear ho
    clear HT HF
    have hkl := lt_of_get hx
    have hp : p < sn := by rw [HN.out]; exact hkl
    obtain ⟨b, o1, rfl, hbB, hcell⟩ := HR.out (by omega)
    have hc0 := (hcell _ _ hx).below (HB.out.mono hB) hbB
    have q0 := hc0 0 _ rfl; have q1 := hc0 1 _ rfl; have q2 := hc0 2 _ rfl; have q3 := hc0 3 _ rfl
    rw [show KI.k = 4 from rfl] at q0 q1 q2 q3
    simp only [Nat.add_zero] at q0 q1 q2 q3
    have hbz : b ≠ gz := by have := HG1.out; omega
    clear hx hkl hc0 hcell
    obtain ⟨ta, td⟩ := a
    simp only at q0 q1 q2 q3
    go_wp2
    refine bodyPost_ret (results_fndI (g := gz) rfl rfl rfl (putsI HZ.out rfl _ _ _ _)) rfl ?_
    exact ⟨by rw [HO.out]; rfl, ((((HB.out.setCell HG1.out _).setCell HG1.out _).setCell HG1.out _).setCell HG1.out _)⟩
end Go.Proofs.YtfblnomkafimhaaGreat.Fow

namespace Go.Proofs.YtfblnomkafimhaaGreat.Fow
set_option maxRecDepth 20000
open Go.RowKit
open Chg Vw Cl Bk Lg Fo Clw Bkw
open Chgw (hat hbe vw ret_bool ret_i64 Vx)
open Rg (bal)

theorem rs_oneI {w : World} {gv : Nat} {x : XI} (hv : w.heap[gv]? = some (.cells (KI.cells x).toArray 73)) : Rg.Rs KI w w.heap.size (some ⟨gv, 0, none⟩) [x] := fun _ => ⟨gv, 0, rfl, (Array.getElem?_eq_some_iff.1 hv).1, fun j y hy i u hu => by
  cases j with
  | zero =>
    cases hy
    rw [cell_of_row _ _ _ _ _ _ hv]
    simpa using hu
  | succ j => cases hy⟩
theorem cells_srcI {w : World} {gv : Nat} {x : XI} (hv : w.heap[gv]? = some (.cells (KI.cells x).toArray 73)) : ∀ j u, (KI.cells x)[j]? = some u → w.cell? ((⟨gv, 0, none⟩ : Addr).add j) = some u := fun j u hu => by
  rw [Rg.add_at, cell_of_row _ _ _ _ _ _ hv]
  simpa using hu
theorem row_cellsI {w : World} {g n c i : Nat} {cur : Array Value} {xs : List XI} (hh : w.heap[g]? = some (.cells cur 73 (0, 0))) (hl : n = xs.length) (ht : cur.toList.take (n * 4) = Rg.flat KI xs) : ∀ j u, ((Rg.flat KI xs).drop (i * 4))[j]? = some u → w.cell? ((⟨g, i * 4, none⟩ : Addr).add j) = some u := fun j u hu => by
  rw [Rg.add_at, cell_of_row _ _ _ _ _ _ hh]
  rw [List.getElem?_drop, ← ht, List.getElem?_take] at hu
  split at hu
  · rw [← Array.getElem?_toList]; exact hu
  · cases hu
/-- what Insert answers -/
def RetInI (w : World) (base : Nat) (A : Option Addr) (n c : Nat) (ys : List XI) (e : Ending) (w' : World) : Prop := ∃ A' c', e = .returned (.slice A' (n + 1) c') ∧ Rg.OwnG KI w' base A' (n + 1) c' ys ∧ w.grownBy w' (Value.slice A n c).ownBlock
set_option maxHeartbeats 4000000 in
set_option maxRecDepth 100000 in
theorem ins_end_I (A : Option Addr) (n c : Nat) (xs : List XI) (base : Nat) (w : World) (ho : Rg.OwnG KI w base A n c xs) (hb : base ≤ w.heap.size) (hl : n ≤ 4096) (x : XI) (gv : Nat) (hv : w.heap[gv]? = some (.cells (KI.cells x).toArray 73)) :
    Calls Tryz.prog 127 #[.slice A n c, .int .i64 (n : Int), .slice (some ⟨gv, 0, none⟩) 1 1] w (RetInI w base A n c (xs ++ [x])) := by
  have HO := Lib.hid ho
  have hnc : n ≤ c := ho.cap
  have HS := Lib.hid (rs_oneI hv)
  have hb2 : (n + 1) * KI.bytes ≤ 140737488355328 := by show (n + 1) * 32 ≤ _; omega
  have HB2 := Lib.hid hb2; have HBASE := Lib.hid hb; have HNC := Lib.hid hnc
  have HPO : Hid (∀ A' c' w', Rg.OwnG KI w' base A' (n + 1) c' (xs ++ [x]) → w.grownBy w' (Value.slice A n c).ownBlock → RetInI w base A n c (xs ++ [x]) (.returned (.slice A' (n + 1) c')) w') := Lib.hid (fun A' c' w' h1 h2 => ⟨A', c', rfl, h1, h2⟩)
  generalize RetInI w base A n c (xs ++ [x]) = PP at HPO ⊢
  clear hb2 hb hv
  rcases ho.2.2 with ⟨h0, h1⟩ | ⟨g, cap, cur, h0, _⟩
  · injection h0 with e1 e2 e3
    subst e1; subst e2; subst e3
    clear ho h1 hnc
    go_enter Tryz.func127, Tryz.ntmps127
    go_wp2_with (at_builtin; refine Rg.wp_appGg (K := KI) rfl (.tmp 23) (.tmp 24) rfl base none 0 0 xs rfl HO.out w.heap.size (some ⟨gv, 0, none⟩) 1 1 [x] rfl rfl HS.out HB2.out HBASE.out ?_; intro A' c' w' h1 h2 h3)
    all_goals (try go_ret)
    all_goals exact HPO.out _ _ _ h1 h3
  · injection h0 with e1 e2 e3
    subst e1; subst e3
    clear ho
    by_cases hcn : c = n
    · subst hcn
      go_enter Tryz.func127, Tryz.ntmps127
      go_wp2_with (at_builtin; refine Rg.wp_appGg (K := KI) rfl (.tmp 23) (.tmp 24) rfl base (some ⟨g, 0, none⟩) c c xs rfl HO.out w.heap.size (some ⟨gv, 0, none⟩) 1 1 [x] rfl rfl HS.out HB2.out HBASE.out ?_; intro A' c' w' h1 h2 h3)
      all_goals (try go_ret)
      all_goals exact HPO.out _ _ _ h1 h3
    · go_enter Tryz.func127, Tryz.ntmps127
      go_wp2_with (at_builtin; refine Rg.wp_appGg (K := KI) rfl (.tmp 23) (.tmp 24) rfl base (some ⟨g, 0, none⟩) n c xs rfl HO.out w.heap.size (some ⟨gv, 0, none⟩) 1 1 [x] rfl rfl HS.out HB2.out HBASE.out ?_; intro A' c' w' h1 h2 h3)
      all_goals (try go_ret)
      all_goals exact HPO.out _ _ _ h1 h3
end Go.Proofs.YtfblnomkafimhaaGreat.Fow

namespace Go.Proofs.YtfblnomkafimhaaGreat.Fow
set_option maxRecDepth 20000
open Go.RowKit
open Chg Vw Cl Bk Lg Fo Clw Bkw
open Chgw (hat hbe vw ret_bool ret_i64 Vx)
open Rg (bal)
set_option maxHeartbeats 4000000 in
set_option maxRecDepth 100000 in
theorem ins_shift_I (g n c p : Nat) (xs : List XI) (base : Nat) (w : World) (ho : Rg.OwnG KI w base (some ⟨g, 0, none⟩) n c xs) (hp : p < n) (hroom : n + 1 ≤ c) (x : XI) (gv : Nat) (hv : w.heap[gv]? = some (.cells (KI.cells x).toArray 73)) (hne : gv ≠ g) :
    Calls Tryz.prog 127 #[.slice (some ⟨g, 0, none⟩) n c, .int .i64 (p : Int), .slice (some ⟨gv, 0, none⟩) 1 1] w (RetInI w base (some ⟨g, 0, none⟩) n c (Rg.ins xs p x)) := by
  have hxl := ho.1
  obtain ⟨hbg, _, hcm, cur, hh, hcs, htk⟩ := ho.row
  have hsz : (Tryz.prog.info? 73).map (·.size) = some 4 := by kernel_rfl
  have hcm2 : c ≤ 9223372036854775807 := by unfold maxLen at hcm; omega
  have htk : cur.toList.take (n * 4) = Rg.flat KI xs := htk
  have hcs : cur.size = c * 4 := hcs
  have hfl : (Rg.flat KI xs).length = n * 4 := by rw [Rg.flat_len, hxl]; rfl
  have hkc : ∀ u ∈ KI.cells x, u.oneCell' = true := KI.one x
  have hkl : (KI.cells x).length = 4 := KI.len x
  obtain ⟨C1, hC1⟩ : ∃ C1, C1 = (cur.toList.take ((p + 1) * 4) ++ (Rg.flat KI xs).drop (p * 4) ++ cur.toList.drop ((p + 1) * 4 + ((Rg.flat KI xs).drop (p * 4)).length)).toArray := ⟨_, rfl⟩
  obtain ⟨C2, hC2⟩ : ∃ C2, C2 = (C1.toList.take (p * 4) ++ KI.cells x ++ C1.toList.drop (p * 4 + (KI.cells x).length)).toArray := ⟨_, rfl⟩
  have hdl : ((Rg.flat KI xs).drop (p * 4)).length = (n - p) * 4 := by rw [List.length_drop, hfl, Nat.sub_mul]
  have hl0 : cur.toList.length = c * 4 := by rw [Array.length_toList]; exact hcs
  have hf1 : (p + 1) * 4 + ((Rg.flat KI xs).drop (p * 4)).length ≤ cur.toList.length := by rw [hdl, hl0]; omega
  have hs1 : C1.size = c * 4 := by rw [hC1]; show List.length _ = _; rw [Rg.seg_len _ _ _ hf1, hl0]
  have hl1 : C1.toList.length = c * 4 := by rw [Array.length_toList]; exact hs1
  have hf2 : p * 4 + (KI.cells x).length ≤ C1.toList.length := by rw [hkl, hl1]; omega
  have hs2 : C2.size = c * 4 := by rw [hC2]; show List.length _ = _; rw [Rg.seg_len _ _ _ hf2, hl1]
  have hcp1 : ∀ (W : World), W.heap = w.heap → ∀ ty dc sc, (Builtin.copy_ #[24, 24] ty #[.slice (some ⟨g, (p + 1) * 4, none⟩) (n - p) dc, .slice (some ⟨g, p * 4, none⟩) (n + 1 - p) sc]).run Tryz.prog W = .ok (goInt (n - p : Nat)) (W.setRow g C1) := fun W hW ty dc sc => by
    rw [hC1]
    exact Rg.run_copy_rowG W _ _ ty 73 4 g ((p + 1) * 4) (n - p) dc ⟨g, p * 4, none⟩ (n + 1 - p) sc (n - p) cur 73 _ Tryz.underlying24 hsz (by rw [hW]; exact hh) (by simp only [Nat.min_def]; split <;> omega) hdl
      (row_cellsI (c := c) (by rw [hW]; exact hh) hxl htk) (by rw [← Array.length_toList]; exact hf1) (fun v hv => Rg.flat_one KI xs v (List.mem_of_mem_drop hv))
  have hcp2 : ∀ (W : World), W.heap = (w.setRow g C1).heap → ∀ ty dc sc, (Builtin.copy_ #[24, 24] ty #[.slice (some ⟨g, p * 4, none⟩) (n + 1 - p) dc, .slice (some ⟨gv, 0, none⟩) 1 sc]).run Tryz.prog W = .ok (goInt (1 : Nat)) (W.setRow g C2) := fun W hW ty dc sc => by
    have hg1 : W.heap[g]? = some (.cells C1 73 (0, 0)) := by rw [hW]; exact Rg.heap_setRow _ _ _ _ _ _ hh
    have hv1 : W.heap[gv]? = some (.cells (KI.cells x).toArray 73) := by
      rw [hW]
      have : ¬ g = gv := fun e => hne e.symm
      simp [World.setRow, Array.getElem?_modify, this]
      exact hv
    rw [hC2]
    exact Rg.run_copy_rowG W _ _ ty 73 4 g (p * 4) (n + 1 - p) dc ⟨gv, 0, none⟩ 1 sc 1 C1 73 _ Tryz.underlying24 hsz hg1 (by simp only [Nat.min_def]; split <;> omega) (by rw [hkl])
      (cells_srcI hv1) (by rw [← Array.length_toList]; exact hf2) hkc
  have hfin : C2.toList.take ((n + 1) * 4) = Rg.flat KI (Rg.ins xs p x) := by
    rw [Rg.flat_ins xs p x (by omega)]
    refine Rg.two_copies (L := cur.toList) hfl hkl (by omega) C1.toList C2.toList (by rw [hl0]; omega) (fun j => ?_) (fun j => ?_) (fun j hj => ?_)
    · rw [hC1, Rg.seg_get _ _ _ hf1, hdl]
    · rw [hC2, Rg.seg_get _ _ _ hf2, hkl]
    · rw [← htk, List.getElem?_take, if_pos (by omega)]
  have HPO : Hid (∀ W : World, W.heap = ((w.setRow g C1).setRow g C2).heap → W.os = w.os → W.tape = w.tape → W.output = w.output → RetInI w base (some ⟨g, 0, none⟩) n c (Rg.ins xs p x) (.returned (.slice (some ⟨g, 0, none⟩) (n + 1) c)) W) := Lib.hid (fun W hW h1 h2 h3 => by
    refine ⟨_, c, rfl, Rg.OwnG.of_row (by rw [Rg.ins_len _ _ _ (by omega), hxl]) hbg (cur := C2) (by rw [hW]; exact Rg.heap_setRow _ _ _ _ _ _ (Rg.heap_setRow _ _ _ _ _ _ hh)) hroom hcm hs2 hfin, ?_⟩
    have hg := Rg.grown_trans (Rg.grown_setRow w g C1) (Rg.grown_setRow (w.setRow g C1) g C2)
    exact ⟨h1, h2, h3, by rw [hW]; exact hg.size, fun k hk hne => by rw [hW]; exact hg.block k hk hne⟩)
  have hov : ∀ lb cb, (callFunc 162 #[.slice (some ⟨gv, 0, none⟩) 1 1, .slice (some ⟨g, (p + 1) * 4, none⟩) lb cb]).run Tryz.prog w = .ok (.value (.bool false)) w := fun lb cb => by
    rw [run_callFunc_extern Tryz.func162 (by kernel_rfl) (by kernel_rfl) (by kernel_rfl) (e := Extern.SlicesOverlaps.overlaps #[24, 24] #[4]) (by kernel_rfl),
      Lib.run_overlaps_apart w 24 4 73 Tryz.underlying24 4 Tryz.sizeOf73 ⟨gv, 0, none⟩ ⟨g, (p + 1) * 4, none⟩ 1 1 lb cb hne 73 73 (KI.cells x).length cur.size (by simp [World.shape?, hv]) (by simp [World.shape?, hh]; rfl) (by omega) (frozen_of_row w gv 0 _ _ hv) (frozen_of_row w gv _ _ _ hv)]
    rfl
  have HC1 := Lib.hid hcp1; have HC2 := Lib.hid hcp2
  clear hcp1 hcp2 hfin hC1 hC2 hdl hl0 hf1 hs1 hl1 hf2 hs2 hkc hkl hfl hcs htk hsz hbg hcm hh hv ho hxl hne
  generalize RetInI w base (some ⟨g, 0, none⟩) n c (Rg.ins xs p x) = PP at HPO ⊢
  have hz2 : ¬ ((p : Int) = (n : Int)) := by omega
  have hw1 : IntKind.i64.wrap ((p : Int) + 1) = (p : Int) + 1 := by rw [IntKind.wrap_i64]; omega
  have hb1 : (0 : Int) ≤ (p : Int) + 1 := by omega
  have hin : p ≤ n := by omega
  have htn : ((p : Int) + 1).toNat = p + 1 := by omega
  have hb2 : ¬ (c = p + 1) := by omega
  have hb3 : (p : Int) ≤ (n : Int) + 1 := by omega
  have hb4 : ¬ (c = p) := by omega
  have mixed : Tryz.prog.follows Departure.mixedOrders = true := by kernel_rfl
  go_enter Tryz.func127, Tryz.ntmps127
  go_wp2_with (simp only [hov])
  go_region_law_o (refine step_copy_runI rfl _ _ 24 24 rfl (.slice (some ⟨g, (p + 1) * 4, none⟩) (n - p) (c - (p + 1))) (.slice (some ⟨g, p * 4, none⟩) (n + 1 - p) (c - p)) (by simp [Act.eval, Act.put]) (by simp [Act.eval, Act.put]) (HC1.out w.drew rfl 3 (c - (p + 1)) (c - p)) ?_)
  go_wp2_with (refine wpList_copy_runI _ rfl (.tmp 80) (.tmp 81) 24 24 rfl _ _ rfl rfl (HC2.out (w.drew.setRow g C1) rfl _ _ _) ?_)
  try go_ret
  exact HPO.out ((w.drew.setRow g C1).setRow g C2) rfl rfl rfl rfl
end Go.Proofs.YtfblnomkafimhaaGreat.Fow
