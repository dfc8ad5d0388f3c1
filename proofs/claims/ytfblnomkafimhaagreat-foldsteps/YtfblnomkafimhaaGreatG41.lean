/- Contracts and words on which the claims of this seat stand, part 41: FoHB FoHC FoHI FoDB FoDC FoDI. -/
import Derived.Test.YtfblnomkafimhaaGreatG34
import Derived.Test.YtfblnomkafimhaaGreatG35
import Derived.Test.YtfblnomkafimhaaGreatG36
import Derived.Test.YtfblnomkafimhaaGreatG37
import Derived.Test.YtfblnomkafimhaaGreatG38
import Derived.Test.YtfblnomkafimhaaGreatG39
import Derived.Test.YtfblnomkafimhaaGreatG40
set_option linter.unusedSimpArgs false
set_option linter.unusedVariables false
namespace Go.Proofs.YtfblnomkafimhaaGreat.Fow
set_option maxRecDepth 20000
open Go.RowKit
open Chg Vw Cl Bk Lg Fo Clw Bkw
open Chgw (hat hbe vw ret_bool ret_i64 Vx)
open Rg (bal)

theorem insert_B (A : Option Addr) (n c p : Nat) (xs : List XB) (base : Nat) (w : World) (ho : Rg.OwnG KB w base A n c xs) (hb : base ≤ w.heap.size) (hp : p ≤ n) (hl : n ≤ 4096) (x : XB) (gv : Nat) (hv : w.heap[gv]? = some (.cells (KB.cells x).toArray 69)) (hne : (Value.slice A n c).ownBlock ≠ some gv) :
    Calls Tryz.prog 125 #[.slice A n c, .int .i64 (p : Int), .slice (some ⟨gv, 0, none⟩) 1 1] w (RetInB w base A n c (Rg.ins xs p x)) := by
  rcases Nat.lt_or_ge p n with h | h
  · obtain ⟨g, rfl, hg⟩ := ho.at0 (by omega)
    have hcap := ho.cap
    rcases Nat.lt_or_ge n c with h1 | h1
    · exact ins_shift_B g n c p xs base w ho h (by omega) x gv hv (fun e => hne (by rw [e]; rfl))
    · obtain rfl : c = n := by omega
      exact ins_grow_B g c p xs base w ho hb h hl x gv hv
  · obtain rfl : p = n := by omega
    rw [ho.1, Rg.ins_end, ← ho.1]
    exact ins_end_B A p c xs base w ho hb hl x gv hv
/-- put is answered -/
def RetPutB (w : World) (base : Nat) (s : Sl) (ys : List XB) (e : Ending) (w' : World) : Prop := ∃ s' : Sl, e = .returned (.slice s'.a s'.n s'.c) ∧ Rg.OwnG KB w' base s'.a s'.n s'.c ys ∧ w.grownBy w' (Value.slice s.a s.n s.c).ownBlock
set_option maxHeartbeats 4000000 in
theorem put_B (s : Sl) (xs : List XB) (x : XB) (hx : V64 x.1) (base : Nat) (w : World) (ho : Rg.OwnG KB w base s.a s.n s.c xs) (hb : base ≤ w.heap.size) (hl : s.n ≤ 4096) (hs : Sd xs) (ha : A64 xs) :
    Calls Tryz.prog 92 #[shvB s, elB x] w (RetPutB w base s (putP xs x)) := by
  have HPL : Hid (∀ W, Below w.heap.size w W → Calls Tryz.prog 83 #[shvB s, vw (x.1.1 : Int) (x.1.2 : Int)] W fun e w' => ∃ p, e = .returned (.tuple #[.int .i64 ((p : Nat) : Int), .bool (hitN xs (name2 x.1) p)]) ∧ Cut xs (name2 x.1) p ∧ Below W.heap.size W w') := Lib.hid (fun W hW => place_B s xs x.1 hx ho.1 hl hs ha W.heap.size W ((ho.below hW (Nat.le_refl _)).rs) (Nat.le_refl _))
  have HV := Lib.hid (viewof_B x)
  have HT : Hid (∀ p, Cut xs (name2 x.1) p → hitN xs (name2 x.1) p = true → p < s.n ∧ putP xs x = xs.set p x) := Lib.hid (fun p _ h => by
    obtain ⟨a, h1, _⟩ := hit_some hs ha hx h
    exact ⟨by rw [ho.1]; exact lt_of_get h1, putP_hit p hs h1⟩)
  have HF : Hid (∀ p, Cut xs (name2 x.1) p → hitN xs (name2 x.1) p = false → p ≤ s.n ∧ putP xs x = Rg.ins xs p x) := Lib.hid (fun p hc h => ⟨by rw [ho.1]; exact hc.1, putP_miss p hc h hs⟩)
  have HO : Hid (∀ W, Below w.heap.size w W → Rg.OwnG KB W base s.a s.n s.c xs) := Lib.hid (fun W hW => ho.below hW (Nat.le_refl _))
  have HBASE := Lib.hid hb
  have HLT : Hid (∀ g, s.a = some ⟨g, 0, none⟩ → g < w.heap.size) := Lib.hid (fun g e => (ho.2.lt g (by rw [e]; rfl)).2)
  have HOB : Hid (∀ k, (Value.slice s.a s.n s.c).ownBlock = some k → k < w.heap.size) := Lib.hid (fun k hk => (ho.2.lt k hk).2)
  generalize putP xs x = ys at HT HF ⊢
  generalize name2 x.1 = m at HPL HT HF
  clear hb hs ha hx ho
  have HPOST : Hid (∀ A' n' c' W, Rg.OwnG KB W base A' n' c' ys → w.grownBy W (Value.slice s.a s.n s.c).ownBlock → RetPutB w base s ys (.returned (.slice A' n' c')) W) := Lib.hid (fun A' n' c' W h1 h2 => ⟨⟨A', n', c'⟩, rfl, h1, h2⟩)
  generalize RetPutB w base s ys = PP at HPOST ⊢
  obtain ⟨sa, sn, sc⟩ := s
  unfold shvB vofB at HPL
  unfold shvB vofB
  simp only at HPL HT HF HO HLT HOB HPOST hl ⊢
  have hpat : ∀ (va vd : Nat) (sb : Sl), x = ((va, vd), sb) → True := fun _ _ _ _ => trivial
  clear hpat
  obtain ⟨y, hy⟩ : ∃ y, y = x := ⟨x, rfl⟩
  rw [← hy]
  have HXY := Lib.hid hy; clear hy
  have HELT : Hid (elB y = elB x) := Lib.hid (by rw [HXY.out])
  rw [HELT.out]
  clear HELT
  have HCX : Hid (KB.cells x = [.int .i64 (x.1.1 : Int), .int .i64 (x.1.2 : Int), .slice x.2.a x.2.n x.2.c]) := Lib.hid rfl
  rw [show elB x = .agg #[.int .i64 (x.1.1 : Int), .int .i64 (x.1.2 : Int), .slice x.2.a x.2.n x.2.c] from rfl] at HV ⊢
  unfold vw at HV HPL
  have hsf := store_fnB
  go_enter Tryz.func92, Tryz.ntmps92
  go_upto_region 1 with (fail)
  have HX := Lib.hid (show ((w.alloc (.cells #[.slice sa sn sc, .func (.func 82) #[] #[]] 85)).alloc (.cells #[.int .i64 (x.1.1 : Int), .int .i64 (x.1.2 : Int), .slice x.2.a x.2.n x.2.c] 69)).heap[w.heap.size]? = some (.cells #[.slice sa sn sc, .func (.func 82) #[] #[]] 85) from hbe (hat _ _ _ rfl))
  have HE := Lib.hid (show ((w.alloc (.cells #[.slice sa sn sc, .func (.func 82) #[] #[]] 85)).alloc (.cells #[.int .i64 (x.1.1 : Int), .int .i64 (x.1.2 : Int), .slice x.2.a x.2.n x.2.c] 69)).heap[w.heap.size + 1]? = some (.cells #[.int .i64 (x.1.1 : Int), .int .i64 (x.1.2 : Int), .slice x.2.a x.2.n x.2.c] 69) from hat _ _ _ (by simp))
  have HB := Lib.hid (bal (bal (Below.refl w.heap.size w) (Nat.le_refl _) (.cells #[.slice sa sn sc, .func (.func 82) #[] #[]] 85)) (Nat.le_refl _) (.cells #[.int .i64 (x.1.1 : Int), .int .i64 (x.1.2 : Int), .slice x.2.a x.2.n x.2.c] 69))
  generalize ((w.alloc (.cells #[.slice sa sn sc, .func (.func 82) #[] #[]] 85)).alloc (.cells #[.int .i64 (x.1.1 : Int), .int .i64 (x.1.2 : Int), .slice x.2.a x.2.n x.2.c] 69)) = w1 at HX HE HB ⊢
  have HQ : Hid (∀ W, Below w1.heap.size w1 W → (W.cell? ⟨w.heap.size, 0, none⟩ = some (.slice sa sn sc) ∧ W.cell? ⟨w.heap.size, 1, none⟩ = some (.func (.func 82) #[] #[])) ∧ W.cell? ⟨w.heap.size + 1, 0, none⟩ = some (.int .i64 (x.1.1 : Int)) ∧ W.cell? ⟨w.heap.size + 1, 1, none⟩ = some (.int .i64 (x.1.2 : Int)) ∧ W.cell? ⟨w.heap.size + 1, 2, none⟩ = some (.slice x.2.a x.2.n x.2.c)) := Lib.hid (fun W hb => by
    have h1 := (hb.block _ (Array.getElem?_eq_some_iff.1 HX.out).1).trans HX.out
    have h2 := (hb.block _ (Array.getElem?_eq_some_iff.1 HE.out).1).trans HE.out
    exact ⟨cells2 h1, cells3 h2⟩)
  clear HX HE
  refine wp_region_held_drew (S := fun W' => Below w1.heap.size w1 W') (by kernel_rfl) (Below.refl _ _).drew (fun hHeld => ?_)
  generalize w1.drew = w5 at hHeld ⊢
  have HB5 : Hid (Below w1.heap.size w1 w5) := hHeld
  clear hHeld
  refine take_in (i := 0) (oi := ⟨_, _, _, _, _, _⟩) (v := ?_) rfl (by kernel_rfl) (by kernel_rfl) (by kernel_rfl) (fun _ _ _ h => h) (by rfl) ?_ HB5.out ?_
  rotate_left
  · intro W hW; obtain ⟨⟨q1, q2⟩, q3, q4, q5⟩ := HQ.out W hW; go_simp; with_reducible rfl
  simp only [Act.put, List.setIfInBounds_toArray, List.set_cons_zero, List.set_cons_succ]
  refine take_in (i := 1) (oi := ⟨_, _, _, _, _, _⟩) (v := ?_) rfl (by kernel_rfl) (by kernel_rfl) (by kernel_rfl) (fun _ _ _ h => h) (by rfl) ?_ HB5.out ?_
  rotate_left
  · intro W hW; obtain ⟨⟨q1, q2⟩, q3, q4, q5⟩ := HQ.out W hW; go_simp; with_reducible rfl
  simp only [Act.put, List.setIfInBounds_toArray, List.set_cons_zero, List.set_cons_succ]
  refine take_in (i := 2) (oi := ⟨_, _, _, _, _, _⟩) (v := ?_) rfl (by kernel_rfl) (by kernel_rfl) (by kernel_rfl) (fun _ _ _ h => h) (by rfl) ?_ HB5.out ?_
  rotate_left
  · intro W hW; obtain ⟨⟨q1, q2⟩, q3, q4, q5⟩ := HQ.out W hW; go_simp; with_reducible rfl
  simp only [Act.put, List.setIfInBounds_toArray, List.set_cons_zero, List.set_cons_succ]
  refine take_in (i := 3) (oi := ⟨_, _, _, _, _, _⟩) (v := ?_) rfl (by kernel_rfl) (by kernel_rfl) (by kernel_rfl) (fun _ _ _ h => h) (by rfl) ?_ HB5.out ?_
  rotate_left
  · intro W hW; obtain ⟨⟨q1, q2⟩, q3, q4, q5⟩ := HQ.out W hW; go_simp; with_reducible rfl
  simp only [Act.put, List.setIfInBounds_toArray, List.set_cons_zero, List.set_cons_succ]
  refine wpAnyH_ready (rs := [4]) (by kernel_rfl) (by simp) ?_
  refine AllReadyH.cons (o := ⟨_, _, _, _, _, _⟩) rfl (fun K hK => ?_) AllReadyH.nil
  go_simp
  refine (HV.out w5).mono ?_
  rintro e w6 ⟨rfl, hb6⟩
  have HB6 := Lib.hid (HB5.out.trans (hb6.mono HB5.out.size)); clear hb6
  refine hK.out _ _ HB6.out (fun _ => ?_)
  clear hK K
  refine wpAnyH_ready (rs := [5]) (by kernel_rfl) (by simp) ?_
  refine AllReadyH.cons (o := ⟨_, _, _, _, _, _⟩) rfl (fun K hK => ?_) AllReadyH.nil
  go_simp
  refine (HPL.out w6 (HB.out.trans (HB6.out.mono HB.out.size))).mono ?_
  rintro e w7 ⟨p, rfl, hc, hb7⟩
  have HB7 := Lib.hid (HB6.out.trans (hb7.mono HB6.out.size)); clear hb7
  have HC := Lib.hid hc; clear hc
  refine hK.out _ _ HB7.out (fun _ => ?_)
  clear hK K
  refine take_in (i := 6) (oi := ⟨_, _, _, _, _, _⟩) (v := ?_) rfl (by kernel_rfl) (by kernel_rfl) (by kernel_rfl) (fun _ _ _ h => h) (by rfl) ?_ HB7.out ?_
  rotate_left
  · intro W hW; go_simp; with_reducible rfl
  simp only [Act.put, List.setIfInBounds_toArray, List.set_cons_zero, List.set_cons_succ]
  refine take_in (i := 7) (oi := ⟨_, _, _, _, _, _⟩) (v := ?_) rfl (by kernel_rfl) (by kernel_rfl) (by kernel_rfl) (fun _ _ _ h => h) (by rfl) ?_ HB7.out ?_
  rotate_left
  · intro W hW; go_simp; with_reducible rfl
  simp only [Act.put, List.setIfInBounds_toArray, List.set_cons_zero, List.set_cons_succ]
  refine take_in (i := 8) (oi := ⟨_, _, _, _, _, _⟩) (v := ?_) rfl (by kernel_rfl) (by kernel_rfl) (by kernel_rfl) (fun _ _ _ h => h) (by rfl) ?_ HB7.out ?_
  rotate_left
  · intro W hW; go_simp; with_reducible rfl
  simp only [Act.put, List.setIfInBounds_toArray, List.set_cons_zero, List.set_cons_succ]
  refine take_in (i := 9) (oi := ⟨_, _, _, _, _, _⟩) (v := ?_) rfl (by kernel_rfl) (by kernel_rfl) (by kernel_rfl) (fun _ _ _ h => h) (by rfl) ?_ HB7.out ?_
  rotate_left
  · intro W hW; go_simp; with_reducible rfl
  simp only [Act.put, List.setIfInBounds_toArray, List.set_cons_zero, List.set_cons_succ]
  refine take_in (i := 10) (oi := ⟨_, _, _, _, _, _⟩) (v := ?_) rfl (by kernel_rfl) (by kernel_rfl) (by kernel_rfl) (fun _ _ _ h => h) (by rfl) ?_ HB7.out ?_
  rotate_left
  · intro W hW; go_simp; with_reducible rfl
  simp only [Act.put, List.setIfInBounds_toArray, List.set_cons_zero, List.set_cons_succ]
  refine wpAnyH_done (by kernel_rfl) ?_ _
  have HBW := Lib.hid (HB.out.trans (HB7.out.mono HB.out.size))
  have HO7 := Lib.hid (HO.out _ HBW.out)
  have HG7 := Lib.hid (Rg.below_grown HBW.out (Value.slice sa sn sc).ownBlock)
  obtain ⟨⟨q1, q2⟩, q3, q4, q5⟩ := HQ.out _ HB7.out
  clear HB5 HB6 HV HPL
  cases hh : hitN xs m p with
  | true =>
    obtain ⟨hpn, hys⟩ := HT.out p HC.out hh
    have HYS := Lib.hid hys; clear hh hys HT HF HC
    obtain ⟨g, rfl, hg7⟩ := HO7.out.at0 (by omega)
    have hgw := HLT.out g rfl
    have HPUT := Lib.hid (HO7.out.put hpn x)
    rw [HCX.out] at HPUT
    obtain ⟨_, _, _, cur, hh7, hs7, _⟩ := HO7.out.row
    have hcap := HO7.out.cap
    have hj : ∀ j, j < 3 → (w7.cell? ⟨g, p * 3 + j, none⟩).isSome = true := fun j hj => by
      rw [cell_of_row _ _ _ _ _ _ hh7, Array.getElem?_eq_getElem (by rw [hs7]; show _ < sc * 3; omega)]; rfl
    obtain ⟨u0, hu0⟩ := Option.isSome_iff_exists.1 (hj 0 (by omega))
    have hf0 := frozen_of_row w7 g (p * 3) _ _ hh7
    obtain ⟨u1, hu1⟩ := Option.isSome_iff_exists.1 (hj 1 (by omega))
    have hf1 := frozen_of_row w7 g (p * 3 + 1) _ _ hh7
    obtain ⟨u2, hu2⟩ := Option.isSome_iff_exists.1 (hj 2 (by omega))
    have hf2 := frozen_of_row w7 g (p * 3 + 2) _ _ hh7
    rw [Nat.add_zero] at hu0
    have hne : g ≠ w.heap.size := by omega
    have hne2 : g ≠ w.heap.size + 1 := by omega
    have hne3 : w.heap.size ≠ g := by omega
    have hne4 : w.heap.size + 1 ≠ g := by omega
    clear hh7 hs7 hj hcap hg7
    go_wp2
    try go_ret
    refine HPOST.out (some ⟨g, 0, none⟩) sn sc _ ?_ ?_
    · rw [HYS.out]; exact HPUT.out.1
    · exact Rg.grown_trans HG7.out HPUT.out.2
  | false =>
    obtain ⟨hpn, hys⟩ := HF.out p HC.out hh
    have HYS := Lib.hid hys; clear hh hys HT HF HC
    have HPN := Lib.hid hpn; clear hpn
    have HLL := Lib.hid hl; clear hl
    go_wp2_with fail
    refine (insert_B sa sn sc p xs base _ (HO7.out.alloc _) (by rw [World.size_alloc]; exact Nat.le_trans HBASE.out (Nat.le_trans HBW.out.size (Nat.le_succ _))) HPN.out HLL.out x w7.heap.size (by rw [HCX.out]; exact hat _ _ _ rfl) (fun e => by have := HOB.out _ e; have := HBW.out.size; omega)).mono ?_
    rintro e w8 ⟨A', c', rfl, ho8, hg8⟩
    have HO8 := Lib.hid ho8; have HG8 := Lib.hid hg8; clear ho8 hg8 q1 q2 q3 q4 q5
    go_wp2
    try go_ret
    refine HPOST.out A' (sn + 1) c' w8 ?_ ?_
    · rw [HYS.out]; exact HO8.out
    · exact Rg.grown_trans (Rg.grown_trans HG7.out (World.grownBy_alloc _ _ _)) HG8.out
end Go.Proofs.YtfblnomkafimhaaGreat.Fow

namespace Go.Proofs.YtfblnomkafimhaaGreat.Fow
set_option maxRecDepth 20000
open Go.RowKit
open Chg Vw Cl Bk Lg Fo Clw Bkw
open Chgw (hat hbe vw ret_bool ret_i64 Vx)
open Rg (bal)

theorem insert_C (A : Option Addr) (n c p : Nat) (xs : List XC) (base : Nat) (w : World) (ho : Rg.OwnG KCs w base A n c xs) (hb : base ≤ w.heap.size) (hp : p ≤ n) (hl : n ≤ 4096) (x : XC) (gv : Nat) (hv : w.heap[gv]? = some (.cells (KCs.cells x).toArray 71)) (hne : (Value.slice A n c).ownBlock ≠ some gv) :
    Calls Tryz.prog 126 #[.slice A n c, .int .i64 (p : Int), .slice (some ⟨gv, 0, none⟩) 1 1] w (RetInC w base A n c (Rg.ins xs p x)) := by
  rcases Nat.lt_or_ge p n with h | h
  · obtain ⟨g, rfl, hg⟩ := ho.at0 (by omega)
    have hcap := ho.cap
    rcases Nat.lt_or_ge n c with h1 | h1
    · exact ins_shift_C g n c p xs base w ho h (by omega) x gv hv (fun e => hne (by rw [e]; rfl))
    · obtain rfl : c = n := by omega
      exact ins_grow_C g c p xs base w ho hb h hl x gv hv
  · obtain rfl : p = n := by omega
    rw [ho.1, Rg.ins_end, ← ho.1]
    exact ins_end_C A p c xs base w ho hb hl x gv hv
/-- put is answered -/
def RetPutC (w : World) (base : Nat) (s : Sl) (ys : List XC) (e : Ending) (w' : World) : Prop := ∃ s' : Sl, e = .returned (.slice s'.a s'.n s'.c) ∧ Rg.OwnG KCs w' base s'.a s'.n s'.c ys ∧ w.grownBy w' (Value.slice s.a s.n s.c).ownBlock
set_option maxHeartbeats 4000000 in
theorem put_C (s : Sl) (xs : List XC) (x : XC) (hx : V64 x.1) (base : Nat) (w : World) (ho : Rg.OwnG KCs w base s.a s.n s.c xs) (hb : base ≤ w.heap.size) (hl : s.n ≤ 4096) (hs : Sd xs) (ha : A64 xs) :
    Calls Tryz.prog 94 #[shvC s, elC x] w (RetPutC w base s (putP xs x)) := by
  have HPL : Hid (∀ W, Below w.heap.size w W → Calls Tryz.prog 86 #[shvC s, vw (x.1.1 : Int) (x.1.2 : Int)] W fun e w' => ∃ p, e = .returned (.tuple #[.int .i64 ((p : Nat) : Int), .bool (hitN xs (name2 x.1) p)]) ∧ Cut xs (name2 x.1) p ∧ Below W.heap.size W w') := Lib.hid (fun W hW => place_C s xs x.1 hx ho.1 hl hs ha W.heap.size W ((ho.below hW (Nat.le_refl _)).rs) (Nat.le_refl _))
  have HV := Lib.hid (viewof_C x)
  have HT : Hid (∀ p, Cut xs (name2 x.1) p → hitN xs (name2 x.1) p = true → p < s.n ∧ putP xs x = xs.set p x) := Lib.hid (fun p _ h => by
    obtain ⟨a, h1, _⟩ := hit_some hs ha hx h
    exact ⟨by rw [ho.1]; exact lt_of_get h1, putP_hit p hs h1⟩)
  have HF : Hid (∀ p, Cut xs (name2 x.1) p → hitN xs (name2 x.1) p = false → p ≤ s.n ∧ putP xs x = Rg.ins xs p x) := Lib.hid (fun p hc h => ⟨by rw [ho.1]; exact hc.1, putP_miss p hc h hs⟩)
  have HO : Hid (∀ W, Below w.heap.size w W → Rg.OwnG KCs W base s.a s.n s.c xs) := Lib.hid (fun W hW => ho.below hW (Nat.le_refl _))
  have HBASE := Lib.hid hb
  have HLT : Hid (∀ g, s.a = some ⟨g, 0, none⟩ → g < w.heap.size) := Lib.hid (fun g e => (ho.2.lt g (by rw [e]; rfl)).2)
  have HOB : Hid (∀ k, (Value.slice s.a s.n s.c).ownBlock = some k → k < w.heap.size) := Lib.hid (fun k hk => (ho.2.lt k hk).2)
  generalize putP xs x = ys at HT HF ⊢
  generalize name2 x.1 = m at HPL HT HF
  clear hb hs ha hx ho
  have HPOST : Hid (∀ A' n' c' W, Rg.OwnG KCs W base A' n' c' ys → w.grownBy W (Value.slice s.a s.n s.c).ownBlock → RetPutC w base s ys (.returned (.slice A' n' c')) W) := Lib.hid (fun A' n' c' W h1 h2 => ⟨⟨A', n', c'⟩, rfl, h1, h2⟩)
  generalize RetPutC w base s ys = PP at HPOST ⊢
  obtain ⟨sa, sn, sc⟩ := s
  unfold shvC vofC at HPL
  unfold shvC vofC
  simp only at HPL HT HF HO HLT HOB HPOST hl ⊢
  have hpat : ∀ (va vd : Nat) (sb : Sl), x = ((va, vd), sb) → True := fun _ _ _ _ => trivial
  clear hpat
  obtain ⟨y, hy⟩ : ∃ y, y = x := ⟨x, rfl⟩
  rw [← hy]
  have HXY := Lib.hid hy; clear hy
  have HELT : Hid (elC y = elC x) := Lib.hid (by rw [HXY.out])
  rw [HELT.out]
  clear HELT
  have HCX : Hid (KCs.cells x = [.int .i64 (x.1.1 : Int), .int .i64 (x.1.2 : Int), .slice x.2.a x.2.n x.2.c]) := Lib.hid rfl
  rw [show elC x = .agg #[.int .i64 (x.1.1 : Int), .int .i64 (x.1.2 : Int), .slice x.2.a x.2.n x.2.c] from rfl] at HV ⊢
  unfold vw at HV HPL
  have hsf := store_fnC
  go_enter Tryz.func94, Tryz.ntmps94
  go_upto_region 1 with (fail)
  have HX := Lib.hid (show ((w.alloc (.cells #[.slice sa sn sc, .func (.func 85) #[] #[]] 92)).alloc (.cells #[.int .i64 (x.1.1 : Int), .int .i64 (x.1.2 : Int), .slice x.2.a x.2.n x.2.c] 71)).heap[w.heap.size]? = some (.cells #[.slice sa sn sc, .func (.func 85) #[] #[]] 92) from hbe (hat _ _ _ rfl))
  have HE := Lib.hid (show ((w.alloc (.cells #[.slice sa sn sc, .func (.func 85) #[] #[]] 92)).alloc (.cells #[.int .i64 (x.1.1 : Int), .int .i64 (x.1.2 : Int), .slice x.2.a x.2.n x.2.c] 71)).heap[w.heap.size + 1]? = some (.cells #[.int .i64 (x.1.1 : Int), .int .i64 (x.1.2 : Int), .slice x.2.a x.2.n x.2.c] 71) from hat _ _ _ (by simp))
  have HB := Lib.hid (bal (bal (Below.refl w.heap.size w) (Nat.le_refl _) (.cells #[.slice sa sn sc, .func (.func 85) #[] #[]] 92)) (Nat.le_refl _) (.cells #[.int .i64 (x.1.1 : Int), .int .i64 (x.1.2 : Int), .slice x.2.a x.2.n x.2.c] 71))
  generalize ((w.alloc (.cells #[.slice sa sn sc, .func (.func 85) #[] #[]] 92)).alloc (.cells #[.int .i64 (x.1.1 : Int), .int .i64 (x.1.2 : Int), .slice x.2.a x.2.n x.2.c] 71)) = w1 at HX HE HB ⊢
  have HQ : Hid (∀ W, Below w1.heap.size w1 W → (W.cell? ⟨w.heap.size, 0, none⟩ = some (.slice sa sn sc) ∧ W.cell? ⟨w.heap.size, 1, none⟩ = some (.func (.func 85) #[] #[])) ∧ W.cell? ⟨w.heap.size + 1, 0, none⟩ = some (.int .i64 (x.1.1 : Int)) ∧ W.cell? ⟨w.heap.size + 1, 1, none⟩ = some (.int .i64 (x.1.2 : Int)) ∧ W.cell? ⟨w.heap.size + 1, 2, none⟩ = some (.slice x.2.a x.2.n x.2.c)) := Lib.hid (fun W hb => by
    have h1 := (hb.block _ (Array.getElem?_eq_some_iff.1 HX.out).1).trans HX.out
    have h2 := (hb.block _ (Array.getElem?_eq_some_iff.1 HE.out).1).trans HE.out
    exact ⟨cells2 h1, cells3 h2⟩)
  clear HX HE
  refine wp_region_held_drew (S := fun W' => Below w1.heap.size w1 W') (by kernel_rfl) (Below.refl _ _).drew (fun hHeld => ?_)
  generalize w1.drew = w5 at hHeld ⊢
  have HB5 : Hid (Below w1.heap.size w1 w5) := hHeld
  clear hHeld
  refine take_in (i := 0) (oi := ⟨_, _, _, _, _, _⟩) (v := ?_) rfl (by kernel_rfl) (by kernel_rfl) (by kernel_rfl) (fun _ _ _ h => h) (by rfl) ?_ HB5.out ?_
  rotate_left
  · intro W hW; obtain ⟨⟨q1, q2⟩, q3, q4, q5⟩ := HQ.out W hW; go_simp; with_reducible rfl
  simp only [Act.put, List.setIfInBounds_toArray, List.set_cons_zero, List.set_cons_succ]
  refine take_in (i := 1) (oi := ⟨_, _, _, _, _, _⟩) (v := ?_) rfl (by kernel_rfl) (by kernel_rfl) (by kernel_rfl) (fun _ _ _ h => h) (by rfl) ?_ HB5.out ?_
  rotate_left
  · intro W hW; obtain ⟨⟨q1, q2⟩, q3, q4, q5⟩ := HQ.out W hW; go_simp; with_reducible rfl
  simp only [Act.put, List.setIfInBounds_toArray, List.set_cons_zero, List.set_cons_succ]
  refine take_in (i := 2) (oi := ⟨_, _, _, _, _, _⟩) (v := ?_) rfl (by kernel_rfl) (by kernel_rfl) (by kernel_rfl) (fun _ _ _ h => h) (by rfl) ?_ HB5.out ?_
  rotate_left
  · intro W hW; obtain ⟨⟨q1, q2⟩, q3, q4, q5⟩ := HQ.out W hW; go_simp; with_reducible rfl
  simp only [Act.put, List.setIfInBounds_toArray, List.set_cons_zero, List.set_cons_succ]
  refine take_in (i := 3) (oi := ⟨_, _, _, _, _, _⟩) (v := ?_) rfl (by kernel_rfl) (by kernel_rfl) (by kernel_rfl) (fun _ _ _ h => h) (by rfl) ?_ HB5.out ?_
  rotate_left
  · intro W hW; obtain ⟨⟨q1, q2⟩, q3, q4, q5⟩ := HQ.out W hW; go_simp; with_reducible rfl
  simp only [Act.put, List.setIfInBounds_toArray, List.set_cons_zero, List.set_cons_succ]
  refine wpAnyH_ready (rs := [4]) (by kernel_rfl) (by simp) ?_
  refine AllReadyH.cons (o := ⟨_, _, _, _, _, _⟩) rfl (fun K hK => ?_) AllReadyH.nil
  go_simp
  refine (HV.out w5).mono ?_
  rintro e w6 ⟨rfl, hb6⟩
  have HB6 := Lib.hid (HB5.out.trans (hb6.mono HB5.out.size)); clear hb6
  refine hK.out _ _ HB6.out (fun _ => ?_)
  clear hK K
  refine wpAnyH_ready (rs := [5]) (by kernel_rfl) (by simp) ?_
  refine AllReadyH.cons (o := ⟨_, _, _, _, _, _⟩) rfl (fun K hK => ?_) AllReadyH.nil
  go_simp
  refine (HPL.out w6 (HB.out.trans (HB6.out.mono HB.out.size))).mono ?_
  rintro e w7 ⟨p, rfl, hc, hb7⟩
  have HB7 := Lib.hid (HB6.out.trans (hb7.mono HB6.out.size)); clear hb7
  have HC := Lib.hid hc; clear hc
  refine hK.out _ _ HB7.out (fun _ => ?_)
  clear hK K
  refine take_in (i := 6) (oi := ⟨_, _, _, _, _, _⟩) (v := ?_) rfl (by kernel_rfl) (by kernel_rfl) (by kernel_rfl) (fun _ _ _ h => h) (by rfl) ?_ HB7.out ?_
  rotate_left
  · intro W hW; go_simp; with_reducible rfl
  simp only [Act.put, List.setIfInBounds_toArray, List.set_cons_zero, List.set_cons_succ]
  refine take_in (i := 7) (oi := ⟨_, _, _, _, _, _⟩) (v := ?_) rfl (by kernel_rfl) (by kernel_rfl) (by kernel_rfl) (fun _ _ _ h => h) (by rfl) ?_ HB7.out ?_
  rotate_left
  · intro W hW; go_simp; with_reducible rfl
  simp only [Act.put, List.setIfInBounds_toArray, List.set_cons_zero, List.set_cons_succ]
  refine take_in (i := 8) (oi := ⟨_, _, _, _, _, _⟩) (v := ?_) rfl (by kernel_rfl) (by kernel_rfl) (by kernel_rfl) (fun _ _ _ h => h) (by rfl) ?_ HB7.out ?_
  rotate_left
  · intro W hW; go_simp; with_reducible rfl
  simp only [Act.put, List.setIfInBounds_toArray, List.set_cons_zero, List.set_cons_succ]
  refine take_in (i := 9) (oi := ⟨_, _, _, _, _, _⟩) (v := ?_) rfl (by kernel_rfl) (by kernel_rfl) (by kernel_rfl) (fun _ _ _ h => h) (by rfl) ?_ HB7.out ?_
  rotate_left
  · intro W hW; go_simp; with_reducible rfl
  simp only [Act.put, List.setIfInBounds_toArray, List.set_cons_zero, List.set_cons_succ]
  refine take_in (i := 10) (oi := ⟨_, _, _, _, _, _⟩) (v := ?_) rfl (by kernel_rfl) (by kernel_rfl) (by kernel_rfl) (fun _ _ _ h => h) (by rfl) ?_ HB7.out ?_
  rotate_left
  · intro W hW; go_simp; with_reducible rfl
  simp only [Act.put, List.setIfInBounds_toArray, List.set_cons_zero, List.set_cons_succ]
  refine wpAnyH_done (by kernel_rfl) ?_ _
  have HBW := Lib.hid (HB.out.trans (HB7.out.mono HB.out.size))
  have HO7 := Lib.hid (HO.out _ HBW.out)
  have HG7 := Lib.hid (Rg.below_grown HBW.out (Value.slice sa sn sc).ownBlock)
  obtain ⟨⟨q1, q2⟩, q3, q4, q5⟩ := HQ.out _ HB7.out
  clear HB5 HB6 HV HPL
  cases hh : hitN xs m p with
  | true =>
    obtain ⟨hpn, hys⟩ := HT.out p HC.out hh
    have HYS := Lib.hid hys; clear hh hys HT HF HC
    obtain ⟨g, rfl, hg7⟩ := HO7.out.at0 (by omega)
    have hgw := HLT.out g rfl
    have HPUT := Lib.hid (HO7.out.put hpn x)
    rw [HCX.out] at HPUT
    obtain ⟨_, _, _, cur, hh7, hs7, _⟩ := HO7.out.row
    have hcap := HO7.out.cap
    have hj : ∀ j, j < 3 → (w7.cell? ⟨g, p * 3 + j, none⟩).isSome = true := fun j hj => by
      rw [cell_of_row _ _ _ _ _ _ hh7, Array.getElem?_eq_getElem (by rw [hs7]; show _ < sc * 3; omega)]; rfl
    obtain ⟨u0, hu0⟩ := Option.isSome_iff_exists.1 (hj 0 (by omega))
    have hf0 := frozen_of_row w7 g (p * 3) _ _ hh7
    obtain ⟨u1, hu1⟩ := Option.isSome_iff_exists.1 (hj 1 (by omega))
    have hf1 := frozen_of_row w7 g (p * 3 + 1) _ _ hh7
    obtain ⟨u2, hu2⟩ := Option.isSome_iff_exists.1 (hj 2 (by omega))
    have hf2 := frozen_of_row w7 g (p * 3 + 2) _ _ hh7
    rw [Nat.add_zero] at hu0
    have hne : g ≠ w.heap.size := by omega
    have hne2 : g ≠ w.heap.size + 1 := by omega
    have hne3 : w.heap.size ≠ g := by omega
    have hne4 : w.heap.size + 1 ≠ g := by omega
    clear hh7 hs7 hj hcap hg7
    go_wp2
    try go_ret
    refine HPOST.out (some ⟨g, 0, none⟩) sn sc _ ?_ ?_
    · rw [HYS.out]; exact HPUT.out.1
    · exact Rg.grown_trans HG7.out HPUT.out.2
  | false =>
    obtain ⟨hpn, hys⟩ := HF.out p HC.out hh
    have HYS := Lib.hid hys; clear hh hys HT HF HC
    have HPN := Lib.hid hpn; clear hpn
    have HLL := Lib.hid hl; clear hl
    go_wp2_with fail
    refine (insert_C sa sn sc p xs base _ (HO7.out.alloc _) (by rw [World.size_alloc]; exact Nat.le_trans HBASE.out (Nat.le_trans HBW.out.size (Nat.le_succ _))) HPN.out HLL.out x w7.heap.size (by rw [HCX.out]; exact hat _ _ _ rfl) (fun e => by have := HOB.out _ e; have := HBW.out.size; omega)).mono ?_
    rintro e w8 ⟨A', c', rfl, ho8, hg8⟩
    have HO8 := Lib.hid ho8; have HG8 := Lib.hid hg8; clear ho8 hg8 q1 q2 q3 q4 q5
    go_wp2
    try go_ret
    refine HPOST.out A' (sn + 1) c' w8 ?_ ?_
    · rw [HYS.out]; exact HO8.out
    · exact Rg.grown_trans (Rg.grown_trans HG7.out (World.grownBy_alloc _ _ _)) HG8.out
end Go.Proofs.YtfblnomkafimhaaGreat.Fow

namespace Go.Proofs.YtfblnomkafimhaaGreat.Fow
set_option maxRecDepth 20000
open Go.RowKit
open Chg Vw Cl Bk Lg Fo Clw Bkw
open Chgw (hat hbe vw ret_bool ret_i64 Vx)
open Rg (bal)

theorem insert_I (A : Option Addr) (n c p : Nat) (xs : List XI) (base : Nat) (w : World) (ho : Rg.OwnG KI w base A n c xs) (hb : base ≤ w.heap.size) (hp : p ≤ n) (hl : n ≤ 4096) (x : XI) (gv : Nat) (hv : w.heap[gv]? = some (.cells (KI.cells x).toArray 73)) (hne : (Value.slice A n c).ownBlock ≠ some gv) :
    Calls Tryz.prog 127 #[.slice A n c, .int .i64 (p : Int), .slice (some ⟨gv, 0, none⟩) 1 1] w (RetInI w base A n c (Rg.ins xs p x)) := by
  rcases Nat.lt_or_ge p n with h | h
  · obtain ⟨g, rfl, hg⟩ := ho.at0 (by omega)
    have hcap := ho.cap
    rcases Nat.lt_or_ge n c with h1 | h1
    · exact ins_shift_I g n c p xs base w ho h (by omega) x gv hv (fun e => hne (by rw [e]; rfl))
    · obtain rfl : c = n := by omega
      exact ins_grow_I g c p xs base w ho hb h hl x gv hv
  · obtain rfl : p = n := by omega
    rw [ho.1, Rg.ins_end, ← ho.1]
    exact ins_end_I A p c xs base w ho hb hl x gv hv
/-- put is answered -/
def RetPutI (w : World) (base : Nat) (s : Sl) (ys : List XI) (e : Ending) (w' : World) : Prop := ∃ s' : Sl, e = .returned (.slice s'.a s'.n s'.c) ∧ Rg.OwnG KI w' base s'.a s'.n s'.c ys ∧ w.grownBy w' (Value.slice s.a s.n s.c).ownBlock
set_option maxHeartbeats 4000000 in
theorem put_I (s : Sl) (xs : List XI) (x : XI) (hx : V64 x.1) (base : Nat) (w : World) (ho : Rg.OwnG KI w base s.a s.n s.c xs) (hb : base ≤ w.heap.size) (hl : s.n ≤ 4096) (hs : Sd xs) (ha : A64 xs) :
    Calls Tryz.prog 95 #[shvI s, elI x] w (RetPutI w base s (putP xs x)) := by
  have HPL : Hid (∀ W, Below w.heap.size w W → Calls Tryz.prog 80 #[shvI s, vw (x.1.1 : Int) (x.1.2 : Int)] W fun e w' => ∃ p, e = .returned (.tuple #[.int .i64 ((p : Nat) : Int), .bool (hitN xs (name2 x.1) p)]) ∧ Cut xs (name2 x.1) p ∧ Below W.heap.size W w') := Lib.hid (fun W hW => place_I s xs x.1 hx ho.1 hl hs ha W.heap.size W ((ho.below hW (Nat.le_refl _)).rs) (Nat.le_refl _))
  have HV := Lib.hid (viewof_I x)
  have HT : Hid (∀ p, Cut xs (name2 x.1) p → hitN xs (name2 x.1) p = true → p < s.n ∧ putP xs x = xs.set p x) := Lib.hid (fun p _ h => by
    obtain ⟨a, h1, _⟩ := hit_some hs ha hx h
    exact ⟨by rw [ho.1]; exact lt_of_get h1, putP_hit p hs h1⟩)
  have HF : Hid (∀ p, Cut xs (name2 x.1) p → hitN xs (name2 x.1) p = false → p ≤ s.n ∧ putP xs x = Rg.ins xs p x) := Lib.hid (fun p hc h => ⟨by rw [ho.1]; exact hc.1, putP_miss p hc h hs⟩)
  have HO : Hid (∀ W, Below w.heap.size w W → Rg.OwnG KI W base s.a s.n s.c xs) := Lib.hid (fun W hW => ho.below hW (Nat.le_refl _))
  have HBASE := Lib.hid hb
  have HLT : Hid (∀ g, s.a = some ⟨g, 0, none⟩ → g < w.heap.size) := Lib.hid (fun g e => (ho.2.lt g (by rw [e]; rfl)).2)
  have HOB : Hid (∀ k, (Value.slice s.a s.n s.c).ownBlock = some k → k < w.heap.size) := Lib.hid (fun k hk => (ho.2.lt k hk).2)
  generalize putP xs x = ys at HT HF ⊢
  generalize name2 x.1 = m at HPL HT HF
  clear hb hs ha hx ho
  have HPOST : Hid (∀ A' n' c' W, Rg.OwnG KI W base A' n' c' ys → w.grownBy W (Value.slice s.a s.n s.c).ownBlock → RetPutI w base s ys (.returned (.slice A' n' c')) W) := Lib.hid (fun A' n' c' W h1 h2 => ⟨⟨A', n', c'⟩, rfl, h1, h2⟩)
  generalize RetPutI w base s ys = PP at HPOST ⊢
  obtain ⟨sa, sn, sc⟩ := s
  unfold shvI vofI at HPL
  unfold shvI vofI
  simp only at HPL HT HF HO HLT HOB HPOST hl ⊢
  have hpat : ∀ (va vd : Nat) (sb : (Nat × Nat)), x = ((va, vd), sb) → True := fun _ _ _ _ => trivial
  clear hpat
  obtain ⟨y, hy⟩ : ∃ y, y = x := ⟨x, rfl⟩
  rw [← hy]
  have HXY := Lib.hid hy; clear hy
  have HELT : Hid (elI y = elI x) := Lib.hid (by rw [HXY.out])
  rw [HELT.out]
  clear HELT
  have HCX : Hid (KI.cells x = [.int .i64 (x.1.1 : Int), .int .i64 (x.1.2 : Int), .int .i64 (x.2.1 : Int), .int .i64 (x.2.2 : Int)]) := Lib.hid rfl
  rw [show elI x = .agg #[.int .i64 (x.1.1 : Int), .int .i64 (x.1.2 : Int), .int .i64 (x.2.1 : Int), .int .i64 (x.2.2 : Int)] from rfl] at HV ⊢
  unfold vw at HV HPL
  have hsf := store_fnI
  go_enter Tryz.func95, Tryz.ntmps95
  go_upto_region 1 with (fail)
  have HX := Lib.hid (show ((w.alloc (.cells #[.slice sa sn sc, .func (.func 79) #[] #[]] 79)).alloc (.cells #[.int .i64 (x.1.1 : Int), .int .i64 (x.1.2 : Int), .int .i64 (x.2.1 : Int), .int .i64 (x.2.2 : Int)] 73)).heap[w.heap.size]? = some (.cells #[.slice sa sn sc, .func (.func 79) #[] #[]] 79) from hbe (hat _ _ _ rfl))
  have HE := Lib.hid (show ((w.alloc (.cells #[.slice sa sn sc, .func (.func 79) #[] #[]] 79)).alloc (.cells #[.int .i64 (x.1.1 : Int), .int .i64 (x.1.2 : Int), .int .i64 (x.2.1 : Int), .int .i64 (x.2.2 : Int)] 73)).heap[w.heap.size + 1]? = some (.cells #[.int .i64 (x.1.1 : Int), .int .i64 (x.1.2 : Int), .int .i64 (x.2.1 : Int), .int .i64 (x.2.2 : Int)] 73) from hat _ _ _ (by simp))
  have HB := Lib.hid (bal (bal (Below.refl w.heap.size w) (Nat.le_refl _) (.cells #[.slice sa sn sc, .func (.func 79) #[] #[]] 79)) (Nat.le_refl _) (.cells #[.int .i64 (x.1.1 : Int), .int .i64 (x.1.2 : Int), .int .i64 (x.2.1 : Int), .int .i64 (x.2.2 : Int)] 73))
  generalize ((w.alloc (.cells #[.slice sa sn sc, .func (.func 79) #[] #[]] 79)).alloc (.cells #[.int .i64 (x.1.1 : Int), .int .i64 (x.1.2 : Int), .int .i64 (x.2.1 : Int), .int .i64 (x.2.2 : Int)] 73)) = w1 at HX HE HB ⊢
  have HQ : Hid (∀ W, Below w1.heap.size w1 W → (W.cell? ⟨w.heap.size, 0, none⟩ = some (.slice sa sn sc) ∧ W.cell? ⟨w.heap.size, 1, none⟩ = some (.func (.func 79) #[] #[])) ∧ W.cell? ⟨w.heap.size + 1, 0, none⟩ = some (.int .i64 (x.1.1 : Int)) ∧ W.cell? ⟨w.heap.size + 1, 1, none⟩ = some (.int .i64 (x.1.2 : Int)) ∧ W.cell? ⟨w.heap.size + 1, 2, none⟩ = some (.int .i64 (x.2.1 : Int)) ∧ W.cell? ⟨w.heap.size + 1, 3, none⟩ = some (.int .i64 (x.2.2 : Int))) := Lib.hid (fun W hb => by
    have h1 := (hb.block _ (Array.getElem?_eq_some_iff.1 HX.out).1).trans HX.out
    have h2 := (hb.block _ (Array.getElem?_eq_some_iff.1 HE.out).1).trans HE.out
    exact ⟨cells2 h1, cells4 h2⟩)
  clear HX HE
  refine wp_region_held_drew (S := fun W' => Below w1.heap.size w1 W') (by kernel_rfl) (Below.refl _ _).drew (fun hHeld => ?_)
  generalize w1.drew = w5 at hHeld ⊢
  have HB5 : Hid (Below w1.heap.size w1 w5) := hHeld
  clear hHeld
  refine take_in (i := 0) (oi := ⟨_, _, _, _, _, _⟩) (v := ?_) rfl (by kernel_rfl) (by kernel_rfl) (by kernel_rfl) (fun _ _ _ h => h) (by rfl) ?_ HB5.out ?_
  rotate_left
  · intro W hW; obtain ⟨⟨q1, q2⟩, q3, q4, q5, q6⟩ := HQ.out W hW; go_simp; with_reducible rfl
  simp only [Act.put, List.setIfInBounds_toArray, List.set_cons_zero, List.set_cons_succ]
  refine take_in (i := 1) (oi := ⟨_, _, _, _, _, _⟩) (v := ?_) rfl (by kernel_rfl) (by kernel_rfl) (by kernel_rfl) (fun _ _ _ h => h) (by rfl) ?_ HB5.out ?_
  rotate_left
  · intro W hW; obtain ⟨⟨q1, q2⟩, q3, q4, q5, q6⟩ := HQ.out W hW; go_simp; with_reducible rfl
  simp only [Act.put, List.setIfInBounds_toArray, List.set_cons_zero, List.set_cons_succ]
  refine take_in (i := 2) (oi := ⟨_, _, _, _, _, _⟩) (v := ?_) rfl (by kernel_rfl) (by kernel_rfl) (by kernel_rfl) (fun _ _ _ h => h) (by rfl) ?_ HB5.out ?_
  rotate_left
  · intro W hW; obtain ⟨⟨q1, q2⟩, q3, q4, q5, q6⟩ := HQ.out W hW; go_simp; with_reducible rfl
  simp only [Act.put, List.setIfInBounds_toArray, List.set_cons_zero, List.set_cons_succ]
  refine take_in (i := 3) (oi := ⟨_, _, _, _, _, _⟩) (v := ?_) rfl (by kernel_rfl) (by kernel_rfl) (by kernel_rfl) (fun _ _ _ h => h) (by rfl) ?_ HB5.out ?_
  rotate_left
  · intro W hW; obtain ⟨⟨q1, q2⟩, q3, q4, q5, q6⟩ := HQ.out W hW; go_simp; with_reducible rfl
  simp only [Act.put, List.setIfInBounds_toArray, List.set_cons_zero, List.set_cons_succ]
  refine wpAnyH_ready (rs := [4]) (by kernel_rfl) (by simp) ?_
  refine AllReadyH.cons (o := ⟨_, _, _, _, _, _⟩) rfl (fun K hK => ?_) AllReadyH.nil
  go_simp
  refine (HV.out w5).mono ?_
  rintro e w6 ⟨rfl, hb6⟩
  have HB6 := Lib.hid (HB5.out.trans (hb6.mono HB5.out.size)); clear hb6
  refine hK.out _ _ HB6.out (fun _ => ?_)
  clear hK K
  refine wpAnyH_ready (rs := [5]) (by kernel_rfl) (by simp) ?_
  refine AllReadyH.cons (o := ⟨_, _, _, _, _, _⟩) rfl (fun K hK => ?_) AllReadyH.nil
  go_simp
  refine (HPL.out w6 (HB.out.trans (HB6.out.mono HB.out.size))).mono ?_
  rintro e w7 ⟨p, rfl, hc, hb7⟩
  have HB7 := Lib.hid (HB6.out.trans (hb7.mono HB6.out.size)); clear hb7
  have HC := Lib.hid hc; clear hc
  refine hK.out _ _ HB7.out (fun _ => ?_)
  clear hK K
  refine take_in (i := 6) (oi := ⟨_, _, _, _, _, _⟩) (v := ?_) rfl (by kernel_rfl) (by kernel_rfl) (by kernel_rfl) (fun _ _ _ h => h) (by rfl) ?_ HB7.out ?_
  rotate_left
  · intro W hW; go_simp; with_reducible rfl
  simp only [Act.put, List.setIfInBounds_toArray, List.set_cons_zero, List.set_cons_succ]
  refine take_in (i := 7) (oi := ⟨_, _, _, _, _, _⟩) (v := ?_) rfl (by kernel_rfl) (by kernel_rfl) (by kernel_rfl) (fun _ _ _ h => h) (by rfl) ?_ HB7.out ?_
  rotate_left
  · intro W hW; go_simp; with_reducible rfl
  simp only [Act.put, List.setIfInBounds_toArray, List.set_cons_zero, List.set_cons_succ]
  refine take_in (i := 8) (oi := ⟨_, _, _, _, _, _⟩) (v := ?_) rfl (by kernel_rfl) (by kernel_rfl) (by kernel_rfl) (fun _ _ _ h => h) (by rfl) ?_ HB7.out ?_
  rotate_left
  · intro W hW; go_simp; with_reducible rfl
  simp only [Act.put, List.setIfInBounds_toArray, List.set_cons_zero, List.set_cons_succ]
  refine take_in (i := 9) (oi := ⟨_, _, _, _, _, _⟩) (v := ?_) rfl (by kernel_rfl) (by kernel_rfl) (by kernel_rfl) (fun _ _ _ h => h) (by rfl) ?_ HB7.out ?_
  rotate_left
  · intro W hW; go_simp; with_reducible rfl
  simp only [Act.put, List.setIfInBounds_toArray, List.set_cons_zero, List.set_cons_succ]
  refine take_in (i := 10) (oi := ⟨_, _, _, _, _, _⟩) (v := ?_) rfl (by kernel_rfl) (by kernel_rfl) (by kernel_rfl) (fun _ _ _ h => h) (by rfl) ?_ HB7.out ?_
  rotate_left
  · intro W hW; go_simp; with_reducible rfl
  simp only [Act.put, List.setIfInBounds_toArray, List.set_cons_zero, List.set_cons_succ]
  refine wpAnyH_done (by kernel_rfl) ?_ _
  have HBW := Lib.hid (HB.out.trans (HB7.out.mono HB.out.size))
  have HO7 := Lib.hid (HO.out _ HBW.out)
  have HG7 := Lib.hid (Rg.below_grown HBW.out (Value.slice sa sn sc).ownBlock)
  obtain ⟨⟨q1, q2⟩, q3, q4, q5, q6⟩ := HQ.out _ HB7.out
  clear HB5 HB6 HV HPL
  cases hh : hitN xs m p with
  | true =>
    obtain ⟨hpn, hys⟩ := HT.out p HC.out hh
    have HYS := Lib.hid hys; clear hh hys HT HF HC
    obtain ⟨g, rfl, hg7⟩ := HO7.out.at0 (by omega)
    have hgw := HLT.out g rfl
    have HPUT := Lib.hid (HO7.out.put hpn x)
    rw [HCX.out] at HPUT
    obtain ⟨_, _, _, cur, hh7, hs7, _⟩ := HO7.out.row
    have hcap := HO7.out.cap
    have hj : ∀ j, j < 4 → (w7.cell? ⟨g, p * 4 + j, none⟩).isSome = true := fun j hj => by
      rw [cell_of_row _ _ _ _ _ _ hh7, Array.getElem?_eq_getElem (by rw [hs7]; show _ < sc * 4; omega)]; rfl
    obtain ⟨u0, hu0⟩ := Option.isSome_iff_exists.1 (hj 0 (by omega))
    have hf0 := frozen_of_row w7 g (p * 4) _ _ hh7
    obtain ⟨u1, hu1⟩ := Option.isSome_iff_exists.1 (hj 1 (by omega))
    have hf1 := frozen_of_row w7 g (p * 4 + 1) _ _ hh7
    obtain ⟨u2, hu2⟩ := Option.isSome_iff_exists.1 (hj 2 (by omega))
    have hf2 := frozen_of_row w7 g (p * 4 + 2) _ _ hh7
    obtain ⟨u3, hu3⟩ := Option.isSome_iff_exists.1 (hj 3 (by omega))
    have hf3 := frozen_of_row w7 g (p * 4 + 3) _ _ hh7
    rw [Nat.add_zero] at hu0
    have hne : g ≠ w.heap.size := by omega
    have hne2 : g ≠ w.heap.size + 1 := by omega
    have hne3 : w.heap.size ≠ g := by omega
    have hne4 : w.heap.size + 1 ≠ g := by omega
    clear hh7 hs7 hj hcap hg7
    go_wp2
    try go_ret
    refine HPOST.out (some ⟨g, 0, none⟩) sn sc _ ?_ ?_
    · rw [HYS.out]; exact HPUT.out.1
    · exact Rg.grown_trans HG7.out HPUT.out.2
  | false =>
    obtain ⟨hpn, hys⟩ := HF.out p HC.out hh
    have HYS := Lib.hid hys; clear hh hys HT HF HC
    have HPN := Lib.hid hpn; clear hpn
    have HLL := Lib.hid hl; clear hl
    go_wp2_with fail
    refine (insert_I sa sn sc p xs base _ (HO7.out.alloc _) (by rw [World.size_alloc]; exact Nat.le_trans HBASE.out (Nat.le_trans HBW.out.size (Nat.le_succ _))) HPN.out HLL.out x w7.heap.size (by rw [HCX.out]; exact hat _ _ _ rfl) (fun e => by have := HOB.out _ e; have := HBW.out.size; omega)).mono ?_
    rintro e w8 ⟨A', c', rfl, ho8, hg8⟩
    have HO8 := Lib.hid ho8; have HG8 := Lib.hid hg8; clear ho8 hg8 q1 q2 q3 q4 q5 q6
    go_wp2
    try go_ret
    refine HPOST.out A' (sn + 1) c' w8 ?_ ?_
    · rw [HYS.out]; exact HO8.out
    · exact Rg.grown_trans (Rg.grown_trans HG7.out (World.grownBy_alloc _ _ _)) HG8.out
end Go.Proofs.YtfblnomkafimhaaGreat.Fow

namespace Go.Proofs.YtfblnomkafimhaaGreat.Fow
set_option maxRecDepth 20000
open Go.RowKit
open Chg Vw Cl Bk Lg Fo Clw Bkw
open Chgw (hat hbe vw ret_bool ret_i64 Vx)
open Rg (bal)

set_option maxHeartbeats 4000000 in
theorem book_c (s : St) (b c i : Sl) (w : World) (h : Sto w s b c i) (hw : WfS s) (v : Nat × Nat) (hv : V64 v) : Calls Tryz.prog 15 #[stv s b c i, vw (v.1 : Int) (v.2 : Int)] w (Rg.RetOwnG KEE w w.heap.size (bookS s v)) := by
  obtain ⟨xs, hn, hl, hs, ha, hr, hq⟩ := lookB h.1 hw v
  have HSH := Lib.hid (fun W => shelf_B s b c i W)
  have HFI : Hid (∀ W, Below w.heap.size w W → Calls Tryz.prog 42 #[shvB b, vw (v.1 : Int) (v.2 : Int)] W fun e w' => e = .returned (fndB v (lk xs v)) ∧ Below W.heap.size W w') := Lib.hid (fun W hW => find_B b xs v hv hn hl hs ha w.heap.size W (hr.below hW) hW.size)
  have HRES : Hid (∀ W, Below w.heap.size w W → Calls Tryz.prog 43 #[.slice ((lk xs v).getD nilS).a ((lk xs v).getD nilS).n ((lk xs v).getD nilS).c] W (Rg.RetOwnG KEE W W.heap.size (bookS s v))) := Lib.hid (fun W hW => clone_E _ _ _ _ w.heap.size W hq.1 ((re_rsF hq.2.2.2.2).below hW) hW.size hq.2.2.1)
  generalize bookS s v = res at HRES ⊢
  clear hq
  generalize lk xs v = o at HFI HRES
  clear hn hl hs ha hr h hw hv
  obtain ⟨va, vd⟩ := v
  simp only at HFI HRES ⊢
  obtain ⟨a1, a2, ta, t2, t3, hit, hfv, hsl⟩ : ∃ (a1 a2 : Int) (ta : Option Addr) (t2 t3 : Nat) (hit : Bool), fndB (va, vd) o = .tuple #[.agg #[.int .i64 a1, .int .i64 a2, .slice ta t2 t3], .bool hit] ∧ o.getD nilS = ⟨ta, t2, t3⟩ := by
    cases o with
    | none => exact ⟨0, 0, none, 0, 0, false, rfl, rfl⟩
    | some a => exact ⟨_, _, a.a, a.n, a.c, true, rfl, rfl⟩
  rw [hfv] at HFI
  rw [hsl] at HRES
  clear hfv hsl
  unfold shvB vofB at HSH HFI
  unfold vw at HFI ⊢
  unfold stv at HSH ⊢
  have hsf := store_fnB
  generalize hhd1 : (s.held.1 : Int) = hd1 at HSH ⊢
  generalize hhd2 : (s.held.2 : Int) = hd2 at HSH ⊢
  generalize s.inc = sinc at HSH ⊢
  generalize s.last = slast at HSH ⊢
  clear hhd1 hhd2
  go_enter Tryz.func15, Tryz.ntmps15
  go_upto_region 1 with (fail)
  have HX := Lib.hid (show ((w.alloc (.cells #[.slice b.a b.n b.c, .slice c.a c.n c.c, .slice i.a i.n i.c, .int .i64 hd1, .int .i64 hd2, .int .i64 sinc, .int .i64 slast] 28)).alloc (.cells #[.int .i64 (va : Int), .int .i64 (vd : Int)] 26)).heap[w.heap.size]? = some (.cells #[.slice b.a b.n b.c, .slice c.a c.n c.c, .slice i.a i.n i.c, .int .i64 hd1, .int .i64 hd2, .int .i64 sinc, .int .i64 slast] 28) from hbe (hat _ _ _ rfl))
  have HV := Lib.hid (show ((w.alloc (.cells #[.slice b.a b.n b.c, .slice c.a c.n c.c, .slice i.a i.n i.c, .int .i64 hd1, .int .i64 hd2, .int .i64 sinc, .int .i64 slast] 28)).alloc (.cells #[.int .i64 (va : Int), .int .i64 (vd : Int)] 26)).heap[w.heap.size + 1]? = some (.cells #[.int .i64 (va : Int), .int .i64 (vd : Int)] 26) from hat _ _ _ (by simp))
  have HB := Lib.hid (bal (bal (Below.refl w.heap.size w) (Nat.le_refl _) (.cells #[.slice b.a b.n b.c, .slice c.a c.n c.c, .slice i.a i.n i.c, .int .i64 hd1, .int .i64 hd2, .int .i64 sinc, .int .i64 slast] 28)) (Nat.le_refl _) (.cells #[.int .i64 (va : Int), .int .i64 (vd : Int)] 26))
  generalize ((w.alloc (.cells #[.slice b.a b.n b.c, .slice c.a c.n c.c, .slice i.a i.n i.c, .int .i64 hd1, .int .i64 hd2, .int .i64 sinc, .int .i64 slast] 28)).alloc (.cells #[.int .i64 (va : Int), .int .i64 (vd : Int)] 26)) = w1 at HX HV HB ⊢
  have HQ : Hid (∀ W, Below w1.heap.size w1 W → (W.cell? ⟨w.heap.size, 0, none⟩ = some (.slice b.a b.n b.c) ∧ W.cell? ⟨w.heap.size, 1, none⟩ = some (.slice c.a c.n c.c) ∧ W.cell? ⟨w.heap.size, 2, none⟩ = some (.slice i.a i.n i.c) ∧ W.cell? ⟨w.heap.size, 3, none⟩ = some (.int .i64 hd1) ∧ W.cell? ⟨w.heap.size, 4, none⟩ = some (.int .i64 hd2) ∧ W.cell? ⟨w.heap.size, 5, none⟩ = some (.int .i64 sinc) ∧ W.cell? ⟨w.heap.size, 6, none⟩ = some (.int .i64 slast)) ∧ W.cell? ⟨w.heap.size + 1, 0, none⟩ = some (.int .i64 (va : Int)) ∧ W.cell? ⟨w.heap.size + 1, 1, none⟩ = some (.int .i64 (vd : Int))) := Lib.hid (fun W hb => by
    have h1 := (hb.block _ (Array.getElem?_eq_some_iff.1 HX.out).1).trans HX.out
    have h2 := (hb.block _ (Array.getElem?_eq_some_iff.1 HV.out).1).trans HV.out
    refine ⟨⟨?_, ?_, ?_, ?_, ?_, ?_, ?_⟩, cells2 h2⟩ <;> (rw [cell_of_row _ _ _ _ _ _ h1]; rfl))
  clear HX HV
  refine wp_region_held_drew (S := fun W' => Below w1.heap.size w1 W') (by kernel_rfl) (Below.refl _ _).drew (fun hHeld => ?_)
  generalize w1.drew = w5 at hHeld ⊢
  have HC : Hid (Below w1.heap.size w1 w5) := hHeld
  clear hHeld
  refine take_in (i := 0) (oi := ⟨_, _, _, _, _, _⟩) (v := ?_) rfl (by kernel_rfl) (by kernel_rfl) (by kernel_rfl) (fun _ _ _ h => h) (by rfl) ?_ HC.out ?_
  rotate_left
  · intro W hW; obtain ⟨⟨q0, q1, q2, q3, q4, q5, q6⟩, q7, q8⟩ := HQ.out W hW; go_simp; with_reducible rfl
  simp only [Act.put, List.setIfInBounds_toArray, List.set_cons_zero, List.set_cons_succ]
  refine take_in (i := 2) (oi := ⟨_, _, _, _, _, _⟩) (v := ?_) rfl (by kernel_rfl) (by kernel_rfl) (by kernel_rfl) (fun _ _ _ h => h) (by rfl) ?_ HC.out ?_
  rotate_left
  · intro W hW; obtain ⟨⟨q0, q1, q2, q3, q4, q5, q6⟩, q7, q8⟩ := HQ.out W hW; go_simp; with_reducible rfl
  simp only [Act.put, List.setIfInBounds_toArray, List.set_cons_zero, List.set_cons_succ]
  refine wpAnyH_ready (rs := [1, 7]) (by kernel_rfl) (by simp) ?_
  refine AllReadyH.cons (o := ⟨_, _, _, _, _, _⟩) rfl (fun K hK => ?_) (AllReadyH.cons (o := ⟨_, _, _, _, _, _⟩) rfl (fun K hK => ?_) AllReadyH.nil)
  · go_simp
    refine (HSH.out w5).mono ?_
    rintro e x1 ⟨rfl, hb_⟩
    have HC := Lib.hid (HC.out.trans (hb_.mono HC.out.size)); clear hb_
    refine hK.out _ _ HC.out (fun _ => ?_)
    clear hK K
    refine wpAnyH_ready (rs := [3, 7]) (by kernel_rfl) (by simp) ?_
    refine AllReadyH.cons (o := ⟨_, _, _, _, _, _⟩) rfl (fun K hK => ?_) (AllReadyH.cons (o := ⟨_, _, _, _, _, _⟩) rfl (fun K hK => ?_) AllReadyH.nil)
    · go_simp
      refine (HFI.out x1 (HB.out.trans (HC.out.mono HB.out.size))).mono ?_
      rintro e x2 ⟨rfl, hb_⟩
      have HC := Lib.hid (HC.out.trans (hb_.mono HC.out.size)); clear hb_
      refine hK.out _ _ HC.out (fun _ => ?_)
      clear hK K
      clear HSH HFI
      refine take_in (i := 4) (oi := ⟨_, _, _, _, _, _⟩) (v := ?_) rfl (by kernel_rfl) (by kernel_rfl) (by kernel_rfl) (fun _ _ _ h => h) (by rfl) ?_ HC.out ?_
      rotate_left
      · intro W hW; go_simp; with_reducible rfl
      simp only [Act.put, List.setIfInBounds_toArray, List.set_cons_zero, List.set_cons_succ]
      refine take_in (i := 5) (oi := ⟨_, _, _, _, _, _⟩) (v := ?_) rfl (by kernel_rfl) (by kernel_rfl) (by kernel_rfl) (fun _ _ _ h => h) (by rfl) ?_ HC.out ?_
      rotate_left
      · intro W hW; go_simp; with_reducible rfl
      simp only [Act.put, List.setIfInBounds_toArray, List.set_cons_zero, List.set_cons_succ]
      refine take_in (i := 6) (oi := ⟨_, _, _, _, _, _⟩) (v := ?_) rfl (by kernel_rfl) (by kernel_rfl) (by kernel_rfl) (fun _ _ _ h => h) (by rfl) ?_ HC.out ?_
      rotate_left
      · intro W hW; go_simp; with_reducible rfl
      simp only [Act.put, List.setIfInBounds_toArray, List.set_cons_zero, List.set_cons_succ]
      refine wpAnyH_ready (rs := [7]) (by kernel_rfl) (by simp) ?_
      refine AllReadyH.cons (o := ⟨_, _, _, _, _, _⟩) rfl (fun K hK => ?_) AllReadyH.nil
      go_simp
      refine hK.out _ _ (bal HC.out (Nat.le_refl _) (.cells #[.int .i64 0, .int .i64 0, .slice none 0 0] 69)) (fun _ => ?_)
      clear hK K
      have HZ := Lib.hid (show (x2.alloc (.cells #[.int .i64 0, .int .i64 0, .slice none 0 0] 69)).heap[x2.heap.size]? = some (.cells #[.int .i64 0, .int .i64 0, .slice none 0 0] 69) from hat _ _ _ rfl)
      have HZN := Lib.hid (show w1.heap.size ≤ x2.heap.size from HC.out.size)
      have HC := Lib.hid (bal HC.out (Nat.le_refl _) (.cells #[.int .i64 0, .int .i64 0, .slice none 0 0] 69))
      generalize x2.alloc (.cells #[.int .i64 0, .int .i64 0, .slice none 0 0] 69) = x3 at HZ HC ⊢
      generalize x2.heap.size = gz at HZ HZN ⊢
      refine wpAnyH_ready (rs := [8]) (by kernel_rfl) (by simp) ?_
      refine AllReadyH.cons (o := ⟨_, _, _, _, _, _⟩) rfl (fun K hK => ?_) AllReadyH.nil
      obtain ⟨z0, z1, z2⟩ := cells3 HZ.out
      have f0 := frozen_of_row x3 gz 0 _ _ HZ.out; have f1 := frozen_of_row x3 gz 1 _ _ HZ.out; have f2 := frozen_of_row x3 gz 2 _ _ HZ.out
      go_simp
      refine hK.out _ _ (((HC.out.setCell HZN.out _).setCell HZN.out _).setCell HZN.out _) (fun _ => ?_)
      clear hK K
      have HZ := Lib.hid (show (((x3.setCell ⟨gz, 0, none⟩ (.int .i64 a1)).setCell ⟨gz, 1, none⟩ (.int .i64 a2)).setCell ⟨gz, 2, none⟩ (.slice ta t2 t3)).heap[gz]? = some (.cells #[.int .i64 a1, .int .i64 a2, .slice ta t2 t3] 69) from putsB HZ.out rfl _ _ _)
      have HC := Lib.hid (show Below w1.heap.size w1 (((x3.setCell ⟨gz, 0, none⟩ (.int .i64 a1)).setCell ⟨gz, 1, none⟩ (.int .i64 a2)).setCell ⟨gz, 2, none⟩ (.slice ta t2 t3)) from (((HC.out.setCell HZN.out _).setCell HZN.out _).setCell HZN.out _))
      refine take_in (i := 9) (oi := ⟨_, _, _, _, _, _⟩) (v := ?_) rfl (by kernel_rfl) (by kernel_rfl) (by kernel_rfl) (fun _ _ _ h => h) (by rfl) ?_ HC.out ?_
      rotate_left
      · intro W hW; go_simp; with_reducible rfl
      simp only [Act.put, List.setIfInBounds_toArray, List.set_cons_zero, List.set_cons_succ]
      refine wpAnyH_done (by kernel_rfl) ?_ _
      have HB := Lib.hid (HB.out.trans (HC.out.mono HB.out.size))
      generalize (((x3.setCell ⟨gz, 0, none⟩ (.int .i64 a1)).setCell ⟨gz, 1, none⟩ (.int .i64 a2)).setCell ⟨gz, 2, none⟩ (.slice ta t2 t3)) = y at HZ HC HB ⊢
      clear f0 f1 f2 z0 z1 z2
      obtain ⟨z0, z1, z2⟩ := cells3 HZ.out
      clear HC HZ HZN HQ
      go_wp2_with fail
      refine (HRES.out y HB.out).mono ?_
      rintro e y2 ⟨A, n, c2, rfl, ho, hb⟩
      have HO := Lib.hid (ho.base HB.out.size); have HB := Lib.hid (HB.out.trans (hb.mono HB.out.size)); clear ho hb
      go_wp2
      go_ret
      exact ⟨A, n, c2, rfl, HO.out, HB.out⟩
    · go_simp
      refine hK.out _ _ (bal HC.out (Nat.le_refl _) (.cells #[.int .i64 0, .int .i64 0, .slice none 0 0] 69)) (fun _ => ?_)
      clear hK K
      have HZ := Lib.hid (show (x1.alloc (.cells #[.int .i64 0, .int .i64 0, .slice none 0 0] 69)).heap[x1.heap.size]? = some (.cells #[.int .i64 0, .int .i64 0, .slice none 0 0] 69) from hat _ _ _ rfl)
      have HZN := Lib.hid (show w1.heap.size ≤ x1.heap.size from HC.out.size)
      have HC := Lib.hid (bal HC.out (Nat.le_refl _) (.cells #[.int .i64 0, .int .i64 0, .slice none 0 0] 69))
      generalize x1.alloc (.cells #[.int .i64 0, .int .i64 0, .slice none 0 0] 69) = x2 at HZ HC ⊢
      generalize x1.heap.size = gz at HZ HZN ⊢
      refine wpAnyH_ready (rs := [3]) (by kernel_rfl) (by simp) ?_
      refine AllReadyH.cons (o := ⟨_, _, _, _, _, _⟩) rfl (fun K hK => ?_) AllReadyH.nil
      go_simp
      refine (HFI.out x2 (HB.out.trans (HC.out.mono HB.out.size))).mono ?_
      rintro e x3 ⟨rfl, hb_⟩
      have HZ := Lib.hid ((hb_.block _ (Array.getElem?_eq_some_iff.1 HZ.out).1).trans HZ.out)
      have HC := Lib.hid (HC.out.trans (hb_.mono HC.out.size)); clear hb_
      refine hK.out _ _ HC.out (fun _ => ?_)
      clear hK K
      clear HSH HFI
      refine take_in (i := 4) (oi := ⟨_, _, _, _, _, _⟩) (v := ?_) rfl (by kernel_rfl) (by kernel_rfl) (by kernel_rfl) (fun _ _ _ h => h) (by rfl) ?_ HC.out ?_
      rotate_left
      · intro W hW; go_simp; with_reducible rfl
      simp only [Act.put, List.setIfInBounds_toArray, List.set_cons_zero, List.set_cons_succ]
      refine take_in (i := 5) (oi := ⟨_, _, _, _, _, _⟩) (v := ?_) rfl (by kernel_rfl) (by kernel_rfl) (by kernel_rfl) (fun _ _ _ h => h) (by rfl) ?_ HC.out ?_
      rotate_left
      · intro W hW; go_simp; with_reducible rfl
      simp only [Act.put, List.setIfInBounds_toArray, List.set_cons_zero, List.set_cons_succ]
      refine take_in (i := 6) (oi := ⟨_, _, _, _, _, _⟩) (v := ?_) rfl (by kernel_rfl) (by kernel_rfl) (by kernel_rfl) (fun _ _ _ h => h) (by rfl) ?_ HC.out ?_
      rotate_left
      · intro W hW; go_simp; with_reducible rfl
      simp only [Act.put, List.setIfInBounds_toArray, List.set_cons_zero, List.set_cons_succ]
      refine wpAnyH_ready (rs := [8]) (by kernel_rfl) (by simp) ?_
      refine AllReadyH.cons (o := ⟨_, _, _, _, _, _⟩) rfl (fun K hK => ?_) AllReadyH.nil
      obtain ⟨z0, z1, z2⟩ := cells3 HZ.out
      have f0 := frozen_of_row x3 gz 0 _ _ HZ.out; have f1 := frozen_of_row x3 gz 1 _ _ HZ.out; have f2 := frozen_of_row x3 gz 2 _ _ HZ.out
      go_simp
      refine hK.out _ _ (((HC.out.setCell HZN.out _).setCell HZN.out _).setCell HZN.out _) (fun _ => ?_)
      clear hK K
      have HZ := Lib.hid (show (((x3.setCell ⟨gz, 0, none⟩ (.int .i64 a1)).setCell ⟨gz, 1, none⟩ (.int .i64 a2)).setCell ⟨gz, 2, none⟩ (.slice ta t2 t3)).heap[gz]? = some (.cells #[.int .i64 a1, .int .i64 a2, .slice ta t2 t3] 69) from putsB HZ.out rfl _ _ _)
      have HC := Lib.hid (show Below w1.heap.size w1 (((x3.setCell ⟨gz, 0, none⟩ (.int .i64 a1)).setCell ⟨gz, 1, none⟩ (.int .i64 a2)).setCell ⟨gz, 2, none⟩ (.slice ta t2 t3)) from (((HC.out.setCell HZN.out _).setCell HZN.out _).setCell HZN.out _))
      refine take_in (i := 9) (oi := ⟨_, _, _, _, _, _⟩) (v := ?_) rfl (by kernel_rfl) (by kernel_rfl) (by kernel_rfl) (fun _ _ _ h => h) (by rfl) ?_ HC.out ?_
      rotate_left
      · intro W hW; go_simp; with_reducible rfl
      simp only [Act.put, List.setIfInBounds_toArray, List.set_cons_zero, List.set_cons_succ]
      refine wpAnyH_done (by kernel_rfl) ?_ _
      have HB := Lib.hid (HB.out.trans (HC.out.mono HB.out.size))
      generalize (((x3.setCell ⟨gz, 0, none⟩ (.int .i64 a1)).setCell ⟨gz, 1, none⟩ (.int .i64 a2)).setCell ⟨gz, 2, none⟩ (.slice ta t2 t3)) = y at HZ HC HB ⊢
      clear f0 f1 f2 z0 z1 z2
      obtain ⟨z0, z1, z2⟩ := cells3 HZ.out
      clear HC HZ HZN HQ
      go_wp2_with fail
      refine (HRES.out y HB.out).mono ?_
      rintro e y2 ⟨A, n, c2, rfl, ho, hb⟩
      have HO := Lib.hid (ho.base HB.out.size); have HB := Lib.hid (HB.out.trans (hb.mono HB.out.size)); clear ho hb
      go_wp2
      go_ret
      exact ⟨A, n, c2, rfl, HO.out, HB.out⟩
  · go_simp
    refine hK.out _ _ (bal HC.out (Nat.le_refl _) (.cells #[.int .i64 0, .int .i64 0, .slice none 0 0] 69)) (fun _ => ?_)
    clear hK K
    have HZ := Lib.hid (show (w5.alloc (.cells #[.int .i64 0, .int .i64 0, .slice none 0 0] 69)).heap[w5.heap.size]? = some (.cells #[.int .i64 0, .int .i64 0, .slice none 0 0] 69) from hat _ _ _ rfl)
    have HZN := Lib.hid (show w1.heap.size ≤ w5.heap.size from HC.out.size)
    have HC := Lib.hid (bal HC.out (Nat.le_refl _) (.cells #[.int .i64 0, .int .i64 0, .slice none 0 0] 69))
    generalize w5.alloc (.cells #[.int .i64 0, .int .i64 0, .slice none 0 0] 69) = x1 at HZ HC ⊢
    generalize w5.heap.size = gz at HZ HZN ⊢
    refine wpAnyH_ready (rs := [1]) (by kernel_rfl) (by simp) ?_
    refine AllReadyH.cons (o := ⟨_, _, _, _, _, _⟩) rfl (fun K hK => ?_) AllReadyH.nil
    go_simp
    refine (HSH.out x1).mono ?_
    rintro e x2 ⟨rfl, hb_⟩
    have HZ := Lib.hid ((hb_.block _ (Array.getElem?_eq_some_iff.1 HZ.out).1).trans HZ.out)
    have HC := Lib.hid (HC.out.trans (hb_.mono HC.out.size)); clear hb_
    refine hK.out _ _ HC.out (fun _ => ?_)
    clear hK K
    refine wpAnyH_ready (rs := [3]) (by kernel_rfl) (by simp) ?_
    refine AllReadyH.cons (o := ⟨_, _, _, _, _, _⟩) rfl (fun K hK => ?_) AllReadyH.nil
    go_simp
    refine (HFI.out x2 (HB.out.trans (HC.out.mono HB.out.size))).mono ?_
    rintro e x3 ⟨rfl, hb_⟩
    have HZ := Lib.hid ((hb_.block _ (Array.getElem?_eq_some_iff.1 HZ.out).1).trans HZ.out)
    have HC := Lib.hid (HC.out.trans (hb_.mono HC.out.size)); clear hb_
    refine hK.out _ _ HC.out (fun _ => ?_)
    clear hK K
    clear HSH HFI
    refine take_in (i := 4) (oi := ⟨_, _, _, _, _, _⟩) (v := ?_) rfl (by kernel_rfl) (by kernel_rfl) (by kernel_rfl) (fun _ _ _ h => h) (by rfl) ?_ HC.out ?_
    rotate_left
    · intro W hW; go_simp; with_reducible rfl
    simp only [Act.put, List.setIfInBounds_toArray, List.set_cons_zero, List.set_cons_succ]
    refine take_in (i := 5) (oi := ⟨_, _, _, _, _, _⟩) (v := ?_) rfl (by kernel_rfl) (by kernel_rfl) (by kernel_rfl) (fun _ _ _ h => h) (by rfl) ?_ HC.out ?_
    rotate_left
    · intro W hW; go_simp; with_reducible rfl
    simp only [Act.put, List.setIfInBounds_toArray, List.set_cons_zero, List.set_cons_succ]
    refine take_in (i := 6) (oi := ⟨_, _, _, _, _, _⟩) (v := ?_) rfl (by kernel_rfl) (by kernel_rfl) (by kernel_rfl) (fun _ _ _ h => h) (by rfl) ?_ HC.out ?_
    rotate_left
    · intro W hW; go_simp; with_reducible rfl
    simp only [Act.put, List.setIfInBounds_toArray, List.set_cons_zero, List.set_cons_succ]
    refine wpAnyH_ready (rs := [8]) (by kernel_rfl) (by simp) ?_
    refine AllReadyH.cons (o := ⟨_, _, _, _, _, _⟩) rfl (fun K hK => ?_) AllReadyH.nil
    obtain ⟨z0, z1, z2⟩ := cells3 HZ.out
    have f0 := frozen_of_row x3 gz 0 _ _ HZ.out; have f1 := frozen_of_row x3 gz 1 _ _ HZ.out; have f2 := frozen_of_row x3 gz 2 _ _ HZ.out
    go_simp
    refine hK.out _ _ (((HC.out.setCell HZN.out _).setCell HZN.out _).setCell HZN.out _) (fun _ => ?_)
    clear hK K
    have HZ := Lib.hid (show (((x3.setCell ⟨gz, 0, none⟩ (.int .i64 a1)).setCell ⟨gz, 1, none⟩ (.int .i64 a2)).setCell ⟨gz, 2, none⟩ (.slice ta t2 t3)).heap[gz]? = some (.cells #[.int .i64 a1, .int .i64 a2, .slice ta t2 t3] 69) from putsB HZ.out rfl _ _ _)
    have HC := Lib.hid (show Below w1.heap.size w1 (((x3.setCell ⟨gz, 0, none⟩ (.int .i64 a1)).setCell ⟨gz, 1, none⟩ (.int .i64 a2)).setCell ⟨gz, 2, none⟩ (.slice ta t2 t3)) from (((HC.out.setCell HZN.out _).setCell HZN.out _).setCell HZN.out _))
    refine take_in (i := 9) (oi := ⟨_, _, _, _, _, _⟩) (v := ?_) rfl (by kernel_rfl) (by kernel_rfl) (by kernel_rfl) (fun _ _ _ h => h) (by rfl) ?_ HC.out ?_
    rotate_left
    · intro W hW; go_simp; with_reducible rfl
    simp only [Act.put, List.setIfInBounds_toArray, List.set_cons_zero, List.set_cons_succ]
    refine wpAnyH_done (by kernel_rfl) ?_ _
    have HB := Lib.hid (HB.out.trans (HC.out.mono HB.out.size))
    generalize (((x3.setCell ⟨gz, 0, none⟩ (.int .i64 a1)).setCell ⟨gz, 1, none⟩ (.int .i64 a2)).setCell ⟨gz, 2, none⟩ (.slice ta t2 t3)) = y at HZ HC HB ⊢
    clear f0 f1 f2 z0 z1 z2
    obtain ⟨z0, z1, z2⟩ := cells3 HZ.out
    clear HC HZ HZN HQ
    go_wp2_with fail
    refine (HRES.out y HB.out).mono ?_
    rintro e y2 ⟨A, n, c2, rfl, ho, hb⟩
    have HO := Lib.hid (ho.base HB.out.size); have HB := Lib.hid (HB.out.trans (hb.mono HB.out.size)); clear ho hb
    go_wp2
    go_ret
    exact ⟨A, n, c2, rfl, HO.out, HB.out⟩
end Go.Proofs.YtfblnomkafimhaaGreat.Fow

namespace Go.Proofs.YtfblnomkafimhaaGreat.Fow
set_option maxRecDepth 20000
open Go.RowKit
open Chg Vw Cl Bk Lg Fo Clw Bkw
open Chgw (hat hbe vw ret_bool ret_i64 Vx)
open Rg (bal)

set_option maxHeartbeats 4000000 in
theorem cells_c (s : St) (b c i : Sl) (w : World) (h : Sto w s b c i) (hw : WfS s) (v : Nat × Nat) (hv : V64 v) : Calls Tryz.prog 16 #[stv s b c i, vw (v.1 : Int) (v.2 : Int)] w (Rg.RetOwnG KC w w.heap.size (cellsS s v)) := by
  obtain ⟨xs, hn, hl, hs, ha, hr, hq⟩ := lookC h.2.1 hw v
  have HSH := Lib.hid (fun W => shelf_C s b c i W)
  have HFI : Hid (∀ W, Below w.heap.size w W → Calls Tryz.prog 45 #[shvC c, vw (v.1 : Int) (v.2 : Int)] W fun e w' => e = .returned (fndC v (lk xs v)) ∧ Below W.heap.size W w') := Lib.hid (fun W hW => find_C c xs v hv hn hl hs ha w.heap.size W (hr.below hW) hW.size)
  have HRES : Hid (∀ W, Below w.heap.size w W → Calls Tryz.prog 46 #[.slice ((lk xs v).getD nilS).a ((lk xs v).getD nilS).n ((lk xs v).getD nilS).c] W (Rg.RetOwnG KC W W.heap.size (cellsS s v))) := Lib.hid (fun W hW => clone_Ce _ _ _ _ w.heap.size W hq.1 (hq.2.2.2.below hW) hW.size hq.2.2.1)
  generalize cellsS s v = res at HRES ⊢
  clear hq
  generalize lk xs v = o at HFI HRES
  clear hn hl hs ha hr h hw hv
  obtain ⟨va, vd⟩ := v
  simp only at HFI HRES ⊢
  obtain ⟨a1, a2, ta, t2, t3, hit, hfv, hsl⟩ : ∃ (a1 a2 : Int) (ta : Option Addr) (t2 t3 : Nat) (hit : Bool), fndC (va, vd) o = .tuple #[.agg #[.int .i64 a1, .int .i64 a2, .slice ta t2 t3], .bool hit] ∧ o.getD nilS = ⟨ta, t2, t3⟩ := by
    cases o with
    | none => exact ⟨0, 0, none, 0, 0, false, rfl, rfl⟩
    | some a => exact ⟨_, _, a.a, a.n, a.c, true, rfl, rfl⟩
  rw [hfv] at HFI
  rw [hsl] at HRES
  clear hfv hsl
  unfold shvC vofC at HSH HFI
  unfold vw at HFI ⊢
  unfold stv at HSH ⊢
  have hsf := store_fnC
  generalize hhd1 : (s.held.1 : Int) = hd1 at HSH ⊢
  generalize hhd2 : (s.held.2 : Int) = hd2 at HSH ⊢
  generalize s.inc = sinc at HSH ⊢
  generalize s.last = slast at HSH ⊢
  clear hhd1 hhd2
  go_enter Tryz.func16, Tryz.ntmps16
  go_upto_region 1 with (fail)
  have HX := Lib.hid (show ((w.alloc (.cells #[.slice b.a b.n b.c, .slice c.a c.n c.c, .slice i.a i.n i.c, .int .i64 hd1, .int .i64 hd2, .int .i64 sinc, .int .i64 slast] 28)).alloc (.cells #[.int .i64 (va : Int), .int .i64 (vd : Int)] 26)).heap[w.heap.size]? = some (.cells #[.slice b.a b.n b.c, .slice c.a c.n c.c, .slice i.a i.n i.c, .int .i64 hd1, .int .i64 hd2, .int .i64 sinc, .int .i64 slast] 28) from hbe (hat _ _ _ rfl))
  have HV := Lib.hid (show ((w.alloc (.cells #[.slice b.a b.n b.c, .slice c.a c.n c.c, .slice i.a i.n i.c, .int .i64 hd1, .int .i64 hd2, .int .i64 sinc, .int .i64 slast] 28)).alloc (.cells #[.int .i64 (va : Int), .int .i64 (vd : Int)] 26)).heap[w.heap.size + 1]? = some (.cells #[.int .i64 (va : Int), .int .i64 (vd : Int)] 26) from hat _ _ _ (by simp))
  have HB := Lib.hid (bal (bal (Below.refl w.heap.size w) (Nat.le_refl _) (.cells #[.slice b.a b.n b.c, .slice c.a c.n c.c, .slice i.a i.n i.c, .int .i64 hd1, .int .i64 hd2, .int .i64 sinc, .int .i64 slast] 28)) (Nat.le_refl _) (.cells #[.int .i64 (va : Int), .int .i64 (vd : Int)] 26))
  generalize ((w.alloc (.cells #[.slice b.a b.n b.c, .slice c.a c.n c.c, .slice i.a i.n i.c, .int .i64 hd1, .int .i64 hd2, .int .i64 sinc, .int .i64 slast] 28)).alloc (.cells #[.int .i64 (va : Int), .int .i64 (vd : Int)] 26)) = w1 at HX HV HB ⊢
  have HQ : Hid (∀ W, Below w1.heap.size w1 W → (W.cell? ⟨w.heap.size, 0, none⟩ = some (.slice b.a b.n b.c) ∧ W.cell? ⟨w.heap.size, 1, none⟩ = some (.slice c.a c.n c.c) ∧ W.cell? ⟨w.heap.size, 2, none⟩ = some (.slice i.a i.n i.c) ∧ W.cell? ⟨w.heap.size, 3, none⟩ = some (.int .i64 hd1) ∧ W.cell? ⟨w.heap.size, 4, none⟩ = some (.int .i64 hd2) ∧ W.cell? ⟨w.heap.size, 5, none⟩ = some (.int .i64 sinc) ∧ W.cell? ⟨w.heap.size, 6, none⟩ = some (.int .i64 slast)) ∧ W.cell? ⟨w.heap.size + 1, 0, none⟩ = some (.int .i64 (va : Int)) ∧ W.cell? ⟨w.heap.size + 1, 1, none⟩ = some (.int .i64 (vd : Int))) := Lib.hid (fun W hb => by
    have h1 := (hb.block _ (Array.getElem?_eq_some_iff.1 HX.out).1).trans HX.out
    have h2 := (hb.block _ (Array.getElem?_eq_some_iff.1 HV.out).1).trans HV.out
    refine ⟨⟨?_, ?_, ?_, ?_, ?_, ?_, ?_⟩, cells2 h2⟩ <;> (rw [cell_of_row _ _ _ _ _ _ h1]; rfl))
  clear HX HV
  refine wp_region_held_drew (S := fun W' => Below w1.heap.size w1 W') (by kernel_rfl) (Below.refl _ _).drew (fun hHeld => ?_)
  generalize w1.drew = w5 at hHeld ⊢
  have HC : Hid (Below w1.heap.size w1 w5) := hHeld
  clear hHeld
  refine take_in (i := 0) (oi := ⟨_, _, _, _, _, _⟩) (v := ?_) rfl (by kernel_rfl) (by kernel_rfl) (by kernel_rfl) (fun _ _ _ h => h) (by rfl) ?_ HC.out ?_
  rotate_left
  · intro W hW; obtain ⟨⟨q0, q1, q2, q3, q4, q5, q6⟩, q7, q8⟩ := HQ.out W hW; go_simp; with_reducible rfl
  simp only [Act.put, List.setIfInBounds_toArray, List.set_cons_zero, List.set_cons_succ]
  refine take_in (i := 2) (oi := ⟨_, _, _, _, _, _⟩) (v := ?_) rfl (by kernel_rfl) (by kernel_rfl) (by kernel_rfl) (fun _ _ _ h => h) (by rfl) ?_ HC.out ?_
  rotate_left
  · intro W hW; obtain ⟨⟨q0, q1, q2, q3, q4, q5, q6⟩, q7, q8⟩ := HQ.out W hW; go_simp; with_reducible rfl
  simp only [Act.put, List.setIfInBounds_toArray, List.set_cons_zero, List.set_cons_succ]
  refine wpAnyH_ready (rs := [1, 7]) (by kernel_rfl) (by simp) ?_
  refine AllReadyH.cons (o := ⟨_, _, _, _, _, _⟩) rfl (fun K hK => ?_) (AllReadyH.cons (o := ⟨_, _, _, _, _, _⟩) rfl (fun K hK => ?_) AllReadyH.nil)
  · go_simp
    refine (HSH.out w5).mono ?_
    rintro e x1 ⟨rfl, hb_⟩
    have HC := Lib.hid (HC.out.trans (hb_.mono HC.out.size)); clear hb_
    refine hK.out _ _ HC.out (fun _ => ?_)
    clear hK K
    refine wpAnyH_ready (rs := [3, 7]) (by kernel_rfl) (by simp) ?_
    refine AllReadyH.cons (o := ⟨_, _, _, _, _, _⟩) rfl (fun K hK => ?_) (AllReadyH.cons (o := ⟨_, _, _, _, _, _⟩) rfl (fun K hK => ?_) AllReadyH.nil)
    · go_simp
      refine (HFI.out x1 (HB.out.trans (HC.out.mono HB.out.size))).mono ?_
      rintro e x2 ⟨rfl, hb_⟩
      have HC := Lib.hid (HC.out.trans (hb_.mono HC.out.size)); clear hb_
      refine hK.out _ _ HC.out (fun _ => ?_)
      clear hK K
      clear HSH HFI
      refine take_in (i := 4) (oi := ⟨_, _, _, _, _, _⟩) (v := ?_) rfl (by kernel_rfl) (by kernel_rfl) (by kernel_rfl) (fun _ _ _ h => h) (by rfl) ?_ HC.out ?_
      rotate_left
      · intro W hW; go_simp; with_reducible rfl
      simp only [Act.put, List.setIfInBounds_toArray, List.set_cons_zero, List.set_cons_succ]
      refine take_in (i := 5) (oi := ⟨_, _, _, _, _, _⟩) (v := ?_) rfl (by kernel_rfl) (by kernel_rfl) (by kernel_rfl) (fun _ _ _ h => h) (by rfl) ?_ HC.out ?_
      rotate_left
      · intro W hW; go_simp; with_reducible rfl
      simp only [Act.put, List.setIfInBounds_toArray, List.set_cons_zero, List.set_cons_succ]
      refine take_in (i := 6) (oi := ⟨_, _, _, _, _, _⟩) (v := ?_) rfl (by kernel_rfl) (by kernel_rfl) (by kernel_rfl) (fun _ _ _ h => h) (by rfl) ?_ HC.out ?_
      rotate_left
      · intro W hW; go_simp; with_reducible rfl
      simp only [Act.put, List.setIfInBounds_toArray, List.set_cons_zero, List.set_cons_succ]
      refine wpAnyH_ready (rs := [7]) (by kernel_rfl) (by simp) ?_
      refine AllReadyH.cons (o := ⟨_, _, _, _, _, _⟩) rfl (fun K hK => ?_) AllReadyH.nil
      go_simp
      refine hK.out _ _ (bal HC.out (Nat.le_refl _) (.cells #[.int .i64 0, .int .i64 0, .slice none 0 0] 71)) (fun _ => ?_)
      clear hK K
      have HZ := Lib.hid (show (x2.alloc (.cells #[.int .i64 0, .int .i64 0, .slice none 0 0] 71)).heap[x2.heap.size]? = some (.cells #[.int .i64 0, .int .i64 0, .slice none 0 0] 71) from hat _ _ _ rfl)
      have HZN := Lib.hid (show w1.heap.size ≤ x2.heap.size from HC.out.size)
      have HC := Lib.hid (bal HC.out (Nat.le_refl _) (.cells #[.int .i64 0, .int .i64 0, .slice none 0 0] 71))
      generalize x2.alloc (.cells #[.int .i64 0, .int .i64 0, .slice none 0 0] 71) = x3 at HZ HC ⊢
      generalize x2.heap.size = gz at HZ HZN ⊢
      refine wpAnyH_ready (rs := [8]) (by kernel_rfl) (by simp) ?_
      refine AllReadyH.cons (o := ⟨_, _, _, _, _, _⟩) rfl (fun K hK => ?_) AllReadyH.nil
      obtain ⟨z0, z1, z2⟩ := cells3 HZ.out
      have f0 := frozen_of_row x3 gz 0 _ _ HZ.out; have f1 := frozen_of_row x3 gz 1 _ _ HZ.out; have f2 := frozen_of_row x3 gz 2 _ _ HZ.out
      go_simp
      refine hK.out _ _ (((HC.out.setCell HZN.out _).setCell HZN.out _).setCell HZN.out _) (fun _ => ?_)
      clear hK K
      have HZ := Lib.hid (show (((x3.setCell ⟨gz, 0, none⟩ (.int .i64 a1)).setCell ⟨gz, 1, none⟩ (.int .i64 a2)).setCell ⟨gz, 2, none⟩ (.slice ta t2 t3)).heap[gz]? = some (.cells #[.int .i64 a1, .int .i64 a2, .slice ta t2 t3] 71) from putsC HZ.out rfl _ _ _)
      have HC := Lib.hid (show Below w1.heap.size w1 (((x3.setCell ⟨gz, 0, none⟩ (.int .i64 a1)).setCell ⟨gz, 1, none⟩ (.int .i64 a2)).setCell ⟨gz, 2, none⟩ (.slice ta t2 t3)) from (((HC.out.setCell HZN.out _).setCell HZN.out _).setCell HZN.out _))
      refine take_in (i := 9) (oi := ⟨_, _, _, _, _, _⟩) (v := ?_) rfl (by kernel_rfl) (by kernel_rfl) (by kernel_rfl) (fun _ _ _ h => h) (by rfl) ?_ HC.out ?_
      rotate_left
      · intro W hW; go_simp; with_reducible rfl
      simp only [Act.put, List.setIfInBounds_toArray, List.set_cons_zero, List.set_cons_succ]
      refine wpAnyH_done (by kernel_rfl) ?_ _
      have HB := Lib.hid (HB.out.trans (HC.out.mono HB.out.size))
      generalize (((x3.setCell ⟨gz, 0, none⟩ (.int .i64 a1)).setCell ⟨gz, 1, none⟩ (.int .i64 a2)).setCell ⟨gz, 2, none⟩ (.slice ta t2 t3)) = y at HZ HC HB ⊢
      clear f0 f1 f2 z0 z1 z2
      obtain ⟨z0, z1, z2⟩ := cells3 HZ.out
      clear HC HZ HZN HQ
      go_wp2_with fail
      refine (HRES.out y HB.out).mono ?_
      rintro e y2 ⟨A, n, c2, rfl, ho, hb⟩
      have HO := Lib.hid (ho.base HB.out.size); have HB := Lib.hid (HB.out.trans (hb.mono HB.out.size)); clear ho hb
      go_wp2
      go_ret
      exact ⟨A, n, c2, rfl, HO.out, HB.out⟩
    · go_simp
      refine hK.out _ _ (bal HC.out (Nat.le_refl _) (.cells #[.int .i64 0, .int .i64 0, .slice none 0 0] 71)) (fun _ => ?_)
      clear hK K
      have HZ := Lib.hid (show (x1.alloc (.cells #[.int .i64 0, .int .i64 0, .slice none 0 0] 71)).heap[x1.heap.size]? = some (.cells #[.int .i64 0, .int .i64 0, .slice none 0 0] 71) from hat _ _ _ rfl)
      have HZN := Lib.hid (show w1.heap.size ≤ x1.heap.size from HC.out.size)
      have HC := Lib.hid (bal HC.out (Nat.le_refl _) (.cells #[.int .i64 0, .int .i64 0, .slice none 0 0] 71))
      generalize x1.alloc (.cells #[.int .i64 0, .int .i64 0, .slice none 0 0] 71) = x2 at HZ HC ⊢
      generalize x1.heap.size = gz at HZ HZN ⊢
      refine wpAnyH_ready (rs := [3]) (by kernel_rfl) (by simp) ?_
      refine AllReadyH.cons (o := ⟨_, _, _, _, _, _⟩) rfl (fun K hK => ?_) AllReadyH.nil
      go_simp
      refine (HFI.out x2 (HB.out.trans (HC.out.mono HB.out.size))).mono ?_
      rintro e x3 ⟨rfl, hb_⟩
      have HZ := Lib.hid ((hb_.block _ (Array.getElem?_eq_some_iff.1 HZ.out).1).trans HZ.out)
      have HC := Lib.hid (HC.out.trans (hb_.mono HC.out.size)); clear hb_
      refine hK.out _ _ HC.out (fun _ => ?_)
      clear hK K
      clear HSH HFI
      refine take_in (i := 4) (oi := ⟨_, _, _, _, _, _⟩) (v := ?_) rfl (by kernel_rfl) (by kernel_rfl) (by kernel_rfl) (fun _ _ _ h => h) (by rfl) ?_ HC.out ?_
      rotate_left
      · intro W hW; go_simp; with_reducible rfl
      simp only [Act.put, List.setIfInBounds_toArray, List.set_cons_zero, List.set_cons_succ]
      refine take_in (i := 5) (oi := ⟨_, _, _, _, _, _⟩) (v := ?_) rfl (by kernel_rfl) (by kernel_rfl) (by kernel_rfl) (fun _ _ _ h => h) (by rfl) ?_ HC.out ?_
      rotate_left
      · intro W hW; go_simp; with_reducible rfl
      simp only [Act.put, List.setIfInBounds_toArray, List.set_cons_zero, List.set_cons_succ]
      refine take_in (i := 6) (oi := ⟨_, _, _, _, _, _⟩) (v := ?_) rfl (by kernel_rfl) (by kernel_rfl) (by kernel_rfl) (fun _ _ _ h => h) (by rfl) ?_ HC.out ?_
      rotate_left
      · intro W hW; go_simp; with_reducible rfl
      simp only [Act.put, List.setIfInBounds_toArray, List.set_cons_zero, List.set_cons_succ]
      refine wpAnyH_ready (rs := [8]) (by kernel_rfl) (by simp) ?_
      refine AllReadyH.cons (o := ⟨_, _, _, _, _, _⟩) rfl (fun K hK => ?_) AllReadyH.nil
      obtain ⟨z0, z1, z2⟩ := cells3 HZ.out
      have f0 := frozen_of_row x3 gz 0 _ _ HZ.out; have f1 := frozen_of_row x3 gz 1 _ _ HZ.out; have f2 := frozen_of_row x3 gz 2 _ _ HZ.out
      go_simp
      refine hK.out _ _ (((HC.out.setCell HZN.out _).setCell HZN.out _).setCell HZN.out _) (fun _ => ?_)
      clear hK K
      have HZ := Lib.hid (show (((x3.setCell ⟨gz, 0, none⟩ (.int .i64 a1)).setCell ⟨gz, 1, none⟩ (.int .i64 a2)).setCell ⟨gz, 2, none⟩ (.slice ta t2 t3)).heap[gz]? = some (.cells #[.int .i64 a1, .int .i64 a2, .slice ta t2 t3] 71) from putsC HZ.out rfl _ _ _)
      have HC := Lib.hid (show Below w1.heap.size w1 (((x3.setCell ⟨gz, 0, none⟩ (.int .i64 a1)).setCell ⟨gz, 1, none⟩ (.int .i64 a2)).setCell ⟨gz, 2, none⟩ (.slice ta t2 t3)) from (((HC.out.setCell HZN.out _).setCell HZN.out _).setCell HZN.out _))
      refine take_in (i := 9) (oi := ⟨_, _, _, _, _, _⟩) (v := ?_) rfl (by kernel_rfl) (by kernel_rfl) (by kernel_rfl) (fun _ _ _ h => h) (by rfl) ?_ HC.out ?_
      rotate_left
      · intro W hW; go_simp; with_reducible rfl
      simp only [Act.put, List.setIfInBounds_toArray, List.set_cons_zero, List.set_cons_succ]
      refine wpAnyH_done (by kernel_rfl) ?_ _
      have HB := Lib.hid (HB.out.trans (HC.out.mono HB.out.size))
      generalize (((x3.setCell ⟨gz, 0, none⟩ (.int .i64 a1)).setCell ⟨gz, 1, none⟩ (.int .i64 a2)).setCell ⟨gz, 2, none⟩ (.slice ta t2 t3)) = y at HZ HC HB ⊢
      clear f0 f1 f2 z0 z1 z2
      obtain ⟨z0, z1, z2⟩ := cells3 HZ.out
      clear HC HZ HZN HQ
      go_wp2_with fail
      refine (HRES.out y HB.out).mono ?_
      rintro e y2 ⟨A, n, c2, rfl, ho, hb⟩
      have HO := Lib.hid (ho.base HB.out.size); have HB := Lib.hid (HB.out.trans (hb.mono HB.out.size)); clear ho hb
      go_wp2
      go_ret
      exact ⟨A, n, c2, rfl, HO.out, HB.out⟩
  · go_simp
    refine hK.out _ _ (bal HC.out (Nat.le_refl _) (.cells #[.int .i64 0, .int .i64 0, .slice none 0 0] 71)) (fun _ => ?_)
    clear hK K
    have HZ := Lib.hid (show (w5.alloc (.cells #[.int .i64 0, .int .i64 0, .slice none 0 0] 71)).heap[w5.heap.size]? = some (.cells #[.int .i64 0, .int .i64 0, .slice none 0 0] 71) from hat _ _ _ rfl)
    have HZN := Lib.hid (show w1.heap.size ≤ w5.heap.size from HC.out.size)
    have HC := Lib.hid (bal HC.out (Nat.le_refl _) (.cells #[.int .i64 0, .int .i64 0, .slice none 0 0] 71))
    generalize w5.alloc (.cells #[.int .i64 0, .int .i64 0, .slice none 0 0] 71) = x1 at HZ HC ⊢
    generalize w5.heap.size = gz at HZ HZN ⊢
    refine wpAnyH_ready (rs := [1]) (by kernel_rfl) (by simp) ?_
    refine AllReadyH.cons (o := ⟨_, _, _, _, _, _⟩) rfl (fun K hK => ?_) AllReadyH.nil
    go_simp
    refine (HSH.out x1).mono ?_
    rintro e x2 ⟨rfl, hb_⟩
    have HZ := Lib.hid ((hb_.block _ (Array.getElem?_eq_some_iff.1 HZ.out).1).trans HZ.out)
    have HC := Lib.hid (HC.out.trans (hb_.mono HC.out.size)); clear hb_
    refine hK.out _ _ HC.out (fun _ => ?_)
    clear hK K
    refine wpAnyH_ready (rs := [3]) (by kernel_rfl) (by simp) ?_
    refine AllReadyH.cons (o := ⟨_, _, _, _, _, _⟩) rfl (fun K hK => ?_) AllReadyH.nil
    go_simp
    refine (HFI.out x2 (HB.out.trans (HC.out.mono HB.out.size))).mono ?_
    rintro e x3 ⟨rfl, hb_⟩
    have HZ := Lib.hid ((hb_.block _ (Array.getElem?_eq_some_iff.1 HZ.out).1).trans HZ.out)
    have HC := Lib.hid (HC.out.trans (hb_.mono HC.out.size)); clear hb_
    refine hK.out _ _ HC.out (fun _ => ?_)
    clear hK K
    clear HSH HFI
    refine take_in (i := 4) (oi := ⟨_, _, _, _, _, _⟩) (v := ?_) rfl (by kernel_rfl) (by kernel_rfl) (by kernel_rfl) (fun _ _ _ h => h) (by rfl) ?_ HC.out ?_
    rotate_left
    · intro W hW; go_simp; with_reducible rfl
    simp only [Act.put, List.setIfInBounds_toArray, List.set_cons_zero, List.set_cons_succ]
    refine take_in (i := 5) (oi := ⟨_, _, _, _, _, _⟩) (v := ?_) rfl (by kernel_rfl) (by kernel_rfl) (by kernel_rfl) (fun _ _ _ h => h) (by rfl) ?_ HC.out ?_
    rotate_left
    · intro W hW; go_simp; with_reducible rfl
    simp only [Act.put, List.setIfInBounds_toArray, List.set_cons_zero, List.set_cons_succ]
    refine take_in (i := 6) (oi := ⟨_, _, _, _, _, _⟩) (v := ?_) rfl (by kernel_rfl) (by kernel_rfl) (by kernel_rfl) (fun _ _ _ h => h) (by rfl) ?_ HC.out ?_
    rotate_left
    · intro W hW; go_simp; with_reducible rfl
    simp only [Act.put, List.setIfInBounds_toArray, List.set_cons_zero, List.set_cons_succ]
    refine wpAnyH_ready (rs := [8]) (by kernel_rfl) (by simp) ?_
    refine AllReadyH.cons (o := ⟨_, _, _, _, _, _⟩) rfl (fun K hK => ?_) AllReadyH.nil
    obtain ⟨z0, z1, z2⟩ := cells3 HZ.out
    have f0 := frozen_of_row x3 gz 0 _ _ HZ.out; have f1 := frozen_of_row x3 gz 1 _ _ HZ.out; have f2 := frozen_of_row x3 gz 2 _ _ HZ.out
    go_simp
    refine hK.out _ _ (((HC.out.setCell HZN.out _).setCell HZN.out _).setCell HZN.out _) (fun _ => ?_)
    clear hK K
    have HZ := Lib.hid (show (((x3.setCell ⟨gz, 0, none⟩ (.int .i64 a1)).setCell ⟨gz, 1, none⟩ (.int .i64 a2)).setCell ⟨gz, 2, none⟩ (.slice ta t2 t3)).heap[gz]? = some (.cells #[.int .i64 a1, .int .i64 a2, .slice ta t2 t3] 71) from putsC HZ.out rfl _ _ _)
    have HC := Lib.hid (show Below w1.heap.size w1 (((x3.setCell ⟨gz, 0, none⟩ (.int .i64 a1)).setCell ⟨gz, 1, none⟩ (.int .i64 a2)).setCell ⟨gz, 2, none⟩ (.slice ta t2 t3)) from (((HC.out.setCell HZN.out _).setCell HZN.out _).setCell HZN.out _))
    refine take_in (i := 9) (oi := ⟨_, _, _, _, _, _⟩) (v := ?_) rfl (by kernel_rfl) (by kernel_rfl) (by kernel_rfl) (fun _ _ _ h => h) (by rfl) ?_ HC.out ?_
    rotate_left
    · intro W hW; go_simp; with_reducible rfl
    simp only [Act.put, List.setIfInBounds_toArray, List.set_cons_zero, List.set_cons_succ]
    refine wpAnyH_done (by kernel_rfl) ?_ _
    have HB := Lib.hid (HB.out.trans (HC.out.mono HB.out.size))
    generalize (((x3.setCell ⟨gz, 0, none⟩ (.int .i64 a1)).setCell ⟨gz, 1, none⟩ (.int .i64 a2)).setCell ⟨gz, 2, none⟩ (.slice ta t2 t3)) = y at HZ HC HB ⊢
    clear f0 f1 f2 z0 z1 z2
    obtain ⟨z0, z1, z2⟩ := cells3 HZ.out
    clear HC HZ HZN HQ
    go_wp2_with fail
    refine (HRES.out y HB.out).mono ?_
    rintro e y2 ⟨A, n, c2, rfl, ho, hb⟩
    have HO := Lib.hid (ho.base HB.out.size); have HB := Lib.hid (HB.out.trans (hb.mono HB.out.size)); clear ho hb
    go_wp2
    go_ret
    exact ⟨A, n, c2, rfl, HO.out, HB.out⟩
end Go.Proofs.YtfblnomkafimhaaGreat.Fow

namespace Go.Proofs.YtfblnomkafimhaaGreat.Fow
set_option maxRecDepth 20000
open Go.RowKit
open Chg Vw Cl Bk Lg Fo Clw Bkw
open Chgw (hat hbe vw ret_bool ret_i64 Vx)
open Rg (bal)

set_option maxHeartbeats 4000000 in
theorem intent_c (s : St) (b c i : Sl) (w : World) (h : Sto w s b c i) (hw : WfS s) (v : Nat × Nat) (hv : V64 v) : Calls Tryz.prog 13 #[stv s b c i, vw (v.1 : Int) (v.2 : Int)] w (fun e w' => e = .returned (.tuple #[vw (((intS s v).getD (0, 0)).1 : Int) (((intS s v).getD (0, 0)).2 : Int), .bool (intS s v).isSome]) ∧ Below w.heap.size w w') := by
  have hl : i.n ≤ 4096 := by rw [h.2.2.1]; exact sd_len hw.si hw.ai
  have hn := h.2.2.1; have hs := hw.si; have ha := hw.ai; have hr := h.2.2.2.2.2
  obtain ⟨xs, hxs⟩ : ∃ xs, xs = s.ints := ⟨_, rfl⟩
  rw [← hxs] at hn hs ha hr
  have HSH := Lib.hid (fun W => shelf_I s b c i W)
  have HFI : Hid (∀ W, Below w.heap.size w W → Calls Tryz.prog 40 #[shvI i, vw (v.1 : Int) (v.2 : Int)] W fun e w' => e = .returned (fndI v (lk xs v)) ∧ Below W.heap.size W w') := Lib.hid (fun W hW => find_I i xs v hv hn hl hs ha w.heap.size W (hr.below hW) hW.size)
  have HRES : Hid (intS s v = lk xs v) := Lib.hid (by rw [hxs]; rfl)
  generalize intS s v = res at HRES ⊢
  clear hxs
  generalize lk xs v = o at HFI HRES
  clear hn hl hs ha hr h hw hv
  obtain ⟨va, vd⟩ := v
  simp only at HFI HRES ⊢
  obtain ⟨a1, a2, ta, t2, hit, hfv, hsl, hh⟩ : ∃ (a1 a2 ta t2 : Int) (hit : Bool), fndI (va, vd) o = .tuple #[.agg #[.int .i64 a1, .int .i64 a2, .int .i64 ta, .int .i64 t2], .bool hit] ∧ (((o.getD (0, 0)).1 : Int) = ta ∧ ((o.getD (0, 0)).2 : Int) = t2) ∧ o.isSome = hit := by
    cases o with
    | none => exact ⟨0, 0, 0, 0, false, rfl, ⟨rfl, rfl⟩, rfl⟩
    | some a => exact ⟨_, _, a.1, a.2, true, rfl, ⟨rfl, rfl⟩, rfl⟩
  rw [hfv] at HFI
  have HPO : Hid (Ending.returned (.tuple #[vw ta t2, .bool hit]) = .returned (.tuple #[vw ((res.getD (0, 0)).1 : Int) ((res.getD (0, 0)).2 : Int), .bool res.isSome])) := Lib.hid (by rw [HRES.out, hsl.1, hsl.2, hh])
  clear hfv hsl hh HRES
  generalize Ending.returned (.tuple #[vw ((res.getD (0, 0)).1 : Int) ((res.getD (0, 0)).2 : Int), .bool res.isSome]) = RES at HPO ⊢
  unfold vw at HPO
  unfold shvI vofI at HSH HFI
  unfold vw at HFI ⊢
  unfold stv at HSH ⊢
  have hsf := store_fnI
  generalize hhd1 : (s.held.1 : Int) = hd1 at HSH ⊢
  generalize hhd2 : (s.held.2 : Int) = hd2 at HSH ⊢
  generalize s.inc = sinc at HSH ⊢
  generalize s.last = slast at HSH ⊢
  clear hhd1 hhd2
  go_enter Tryz.func13, Tryz.ntmps13
  go_upto_region 1 with (fail)
  have HX := Lib.hid (show (((w.alloc (.cells #[.slice b.a b.n b.c, .slice c.a c.n c.c, .slice i.a i.n i.c, .int .i64 hd1, .int .i64 hd2, .int .i64 sinc, .int .i64 slast] 28)).alloc (.cells #[.int .i64 (va : Int), .int .i64 (vd : Int)] 26)).alloc (.cells #[.int .i64 0, .int .i64 0] 26)).heap[w.heap.size]? = some (.cells #[.slice b.a b.n b.c, .slice c.a c.n c.c, .slice i.a i.n i.c, .int .i64 hd1, .int .i64 hd2, .int .i64 sinc, .int .i64 slast] 28) from hbe (hbe (hat _ _ _ rfl)))
  have HV := Lib.hid (show (((w.alloc (.cells #[.slice b.a b.n b.c, .slice c.a c.n c.c, .slice i.a i.n i.c, .int .i64 hd1, .int .i64 hd2, .int .i64 sinc, .int .i64 slast] 28)).alloc (.cells #[.int .i64 (va : Int), .int .i64 (vd : Int)] 26)).alloc (.cells #[.int .i64 0, .int .i64 0] 26)).heap[w.heap.size + 1]? = some (.cells #[.int .i64 (va : Int), .int .i64 (vd : Int)] 26) from hbe (hat _ _ _ (by simp)))
  have HR := Lib.hid (show (((w.alloc (.cells #[.slice b.a b.n b.c, .slice c.a c.n c.c, .slice i.a i.n i.c, .int .i64 hd1, .int .i64 hd2, .int .i64 sinc, .int .i64 slast] 28)).alloc (.cells #[.int .i64 (va : Int), .int .i64 (vd : Int)] 26)).alloc (.cells #[.int .i64 0, .int .i64 0] 26)).heap[w.heap.size + 1 + 1]? = some (.cells #[.int .i64 0, .int .i64 0] 26) from hat _ _ _ (by simp))
  have HB := Lib.hid (bal (bal (bal (Below.refl w.heap.size w) (Nat.le_refl _) (.cells #[.slice b.a b.n b.c, .slice c.a c.n c.c, .slice i.a i.n i.c, .int .i64 hd1, .int .i64 hd2, .int .i64 sinc, .int .i64 slast] 28)) (Nat.le_refl _) (.cells #[.int .i64 (va : Int), .int .i64 (vd : Int)] 26)) (Nat.le_refl _) (.cells #[.int .i64 0, .int .i64 0] 26))
  generalize (((w.alloc (.cells #[.slice b.a b.n b.c, .slice c.a c.n c.c, .slice i.a i.n i.c, .int .i64 hd1, .int .i64 hd2, .int .i64 sinc, .int .i64 slast] 28)).alloc (.cells #[.int .i64 (va : Int), .int .i64 (vd : Int)] 26)).alloc (.cells #[.int .i64 0, .int .i64 0] 26)) = w1 at HX HV HR HB ⊢
  have HQ : Hid (∀ W, Below w1.heap.size w1 W → (W.cell? ⟨w.heap.size, 0, none⟩ = some (.slice b.a b.n b.c) ∧ W.cell? ⟨w.heap.size, 1, none⟩ = some (.slice c.a c.n c.c) ∧ W.cell? ⟨w.heap.size, 2, none⟩ = some (.slice i.a i.n i.c) ∧ W.cell? ⟨w.heap.size, 3, none⟩ = some (.int .i64 hd1) ∧ W.cell? ⟨w.heap.size, 4, none⟩ = some (.int .i64 hd2) ∧ W.cell? ⟨w.heap.size, 5, none⟩ = some (.int .i64 sinc) ∧ W.cell? ⟨w.heap.size, 6, none⟩ = some (.int .i64 slast)) ∧ W.cell? ⟨w.heap.size + 1, 0, none⟩ = some (.int .i64 (va : Int)) ∧ W.cell? ⟨w.heap.size + 1, 1, none⟩ = some (.int .i64 (vd : Int))) := Lib.hid (fun W hb => by
    have h1 := (hb.block _ (Array.getElem?_eq_some_iff.1 HX.out).1).trans HX.out
    have h2 := (hb.block _ (Array.getElem?_eq_some_iff.1 HV.out).1).trans HV.out
    refine ⟨⟨?_, ?_, ?_, ?_, ?_, ?_, ?_⟩, cells2 h2⟩ <;> (rw [cell_of_row _ _ _ _ _ _ h1]; rfl))
  clear HX HV
  refine wp_region_held_drew (S := fun W' => Below w1.heap.size w1 W') (by kernel_rfl) (Below.refl _ _).drew (fun hHeld => ?_)
  generalize w1.drew = w5 at hHeld ⊢
  have HC : Hid (Below w1.heap.size w1 w5) := hHeld
  clear hHeld
  refine take_in (i := 0) (oi := ⟨_, _, _, _, _, _⟩) (v := ?_) rfl (by kernel_rfl) (by kernel_rfl) (by kernel_rfl) (fun _ _ _ h => h) (by rfl) ?_ HC.out ?_
  rotate_left
  · intro W hW; obtain ⟨⟨q0, q1, q2, q3, q4, q5, q6⟩, q7, q8⟩ := HQ.out W hW; go_simp; with_reducible rfl
  simp only [Act.put, List.setIfInBounds_toArray, List.set_cons_zero, List.set_cons_succ]
  refine take_in (i := 2) (oi := ⟨_, _, _, _, _, _⟩) (v := ?_) rfl (by kernel_rfl) (by kernel_rfl) (by kernel_rfl) (fun _ _ _ h => h) (by rfl) ?_ HC.out ?_
  rotate_left
  · intro W hW; obtain ⟨⟨q0, q1, q2, q3, q4, q5, q6⟩, q7, q8⟩ := HQ.out W hW; go_simp; with_reducible rfl
  simp only [Act.put, List.setIfInBounds_toArray, List.set_cons_zero, List.set_cons_succ]
  refine wpAnyH_ready (rs := [1, 7]) (by kernel_rfl) (by simp) ?_
  refine AllReadyH.cons (o := ⟨_, _, _, _, _, _⟩) rfl (fun K hK => ?_) (AllReadyH.cons (o := ⟨_, _, _, _, _, _⟩) rfl (fun K hK => ?_) AllReadyH.nil)
  · go_simp
    refine (HSH.out w5).mono ?_
    rintro e x1 ⟨rfl, hb_⟩
    have HC := Lib.hid (HC.out.trans (hb_.mono HC.out.size)); clear hb_
    refine hK.out _ _ HC.out (fun _ => ?_)
    clear hK K
    refine wpAnyH_ready (rs := [3, 7]) (by kernel_rfl) (by simp) ?_
    refine AllReadyH.cons (o := ⟨_, _, _, _, _, _⟩) rfl (fun K hK => ?_) (AllReadyH.cons (o := ⟨_, _, _, _, _, _⟩) rfl (fun K hK => ?_) AllReadyH.nil)
    · go_simp
      refine (HFI.out x1 (HB.out.trans (HC.out.mono HB.out.size))).mono ?_
      rintro e x2 ⟨rfl, hb_⟩
      have HC := Lib.hid (HC.out.trans (hb_.mono HC.out.size)); clear hb_
      refine hK.out _ _ HC.out (fun _ => ?_)
      clear hK K
      clear HSH HFI
      refine take_in (i := 4) (oi := ⟨_, _, _, _, _, _⟩) (v := ?_) rfl (by kernel_rfl) (by kernel_rfl) (by kernel_rfl) (fun _ _ _ h => h) (by rfl) ?_ HC.out ?_
      rotate_left
      · intro W hW; go_simp; with_reducible rfl
      simp only [Act.put, List.setIfInBounds_toArray, List.set_cons_zero, List.set_cons_succ]
      refine take_in (i := 5) (oi := ⟨_, _, _, _, _, _⟩) (v := ?_) rfl (by kernel_rfl) (by kernel_rfl) (by kernel_rfl) (fun _ _ _ h => h) (by rfl) ?_ HC.out ?_
      rotate_left
      · intro W hW; go_simp; with_reducible rfl
      simp only [Act.put, List.setIfInBounds_toArray, List.set_cons_zero, List.set_cons_succ]
      refine take_in (i := 6) (oi := ⟨_, _, _, _, _, _⟩) (v := ?_) rfl (by kernel_rfl) (by kernel_rfl) (by kernel_rfl) (fun _ _ _ h => h) (by rfl) ?_ HC.out ?_
      rotate_left
      · intro W hW; go_simp; with_reducible rfl
      simp only [Act.put, List.setIfInBounds_toArray, List.set_cons_zero, List.set_cons_succ]
      refine wpAnyH_ready (rs := [7]) (by kernel_rfl) (by simp) ?_
      refine AllReadyH.cons (o := ⟨_, _, _, _, _, _⟩) rfl (fun K hK => ?_) AllReadyH.nil
      go_simp
      refine hK.out _ _ (bal HC.out (Nat.le_refl _) (.cells #[.int .i64 0, .int .i64 0, .int .i64 0, .int .i64 0] 73)) (fun _ => ?_)
      clear hK K
      have HZ := Lib.hid (show (x2.alloc (.cells #[.int .i64 0, .int .i64 0, .int .i64 0, .int .i64 0] 73)).heap[x2.heap.size]? = some (.cells #[.int .i64 0, .int .i64 0, .int .i64 0, .int .i64 0] 73) from hat _ _ _ rfl)
      have HZN := Lib.hid (show w1.heap.size ≤ x2.heap.size from HC.out.size)
      have HC := Lib.hid (bal HC.out (Nat.le_refl _) (.cells #[.int .i64 0, .int .i64 0, .int .i64 0, .int .i64 0] 73))
      generalize x2.alloc (.cells #[.int .i64 0, .int .i64 0, .int .i64 0, .int .i64 0] 73) = x3 at HZ HC ⊢
      generalize x2.heap.size = gz at HZ HZN ⊢
      refine wpAnyH_ready (rs := [8]) (by kernel_rfl) (by simp) ?_
      refine AllReadyH.cons (o := ⟨_, _, _, _, _, _⟩) rfl (fun K hK => ?_) AllReadyH.nil
      obtain ⟨z0, z1, z2, z3⟩ := cells4 HZ.out
      have f0 := frozen_of_row x3 gz 0 _ _ HZ.out; have f1 := frozen_of_row x3 gz 1 _ _ HZ.out; have f2 := frozen_of_row x3 gz 2 _ _ HZ.out; have f3 := frozen_of_row x3 gz 3 _ _ HZ.out
      go_simp
      refine hK.out _ _ ((((HC.out.setCell HZN.out _).setCell HZN.out _).setCell HZN.out _).setCell HZN.out _) (fun _ => ?_)
      clear hK K
      have HZ := Lib.hid (show ((((x3.setCell ⟨gz, 0, none⟩ (.int .i64 a1)).setCell ⟨gz, 1, none⟩ (.int .i64 a2)).setCell ⟨gz, 2, none⟩ (.int .i64 ta)).setCell ⟨gz, 3, none⟩ (.int .i64 t2)).heap[gz]? = some (.cells #[.int .i64 a1, .int .i64 a2, .int .i64 ta, .int .i64 t2] 73) from putsI HZ.out rfl _ _ _ _)
      have HC := Lib.hid (show Below w1.heap.size w1 ((((x3.setCell ⟨gz, 0, none⟩ (.int .i64 a1)).setCell ⟨gz, 1, none⟩ (.int .i64 a2)).setCell ⟨gz, 2, none⟩ (.int .i64 ta)).setCell ⟨gz, 3, none⟩ (.int .i64 t2)) from ((((HC.out.setCell HZN.out _).setCell HZN.out _).setCell HZN.out _).setCell HZN.out _))
      have HR := Lib.hid ((HC.out.block _ (Array.getElem?_eq_some_iff.1 HR.out).1).trans HR.out)
      refine take_in (i := 9) (oi := ⟨_, _, _, _, _, _⟩) (v := ?_) rfl (by kernel_rfl) (by kernel_rfl) (by kernel_rfl) (fun _ _ _ h => h) (by rfl) ?_ HC.out ?_
      rotate_left
      · intro W hW; go_simp; with_reducible rfl
      simp only [Act.put, List.setIfInBounds_toArray, List.set_cons_zero, List.set_cons_succ]
      refine wpAnyH_done (by kernel_rfl) ?_ _
      have HB := Lib.hid (HB.out.trans (HC.out.mono HB.out.size))
      generalize ((((x3.setCell ⟨gz, 0, none⟩ (.int .i64 a1)).setCell ⟨gz, 1, none⟩ (.int .i64 a2)).setCell ⟨gz, 2, none⟩ (.int .i64 ta)).setCell ⟨gz, 3, none⟩ (.int .i64 t2)) = y at HZ HC HB HR ⊢
      clear f0 f1 f2 f3 z0 z1 z2 z3
      obtain ⟨z0, z1, z2, z3⟩ := cells4 HZ.out
      have r0 := (cells2 HR.out).1; have r1 := (cells2 HR.out).2
      have g0 := frozen_of_row y (w.heap.size + 1 + 1) 0 _ _ HR.out; have g1 := frozen_of_row y (w.heap.size + 1 + 1) 1 _ _ HR.out
      clear HC HQ HZN
      go_wp2
      refine bodyPost_ret (results_vi2 (g := w.heap.size + 1 + 1) (a := ta) (d := t2) (x := .bool hit) rfl rfl rfl (vi_put HR.out ta t2)) rfl ?_
      exact ⟨HPO.out, (HB.out.setCell (show w.heap.size ≤ w.heap.size + 1 + 1 by omega) _).setCell (show w.heap.size ≤ w.heap.size + 1 + 1 by omega) _⟩
    · go_simp
      refine hK.out _ _ (bal HC.out (Nat.le_refl _) (.cells #[.int .i64 0, .int .i64 0, .int .i64 0, .int .i64 0] 73)) (fun _ => ?_)
      clear hK K
      have HZ := Lib.hid (show (x1.alloc (.cells #[.int .i64 0, .int .i64 0, .int .i64 0, .int .i64 0] 73)).heap[x1.heap.size]? = some (.cells #[.int .i64 0, .int .i64 0, .int .i64 0, .int .i64 0] 73) from hat _ _ _ rfl)
      have HZN := Lib.hid (show w1.heap.size ≤ x1.heap.size from HC.out.size)
      have HC := Lib.hid (bal HC.out (Nat.le_refl _) (.cells #[.int .i64 0, .int .i64 0, .int .i64 0, .int .i64 0] 73))
      generalize x1.alloc (.cells #[.int .i64 0, .int .i64 0, .int .i64 0, .int .i64 0] 73) = x2 at HZ HC ⊢
      generalize x1.heap.size = gz at HZ HZN ⊢
      refine wpAnyH_ready (rs := [3]) (by kernel_rfl) (by simp) ?_
      refine AllReadyH.cons (o := ⟨_, _, _, _, _, _⟩) rfl (fun K hK => ?_) AllReadyH.nil
      go_simp
      refine (HFI.out x2 (HB.out.trans (HC.out.mono HB.out.size))).mono ?_
      rintro e x3 ⟨rfl, hb_⟩
      have HZ := Lib.hid ((hb_.block _ (Array.getElem?_eq_some_iff.1 HZ.out).1).trans HZ.out)
      have HC := Lib.hid (HC.out.trans (hb_.mono HC.out.size)); clear hb_
      refine hK.out _ _ HC.out (fun _ => ?_)
      clear hK K
      clear HSH HFI
      refine take_in (i := 4) (oi := ⟨_, _, _, _, _, _⟩) (v := ?_) rfl (by kernel_rfl) (by kernel_rfl) (by kernel_rfl) (fun _ _ _ h => h) (by rfl) ?_ HC.out ?_
      rotate_left
      · intro W hW; go_simp; with_reducible rfl
      simp only [Act.put, List.setIfInBounds_toArray, List.set_cons_zero, List.set_cons_succ]
      refine take_in (i := 5) (oi := ⟨_, _, _, _, _, _⟩) (v := ?_) rfl (by kernel_rfl) (by kernel_rfl) (by kernel_rfl) (fun _ _ _ h => h) (by rfl) ?_ HC.out ?_
      rotate_left
      · intro W hW; go_simp; with_reducible rfl
      simp only [Act.put, List.setIfInBounds_toArray, List.set_cons_zero, List.set_cons_succ]
      refine take_in (i := 6) (oi := ⟨_, _, _, _, _, _⟩) (v := ?_) rfl (by kernel_rfl) (by kernel_rfl) (by kernel_rfl) (fun _ _ _ h => h) (by rfl) ?_ HC.out ?_
      rotate_left
      · intro W hW; go_simp; with_reducible rfl
      simp only [Act.put, List.setIfInBounds_toArray, List.set_cons_zero, List.set_cons_succ]
      refine wpAnyH_ready (rs := [8]) (by kernel_rfl) (by simp) ?_
      refine AllReadyH.cons (o := ⟨_, _, _, _, _, _⟩) rfl (fun K hK => ?_) AllReadyH.nil
      obtain ⟨z0, z1, z2, z3⟩ := cells4 HZ.out
      have f0 := frozen_of_row x3 gz 0 _ _ HZ.out; have f1 := frozen_of_row x3 gz 1 _ _ HZ.out; have f2 := frozen_of_row x3 gz 2 _ _ HZ.out; have f3 := frozen_of_row x3 gz 3 _ _ HZ.out
      go_simp
      refine hK.out _ _ ((((HC.out.setCell HZN.out _).setCell HZN.out _).setCell HZN.out _).setCell HZN.out _) (fun _ => ?_)
      clear hK K
      have HZ := Lib.hid (show ((((x3.setCell ⟨gz, 0, none⟩ (.int .i64 a1)).setCell ⟨gz, 1, none⟩ (.int .i64 a2)).setCell ⟨gz, 2, none⟩ (.int .i64 ta)).setCell ⟨gz, 3, none⟩ (.int .i64 t2)).heap[gz]? = some (.cells #[.int .i64 a1, .int .i64 a2, .int .i64 ta, .int .i64 t2] 73) from putsI HZ.out rfl _ _ _ _)
      have HC := Lib.hid (show Below w1.heap.size w1 ((((x3.setCell ⟨gz, 0, none⟩ (.int .i64 a1)).setCell ⟨gz, 1, none⟩ (.int .i64 a2)).setCell ⟨gz, 2, none⟩ (.int .i64 ta)).setCell ⟨gz, 3, none⟩ (.int .i64 t2)) from ((((HC.out.setCell HZN.out _).setCell HZN.out _).setCell HZN.out _).setCell HZN.out _))
      have HR := Lib.hid ((HC.out.block _ (Array.getElem?_eq_some_iff.1 HR.out).1).trans HR.out)
      refine take_in (i := 9) (oi := ⟨_, _, _, _, _, _⟩) (v := ?_) rfl (by kernel_rfl) (by kernel_rfl) (by kernel_rfl) (fun _ _ _ h => h) (by rfl) ?_ HC.out ?_
      rotate_left
      · intro W hW; go_simp; with_reducible rfl
      simp only [Act.put, List.setIfInBounds_toArray, List.set_cons_zero, List.set_cons_succ]
      refine wpAnyH_done (by kernel_rfl) ?_ _
      have HB := Lib.hid (HB.out.trans (HC.out.mono HB.out.size))
      generalize ((((x3.setCell ⟨gz, 0, none⟩ (.int .i64 a1)).setCell ⟨gz, 1, none⟩ (.int .i64 a2)).setCell ⟨gz, 2, none⟩ (.int .i64 ta)).setCell ⟨gz, 3, none⟩ (.int .i64 t2)) = y at HZ HC HB HR ⊢
      clear f0 f1 f2 f3 z0 z1 z2 z3
      obtain ⟨z0, z1, z2, z3⟩ := cells4 HZ.out
      have r0 := (cells2 HR.out).1; have r1 := (cells2 HR.out).2
      have g0 := frozen_of_row y (w.heap.size + 1 + 1) 0 _ _ HR.out; have g1 := frozen_of_row y (w.heap.size + 1 + 1) 1 _ _ HR.out
      clear HC HQ HZN
      go_wp2
      refine bodyPost_ret (results_vi2 (g := w.heap.size + 1 + 1) (a := ta) (d := t2) (x := .bool hit) rfl rfl rfl (vi_put HR.out ta t2)) rfl ?_
      exact ⟨HPO.out, (HB.out.setCell (show w.heap.size ≤ w.heap.size + 1 + 1 by omega) _).setCell (show w.heap.size ≤ w.heap.size + 1 + 1 by omega) _⟩
  · go_simp
    refine hK.out _ _ (bal HC.out (Nat.le_refl _) (.cells #[.int .i64 0, .int .i64 0, .int .i64 0, .int .i64 0] 73)) (fun _ => ?_)
    clear hK K
    have HZ := Lib.hid (show (w5.alloc (.cells #[.int .i64 0, .int .i64 0, .int .i64 0, .int .i64 0] 73)).heap[w5.heap.size]? = some (.cells #[.int .i64 0, .int .i64 0, .int .i64 0, .int .i64 0] 73) from hat _ _ _ rfl)
    have HZN := Lib.hid (show w1.heap.size ≤ w5.heap.size from HC.out.size)
    have HC := Lib.hid (bal HC.out (Nat.le_refl _) (.cells #[.int .i64 0, .int .i64 0, .int .i64 0, .int .i64 0] 73))
    generalize w5.alloc (.cells #[.int .i64 0, .int .i64 0, .int .i64 0, .int .i64 0] 73) = x1 at HZ HC ⊢
    generalize w5.heap.size = gz at HZ HZN ⊢
    refine wpAnyH_ready (rs := [1]) (by kernel_rfl) (by simp) ?_
    refine AllReadyH.cons (o := ⟨_, _, _, _, _, _⟩) rfl (fun K hK => ?_) AllReadyH.nil
    go_simp
    refine (HSH.out x1).mono ?_
    rintro e x2 ⟨rfl, hb_⟩
    have HZ := Lib.hid ((hb_.block _ (Array.getElem?_eq_some_iff.1 HZ.out).1).trans HZ.out)
    have HC := Lib.hid (HC.out.trans (hb_.mono HC.out.size)); clear hb_
    refine hK.out _ _ HC.out (fun _ => ?_)
    clear hK K
    refine wpAnyH_ready (rs := [3]) (by kernel_rfl) (by simp) ?_
    refine AllReadyH.cons (o := ⟨_, _, _, _, _, _⟩) rfl (fun K hK => ?_) AllReadyH.nil
    go_simp
    refine (HFI.out x2 (HB.out.trans (HC.out.mono HB.out.size))).mono ?_
    rintro e x3 ⟨rfl, hb_⟩
    have HZ := Lib.hid ((hb_.block _ (Array.getElem?_eq_some_iff.1 HZ.out).1).trans HZ.out)
    have HC := Lib.hid (HC.out.trans (hb_.mono HC.out.size)); clear hb_
    refine hK.out _ _ HC.out (fun _ => ?_)
    clear hK K
    clear HSH HFI
    refine take_in (i := 4) (oi := ⟨_, _, _, _, _, _⟩) (v := ?_) rfl (by kernel_rfl) (by kernel_rfl) (by kernel_rfl) (fun _ _ _ h => h) (by rfl) ?_ HC.out ?_
    rotate_left
    · intro W hW; go_simp; with_reducible rfl
    simp only [Act.put, List.setIfInBounds_toArray, List.set_cons_zero, List.set_cons_succ]
    refine take_in (i := 5) (oi := ⟨_, _, _, _, _, _⟩) (v := ?_) rfl (by kernel_rfl) (by kernel_rfl) (by kernel_rfl) (fun _ _ _ h => h) (by rfl) ?_ HC.out ?_
    rotate_left
    · intro W hW; go_simp; with_reducible rfl
    simp only [Act.put, List.setIfInBounds_toArray, List.set_cons_zero, List.set_cons_succ]
    refine take_in (i := 6) (oi := ⟨_, _, _, _, _, _⟩) (v := ?_) rfl (by kernel_rfl) (by kernel_rfl) (by kernel_rfl) (fun _ _ _ h => h) (by rfl) ?_ HC.out ?_
    rotate_left
    · intro W hW; go_simp; with_reducible rfl
    simp only [Act.put, List.setIfInBounds_toArray, List.set_cons_zero, List.set_cons_succ]
    refine wpAnyH_ready (rs := [8]) (by kernel_rfl) (by simp) ?_
    refine AllReadyH.cons (o := ⟨_, _, _, _, _, _⟩) rfl (fun K hK => ?_) AllReadyH.nil
    obtain ⟨z0, z1, z2, z3⟩ := cells4 HZ.out
    have f0 := frozen_of_row x3 gz 0 _ _ HZ.out; have f1 := frozen_of_row x3 gz 1 _ _ HZ.out; have f2 := frozen_of_row x3 gz 2 _ _ HZ.out; have f3 := frozen_of_row x3 gz 3 _ _ HZ.out
    go_simp
    refine hK.out _ _ ((((HC.out.setCell HZN.out _).setCell HZN.out _).setCell HZN.out _).setCell HZN.out _) (fun _ => ?_)
    clear hK K
    have HZ := Lib.hid (show ((((x3.setCell ⟨gz, 0, none⟩ (.int .i64 a1)).setCell ⟨gz, 1, none⟩ (.int .i64 a2)).setCell ⟨gz, 2, none⟩ (.int .i64 ta)).setCell ⟨gz, 3, none⟩ (.int .i64 t2)).heap[gz]? = some (.cells #[.int .i64 a1, .int .i64 a2, .int .i64 ta, .int .i64 t2] 73) from putsI HZ.out rfl _ _ _ _)
    have HC := Lib.hid (show Below w1.heap.size w1 ((((x3.setCell ⟨gz, 0, none⟩ (.int .i64 a1)).setCell ⟨gz, 1, none⟩ (.int .i64 a2)).setCell ⟨gz, 2, none⟩ (.int .i64 ta)).setCell ⟨gz, 3, none⟩ (.int .i64 t2)) from ((((HC.out.setCell HZN.out _).setCell HZN.out _).setCell HZN.out _).setCell HZN.out _))
    have HR := Lib.hid ((HC.out.block _ (Array.getElem?_eq_some_iff.1 HR.out).1).trans HR.out)
    refine take_in (i := 9) (oi := ⟨_, _, _, _, _, _⟩) (v := ?_) rfl (by kernel_rfl) (by kernel_rfl) (by kernel_rfl) (fun _ _ _ h => h) (by rfl) ?_ HC.out ?_
    rotate_left
    · intro W hW; go_simp; with_reducible rfl
    simp only [Act.put, List.setIfInBounds_toArray, List.set_cons_zero, List.set_cons_succ]
    refine wpAnyH_done (by kernel_rfl) ?_ _
    have HB := Lib.hid (HB.out.trans (HC.out.mono HB.out.size))
    generalize ((((x3.setCell ⟨gz, 0, none⟩ (.int .i64 a1)).setCell ⟨gz, 1, none⟩ (.int .i64 a2)).setCell ⟨gz, 2, none⟩ (.int .i64 ta)).setCell ⟨gz, 3, none⟩ (.int .i64 t2)) = y at HZ HC HB HR ⊢
    clear f0 f1 f2 f3 z0 z1 z2 z3
    obtain ⟨z0, z1, z2, z3⟩ := cells4 HZ.out
    have r0 := (cells2 HR.out).1; have r1 := (cells2 HR.out).2
    have g0 := frozen_of_row y (w.heap.size + 1 + 1) 0 _ _ HR.out; have g1 := frozen_of_row y (w.heap.size + 1 + 1) 1 _ _ HR.out
    clear HC HQ HZN
    go_wp2
    refine bodyPost_ret (results_vi2 (g := w.heap.size + 1 + 1) (a := ta) (d := t2) (x := .bool hit) rfl rfl rfl (vi_put HR.out ta t2)) rfl ?_
    exact ⟨HPO.out, (HB.out.setCell (show w.heap.size ≤ w.heap.size + 1 + 1 by omega) _).setCell (show w.heap.size ≤ w.heap.size + 1 + 1 by omega) _⟩
end Go.Proofs.YtfblnomkafimhaaGreat.Fow
