/- Contracts and words on which the claims of this seat stand, part 9: LgX LgY. -/
import Derived.Test.YtjcbdnbbdhjoiaaG08
set_option linter.unusedSimpArgs false
set_option linter.unusedVariables false
namespace Go.Proofs.Ytjcbdnbbdhjoiaa.Lgw
set_option maxRecDepth 20000
open Go.RowKit
open Bk Lg Wire
open Tgw (hat hbe)
open Rg (bal)

theorem guess_r (A : Option Addr) (n c : Nat) (ns : List Nat) (w : World) (h : Sn w A n c ns) : Calls Try.prog 78 #[.slice A n c] w (RetRec w (guessR ns)) := by
  by_cases h1 : atN ns 0 = 1
  · exact guess_1 A n c ns w h h1
  · exact guess_o A n c ns w h h1
/-- the record with which bytes begin, how many bytes it is, and whether there is one -/
def RetFirst (w : World) (b : List UInt8) (e : Ending) (w' : World) : Prop :=
  Below w.heap.size w w' ∧ ((∃ r n, First b r n ∧ e = .returned (.tuple #[rvv r, .int .i64 (n : Nat), .bool true])) ∨ ((∀ r n, ¬ First b r n) ∧ e = .returned (.tuple #[rvv zeroR, .int .i64 0, .bool false])))
theorem ownN_cap {w : World} {base : Nat} {A : Option Addr} {n c : Nat} {ns : List Nat} (h : OwnN w base A n c ns) : n ≤ c := by
  obtain ⟨A', c', e, h1, _⟩ := own_slice h.2
  injection e with e1 e2 e3
  omega
/-- the length of a slice -/
def lenS (v : Value) : Nat := match v with
  | .slice _ n _ => n
  | _ => 0
set_option maxHeartbeats 2000000 in
theorem first_r (A : Option Addr) (n c : Nat) (bs : List UInt8) (hn : n = bs.length) (hc : n ≤ c) (hl : n ≤ big) (w : World) (hr : Rd w w.heap.size A (bs.map B8)) : Calls Try.prog 46 #[.slice A n c] w (RetFirst w bs) := by
  have hsf := store_flt
  have HR := Lib.hid hr; have HN := Lib.hid hn
  have HNO : Hid ((∀ r n, ¬ First bs r n) → ∀ w', Below w.heap.size w w' → RetFirst w bs (.returned (.tuple #[rvv ⟨0, 0, 0, 0, 0, 0, zero 0, 0⟩, .int .i64 0, .bool false])) w') := Lib.hid (fun h w' hb => ⟨hb, Or.inr ⟨h, rfl⟩⟩)
  have HYES : Hid (∀ r m, First bs r m → ∀ w', Below w.heap.size w w' → RetFirst w bs (.returned (.tuple #[rvv r, .int .i64 (m : Nat), .bool true])) w') := Lib.hid (fun r m h w' hb => ⟨hb, Or.inl ⟨r, m, h, rfl⟩⟩)
  generalize RetFirst w bs = PP at HNO HYES ⊢
  clear hr hn
  go_enter Try.func46, Try.ntmps46
  go_wp2_with fail
  have HX := Lib.hid (show Rx (w.alloc (.cells #[.int .i64 0, .int .i64 0, .int .i64 0, .int .i64 0, .int .i64 0, .int .i64 0, .int .i64 0, .int .i64 0, .int .i64 0, .float .f64 0, .int .i64 0] 40)) w.heap.size zeroR from hat _ _ _ rfl)
  have HB := Lib.hid (bal (Below.refl w.heap.size w) (Nat.le_refl _) (.cells #[.int .i64 0, .int .i64 0, .int .i64 0, .int .i64 0, .int .i64 0, .int .i64 0, .int .i64 0, .int .i64 0, .int .i64 0, .float .f64 0, .int .i64 0] 40))
  generalize w.alloc (.cells #[.int .i64 0, .int .i64 0, .int .i64 0, .int .i64 0, .int .i64 0, .int .i64 0, .int .i64 0, .int .i64 0, .int .i64 0, .float .f64 0, .int .i64 0] 40) = w0 at HX HB ⊢
  have HR0 := Lib.hid ((HR.out.below HB.out).more HB.out.size)
  refine (cut_rc A n c bs HN.out hc _ w0 HR0.out (Nat.le_refl _) hl).mono ?_
  rintro e w1 ⟨hb1, h1⟩
  have HX := Lib.hid (HX.out.all hb1)
  have HR1 := Lib.hid ((HR0.out.below hb1).more hb1.size)
  have HB := Lib.hid (HB.out.trans (hb1.mono HB.out.size)); clear hb1 HR0
  cases hcut : cutF bs with
  | none =>
    rw [hcut] at h1
    have h1' : e = .returned (.tuple #[.slice none 0 0, .slice none 0 0, .int .i64 21]) := h1
    subst h1'
    clear h1
    have HW := Lib.hid (no_cut hcut)
    obtain ⟨z0, z1, z2, z3, z4, z5, z6, z7, z8, z9, z10⟩ := HX.out.cs
    have f0 := HX.out.frozen 0; have f1 := HX.out.frozen 1; have f2 := HX.out.frozen 2; have f3 := HX.out.frozen 3; have f4 := HX.out.frozen 4; have f5 := HX.out.frozen 5; have f6 := HX.out.frozen 6; have f7 := HX.out.frozen 7; have f8 := HX.out.frozen 8; have f9 := HX.out.frozen 9; have f10 := HX.out.frozen 10
    go_wp2
    refine bodyPost_ret (results_rec3 (g := w.heap.size) (r := ⟨0, 0, 0, 0, 0, 0, zero 0, 0⟩) rfl rfl rfl rfl (HX.out.put ⟨0, 0, 0, 0, 0, 0, zero 0, 0⟩)) rfl ?_
    exact HNO.out HW.out _ (((((((((((HB.out.setCell (Nat.le_refl _) _).setCell (Nat.le_refl _) _).setCell (Nat.le_refl _) _).setCell (Nat.le_refl _) _).setCell (Nat.le_refl _) _).setCell (Nat.le_refl _) _).setCell (Nat.le_refl _) _).setCell (Nat.le_refl _) _).setCell (Nat.le_refl _) _).setCell (Nat.le_refl _) _).setCell (Nat.le_refl _) _)
  | some ts =>
    obtain ⟨t, s⟩ := ts
    rw [hcut] at h1
    obtain ⟨A2, n2, c2, A3, n3, c3, rfl, hn2, hn3, hr2, hr3, hc2, hc3⟩ := h1
    have HCUT := Lib.hid hcut
    have HN2 := Lib.hid hn2; have HR2 := Lib.hid hr2
    have ht4 : t.length ≤ 4000 := (cutF_some hcut).1
    have hn24 : n2 ≤ 4000 := by omega
    clear hcut hn2 hn3 hr2 hr3 hc3
    go_wp2_with fail
    refine (open_r A2 n2 c2 t HN2.out hc2 _ w1 HR2.out (Nat.le_refl _) (by unfold big; omega)).mono ?_
    rintro e w2 ⟨A4, n4, c4, rfl, hn4, hc4, hr4, hb2⟩
    have HX := Lib.hid (HX.out.all hb2)
    have HR1 := Lib.hid ((HR1.out.below hb2).more hb2.size)
    have HB := Lib.hid (HB.out.trans (hb2.mono HB.out.size)); clear hb2
    cases hop : Crc.openF t with
    | none =>
      rw [hop] at hn4 hr4
      have hoe : oE (none : Option (List UInt8)) = 31 := rfl
      rw [hoe]
      have HW := Lib.hid (no_open HCUT.out hop)
      obtain ⟨z0, z1, z2, z3, z4, z5, z6, z7, z8, z9, z10⟩ := HX.out.cs
      have f0 := HX.out.frozen 0; have f1 := HX.out.frozen 1; have f2 := HX.out.frozen 2; have f3 := HX.out.frozen 3; have f4 := HX.out.frozen 4; have f5 := HX.out.frozen 5; have f6 := HX.out.frozen 6; have f7 := HX.out.frozen 7; have f8 := HX.out.frozen 8; have f9 := HX.out.frozen 9; have f10 := HX.out.frozen 10
      go_wp2
      refine bodyPost_ret (results_rec3 (g := w.heap.size) (r := ⟨0, 0, 0, 0, 0, 0, zero 0, 0⟩) rfl rfl rfl rfl (HX.out.put ⟨0, 0, 0, 0, 0, 0, zero 0, 0⟩)) rfl ?_
      exact HNO.out HW.out _ (((((((((((HB.out.setCell (Nat.le_refl _) _).setCell (Nat.le_refl _) _).setCell (Nat.le_refl _) _).setCell (Nat.le_refl _) _).setCell (Nat.le_refl _) _).setCell (Nat.le_refl _) _).setCell (Nat.le_refl _) _).setCell (Nat.le_refl _) _).setCell (Nat.le_refl _) _).setCell (Nat.le_refl _) _).setCell (Nat.le_refl _) _)
    | some body =>
      rw [hop] at hn4 hr4
      have hoe : oE (some body) = 0 := rfl
      have hob : oB (some body) = body := rfl
      rw [hob] at hn4 hr4
      rw [hoe]
      have HOP := Lib.hid hop
      have hb4 : n4 ≤ 4000 := by
        have := Crc.open_some hop
        have h5 := congrArg List.length this
        have h6 : body.length ≤ (Crc.seal_ body).length := by unfold Crc.seal_; simp
        omega
      have HN4 := Lib.hid hn4; have HR4 := Lib.hid hr4
      clear hop hoe hob hn4 hr4
      go_wp2
      have HG : Hid (w.heap.size < w2.heap.size) := Lib.hid HX.out.lt
      go_loopw [8, 10] (fun x8 x10 wr => ∃ (A8 : Option Addr) (n8 c8 : Nat) (rest : List UInt8) (A1 : Option Addr) (n1 c1 : Nat) (ms : List Nat), x8 = .slice A8 n8 c8 ∧ x10 = .slice A1 n1 c1 ∧ n8 = rest.length ∧ n8 ≤ c8 ∧ body = ms.flatMap form ++ rest ∧ (∀ x ∈ ms, W64 x) ∧ n8 + n1 ≤ 4000 ∧ Rd wr wr.heap.size A8 (rest.map B8) ∧ OwnN wr w2.heap.size A1 n1 c1 ms ∧ Below w2.heap.size w2 wr) (fun x8 _ _ => lenS x8)
      case atStart => exact ⟨A4, n4, c4, body, _, 0, 0, [], rfl, rfl, HN4.out, hc4, rfl, by simp, by omega, (HR4.out.below (bal (Below.refl _ _) (Nat.le_refl _) _)).more (by simp), ownN_new w2 _ [] (Nat.le_refl _) (by simp), bal (Below.refl _ _) (Nat.le_refl _) _⟩
      case round =>
        obtain ⟨A8, n8, c8, rest, A1, n1, c1, ms, rfl, rfl, hn8, hc8, hbd, hwm, hsum, hr8, ho1, hbr⟩ := hrel
        have HN8 := Lib.hid hn8; have HBD := Lib.hid hbd; have HWM := Lib.hid hwm; have HR8 := Lib.hid hr8; have HO1 := Lib.hid ho1; have HBR := Lib.hid hbr
        have HXR := Lib.hid (HX.out.all hbr)
        have HBB := Lib.hid (HB.out.trans (hbr.mono HB.out.size))
        clear hn8 hbd hwm hr8 ho1 hbr
        by_cases h0 : n8 = 0
        · have hrest : rest = [] := List.eq_nil_of_length_eq_zero (by rw [← HN8.out]; exact h0)
          have HBD := Lib.hid (show body = ms.flatMap form by rw [HBD.out, hrest, List.append_nil])
          subst h0
          clear hrest
          have HGV := Lib.hid (guess_val ms HWM.out)
          have HFG := Lib.hid (fun r n (hf : First bs r n) => first_guess HCUT.out HOP.out HBD.out HWM.out hf)
          have HFF := Lib.hid (fun hk s' hb => first_found HCUT.out HOP.out HBD.out HWM.out hk (s' := s') hb)
          go_wp2_with fail
          refine (guess_r A1 n1 c1 ms wr ⟨HO1.out.1, ownN_cap HO1.out, by omega, HWM.out, HO1.out.rd⟩).mono ?_
          rintro e w3 ⟨rfl, hb3⟩
          have HXR := Lib.hid (HXR.out.all hb3)
          have HBB := Lib.hid (HBB.out.trans (hb3.mono HBB.out.size))
          have HRB := Lib.hid (((HR1.out.below HBR.out).more HBR.out.size |>.below hb3).more hb3.size)
          clear hb3
          generalize guessR ms = r at HGV HFG HFF ⊢
          have HBY := Lib.hid (fun W => bytes_r r HGV.out W)
          unfold rvv at HBY ⊢
          go_wp2_with fail
          have HXV := Lib.hid (show Rx (w3.alloc (.cells #[.int .i64 r.kind, .int .i64 r.va, .int .i64 r.vd, .int .i64 r.cn, .int .i64 r.ca, .int .i64 r.cd, .int .i64 r.e.key, .int .i64 r.e.num, .int .i64 r.e.node, .float .f64 r.e.val, .int .i64 r.n] 40)) w3.heap.size r from hat _ _ _ rfl)
          have HXQ := Lib.hid (show Rx (w3.alloc (.cells #[.int .i64 r.kind, .int .i64 r.va, .int .i64 r.vd, .int .i64 r.cn, .int .i64 r.ca, .int .i64 r.cd, .int .i64 r.e.key, .int .i64 r.e.num, .int .i64 r.e.node, .float .f64 r.e.val, .int .i64 r.n] 40)) w.heap.size zeroR from hbe HXR.out)
          have HBQ := Lib.hid (bal HBB.out (Nat.le_refl _) (.cells #[.int .i64 r.kind, .int .i64 r.va, .int .i64 r.vd, .int .i64 r.cn, .int .i64 r.ca, .int .i64 r.cd, .int .i64 r.e.key, .int .i64 r.e.num, .int .i64 r.e.node, .float .f64 r.e.val, .int .i64 r.n] 40))
          have HRQ := Lib.hid ((HRB.out.below (bal (Below.refl _ _) (Nat.le_refl _) (.cells #[.int .i64 r.kind, .int .i64 r.va, .int .i64 r.vd, .int .i64 r.cn, .int .i64 r.ca, .int .i64 r.cd, .int .i64 r.e.key, .int .i64 r.e.num, .int .i64 r.e.node, .float .f64 r.e.val, .int .i64 r.n] 40))).more (bal (Below.refl w3.heap.size w3) (Nat.le_refl _) (.cells #[.int .i64 r.kind, .int .i64 r.va, .int .i64 r.vd, .int .i64 r.cn, .int .i64 r.ca, .int .i64 r.cd, .int .i64 r.e.key, .int .i64 r.e.num, .int .i64 r.e.node, .float .f64 r.e.val, .int .i64 r.n] 40)).size)
          generalize w3.alloc (.cells #[.int .i64 r.kind, .int .i64 r.va, .int .i64 r.vd, .int .i64 r.cn, .int .i64 r.ca, .int .i64 r.cd, .int .i64 r.e.key, .int .i64 r.e.num, .int .i64 r.e.node, .float .f64 r.e.val, .int .i64 r.n] 40) = w4 at HXV HXQ HBQ HRQ ⊢
          clear HXR HBB HRB
          generalize w3.heap.size = g3 at HXV ⊢
          refine (HBY.out _).mono ?_
          rintro e w5 ⟨hb5, h5⟩
          have HXV := Lib.hid (HXV.out.all hb5)
          have HXR := Lib.hid (HXQ.out.all hb5)
          have HBB := Lib.hid (HBQ.out.trans (hb5.mono HBQ.out.size))
          have HRB := Lib.hid ((HRQ.out.below hb5).more hb5.size)
          rcases h5 with ⟨hrt, rfl⟩ | ⟨hrt, A6, n6, c6, rfl, ho6⟩
          · clear hb5
            have HW : Hid (∀ r' n', ¬ First bs r' n') := Lib.hid (fun r' n' hf => by have h1 := HFG.out r' n' hf; rw [h1, hf.1.1] at hrt; cases hrt)
            go_wp2_with fail
            refine wp_region_held_drew (S := fun W' => Below w5.heap.size w5 W') (by kernel_rfl) (Below.refl _ _).drew (fun hHeld => ?_)
            generalize w5.drew = w6 at hHeld ⊢
            have HB6 : Hid (Below w5.heap.size w5 w6) := hHeld
            clear hHeld
            refine take_in (i := 0) (oi := ⟨_, _, _, _, _, _⟩) (v := ?_) rfl (by kernel_rfl) (by kernel_rfl) (by kernel_rfl) (fun _ _ _ h => h) (by rfl) ?_ HB6.out ?_
            rotate_left
            · intro W hW; go_simp; with_reducible rfl
            simp only [Act.put, List.setIfInBounds_toArray, List.set_cons_zero, List.set_cons_succ]
            refine take_in (i := 1) (oi := ⟨_, _, _, _, _, _⟩) (v := ?_) rfl (by kernel_rfl) (by kernel_rfl) (by kernel_rfl) (fun _ _ _ h => h) (by rfl) ?_ HB6.out ?_
            rotate_left
            · intro W hW; go_simp; with_reducible rfl
            simp only [Act.put, List.setIfInBounds_toArray, List.set_cons_zero, List.set_cons_succ]
            refine take_in (i := 2) (oi := ⟨_, _, _, _, _, _⟩) (v := ?_) rfl (by kernel_rfl) (by kernel_rfl) (by kernel_rfl) (fun _ _ _ h => h) (by rfl) ?_ HB6.out ?_
            rotate_left
            · intro W hW; go_simp; with_reducible rfl
            simp only [Act.put, List.setIfInBounds_toArray, List.set_cons_zero, List.set_cons_succ]
            refine skip_in (i := 3) (oi := ⟨_, _, _, _, _, _⟩) rfl (by kernel_rfl) (by kernel_rfl) (by kernel_rfl) (fun _ _ _ h => h) (by rfl) HB6.out ?_
            simp only [Act.put, List.setIfInBounds_toArray, List.set_cons_zero, List.set_cons_succ]
            refine skip_in (i := 4) (oi := ⟨_, _, _, _, _, _⟩) rfl (by kernel_rfl) (by kernel_rfl) (by kernel_rfl) (fun _ _ _ h => h) (by rfl) HB6.out ?_
            simp only [Act.put, List.setIfInBounds_toArray, List.set_cons_zero, List.set_cons_succ]
            refine skip_in (i := 5) (oi := ⟨_, _, _, _, _, _⟩) rfl (by kernel_rfl) (by kernel_rfl) (by kernel_rfl) (fun _ _ _ h => h) (by rfl) HB6.out ?_
            simp only [Act.put, List.setIfInBounds_toArray, List.set_cons_zero, List.set_cons_succ]
            refine skip_in (i := 6) (oi := ⟨_, _, _, _, _, _⟩) rfl (by kernel_rfl) (by kernel_rfl) (by kernel_rfl) (fun _ _ _ h => h) (by rfl) HB6.out ?_
            simp only [Act.put, List.setIfInBounds_toArray, List.set_cons_zero, List.set_cons_succ]
            refine skip_in (i := 7) (oi := ⟨_, _, _, _, _, _⟩) rfl (by kernel_rfl) (by kernel_rfl) (by kernel_rfl) (fun _ _ _ h => h) (by rfl) HB6.out ?_
            simp only [Act.put, List.setIfInBounds_toArray, List.set_cons_zero, List.set_cons_succ]
            refine take_in (i := 8) (oi := ⟨_, _, _, _, _, _⟩) (v := ?_) rfl (by kernel_rfl) (by kernel_rfl) (by kernel_rfl) (fun _ _ _ h => h) (by rfl) ?_ HB6.out ?_
            rotate_left
            · intro W hW; go_simp; with_reducible rfl
            simp only [Act.put, List.setIfInBounds_toArray, List.set_cons_zero, List.set_cons_succ]
            refine take_in (i := 9) (oi := ⟨_, _, _, _, _, _⟩) (v := ?_) rfl (by kernel_rfl) (by kernel_rfl) (by kernel_rfl) (fun _ _ _ h => h) (by rfl) ?_ HB6.out ?_
            rotate_left
            · intro W hW; go_simp; with_reducible rfl
            simp only [Act.put, List.setIfInBounds_toArray, List.set_cons_zero, List.set_cons_succ]
            refine skip_in (i := 10) (oi := ⟨_, _, _, _, _, _⟩) rfl (by kernel_rfl) (by kernel_rfl) (by kernel_rfl) (fun _ _ _ h => h) (by rfl) HB6.out ?_
            simp only [Act.put, List.setIfInBounds_toArray, List.set_cons_zero, List.set_cons_succ]
            refine skip_in (i := 11) (oi := ⟨_, _, _, _, _, _⟩) rfl (by kernel_rfl) (by kernel_rfl) (by kernel_rfl) (fun _ _ _ h => h) (by rfl) HB6.out ?_
            simp only [Act.put, List.setIfInBounds_toArray, List.set_cons_zero, List.set_cons_succ]
            refine skip_in (i := 12) (oi := ⟨_, _, _, _, _, _⟩) rfl (by kernel_rfl) (by kernel_rfl) (by kernel_rfl) (fun _ _ _ h => h) (by rfl) HB6.out ?_
            simp only [Act.put, List.setIfInBounds_toArray, List.set_cons_zero, List.set_cons_succ]
            refine skip_in (i := 13) (oi := ⟨_, _, _, _, _, _⟩) rfl (by kernel_rfl) (by kernel_rfl) (by kernel_rfl) (fun _ _ _ h => h) (by rfl) HB6.out ?_
            simp only [Act.put, List.setIfInBounds_toArray, List.set_cons_zero, List.set_cons_succ]
            refine skip_in (i := 14) (oi := ⟨_, _, _, _, _, _⟩) rfl (by kernel_rfl) (by kernel_rfl) (by kernel_rfl) (fun _ _ _ h => h) (by rfl) HB6.out ?_
            simp only [Act.put, List.setIfInBounds_toArray, List.set_cons_zero, List.set_cons_succ]
            refine skip_in (i := 15) (oi := ⟨_, _, _, _, _, _⟩) rfl (by kernel_rfl) (by kernel_rfl) (by kernel_rfl) (fun _ _ _ h => h) (by rfl) HB6.out ?_
            simp only [Act.put, List.setIfInBounds_toArray, List.set_cons_zero, List.set_cons_succ]
            refine skip_in (i := 16) (oi := ⟨_, _, _, _, _, _⟩) rfl (by kernel_rfl) (by kernel_rfl) (by kernel_rfl) (fun _ _ _ h => h) (by rfl) HB6.out ?_
            simp only [Act.put, List.setIfInBounds_toArray, List.set_cons_zero, List.set_cons_succ]
            refine skip_in (i := 17) (oi := ⟨_, _, _, _, _, _⟩) rfl (by kernel_rfl) (by kernel_rfl) (by kernel_rfl) (fun _ _ _ h => h) (by rfl) HB6.out ?_
            simp only [Act.put, List.setIfInBounds_toArray, List.set_cons_zero, List.set_cons_succ]
            refine take_in (i := 18) (oi := ⟨_, _, _, _, _, _⟩) (v := ?_) rfl (by kernel_rfl) (by kernel_rfl) (by kernel_rfl) (fun _ _ _ h => h) (by rfl) ?_ HB6.out ?_
            rotate_left
            · intro W hW; go_simp; with_reducible rfl
            simp only [Act.put, List.setIfInBounds_toArray, List.set_cons_zero, List.set_cons_succ]
            refine wpAnyH_done (by kernel_rfl) ?_ _
            have HXE := Lib.hid (HXR.out.all HB6.out)
            have HBE := Lib.hid (HBB.out.trans (HB6.out.mono HBB.out.size))
            obtain ⟨z0, z1, z2, z3, z4, z5, z6, z7, z8, z9, z10⟩ := HXE.out.cs
            have f0 := HXE.out.frozen 0; have f1 := HXE.out.frozen 1; have f2 := HXE.out.frozen 2; have f3 := HXE.out.frozen 3; have f4 := HXE.out.frozen 4; have f5 := HXE.out.frozen 5; have f6 := HXE.out.frozen 6; have f7 := HXE.out.frozen 7; have f8 := HXE.out.frozen 8; have f9 := HXE.out.frozen 9; have f10 := HXE.out.frozen 10
            go_wp2
            refine bodyPost_ret (results_rec3 (g := w.heap.size) (r := ⟨0, 0, 0, 0, 0, 0, zero 0, 0⟩) rfl rfl rfl rfl (HXE.out.put ⟨0, 0, 0, 0, 0, 0, zero 0, 0⟩)) rfl ?_
            exact HNO.out HW.out _ (((((((((((HBE.out.setCell (Nat.le_refl _) _).setCell (Nat.le_refl _) _).setCell (Nat.le_refl _) _).setCell (Nat.le_refl _) _).setCell (Nat.le_refl _) _).setCell (Nat.le_refl _) _).setCell (Nat.le_refl _) _).setCell (Nat.le_refl _) _).setCell (Nat.le_refl _) _).setCell (Nat.le_refl _) _).setCell (Nat.le_refl _) _)
          · clear hb5
            have HRT := Lib.hid hrt; have HO6 := Lib.hid ho6
            have h6 : n6 ≤ 60 := by have h1 := bytes_len r ⟨hrt, HGV.out⟩; have h2 := seal_small r ⟨hrt, HGV.out⟩; have h3 := ho6.1; omega
            clear hrt ho6
            by_cases hlo : n < n6
            · have HW : Hid (∀ r' n', ¬ First bs r' n') := Lib.hid (fun r' n' hf => by
                have h1 := HFG.out r' n' hf
                obtain ⟨_, _, _, s', hs'⟩ := hf
                have h2 := congrArg List.length hs'
                rw [List.length_append, ← h1, ← HO6.out.1, ← HN.out] at h2
                omega)
              have hlo' : (n : Int) < (n6 : Int) := by omega
              go_wp2_with fail
              refine wp_region_held_drew (S := fun W' => Below w5.heap.size w5 W') (by kernel_rfl) (Below.refl _ _).drew (fun hHeld => ?_)
              generalize w5.drew = w6 at hHeld ⊢
              have HB6 : Hid (Below w5.heap.size w5 w6) := hHeld
              clear hHeld
              refine take_in (i := 0) (oi := ⟨_, _, _, _, _, _⟩) (v := ?_) rfl (by kernel_rfl) (by kernel_rfl) (by kernel_rfl) (fun _ _ _ h => h) (by rfl) ?_ HB6.out ?_
              rotate_left
              · intro W hW; go_simp; with_reducible rfl
              simp only [Act.put, List.setIfInBounds_toArray, List.set_cons_zero, List.set_cons_succ]
              refine take_in (i := 1) (oi := ⟨_, _, _, _, _, _⟩) (v := ?_) rfl (by kernel_rfl) (by kernel_rfl) (by kernel_rfl) (fun _ _ _ h => h) (by rfl) ?_ HB6.out ?_
              rotate_left
              · intro W hW; go_simp; with_reducible rfl
              simp only [Act.put, List.setIfInBounds_toArray, List.set_cons_zero, List.set_cons_succ]
              refine take_in (i := 2) (oi := ⟨_, _, _, _, _, _⟩) (v := ?_) rfl (by kernel_rfl) (by kernel_rfl) (by kernel_rfl) (fun _ _ _ h => h) (by rfl) ?_ HB6.out ?_
              rotate_left
              · intro W hW; go_simp; with_reducible rfl
              simp only [Act.put, List.setIfInBounds_toArray, List.set_cons_zero, List.set_cons_succ]
              refine take_in (i := 3) (oi := ⟨_, _, _, _, _, _⟩) (v := ?_) rfl (by kernel_rfl) (by kernel_rfl) (by kernel_rfl) (fun _ _ _ h => h) (by rfl) ?_ HB6.out ?_
              rotate_left
              · intro W hW; go_simp; with_reducible rfl
              simp only [Act.put, List.setIfInBounds_toArray, List.set_cons_zero, List.set_cons_succ]
              refine take_in (i := 4) (oi := ⟨_, _, _, _, _, _⟩) (v := ?_) rfl (by kernel_rfl) (by kernel_rfl) (by kernel_rfl) (fun _ _ _ h => h) (by rfl) ?_ HB6.out ?_
              rotate_left
              · intro W hW; go_simp; with_reducible rfl
              simp only [Act.put, List.setIfInBounds_toArray, List.set_cons_zero, List.set_cons_succ]
              refine take_in (i := 5) (oi := ⟨_, _, _, _, _, _⟩) (v := ?_) rfl (by kernel_rfl) (by kernel_rfl) (by kernel_rfl) (fun _ _ _ h => h) (by rfl) ?_ HB6.out ?_
              rotate_left
              · intro W hW; go_simp; with_reducible rfl
              simp only [Act.put, List.setIfInBounds_toArray, List.set_cons_zero, List.set_cons_succ]
              refine take_in (i := 6) (oi := ⟨_, _, _, _, _, _⟩) (v := ?_) rfl (by kernel_rfl) (by kernel_rfl) (by kernel_rfl) (fun _ _ _ h => h) (by rfl) ?_ HB6.out ?_
              rotate_left
              · intro W hW; go_simp; with_reducible rfl
              simp only [Act.put, List.setIfInBounds_toArray, List.set_cons_zero, List.set_cons_succ]
              refine take_in (i := 7) (oi := ⟨_, _, _, _, _, _⟩) (v := ?_) rfl (by kernel_rfl) (by kernel_rfl) (by kernel_rfl) (fun _ _ _ h => h) (by rfl) ?_ HB6.out ?_
              rotate_left
              · intro W hW; go_simp; with_reducible rfl
              simp only [Act.put, List.setIfInBounds_toArray, List.set_cons_zero, List.set_cons_succ]
              refine take_in (i := 8) (oi := ⟨_, _, _, _, _, _⟩) (v := ?_) rfl (by kernel_rfl) (by kernel_rfl) (by kernel_rfl) (fun _ _ _ h => h) (by rfl) ?_ HB6.out ?_
              rotate_left
              · intro W hW; go_simp; with_reducible rfl
              simp only [Act.put, List.setIfInBounds_toArray, List.set_cons_zero, List.set_cons_succ]
              refine take_in (i := 9) (oi := ⟨_, _, _, _, _, _⟩) (v := ?_) rfl (by kernel_rfl) (by kernel_rfl) (by kernel_rfl) (fun _ _ _ h => h) (by rfl) ?_ HB6.out ?_
              rotate_left
              · intro W hW; go_simp; with_reducible rfl
              simp only [Act.put, List.setIfInBounds_toArray, List.set_cons_zero, List.set_cons_succ]
              refine skip_in (i := 10) (oi := ⟨_, _, _, _, _, _⟩) rfl (by kernel_rfl) (by kernel_rfl) (by kernel_rfl) (fun _ _ _ h => h) (by rfl) HB6.out ?_
              simp only [Act.put, List.setIfInBounds_toArray, List.set_cons_zero, List.set_cons_succ]
              refine skip_in (i := 11) (oi := ⟨_, _, _, _, _, _⟩) rfl (by kernel_rfl) (by kernel_rfl) (by kernel_rfl) (fun _ _ _ h => h) (by rfl) HB6.out ?_
              simp only [Act.put, List.setIfInBounds_toArray, List.set_cons_zero, List.set_cons_succ]
              refine skip_in (i := 12) (oi := ⟨_, _, _, _, _, _⟩) rfl (by kernel_rfl) (by kernel_rfl) (by kernel_rfl) (fun _ _ _ h => h) (by rfl) HB6.out ?_
              simp only [Act.put, List.setIfInBounds_toArray, List.set_cons_zero, List.set_cons_succ]
              refine skip_in (i := 13) (oi := ⟨_, _, _, _, _, _⟩) rfl (by kernel_rfl) (by kernel_rfl) (by kernel_rfl) (fun _ _ _ h => h) (by rfl) HB6.out ?_
              simp only [Act.put, List.setIfInBounds_toArray, List.set_cons_zero, List.set_cons_succ]
              refine skip_in (i := 14) (oi := ⟨_, _, _, _, _, _⟩) rfl (by kernel_rfl) (by kernel_rfl) (by kernel_rfl) (fun _ _ _ h => h) (by rfl) HB6.out ?_
              simp only [Act.put, List.setIfInBounds_toArray, List.set_cons_zero, List.set_cons_succ]
              refine skip_in (i := 15) (oi := ⟨_, _, _, _, _, _⟩) rfl (by kernel_rfl) (by kernel_rfl) (by kernel_rfl) (fun _ _ _ h => h) (by rfl) HB6.out ?_
              simp only [Act.put, List.setIfInBounds_toArray, List.set_cons_zero, List.set_cons_succ]
              refine skip_in (i := 16) (oi := ⟨_, _, _, _, _, _⟩) rfl (by kernel_rfl) (by kernel_rfl) (by kernel_rfl) (fun _ _ _ h => h) (by rfl) HB6.out ?_
              simp only [Act.put, List.setIfInBounds_toArray, List.set_cons_zero, List.set_cons_succ]
              refine skip_in (i := 17) (oi := ⟨_, _, _, _, _, _⟩) rfl (by kernel_rfl) (by kernel_rfl) (by kernel_rfl) (fun _ _ _ h => h) (by rfl) HB6.out ?_
              simp only [Act.put, List.setIfInBounds_toArray, List.set_cons_zero, List.set_cons_succ]
              refine take_in (i := 18) (oi := ⟨_, _, _, _, _, _⟩) (v := ?_) rfl (by kernel_rfl) (by kernel_rfl) (by kernel_rfl) (fun _ _ _ h => h) (by rfl) ?_ HB6.out ?_
              rotate_left
              · intro W hW; go_simp; with_reducible rfl
              simp only [Act.put, List.setIfInBounds_toArray, List.set_cons_zero, List.set_cons_succ]
              refine wpAnyH_done (by kernel_rfl) ?_ _
              have HXE := Lib.hid (HXR.out.all HB6.out)
              have HBE := Lib.hid (HBB.out.trans (HB6.out.mono HBB.out.size))
              obtain ⟨z0, z1, z2, z3, z4, z5, z6, z7, z8, z9, z10⟩ := HXE.out.cs
              have f0 := HXE.out.frozen 0; have f1 := HXE.out.frozen 1; have f2 := HXE.out.frozen 2; have f3 := HXE.out.frozen 3; have f4 := HXE.out.frozen 4; have f5 := HXE.out.frozen 5; have f6 := HXE.out.frozen 6; have f7 := HXE.out.frozen 7; have f8 := HXE.out.frozen 8; have f9 := HXE.out.frozen 9; have f10 := HXE.out.frozen 10
              go_wp2
              refine bodyPost_ret (results_rec3 (g := w.heap.size) (r := ⟨0, 0, 0, 0, 0, 0, zero 0, 0⟩) rfl rfl rfl rfl (HXE.out.put ⟨0, 0, 0, 0, 0, 0, zero 0, 0⟩)) rfl ?_
              exact HNO.out HW.out _ (((((((((((HBE.out.setCell (Nat.le_refl _) _).setCell (Nat.le_refl _) _).setCell (Nat.le_refl _) _).setCell (Nat.le_refl _) _).setCell (Nat.le_refl _) _).setCell (Nat.le_refl _) _).setCell (Nat.le_refl _) _).setCell (Nat.le_refl _) _).setCell (Nat.le_refl _) _).setCell (Nat.le_refl _) _).setCell (Nat.le_refl _) _)
            · have hle : n6 ≤ n := by omega
              have hle' : ¬ (n : Int) < (n6 : Int) := by omega
              have hsl := Dkw.run_head A n c n6 n6 .i64 rfl (by omega)
              obtain ⟨S1, hS1⟩ : ∃ S1, S1 = str (bytesR r) := ⟨_, rfl⟩
              obtain ⟨S2, hS2⟩ : ∃ S2, S2 = str (bs.take n6) := ⟨_, rfl⟩
              have HK : Hid (∀ W, Below w5.heap.size w5 W → (convert 41 9 (.slice A6 n6 c6)).run Try.prog W = .ok (.string S1) W ∧ (convert 41 9 (.slice A n6 c)).run Try.prog W = .ok (.string S2) W) := Lib.hid (fun W hW => ⟨by
                rw [hS1]; exact str8' c6 (HO6.out.rd.below hW) HO6.out.1, by
                rw [hS2]; exact str8' c (B := w5.heap.size) (by rw [List.map_take]; exact (HRB.out.below hW).take n6) (by rw [List.length_take, ← HN.out]; omega)⟩)
              obtain ⟨v, hv⟩ : ∃ v, v = (S1.toList == S2.toList) := ⟨_, rfl⟩
              have HV : Hid (v = decide (bytesR r = bs.take n6)) := Lib.hid (by
                rw [hv, hS1, hS2, str_toList, str_toList]
                exact Bool.eq_iff_iff.2 (by simp))
              have hv' := hv.symm
              clear hS1 hS2 hv
              go_wp2_with fail
              refine wp_region_held_drew (S := fun W' => Below w5.heap.size w5 W') (by kernel_rfl) (Below.refl _ _).drew (fun hHeld => ?_)
              generalize w5.drew = w6 at hHeld ⊢
              have HB6 : Hid (Below w5.heap.size w5 w6) := hHeld
              clear hHeld
              refine take_in (i := 0) (oi := ⟨_, _, _, _, _, _⟩) (v := ?_) rfl (by kernel_rfl) (by kernel_rfl) (by kernel_rfl) (fun _ _ _ h => h) (by rfl) ?_ HB6.out ?_
              rotate_left
              · intro W hW; have hq := HK.out W hW; go_simp; with_reducible rfl
              simp only [Act.put, List.setIfInBounds_toArray, List.set_cons_zero, List.set_cons_succ]
              refine take_in (i := 1) (oi := ⟨_, _, _, _, _, _⟩) (v := ?_) rfl (by kernel_rfl) (by kernel_rfl) (by kernel_rfl) (fun _ _ _ h => h) (by rfl) ?_ HB6.out ?_
              rotate_left
              · intro W hW; have hq := HK.out W hW; go_simp; with_reducible rfl
              simp only [Act.put, List.setIfInBounds_toArray, List.set_cons_zero, List.set_cons_succ]
              refine take_in (i := 2) (oi := ⟨_, _, _, _, _, _⟩) (v := ?_) rfl (by kernel_rfl) (by kernel_rfl) (by kernel_rfl) (fun _ _ _ h => h) (by rfl) ?_ HB6.out ?_
              rotate_left
              · intro W hW; have hq := HK.out W hW; go_simp; with_reducible rfl
              simp only [Act.put, List.setIfInBounds_toArray, List.set_cons_zero, List.set_cons_succ]
              refine take_in (i := 3) (oi := ⟨_, _, _, _, _, _⟩) (v := ?_) rfl (by kernel_rfl) (by kernel_rfl) (by kernel_rfl) (fun _ _ _ h => h) (by rfl) ?_ HB6.out ?_
              rotate_left
              · intro W hW; have hq := HK.out W hW; go_simp; with_reducible rfl
              simp only [Act.put, List.setIfInBounds_toArray, List.set_cons_zero, List.set_cons_succ]
              refine take_in (i := 4) (oi := ⟨_, _, _, _, _, _⟩) (v := ?_) rfl (by kernel_rfl) (by kernel_rfl) (by kernel_rfl) (fun _ _ _ h => h) (by rfl) ?_ HB6.out ?_
              rotate_left
              · intro W hW; have hq := HK.out W hW; go_simp; with_reducible rfl
              simp only [Act.put, List.setIfInBounds_toArray, List.set_cons_zero, List.set_cons_succ]
              refine take_in (i := 5) (oi := ⟨_, _, _, _, _, _⟩) (v := ?_) rfl (by kernel_rfl) (by kernel_rfl) (by kernel_rfl) (fun _ _ _ h => h) (by rfl) ?_ HB6.out ?_
              rotate_left
              · intro W hW; have hq := HK.out W hW; go_simp; with_reducible rfl
              simp only [Act.put, List.setIfInBounds_toArray, List.set_cons_zero, List.set_cons_succ]
              refine take_in (i := 6) (oi := ⟨_, _, _, _, _, _⟩) (v := ?_) rfl (by kernel_rfl) (by kernel_rfl) (by kernel_rfl) (fun _ _ _ h => h) (by rfl) ?_ HB6.out ?_
              rotate_left
              · intro W hW; have hq := HK.out W hW; go_simp; with_reducible rfl
              simp only [Act.put, List.setIfInBounds_toArray, List.set_cons_zero, List.set_cons_succ]
              refine take_in (i := 7) (oi := ⟨_, _, _, _, _, _⟩) (v := ?_) rfl (by kernel_rfl) (by kernel_rfl) (by kernel_rfl) (fun _ _ _ h => h) (by rfl) ?_ HB6.out ?_
              rotate_left
              · intro W hW; have hq := HK.out W hW; go_simp; with_reducible rfl
              simp only [Act.put, List.setIfInBounds_toArray, List.set_cons_zero, List.set_cons_succ]
              refine take_in (i := 8) (oi := ⟨_, _, _, _, _, _⟩) (v := ?_) rfl (by kernel_rfl) (by kernel_rfl) (by kernel_rfl) (fun _ _ _ h => h) (by rfl) ?_ HB6.out ?_
              rotate_left
              · intro W hW; have hq := HK.out W hW; go_simp; with_reducible rfl
              simp only [Act.put, List.setIfInBounds_toArray, List.set_cons_zero, List.set_cons_succ]
              refine take_in (i := 9) (oi := ⟨_, _, _, _, _, _⟩) (v := ?_) rfl (by kernel_rfl) (by kernel_rfl) (by kernel_rfl) (fun _ _ _ h => h) (by rfl) ?_ HB6.out ?_
              rotate_left
              · intro W hW; have hq := HK.out W hW; go_simp; with_reducible rfl
              simp only [Act.put, List.setIfInBounds_toArray, List.set_cons_zero, List.set_cons_succ]
              refine take_in (i := 10) (oi := ⟨_, _, _, _, _, _⟩) (v := ?_) rfl (by kernel_rfl) (by kernel_rfl) (by kernel_rfl) (fun _ _ _ h => h) (by rfl) ?_ HB6.out ?_
              rotate_left
              · intro W hW; have hq := HK.out W hW; go_simp; with_reducible rfl
              simp only [Act.put, List.setIfInBounds_toArray, List.set_cons_zero, List.set_cons_succ]
              refine take_in (i := 11) (oi := ⟨_, _, _, _, _, _⟩) (v := ?_) rfl (by kernel_rfl) (by kernel_rfl) (by kernel_rfl) (fun _ _ _ h => h) (by rfl) ?_ HB6.out ?_
              rotate_left
              · intro W hW; have hq := HK.out W hW; go_simp; with_reducible rfl
              simp only [Act.put, List.setIfInBounds_toArray, List.set_cons_zero, List.set_cons_succ]
              refine take_in (i := 12) (oi := ⟨_, _, _, _, _, _⟩) (v := ?_) rfl (by kernel_rfl) (by kernel_rfl) (by kernel_rfl) (fun _ _ _ h => h) (by rfl) ?_ HB6.out ?_
              rotate_left
              · intro W hW; have hq := HK.out W hW; go_simp; with_reducible rfl
              simp only [Act.put, List.setIfInBounds_toArray, List.set_cons_zero, List.set_cons_succ]
              refine take_in (i := 13) (oi := ⟨_, _, _, _, _, _⟩) (v := ?_) rfl (by kernel_rfl) (by kernel_rfl) (by kernel_rfl) (fun _ _ _ h => h) (by rfl) ?_ HB6.out ?_
              rotate_left
              · intro W hW; have hq := HK.out W hW; go_simp; with_reducible rfl
              simp only [Act.put, List.setIfInBounds_toArray, List.set_cons_zero, List.set_cons_succ]
              refine take_in (i := 14) (oi := ⟨_, _, _, _, _, _⟩) (v := ?_) rfl (by kernel_rfl) (by kernel_rfl) (by kernel_rfl) (fun _ _ _ h => h) (by rfl) ?_ HB6.out ?_
              rotate_left
              · intro W hW; have hq := HK.out W hW; go_simp; with_reducible rfl
              simp only [Act.put, List.setIfInBounds_toArray, List.set_cons_zero, List.set_cons_succ]
              refine take_in (i := 15) (oi := ⟨_, _, _, _, _, _⟩) (v := ?_) rfl (by kernel_rfl) (by kernel_rfl) (by kernel_rfl) (fun _ _ _ h => h) (by rfl) ?_ HB6.out ?_
              rotate_left
              · intro W hW; have hq := HK.out W hW; go_simp; with_reducible rfl
              simp only [Act.put, List.setIfInBounds_toArray, List.set_cons_zero, List.set_cons_succ]
              refine take_in (i := 16) (oi := ⟨_, _, _, _, _, _⟩) (v := ?_) rfl (by kernel_rfl) (by kernel_rfl) (by kernel_rfl) (fun _ _ _ h => h) (by rfl) ?_ HB6.out ?_
              rotate_left
              · intro W hW; have hq := HK.out W hW; go_simp; with_reducible rfl
              simp only [Act.put, List.setIfInBounds_toArray, List.set_cons_zero, List.set_cons_succ]
              refine take_in (i := 17) (oi := ⟨_, _, _, _, _, _⟩) (v := ?_) rfl (by kernel_rfl) (by kernel_rfl) (by kernel_rfl) (fun _ _ _ h => h) (by rfl) ?_ HB6.out ?_
              rotate_left
              · intro W hW; have hq := HK.out W hW; go_simp; with_reducible rfl
              simp only [Act.put, List.setIfInBounds_toArray, List.set_cons_zero, List.set_cons_succ]
              refine take_in (i := 18) (oi := ⟨_, _, _, _, _, _⟩) (v := ?_) rfl (by kernel_rfl) (by kernel_rfl) (by kernel_rfl) (fun _ _ _ h => h) (by rfl) ?_ HB6.out ?_
              rotate_left
              · intro W hW; have hq := HK.out W hW; go_simp; with_reducible rfl
              simp only [Act.put, List.setIfInBounds_toArray, List.set_cons_zero, List.set_cons_succ]
              refine wpAnyH_done (by kernel_rfl) ?_ _
              have HXE := Lib.hid (HXR.out.all HB6.out)
              have HXF := Lib.hid (HXV.out.all HB6.out)
              have HBE := Lib.hid (HBB.out.trans (HB6.out.mono HBB.out.size))
              clear HK hsl hv'
              obtain ⟨z0, z1, z2, z3, z4, z5, z6, z7, z8, z9, z10⟩ := HXE.out.cs
              have f0 := HXE.out.frozen 0; have f1 := HXE.out.frozen 1; have f2 := HXE.out.frozen 2; have f3 := HXE.out.frozen 3; have f4 := HXE.out.frozen 4; have f5 := HXE.out.frozen 5; have f6 := HXE.out.frozen 6; have f7 := HXE.out.frozen 7; have f8 := HXE.out.frozen 8; have f9 := HXE.out.frozen 9; have f10 := HXE.out.frozen 10
              cases v with
              | true =>
                have HEQ := Lib.hid (of_decide_eq_true HV.out.symm)
                have HF1 := Lib.hid (HFF.out ⟨HRT.out, HGV.out⟩ (bs.drop n6) (by rw [HEQ.out, List.take_append_drop]))
                rw [← HO6.out.1] at HF1
                obtain ⟨y0, y1, y2, y3, y4, y5, y6, y7, y8, y9, y10⟩ := HXF.out.cs
                go_wp2
                refine bodyPost_ret (results_rec3 (g := w.heap.size) (r := r) rfl rfl rfl rfl (HXE.out.put r)) rfl ?_
                exact HYES.out r n6 HF1.out _ (((((((((((HBE.out.setCell (Nat.le_refl _) _).setCell (Nat.le_refl _) _).setCell (Nat.le_refl _) _).setCell (Nat.le_refl _) _).setCell (Nat.le_refl _) _).setCell (Nat.le_refl _) _).setCell (Nat.le_refl _) _).setCell (Nat.le_refl _) _).setCell (Nat.le_refl _) _).setCell (Nat.le_refl _) _).setCell (Nat.le_refl _) _)
              | false =>
                have HW : Hid (∀ r' n', ¬ First bs r' n') := Lib.hid (fun r' n' hf => by
                  have h1 := HFG.out r' n' hf
                  obtain ⟨_, _, _, s', hs'⟩ := hf
                  have h2 := of_decide_eq_false HV.out.symm
                  rw [hs', h1, HO6.out.1, h1, List.take_left] at h2
                  exact h2 rfl)
                go_wp2
                refine bodyPost_ret (results_rec3 (g := w.heap.size) (r := ⟨0, 0, 0, 0, 0, 0, zero 0, 0⟩) rfl rfl rfl rfl (HXE.out.put ⟨0, 0, 0, 0, 0, 0, zero 0, 0⟩)) rfl ?_
                exact HNO.out HW.out _ (((((((((((HBE.out.setCell (Nat.le_refl _) _).setCell (Nat.le_refl _) _).setCell (Nat.le_refl _) _).setCell (Nat.le_refl _) _).setCell (Nat.le_refl _) _).setCell (Nat.le_refl _) _).setCell (Nat.le_refl _) _).setCell (Nat.le_refl _) _).setCell (Nat.le_refl _) _).setCell (Nat.le_refl _) _).setCell (Nat.le_refl _) _)
        · have h0' : 0 < n8 := by omega
          go_wp2_with fail
          refine (get_r A8 n8 c8 rest HN8.out hc8 _ wr HR8.out (Nat.le_refl _) (by unfold big; omega)).mono ?_
          rintro e w3 ⟨hb3, h3⟩
          cases htk : takeF rest with
          | none =>
            rw [htk] at h3
            have h3' : e = .returned (.tuple #[.int .u64 0, .slice none 0 0, .int .i64 21]) := h3
            subst h3'
            clear h3
            have HXR := Lib.hid (HXR.out.all hb3)
            have HBB := Lib.hid (HBB.out.trans (hb3.mono HBB.out.size))
            clear hb3
            have HW := Lib.hid (no_more HCUT.out HOP.out HBD.out HWM.out htk (by intro h; rw [h] at HN8; have := HN8.out; simp at this; omega))
            obtain ⟨z0, z1, z2, z3, z4, z5, z6, z7, z8, z9, z10⟩ := HXR.out.cs
            have f0 := HXR.out.frozen 0; have f1 := HXR.out.frozen 1; have f2 := HXR.out.frozen 2; have f3 := HXR.out.frozen 3; have f4 := HXR.out.frozen 4; have f5 := HXR.out.frozen 5; have f6 := HXR.out.frozen 6; have f7 := HXR.out.frozen 7; have f8 := HXR.out.frozen 8; have f9 := HXR.out.frozen 9; have f10 := HXR.out.frozen 10
            go_wp2
            refine bodyPost_ret (results_rec3 (g := w.heap.size) (r := ⟨0, 0, 0, 0, 0, 0, zero 0, 0⟩) rfl rfl rfl rfl (HXR.out.put ⟨0, 0, 0, 0, 0, 0, zero 0, 0⟩)) rfl ?_
            exact HNO.out HW.out _ (((((((((((HBB.out.setCell (Nat.le_refl _) _).setCell (Nat.le_refl _) _).setCell (Nat.le_refl _) _).setCell (Nat.le_refl _) _).setCell (Nat.le_refl _) _).setCell (Nat.le_refl _) _).setCell (Nat.le_refl _) _).setCell (Nat.le_refl _) _).setCell (Nat.le_refl _) _).setCell (Nat.le_refl _) _).setCell (Nat.le_refl _) _)
          | some vr =>
            obtain ⟨v, r'⟩ := vr
            rw [htk] at h3
            obtain ⟨A5, n5, c5, rfl, ho5⟩ := h3
            have HO5 := Lib.hid ho5; have HB3 := Lib.hid hb3
            have HO1 := Lib.hid (HO1.out.below hb3 (Nat.le_refl _))
            have HBR := Lib.hid (HBR.out.trans (hb3.mono HBR.out.size))
            have hlen := takeF_len htk
            have HTK := Lib.hid (takeF_some htk)
            have hv : v < 18446744073709551616 := (takeF_some htk).1
            have h58 : n5 < n8 := by rw [HN8.out, HO5.out.1]; exact hlen
            clear ho5 hb3 htk hlen
            go_wp2_with (at_builtin; refine wp_app64 rfl (.tmp 47) (.tmp 49) rfl w2.heap.size A1 n1 c1 ms rfl (HO1.out.alloc _) (w3.heap.size + 1) _ 1 1 [v] rfl rfl (rd_num w3 _ v rfl) (by unfold big; omega) (by have := HBR.out.size; simp; omega) ?_; intro A6 c6 w4 ho6 hb6 hg6)
            refine ⟨⟨A5, n5, c5, r', A6, n1 + 1, c6, ms ++ [v], rfl, rfl, HO5.out.1, HO5.out.cap, ?_, ?_, by omega, ?_, ho6, (bal HBR.out (Nat.le_refl _) _).trans hb6⟩, h58⟩
            · rw [HBD.out, HTK.out.2]
              simp [List.flatMap_append]
            · intro x hx
              rcases List.mem_append.1 hx with h | h
              · exact HWM.out x h
              · simp only [List.mem_cons, List.not_mem_nil, or_false] at h
                rw [h]; exact HTK.out.1
            · have ho := HO5.out.alloc (.cells #[.int .u64 (v : Int)] 105)
              exact Rd.of_own (own_other ho.2 (HO1.out.alloc (.cells #[.int .u64 (v : Int)] 105)).2 (by decide) hg6)
end Go.Proofs.Ytjcbdnbbdhjoiaa.Lgw

namespace Go.Proofs.Ytjcbdnbbdhjoiaa.Lgw
set_option maxRecDepth 20000
open Go.RowKit
open Bk Lg Wire
open Tgw (hat hbe)
open Rg (bal)

/-- the records with which bytes begin, and how many bytes they are -/
def RetScan (w : World) (b : List UInt8) (e : Ending) (w' : World) : Prop :=
  ∃ A n c m rs, e = .returned (.tuple #[.slice A n c, .int .i64 (m : Nat)]) ∧ Scans b rs m ∧ Sr w' A n c rs ∧ Below w.heap.size w w'
theorem rs_one (w : World) (r : R) : Rg.Rs KR (w.alloc (.cells #[.int .i64 r.kind, .int .i64 r.va, .int .i64 r.vd, .int .i64 r.cn, .int .i64 r.ca, .int .i64 r.cd, .int .i64 r.e.key, .int .i64 r.e.num, .int .i64 r.e.node, .float .f64 r.e.val, .int .i64 r.n] 40)) (w.heap.size + 1) (some ⟨w.heap.size, 0, none⟩) [r] := Rg.rs_new KR w [r]
theorem rs_at (w : World) (r : R) (g : Nat) (hg : g = w.heap.size) : Rg.Rs KR (w.alloc (.cells #[.int .i64 r.kind, .int .i64 r.va, .int .i64 r.vd, .int .i64 r.cn, .int .i64 r.ca, .int .i64 r.cd, .int .i64 r.e.key, .int .i64 r.e.num, .int .i64 r.e.node, .float .f64 r.e.val, .int .i64 r.n] 40)) (g + 1) (some ⟨g, 0, none⟩) [r] := by
  subst hg
  exact rs_one w r
set_option maxHeartbeats 2000000 in
theorem scan_r (A : Option Addr) (n c : Nat) (bs : List UInt8) (hn : n = bs.length) (hc : n ≤ c) (hl : n ≤ 1099511627776) (w : World) (hr : Rd w w.heap.size A (bs.map B8)) : Calls Try.prog 17 #[.slice A n c] w (RetScan w bs) := by
  have HR := Lib.hid hr; have HN := Lib.hid hn
  have HPO : Hid (∀ rs m A1 n1 c1 w', Scans bs rs m → Sr w' A1 n1 c1 rs → Below w.heap.size w w' → RetScan w bs (.returned (.tuple #[.slice A1 n1 c1, .int .i64 (m : Nat)])) w') := Lib.hid (fun rs m A1 n1 c1 w' h1 h2 h3 => ⟨A1, n1, c1, m, rs, rfl, h1, h2, h3⟩)
  generalize RetScan w bs = PP at HPO ⊢
  clear hr hn
  go_enter Try.func17, Try.ntmps17
  go_wp2
  have hsf := store_flt
  go_loopw [4, 5] (fun x4 x5 wr => ∃ (A1 : Option Addr) (n1 c1 m : Nat) (rs : List R) (s : List UInt8), x4 = .slice A1 n1 c1 ∧ x5 = .int .i64 (m : Int) ∧ (∀ r ∈ rs, Ok r ∧ canon r) ∧ m = (flatR rs).length ∧ bs = flatR rs ++ s ∧ 8 * n1 ≤ m ∧ m ≤ n ∧ Rg.OwnG KR wr w.heap.size A1 n1 c1 rs ∧ Below w.heap.size w wr) (fun _ x5 _ => n - (intOf x5).toNat)
  case atStart => exact ⟨_, 0, 0, 0, [], bs, rfl, rfl, by simp, rfl, rfl, by omega, by omega, Rg.own_newG KR w _ _ rfl (Nat.le_refl _), bal (Below.refl _ _) (Nat.le_refl _) _⟩
  case round =>
    obtain ⟨A1, n1, c1, m, rs, s, rfl, rfl, hok, hm, hbs, h8, hmn, ho1, hb⟩ := hrel
    have HOK := Lib.hid hok; have HM := Lib.hid hm; have HBS := Lib.hid hbs; have HO1 := Lib.hid ho1; have HB := Lib.hid hb
    have HDR : Hid (bs.drop m = s) := Lib.hid (by rw [hm, hbs, List.drop_left])
    clear hok hm hbs ho1 hb
    obtain ⟨A2, hsl, hsr⟩ := run_from Try.underlying41 size8 A n c m m .i64 rfl hmn hc
    obtain ⟨c2, hc2⟩ : ∃ c2, c2 = c - m := ⟨_, rfl⟩
    rw [← hc2] at hsl
    have HRS : Hid (Rd wr wr.heap.size A2 (s.map B8)) := Lib.hid (by
      have h1 := hsr wr wr.heap.size (bs.map B8) (by rw [List.length_map]; exact HN.out.symm) ((HR.out.below HB.out).more HB.out.size)
      rw [← List.map_drop, HDR.out] at h1
      exact h1)
    have HNS : Hid (n - m = s.length) := Lib.hid (by rw [← HDR.out, List.length_drop, ← HN.out])
    have HC2 : Hid (n - m ≤ c2) := Lib.hid (by omega)
    clear hsr hc2
    go_wp2_with fail
    refine (first_r A2 (n - m) c2 s HNS.out HC2.out (by unfold big; omega) wr HRS.out).mono ?_
    rintro e w2 ⟨hb2, h2⟩
    have HO1 := Lib.hid (HO1.out.below hb2 (Nat.le_refl _))
    have HB := Lib.hid (HB.out.trans (hb2.mono HB.out.size))
    clear hb2
    rcases h2 with ⟨r, k, hf, rfl⟩ | ⟨hno, rfl⟩
    · have HST := Lib.hid (scans_step HOK.out HBS.out hf)
      have hpos := first_pos hf
      have hkn : m + k ≤ n := by have := HNS.out; omega
      have HF := Lib.hid hf; clear hf
      clear hsl
      unfold rvv
      go_wp2_with (at_builtin; refine Rg.wp_appG (K := KR) rfl (.tmp 22) (.tmp 24) rfl w.heap.size A1 n1 c1 rs rfl ((HO1.out.alloc (.cells #[.int .i64 r.kind, .int .i64 r.va, .int .i64 r.vd, .int .i64 r.cn, .int .i64 r.ca, .int .i64 r.cd, .int .i64 r.e.key, .int .i64 r.e.num, .int .i64 r.e.node, .float .f64 r.e.val, .int .i64 r.n] 40)).alloc (.cells #[.int .i64 r.kind, .int .i64 r.va, .int .i64 r.vd, .int .i64 r.cn, .int .i64 r.ca, .int .i64 r.cd, .int .i64 r.e.key, .int .i64 r.e.num, .int .i64 r.e.node, .float .f64 r.e.val, .int .i64 r.n] 40)) (w2.heap.size + 1 + 1) (some ⟨w2.heap.size + 1, 0, none⟩) 1 1 [r] rfl rfl (rs_at (w2.alloc (.cells #[.int .i64 r.kind, .int .i64 r.va, .int .i64 r.vd, .int .i64 r.cn, .int .i64 r.ca, .int .i64 r.cd, .int .i64 r.e.key, .int .i64 r.e.num, .int .i64 r.e.node, .float .f64 r.e.val, .int .i64 r.n] 40)) r (w2.heap.size + 1) (by simp)) (show (n1 + 1) * 88 ≤ 140737488355328 by omega) (by have := HB.out.size; simp; omega) ?_; intro A5 c5 w5 ho5 hb5)
      obtain ⟨q1, q2, s', q3, q4⟩ := HST.out
      refine ⟨⟨A5, n1 + 1, c5, m + k, rs ++ [r], s', rfl, by simp, q1, ?_, q4, by omega, hkn, ho5, (bal (bal HB.out (Nat.le_refl _) _) (Nat.le_refl _) _).trans hb5⟩, ?_⟩
      · rw [q2, ← HM.out]
      · simp [intOf]
        omega
    · have HSC : Hid (Scans bs rs m) := Lib.hid ⟨HOK.out, HM.out, s, HBS.out, hno⟩
      have HSR : Hid (Sr w2 A1 n1 c1 rs) := Lib.hid ⟨HO1.out.1, HO1.out.cap, by omega, fun r hr => (HOK.out r hr).1.2, HO1.out.rs⟩
      clear hsl hno
      unfold rvv
      go_wp2
      exact HPO.out rs m A1 n1 c1 _ HSC.out (HSR.out.all (bal (Below.refl _ _) (Nat.le_refl _) _)) (bal HB.out (Nat.le_refl _) _)
end Go.Proofs.Ytjcbdnbbdhjoiaa.Lgw
