/- The walk of TagNewer. -/
import Derived.Test.YtchkdinmnbjdfaaTgA
import Derived.Test.YtchkdinmnbjdfaaWf
namespace Go.Proofs.Ytchkdinmnbjdfaa.tagNewer
open Go.RowKit
open Tg Tgw

/-- two nodes in a block of their own -/
def Nx (w : World) (g : Nat) (x y : Int) : Prop := w.heap[g]? = some (.cells #[.int .i64 x, .int .i64 y] 37)
theorem Nx.c0 {w : World} {g : Nat} {a d : Int} (h : Nx w g a d) : w.cell? ⟨g, 0, none⟩ = some (.int .i64 a) := by
  rw [cell_of_row _ _ _ _ _ _ h]; rfl
theorem Nx.c1 {w : World} {g : Nat} {a d : Int} (h : Nx w g a d) : w.cell? ⟨g, 1, none⟩ = some (.int .i64 d) := by
  rw [cell_of_row _ _ _ _ _ _ h]; rfl
theorem Nx.all {w w' : World} {g : Nat} {a d : Int} (h : Nx w g a d) (hb : Below w.heap.size w w') : Nx w' g a d := by
  refine (hb.block g ?_).trans h
  rcases Nat.lt_or_ge g w.heap.size with h' | h'
  · exact h'
  · unfold Nx at h; rw [Array.getElem?_eq_none h'] at h; cases h
set_option maxRecDepth 100000 in
set_option maxHeartbeats 2000000 in
theorem walk (w : World) (n0 : Int) (w0 : (Lit.int .i64 n0).wf = true) (n1 : Int) (w1 : (Lit.int .i64 n1).wf = true) (last : Int) (wl : (Lit.int .i64 last).wf = true)
    (A : Option Addr) (n cc : Nat) (ts : List (Int × Int)) (hn : n = ts.length) (_hc : n ≤ cc) (hr : Rt w w.heap.size A ts) (hw : ∀ t ∈ ts, I2 t) (_hl : cc * 16 ≤ 140737488351232) :
    Calls Try.prog 6 #[.agg #[.int .i64 n0, .int .i64 n1], .int .i64 last, .slice A n cc] w fun e w' => e = .returned (.bool true) ∧ Below w.heap.size w w' := by
  have heq := eq_tag
  have h47 : n ≤ 140737488355328 := by omega
  have H0 : Hid (I64 n0) := Lib.hid (wf_i64 w0)
  have H1 : Hid (I64 n1) := Lib.hid (wf_i64 w1)
  have Hl : Hid (I64 last) := Lib.hid (wf_i64 wl)
  have HC := Lib.hid _hc
  clear _hc _hl w0 w1 wl
  have HN := Lib.hid hn; clear hn
  have HR := Lib.hid hr; clear hr
  have HW := Lib.hid hw; clear hw
  go_enter Try.func6, Try.ntmps6
  go_wp2_with fail
  have VN := Lib.hid (show Nx (w.alloc (.cells #[.int .i64 n0, .int .i64 n1] 37)) w.heap.size n0 n1 from hat _ _ _ rfl)
  have HB := Lib.hid (bal (Below.refl w.heap.size w) (Nat.le_refl _) (.cells #[.int .i64 n0, .int .i64 n1] 37))
  generalize w.alloc (.cells #[.int .i64 n0, .int .i64 n1] 37) = w1 at VN HB ⊢
  refine (alive_c _).mono ?_
  rintro e w2 ⟨rfl, hb⟩
  have VN := Lib.hid (VN.out.all hb)
  have HB := Lib.hid (HB.out.trans (hb.mono HB.out.size)); clear hb
  have k0 := VN.out.c0
  go_wp2_with fail
  clear k0
  refine (next_c n0 last H0.out Hl.out A n cc ts HN.out h47 HC.out HW.out w.heap.size _ (HR.out.below HB.out) HB.out.size).mono ?_
  rintro e w3 ⟨rfl, hb⟩
  have VN := Lib.hid (VN.out.all hb)
  have HB := Lib.hid (HB.out.trans (hb.mono HB.out.size)); clear hb
  obtain ⟨o1, ho1⟩ : ∃ o, o = next n0 last ts := ⟨_, rfl⟩
  rw [← ho1]
  have HO1 := Lib.hid ho1.symm; clear ho1
  obtain ⟨p, q, hpq⟩ : ∃ p q, gt o1 = (p, q) := ⟨_, _, rfl⟩
  rw [hpq]
  have HP := Lib.hid hpq; clear hpq
  obtain ⟨ee, he⟩ : ∃ ee, ee = ge o1 := ⟨_, rfl⟩
  rw [← he]
  have HE := Lib.hid he; clear he
  unfold tv
  have k1 : ∀ o, (w3.alloc o).cell? ⟨w.heap.size, 1, none⟩ = some (.int .i64 n1) := fun o => (show Nx (w3.alloc o) w.heap.size n0 n1 from hbe VN.out).c1
  go_wp2_with fail
  clear k1
  have VN := Lib.hid (show Nx (w3.alloc (.cells #[.int .i64 p, .int .i64 q] 23)) w.heap.size n0 n1 from hbe VN.out)
  have VT := Lib.hid (show Tx (w3.alloc (.cells #[.int .i64 p, .int .i64 q] 23)) w3.heap.size p q from hat _ _ _ rfl)
  have HB := Lib.hid (bal HB.out (Nat.le_refl _) (.cells #[.int .i64 p, .int .i64 q] 23))
  generalize w3.alloc (.cells #[.int .i64 p, .int .i64 q] 23) = w4 at VN VT HB ⊢
  generalize w3.heap.size = gt1 at VT ⊢
  refine (next_c n1 last H1.out Hl.out A n cc ts HN.out h47 HC.out HW.out w.heap.size _ (HR.out.below HB.out) HB.out.size).mono ?_
  rintro e w5 ⟨rfl, hb⟩
  have VN := Lib.hid (VN.out.all hb); have VT := Lib.hid (VT.out.all hb)
  have HB := Lib.hid (HB.out.trans (hb.mono HB.out.size)); clear hb
  obtain ⟨o2, ho2⟩ : ∃ o, o = next n1 last ts := ⟨_, rfl⟩
  rw [← ho2]
  have HO2 := Lib.hid ho2.symm; clear ho2
  obtain ⟨r, s, hrs⟩ : ∃ r s, gt o2 = (r, s) := ⟨_, _, rfl⟩
  rw [hrs]
  have HQ := Lib.hid hrs; clear hrs
  obtain ⟨ff, hf⟩ : ∃ ff, ff = ge o2 := ⟨_, rfl⟩
  rw [← hf]
  have HF := Lib.hid hf; clear hf
  unfold tv
  cases o1 with
  | none =>
    obtain rfl : ee = 61 := HE.out
    go_wp2
    go_ret
    exact ⟨rfl, bal HB.out (Nat.le_refl _) _⟩
  | some t =>
  obtain rfl : ee = 0 := HE.out
  obtain rfl : t = (p, q) := HP.out
  cases o2 with
  | none =>
    obtain rfl : ff = 61 := HF.out
    go_wp2
    go_ret
    exact ⟨rfl, bal HB.out (Nat.le_refl _) _⟩
  | some t =>
  obtain rfl : ff = 0 := HF.out
  obtain rfl : t = (r, s) := HQ.out
  clear HE HP HF HQ
  have N1 := Lib.hid (next_some HO1.out)
  have N2 := Lib.hid (next_some HO2.out)
  have HT : Hid (I2 (p, q)) := Lib.hid (by obtain ⟨h1, h2, h3, h4, h5, _⟩ := N1.out; simp only at h1 h4 h5; unfold I2 I64; simp only; omega)
  go_wp2
  have VN := Lib.hid (show Nx (w5.alloc (.cells #[.int .i64 r, .int .i64 s] 23)) w.heap.size n0 n1 from hbe VN.out)
  have VT := Lib.hid (show Tx (w5.alloc (.cells #[.int .i64 r, .int .i64 s] 23)) gt1 p q from hbe VT.out)
  have VU := Lib.hid (show Tx (w5.alloc (.cells #[.int .i64 r, .int .i64 s] 23)) w5.heap.size r s from hat _ _ _ rfl)
  have HB := Lib.hid (bal HB.out (Nat.le_refl _) (.cells #[.int .i64 r, .int .i64 s] 23))
  generalize w5.alloc (.cells #[.int .i64 r, .int .i64 s] 23) = w6 at VN VT VU HB ⊢
  generalize w5.heap.size = gu at VU ⊢
  go_loopw [41] (fun i wr => ∃ k : Nat, i = .int .i64 k ∧ k ≤ n ∧ Nx wr w.heap.size n0 n1 ∧ Tx wr gt1 p q ∧ Tx wr gu r s ∧ Below w.heap.size w wr) (fun i _ => n - (intOf i).toNat)
  case atStart => exact ⟨0, rfl, by omega, VN.out, VT.out, VU.out, HB.out⟩
  case round =>
    obtain ⟨k, rfl, hk, hvn, hvt, hvu, hb⟩ := hrel
    clear VN VT VU HB
    have VN := Lib.hid hvn; have VT := Lib.hid hvt; have VU := Lib.hid hvu; have HB := Lib.hid hb
    clear hvn hvt hvu hb
    by_cases h : k < n
    · obtain ⟨b, o, rfl, hbB, hcell⟩ := HR.out (by rw [← HN.out]; omega)
      have hkl : k < ts.length := by rw [← HN.out]; exact h
      have hz : ts[k]? = some ts[k] := List.getElem?_eq_getElem hkl
      have hc0 := hcell k ts[k] hz
      have HM := Lib.hid (List.mem_of_getElem? hz)
      generalize ts[k] = v at hz hc0 HM
      obtain ⟨va, vd⟩ := v
      have hca : wr.cell? ⟨b, o + k * 2, none⟩ = some (.int .i64 va) := (HB.out.cell (by show b < _; omega)).trans hc0.1
      have hcd : wr.cell? ⟨b, o + k * 2 + 1, none⟩ = some (.int .i64 vd) := (HB.out.cell (by show b < _; omega)).trans hc0.2
      have L1 : Hid (less (va, vd) (p, q) = true) := Lib.hid (by have := N1.out.2.2.2.2.2.2.1 _ HM.out; rw [less_iff]; simp only at this ⊢; omega)
      have L2 : Hid (less (p, q) (va, vd) = false) := Lib.hid (by have := N1.out.2.2.2.2.2.2.1 _ HM.out; rw [less_not]; simp only at this ⊢; omega)
      have HX := Lib.hid (HW.out _ HM.out)
      clear hz hc0 hcell hkl
      have t0 : ∀ o, (wr.alloc o).cell? ⟨gt1, 0, none⟩ = some (.int .i64 p) := fun o => (show Tx (wr.alloc o) gt1 p q from hbe VT.out).c0
      have t1 : ∀ o, (wr.alloc o).cell? ⟨gt1, 1, none⟩ = some (.int .i64 q) := fun o => (show Tx (wr.alloc o) gt1 p q from hbe VT.out).c1
      go_wp2_with fail
      clear t0 t1 hca hcd
      have VN := Lib.hid (show Nx (wr.alloc (.cells #[.int .i64 va, .int .i64 vd] 23)) w.heap.size n0 n1 from hbe VN.out)
      have VT := Lib.hid (show Tx (wr.alloc (.cells #[.int .i64 va, .int .i64 vd] 23)) gt1 p q from hbe VT.out)
      have VU := Lib.hid (show Tx (wr.alloc (.cells #[.int .i64 va, .int .i64 vd] 23)) gu r s from hbe VU.out)
      have VX := Lib.hid (show Tx (wr.alloc (.cells #[.int .i64 va, .int .i64 vd] 23)) wr.heap.size va vd from hat _ _ _ rfl)
      have HB := Lib.hid (bal HB.out (Nat.le_refl _) (.cells #[.int .i64 va, .int .i64 vd] 23))
      generalize wr.alloc (.cells #[.int .i64 va, .int .i64 vd] 23) = w7 at VN VT VU VX HB ⊢
      generalize wr.heap.size = gx at VX ⊢
      refine (less_c (va, vd) (p, q) HX.out HT.out _).mono ?_
      rw [L1.out]
      rintro e w8 ⟨rfl, hb⟩
      have VN := Lib.hid (VN.out.all hb); have VT := Lib.hid (VT.out.all hb); have VU := Lib.hid (VU.out.all hb); have VX := Lib.hid (VX.out.all hb)
      have HB := Lib.hid (HB.out.trans (hb.mono HB.out.size)); clear hb
      have t0 := VT.out.c0; have t1 := VT.out.c1; have x0 := VX.out.c0; have x1 := VX.out.c1
      go_wp2_with fail
      clear t0 t1 x0 x1
      refine (less_c (p, q) (va, vd) HT.out HX.out _).mono ?_
      rw [L2.out]
      rintro e w9 ⟨rfl, hb⟩
      have VN := Lib.hid (VN.out.all hb); have VT := Lib.hid (VT.out.all hb); have VU := Lib.hid (VU.out.all hb)
      have HB := Lib.hid (HB.out.trans (hb.mono HB.out.size)); clear hb
      go_wp2
      exact ⟨⟨k + 1, by go_num, by omega, VN.out, VT.out, VU.out, HB.out⟩, by simp [intOf]; omega⟩
    · have k0 := VN.out.c0
      have t0 := VT.out.c0
      go_wp2_with fail
      clear k0 t0
      refine (next_c n0 p H0.out HT.out.1 none 0 0 [] rfl (by omega) (Nat.le_refl _) (by simp) 0 _ Rt.nil (Nat.zero_le _)).mono ?_
      rintro e w7 ⟨rfl, hb⟩
      have VN := Lib.hid (VN.out.all hb); have VT := Lib.hid (VT.out.all hb); have VU := Lib.hid (VU.out.all hb)
      have HB := Lib.hid (HB.out.trans (hb.mono HB.out.size)); clear hb
      obtain ⟨o3, ho3⟩ : ∃ o, o = next n0 p [] := ⟨_, rfl⟩
      rw [← ho3]
      have HO3 := Lib.hid ho3.symm; clear ho3
      obtain ⟨x, y, hxy⟩ : ∃ x y, gt o3 = (x, y) := ⟨_, _, rfl⟩
      rw [hxy]
      have HP := Lib.hid hxy; clear hxy
      obtain ⟨gg, hg⟩ : ∃ gg, gg = ge o3 := ⟨_, rfl⟩
      rw [← hg]
      have HG := Lib.hid hg; clear hg
      unfold tv
      go_wp2_with fail
      have VN := Lib.hid (show Nx (w7.alloc (.cells #[.int .i64 x, .int .i64 y] 23)) w.heap.size n0 n1 from hbe VN.out)
      have VT := Lib.hid (show Tx (w7.alloc (.cells #[.int .i64 x, .int .i64 y] 23)) gt1 p q from hbe VT.out)
      have VU := Lib.hid (show Tx (w7.alloc (.cells #[.int .i64 x, .int .i64 y] 23)) gu r s from hbe VU.out)
      have VX := Lib.hid (show Tx (w7.alloc (.cells #[.int .i64 x, .int .i64 y] 23)) w7.heap.size x y from hat _ _ _ rfl)
      have HB := Lib.hid (bal HB.out (Nat.le_refl _) (.cells #[.int .i64 x, .int .i64 y] 23))
      generalize w7.alloc (.cells #[.int .i64 x, .int .i64 y] 23) = w8 at VN VT VU VX HB ⊢
      generalize w7.heap.size = gx at VX ⊢
      have hlp : last < p := N1.out.2.2.2.2.2.1
      have HRT : Hid (right p q = true) := Lib.hid (by obtain ⟨h1, h2, h3, h4, h5, _⟩ := N1.out; (try simp only at h1 h4 h5); unfold right; rw [decide_eq_true_iff]; omega)
      have hpr : (p == r) = true := by have h1 := N1.out.2.2.2.2.2.2.2; have h2 := N2.out.2.2.2.2.2.2.2; (try simp only at h1 h2); rw [beq_iff_eq, h1, h2]
      have hqs : (q == s) = (n0 == n1) := by have h1 := N1.out.1; have h2 := N2.out.1; (try simp only at h1 h2); rw [h1, h2]
      have HK : Hid (∀ W', Below w8.heap.size w8 W' → (W'.cell? ⟨gt1, 0, none⟩ = some (.int .i64 p) ∧ W'.cell? ⟨gt1, 1, none⟩ = some (.int .i64 q)) ∧ (W'.cell? ⟨gu, 0, none⟩ = some (.int .i64 r) ∧ W'.cell? ⟨gu, 1, none⟩ = some (.int .i64 s)) ∧ (W'.cell? ⟨gx, 0, none⟩ = some (.int .i64 x) ∧ W'.cell? ⟨gx, 1, none⟩ = some (.int .i64 y)) ∧ (W'.cell? ⟨w.heap.size, 0, none⟩ = some (.int .i64 n0) ∧ W'.cell? ⟨w.heap.size, 1, none⟩ = some (.int .i64 n1))) := Lib.hid (fun W' h => ⟨⟨(VT.out.all h).c0, (VT.out.all h).c1⟩, ⟨(VU.out.all h).c0, (VU.out.all h).c1⟩, ⟨(VX.out.all h).c0, (VX.out.all h).c1⟩, (VN.out.all h).c0, (VN.out.all h).c1⟩)
      clear VN VT VU VX
      generalize hv : (n0 == n1) = v at hqs
      refine wp_region_held_drew (S := fun W' => Below w8.heap.size w8 W') (by kernel_rfl) (Below.refl _ _).drew (fun hHeld => ?_)
      generalize w8.drew = w9 at hHeld ⊢
      have HB9 : Hid (Below w8.heap.size w8 w9) := hHeld
      clear hHeld
      refine take_in (i := 0) (oi := ⟨_, _, _, _, _, _⟩) (v := ?_) rfl (by kernel_rfl) (by kernel_rfl) (by kernel_rfl) (fun _ _ _ h => h) (by rfl) ?_ HB9.out ?_
      rotate_left
      · intro W hW; have hq := HK.out W hW; go_simp; with_reducible rfl
      simp only [Act.put, List.setIfInBounds_toArray, List.set_cons_zero, List.set_cons_succ]
      refine take_in (i := 1) (oi := ⟨_, _, _, _, _, _⟩) (v := ?_) rfl (by kernel_rfl) (by kernel_rfl) (by kernel_rfl) (fun _ _ _ h => h) (by rfl) ?_ HB9.out ?_
      rotate_left
      · intro W hW; have hq := HK.out W hW; go_simp; with_reducible rfl
      simp only [Act.put, List.setIfInBounds_toArray, List.set_cons_zero, List.set_cons_succ]
      refine take_in (i := 2) (oi := ⟨_, _, _, _, _, _⟩) (v := ?_) rfl (by kernel_rfl) (by kernel_rfl) (by kernel_rfl) (fun _ _ _ h => h) (by rfl) ?_ HB9.out ?_
      rotate_left
      · intro W hW; have hq := HK.out W hW; go_simp; with_reducible rfl
      simp only [Act.put, List.setIfInBounds_toArray, List.set_cons_zero, List.set_cons_succ]
      refine take_in (i := 3) (oi := ⟨_, _, _, _, _, _⟩) (v := ?_) rfl (by kernel_rfl) (by kernel_rfl) (by kernel_rfl) (fun _ _ _ h => h) (by rfl) ?_ HB9.out ?_
      rotate_left
      · intro W hW; have hq := HK.out W hW; go_simp; with_reducible rfl
      simp only [Act.put, List.setIfInBounds_toArray, List.set_cons_zero, List.set_cons_succ]
      refine take_in (i := 4) (oi := ⟨_, _, _, _, _, _⟩) (v := ?_) rfl (by kernel_rfl) (by kernel_rfl) (by kernel_rfl) (fun _ _ _ h => h) (by rfl) ?_ HB9.out ?_
      rotate_left
      · intro W hW; have hq := HK.out W hW; go_simp; with_reducible rfl
      simp only [Act.put, List.setIfInBounds_toArray, List.set_cons_zero, List.set_cons_succ]
      refine take_in (i := 5) (oi := ⟨_, _, _, _, _, _⟩) (v := ?_) rfl (by kernel_rfl) (by kernel_rfl) (by kernel_rfl) (fun _ _ _ h => h) (by rfl) ?_ HB9.out ?_
      rotate_left
      · intro W hW; have hq := HK.out W hW; go_simp; with_reducible rfl
      simp only [Act.put, List.setIfInBounds_toArray, List.set_cons_zero, List.set_cons_succ]
      refine wpAnyH_ready (rs := [6]) (by kernel_rfl) (by simp) ?_
      refine AllReadyH.cons (o := ⟨_, _, _, _, _, _⟩) rfl (fun K hK => ?_) AllReadyH.nil
      go_simp
      refine (right_c p q HT.out.1 HT.out.2 _).mono ?_
      rw [HRT.out]
      rintro e w10 ⟨rfl, hb⟩
      have HB10 := Lib.hid (HB9.out.trans (hb.mono HB9.out.size)); clear hb
      refine hK.out _ _ HB10.out (fun _ => ?_)
      clear hK K
      cases o3 with
      | none =>
        obtain rfl : gg = 61 := HG.out
        refine take_in (i := 7) (oi := ⟨_, _, _, _, _, _⟩) (v := ?_) rfl (by kernel_rfl) (by kernel_rfl) (by kernel_rfl) (fun _ _ _ h => h) (by rfl) ?_ HB10.out ?_
        rotate_left
        · intro W hW; have hq := HK.out W hW; go_simp; with_reducible rfl
        simp only [Act.put, List.setIfInBounds_toArray, List.set_cons_zero, List.set_cons_succ]
        refine take_in (i := 8) (oi := ⟨_, _, _, _, _, _⟩) (v := ?_) rfl (by kernel_rfl) (by kernel_rfl) (by kernel_rfl) (fun _ _ _ h => h) (by rfl) ?_ HB10.out ?_
        rotate_left
        · intro W hW; have hq := HK.out W hW; go_simp; with_reducible rfl
        simp only [Act.put, List.setIfInBounds_toArray, List.set_cons_zero, List.set_cons_succ]
        refine take_in (i := 9) (oi := ⟨_, _, _, _, _, _⟩) (v := ?_) rfl (by kernel_rfl) (by kernel_rfl) (by kernel_rfl) (fun _ _ _ h => h) (by rfl) ?_ HB10.out ?_
        rotate_left
        · intro W hW; have hq := HK.out W hW; go_simp; with_reducible rfl
        simp only [Act.put, List.setIfInBounds_toArray, List.set_cons_zero, List.set_cons_succ]
        refine take_in (i := 10) (oi := ⟨_, _, _, _, _, _⟩) (v := ?_) rfl (by kernel_rfl) (by kernel_rfl) (by kernel_rfl) (fun _ _ _ h => h) (by rfl) ?_ HB10.out ?_
        rotate_left
        · intro W hW; have hq := HK.out W hW; go_simp; with_reducible rfl
        simp only [Act.put, List.setIfInBounds_toArray, List.set_cons_zero, List.set_cons_succ]
        refine take_in (i := 11) (oi := ⟨_, _, _, _, _, _⟩) (v := ?_) rfl (by kernel_rfl) (by kernel_rfl) (by kernel_rfl) (fun _ _ _ h => h) (by rfl) ?_ HB10.out ?_
        rotate_left
        · intro W hW; have hq := HK.out W hW; go_simp; with_reducible rfl
        simp only [Act.put, List.setIfInBounds_toArray, List.set_cons_zero, List.set_cons_succ]
        refine take_in (i := 12) (oi := ⟨_, _, _, _, _, _⟩) (v := ?_) rfl (by kernel_rfl) (by kernel_rfl) (by kernel_rfl) (fun _ _ _ h => h) (by rfl) ?_ HB10.out ?_
        rotate_left
        · intro W hW; have hq := HK.out W hW; go_simp; with_reducible rfl
        simp only [Act.put, List.setIfInBounds_toArray, List.set_cons_zero, List.set_cons_succ]
        refine take_in (i := 13) (oi := ⟨_, _, _, _, _, _⟩) (v := ?_) rfl (by kernel_rfl) (by kernel_rfl) (by kernel_rfl) (fun _ _ _ h => h) (by rfl) ?_ HB10.out ?_
        rotate_left
        · intro W hW; have hq := HK.out W hW; go_simp; with_reducible rfl
        simp only [Act.put, List.setIfInBounds_toArray, List.set_cons_zero, List.set_cons_succ]
        refine take_in (i := 14) (oi := ⟨_, _, _, _, _, _⟩) (v := ?_) rfl (by kernel_rfl) (by kernel_rfl) (by kernel_rfl) (fun _ _ _ h => h) (by rfl) ?_ HB10.out ?_
        rotate_left
        · intro W hW; have hq := HK.out W hW; go_simp; with_reducible rfl
        simp only [Act.put, List.setIfInBounds_toArray, List.set_cons_zero, List.set_cons_succ]
        refine take_in (i := 15) (oi := ⟨_, _, _, _, _, _⟩) (v := ?_) rfl (by kernel_rfl) (by kernel_rfl) (by kernel_rfl) (fun _ _ _ h => h) (by rfl) ?_ HB10.out ?_
        rotate_left
        · intro W hW; have hq := HK.out W hW; go_simp; with_reducible rfl
        simp only [Act.put, List.setIfInBounds_toArray, List.set_cons_zero, List.set_cons_succ]
        refine take_in (i := 16) (oi := ⟨_, _, _, _, _, _⟩) (v := ?_) rfl (by kernel_rfl) (by kernel_rfl) (by kernel_rfl) (fun _ _ _ h => h) (by rfl) ?_ HB10.out ?_
        rotate_left
        · intro W hW; have hq := HK.out W hW; go_simp; with_reducible rfl
        simp only [Act.put, List.setIfInBounds_toArray, List.set_cons_zero, List.set_cons_succ]
        refine take_in (i := 17) (oi := ⟨_, _, _, _, _, _⟩) (v := ?_) rfl (by kernel_rfl) (by kernel_rfl) (by kernel_rfl) (fun _ _ _ h => h) (by rfl) ?_ HB10.out ?_
        rotate_left
        · intro W hW; have hq := HK.out W hW; go_simp; with_reducible rfl
        simp only [Act.put, List.setIfInBounds_toArray, List.set_cons_zero, List.set_cons_succ]
        refine take_in (i := 18) (oi := ⟨_, _, _, _, _, _⟩) (v := ?_) rfl (by kernel_rfl) (by kernel_rfl) (by kernel_rfl) (fun _ _ _ h => h) (by rfl) ?_ HB10.out ?_
        rotate_left
        · intro W hW; have hq := HK.out W hW; go_simp; with_reducible rfl
        simp only [Act.put, List.setIfInBounds_toArray, List.set_cons_zero, List.set_cons_succ]
        refine take_in (i := 19) (oi := ⟨_, _, _, _, _, _⟩) (v := ?_) rfl (by kernel_rfl) (by kernel_rfl) (by kernel_rfl) (fun _ _ _ h => h) (by rfl) ?_ HB10.out ?_
        rotate_left
        · intro W hW; have hq := HK.out W hW; go_simp; with_reducible rfl
        simp only [Act.put, List.setIfInBounds_toArray, List.set_cons_zero, List.set_cons_succ]
        refine take_in (i := 20) (oi := ⟨_, _, _, _, _, _⟩) (v := ?_) rfl (by kernel_rfl) (by kernel_rfl) (by kernel_rfl) (fun _ _ _ h => h) (by rfl) ?_ HB10.out ?_
        rotate_left
        · intro W hW; have hq := HK.out W hW; go_simp; with_reducible rfl
        simp only [Act.put, List.setIfInBounds_toArray, List.set_cons_zero, List.set_cons_succ]
        refine take_in (i := 21) (oi := ⟨_, _, _, _, _, _⟩) (v := ?_) rfl (by kernel_rfl) (by kernel_rfl) (by kernel_rfl) (fun _ _ _ h => h) (by rfl) ?_ HB10.out ?_
        rotate_left
        · intro W hW; have hq := HK.out W hW; go_simp; with_reducible rfl
        simp only [Act.put, List.setIfInBounds_toArray, List.set_cons_zero, List.set_cons_succ]
        refine take_in (i := 22) (oi := ⟨_, _, _, _, _, _⟩) (v := ?_) rfl (by kernel_rfl) (by kernel_rfl) (by kernel_rfl) (fun _ _ _ h => h) (by rfl) ?_ HB10.out ?_
        rotate_left
        · intro W hW; have hq := HK.out W hW; go_simp; with_reducible rfl
        simp only [Act.put, List.setIfInBounds_toArray, List.set_cons_zero, List.set_cons_succ]
        refine skip_in (i := 23) (oi := ⟨_, _, _, _, _, _⟩) rfl (by kernel_rfl) (by kernel_rfl) (by kernel_rfl) (fun _ _ _ h => h) (by rfl) HB10.out ?_
        simp only [Act.put, List.setIfInBounds_toArray, List.set_cons_zero, List.set_cons_succ]
        refine skip_in (i := 24) (oi := ⟨_, _, _, _, _, _⟩) rfl (by kernel_rfl) (by kernel_rfl) (by kernel_rfl) (fun _ _ _ h => h) (by rfl) HB10.out ?_
        simp only [Act.put, List.setIfInBounds_toArray, List.set_cons_zero, List.set_cons_succ]
        refine skip_in (i := 25) (oi := ⟨_, _, _, _, _, _⟩) rfl (by kernel_rfl) (by kernel_rfl) (by kernel_rfl) (fun _ _ _ h => h) (by rfl) HB10.out ?_
        simp only [Act.put, List.setIfInBounds_toArray, List.set_cons_zero, List.set_cons_succ]
        refine take_in (i := 26) (oi := ⟨_, _, _, _, _, _⟩) (v := ?_) rfl (by kernel_rfl) (by kernel_rfl) (by kernel_rfl) (fun _ _ _ h => h) (by rfl) ?_ HB10.out ?_
        rotate_left
        · intro W hW; go_simp; with_reducible rfl
        simp only [Act.put, List.setIfInBounds_toArray, List.set_cons_zero, List.set_cons_succ]
        refine take_in (i := 27) (oi := ⟨_, _, _, _, _, _⟩) (v := ?_) rfl (by kernel_rfl) (by kernel_rfl) (by kernel_rfl) (fun _ _ _ h => h) (by rfl) ?_ HB10.out ?_
        rotate_left
        · intro W hW; go_simp; with_reducible rfl
        simp only [Act.put, List.setIfInBounds_toArray, List.set_cons_zero, List.set_cons_succ]
        refine take_in (i := 28) (oi := ⟨_, _, _, _, _, _⟩) (v := ?_) rfl (by kernel_rfl) (by kernel_rfl) (by kernel_rfl) (fun _ _ _ h => h) (by rfl) ?_ HB10.out ?_
        rotate_left
        · intro W hW; go_simp; with_reducible rfl
        simp only [Act.put, List.setIfInBounds_toArray, List.set_cons_zero, List.set_cons_succ]
        refine wpAnyH_done (by kernel_rfl) ?_ _
        go_wp2
        go_ret
        exact ⟨rfl, HB.out.trans (HB10.out.mono HB.out.size)⟩
      | some t =>
        obtain rfl : gg = 0 := HG.out
        obtain rfl : t = (x, y) := HP.out
        have N3 := Lib.hid (next_some HO3.out)
        have L3 : Hid (less (p, q) (x, y) = true) := Lib.hid (by have := N3.out.2.2.2.2.2.1; rw [less_iff]; simp only at this ⊢; omega)
        have HX : Hid (I2 (x, y)) := Lib.hid (by obtain ⟨h1, h2, h3, h4, h5, _⟩ := N3.out; simp only at h1 h4 h5; unfold I2 I64; simp only; omega)
        refine take_in (i := 7) (oi := ⟨_, _, _, _, _, _⟩) (v := ?_) rfl (by kernel_rfl) (by kernel_rfl) (by kernel_rfl) (fun _ _ _ h => h) (by rfl) ?_ HB10.out ?_
        rotate_left
        · intro W hW; have hq := HK.out W hW; go_simp; with_reducible rfl
        simp only [Act.put, List.setIfInBounds_toArray, List.set_cons_zero, List.set_cons_succ]
        refine take_in (i := 8) (oi := ⟨_, _, _, _, _, _⟩) (v := ?_) rfl (by kernel_rfl) (by kernel_rfl) (by kernel_rfl) (fun _ _ _ h => h) (by rfl) ?_ HB10.out ?_
        rotate_left
        · intro W hW; have hq := HK.out W hW; go_simp; with_reducible rfl
        simp only [Act.put, List.setIfInBounds_toArray, List.set_cons_zero, List.set_cons_succ]
        refine take_in (i := 9) (oi := ⟨_, _, _, _, _, _⟩) (v := ?_) rfl (by kernel_rfl) (by kernel_rfl) (by kernel_rfl) (fun _ _ _ h => h) (by rfl) ?_ HB10.out ?_
        rotate_left
        · intro W hW; have hq := HK.out W hW; go_simp; with_reducible rfl
        simp only [Act.put, List.setIfInBounds_toArray, List.set_cons_zero, List.set_cons_succ]
        refine take_in (i := 10) (oi := ⟨_, _, _, _, _, _⟩) (v := ?_) rfl (by kernel_rfl) (by kernel_rfl) (by kernel_rfl) (fun _ _ _ h => h) (by rfl) ?_ HB10.out ?_
        rotate_left
        · intro W hW; have hq := HK.out W hW; go_simp; with_reducible rfl
        simp only [Act.put, List.setIfInBounds_toArray, List.set_cons_zero, List.set_cons_succ]
        refine take_in (i := 11) (oi := ⟨_, _, _, _, _, _⟩) (v := ?_) rfl (by kernel_rfl) (by kernel_rfl) (by kernel_rfl) (fun _ _ _ h => h) (by rfl) ?_ HB10.out ?_
        rotate_left
        · intro W hW; have hq := HK.out W hW; go_simp; with_reducible rfl
        simp only [Act.put, List.setIfInBounds_toArray, List.set_cons_zero, List.set_cons_succ]
        refine take_in (i := 12) (oi := ⟨_, _, _, _, _, _⟩) (v := ?_) rfl (by kernel_rfl) (by kernel_rfl) (by kernel_rfl) (fun _ _ _ h => h) (by rfl) ?_ HB10.out ?_
        rotate_left
        · intro W hW; have hq := HK.out W hW; go_simp; with_reducible rfl
        simp only [Act.put, List.setIfInBounds_toArray, List.set_cons_zero, List.set_cons_succ]
        refine take_in (i := 13) (oi := ⟨_, _, _, _, _, _⟩) (v := ?_) rfl (by kernel_rfl) (by kernel_rfl) (by kernel_rfl) (fun _ _ _ h => h) (by rfl) ?_ HB10.out ?_
        rotate_left
        · intro W hW; have hq := HK.out W hW; go_simp; with_reducible rfl
        simp only [Act.put, List.setIfInBounds_toArray, List.set_cons_zero, List.set_cons_succ]
        refine take_in (i := 14) (oi := ⟨_, _, _, _, _, _⟩) (v := ?_) rfl (by kernel_rfl) (by kernel_rfl) (by kernel_rfl) (fun _ _ _ h => h) (by rfl) ?_ HB10.out ?_
        rotate_left
        · intro W hW; have hq := HK.out W hW; go_simp; with_reducible rfl
        simp only [Act.put, List.setIfInBounds_toArray, List.set_cons_zero, List.set_cons_succ]
        refine take_in (i := 15) (oi := ⟨_, _, _, _, _, _⟩) (v := ?_) rfl (by kernel_rfl) (by kernel_rfl) (by kernel_rfl) (fun _ _ _ h => h) (by rfl) ?_ HB10.out ?_
        rotate_left
        · intro W hW; have hq := HK.out W hW; go_simp; with_reducible rfl
        simp only [Act.put, List.setIfInBounds_toArray, List.set_cons_zero, List.set_cons_succ]
        refine take_in (i := 16) (oi := ⟨_, _, _, _, _, _⟩) (v := ?_) rfl (by kernel_rfl) (by kernel_rfl) (by kernel_rfl) (fun _ _ _ h => h) (by rfl) ?_ HB10.out ?_
        rotate_left
        · intro W hW; have hq := HK.out W hW; go_simp; with_reducible rfl
        simp only [Act.put, List.setIfInBounds_toArray, List.set_cons_zero, List.set_cons_succ]
        refine take_in (i := 17) (oi := ⟨_, _, _, _, _, _⟩) (v := ?_) rfl (by kernel_rfl) (by kernel_rfl) (by kernel_rfl) (fun _ _ _ h => h) (by rfl) ?_ HB10.out ?_
        rotate_left
        · intro W hW; have hq := HK.out W hW; go_simp; with_reducible rfl
        simp only [Act.put, List.setIfInBounds_toArray, List.set_cons_zero, List.set_cons_succ]
        refine take_in (i := 18) (oi := ⟨_, _, _, _, _, _⟩) (v := ?_) rfl (by kernel_rfl) (by kernel_rfl) (by kernel_rfl) (fun _ _ _ h => h) (by rfl) ?_ HB10.out ?_
        rotate_left
        · intro W hW; have hq := HK.out W hW; go_simp; with_reducible rfl
        simp only [Act.put, List.setIfInBounds_toArray, List.set_cons_zero, List.set_cons_succ]
        refine take_in (i := 19) (oi := ⟨_, _, _, _, _, _⟩) (v := ?_) rfl (by kernel_rfl) (by kernel_rfl) (by kernel_rfl) (fun _ _ _ h => h) (by rfl) ?_ HB10.out ?_
        rotate_left
        · intro W hW; have hq := HK.out W hW; go_simp; with_reducible rfl
        simp only [Act.put, List.setIfInBounds_toArray, List.set_cons_zero, List.set_cons_succ]
        refine take_in (i := 20) (oi := ⟨_, _, _, _, _, _⟩) (v := ?_) rfl (by kernel_rfl) (by kernel_rfl) (by kernel_rfl) (fun _ _ _ h => h) (by rfl) ?_ HB10.out ?_
        rotate_left
        · intro W hW; have hq := HK.out W hW; go_simp; with_reducible rfl
        simp only [Act.put, List.setIfInBounds_toArray, List.set_cons_zero, List.set_cons_succ]
        refine take_in (i := 21) (oi := ⟨_, _, _, _, _, _⟩) (v := ?_) rfl (by kernel_rfl) (by kernel_rfl) (by kernel_rfl) (fun _ _ _ h => h) (by rfl) ?_ HB10.out ?_
        rotate_left
        · intro W hW; have hq := HK.out W hW; go_simp; with_reducible rfl
        simp only [Act.put, List.setIfInBounds_toArray, List.set_cons_zero, List.set_cons_succ]
        refine take_in (i := 22) (oi := ⟨_, _, _, _, _, _⟩) (v := ?_) rfl (by kernel_rfl) (by kernel_rfl) (by kernel_rfl) (fun _ _ _ h => h) (by rfl) ?_ HB10.out ?_
        rotate_left
        · intro W hW; have hq := HK.out W hW; go_simp; with_reducible rfl
        simp only [Act.put, List.setIfInBounds_toArray, List.set_cons_zero, List.set_cons_succ]
        refine take_in (i := 23) (oi := ⟨_, _, _, _, _, _⟩) (v := ?_) rfl (by kernel_rfl) (by kernel_rfl) (by kernel_rfl) (fun _ _ _ h => h) (by rfl) ?_ HB10.out ?_
        rotate_left
        · intro W hW; have hq := HK.out W hW; go_simp; with_reducible rfl
        simp only [Act.put, List.setIfInBounds_toArray, List.set_cons_zero, List.set_cons_succ]
        refine take_in (i := 24) (oi := ⟨_, _, _, _, _, _⟩) (v := ?_) rfl (by kernel_rfl) (by kernel_rfl) (by kernel_rfl) (fun _ _ _ h => h) (by rfl) ?_ HB10.out ?_
        rotate_left
        · intro W hW; have hq := HK.out W hW; go_simp; with_reducible rfl
        simp only [Act.put, List.setIfInBounds_toArray, List.set_cons_zero, List.set_cons_succ]
        refine wpAnyH_ready (rs := [25]) (by kernel_rfl) (by simp) ?_
        refine AllReadyH.cons (o := ⟨_, _, _, _, _, _⟩) rfl (fun K hK => ?_) AllReadyH.nil
        go_simp
        refine (less_c (p, q) (x, y) HT.out HX.out _).mono ?_
        rw [L3.out]
        rintro e w11 ⟨rfl, hb⟩
        have HB11 := Lib.hid (HB10.out.trans (hb.mono HB10.out.size)); clear hb
        refine hK.out _ _ HB11.out (fun _ => ?_)
        clear hK K
        refine take_in (i := 26) (oi := ⟨_, _, _, _, _, _⟩) (v := ?_) rfl (by kernel_rfl) (by kernel_rfl) (by kernel_rfl) (fun _ _ _ h => h) (by rfl) ?_ HB11.out ?_
        rotate_left
        · intro W hW; go_simp; with_reducible rfl
        simp only [Act.put, List.setIfInBounds_toArray, List.set_cons_zero, List.set_cons_succ]
        refine take_in (i := 27) (oi := ⟨_, _, _, _, _, _⟩) (v := ?_) rfl (by kernel_rfl) (by kernel_rfl) (by kernel_rfl) (fun _ _ _ h => h) (by rfl) ?_ HB11.out ?_
        rotate_left
        · intro W hW; go_simp; with_reducible rfl
        simp only [Act.put, List.setIfInBounds_toArray, List.set_cons_zero, List.set_cons_succ]
        refine take_in (i := 28) (oi := ⟨_, _, _, _, _, _⟩) (v := ?_) rfl (by kernel_rfl) (by kernel_rfl) (by kernel_rfl) (fun _ _ _ h => h) (by rfl) ?_ HB11.out ?_
        rotate_left
        · intro W hW; go_simp; with_reducible rfl
        simp only [Act.put, List.setIfInBounds_toArray, List.set_cons_zero, List.set_cons_succ]
        refine wpAnyH_done (by kernel_rfl) ?_ _
        go_wp2
        go_ret
        exact ⟨rfl, HB.out.trans (HB11.out.mono HB.out.size)⟩
end Go.Proofs.Ytchkdinmnbjdfaa.tagNewer
