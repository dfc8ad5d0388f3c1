/- Contracts and words on which the claims of this seat stand, part 16: LgB LgC LgD LgE. -/
import Derived.Test.YtjcbdnbbdhjoiaaG01
import Derived.Test.YtjcbdnbbdhjoiaaG06
import Derived.Test.YtjcbdnbbdhjoiaaG15
set_option linter.unusedSimpArgs false
set_option linter.unusedVariables false
namespace Go.Proofs.Ytjcbdnbbdhjoiaa.Lgw
set_option maxRecDepth 20000
open Go.RowKit
open Bk Lg Wire
open Dk
open Tgw (hat hbe)
open Rg (bal)
open Dkw (Ds Dx Rf Kp Two dv RetDE results_disk2)

theorem rf_two {F : Nat → Prop} {w w' : World} {A : Option Addr} {xs : List Value} (h : Rf w F A xs) (hb : Below w.heap.size w w') : Rf w' (Two F w.heap.size) A xs := by
  intro hn
  obtain ⟨b, o, e, hl, hf, hc⟩ := h.all hb hn
  obtain ⟨b2, o2, e2, hl2, _, _⟩ := h hn
  rw [e] at e2
  injection e2 with e2
  injection e2 with e3 e4
  refine ⟨b, o, e, hl, fun h2 => ?_, hc⟩
  rcases h2 with h2 | h2 | h2
  · exact hf h2
  · omega
  · omega
/-- what a disk as a value holds, from now on -/
theorem ds_parts {w : World} {F : Nat → Prop} {v : Value} {d : D} (h : Ds w F v d) : ∃ A n c, v = dv A n c d ∧ n = d.data.length ∧ n ≤ c ∧ Rf w F A (d.data.map B8) := h
set_option maxHeartbeats 4000000 in
theorem add_r (v : Value) (d : D) (A : Option Addr) (n c : Nat) (rs : List R) (F : Nat → Prop) (w : World) (hF : ∀ k, F k → k < w.heap.size) (h : Ds w F v d) (hi : Iv d) (hs : Sr w A n c rs) : Calls Try.prog 22 #[v, .slice A n c] w (RetDE w F (addD d rs) (addE d rs)) := by
  obtain ⟨A0, n0, c0, rfl, hn0, hc0, hr0⟩ := h
  obtain ⟨hn, _, hl, hu, hr⟩ := hs
  have HN := Lib.hid hn; have HR := Lib.hid hr; have HU := Lib.hid hu; have HN0 := Lib.hid hn0; have HC0 := Lib.hid hc0; have HR0 := Lib.hid hr0; have HF := Lib.hid hF; have HI := Lib.hid hi
  have hsf := store_flt
  have HBAD : Hid (∀ (k : Nat) r, rs[k]? = some r → rightR r = false → addE d rs = 91 ∧ addD d rs = d) := Lib.hid (fun k r h1 h2 => add_bad h1 h2)
  have HGOOD : Hid ((∀ r ∈ rs, rightR r = true) → addE d rs = appE d (flatR rs) ∧ addD d rs = if appE d (flatR rs) = 0 then syncD (appD d (flatR rs)) else appD d (flatR rs)) := Lib.hid add_good
  have HPO : Hid (∀ w' x y A1 n1 c1, addE d rs = x → addD d rs = y → n1 = y.data.length → n1 ≤ c1 → Rf w' F A1 (y.data.map B8) → Below w.heap.size w w' → RetDE w F (addD d rs) (addE d rs) (.returned (.tuple #[.agg #[.slice A1 n1 c1, .int .i64 y.safe, .int .i64 y.room, .int .i64 y.fuse, .bool y.off], .int .i64 x])) w') := Lib.hid (fun w' x y A1 n1 c1 h1 h2 h3 h4 h5 h6 => by
    rw [h1, h2]
    exact ⟨_, rfl, ⟨A1, n1, c1, rfl, h3, h4, h5⟩, h6⟩)
  generalize RetDE w F (addD d rs) (addE d rs) = PP at HPO ⊢
  clear hn hr hu hn0 hc0 hr0 hF hi
  unfold dv
  go_enter Try.func22, Try.ntmps22
  go_wp2
  go_loopw [16] (fun x16 wr => ∃ (k : Nat), x16 = .int .i64 (k : Int) ∧ k ≤ n ∧ (∀ r ∈ rs.take k, rightR r = true) ∧ Dx wr w.heap.size A0 n0 c0 d.safe d.room d.fuse d.off ∧ Dx wr (w.heap.size + 1) none 0 0 0 0 0 false ∧ Below w.heap.size w wr) (fun x16 _ => n - (intOf x16).toNat)
  case atStart => exact ⟨0, rfl, by omega, by simp, hbe (hat _ _ _ rfl), hat _ _ _ (by simp), bal (bal (Below.refl _ _) (Nat.le_refl _) _) (Nat.le_refl _) _⟩
  case round =>
    obtain ⟨k, rfl, hk, hok, hx, hy, hb⟩ := hrel
    have HOK := Lib.hid hok; have HX := Lib.hid hx; have HY := Lib.hid hy; have HB := Lib.hid hb
    clear hok hx hy hb
    by_cases h : k < n
    · obtain ⟨b, o, rfl, hbB, hcell⟩ := HR.out (by rw [← HN.out]; omega)
      have hkl : k < rs.length := by rw [← HN.out]; exact h
      have hz : rs[k]? = some rs[k] := List.getElem?_eq_getElem hkl
      have hc0 : Rg.At KR wr b (o + k * 11) rs[k] := (hcell k rs[k] hz).below HB.out hbB
      have HWF := Lib.hid (HU.out rs[k] (List.getElem_mem hkl))
      generalize rs[k] = r at hz hc0 HWF
      have HZ := Lib.hid hz
      obtain ⟨x0, x1, x2, x3, x4, x5, x6, x7, x8, x9, x10⟩ := elv_at hc0
      clear hz hcell hc0 hkl
      have HBY := Lib.hid (fun W => right_r r HWF.out W)
      unfold rvv at HBY
      go_wp2_with fail
      clear x0 x1 x2 x3 x4 x5 x6 x7 x8 x9 x10
      have HX := Lib.hid (HX.out.all (bal (Below.refl wr.heap.size wr) (Nat.le_refl _) (.cells #[.int .i64 r.kind, .int .i64 r.va, .int .i64 r.vd, .int .i64 r.cn, .int .i64 r.ca, .int .i64 r.cd, .int .i64 r.e.key, .int .i64 r.e.num, .int .i64 r.e.node, .float .f64 r.e.val, .int .i64 r.n] 40))); have HY := Lib.hid (HY.out.all (bal (Below.refl wr.heap.size wr) (Nat.le_refl _) (.cells #[.int .i64 r.kind, .int .i64 r.va, .int .i64 r.vd, .int .i64 r.cn, .int .i64 r.ca, .int .i64 r.cd, .int .i64 r.e.key, .int .i64 r.e.num, .int .i64 r.e.node, .float .f64 r.e.val, .int .i64 r.n] 40)))
      have HB := Lib.hid (bal HB.out (Nat.le_refl _) (.cells #[.int .i64 r.kind, .int .i64 r.va, .int .i64 r.vd, .int .i64 r.cn, .int .i64 r.ca, .int .i64 r.cd, .int .i64 r.e.key, .int .i64 r.e.num, .int .i64 r.e.node, .float .f64 r.e.val, .int .i64 r.n] 40))
      generalize wr.alloc (.cells #[.int .i64 r.kind, .int .i64 r.va, .int .i64 r.vd, .int .i64 r.cn, .int .i64 r.ca, .int .i64 r.cd, .int .i64 r.e.key, .int .i64 r.e.num, .int .i64 r.e.node, .float .f64 r.e.val, .int .i64 r.n] 40) = w1 at HX HY HB ⊢
      refine (HBY.out _).mono ?_
      generalize hrt : rightR r = rt
      rintro e w2 ⟨rfl, hb2⟩
      have HX := Lib.hid (HX.out.all hb2); have HY := Lib.hid (HY.out.all hb2)
      have HB := Lib.hid (HB.out.trans (hb2.mono HB.out.size)); clear hb2
      cases rt with
      | false =>
        have HE := Lib.hid (HBAD.out k r HZ.out hrt)
        clear hrt
        have x0 := HX.out.c0; have x1 := HX.out.c1; have x2 := HX.out.c2; have x3 := HX.out.c3; have x4 := HX.out.c4
        have y0 := HY.out.c0; have y1 := HY.out.c1; have y2 := HY.out.c2; have y3 := HY.out.c3; have y4 := HY.out.c4
        have g0 := frozen_of_row w2 (w.heap.size + 1) 0 _ _ HY.out
        have g1 := frozen_of_row w2 (w.heap.size + 1) 1 _ _ HY.out
        have g2 := frozen_of_row w2 (w.heap.size + 1) 2 _ _ HY.out
        have g3 := frozen_of_row w2 (w.heap.size + 1) 3 _ _ HY.out
        have g4 := frozen_of_row w2 (w.heap.size + 1) 4 _ _ HY.out
        go_wp2
        refine bodyPost_ret (results_disk2 (g := w.heap.size + 1) rfl rfl rfl (((((HY.out.setA A0 n0 c0).setS d.safe).setR d.room).setF d.fuse).setO d.off)) rfl ?_
        have HBE := Lib.hid (((((HB.out.setCell (p := ⟨w.heap.size + 1, 0, none⟩) (Nat.le_succ _) (.slice A0 n0 c0)).setCell (p := ⟨w.heap.size + 1, 1, none⟩) (Nat.le_succ _) (.int .i64 d.safe)).setCell (p := ⟨w.heap.size + 1, 2, none⟩) (Nat.le_succ _) (.int .i64 d.room)).setCell (p := ⟨w.heap.size + 1, 3, none⟩) (Nat.le_succ _) (.int .i64 d.fuse)).setCell (p := ⟨w.heap.size + 1, 4, none⟩) (Nat.le_succ _) (.bool d.off))
        exact HPO.out _ _ d A0 n0 c0 HE.out.1 HE.out.2 HN0.out HC0.out (HR0.out.all HBE.out) HBE.out
      | true =>
        have HRT := Lib.hid hrt
        clear hrt
        go_wp2
        refine ⟨⟨k + 1, by go_num, by omega, ?_, HX.out, HY.out, HB.out⟩, by simp [intOf]; omega⟩
        intro x hx
        rw [take_snoc HZ.out] at hx
        rcases List.mem_append.1 hx with hx | hx
        · exact HOK.out x hx
        · rw [List.mem_singleton.1 hx]; exact HRT.out
    · obtain rfl : k = n := by omega
      have HT : Hid (rs.take k = rs) := Lib.hid (List.take_of_length_le (by rw [← HN.out]; exact Nat.le_refl _))
      rw [HT.out] at HOK
      have HE := Lib.hid (HGOOD.out HOK.out)
      have HOKR : Hid (∀ r ∈ rs, Ok r) := Lib.hid (fun r hr => ⟨HOK.out r hr, HU.out r hr⟩)
      clear HT HGOOD HBAD HOK
      go_wp2
      go_loopw [8, 28] (fun x8 x28 wq => ∃ (j : Nat) (A1 : Option Addr) (n1 c1 : Nat), x8 = .slice A1 n1 c1 ∧ x28 = .int .i64 (j : Int) ∧ j ≤ k ∧ n1 ≤ 60 * j ∧ Own wq (w.heap.size + 2) A1 n1 c1 (flatR (rs.take j)) ∧ Dx wq w.heap.size A0 n0 c0 d.safe d.room d.fuse d.off ∧ Dx wq (w.heap.size + 1) none 0 0 0 0 0 false ∧ Below w.heap.size w wq ∧ w.heap.size + 2 ≤ wq.heap.size) (fun _ x28 _ => k - (intOf x28).toNat)
      case atStart =>
        have hg2 : w.heap.size + 2 ≤ wr.heap.size := by have := HY.out.lt; omega
        exact ⟨0, _, 0, 0, rfl, rfl, by omega, by omega, own_new wr (w.heap.size + 2) [] hg2 (by simp), hbe HX.out, hbe HY.out, bal HB.out (Nat.le_refl _) _, by simp; omega⟩
      case round =>
        obtain ⟨j, A1, n1, c1, rfl, rfl, hj, h60, ho1, hx, hy, hb, hsz⟩ := hrel
        clear HX HY HB
        rename World => wq
        have HO1 := Lib.hid ho1; have HX := Lib.hid hx; have HY := Lib.hid hy; have HB := Lib.hid hb
        clear ho1 hx hy hb
        by_cases h2 : j < k
        · obtain ⟨b, o, rfl, hbB, hcell⟩ := HR.out (by rw [← HN.out]; omega)
          have hkl : j < rs.length := by rw [← HN.out]; exact h2
          have hz : rs[j]? = some rs[j] := List.getElem?_eq_getElem hkl
          have hc0 : Rg.At KR wq b (o + j * 11) rs[j] := (hcell j rs[j] hz).below HB.out hbB
          have HOKJ := Lib.hid (HOKR.out rs[j] (List.getElem_mem hkl))
          generalize rs[j] = r at hz hc0 HOKJ
          have HZ := Lib.hid hz
          obtain ⟨x0, x1, x2, x3, x4, x5, x6, x7, x8, x9, x10⟩ := elv_at hc0
          clear hz hcell hc0 hkl
          have HBY := Lib.hid (fun W => bytes_r r HOKJ.out.2 W)
          unfold rvv at HBY
          go_wp2_with fail
          clear x0 x1 x2 x3 x4 x5 x6 x7 x8 x9 x10
          have HX := Lib.hid (HX.out.all (bal (Below.refl wq.heap.size wq) (Nat.le_refl _) (.cells #[.int .i64 r.kind, .int .i64 r.va, .int .i64 r.vd, .int .i64 r.cn, .int .i64 r.ca, .int .i64 r.cd, .int .i64 r.e.key, .int .i64 r.e.num, .int .i64 r.e.node, .float .f64 r.e.val, .int .i64 r.n] 40))); have HY := Lib.hid (HY.out.all (bal (Below.refl wq.heap.size wq) (Nat.le_refl _) (.cells #[.int .i64 r.kind, .int .i64 r.va, .int .i64 r.vd, .int .i64 r.cn, .int .i64 r.ca, .int .i64 r.cd, .int .i64 r.e.key, .int .i64 r.e.num, .int .i64 r.e.node, .float .f64 r.e.val, .int .i64 r.n] 40)))
          have HO1 := Lib.hid (HO1.out.alloc (.cells #[.int .i64 r.kind, .int .i64 r.va, .int .i64 r.vd, .int .i64 r.cn, .int .i64 r.ca, .int .i64 r.cd, .int .i64 r.e.key, .int .i64 r.e.num, .int .i64 r.e.node, .float .f64 r.e.val, .int .i64 r.n] 40))
          have HB := Lib.hid (bal HB.out (Nat.le_refl _) (.cells #[.int .i64 r.kind, .int .i64 r.va, .int .i64 r.vd, .int .i64 r.cn, .int .i64 r.ca, .int .i64 r.cd, .int .i64 r.e.key, .int .i64 r.e.num, .int .i64 r.e.node, .float .f64 r.e.val, .int .i64 r.n] 40))
          have HSZ : Hid (w.heap.size + 2 ≤ (wq.alloc (.cells #[.int .i64 r.kind, .int .i64 r.va, .int .i64 r.vd, .int .i64 r.cn, .int .i64 r.ca, .int .i64 r.cd, .int .i64 r.e.key, .int .i64 r.e.num, .int .i64 r.e.node, .float .f64 r.e.val, .int .i64 r.n] 40)).heap.size) := Lib.hid (by simp; omega)
          generalize wq.alloc (.cells #[.int .i64 r.kind, .int .i64 r.va, .int .i64 r.vd, .int .i64 r.cn, .int .i64 r.ca, .int .i64 r.cd, .int .i64 r.e.key, .int .i64 r.e.num, .int .i64 r.e.node, .float .f64 r.e.val, .int .i64 r.n] 40) = w1 at HX HY HB HO1 HSZ ⊢
          refine (HBY.out _).mono ?_
          rintro e w2 ⟨hb2, h3⟩
          have HX := Lib.hid (HX.out.all hb2); have HY := Lib.hid (HY.out.all hb2)
          have HO1 := Lib.hid (HO1.out.below hb2 (Nat.le_refl _))
          have HSZ := Lib.hid (Nat.le_trans HSZ.out hb2.size)
          have HB := Lib.hid (HB.out.trans (hb2.mono HB.out.size)); clear hb2
          rcases h3 with ⟨hrt, rfl⟩ | ⟨hrt, A2, n2, c2, rfl, ho2⟩
          · have := HOKJ.out.1; rw [hrt] at this; cases this
          · have HO2 := Lib.hid ho2
            have hn2 : n2 ≤ 60 := by have h1 := bytes_len r HOKJ.out; have h2 := seal_small r HOKJ.out; have h3 := ho2.1; omega
            clear hrt ho2
            go_wp2_with (at_builtin; refine wp_app8 rfl (.tmp 37) (.tmp 38) rfl (w.heap.size + 2) A1 n1 c1 _ rfl HO1.out w2.heap.size A2 n2 c2 (bytesR r) rfl HO2.out.1 HO2.out.rd (by unfold big; omega) HSZ.out ?_; intro A4 c4 w4 ho4 hb4)
            refine ⟨⟨j + 1, A4, n1 + n2, c4, rfl, by go_num, by omega, by omega, ?_, ?_, ?_, HB.out.trans (hb4.mono (by omega)), Nat.le_trans HSZ.out hb4.size⟩, by simp [intOf]; omega⟩
            · rw [take_snoc HZ.out, flatR_snoc]; exact ho4
            · exact (hb4.block _ (by omega)).trans HX.out
            · exact (hb4.block _ (by omega)).trans HY.out
        · obtain rfl : j = k := by omega
          have HT : Hid (rs.take j = rs) := Lib.hid (List.take_of_length_le (by rw [← HN.out]; exact Nat.le_refl _))
          rw [HT.out] at HO1
          have hn1b : n1 ≤ big := by unfold big; omega
          have HF2 : Hid (∀ q, Two F w.heap.size q → q < wq.heap.size) := Lib.hid (fun q hq => by
            rcases hq with hq | hq | hq
            · have := HF.out q hq; omega
            · omega
            · omega)
          have HDS : Hid (Ds wq (Two F w.heap.size) (dv A0 n0 c0 d) d) := Lib.hid ⟨A0, n0, c0, rfl, HN0.out, HC0.out, rf_two HR0.out HB.out⟩
          generalize flatR rs = fl at *
          have x0 := HX.out.c0; have x1 := HX.out.c1; have x2 := HX.out.c2; have x3 := HX.out.c3; have x4 := HX.out.c4
          go_wp2_with fail
          clear x0 x1 x2 x3 x4
          refine (Dkw.append_r (dv A0 n0 c0 d) d A1 n1 c1 fl HO1.out.1 hn1b (Two F w.heap.size) _ HF2.out HDS.out HI.out HO1.out.rd).mono ?_
          rintro e w2 ⟨v2, rfl, ⟨A2, n2, c2, rfl, hn2, hc2, hr2⟩, hb2⟩
          have HX := Lib.hid (HX.out.all hb2); have HY := Lib.hid (HY.out.all hb2)
          have HB := Lib.hid (HB.out.trans (hb2.mono HB.out.size))
          have HN2 := Lib.hid hn2; have HC2 := Lib.hid hc2; have HR2 := Lib.hid hr2
          clear hb2 hn2 hc2 hr2 HDS HF2
          generalize appE d fl = x at HE ⊢
          generalize appD d fl = d2 at HE HN2 HR2 ⊢
          have x0 := HX.out.c0; have x1 := HX.out.c1; have x2 := HX.out.c2; have x3 := HX.out.c3; have x4 := HX.out.c4
          have f0 := frozen_of_row w2 w.heap.size 0 _ _ HX.out
          have f1 := frozen_of_row w2 w.heap.size 1 _ _ HX.out
          have f2 := frozen_of_row w2 w.heap.size 2 _ _ HX.out
          have f3 := frozen_of_row w2 w.heap.size 3 _ _ HX.out
          have f4 := frozen_of_row w2 w.heap.size 4 _ _ HX.out
          unfold dv
          go_upto_region 15 with (fail)
          clear x0 x1 x2 x3 x4 f0 f1 f2 f3 f4
          have HX3 : Hid (Dx (((((w2.setCell ⟨w.heap.size, 0, none⟩ (.slice A2 n2 c2)).setCell ⟨w.heap.size, 1, none⟩ (.int .i64 d2.safe)).setCell ⟨w.heap.size, 2, none⟩ (.int .i64 d2.room)).setCell ⟨w.heap.size, 3, none⟩ (.int .i64 d2.fuse)).setCell ⟨w.heap.size, 4, none⟩ (.bool d2.off)) w.heap.size A2 n2 c2 d2.safe d2.room d2.fuse d2.off) := Lib.hid (((((HX.out.setA A2 n2 c2).setS _).setR _).setF _).setO _)
          have HY3 : Hid (Dx (((((w2.setCell ⟨w.heap.size, 0, none⟩ (.slice A2 n2 c2)).setCell ⟨w.heap.size, 1, none⟩ (.int .i64 d2.safe)).setCell ⟨w.heap.size, 2, none⟩ (.int .i64 d2.room)).setCell ⟨w.heap.size, 3, none⟩ (.int .i64 d2.fuse)).setCell ⟨w.heap.size, 4, none⟩ (.bool d2.off)) (w.heap.size + 1) none 0 0 0 0 0 false) := Lib.hid (((((HY.out.other (p := ⟨w.heap.size, 0, none⟩) (Nat.succ_ne_self _) _).other (p := ⟨w.heap.size, 1, none⟩) (Nat.succ_ne_self _) _).other (p := ⟨w.heap.size, 2, none⟩) (Nat.succ_ne_self _) _).other (p := ⟨w.heap.size, 3, none⟩) (Nat.succ_ne_self _) _).other (p := ⟨w.heap.size, 4, none⟩) (Nat.succ_ne_self _) _)
          have HB3 : Hid (Below w.heap.size w (((((w2.setCell ⟨w.heap.size, 0, none⟩ (.slice A2 n2 c2)).setCell ⟨w.heap.size, 1, none⟩ (.int .i64 d2.safe)).setCell ⟨w.heap.size, 2, none⟩ (.int .i64 d2.room)).setCell ⟨w.heap.size, 3, none⟩ (.int .i64 d2.fuse)).setCell ⟨w.heap.size, 4, none⟩ (.bool d2.off))) := Lib.hid (((((HB.out.setCell (Nat.le_refl _) _).setCell (Nat.le_refl _) _).setCell (Nat.le_refl _) _).setCell (Nat.le_refl _) _).setCell (Nat.le_refl _) _)
          have HR3 : Hid (Rf (((((w2.setCell ⟨w.heap.size, 0, none⟩ (.slice A2 n2 c2)).setCell ⟨w.heap.size, 1, none⟩ (.int .i64 d2.safe)).setCell ⟨w.heap.size, 2, none⟩ (.int .i64 d2.room)).setCell ⟨w.heap.size, 3, none⟩ (.int .i64 d2.fuse)).setCell ⟨w.heap.size, 4, none⟩ (.bool d2.off)) (Two F w.heap.size) A2 (d2.data.map B8)) := Lib.hid (HR2.out.keep ((((((Kp.refl (Two F w.heap.size) w2).setCell (Or.inr (Or.inl rfl)) _).setCell (Or.inr (Or.inl rfl)) _).setCell (Or.inr (Or.inl rfl)) _).setCell (Or.inr (Or.inl rfl)) _).setCell (Or.inr (Or.inl rfl)) _) (fun _ h => Or.inl h))
          generalize (((((w2.setCell ⟨w.heap.size, 0, none⟩ (.slice A2 n2 c2)).setCell ⟨w.heap.size, 1, none⟩ (.int .i64 d2.safe)).setCell ⟨w.heap.size, 2, none⟩ (.int .i64 d2.room)).setCell ⟨w.heap.size, 3, none⟩ (.int .i64 d2.fuse)).setCell ⟨w.heap.size, 4, none⟩ (.bool d2.off)) = w3 at HX3 HY3 HB3 HR3 ⊢
          clear HX HY HB HR2
          have x0 := HX3.out.c0; have x1 := HX3.out.c1; have x2 := HX3.out.c2; have x3 := HX3.out.c3; have x4 := HX3.out.c4
          by_cases hx : x = 0
          · subst hx
            have HE : Hid (addE d rs = 0 ∧ addD d rs = syncD d2) := Lib.hid ⟨HE.out.1, HE.out.2.trans (if_pos rfl)⟩
            go_wp2_with fail
            clear x0 x1 x2 x3 x4
            refine (Dkw.sync_r (dv A2 n2 c2 d2) d2 (Two F w.heap.size) _ ⟨A2, n2, c2, rfl, HN2.out, HC2.out, HR3.out⟩).mono ?_
            rintro e w4 ⟨v4, rfl, ⟨A4, n4, c4, rfl, hn4, hc4, hr4⟩, hb4⟩
            have HY := Lib.hid (HY3.out.all hb4)
            have HB := Lib.hid (HB3.out.trans (hb4.mono HB3.out.size))
            have HN4 := Lib.hid hn4; have HC4 := Lib.hid hc4; have HR4 := Lib.hid hr4
            clear hb4 hn4 hc4 hr4 HX3 HY3 HB3 HR3
            generalize syncD d2 = d4 at HE HN4 HR4 ⊢
            have y0 := HY.out.c0; have y1 := HY.out.c1; have y2 := HY.out.c2; have y3 := HY.out.c3; have y4 := HY.out.c4
            have g0 := frozen_of_row w4 (w.heap.size + 1) 0 _ _ HY.out
            have g1 := frozen_of_row w4 (w.heap.size + 1) 1 _ _ HY.out
            have g2 := frozen_of_row w4 (w.heap.size + 1) 2 _ _ HY.out
            have g3 := frozen_of_row w4 (w.heap.size + 1) 3 _ _ HY.out
            have g4 := frozen_of_row w4 (w.heap.size + 1) 4 _ _ HY.out
            unfold dv
            go_wp2
            refine bodyPost_ret (results_disk2 (g := w.heap.size + 1) rfl rfl rfl (((((HY.out.setA A4 n4 c4).setS d4.safe).setR d4.room).setF d4.fuse).setO d4.off)) rfl ?_
            refine HPO.out _ _ d4 A4 n4 c4 HE.out.1 HE.out.2 HN4.out HC4.out ?_ (((((HB.out.setCell (Nat.le_succ _) _).setCell (Nat.le_succ _) _).setCell (Nat.le_succ _) _).setCell (Nat.le_succ _) _).setCell (Nat.le_succ _) _)
            exact HR4.out.keep ((((((Kp.refl (Two F w.heap.size) w4).setCell (Or.inr (Or.inr rfl)) _).setCell (Or.inr (Or.inr rfl)) _).setCell (Or.inr (Or.inr rfl)) _).setCell (Or.inr (Or.inr rfl)) _).setCell (Or.inr (Or.inr rfl)) _) (fun _ h => Or.inl (Or.inl h))
          · have HE : Hid (addE d rs = x ∧ addD d rs = d2) := Lib.hid ⟨HE.out.1, HE.out.2.trans (if_neg hx)⟩
            have hxb : (x != 0) = true := by rw [bne_iff_ne]; exact hx
            clear hx
            have y0 := HY3.out.c0; have y1 := HY3.out.c1; have y2 := HY3.out.c2; have y3 := HY3.out.c3; have y4 := HY3.out.c4
            have g0 := frozen_of_row w3 (w.heap.size + 1) 0 _ _ HY3.out
            have g1 := frozen_of_row w3 (w.heap.size + 1) 1 _ _ HY3.out
            have g2 := frozen_of_row w3 (w.heap.size + 1) 2 _ _ HY3.out
            have g3 := frozen_of_row w3 (w.heap.size + 1) 3 _ _ HY3.out
            have g4 := frozen_of_row w3 (w.heap.size + 1) 4 _ _ HY3.out
            go_wp2
            refine bodyPost_ret (results_disk2 (g := w.heap.size + 1) rfl rfl rfl (((((HY3.out.setA A2 n2 c2).setS d2.safe).setR d2.room).setF d2.fuse).setO d2.off)) rfl ?_
            refine HPO.out _ _ d2 A2 n2 c2 HE.out.1 HE.out.2 HN2.out HC2.out ?_ (((((HB3.out.setCell (Nat.le_succ _) _).setCell (Nat.le_succ _) _).setCell (Nat.le_succ _) _).setCell (Nat.le_succ _) _).setCell (Nat.le_succ _) _)
            exact HR3.out.keep ((((((Kp.refl (Two F w.heap.size) w3).setCell (Or.inr (Or.inr rfl)) _).setCell (Or.inr (Or.inr rfl)) _).setCell (Or.inr (Or.inr rfl)) _).setCell (Or.inr (Or.inr rfl)) _).setCell (Or.inr (Or.inr rfl)) _) (fun _ h => Or.inl (Or.inl h))
end Go.Proofs.Ytjcbdnbbdhjoiaa.Lgw

namespace Go.Proofs.Ytjcbdnbbdhjoiaa.Lgw
set_option maxRecDepth 20000
open Go.RowKit
open Bk Lg Wire
open Dk
open Tgw (hat hbe)
open Rg (bal)

def byE (r : R) : Int := if rightR r then 0 else 91
def byB (r : R) : List UInt8 := if rightR r then bytesR r else []
theorem RetBy.flat {w : World} {r : R} {e : Ending} {w' : World} (h : RetBy w r e w') : ∃ A n c, e = .returned (.tuple #[.slice A n c, .int .i64 (byE r)]) ∧ n = (byB r).length ∧ n ≤ c ∧ Rd w' w'.heap.size A ((byB r).map B8) ∧ Below w.heap.size w w' := by
  obtain ⟨hb, h⟩ := h
  unfold byE byB
  rcases h with ⟨h, rfl⟩ | ⟨h, A, n, c, rfl, ho⟩
  · rw [h]
    exact ⟨none, 0, 0, rfl, rfl, Nat.le_refl _, Rd.nil, hb⟩
  · rw [h]
    exact ⟨A, n, c, rfl, ho.1, ho.cap, ho.rd, hb⟩
end Go.Proofs.Ytjcbdnbbdhjoiaa.Lgw

namespace Go.Proofs.Ytjcbdnbbdhjoiaa.Lgw
set_option maxRecDepth 20000
open Go.RowKit
open Bk Lg Wire
open Dk
open Tgw (hat hbe)
open Rg (bal)
open Dkw (Dd RetK Gw)

/-- what another disk is, behind a step of this one -/
theorem other_disk {w w' : World} {F F' G : Nat → Prop} {q : Value} {d : D} (h : Dd w G q d) (hg : Gw F F' w w') (hd : ∀ k, G k → ¬ F k) : Dd w' G q d ∧ ∀ k, G k → ¬ F' k :=
  ⟨h.keep hg.1.size (fun k hk => hg.1.block k (h.lt k hk) (hd k hk)), fun k hk hf => by
    rcases hg.2 k hf with h1 | h1
    · exact hd k hk h1
    · have := h.lt k hk; omega⟩
/-- a disk of great room that holds these records, all safe -/
def holdD (rs : List R) : D := ⟨flatR rs, (flatR rs).length, 60000, -1, false⟩
theorem hold_nil : newD 60000 = holdD [] := rfl
theorem app_free (bs cs : List UInt8) (s r : Int) (h : (bs.length : Int) + cs.length ≤ r) : appE ⟨bs, s, r, -1, false⟩ cs = 0 ∧ appD ⟨bs, s, r, -1, false⟩ cs = ⟨bs ++ cs, s, r, -1, false⟩ := by
  have h2 : ¬ (0 < cs.length ∧ r - (bs.length : Int) < cs.length) := by omega
  have h3 : ¬ ((0 : Int) ≤ -1 ∧ (-1 : Int) < cs.length) := by omega
  constructor
  · show (if false = true then (82 : Int) else if 0 < cs.length ∧ r - (bs.length : Int) < cs.length then 81 else if (0 : Int) ≤ -1 ∧ (-1 : Int) < cs.length then 82 else 0) = 0
    rw [if_neg (by simp), if_neg h2, if_neg h3]
  · unfold appD
    rw [if_neg (by simp), if_neg h2, if_neg h3]
    rfl
theorem hold_add (rs : List R) (r : R) (hr : rightR r = true) (hl : (flatR rs).length + (bytesR r).length ≤ 60000) : addE (holdD rs) [r] = 0 ∧ addD (holdD rs) [r] = holdD (rs ++ [r]) := by
  have e1 : flatR [r] = bytesR r := by show bytesR r ++ [] = _; rw [List.append_nil]
  have h1 := add_good (d := holdD rs) (rs := [r]) (fun x hx => by rw [List.mem_singleton.1 hx]; exact hr)
  have h2 := app_free (flatR rs) (bytesR r) (flatR rs).length 60000 (by omega)
  rw [e1] at h1
  have h3 : appE (holdD rs) (bytesR r) = 0 := h2.1
  have h4 : appD (holdD rs) (bytesR r) = ⟨flatR rs ++ bytesR r, (flatR rs).length, 60000, -1, false⟩ := h2.2
  rw [h3, h4, if_pos rfl] at h1
  refine ⟨h1.1, h1.2.trans ?_⟩
  unfold holdD
  rw [flatR_snoc]
  rfl
theorem hold_bad (rs : List R) (r : R) (hr : rightR r = false) : addE (holdD rs) [r] = 91 ∧ addD (holdD rs) [r] = holdD rs := add_bad (k := 0) (r := r) rfl hr
theorem new_eq (room : Int) : newD room = ⟨[], 0, clampR room, -1, false⟩ := rfl
/-- all at once, onto a new disk -/
theorem new_add (room : Int) (rs : List R) (h : ∀ r ∈ rs, rightR r = true) : (0 < (flatR rs).length ∧ clampR room < (flatR rs).length → addE (newD room) rs = 81 ∧ addD (newD room) rs = newD room) ∧ (¬ (0 < (flatR rs).length ∧ clampR room < (flatR rs).length) → addE (newD room) rs = 0 ∧ addD (newD room) rs = ⟨flatR rs, (flatR rs).length, clampR room, -1, false⟩) := by
  have h1 := add_good (d := newD room) h
  constructor
  · rintro ⟨h2, h3⟩
    have e : appE (newD room) (flatR rs) = 81 := by
      unfold appE
      rw [new_eq, if_neg (by simp), if_pos ⟨h2, by simp only [List.length_nil]; omega⟩]
    have d : appD (newD room) (flatR rs) = newD room := by
      unfold appD
      rw [new_eq, if_neg (by simp), if_pos ⟨h2, by simp only [List.length_nil]; omega⟩]
    rw [e, d, if_neg (by omega)] at h1
    exact h1
  · intro h2
    have e : appE (newD room) (flatR rs) = 0 := by
      unfold appE
      rw [new_eq, if_neg (by simp), if_neg (by simp only [List.length_nil]; omega), if_neg (by simp)]
    have d : appD (newD room) (flatR rs) = ⟨flatR rs, 0, clampR room, -1, false⟩ := by
      unfold appD
      rw [new_eq, if_neg (by simp), if_neg (by simp only [List.length_nil]; omega), if_neg (by simp)]
      rfl
    rw [e, d, if_pos rfl] at h1
    exact h1
theorem rights_take {rs : List R} {k : Nat} {r : R} (h : ∀ x ∈ rs.take k, rightR x = true) (hz : rs[k]? = some r) (hr : rightR r = true) : ∀ x ∈ rs.take (k + 1), rightR x = true := by
  intro x hx
  rw [take_snoc hz] at hx
  rcases List.mem_append.1 hx with hx | hx
  · exact h x hx
  · rw [List.mem_singleton.1 hx]; exact hr
theorem ok_take {rs : List R} {k : Nat} {r : R} (h : ∀ x ∈ rs.take k, Ok x) (hz : rs[k]? = some r) (hr : Ok r) : ∀ x ∈ rs.take (k + 1), Ok x := by
  intro x hx
  rw [take_snoc hz] at hx
  rcases List.mem_append.1 hx with hx | hx
  · exact h x hx
  · rw [List.mem_singleton.1 hx]; exact hr
/-- one record in a slice of its own -/
theorem sr_one (w : World) (r : R) (hu : Flt.U64 r.e.val) : Sr (w.alloc (.cells #[.int .i64 r.kind, .int .i64 r.va, .int .i64 r.vd, .int .i64 r.cn, .int .i64 r.ca, .int .i64 r.cd, .int .i64 r.e.key, .int .i64 r.e.num, .int .i64 r.e.node, .float .f64 r.e.val, .int .i64 r.n] 40)) (some ⟨w.heap.size, 0, none⟩) 1 1 [r] := sr_lit w [r] 1 rfl (by omega) (fun x hx => by rw [List.mem_singleton.1 hx]; exact hu) (cellsR r) (by simp [Rg.flat, KR])
theorem wfs_one {r : R} (h : WfE r.e) : ∀ x ∈ [r], WfE x.e := by
  intro x hx; rw [List.mem_singleton.1 hx]; exact h
end Go.Proofs.Ytjcbdnbbdhjoiaa.Lgw

namespace Go.Proofs.Ytjcbdnbbdhjoiaa.Lgw
set_option maxRecDepth 20000
open Go.RowKit
open Bk Lg Wire
open Dk
open Tgw (hat hbe)
open Rg (bal)

/-- rows of unlike elements, of any size, lie in unlike blocks -/
theorem own_apart {w w' : World} {base base' k k' : Nat} {e e' : TypeId} {v v' : Value} {n n' : Nat} {xs xs' : List Value} (h : w.ownsRow base e k v n xs) (h' : w.ownsRow base' e' k' v' n' xs') (hne : e ≠ e') (hg : w.grownBy w' v'.ownBlock) : w'.ownsRow base e k v n xs := by
  refine h.kept hg ?_
  rcases h.2 with ⟨rfl, _⟩ | ⟨g, cap, cur, rfl, _, hh, _⟩
  · exact Or.inl rfl
  · right
    rcases h'.2 with ⟨rfl, _⟩ | ⟨g', cap', cur', rfl, _, hh', _⟩
    · simp [Value.ownBlock]
    · simp only [Value.ownBlock, ne_eq, Option.some.injEq]
      rintro rfl
      rw [hh] at hh'
      simp only [Option.some.injEq, Obj.cells.injEq] at hh'
      exact hne hh'.2.1
/-- a record in a block of its own stays, too -/
theorem rx_apart {w w' : World} {g : Nat} {r : R} {base' k' : Nat} {e' : TypeId} {v' : Value} {n' : Nat} {xs' : List Value} (h : Rx w g r) (h' : w.ownsRow base' e' k' v' n' xs') (hne : 40 ≠ e') (hg : w.grownBy w' v'.ownBlock) : Rx w' g r := by
  unfold Rx at h ⊢
  rw [hg.block g (Array.getElem?_eq_some_iff.1 h).1 ?_]
  · exact h
  · intro hb
    rcases h'.2 with ⟨rfl, _⟩ | ⟨g', cap', cur', rfl, _, hh', _⟩
    · simp [Value.ownBlock] at hb
    · simp only [Value.ownBlock, Option.some.injEq] at hb
      subst hb
      rw [h] at hh'
      simp only [Option.some.injEq, Obj.cells.injEq] at hh'
      exact hne hh'.2.1
theorem wp_app8g {w : World} {ops : Array Oper} {rest : List Oper} {o : Oper} {a : Act} {Q : Exit → Act → World → Prop} (hgd : o.guard = none) (s x : Operand)
    (ho : o.op = .call { callee := .builtin .append, args := #[s, x], argTypes := #[41, 41] })
    (base : Nat) (A0 : Option Addr) (n0 c0 : Nat) (bs0 : List UInt8) (hs : a.eval s = .slice A0 n0 c0) (hown : Own w base A0 n0 c0 bs0)
    (B : Nat) (A : Option Addr) (m c : Nat) (news : List UInt8) (hx : a.eval x = .slice A m c) (hm : m = news.length) (hr : Rd w B A (news.map B8))
    (hb : n0 + m ≤ big) (hbase : base ≤ w.heap.size)
    (h : ∀ A' c' w', Own w' base A' (n0 + m) c' (bs0 ++ news) → Below base w w' → w.grownBy w' (Value.slice A0 n0 c0).ownBlock → wpList Try.prog ops Q rest (a.put o.dst (.slice A' (n0 + m) c')) w') : wpList Try.prog ops Q (o :: rest) a w := by
  obtain ⟨i0, hi, hz0, hz1, hz2⟩ := info_parts info8
  refine wp_app hgd s x 41 ho base 5 i0 (.int .u8 0) 1 Try.underlying41 hi hz0 hz1 hz2 rfl (.slice A0 n0 c0) n0 (bs0.map B8) hs hown.2 B A m c (news.map B8) hx (by simpa using hm) hr (B8_one news)
    (by unfold big at hb; unfold maxLen; omega) (by unfold big at hb; omega) hbase fun A' c' w' h1 h2 h3 => h A' c' w' ⟨?_, ?_⟩ h2 h3
  · rw [List.length_append, hown.1, hm]
  · rw [List.map_append]; exact h1
theorem wp_appIg {w : World} {ops : Array Oper} {rest : List Oper} {o : Oper} {a : Act} {Q : Exit → Act → World → Prop} (hgd : o.guard = none) (s x : Operand)
    (ho : o.op = .call { callee := .builtin .append, args := #[s, x], argTypes := #[69, 69] })
    (base : Nat) (A0 : Option Addr) (n0 c0 : Nat) (bs0 : List Int) (hs : a.eval s = .slice A0 n0 c0) (hown : OwnI w base A0 n0 c0 bs0)
    (B : Nat) (A : Option Addr) (m c : Nat) (news : List Int) (hx : a.eval x = .slice A m c) (hm : m = news.length) (hr : Rd w B A (news.map (Value.int .i64)))
    (hb : (n0 + m) * 8 ≤ 140737488355328) (hbase : base ≤ w.heap.size)
    (h : ∀ A' c' w', OwnI w' base A' (n0 + m) c' (bs0 ++ news) → Below base w w' → w.grownBy w' (Value.slice A0 n0 c0).ownBlock → wpList Try.prog ops Q rest (a.put o.dst (.slice A' (n0 + m) c')) w') : wpList Try.prog ops Q (o :: rest) a w := by
  obtain ⟨i0, hi, hz0, hz1, hz2⟩ := info_parts infoI
  refine wp_app hgd s x 69 ho base 3 i0 (.int .i64 0) 8 Try.underlying69 hi hz0 hz1 hz2 rfl (.slice A0 n0 c0) n0 (bs0.map (Value.int .i64)) hs hown.2 B A m c (news.map (Value.int .i64)) hx (by simpa using hm) hr (I_one news)
    (by unfold maxLen; omega) hb hbase fun A' c' w' h1 h2 h3 => h A' c' w' ⟨?_, ?_⟩ h2 h3
  · rw [List.length_append, hown.1, hm]
  · rw [List.map_append]; exact h1
/-- one record appended from a block of its own -/
theorem wp_app1 {w : World} {ops : Array Oper} {rest : List Oper} {o : Oper} {a : Act} {Q : Exit → Act → World → Prop} (hgd : o.guard = none) (s x : Operand)
    (ho : o.op = .call { callee := .builtin .append, args := #[s, x], argTypes := #[22, 22] })
    (base : Nat) (A0 : Option Addr) (n0 c0 : Nat) (rs0 : List R) (hs : a.eval s = .slice A0 n0 c0) (hown : Rg.OwnG KR w base A0 n0 c0 rs0)
    (g : Nat) (r : R) (hx : a.eval x = .slice (some ⟨g, 0, none⟩) 1 1) (hr : Rx w g r)
    (hb : (n0 + 1) * 88 ≤ 140737488355328) (hbase : base ≤ w.heap.size)
    (h : ∀ A' c' w', Rg.OwnG KR w' base A' (n0 + 1) c' (rs0 ++ [r]) → Below base w w' → w.grownBy w' (Value.slice A0 n0 c0).ownBlock → wpList Try.prog ops Q rest (a.put o.dst (.slice A' (n0 + 1) c')) w') : wpList Try.prog ops Q (o :: rest) a w := by
  obtain ⟨i0, hi, hz0, hz1, hz2⟩ := info_parts (KR).info
  have hk : (KR).k = 11 := rfl
  have hby : (KR).bytes = 88 := rfl
  obtain ⟨v', w', hrun, hoo, hg, _⟩ := run_append_own (P := Try.prog) w base (KR).S o.type (KR).T i0 _ (KR).k (KR).bytes (KR).und hi hz0 hz1 hz2 (KR).zs (KR).kpos _ n0 (Rg.flat KR rs0) hown.2 ⟨g, 0, none⟩ 1 1 (Rg.flat KR [r]) (by rw [Rg.flat_len]; rfl)
    (fun j u hu => by
      rw [Rg.add_at, Nat.zero_add]
      have e : Rg.flat KR [r] = cellsR r := by simp [Rg.flat, KR]
      rw [e] at hu
      exact hr.cell j u hu) (Rg.flat_one KR [r]) (by unfold maxLen; omega) (by rw [hby]; exact hb) hbase
  have hbl : Below base w w' := (Below.refl _ _).grown hg hbase (fun k hk => (hown.2.lt k hk).1)
  have hfl : Rg.flat KR rs0 ++ Rg.flat KR [r] = Rg.flat KR (rs0 ++ [r]) := by unfold Rg.flat; rw [List.flatMap_append]
  rw [hfl] at hoo
  have hlen : n0 + 1 = (rs0 ++ [r]).length := by rw [List.length_append, hown.1]; rfl
  obtain ⟨A', c', rfl⟩ : ∃ A' c', v' = .slice A' (n0 + 1) c' := by
    rcases hoo.2 with ⟨_, h0⟩ | ⟨g', cap, cur, e, _⟩
    · omega
    · exact ⟨_, _, e⟩
  have hrun' : (Builtin.append_ #[22, 22] o.type #[.slice A0 n0 c0, .slice (some ⟨g, 0, none⟩) 1 1]).run Try.prog w = .ok (.slice A' (n0 + 1) c') w' := hrun
  refine wpList_plain hgd fun _ hK => ?_
  unfold Oper.wp execOp
  simp only [ho, resolve, invoke, builtin, Sem.run_bind, Sem.run_pure, Result.andThen_ok, List.map_toArray, List.map_cons, List.map_nil, hs, hx, hrun']
  exact hK _ _ (h A' c' w' ⟨hlen, hoo⟩ hbl hg)
/-- those that are right -/
def goods (rs : List R) : List R := rs.filter rightR
theorem goods_nil : goods [] = [] := rfl
theorem goods_yes {rs : List R} {k : Nat} {r : R} (hz : rs[k]? = some r) (h : rightR r = true) : goods (rs.take (k + 1)) = goods (rs.take k) ++ [r] := by
  unfold goods
  rw [take_snoc hz, List.filter_append, List.filter_cons_of_pos (by exact h)]
  rfl
theorem goods_no {rs : List R} {k : Nat} {r : R} (hz : rs[k]? = some r) (h : rightR r = false) : goods (rs.take (k + 1)) = goods (rs.take k) := by
  unfold goods
  rw [take_snoc hz, List.filter_append, List.filter_cons_of_neg (by rw [h]; simp)]
  simp
theorem goods_len (rs : List R) (k : Nat) : (goods (rs.take k)).length ≤ k := by
  unfold goods
  have h1 := List.length_filter_le rightR (rs.take k)
  rw [List.length_take] at h1
  omega
theorem goods_ok {rs : List R} (h : ∀ r ∈ rs, WfE r.e) (k : Nat) : ∀ r ∈ goods (rs.take k), Ok r := fun r hr => by
  unfold goods at hr
  rw [List.mem_filter] at hr
  exact ⟨hr.2, (h r (List.mem_of_mem_take hr.1)).2.2.2⟩
theorem goods_wf {rs : List R} (h : ∀ r ∈ rs, WfE r.e) (k : Nat) : ∀ r ∈ goods (rs.take k), WfE r.e := fun r hr => by
  unfold goods at hr
  rw [List.mem_filter] at hr
  exact h r (List.mem_of_mem_take hr.1)
theorem byE_yes {r : R} (h : rightR r = true) : byE r = 0 := by unfold byE; rw [h]; rfl
theorem byE_no {r : R} (h : rightR r = false) : byE r = 91 := by unfold byE; rw [h]; rfl
theorem byB_yes {r : R} (h : rightR r = true) : byB r = bytesR r := by unfold byB; rw [h]; rfl
/-- a record that can be is well formed -/
theorem ok_wf {r : R} (h : Ok r) : WfE r.e := by
  have hz : r.e = zero 0 → WfE r.e := fun e => by rw [e]; exact wf0
  rcases right_cases r h.1 with ⟨h1, h2, h3, h4, h5⟩ | ⟨h1, h2, h3, h4, h5, h6, h7⟩ | ⟨h1, h2, h3, h4, h5⟩ | ⟨h1, h2, h3, h4, h5⟩ | ⟨h1, h2, h3, h4, h5, h6, h7⟩
  · rw [okE_iff] at h3
    refine ⟨?_, ?_, ?_, h.2⟩ <;> unfold Tg.I64 <;> omega
  · exact hz h7
  · exact hz h5
  · exact hz h5
  · exact hz h7
end Go.Proofs.Ytjcbdnbbdhjoiaa.Lgw
