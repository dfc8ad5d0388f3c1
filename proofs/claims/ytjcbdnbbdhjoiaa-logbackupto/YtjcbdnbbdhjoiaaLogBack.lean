/- LogBack: records that are written are read, whatever is behind them that is no record's beginning; and what is scanned is just what was written. Conditions: what comes in holds together at most 1048576 values and letters. -/
import Derived.Test.YtjcbdnbbdhjoiaaRows
import Derived.Test.YtjcbdnbbdhjoiaaG16
import Derived.Test.YtjcbdnbbdhjoiaaG17
import Derived.WalkKit
import Derived.ProofKit
import Derived.OpenShut
import Derived.Laws.Cover2
import Derived.SizedLaws
import Derived.JoinedCond
import Derived.Carry
set_option linter.unusedSimpArgs false
set_option linter.unusedVariables false
namespace Go.Proofs.Ytjcbdnbbdhjoiaa.logBack
set_option maxRecDepth 20000
open Go.RowKit
open Bk Lg Wire Lgw
open Dk
open Tgw (hat hbe)
open Rg (bal)

theorem str_eq (a b : List UInt8) (h : a = b) : ((str a).toList == (str b).toList) = true := by rw [h]; simp
set_option maxRecDepth 100000 in
set_option maxHeartbeats 4000000 in
theorem walk (w : World) (A : Option Addr) (n c : Nat) (rs : List R) (hs : Sr w A n c rs) (hwf : ∀ r ∈ rs, WfE r.e) (A0 : Option Addr) (n0 c0 : Nat) (bs : List UInt8) (hn0 : n0 = bs.length) (hc0 : n0 ≤ c0) (hr0 : Rd w w.heap.size A0 (bs.map B8)) (hl0 : c0 ≤ 1048576) :
    Calls Try.prog 7 #[.slice A n c, .slice A0 n0 c0] w fun e w' => e = .returned (.bool true) ∧ Below w.heap.size w w' := by
  have HS := Lib.hid hs; have HW := Lib.hid hwf; have HN0 := Lib.hid hn0; have HR0 := Lib.hid hr0
  have hn : Hid (n = rs.length) := Lib.hid hs.1
  have hsf := store_flt
  clear hs hwf hn0 hr0
  go_enter Try.func7, Try.ntmps7
  go_wp2_with fail
  refine (log_alive_c _).mono ?_
  rintro e w2 ⟨rfl, hb⟩
  have HB := Lib.hid hb; clear hb
  by_cases h40 : 40 < n
  · go_wp2
    go_ret
    exact ⟨rfl, HB.out⟩
  have hn40 : n ≤ 40 := by omega
  go_wp2
  go_loopw [5, 6, 29] (fun x5 x6 x29 wr => ∃ (k : Nat) (A5 : Option Addr) (n5 c5 : Nat) (A6 : Option Addr) (n6 c6 : Nat), x5 = .slice A5 n5 c5 ∧ x6 = .slice A6 n6 c6 ∧ x29 = .int .i64 (k : Int) ∧ k ≤ n ∧ n5 ≤ 60 * k ∧ n6 ≤ k ∧ Own wr w.heap.size A5 n5 c5 (flatR (goods (rs.take k))) ∧ Rg.OwnG KR wr w.heap.size A6 n6 c6 (goods (rs.take k)) ∧ Below w.heap.size w wr) (fun _ _ x29 _ => n - (intOf x29).toNat)
  case atStart => exact ⟨0, _, 0, 0, _, 0, 0, rfl, rfl, rfl, by omega, by omega, by omega, (own_new w2 w.heap.size [] HB.out.size (by simp)).alloc _, Rg.own_newG KR (w2.alloc (.cells #[] 5)) w.heap.size _ (by simp) (by have := HB.out.size; simp; omega), bal (bal HB.out (Nat.le_refl _) _) (Nat.le_refl _) _⟩
  case round =>
    obtain ⟨k, A5, n5, c5, A6, n6, c6, rfl, rfl, rfl, hk, h5, h6, ho5, ho6, hb⟩ := hrel
    clear HB
    have HO5 := Lib.hid ho5; have HO6 := Lib.hid ho6; have HB := Lib.hid hb
    clear ho5 ho6 hb
    by_cases h : k < n
    · obtain ⟨bb, o, rfl, hbB, hcell⟩ := HS.out.2.2.2.2 (by rw [← hn.out]; omega)
      have hkl : k < rs.length := by rw [← hn.out]; exact h
      have hz : rs[k]? = some rs[k] := List.getElem?_eq_getElem hkl
      have hc0 : Rg.At KR wr bb (o + k * 11) rs[k] := (hcell k rs[k] hz).below HB.out hbB
      have HWF := Lib.hid (HW.out rs[k] (List.getElem_mem hkl))
      generalize rs[k] = r at hz hc0 HWF
      have HZ := Lib.hid hz
      obtain ⟨x0, x1, x2, x3, x4, x5, x6, x7, x8, x9, x10⟩ := elv_at hc0
      clear hz hcell hc0 hkl
      have HBY := Lib.hid (fun W => bytes_c r HWF.out W)
      have HRC := Lib.hid (fun W => right_c r HWF.out W)
      unfold rvv at HBY HRC
      go_wp2_with fail
      clear x0 x1 x2 x3 x4 x5 x6 x7 x8 x9 x10
      have HX := Lib.hid (show Rx (wr.alloc (.cells #[.int .i64 r.kind, .int .i64 r.va, .int .i64 r.vd, .int .i64 r.cn, .int .i64 r.ca, .int .i64 r.cd, .int .i64 r.e.key, .int .i64 r.e.num, .int .i64 r.e.node, .float .f64 r.e.val, .int .i64 r.n] 40)) wr.heap.size r from hat _ _ _ rfl)
      have HO5 := Lib.hid (HO5.out.alloc (.cells #[.int .i64 r.kind, .int .i64 r.va, .int .i64 r.vd, .int .i64 r.cn, .int .i64 r.ca, .int .i64 r.cd, .int .i64 r.e.key, .int .i64 r.e.num, .int .i64 r.e.node, .float .f64 r.e.val, .int .i64 r.n] 40)); have HO6 := Lib.hid (HO6.out.alloc (.cells #[.int .i64 r.kind, .int .i64 r.va, .int .i64 r.vd, .int .i64 r.cn, .int .i64 r.ca, .int .i64 r.cd, .int .i64 r.e.key, .int .i64 r.e.num, .int .i64 r.e.node, .float .f64 r.e.val, .int .i64 r.n] 40))
      have HB := Lib.hid (bal HB.out (Nat.le_refl _) (.cells #[.int .i64 r.kind, .int .i64 r.va, .int .i64 r.vd, .int .i64 r.cn, .int .i64 r.ca, .int .i64 r.cd, .int .i64 r.e.key, .int .i64 r.e.num, .int .i64 r.e.node, .float .f64 r.e.val, .int .i64 r.n] 40))
      generalize wr.alloc (.cells #[.int .i64 r.kind, .int .i64 r.va, .int .i64 r.vd, .int .i64 r.cn, .int .i64 r.ca, .int .i64 r.cd, .int .i64 r.e.key, .int .i64 r.e.num, .int .i64 r.e.node, .float .f64 r.e.val, .int .i64 r.n] 40) = w3 at HX HO5 HO6 HB ⊢
      generalize wr.heap.size = gx at HX ⊢
      refine (HBY.out _).mono ?_
      intro e w4 h4
      obtain ⟨A4, n4, c4, rfl, hn4, hc4, hr4, hb⟩ := h4.flat
      have HX := Lib.hid (HX.out.all hb); have HO5 := Lib.hid (HO5.out.below hb (Nat.le_refl _)); have HO6 := Lib.hid (HO6.out.below hb (Nat.le_refl _))
      have HB := Lib.hid (HB.out.trans (hb.mono HB.out.size))
      have HN4 := Lib.hid hn4; have HR4 := Lib.hid hr4
      clear h4 hb hn4 hr4
      obtain ⟨z0, z1, z2, z3, z4, z5, z6, z7, z8, z9, z10⟩ := HX.out.cs
      go_wp2_with fail
      clear z0 z1 z2 z3 z4 z5 z6 z7 z8 z9 z10
      refine (HRC.out _).mono ?_
      rintro e w5 ⟨rfl, hb⟩
      have HX := Lib.hid (HX.out.all hb); have HO5 := Lib.hid (HO5.out.below hb (Nat.le_refl _)); have HO6 := Lib.hid (HO6.out.below hb (Nat.le_refl _))
      have HR4 := Lib.hid ((HR4.out.below hb).more hb.size)
      have HB := Lib.hid (HB.out.trans (hb.mono HB.out.size))
      clear hb
      cases hrt : rightR r with
      | false =>
        have HG := Lib.hid (goods_no HZ.out hrt)
        rw [byE_no hrt]
        clear hrt
        go_wp2
        exact ⟨⟨k + 1, A5, n5, c5, A6, n6, c6, rfl, rfl, by go_num, by omega, by omega, by omega, by rw [HG.out]; exact HO5.out, by rw [HG.out]; exact HO6.out, HB.out⟩, by simp [intOf]; omega⟩
      | true =>
        have HG := Lib.hid (goods_yes HZ.out hrt)
        have hn4 : n4 ≤ 60 := by
          have h1 := bytes_len r ⟨hrt, HWF.out.2.2.2⟩; have h2 := seal_small r ⟨hrt, HWF.out.2.2.2⟩
          have h3 := HN4.out
          rw [byB_yes hrt] at h3
          omega
        rw [byE_yes hrt]
        rw [byB_yes hrt] at HN4 HR4
        clear hrt
        go_upto_region 15 with (at_builtin; refine wp_app8g rfl (.tmp 45) (.tmp 46) rfl w.heap.size A5 n5 c5 _ rfl HO5.out w5.heap.size A4 n4 c4 (bytesR r) rfl HN4.out HR4.out (by unfold big; omega) HB.out.size ?_; intro A7 c7 w7 ho7 hb7 hg7)
        have HX := Lib.hid (rx_apart HX.out HO5.out.2 (by decide) hg7)
        have HO6 : Hid (Rg.OwnG KR w7 w.heap.size A6 n6 c6 (goods (rs.take k))) := Lib.hid ⟨HO6.out.1, own_apart HO6.out.2 HO5.out.2 (by decide) hg7⟩
        have HO7 := Lib.hid ho7
        have HB := Lib.hid (HB.out.trans hb7)
        clear ho7 hb7 hg7 HO5 HR4 HN4
        obtain ⟨z0, z1, z2, z3, z4, z5, z6, z7, z8, z9, z10⟩ := HX.out.cs
        go_wp2_with (at_builtin; refine wp_app1 rfl (.tmp 48) (.tmp 50) rfl w.heap.size A6 n6 c6 _ rfl (HO6.out.alloc (.cells #[.int .i64 r.kind, .int .i64 r.va, .int .i64 r.vd, .int .i64 r.cn, .int .i64 r.ca, .int .i64 r.cd, .int .i64 r.e.key, .int .i64 r.e.num, .int .i64 r.e.node, .float .f64 r.e.val, .int .i64 r.n] 40)) w7.heap.size r rfl (hat _ _ _ rfl) (by omega) (by have := HB.out.size; simp; omega) ?_; intro A8 c8 w8 ho8 hb8 hg8)
        have HQ7 := Lib.hid (own_apart (HO7.out.alloc (.cells #[.int .i64 r.kind, .int .i64 r.va, .int .i64 r.vd, .int .i64 r.cn, .int .i64 r.ca, .int .i64 r.cd, .int .i64 r.e.key, .int .i64 r.e.num, .int .i64 r.e.node, .float .f64 r.e.val, .int .i64 r.n] 40)).2 (HO6.out.alloc (.cells #[.int .i64 r.kind, .int .i64 r.va, .int .i64 r.vd, .int .i64 r.cn, .int .i64 r.ca, .int .i64 r.cd, .int .i64 r.e.key, .int .i64 r.e.num, .int .i64 r.e.node, .float .f64 r.e.val, .int .i64 r.n] 40)).2 (by decide) hg8)
        refine ⟨⟨k + 1, A7, n5 + n4, c7, A8, n6 + 1, c8, rfl, rfl, by go_num, by omega, by omega, by omega, ?_, ?_, (bal HB.out (Nat.le_refl _) _).trans hb8⟩, by simp [intOf]; omega⟩
        · rw [HG.out, flatR_snoc]
          exact ⟨HO7.out.1, HQ7.out⟩
        · rw [HG.out]; exact ho8
    · obtain rfl : k = n := by omega
      have HT : Hid (rs.take k = rs) := Lib.hid (List.take_of_length_le (by rw [← hn.out]; exact Nat.le_refl _))
      have HOKG := Lib.hid (goods_ok HW.out k)
      rw [HT.out] at HO5 HO6 HOKG
      clear HT
      generalize goods rs = gs at *
      have hn5 : n5 ≤ 2400 := by omega
      go_wp2_with (first | (at_builtin; refine wp_copy8 rfl (.tmp 54) (.tmp 55) rfl wr rfl wr.heap.size A5 n5 c5 (flatR gs) rfl HO5.out.1 HO5.out.rd (Nat.le_refl _) (by unfold big; omega) ?_; intro A7 c7 w7 ho7 hb7) | (at_builtin; refine wp_app8 rfl (.tmp 56) (.tmp 57) rfl wr.heap.size A7 n5 c7 (flatR gs) rfl (ho7.alloc _) (w7.heap.size + 1) _ 1 1 [0] rfl rfl (rd_one w7 _ 0 rfl) (by unfold big; omega) (by have := hb7.size; simp; omega) ?_; intro A8 c8 w8 ho8 hb8))
      have HO8 := Lib.hid ho8
      have HBX := Lib.hid ((bal hb7 (Nat.le_refl _) (.cells #[.int .u8 0] 5)).trans hb8)
      clear ho7 hb7 ho8 hb8
      have HO5 := Lib.hid (HO5.out.below HBX.out (Nat.le_refl _)); have HO6 := Lib.hid (HO6.out.below HBX.out (Nat.le_refl _))
      have HB := Lib.hid (HB.out.trans (HBX.out.mono HB.out.size)); clear HBX
      refine (scan_c A8 (n5 + 1) c8 _ HO8.out.1 HO8.out.cap (by omega) w8 HO8.out.rd).mono ?_
      rintro e w9 ⟨A9, n9, c9, m9, rs9, rfl, hsc, hsr, hb⟩
      obtain ⟨rfl, rfl⟩ := scans_one hsc (scans_of gs HOKG.out [0] (fun r n => first_zero [] r n))
      have HS9 := Lib.hid hsr
      have HO5 := Lib.hid (HO5.out.below hb (Nat.le_refl _)); have HO6 := Lib.hid (HO6.out.below hb (Nat.le_refl _))
      have HB := Lib.hid (HB.out.trans (hb.mono HB.out.size))
      have HM9 : Hid ((flatR gs).length = n5) := Lib.hid HO5.out.1.symm
      rw [HM9.out]
      clear hsc hsr hb HO8
      have HS6 : Hid (Sr w9 A6 n6 c6 gs) := Lib.hid ⟨HO6.out.1, HO6.out.cap, by omega, fun r hr => (HOKG.out r hr).2, HO6.out.rs⟩
      go_wp2_with fail
      refine (same_c A9 n9 c9 _ A6 n6 c6 gs w9 HS9.out HS6.out).mono ?_
      rw [sameR_cn]
      rintro e w10 ⟨rfl, hb⟩
      have HB := Lib.hid (HB.out.trans (hb.mono HB.out.size))
      clear hb HS9 HS6 HO5 HO6 HM9 HOKG
      go_wp2_with (at_builtin; refine wp_copy8 rfl (.tmp 73) (.tmp 74) rfl w10 rfl w.heap.size A0 n0 c0 bs rfl HN0.out (HR0.out.below HB.out) HB.out.size (by unfold big; omega) ?_; intro A11 c11 w11 ho11 hb11)
      have HO11 := Lib.hid ho11
      have HB := Lib.hid (HB.out.trans (hb11.mono HB.out.size)); clear ho11 hb11
      refine (scan_c A11 n0 c11 bs HN0.out HO11.out.cap (by omega) w11 HO11.out.rd).mono ?_
      rintro e w12 ⟨A12, n12, c12, m12, rs12, rfl, hsc, hsr, hb⟩
      have HSC := Lib.hid hsc; have HS12 := Lib.hid hsr
      have HB := Lib.hid (HB.out.trans (hb.mono HB.out.size))
      clear hsc hsr hb HO11
      have hn12 : Hid (n12 = rs12.length) := Lib.hid HS12.out.1
      have hm12 : m12 ≤ n0 := by
        obtain ⟨_, h2, s, h3, _⟩ := HSC.out
        have := congrArg List.length h3
        rw [List.length_append] at this
        have := HN0.out
        omega
      have HTB : Hid (bs.take m12 = flatR rs12) := Lib.hid (by
        obtain ⟨_, h2, s, h3, _⟩ := HSC.out
        rw [h2, h3, List.take_left])
      have HOK12 : Hid (∀ r ∈ rs12, Ok r) := Lib.hid (fun r hr => (HSC.out.1 r hr).1)
      have hn12b : 8 * n12 ≤ n0 := by
        have h2 := HSC.out.2.1
        have h3 : ∀ l : List R, (∀ r ∈ l, Ok r) → 8 * l.length ≤ (flatR l).length := by
          intro l
          induction l with
          | nil => intro _; simp
          | cons r l ih =>
            intro hl
            have h4 := ih (fun x hx => hl x (by simp [hx]))
            have h5 := bytes_len r (hl r (by simp)); have h6 := seal_small r (hl r (by simp))
            rw [flatR_cons, List.length_append, List.length_cons]
            omega
        have h7 := h3 rs12 HOK12.out
        have := hn12.out
        omega
      clear HSC
      go_wp2
      go_loopw [15, 82] (fun x15 x82 wq => ∃ (j : Nat) (A1 : Option Addr) (n1 c1 : Nat), x15 = .slice A1 n1 c1 ∧ x82 = .int .i64 (j : Int) ∧ j ≤ n12 ∧ n1 ≤ 60 * j ∧ Own wq w12.heap.size A1 n1 c1 (flatR (rs12.take j)) ∧ Below w12.heap.size w12 wq) (fun _ x82 _ => n12 - (intOf x82).toNat)
      case atStart => exact ⟨0, _, 0, 0, rfl, rfl, by omega, by omega, own_new w12 w12.heap.size [] (Nat.le_refl _) (by simp), bal (Below.refl _ _) (Nat.le_refl _) _⟩
      case round =>
        obtain ⟨j, A1, n1, c1, rfl, rfl, hj, h60, ho1, hb⟩ := hrel
        rename World => wq
        have HO1 := Lib.hid ho1; have HBQ := Lib.hid hb
        clear ho1 hb
        by_cases h2 : j < n12
        · obtain ⟨bb, o, rfl, hbB, hcell⟩ := HS12.out.2.2.2.2 (by rw [← hn12.out]; omega)
          have hkl : j < rs12.length := by rw [← hn12.out]; exact h2
          have hz : rs12[j]? = some rs12[j] := List.getElem?_eq_getElem hkl
          have hc0 : Rg.At KR wq bb (o + j * 11) rs12[j] := (hcell j rs12[j] hz).below HBQ.out hbB
          have HOKJ := Lib.hid (HOK12.out rs12[j] (List.getElem_mem hkl))
          generalize rs12[j] = r at hz hc0 HOKJ
          have HZ := Lib.hid hz
          obtain ⟨x0, x1, x2, x3, x4, x5, x6, x7, x8, x9, x10⟩ := elv_at hc0
          clear hz hcell hc0 hkl
          have HBY := Lib.hid (fun W => bytes_c r (ok_wf HOKJ.out) W)
          unfold rvv at HBY
          go_wp2_with fail
          clear x0 x1 x2 x3 x4 x5 x6 x7 x8 x9 x10
          have HO1 := Lib.hid (HO1.out.alloc (.cells #[.int .i64 r.kind, .int .i64 r.va, .int .i64 r.vd, .int .i64 r.cn, .int .i64 r.ca, .int .i64 r.cd, .int .i64 r.e.key, .int .i64 r.e.num, .int .i64 r.e.node, .float .f64 r.e.val, .int .i64 r.n] 40))
          have HBQ := Lib.hid (bal HBQ.out (Nat.le_refl _) (.cells #[.int .i64 r.kind, .int .i64 r.va, .int .i64 r.vd, .int .i64 r.cn, .int .i64 r.ca, .int .i64 r.cd, .int .i64 r.e.key, .int .i64 r.e.num, .int .i64 r.e.node, .float .f64 r.e.val, .int .i64 r.n] 40))
          generalize wq.alloc (.cells #[.int .i64 r.kind, .int .i64 r.va, .int .i64 r.vd, .int .i64 r.cn, .int .i64 r.ca, .int .i64 r.cd, .int .i64 r.e.key, .int .i64 r.e.num, .int .i64 r.e.node, .float .f64 r.e.val, .int .i64 r.n] 40) = w13 at HO1 HBQ ⊢
          refine (HBY.out _).mono ?_
          rintro e w14 ⟨hb2, h3⟩
          have HO1 := Lib.hid (HO1.out.below hb2 (Nat.le_refl _))
          have HBQ := Lib.hid (HBQ.out.trans (hb2.mono HBQ.out.size)); clear hb2
          rcases h3 with ⟨hrt, rfl⟩ | ⟨hrt, A2, n2, c2, rfl, ho2⟩
          · have := HOKJ.out.1; rw [hrt] at this; cases this
          · have HO2 := Lib.hid ho2
            have hn2 : n2 ≤ 60 := by have h1 := bytes_len r HOKJ.out; have h2 := seal_small r HOKJ.out; have h3 := ho2.1; omega
            clear hrt ho2
            go_wp2_with (at_builtin; refine wp_app8 rfl (.tmp 93) (.tmp 94) rfl w12.heap.size A1 n1 c1 _ rfl HO1.out w14.heap.size A2 n2 c2 (bytesR r) rfl HO2.out.1 HO2.out.rd (by unfold big; omega) HBQ.out.size ?_; intro A4 c4 w15 ho4 hb4)
            refine ⟨⟨j + 1, A4, n1 + n2, c4, rfl, by go_num, by omega, by omega, ?_, HBQ.out.trans hb4⟩, by simp [intOf]; omega⟩
            rw [take_snoc HZ.out, flatR_snoc]; exact ho4
        · obtain rfl : j = n12 := by omega
          have HT : Hid (rs12.take j = rs12) := Lib.hid (List.take_of_length_le (by rw [← hn12.out]; exact Nat.le_refl _))
          rw [HT.out, ← HTB.out] at HO1
          have HBE := Lib.hid (HB.out.trans (HBQ.out.mono HB.out.size))
          have HRB := Lib.hid (HR0.out.below HBE.out)
          have hsl := Dkw.run_head A0 n0 c0 m12 m12 .i64 rfl (by omega)
          have HK : Hid (∀ W', Below wq.heap.size wq W' → (convert 41 9 (.slice A1 n1 c1)).run Try.prog W' = .ok (.string (str (bs.take m12))) W' ∧ (convert 41 9 (.slice A0 m12 c0)).run Try.prog W' = .ok (.string (str (bs.take m12))) W') := Lib.hid (fun W' h => ⟨str8' c1 (HO1.out.rd.below h) HO1.out.1, str8' c0 (B := w.heap.size) (by rw [List.map_take]; exact (HRB.out.below (h.mono HBE.out.size)).take m12) (by rw [List.length_take, ← HN0.out]; omega)⟩)
          have hsm := Dkw.str_same (bs.take m12)
          generalize str (bs.take m12) = S at HK hsm
          have hle : (m12 : Int) ≤ (n0 : Int) := by omega
          go_upto_region 30 with (fail)
          refine wp_region_held_drew (S := fun W' => Below wq.heap.size wq W') (by kernel_rfl) (Below.refl _ _).drew (fun hHeld => ?_)
          generalize wq.drew = v1 at hHeld ⊢
          have HB1 : Hid (Below wq.heap.size wq v1) := hHeld
          clear hHeld
          refine take_in (i := 0) (oi := ⟨_, _, _, _, _, _⟩) (v := ?_) rfl (by kernel_rfl) (by kernel_rfl) (by kernel_rfl) (fun _ _ _ h => h) (by rfl) ?_ HB1.out ?_
          rotate_left
          · intro W hW; have hq := HK.out W hW; go_simp; with_reducible rfl
          simp only [Act.put, List.setIfInBounds_toArray, List.set_cons_zero, List.set_cons_succ]
          refine take_in (i := 1) (oi := ⟨_, _, _, _, _, _⟩) (v := ?_) rfl (by kernel_rfl) (by kernel_rfl) (by kernel_rfl) (fun _ _ _ h => h) (by rfl) ?_ HB1.out ?_
          rotate_left
          · intro W hW; have hq := HK.out W hW; go_simp; with_reducible rfl
          simp only [Act.put, List.setIfInBounds_toArray, List.set_cons_zero, List.set_cons_succ]
          refine take_in (i := 2) (oi := ⟨_, _, _, _, _, _⟩) (v := ?_) rfl (by kernel_rfl) (by kernel_rfl) (by kernel_rfl) (fun _ _ _ h => h) (by rfl) ?_ HB1.out ?_
          rotate_left
          · intro W hW; have hq := HK.out W hW; go_simp; with_reducible rfl
          simp only [Act.put, List.setIfInBounds_toArray, List.set_cons_zero, List.set_cons_succ]
          refine take_in (i := 3) (oi := ⟨_, _, _, _, _, _⟩) (v := ?_) rfl (by kernel_rfl) (by kernel_rfl) (by kernel_rfl) (fun _ _ _ h => h) (by rfl) ?_ HB1.out ?_
          rotate_left
          · intro W hW; have hq := HK.out W hW; go_simp; with_reducible rfl
          simp only [Act.put, List.setIfInBounds_toArray, List.set_cons_zero, List.set_cons_succ]
          refine take_in (i := 4) (oi := ⟨_, _, _, _, _, _⟩) (v := ?_) rfl (by kernel_rfl) (by kernel_rfl) (by kernel_rfl) (fun _ _ _ h => h) (by rfl) ?_ HB1.out ?_
          rotate_left
          · intro W hW; have hq := HK.out W hW; go_simp; with_reducible rfl
          simp only [Act.put, List.setIfInBounds_toArray, List.set_cons_zero, List.set_cons_succ]
          refine take_in (i := 5) (oi := ⟨_, _, _, _, _, _⟩) (v := ?_) rfl (by kernel_rfl) (by kernel_rfl) (by kernel_rfl) (fun _ _ _ h => h) (by rfl) ?_ HB1.out ?_
          rotate_left
          · intro W hW; have hq := HK.out W hW; go_simp; with_reducible rfl
          simp only [Act.put, List.setIfInBounds_toArray, List.set_cons_zero, List.set_cons_succ]
          refine take_in (i := 6) (oi := ⟨_, _, _, _, _, _⟩) (v := ?_) rfl (by kernel_rfl) (by kernel_rfl) (by kernel_rfl) (fun _ _ _ h => h) (by rfl) ?_ HB1.out ?_
          rotate_left
          · intro W hW; have hq := HK.out W hW; go_simp; with_reducible rfl
          simp only [Act.put, List.setIfInBounds_toArray, List.set_cons_zero, List.set_cons_succ]
          refine take_in (i := 7) (oi := ⟨_, _, _, _, _, _⟩) (v := ?_) rfl (by kernel_rfl) (by kernel_rfl) (by kernel_rfl) (fun _ _ _ h => h) (by rfl) ?_ HB1.out ?_
          rotate_left
          · intro W hW; have hq := HK.out W hW; go_simp; with_reducible rfl
          simp only [Act.put, List.setIfInBounds_toArray, List.set_cons_zero, List.set_cons_succ]
          refine take_in (i := 8) (oi := ⟨_, _, _, _, _, _⟩) (v := ?_) rfl (by kernel_rfl) (by kernel_rfl) (by kernel_rfl) (fun _ _ _ h => h) (by rfl) ?_ HB1.out ?_
          rotate_left
          · intro W hW; have hq := HK.out W hW; go_simp; with_reducible rfl
          simp only [Act.put, List.setIfInBounds_toArray, List.set_cons_zero, List.set_cons_succ]
          refine take_in (i := 9) (oi := ⟨_, _, _, _, _, _⟩) (v := ?_) rfl (by kernel_rfl) (by kernel_rfl) (by kernel_rfl) (fun _ _ _ h => h) (by rfl) ?_ HB1.out ?_
          rotate_left
          · intro W hW; have hq := HK.out W hW; go_simp; with_reducible rfl
          simp only [Act.put, List.setIfInBounds_toArray, List.set_cons_zero, List.set_cons_succ]
          refine take_in (i := 10) (oi := ⟨_, _, _, _, _, _⟩) (v := ?_) rfl (by kernel_rfl) (by kernel_rfl) (by kernel_rfl) (fun _ _ _ h => h) (by rfl) ?_ HB1.out ?_
          rotate_left
          · intro W hW; have hq := HK.out W hW; go_simp; with_reducible rfl
          simp only [Act.put, List.setIfInBounds_toArray, List.set_cons_zero, List.set_cons_succ]
          refine take_in (i := 11) (oi := ⟨_, _, _, _, _, _⟩) (v := ?_) rfl (by kernel_rfl) (by kernel_rfl) (by kernel_rfl) (fun _ _ _ h => h) (by rfl) ?_ HB1.out ?_
          rotate_left
          · intro W hW; have hq := HK.out W hW; go_simp; with_reducible rfl
          simp only [Act.put, List.setIfInBounds_toArray, List.set_cons_zero, List.set_cons_succ]
          refine take_in (i := 12) (oi := ⟨_, _, _, _, _, _⟩) (v := ?_) rfl (by kernel_rfl) (by kernel_rfl) (by kernel_rfl) (fun _ _ _ h => h) (by rfl) ?_ HB1.out ?_
          rotate_left
          · intro W hW; have hq := HK.out W hW; go_simp; with_reducible rfl
          simp only [Act.put, List.setIfInBounds_toArray, List.set_cons_zero, List.set_cons_succ]
          refine take_in (i := 13) (oi := ⟨_, _, _, _, _, _⟩) (v := ?_) rfl (by kernel_rfl) (by kernel_rfl) (by kernel_rfl) (fun _ _ _ h => h) (by rfl) ?_ HB1.out ?_
          rotate_left
          · intro W hW; have hq := HK.out W hW; go_simp; with_reducible rfl
          simp only [Act.put, List.setIfInBounds_toArray, List.set_cons_zero, List.set_cons_succ]
          refine wpAnyH_done (by kernel_rfl) ?_ _
          go_wp2
          go_ret
          exact ⟨rfl, HBE.out.trans (HB1.out.mono HBE.out.size)⟩
end Go.Proofs.Ytjcbdnbbdhjoiaa.logBack

namespace Go.Proofs.Ytjcbdnbbdhjoiaa
open Go.ChangeShapes Go.WideShapes Go.ChangeAt Go.RowKit

theorem logBack_own : ownKnob Try.prog.godebug = none := by kernel_rfl
theorem logBack_laid : laidOutB Try.prog = true := by kernel_rfl
theorem logBack_cells5 : Try.prog.cellsOf 5 = 1 := by kernel_rfl
theorem logBack_bytes5 : Try.prog.bytesOf 5 = 1 := by kernel_rfl

set_option maxRecDepth 100000 in
theorem logBack_lifted (os : Os) (started : os.Started) (H : Type) (enc : TypeId × Value → H) (F : Stop.Interp) :
    ReturnsInHanded {} Try.checked os 7 .any ((Rows.OpenSpec.upto Rows.logBackSpec).pre6 enc Try.prog Try.f7 Rows.logBackUptoRow.domain false) (((Rows.OpenSpec.upto Rows.logBackSpec).at F).post enc Try.prog Try.f7 false true false false) := by
  refine returnsInHanded_of_cond (C := Try.checked) (s := Rows.OpenSpec.upto Rows.logBackSpec) (k := Rows.uptoSmall) rfl logBack_own started (by kernel_rfl) Try.func7
    (OpenSpec.witness (enc := enc) (C := Try.checked) (s := Rows.OpenSpec.upto Rows.logBackSpec) (k := Rows.uptoSmall) rfl false ⟨#[], #[.slice none 0 0, .slice none 0 0], []⟩ 8 (by kernel_rfl) (by kernel_rfl) (by kernel_rfl)
      (x := ([.nil, .nil], [], [])) (by kernel_rfl) rfl (by kernel_rfl)) ?_
  intro W base args ds gs before hval0 hW _ hk _
  have hval : ∀ (j : Nat) t v, Try.f7.params[j]? = some t → args[j]? = some v → Value.okWide Try.prog W .any base t v := hval0
  have hW' := hW
  obtain ⟨p, q, hA0, hV, rfl, hfz, hnd⟩ := hW
  have hA : DataW.TrodAll enc Try.prog W 0 (fun _ => true) true Try.f7.params.toList args.toList ds p := hA0
  rw [Try.params7] at hA hval
  obtain ⟨v0, vs0, d0, ds0, p0, q0, hargs, rfl, rfl, h0, r0⟩ := trodAll_cons hA
  obtain ⟨v1, vs1, d1, ds1, p1, q1, rfl, rfl, rfl, h1, r1⟩ := trodAll_cons r0
  obtain ⟨rfl, rfl, rfl⟩ := trodAll_nil r1
  obtain rfl : args = #[v0, v1] := by cases args; simp_all
  obtain ⟨rfl, rfl⟩ := trodVars_none hV
  clear hA0 hval0
  simp only [List.append_nil] at hW' hk
  have hk0 := h0
  have hlt0 : ∀ x ∈ p0, x.block < W.heap.size := (fun x hx => by have := hW'.lt x (by simp [hx]); simpa using this)
  obtain ⟨A0, n0, c0, l0, rfl, hn0, hc0, hr0, hw0, hd0⟩ := open_recs Try.underlying22 (hval 0 22 v0 rfl rfl) h0 hlt0
  have hb0 := upto_places hk (j := 0) rfl hd0
  have hk1 := h1
  have hlt1 : ∀ x ∈ p1, x.block < W.heap.size := (fun x hx => by have := hW'.lt x (by simp [hx]); simpa using this)
  obtain ⟨A1, n1, c1, l1, rfl, hn1, hc1, hr1, hd1⟩ := open_u8 Try.underlying41 Try.underlying5 logBack_cells5 (hval 1 41 v1 rfl rfl) h1 hlt1
  have hb1 := upto_places hk (j := 1) rfl hd1
  refine (logBack.walk W A0 n0 c0 l0 ⟨hn0, hc0, by omega, fun r hr => (hw0 r hr).2.2.2, hr0⟩ hw0 A1 n1 c1 l1 hn1 hc1 hr1 hb1).mono fun e W' ⟨he, hb⟩ => ?_
  subst he
  exact ⟨_, rfl, _, _, _, [], _, [], hW', trodAll_cons_mk (shut_bool Try.underlying4 _) trodAll_mk0, (trodAll_cons_mk (Below.trod logBack_laid (by kernel_rfl) (of_decide_eq_true (by kernel_rfl)) hk0 hb hlt0) (trodAll_cons_mk (Below.trod logBack_laid (by kernel_rfl) (of_decide_eq_true (by kernel_rfl)) hk1 hb hlt1) trodAll_mk0)), rfl, hb.frame _, fun h => by cases h⟩

theorem logBack_proved : Rows.LogBackUptoSaid :=
  OpenClaim.holds_of_cond 7 Try.f7 rfl rfl rfl rfl rfl rfl rfl ⟨rfl, rfl, rfl, rfl, rfl⟩ rfl rfl rfl rfl rfl (by kernel_rfl) Try.func7 (by kernel_rfl)
    (of_decide_eq_true (by kernel_rfl)) (by unfold Func.isWrapper; first | (rw [if_pos (by decide +kernel)]; kernel_rfl) | (rw [if_neg (by decide +kernel)]; exact ⟨rfl, rfl⟩))
    (fun os started H enc _ F => logBack_lifted os started H enc F)
#print axioms logBack_proved
end Go.Proofs.Ytjcbdnbbdhjoiaa
