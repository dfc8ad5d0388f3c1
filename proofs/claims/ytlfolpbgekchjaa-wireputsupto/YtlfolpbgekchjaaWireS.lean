/- What the document's own Get, Gets, Cut and SameNums of layer 2 answer. -/
import Derived.Test.YtlfolpbgekchjaaWireR
namespace Go.Proofs.Ytlfolpbgekchjaa
open Go.RowKit
open Wire

theorem str_beq (a b : List UInt8) : ((str a).toList == (str b).toList) = decide (a = b) := by
  rw [str_toList, str_toList, Bool.eq_iff_iff, beq_iff_eq, decide_eq_true_iff]

theorem mul_byte (a : Nat) (x : UInt8) (h : a < 256 ^ 7) : IntKind.u64.wrap (IntKind.u64.wrap ((a : Int) * 256) + IntKind.u64.wrap (x.toNat : Int)) = ((a * 256 + x.toNat : Nat) : Int) := by
  have hx := UInt8.toNat_lt x
  rw [wrap_u64 ((a : Int) * 256) (by omega) (by omega), wrap_u64 (x.toNat : Int) (by omega) (by omega), wrap_u64 _ (by omega) (by omega)]
  omega

theorem get_r (A : Option Addr) (n c : Nat) (bs : List UInt8) (hn : n = bs.length) (hc : n ≤ c) (B : Nat) (w : World) (hr : Rd w B A (bs.map B8)) (hB : B ≤ w.heap.size) (hl : n ≤ big) :
    Calls Try.prog 16 #[.slice A n c] w (RetGet w (takeF bs)) := by
  have hl47 : n ≤ 140737488355328 := hl
  cases bs with
  | nil =>
    subst hn
    have HR := Lib.hid hr; clear hr
    have ht : takeF [] = none := rfl
    rw [ht]
    clear ht
    go_enter Try.func16, Try.ntmps16
    go_wp2
    go_ret3
    exact ⟨Below.refl _ _, rfl⟩
  | cons s l =>
    obtain ⟨b, o, rfl, hb, hc0⟩ := hr.head
    have HR := Lib.hid hr; clear hr
    have hn1 : 1 ≤ n := by rw [hn]; simp
    have HN := Lib.hid hn; clear hn
    have hne : ((n : Int) == 0) = false := by rw [beq_eq_false_iff_ne]; omega
    by_cases h8 : 8 < s.toNat
    · have ht : takeF (s :: l) = none := by rw [takeF_cons, if_pos (Or.inl h8)]
      rw [ht]
      clear ht
      go_enter Try.func16, Try.ntmps16
      go_wp2
      go_ret3
      exact ⟨Below.refl _ _, rfl⟩
    · have h8' : (s.toNat : Int) ≤ 8 := by omega
      have hd8 : decide (8 < (s.toNat : Int)) = false := by simp; omega
      have hln := HN.out
      rw [List.length_cons] at hln
      by_cases hlen : l.length < s.toNat
      · have ht : takeF (s :: l) = none := by rw [takeF_cons, if_pos (Or.inr (Or.inl hlen))]
        rw [ht]
        clear ht
        have hlt : (n : Int) - 1 < (s.toNat : Int) := by omega
        clear hln
        go_enter Try.func16, Try.ntmps16
        go_wp2
        go_ret3
        exact ⟨Below.refl _ _, rfl⟩
      · have hlt : ¬ (n : Int) - 1 < (s.toNat : Int) := by omega
        have hdl : decide ((n : Int) - 1 < (s.toNat : Int)) = false := by simp; omega
        have hsn : s.toNat + 1 ≤ n := by omega
        clear hln
        go_enter Try.func16, Try.ntmps16
        go_wp2
        go_loop [5, 6] (fun a i => ∃ j : Nat, 1 ≤ j ∧ j ≤ s.toNat + 1 ∧ i = .int .i64 j ∧ a = .int .u64 (val (l.take (j - 1)))) (fun _ i => s.toNat + 1 - (intOf i).toNat)
        case atStart => exact ⟨1, by omega, by omega, rfl, rfl⟩
        case round =>
          obtain ⟨j, hj1, hj2, rfl, rfl⟩ := hrel
          by_cases hlt2 : j ≤ s.toNat
          · obtain ⟨b', o', he, _, hcell⟩ := HR.out (by simp)
            injection he with he
            injection he with e1 e2
            subst e1
            subst e2
            have hjl : j < (s :: l).length := by rw [← HN.out]; omega
            have hx : (s :: l)[j]? = some (s :: l)[j] := List.getElem?_eq_getElem hjl
            have hcx := hcell j (B8 (s :: l)[j]) (by rw [List.getElem?_map, hx]; rfl)
            clear hcell
            generalize (s :: l)[j] = y at hx hcx
            have hcy : w.cell? ⟨b, o + j, none⟩ = some (.int .u8 (y.toNat : Int)) := hcx
            clear hcx
            have hx' : l[j - 1]? = some y := by rw [show j = (j - 1) + 1 by omega, List.getElem?_cons_succ] at hx; exact hx
            have HX := Lib.hid hx'; clear hx hx' hjl
            have hv7 : val (l.take (j - 1)) < 256 ^ 7 := Nat.lt_of_lt_of_le (val_lt _) (Nat.pow_le_pow_right (by omega) (by rw [List.length_take]; omega))
            have HV7 := Lib.hid hv7; clear hv7
            generalize hv : val (l.take (j - 1)) = v0 at HV7
            have HV := Lib.hid hv; clear hv
            have hjn : j < n := by omega
            go_wp2
            have hst : val (l.take (j + 1 - 1)) = v0 * 256 + y.toNat := by rw [show j + 1 - 1 = j - 1 + 1 by omega, List.take_add_one, HX.out, Option.toList_some, val_snoc, HV.out]
            exact ⟨⟨j + 1, by omega, by omega, by go_num, by rw [mul_byte _ _ HV7.out, hst]⟩, by simp [intOf]; omega⟩
          · obtain rfl : j = s.toNat + 1 := by omega
            have hlt3 : s.toNat ≤ l.length := by omega
            have hv8 : (l.take s.toNat).length ≤ 8 := by rw [List.length_take]; omega
            have hsz := sz_val_le _ hv8
            have HV := Lib.hid (val_w64 _ hv8)
            have HY := Lib.hid (fun h => ref_yes (bs := s :: l) (val_w64 _ hv8) h)
            have HNO := Lib.hid (ref_no (s := s) (l := l))
            rw [List.length_take] at hsz
            generalize hg : val (l.take s.toNat) = v at hsz HV HY HNO
            rw [show s.toNat + 1 - 1 = s.toNat by omega, hg]
            clear hg hv8
            have hfl := form_len v
            have hf9 : (form v).length ≤ s.toNat + 1 := by omega
            clear hfl hsz
            go_wp2_with fail
            refine (form_r v _ HV.out).mono ?_
            rintro e w1 ⟨A1, n1, c1, rfl, ho1, hb1⟩
            have hn1f : n1 = (form v).length := ho1.1
            have hn1n : n1 ≤ n := by omega
            have HF := Lib.hid hn1f; clear hn1f
            obtain ⟨A2, hs2, hr2⟩ := run_upto Try.underlying23 size8 (some ⟨b, o, none⟩) n c n1 (n1 : Int) .i64 rfl (by omega)
            have HR2 : Hid (Rd w1 B A2 (((s :: l).take n1).map B8)) := by rw [List.map_take]; exact hr2 w1 B _ ((HR.out.below (hb1.mono hB)).take n1)
            clear hr2
            obtain ⟨A3, hs3, hr3⟩ := run_from Try.underlying23 size8 (some ⟨b, o, none⟩) n c n1 (n1 : Int) .i64 rfl hn1n hc
            have HR3 : Hid (Rd w1 B A3 (((s :: l).drop n1).map B8)) := by rw [List.map_drop]; exact hr3 w1 B _ (by have := HN.out; simpa using this.symm) (HR.out.below (hb1.mono hB))
            clear hr3
            have hcv1 := fun q => run_str (P := Try.prog) (c := c1) Try.underlying23 Try.underlying5 Try.underlying9 (ho1.rd.drewN q) ho1.1
            have hcv2 := fun q => run_str (P := Try.prog) (c := c) (n := n1) Try.underlying23 Try.underlying5 Try.underlying9 (HR2.out.drewN q) (by rw [List.length_take, ← HN.out]; omega)
            have HO1 := Lib.hid ho1; clear ho1
            have HB1 := Lib.hid hb1; clear hb1
            by_cases heq : form v = (s :: l).take n1
            · have hsq : ((str (form v)).toList == (str ((s :: l).take n1)).toList) = true := by rw [str_beq, decide_eq_true heq]
              have hy := HY.out (by rw [← HF.out]; exact heq)
              rw [← HF.out] at hy
              have HY' := Lib.hid hy; clear hy
              have hnb : n - n1 ≤ big := by omega
              have hbs : w.heap.size ≤ w1.heap.size := HB1.out.size
              have HL : Hid (n - n1 = ((s :: l).drop n1).length) := by show _ = _; rw [List.length_drop, ← HN.out]
              clear heq
              go_wp2
              go_quiet (fail)
              go_wp2_with (at_builtin; refine wp_app8 rfl (.tmp 54) (.tmp 58) rfl w.heap.size (some ⟨w1.heap.size, 0, none⟩) 0 0 [] rfl (own_new w1 _ [] hbs (by simp)) B A3 (n - n1) (c - n1) ((s :: l).drop n1) rfl HL.out ((HR3.out.below ((Below.refl _ _).alloc (by omega) _)).drewN _) (by omega) (by simp; omega) ?_; intro A4 c4 w4 ho4 hb4)
              go_ret3
              rw [HY'.out]
              exact ⟨((HB1.out.alloc hbs _).trans (below_drewN _ _ _)).trans hb4, A4, _, c4, rfl, by simpa using ho4⟩
            · have hsq : ((str (form v)).toList == (str ((s :: l).take n1)).toList) = false := by rw [str_beq, decide_eq_false heq]
              have hnn := HNO.out (by rw [← HF.out]; exact heq)
              have HNN := Lib.hid hnn
              clear hnn heq
              go_wp2
              go_quiet (fail)
              go_wp2
              go_ret3
              rw [HNN.out]
              exact ⟨HB1.out.trans (below_drewN _ _ _), rfl⟩

def sliceLen : Value → Nat | .slice _ n _ => n | _ => 0
theorem OwnN.keep {w w' : World} {base B : Nat} {A : Option Addr} {n c : Nat} {ns : List Nat} (h : OwnN w base A n c ns) (hb : Below B w w') (hB : ∀ b o, A = some ⟨b, o, none⟩ → b < B) : OwnN w' base A n c ns := by
  refine ⟨h.1, h.2.1, ?_⟩
  rcases h.2.2 with h0 | ⟨g, cap, cur, hv, hg, hh, r⟩
  · exact .inl h0
  · refine .inr ⟨g, cap, cur, hv, hg, ?_, r⟩
    injection hv with e1
    rw [hb.block g (hB g 0 e1)]
    exact hh

theorem gets_rout (A : Option Addr) (n c : Nat) (many : Int) (bs : List UInt8) (w : World) (h : many < 0 ∨ 100 < many) :
    Calls Try.prog 18 #[.slice A n c, .int .i64 many] w (RetGets w (getsI many bs)) := by
  have hg : getsI many bs = none := if_pos h
  rw [hg]
  clear hg
  rcases h with h | h
  · go_enter Try.func18, Try.ntmps18
    go_wp2
    go_ret3
    exact ⟨Below.refl _ _, rfl⟩
  · have h' : ¬ many < 0 := by omega
    go_enter Try.func18, Try.ntmps18
    go_wp2
    go_ret3
    exact ⟨Below.refl _ _, rfl⟩

theorem gets_rin (A : Option Addr) (n c m : Nat) (bs : List UInt8) (hn : n = bs.length) (B : Nat) (w : World) (hr : Rd w B A (bs.map B8)) (hB : B ≤ w.heap.size) (hl : n ≤ big) (hm : m ≤ 100) :
    Calls Try.prog 18 #[.slice A n c, .int .i64 m] w (RetGets w (getsF m bs)) := by
  have HR := Lib.hid hr; clear hr
  have HN := Lib.hid hn; clear hn
  have hmz : ¬ (m : Int) < 0 := by omega
  have hmh : ¬ 100 < (m : Int) := by omega
  go_enter Try.func18, Try.ntmps18
  go_wp2_with (at_builtin; refine wp_app8 rfl (.tmp 19) (.tmp 20) rfl (w.heap.size + 1) (some ⟨w.heap.size + 1, 0, none⟩) 0 0 [] rfl (own_at (w.alloc (.cells #[] 22)) _ _ [] (by simp) (by simp) (by simp)) B A n c bs rfl HN.out (HR.out.below (((Below.refl _ _).alloc hB _).alloc (by simp; omega) _)) (by omega) (by simp) ?_; intro A0 c0 w0 ho0 hb0)
  have HO0 : Hid (OwnN w0 w.heap.size (some ⟨w.heap.size, 0, none⟩) 0 0 []) :=
    (OwnN.alloc (ownN_new w w.heap.size [] (Nat.le_refl _) (by simp)) (.cells #[] 5)).keep hb0 (by simp)
  have HB0 : Hid (Below w.heap.size w w0) := (((Below.refl _ _).alloc (Nat.le_refl _) _).alloc (by simp) _).trans (hb0.mono (by omega))
  have HP0 := Lib.hid (ho0.base (Nat.le_succ _)); clear ho0 hb0
  go_loopw [7, 8] (fun v s wr => ∃ (A1 : Option Addr) (n1 c1 : Nat) (ns : List Nat) (A2 : Option Addr) (n2 c2 : Nat) (rs : List UInt8), v = .slice A1 n1 c1 ∧ s = .slice A2 n2 c2 ∧ n1 ≤ m ∧ n2 ≤ n ∧
      OwnN wr w.heap.size A1 n1 c1 ns ∧ Own wr w.heap.size A2 n2 c2 rs ∧ (getsF m bs = (getsF (m - n1) rs).map fun y => (ns ++ y.1, y.2)) ∧ Below w.heap.size w wr)
    (fun v _ _ => m - sliceLen v)
  case atStart => exact ⟨_, 0, 0, [], A0, _, c0, bs, rfl, rfl, Nat.zero_le _, by omega, HO0.out, by simpa using HP0.out, by simp, HB0.out⟩
  case round =>
    obtain ⟨A1, n1, c1, ns, A2, n2, c2, rs, rfl, rfl, hk, hn2n, ho, hp, hg, hb⟩ := hrel
    have HO := Lib.hid ho; clear ho
    have hc2 := hp.cap
    have HP := Lib.hid hp; clear hp
    have HG := Lib.hid hg; clear hg
    have hbw := hb.size
    have HB := Lib.hid hb; clear hb
    by_cases hlt : n1 < m
    · cases ht : takeF rs with
      | none =>
        have hgn : getsF m bs = none := by rw [HG.out, show m - n1 = (m - n1 - 1) + 1 by omega, getsF, ht]; rfl
        have HGN := Lib.hid hgn; clear hgn
        have HT := Lib.hid ht; clear ht
        go_wp2_with fail
        refine (get_r _ _ _ rs HP.out.1 hc2 _ _ HP.out.rd (Nat.le_refl _) (by omega)).mono ?_
        rintro e w1 ⟨hb1, h1⟩
        rw [HT.out] at h1
        have h1' : e = .returned (.tuple #[.int .u64 0, .slice none 0 0, .int .i64 21]) := h1
        clear h1
        subst h1'
        have HB1 := Lib.hid hb1; clear hb1
        go_wp2
        go_ret3
        rw [HGN.out]
        exact ⟨HB.out.trans (HB1.out.mono hbw), rfl⟩
      | some x =>
        obtain ⟨v, r⟩ := x
        have hgs := getsF_step m n1 bs rs ns v r hlt ht HG.out
        have HGS := Lib.hid hgs; clear hgs
        have hrl := takeF_len ht
        have hr3 : r.length ≤ n := by have := HP.out.1; omega
        clear hrl
        have HT := Lib.hid ht; clear ht
        have h8 : (n1 + 1) * 8 ≤ big := by unfold big; omega
        go_wp2_with fail
        refine (get_r _ _ _ rs HP.out.1 hc2 _ _ HP.out.rd (Nat.le_refl _) (by omega)).mono ?_
        rintro e w1 ⟨hb1, h1⟩
        rw [HT.out] at h1
        obtain ⟨A3, n3, c3, h1', ho3⟩ := h1
        subst h1'
        have hbw1 : w.heap.size ≤ w1.heap.size := Nat.le_trans hbw hb1.size
        have HB1 := Lib.hid hb1; clear hb1
        have HO3 := Lib.hid ho3; clear ho3
        go_wp2_with (at_builtin; refine wp_app64 rfl (.tmp 34) (.tmp 36) rfl w.heap.size A1 n1 c1 ns rfl ((HO.out.below HB1.out (Nat.le_refl _)).alloc _) _ _ 1 1 [v] rfl rfl (rd_num _ _ _ rfl) (by omega) (by simp; omega) ?_; intro A4 c4 w4 ho4 hb4 hg4)
        have ho5 : Own w4 w.heap.size A3 n3 c3 r := ⟨HO3.out.1, own_other (own_base (HO3.out.alloc _).2 hbw) ((HO.out.below HB1.out (Nat.le_refl _)).alloc _).2 (by decide) hg4⟩
        have hb5 := (((HB.out.trans (HB1.out.mono hbw))).alloc hbw1 _).trans hb4
        exact ⟨⟨A4, n1 + 1, c4, ns ++ [v], A3, n3, c3, r, rfl, rfl, by omega, by have := HO3.out.1; omega, ho4, ho5, HGS.out, hb5⟩, by simp [sliceLen]; omega⟩
    · go_wp2
      go_ret3
      obtain rfl : n1 = m := by omega
      have hg := HG.out
      rw [Nat.sub_self] at hg
      simp only [getsF, Option.map_some, List.append_nil] at hg
      rw [hg]
      exact ⟨HB.out, A1, n1, c1, A2, n2, c2, rfl, HO.out, HP.out⟩
end Go.Proofs.Ytlfolpbgekchjaa
