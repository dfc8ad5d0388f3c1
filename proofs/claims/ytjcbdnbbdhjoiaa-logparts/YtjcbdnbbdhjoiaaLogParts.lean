/- LogParts: records that are added at once, or one by one, lie the same; none are there if one of them can't be, or has no room. Conditions: none. -/
import Derived.Test.YtjcbdnbbdhjoiaaRows
import Derived.Test.YtjcbdnbbdhjoiaaG16
import Derived.Test.YtjcbdnbbdhjoiaaG17
import Derived.WalkKit
import Derived.ProofKit
import Derived.OpenShut
import Derived.Laws.Cover2
import Derived.SizedLaws
import Derived.JoinedCond
import Derived.Carry
set_option linter.unusedSimpArgs false
set_option linter.unusedVariables false
namespace Go.Proofs.Ytjcbdnbbdhjoiaa.logParts
set_option maxRecDepth 20000
open Go.RowKit
open Bk Lg Wire Lgw
open Dk
open Tgw (hat hbe)
open Rg (bal)
open Dkw (Dd RetK Gw)

set_option maxRecDepth 100000 in
set_option maxHeartbeats 4000000 in
theorem walk (w : World) (A : Option Addr) (n c : Nat) (rs : List R) (hs : Sr w A n c rs) (hwf : ∀ r ∈ rs, WfE r.e) (room : Int) (w1 : (Lit.int .i64 room).wf = true) :
    Calls Try.prog 9 #[.slice A n c, .int .i64 room] w fun e w' => e = .returned (.bool true) ∧ Below w.heap.size w w' := by
  have HI : Hid (Dkw.I64 room) := Lib.hid (by have := wf_i64 w1; exact this)
  have HS := Lib.hid hs; have HW := Lib.hid hwf
  have hn : Hid (n = rs.length) := Lib.hid hs.1
  have hsf := store_flt
  clear hs hwf w1
  go_enter Try.func9, Try.ntmps9
  go_wp2_with fail
  refine (log_alive_c _).mono ?_
  rintro e w2 ⟨rfl, hb⟩
  have HB := Lib.hid hb; clear hb
  by_cases h30 : 30 < n
  · go_wp2
    go_ret
    exact ⟨rfl, HB.out⟩
  have hn30 : n ≤ 30 := by omega
  go_wp2_with fail
  refine (Dkw.new_c room HI.out _).mono ?_
  rintro e w3 ⟨p, F, rfl, hd, hF, hb⟩
  obtain ⟨a, rfl⟩ := hd.ptr
  have HDA := Lib.hid hd; have HFA : Hid (∀ k, F k → w.heap.size ≤ k) := Lib.hid (fun k hk => Nat.le_trans HB.out.size (hF k hk))
  have HB := Lib.hid (HB.out.trans (hb.mono HB.out.size))
  clear hd hF hb
  go_wp2_with fail
  refine (Dkw.new_c 60000 (Dkw.i64_small _ (by omega)) _).mono ?_
  rintro e w4 ⟨q, G, rfl, hd, hF, hb⟩
  obtain ⟨b, rfl⟩ := hd.ptr
  have HJ : Hid (∀ k, G k → ¬ F k) := Lib.hid (fun k hk hf => by have h1 := hF k hk; have h2 := HDA.out.lt k hf; omega)
  have HDA := Lib.hid (HDA.out.all hb)
  have HDB : Hid (Dd w4 G (.pointer (some b)) (holdD [])) := Lib.hid hd
  have HFB : Hid (∀ k, G k → w.heap.size ≤ k) := Lib.hid (fun k hk => Nat.le_trans HB.out.size (hF k hk))
  have HB := Lib.hid (HB.out.trans (hb.mono HB.out.size))
  clear hd hF hb
  have HSW : Hid (∀ W, Below w.heap.size w W → Sr W A n c rs) := Lib.hid (fun W h => HS.out.all h)
  have HS4 := Lib.hid (HSW.out w4 HB.out)
  go_wp2_with fail
  refine (add_c _ _ A n c rs HW.out F _ HDA.out HS4.out).mono ?_
  rintro e w5 ⟨F2, rfl, hd, hg⟩
  have hod := other_disk HDB.out hg HJ.out
  have hg2 := hg.below HB.out.size HFA.out
  have HDA := Lib.hid hd; have HFA := Lib.hid hg2.2; have HB := Lib.hid (HB.out.trans hg2.1)
  have HDB := Lib.hid hod.1; have HJ := Lib.hid hod.2
  clear hd hg hg2 hod HS4
  have HBADE : Hid (∀ (k : Nat) r, rs[k]? = some r → rightR r = false → addE (newD room) rs = 91 ∧ addD (newD room) rs = newD room) := Lib.hid (fun k r h1 h2 => add_bad h1 h2)
  have HGOODE : Hid ((∀ r ∈ rs, rightR r = true) → (0 < (flatR rs).length ∧ clampR room < (flatR rs).length → addE (newD room) rs = 81 ∧ addD (newD room) rs = newD room) ∧ (¬ (0 < (flatR rs).length ∧ clampR room < (flatR rs).length) → addE (newD room) rs = 0 ∧ addD (newD room) rs = ⟨flatR rs, (flatR rs).length, clampR room, -1, false⟩)) := Lib.hid (new_add room rs)
  generalize addE (newD room) rs = ea at HBADE HGOODE ⊢
  generalize addD (newD room) rs = da at HBADE HGOODE HDA
  go_wp2
  go_loopw [23] (fun x23 wr => ∃ (k : Nat) (G : Nat → Prop), x23 = .int .i64 (k : Int) ∧ k ≤ n ∧ (∀ r ∈ rs.take k, rightR r = true) ∧ Dd wr F2 (.pointer (some a)) da ∧ Dd wr G (.pointer (some b)) (holdD (rs.take k)) ∧ (∀ k, F2 k → ¬ G k) ∧ (∀ k, G k → w.heap.size ≤ k) ∧ Below w.heap.size w wr) (fun x23 _ => n - (intOf x23).toNat)
  case atStart => exact ⟨0, G, rfl, by omega, by simp, HDA.out, HDB.out, fun k h1 h2 => HJ.out k h2 h1, HFB.out, HB.out⟩
  case round =>
    obtain ⟨k, G2, rfl, hk, hok, hda, hdb, hj, hfb, hb⟩ := hrel
    clear HDA HDB HJ HFB HB
    have HOK := Lib.hid hok; have HDA := Lib.hid hda; have HDB := Lib.hid hdb; have HJ := Lib.hid hj; have HFB := Lib.hid hfb; have HB := Lib.hid hb
    clear hok hda hdb hj hfb hb
    by_cases h : k < n
    · obtain ⟨bb, o, rfl, hbB, hcell⟩ := HS.out.2.2.2.2 (by rw [← hn.out]; omega)
      have hkl : k < rs.length := by rw [← hn.out]; exact h
      have hz : rs[k]? = some rs[k] := List.getElem?_eq_getElem hkl
      have hc0 : Rg.At KR wr bb (o + k * 11) rs[k] := (hcell k rs[k] hz).below HB.out hbB
      have HWF := Lib.hid (HW.out rs[k] (List.getElem_mem hkl))
      generalize rs[k] = r at hz hc0 HWF
      have HZ := Lib.hid hz
      obtain ⟨x0, x1, x2, x3, x4, x5, x6, x7, x8, x9, x10⟩ := elv_at hc0
      clear hz hcell hc0 hkl
      go_wp2_with fail
      clear x0 x1 x2 x3 x4 x5 x6 x7 x8 x9 x10
      have HS1 := Lib.hid (sr_one (wr.alloc (.cells #[.int .i64 r.kind, .int .i64 r.va, .int .i64 r.vd, .int .i64 r.cn, .int .i64 r.ca, .int .i64 r.cd, .int .i64 r.e.key, .int .i64 r.e.num, .int .i64 r.e.node, .float .f64 r.e.val, .int .i64 r.n] 40)) r HWF.out.2.2.2)
      have HD1 := Lib.hid (HDB.out.all (bal (bal (Below.refl wr.heap.size wr) (Nat.le_refl _) (.cells #[.int .i64 r.kind, .int .i64 r.va, .int .i64 r.vd, .int .i64 r.cn, .int .i64 r.ca, .int .i64 r.cd, .int .i64 r.e.key, .int .i64 r.e.num, .int .i64 r.e.node, .float .f64 r.e.val, .int .i64 r.n] 40)) (Nat.le_refl _) (.cells #[.int .i64 r.kind, .int .i64 r.va, .int .i64 r.vd, .int .i64 r.cn, .int .i64 r.ca, .int .i64 r.cd, .int .i64 r.e.key, .int .i64 r.e.num, .int .i64 r.e.node, .float .f64 r.e.val, .int .i64 r.n] 40)))
      have HDA := Lib.hid (HDA.out.all (bal (bal (Below.refl wr.heap.size wr) (Nat.le_refl _) (.cells #[.int .i64 r.kind, .int .i64 r.va, .int .i64 r.vd, .int .i64 r.cn, .int .i64 r.ca, .int .i64 r.cd, .int .i64 r.e.key, .int .i64 r.e.num, .int .i64 r.e.node, .float .f64 r.e.val, .int .i64 r.n] 40)) (Nat.le_refl _) (.cells #[.int .i64 r.kind, .int .i64 r.va, .int .i64 r.vd, .int .i64 r.cn, .int .i64 r.ca, .int .i64 r.cd, .int .i64 r.e.key, .int .i64 r.e.num, .int .i64 r.e.node, .float .f64 r.e.val, .int .i64 r.n] 40)))
      have HB := Lib.hid (bal (bal HB.out (Nat.le_refl _) (.cells #[.int .i64 r.kind, .int .i64 r.va, .int .i64 r.vd, .int .i64 r.cn, .int .i64 r.ca, .int .i64 r.cd, .int .i64 r.e.key, .int .i64 r.e.num, .int .i64 r.e.node, .float .f64 r.e.val, .int .i64 r.n] 40)) (Nat.le_refl _) (.cells #[.int .i64 r.kind, .int .i64 r.va, .int .i64 r.vd, .int .i64 r.cn, .int .i64 r.ca, .int .i64 r.cd, .int .i64 r.e.key, .int .i64 r.e.num, .int .i64 r.e.node, .float .f64 r.e.val, .int .i64 r.n] 40))
      rw [World.size_alloc] at HS1
      generalize (wr.alloc (.cells #[.int .i64 r.kind, .int .i64 r.va, .int .i64 r.vd, .int .i64 r.cn, .int .i64 r.ca, .int .i64 r.cd, .int .i64 r.e.key, .int .i64 r.e.num, .int .i64 r.e.node, .float .f64 r.e.val, .int .i64 r.n] 40)).alloc (.cells #[.int .i64 r.kind, .int .i64 r.va, .int .i64 r.vd, .int .i64 r.cn, .int .i64 r.ca, .int .i64 r.cd, .int .i64 r.e.key, .int .i64 r.e.num, .int .i64 r.e.node, .float .f64 r.e.val, .int .i64 r.n] 40) = w6 at HS1 HD1 HDA HB ⊢
      refine (add_c _ _ _ 1 1 [r] (wfs_one HWF.out) G2 _ HD1.out HS1.out).mono ?_
      rintro e w7 ⟨G3, rfl, hd, hg⟩
      have hod := other_disk HDA.out hg HJ.out
      have hg2 := hg.below HB.out.size HFB.out
      have HDB := Lib.hid hd; have HFB := Lib.hid hg2.2; have HB := Lib.hid (HB.out.trans hg2.1)
      have HDA := Lib.hid hod.1; have HJ := Lib.hid hod.2
      clear hd hg hg2 hod HS1 HD1
      cases hrt : rightR r with
      | false =>
        have HE := Lib.hid (hold_bad (rs.take k) r hrt)
        have HEA := Lib.hid (HBADE.out k r HZ.out hrt)
        clear hrt
        rw [HE.out.1]
        have HDA' : Hid (Dd w7 F2 (.pointer (some a)) (newD room)) := Lib.hid (by rw [← HEA.out.2]; exact HDA.out)
        obtain rfl : ea = 91 := HEA.out.1
        go_wp2_with fail
        refine (Dkw.bytes_c _ _ F2 _ HDA'.out).mono ?_
        rintro e w8 ⟨A8, n8, c8, rfl, ho8, hb⟩
        have hn8 : n8 = 0 := ho8.1
        subst hn8
        have HB := Lib.hid (HB.out.trans (hb.mono HB.out.size)); clear hb ho8
        go_wp2
        go_ret
        exact ⟨rfl, HB.out⟩
      | true =>
        have HOKT : Hid (∀ x ∈ rs.take k, Ok x) := Lib.hid (fun x hx => ⟨HOK.out x hx, (HW.out x (List.mem_of_mem_take hx)).2.2.2⟩)
        have HE := Lib.hid (hold_add (rs.take k) r hrt (by
          have h1 := flatR_le (rs.take k) HOKT.out
          have h2 := bytes_len r ⟨hrt, HWF.out.2.2.2⟩
          have h3 := seal_small r ⟨hrt, HWF.out.2.2.2⟩
          rw [List.length_take] at h1
          omega))
        have HRT := Lib.hid hrt
        clear hrt
        rw [HE.out.1]
        go_wp2
        refine ⟨⟨k + 1, G3, by go_num, by omega, rights_take HOK.out HZ.out HRT.out, HDA.out, ?_, HJ.out, HFB.out, HB.out⟩, by simp [intOf]; omega⟩
        rw [take_snoc HZ.out, ← HE.out.2]
        exact HDB.out
    · obtain rfl : k = n := by omega
      have HT : Hid (rs.take k = rs) := Lib.hid (List.take_of_length_le (by rw [← hn.out]; exact Nat.le_refl _))
      rw [HT.out] at HOK HDB
      have HGE := Lib.hid (HGOODE.out HOK.out)
      have HOKR : Hid (∀ x ∈ rs, Ok x) := Lib.hid (fun x hx => ⟨HOK.out x hx, (HW.out x hx).2.2.2⟩)
      obtain ⟨fl, hfl⟩ : ∃ fl, fl = flatR rs := ⟨_, rfl⟩
      have HFL := Lib.hid hfl
      have hflp : 0 < k → 0 < fl.length := by
        intro hp
        rw [hfl]
        cases hrs : rs with
        | nil => rw [hn.out, hrs] at hp; simp at hp
        | cons x l =>
          rw [flatR_cons, List.length_append]
          have := bytes_len x (HOKR.out x (by rw [hrs]; simp))
          omega
      have hfl0 : k = 0 → fl = [] := by
        intro hp
        rw [hfl]
        have : rs = [] := List.eq_nil_of_length_eq_zero (by rw [← hn.out]; exact hp)
        rw [this]; rfl
      have HDB : Hid (Dd wr G2 (.pointer (some b)) ⟨fl, fl.length, 60000, -1, false⟩) := Lib.hid (by rw [hfl]; exact HDB.out)
      rw [← hfl] at HGE
      clear hfl HBADE HGOODE HT HOK
      have hcl : clampR room = if 60000 < room then 60000 else if room < 0 then 0 else room := rfl
      have hfl18 : fl.length ≤ 1800 := by have := flatR_le rs HOKR.out; rw [← HFL.out, ← hn.out] at this; omega
      clear HOKR HFL
      by_cases h0 : k = 0
      · have HGE2 := Lib.hid (HGE.out.2 (by rw [hfl0 h0]; simp))
        subst h0
        clear hfl0 hflp HGE hcl
        have HDA : Hid (Dd wr F2 (.pointer (some a)) ⟨fl, fl.length, clampR room, -1, false⟩) := Lib.hid (by rw [← HGE2.out.2]; exact HDA.out)
        obtain rfl : ea = 0 := HGE2.out.1
        clear HGE2
        go_upto_region 15 with (fail)
        have hsm := Dkw.str_same fl
        generalize (clampR room) = cr at HDA
        refine wp_region_held_drew (S := fun W' => Below wr.heap.size wr W') (by kernel_rfl) (Below.refl _ _).drew (fun hHeld => ?_)
        generalize wr.drew = v1 at hHeld ⊢
        have HB1 : Hid (Below wr.heap.size wr v1) := hHeld
        clear hHeld
        refine take_in (i := 0) (oi := ⟨_, _, _, _, _, _⟩) (v := ?_) rfl (by kernel_rfl) (by kernel_rfl) (by kernel_rfl) (fun _ _ _ h => h) (by rfl) ?_ HB1.out ?_
        rotate_left
        · intro W hW; go_simp; with_reducible rfl
        simp only [Act.put, List.setIfInBounds_toArray, List.set_cons_zero, List.set_cons_succ]
        refine take_in (i := 1) (oi := ⟨_, _, _, _, _, _⟩) (v := ?_) rfl (by kernel_rfl) (by kernel_rfl) (by kernel_rfl) (fun _ _ _ h => h) (by rfl) ?_ HB1.out ?_
        rotate_left
        · intro W hW; go_simp; with_reducible rfl
        simp only [Act.put, List.setIfInBounds_toArray, List.set_cons_zero, List.set_cons_succ]
        refine take_in (i := 2) (oi := ⟨_, _, _, _, _, _⟩) (v := ?_) rfl (by kernel_rfl) (by kernel_rfl) (by kernel_rfl) (fun _ _ _ h => h) (by rfl) ?_ HB1.out ?_
        rotate_left
        · intro W hW; go_simp; with_reducible rfl
        simp only [Act.put, List.setIfInBounds_toArray, List.set_cons_zero, List.set_cons_succ]
        refine take_in (i := 3) (oi := ⟨_, _, _, _, _, _⟩) (v := ?_) rfl (by kernel_rfl) (by kernel_rfl) (by kernel_rfl) (fun _ _ _ h => h) (by rfl) ?_ HB1.out ?_
        rotate_left
        · intro W hW; go_simp; with_reducible rfl
        simp only [Act.put, List.setIfInBounds_toArray, List.set_cons_zero, List.set_cons_succ]
        refine take_in (i := 6) (oi := ⟨_, _, _, _, _, _⟩) (v := ?_) rfl (by kernel_rfl) (by kernel_rfl) (by kernel_rfl) (fun _ _ _ h => h) (by rfl) ?_ HB1.out ?_
        rotate_left
        · intro W hW; go_simp; with_reducible rfl
        simp only [Act.put, List.setIfInBounds_toArray, List.set_cons_zero, List.set_cons_succ]
        refine wpAnyH_ready (rs := [4]) (by kernel_rfl) (by simp) ?_
        refine AllReadyH.cons (o := ⟨_, _, _, _, _, _⟩) rfl (fun K hK => ?_) AllReadyH.nil
        go_simp
        refine (Dkw.bytes_c _ _ F2 _ (HDA.out.all HB1.out)).mono ?_
        rintro e v2 ⟨A7, n7, c7, rfl, ho7, hb⟩
        have HO7 := Lib.hid ho7; clear ho7
        have HB2 := Lib.hid (HB1.out.trans (hb.mono HB1.out.size)); clear hb
        refine hK.out _ _ HB2.out (fun _ => ?_)
        clear hK K
        have HK7 : Hid (∀ W', Below v2.heap.size v2 W' → (convert 41 9 (.slice A7 n7 c7)).run Try.prog W' = .ok (.string (str fl)) W') := Lib.hid (fun W' h => str8' c7 (HO7.out.rd.below h) HO7.out.1)
        refine tighten (S' := fun W' => Below v2.heap.size v2 W') (fun W' h => HB2.out.trans (h.mono HB2.out.size)) _ _ _ _ ?_
        have HB3 := Lib.hid (Below.refl v2.heap.size v2)
        have HDA := Lib.hid (HDA.out.all HB2.out); have HDB := Lib.hid (HDB.out.all HB2.out)
        refine take_in (i := 5) (oi := ⟨_, _, _, _, _, _⟩) (v := ?_) rfl (by kernel_rfl) (by kernel_rfl) (by kernel_rfl) (fun _ _ _ h => h) (by rfl) ?_ HB3.out ?_
        rotate_left
        · intro W hW; have hq := HK7.out W hW; go_simp; with_reducible rfl
        simp only [Act.put, List.setIfInBounds_toArray, List.set_cons_zero, List.set_cons_succ]
        refine wpAnyH_ready (rs := [7]) (by kernel_rfl) (by simp) ?_
        refine AllReadyH.cons (o := ⟨_, _, _, _, _, _⟩) rfl (fun K hK => ?_) AllReadyH.nil
        go_simp
        refine (Dkw.bytes_c _ _ G2 _ (HDB.out.all HB3.out)).mono ?_
        rintro e v3 ⟨A9, n9, c9, rfl, ho9, hb⟩
        have HO9 := Lib.hid ho9; clear ho9
        have HB4 := Lib.hid (HB3.out.trans (hb.mono HB3.out.size)); clear hb
        refine hK.out _ _ HB4.out (fun _ => ?_)
        clear hK K
        have HK9 : Hid (∀ W', Below v3.heap.size v3 W' → (convert 41 9 (.slice A9 n9 c9)).run Try.prog W' = .ok (.string (str fl)) W') := Lib.hid (fun W' h => str8' c9 (HO9.out.rd.below h) HO9.out.1)
        refine tighten (S' := fun W' => Below v3.heap.size v3 W') (fun W' h => HB4.out.trans (h.mono HB4.out.size)) _ _ _ _ ?_
        have HB5 := Lib.hid (Below.refl v3.heap.size v3)
        have HDA := Lib.hid (HDA.out.all HB4.out); have HDB := Lib.hid (HDB.out.all HB4.out)
        refine take_in (i := 8) (oi := ⟨_, _, _, _, _, _⟩) (v := ?_) rfl (by kernel_rfl) (by kernel_rfl) (by kernel_rfl) (fun _ _ _ h => h) (by rfl) ?_ HB5.out ?_
        rotate_left
        · intro W hW; have hq := HK9.out W hW; go_simp; with_reducible rfl
        simp only [Act.put, List.setIfInBounds_toArray, List.set_cons_zero, List.set_cons_succ]
        refine take_in (i := 9) (oi := ⟨_, _, _, _, _, _⟩) (v := ?_) rfl (by kernel_rfl) (by kernel_rfl) (by kernel_rfl) (fun _ _ _ h => h) (by rfl) ?_ HB5.out ?_
        rotate_left
        · intro W hW; go_simp; with_reducible rfl
        simp only [Act.put, List.setIfInBounds_toArray, List.set_cons_zero, List.set_cons_succ]
        refine take_in (i := 10) (oi := ⟨_, _, _, _, _, _⟩) (v := ?_) rfl (by kernel_rfl) (by kernel_rfl) (by kernel_rfl) (fun _ _ _ h => h) (by rfl) ?_ HB5.out ?_
        rotate_left
        · intro W hW; go_simp; with_reducible rfl
        simp only [Act.put, List.setIfInBounds_toArray, List.set_cons_zero, List.set_cons_succ]
        refine take_in (i := 11) (oi := ⟨_, _, _, _, _, _⟩) (v := ?_) rfl (by kernel_rfl) (by kernel_rfl) (by kernel_rfl) (fun _ _ _ h => h) (by rfl) ?_ HB5.out ?_
        rotate_left
        · intro W hW; go_simp; with_reducible rfl
        simp only [Act.put, List.setIfInBounds_toArray, List.set_cons_zero, List.set_cons_succ]
        refine take_in (i := 12) (oi := ⟨_, _, _, _, _, _⟩) (v := ?_) rfl (by kernel_rfl) (by kernel_rfl) (by kernel_rfl) (fun _ _ _ h => h) (by rfl) ?_ HB5.out ?_
        rotate_left
        · intro W hW; go_simp; with_reducible rfl
        simp only [Act.put, List.setIfInBounds_toArray, List.set_cons_zero, List.set_cons_succ]
        refine take_in (i := 14) (oi := ⟨_, _, _, _, _, _⟩) (v := ?_) rfl (by kernel_rfl) (by kernel_rfl) (by kernel_rfl) (fun _ _ _ h => h) (by rfl) ?_ HB5.out ?_
        rotate_left
        · intro W hW; go_simp; with_reducible rfl
        simp only [Act.put, List.setIfInBounds_toArray, List.set_cons_zero, List.set_cons_succ]
        refine wpAnyH_ready (rs := [13]) (by kernel_rfl) (by simp) ?_
        refine AllReadyH.cons (o := ⟨_, _, _, _, _, _⟩) rfl (fun K hK => ?_) AllReadyH.nil
        go_simp
        refine (Dkw.safe_c _ _ F2 _ (HDA.out.all HB5.out)).mono ?_
        rintro e v4 ⟨rfl, hb⟩
        have HB6 := Lib.hid (HB5.out.trans (hb.mono HB5.out.size)); clear hb
        refine hK.out _ _ HB6.out (fun _ => ?_)
        clear hK K
        refine wpAnyH_ready (rs := [15]) (by kernel_rfl) (by simp) ?_
        refine AllReadyH.cons (o := ⟨_, _, _, _, _, _⟩) rfl (fun K hK => ?_) AllReadyH.nil
        go_simp
        refine (Dkw.safe_c _ _ G2 _ (HDB.out.all HB6.out)).mono ?_
        rintro e v5 ⟨rfl, hb⟩
        have HB7 := Lib.hid (HB6.out.trans (hb.mono HB6.out.size)); clear hb
        refine hK.out _ _ HB7.out (fun _ => ?_)
        clear hK K
        refine take_in (i := 16) (oi := ⟨_, _, _, _, _, _⟩) (v := ?_) rfl (by kernel_rfl) (by kernel_rfl) (by kernel_rfl) (fun _ _ _ h => h) (by rfl) ?_ HB7.out ?_
        rotate_left
        · intro W hW; go_simp; with_reducible rfl
        simp only [Act.put, List.setIfInBounds_toArray, List.set_cons_zero, List.set_cons_succ]
        refine take_in (i := 17) (oi := ⟨_, _, _, _, _, _⟩) (v := ?_) rfl (by kernel_rfl) (by kernel_rfl) (by kernel_rfl) (fun _ _ _ h => h) (by rfl) ?_ HB7.out ?_
        rotate_left
        · intro W hW; go_simp; with_reducible rfl
        simp only [Act.put, List.setIfInBounds_toArray, List.set_cons_zero, List.set_cons_succ]
        refine take_in (i := 18) (oi := ⟨_, _, _, _, _, _⟩) (v := ?_) rfl (by kernel_rfl) (by kernel_rfl) (by kernel_rfl) (fun _ _ _ h => h) (by rfl) ?_ HB7.out ?_
        rotate_left
        · intro W hW; go_simp; with_reducible rfl
        simp only [Act.put, List.setIfInBounds_toArray, List.set_cons_zero, List.set_cons_succ]
        refine wpAnyH_done (by kernel_rfl) ?_ _
        go_wp2
        go_ret
        exact ⟨rfl, HB.out.trans (HB2.out.trans (HB4.out.trans (HB7.out.mono HB4.out.size) |>.mono HB2.out.size) |>.mono HB.out.size)⟩
      · have hkp : 0 < k := by omega
        have hfp := hflp hkp
        have hkz : (0 : Int) < (k : Int) := by omega
        clear hflp hfl0 h0
        go_wp2_with fail
        refine (Dkw.bytes_c _ _ G2 _ HDB.out).mono ?_
        rintro e w8 ⟨A8, n8, c8, rfl, ho8, hb⟩
        have hn8 : n8 = fl.length := ho8.1
        subst hn8
        have HDA := Lib.hid (HDA.out.all hb); have HDB := Lib.hid (HDB.out.all hb)
        have HB := Lib.hid (HB.out.trans (hb.mono HB.out.size)); clear hb ho8
        obtain ⟨mn, hmn⟩ : ∃ mn, mn = min room 60000 := ⟨_, rfl⟩
        have hmin : ∀ ts t W, (Builtin.min_ ts t #[.int .i64 room, .int .i64 60000]).run Try.prog W = .ok (.int .i64 mn) W := by
          intro ts t W
          rw [run_min_int2, hmn]
          congr 2
          split <;> omega
        by_cases hgt : mn < (fl.length : Int)
        · have HGE1 := Lib.hid (HGE.out.1 ⟨hfp, by rw [hcl]; split <;> (try split) <;> omega⟩)
          have HDA : Hid (Dd w8 F2 (.pointer (some a)) (newD room)) := Lib.hid (by rw [← HGE1.out.2]; exact HDA.out)
          obtain rfl : ea = 81 := HGE1.out.1
          clear HGE HGE1 hcl hmn
          go_wp2_with fail
          refine (Dkw.bytes_c _ _ F2 _ HDA.out).mono ?_
          rintro e w9 ⟨A9, n9, c9, rfl, ho9, hb⟩
          have hn9 : n9 = 0 := ho9.1
          subst hn9
          have HB := Lib.hid (HB.out.trans (hb.mono HB.out.size)); clear hb ho9
          go_wp2
          go_ret
          exact ⟨rfl, HB.out⟩
        · have HGE2 := Lib.hid (HGE.out.2 (by rintro ⟨_, h2⟩; rw [hcl] at h2; split at h2 <;> (try split at h2) <;> omega))
          clear HGE hcl hmn
          have HDA : Hid (Dd w8 F2 (.pointer (some a)) ⟨fl, fl.length, clampR room, -1, false⟩) := Lib.hid (by rw [← HGE2.out.2]; exact HDA.out)
          obtain rfl : ea = 0 := HGE2.out.1
          clear HGE2
          go_upto_region 15 with (fail)
          have hsm := Dkw.str_same fl
          generalize (clampR room) = cr at HDA
          refine wp_region_held_drew (S := fun W' => Below w8.heap.size w8 W') (by kernel_rfl) (Below.refl _ _).drew (fun hHeld => ?_)
          generalize w8.drew = v1 at hHeld ⊢
          have HB1 : Hid (Below w8.heap.size w8 v1) := hHeld
          clear hHeld
          refine take_in (i := 0) (oi := ⟨_, _, _, _, _, _⟩) (v := ?_) rfl (by kernel_rfl) (by kernel_rfl) (by kernel_rfl) (fun _ _ _ h => h) (by rfl) ?_ HB1.out ?_
          rotate_left
          · intro W hW; go_simp; with_reducible rfl
          simp only [Act.put, List.setIfInBounds_toArray, List.set_cons_zero, List.set_cons_succ]
          refine take_in (i := 1) (oi := ⟨_, _, _, _, _, _⟩) (v := ?_) rfl (by kernel_rfl) (by kernel_rfl) (by kernel_rfl) (fun _ _ _ h => h) (by rfl) ?_ HB1.out ?_
          rotate_left
          · intro W hW; go_simp; with_reducible rfl
          simp only [Act.put, List.setIfInBounds_toArray, List.set_cons_zero, List.set_cons_succ]
          refine take_in (i := 2) (oi := ⟨_, _, _, _, _, _⟩) (v := ?_) rfl (by kernel_rfl) (by kernel_rfl) (by kernel_rfl) (fun _ _ _ h => h) (by rfl) ?_ HB1.out ?_
          rotate_left
          · intro W hW; go_simp; with_reducible rfl
          simp only [Act.put, List.setIfInBounds_toArray, List.set_cons_zero, List.set_cons_succ]
          refine take_in (i := 3) (oi := ⟨_, _, _, _, _, _⟩) (v := ?_) rfl (by kernel_rfl) (by kernel_rfl) (by kernel_rfl) (fun _ _ _ h => h) (by rfl) ?_ HB1.out ?_
          rotate_left
          · intro W hW; go_simp; with_reducible rfl
          simp only [Act.put, List.setIfInBounds_toArray, List.set_cons_zero, List.set_cons_succ]
          refine take_in (i := 6) (oi := ⟨_, _, _, _, _, _⟩) (v := ?_) rfl (by kernel_rfl) (by kernel_rfl) (by kernel_rfl) (fun _ _ _ h => h) (by rfl) ?_ HB1.out ?_
          rotate_left
          · intro W hW; go_simp; with_reducible rfl
          simp only [Act.put, List.setIfInBounds_toArray, List.set_cons_zero, List.set_cons_succ]
          refine wpAnyH_ready (rs := [4]) (by kernel_rfl) (by simp) ?_
          refine AllReadyH.cons (o := ⟨_, _, _, _, _, _⟩) rfl (fun K hK => ?_) AllReadyH.nil
          go_simp
          refine (Dkw.bytes_c _ _ F2 _ (HDA.out.all HB1.out)).mono ?_
          rintro e v2 ⟨A7, n7, c7, rfl, ho7, hb⟩
          have HO7 := Lib.hid ho7; clear ho7
          have HB2 := Lib.hid (HB1.out.trans (hb.mono HB1.out.size)); clear hb
          refine hK.out _ _ HB2.out (fun _ => ?_)
          clear hK K
          have HK7 : Hid (∀ W', Below v2.heap.size v2 W' → (convert 41 9 (.slice A7 n7 c7)).run Try.prog W' = .ok (.string (str fl)) W') := Lib.hid (fun W' h => str8' c7 (HO7.out.rd.below h) HO7.out.1)
          refine tighten (S' := fun W' => Below v2.heap.size v2 W') (fun W' h => HB2.out.trans (h.mono HB2.out.size)) _ _ _ _ ?_
          have HB3 := Lib.hid (Below.refl v2.heap.size v2)
          have HDA := Lib.hid (HDA.out.all HB2.out); have HDB := Lib.hid (HDB.out.all HB2.out)
          refine take_in (i := 5) (oi := ⟨_, _, _, _, _, _⟩) (v := ?_) rfl (by kernel_rfl) (by kernel_rfl) (by kernel_rfl) (fun _ _ _ h => h) (by rfl) ?_ HB3.out ?_
          rotate_left
          · intro W hW; have hq := HK7.out W hW; go_simp; with_reducible rfl
          simp only [Act.put, List.setIfInBounds_toArray, List.set_cons_zero, List.set_cons_succ]
          refine wpAnyH_ready (rs := [7]) (by kernel_rfl) (by simp) ?_
          refine AllReadyH.cons (o := ⟨_, _, _, _, _, _⟩) rfl (fun K hK => ?_) AllReadyH.nil
          go_simp
          refine (Dkw.bytes_c _ _ G2 _ (HDB.out.all HB3.out)).mono ?_
          rintro e v3 ⟨A9, n9, c9, rfl, ho9, hb⟩
          have HO9 := Lib.hid ho9; clear ho9
          have HB4 := Lib.hid (HB3.out.trans (hb.mono HB3.out.size)); clear hb
          refine hK.out _ _ HB4.out (fun _ => ?_)
          clear hK K
          have HK9 : Hid (∀ W', Below v3.heap.size v3 W' → (convert 41 9 (.slice A9 n9 c9)).run Try.prog W' = .ok (.string (str fl)) W') := Lib.hid (fun W' h => str8' c9 (HO9.out.rd.below h) HO9.out.1)
          refine tighten (S' := fun W' => Below v3.heap.size v3 W') (fun W' h => HB4.out.trans (h.mono HB4.out.size)) _ _ _ _ ?_
          have HB5 := Lib.hid (Below.refl v3.heap.size v3)
          have HDA := Lib.hid (HDA.out.all HB4.out); have HDB := Lib.hid (HDB.out.all HB4.out)
          refine take_in (i := 8) (oi := ⟨_, _, _, _, _, _⟩) (v := ?_) rfl (by kernel_rfl) (by kernel_rfl) (by kernel_rfl) (fun _ _ _ h => h) (by rfl) ?_ HB5.out ?_
          rotate_left
          · intro W hW; have hq := HK9.out W hW; go_simp; with_reducible rfl
          simp only [Act.put, List.setIfInBounds_toArray, List.set_cons_zero, List.set_cons_succ]
          refine take_in (i := 9) (oi := ⟨_, _, _, _, _, _⟩) (v := ?_) rfl (by kernel_rfl) (by kernel_rfl) (by kernel_rfl) (fun _ _ _ h => h) (by rfl) ?_ HB5.out ?_
          rotate_left
          · intro W hW; go_simp; with_reducible rfl
          simp only [Act.put, List.setIfInBounds_toArray, List.set_cons_zero, List.set_cons_succ]
          refine take_in (i := 10) (oi := ⟨_, _, _, _, _, _⟩) (v := ?_) rfl (by kernel_rfl) (by kernel_rfl) (by kernel_rfl) (fun _ _ _ h => h) (by rfl) ?_ HB5.out ?_
          rotate_left
          · intro W hW; go_simp; with_reducible rfl
          simp only [Act.put, List.setIfInBounds_toArray, List.set_cons_zero, List.set_cons_succ]
          refine take_in (i := 11) (oi := ⟨_, _, _, _, _, _⟩) (v := ?_) rfl (by kernel_rfl) (by kernel_rfl) (by kernel_rfl) (fun _ _ _ h => h) (by rfl) ?_ HB5.out ?_
          rotate_left
          · intro W hW; go_simp; with_reducible rfl
          simp only [Act.put, List.setIfInBounds_toArray, List.set_cons_zero, List.set_cons_succ]
          refine take_in (i := 12) (oi := ⟨_, _, _, _, _, _⟩) (v := ?_) rfl (by kernel_rfl) (by kernel_rfl) (by kernel_rfl) (fun _ _ _ h => h) (by rfl) ?_ HB5.out ?_
          rotate_left
          · intro W hW; go_simp; with_reducible rfl
          simp only [Act.put, List.setIfInBounds_toArray, List.set_cons_zero, List.set_cons_succ]
          refine take_in (i := 14) (oi := ⟨_, _, _, _, _, _⟩) (v := ?_) rfl (by kernel_rfl) (by kernel_rfl) (by kernel_rfl) (fun _ _ _ h => h) (by rfl) ?_ HB5.out ?_
          rotate_left
          · intro W hW; go_simp; with_reducible rfl
          simp only [Act.put, List.setIfInBounds_toArray, List.set_cons_zero, List.set_cons_succ]
          refine wpAnyH_ready (rs := [13]) (by kernel_rfl) (by simp) ?_
          refine AllReadyH.cons (o := ⟨_, _, _, _, _, _⟩) rfl (fun K hK => ?_) AllReadyH.nil
          go_simp
          refine (Dkw.safe_c _ _ F2 _ (HDA.out.all HB5.out)).mono ?_
          rintro e v4 ⟨rfl, hb⟩
          have HB6 := Lib.hid (HB5.out.trans (hb.mono HB5.out.size)); clear hb
          refine hK.out _ _ HB6.out (fun _ => ?_)
          clear hK K
          refine wpAnyH_ready (rs := [15]) (by kernel_rfl) (by simp) ?_
          refine AllReadyH.cons (o := ⟨_, _, _, _, _, _⟩) rfl (fun K hK => ?_) AllReadyH.nil
          go_simp
          refine (Dkw.safe_c _ _ G2 _ (HDB.out.all HB6.out)).mono ?_
          rintro e v5 ⟨rfl, hb⟩
          have HB7 := Lib.hid (HB6.out.trans (hb.mono HB6.out.size)); clear hb
          refine hK.out _ _ HB7.out (fun _ => ?_)
          clear hK K
          refine take_in (i := 16) (oi := ⟨_, _, _, _, _, _⟩) (v := ?_) rfl (by kernel_rfl) (by kernel_rfl) (by kernel_rfl) (fun _ _ _ h => h) (by rfl) ?_ HB7.out ?_
          rotate_left
          · intro W hW; go_simp; with_reducible rfl
          simp only [Act.put, List.setIfInBounds_toArray, List.set_cons_zero, List.set_cons_succ]
          refine take_in (i := 17) (oi := ⟨_, _, _, _, _, _⟩) (v := ?_) rfl (by kernel_rfl) (by kernel_rfl) (by kernel_rfl) (fun _ _ _ h => h) (by rfl) ?_ HB7.out ?_
          rotate_left
          · intro W hW; go_simp; with_reducible rfl
          simp only [Act.put, List.setIfInBounds_toArray, List.set_cons_zero, List.set_cons_succ]
          refine take_in (i := 18) (oi := ⟨_, _, _, _, _, _⟩) (v := ?_) rfl (by kernel_rfl) (by kernel_rfl) (by kernel_rfl) (fun _ _ _ h => h) (by rfl) ?_ HB7.out ?_
          rotate_left
          · intro W hW; go_simp; with_reducible rfl
          simp only [Act.put, List.setIfInBounds_toArray, List.set_cons_zero, List.set_cons_succ]
          refine wpAnyH_done (by kernel_rfl) ?_ _
          go_wp2
          go_ret
          exact ⟨rfl, HB.out.trans (HB2.out.trans (HB4.out.trans (HB7.out.mono HB4.out.size) |>.mono HB2.out.size) |>.mono HB.out.size)⟩
end Go.Proofs.Ytjcbdnbbdhjoiaa.logParts

namespace Go.Proofs.Ytjcbdnbbdhjoiaa
open Go.ChangeShapes Go.WideShapes Go.ChangeAt Go.RowKit

theorem logParts_own : ownKnob Try.prog.godebug = none := by kernel_rfl
theorem logParts_laid : laidOutB Try.prog = true := by kernel_rfl

set_option maxRecDepth 100000 in
theorem logParts_lifted (os : Os) (started : os.Started) (H : Type) (enc : TypeId × Value → H) :
    ReturnsInHanded {} Try.checked os 9 .any (Rows.logPartsSpec.pre6 enc Try.prog Try.f9 Rows.logPartsRow.domain false) (Rows.logPartsSpec.post enc Try.prog Try.f9 false true false false) := by
  refine returnsInHanded_of_change_sized (C := Try.checked) logParts_own started (by kernel_rfl) Try.func9
    (ChangeSpec.witness6 (enc := enc) (C := Try.checked) false ⟨#[], #[.slice none 0 0, .int .i64 0], []⟩ 8 (by kernel_rfl) (by kernel_rfl) (by kernel_rfl) (by kernel_rfl)) ?_
  intro W base args ds gs before hval0 hW _ hsz0 _
  have hsz : (DataW.weightsEach Try.prog (Try.f9.params.toList ++ Rows.logPartsSpec.plain.varTypes Try.prog) (ds ++ gs)).all (· ≤ reachBytes) = true := hsz0
  have hval : ∀ (j : Nat) t v, Try.f9.params[j]? = some t → args[j]? = some v → Value.okWide Try.prog W .any base t v := hval0
  have hW' := hW
  obtain ⟨p, q, hA0, hV, rfl, hfz, hnd⟩ := hW
  have hA : DataW.TrodAll enc Try.prog W 0 (fun _ => true) true Try.f9.params.toList args.toList ds p := hA0
  rw [Try.params9] at hA hval hsz
  obtain ⟨v0, vs0, d0, ds0, p0, q0, hargs, rfl, rfl, h0, r0⟩ := trodAll_cons hA
  obtain ⟨v1, vs1, d1, ds1, p1, q1, rfl, rfl, rfl, h1, r1⟩ := trodAll_cons r0
  obtain ⟨rfl, rfl, rfl⟩ := trodAll_nil r1
  obtain rfl : args = #[v0, v1] := by cases args; simp_all
  obtain ⟨rfl, rfl⟩ := trodVars_none hV
  clear hA0 hval0
  simp only [List.append_nil] at hW'
  have hk0 := h0
  have hlt0 : ∀ x ∈ p0, x.block < W.heap.size := (fun x hx => by have := hW'.lt x (by simp [hx]); simpa using this)
  obtain ⟨A0, n0, c0, l0, rfl, hn0, hc0, hr0, hw0, hd0⟩ := open_recs Try.underlying22 (hval 0 22 v0 rfl rfl) h0 hlt0
  have hb0 := sized_places hsz (j := 0) rfl rfl Try.underlying22 hd0
  rw [show Try.prog.bytesOf 40 = 88 from by kernel_rfl] at hb0
  obtain ⟨a1, rfl, rfl, rfl, w1⟩ := open_int Try.underlying3 (hval 1 3 v1 rfl rfl) h1
  refine (logParts.walk W A0 n0 c0 l0 ⟨hn0, hc0, by omega, fun r hr => (hw0 r hr).2.2.2, hr0⟩ hw0 a1 w1).mono fun e W' ⟨he, hb⟩ => ?_
  subst he
  exact ⟨_, rfl, _, _, _, [], _, [], hW', trodAll_cons_mk (shut_bool Try.underlying4 _) trodAll_mk0, (trodAll_cons_mk (Below.trod logParts_laid (by kernel_rfl) (of_decide_eq_true (by kernel_rfl)) hk0 hb hlt0) (trodAll_cons_mk (shut_int Try.underlying3 w1) trodAll_mk0)), rfl, hb.frame _, fun h => by cases h⟩

theorem logParts_proved : Rows.LogPartsSaid :=
  OpenClaim.holds_of_wide 9 Try.f9 rfl rfl rfl rfl rfl rfl rfl ⟨rfl, rfl, rfl, rfl, rfl⟩ rfl rfl rfl rfl rfl (by kernel_rfl) Try.func9 (by kernel_rfl)
    (of_decide_eq_true (by kernel_rfl)) (by unfold Func.isWrapper; first | (rw [if_pos (by decide +kernel)]; kernel_rfl) | (rw [if_neg (by decide +kernel)]; exact ⟨rfl, rfl⟩))
    (fun os started H enc _ => logParts_lifted os started H enc)
#print axioms logParts_proved
end Go.Proofs.Ytjcbdnbbdhjoiaa
