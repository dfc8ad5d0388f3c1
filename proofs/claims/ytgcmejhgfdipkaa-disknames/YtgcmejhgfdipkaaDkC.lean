/- What package disk answers (as it landed): contracts by walks. -/
import Derived.Test.YtgcmejhgfdipkaaDkB
namespace Go.Proofs.Ytgcmejhgfdipkaa.Dkw
open Go.RowKit
open Dk

theorem safe_c (p : Value) (d : D) (F : Nat → Prop) (w : World) (h : Dd w F p d) : Calls Try.prog 25 #[p] w fun e w' => e = .returned (.int .i64 d.safe) ∧ Below w.heap.size w w' := by
  obtain ⟨g, A, n, c, rfl, hy, _⟩ := h
  have z1 := hy.c1
  go_enter Try.func25, Try.ntmps25
  go_wp2
  go_ret
  exact ⟨rfl, Below.refl _ _⟩
theorem off_c (p : Value) (d : D) (F : Nat → Prop) (w : World) (h : Dd w F p d) : Calls Try.prog 26 #[p] w fun e w' => e = .returned (.bool d.off) ∧ Below w.heap.size w w' := by
  obtain ⟨g, A, n, c, rfl, hy, _⟩ := h
  have z1 := hy.c4
  go_enter Try.func26, Try.ntmps26
  go_wp2
  go_ret
  exact ⟨rfl, Below.refl _ _⟩
theorem between_c (a n b : Int) (w : World) : Calls Try.prog 27 #[.int .i64 a, .int .i64 n, .int .i64 b] w fun e w' => e = .returned (.int .i64 (max a (min n b))) ∧ Below w.heap.size w w' := by
  go_enter Try.func27, Try.ntmps27
  go_wp2
  all_goals
    go_ret
    refine ⟨ret_int ?_, Below.refl _ _⟩
    omega
theorem fuse_c (p : Value) (d : D) (n : Int) (hk : I64 n) (F : Nat → Prop) (w : World) (h : Dd w F p d) : Calls Try.prog 22 #[p, .int .i64 n] w (RetK w F p (fuseD d n) (.tuple #[])) := by
  obtain ⟨g, A, m, c, rfl, hy, ho, hF, hi⟩ := h
  have HY := Lib.hid hy; have HO := Lib.hid ho; have HF := Lib.hid hF; have HI := Lib.hid (fits_fuse d n hk.2 hi)
  have z3 := HY.out.c3
  have y3 := frozen_of_row w g 3 _ _ HY.out
  clear hy ho hF hi
  have HE : Hid ((fuseD d n).fuse = if n < 0 then -1 else n) := Lib.hid rfl
  go_enter Try.func22, Try.ntmps22
  go_wp2
  · go_end0
    refine ret_same _ HF.out ((Kp.refl _ _).setCell (fs_own HF.out) _) ?_ (own_put HY.out HO.out _) HI.out
    rw [show (fuseD d n).fuse = -1 by rw [HE.out, if_pos (by omega)]]
    exact HY.out.setF (-1)
  · go_end0
    refine ret_same _ HF.out ((Kp.refl _ _).setCell (fs_own HF.out) _) ?_ (own_put HY.out HO.out _) HI.out
    rw [show (fuseD d n).fuse = n by rw [HE.out]; split <;> omega]
    exact HY.out.setF n
theorem new_c (room : Int) (_h : I64 room) (w : World) : Calls Try.prog 10 #[.int .i64 room] w fun e w' => ∃ p F, e = .returned p ∧ Dd w' F p (newD room) ∧ (∀ k, F k → w.heap.size ≤ k) ∧ Below w.heap.size w w' := by
  go_enter Try.func10, Try.ntmps10
  go_wp2_with fail
  refine (between_c _ _ _ _).mono ?_
  rintro e w1 ⟨rfl, hb⟩
  have HB := Lib.hid hb; clear hb
  go_wp2
  go_ret
  refine ⟨_, Fs w1.heap.size (.slice none 0 0), rfl, ⟨w1.heap.size, none, 0, 0, rfl, ?_, own_none _ _, fun _ => Iff.rfl, fits_new room⟩, fun k hk => ?_, bal HB.out (Nat.le_refl _) _⟩
  · have e1 : (newD room).room = max 0 (min room 60000) := by
      show clampR room = _
      unfold clampR
      split <;> (try split) <;> omega
    rw [e1]
    exact hat _ _ _ rfl
  · rcases hk with rfl | hk
    · exact HB.out.size
    · cases hk
theorem limit_c (p : Value) (d : D) (room : Int) (_hk : I64 room) (F : Nat → Prop) (w : World) (h : Dd w F p d) : Calls Try.prog 18 #[p, .int .i64 room] w (RetK w F p (limit d room) (.tuple #[])) := by
  obtain ⟨g, A, m, c, rfl, hy, ho, hF, hi⟩ := h
  have HY := Lib.hid hy; have HO := Lib.hid ho; have HF := Lib.hid hF; have HI := Lib.hid (fits_limit d room hi)
  clear hy ho hF hi
  have HE : Hid ((limit d room).room = max 0 (min room 60000)) := Lib.hid (by
    show clampR room = _
    unfold clampR
    split <;> (try split) <;> omega)
  go_enter Try.func18, Try.ntmps18
  go_wp2_with fail
  refine (between_c _ _ _ _).mono ?_
  rintro e w1 ⟨rfl, hb⟩
  have HK1 := Lib.hid (Kp.of_below (F := F) hb); have HY1 := Lib.hid (HY.out.all hb); have HO1 := Lib.hid (HO.out.below hb (Nat.le_refl _))
  clear hb
  have z2 := HY1.out.c2
  have f2 := frozen_of_row w1 g 2 _ _ HY1.out
  go_wp2
  go_end0
  refine ret_same _ HF.out (HK1.out.setCell (fs_own HF.out) _) ?_ (own_put HY1.out HO1.out _) HI.out
  rw [HE.out]
  exact HY1.out.setR _
theorem sync_c (p : Value) (d : D) (F : Nat → Prop) (w : World) (h : Dd w F p d) : Calls Try.prog 14 #[p] w (RetK w F p (syncD d) (.tuple #[])) := by
  obtain ⟨g, A, m, c, rfl, hy, ho, hF, hi⟩ := h
  have HY := Lib.hid hy; have HO := Lib.hid ho; have HF := Lib.hid hF; have HI := Lib.hid (fits_sync d hi)
  clear hy ho hF hi
  cases hoff : d.off with
  | true =>
    have e1 : syncD d = d := by unfold syncD; rw [hoff]; rfl
    rw [e1] at HI ⊢
    have z4 := HY.out.c4
    rw [hoff] at z4
    go_enter Try.func14, Try.ntmps14
    go_wp2
    go_end0
    exact ret_same _ HF.out (Kp.refl _ _) HY.out HO.out HI.out
  | false =>
    have e1 : syncD d = { d with safe := d.data.length } := by unfold syncD; rw [hoff]; rfl
    rw [e1] at HI ⊢
    have z4 := HY.out.c4
    have z0 := HY.out.c0
    have z1 := HY.out.c1
    have y1 := frozen_of_row w g 1 _ _ HY.out
    rw [hoff] at z4
    go_enter Try.func14, Try.ntmps14
    go_wp2
    go_end0
    refine ret_same _ HF.out ((Kp.refl _ _).setCell (fs_own HF.out) _) ?_ (own_put HY.out HO.out _) HI.out
    show Dy _ g A m c (d.data.length : Int) d.room d.fuse d.off
    rw [← HO.out.1]
    exact HY.out.setS m
/-- the first n bytes are left -/
def leaveD (d : D) (n : Nat) : D := { d with data := d.data.take n, safe := min d.safe n }
theorem fits_leave (d : D) (n : Nat) (h : Fits d) : Fits (leaveD d n) := by
  obtain ⟨⟨h1, h2, h3, h4, h5, h6, h7⟩, _⟩ := h
  refine ⟨?_, trivial⟩
  unfold leaveD Iv
  simp only [List.length_take]
  omega
theorem leave_c (p : Value) (d : D) (n : Int) (k : Nat) (hn : n = (k : Int)) (hk : k ≤ d.data.length) (F : Nat → Prop) (w : World) (h : Dd w F p d) : Calls Try.prog 28 #[p, .int .i64 n] w (RetK w F p (leaveD d k) (.tuple #[])) := by
  obtain ⟨g, A, m, c, rfl, hy, ho, hF, hi⟩ := h
  have HY := Lib.hid hy; have HO := Lib.hid ho; have HF := Lib.hid hF; have HI := Lib.hid (fits_leave d k hi)
  have hkm : k ≤ m := by rw [ho.1]; exact hk
  have hmc : m ≤ c := ho.cap
  have hsi := hi.1.1
  clear hy ho hF hi hk
  subst hn
  have z0 := HY.out.c0
  have z1 := HY.out.c1
  have y0 := frozen_of_row w g 0 _ _ HY.out
  have y1 := frozen_of_row w g 1 _ _ HY.out
  have hsl := run_head A m c k k .i64 rfl (by omega)
  have HO2 : Hid (Own w 0 A k c (d.data.take k)) := Lib.hid (own_cut HO.out k hkm)
  have HE : Hid ((leaveD d k).safe = min d.safe k) := Lib.hid rfl
  go_enter Try.func28, Try.ntmps28
  go_wp2
  all_goals
    go_end0
    refine ret_same _ HF.out (((Kp.refl _ _).setCell (fs_own HF.out) _).setCell (fs_own HF.out) _) ?_ (own_put (HY.out.setA A k c) (own_put HY.out HO2.out _) _) HI.out
    rw [HE.out]
  · rw [show min d.safe (k : Int) = k by omega]
    exact (HY.out.setA A k c).setS k
  · rw [show min d.safe (k : Int) = d.safe by omega]
    exact (HY.out.setA A k c).setS d.safe
theorem splice_all (n : Nat) (cs : List Value) (z : Value) (h : cs.length = n) : splice (List.replicate n z) 0 cs = cs := by
  unfold splice
  rw [List.take_zero, List.nil_append, List.drop_of_length_le (by simp [h]), List.append_nil]
theorem bytes_c (p : Value) (d : D) (F : Nat → Prop) (w : World) (h : Dd w F p d) : Calls Try.prog 24 #[p] w (RetOwn w w.heap.size d.data) := by
  obtain ⟨g, A, m, c, rfl, hy, ho, hF, hi⟩ := h
  have HY := Lib.hid hy; have HO := Lib.hid ho; have HF := Lib.hid hF
  have hm : m ≤ 60000 := by rw [ho.1]; exact hi.1.2.2.1
  clear hy ho hF hi
  have z0 := HY.out.c0
  have hmk := run_mk m hm w
  have HZ : Hid ((List.replicate m (Value.int .u8 0)).length = m) := Lib.hid (by simp)
  have HS : Hid (splice (List.replicate m (Value.int .u8 0)) 0 (d.data.map B8) = d.data.map B8) := Lib.hid (splice_all _ _ _ (by rw [List.length_map, ← HO.out.1]))
  generalize List.replicate m (Value.int .u8 0) = Z at hmk HZ HS
  have z0' := (HY.out.all (bal (Below.refl _ _) (Nat.le_refl _) (.cells Z.toArray 5))).c0
  have HO' := Lib.hid (HO.out.alloc (.cells Z.toArray 5))
  have HL : Hid (m = d.data.length) := Lib.hid HO.out.1
  have HP : Hid (0 < (d.data.map B8).length → (some ⟨w.heap.size, 0, none⟩ : Option Addr) = some ⟨w.heap.size, 0, none⟩ ∧ ∃ ad, A = some ad ∧ ∀ j v, (d.data.map B8)[j]? = some v → (w.alloc (.cells Z.toArray 5)).cell? (ad.add j) = some v) := Lib.hid (fun h => by
    obtain ⟨b, o, e, _, hc⟩ := HO'.out.rd h
    exact ⟨rfl, _, e, fun j v hv => by rw [Addr.add_lit]; exact hc j v hv⟩)
  go_enter Try.func24, Try.ntmps24
  go_wp2_with (with_reducible refine wpList_copy_splice rfl (.tmp 10) (.tmp 14) 27 27 rfl 5 Try.underlying27 (by kernel_rfl) (some ⟨w.heap.size, 0, none⟩) A m m m c rfl rfl w.heap.size 0 Z 5 (hat _ _ _ rfl) (d.data.map B8) (by rw [List.length_map, ← HL.out]; exact (Nat.min_self m).symm) HP.out (by rw [List.length_map, ← HL.out, HZ.out, Nat.zero_add]; exact Nat.le_refl _) (B8_one _) w.heap.size w (bal (Below.refl _ _) (Nat.le_refl _) _) (Nat.le_refl _) ?_; intro w4 hg4 hb4)
  go_ret
  refine ⟨_, _, _, rfl, ?_, hb4⟩
  have h4 := hg4.out
  rw [HS.out] at h4
  refine ⟨HL.out, by simp [← HL.out], .inr ⟨w.heap.size, m, _, rfl, Nat.le_refl _, h4, Nat.le_refl _, by unfold maxLen; omega, by simp [← HL.out], ?_⟩⟩
  rw [List.take_of_length_le (by simp [← HL.out])]
theorem Dd.at {w : World} {F : Nat → Prop} {g : Nat} {d : D} (h : Dd w F (.pointer (some ⟨g, 0, none⟩)) d) : ∃ A n c, Dy w g A n c d.safe d.room d.fuse d.off ∧ Own w 0 A n c d.data ∧ (∀ k, F k ↔ Fs g (.slice A n c) k) ∧ Fits d := by
  obtain ⟨g2, A, n, c, hp, h⟩ := h
  injection hp with hp
  injection hp with hp
  injection hp with hp
  subst hp
  exact ⟨A, n, c, h⟩
theorem crash_take (d : D) (keep : Int) (hi : Iv d) : d.data.take (d.safe + max 0 (min keep ((d.data.length : Int) - d.safe))).toNat = d.data.take (d.safe.toNat + keep.toNat) := by
  obtain ⟨h1, h2, h3, _⟩ := hi
  by_cases h : keep ≤ (d.data.length : Int) - d.safe
  · congr 1
    omega
  · rw [List.take_of_length_le (by omega), List.take_of_length_le (by omega)]
set_option maxHeartbeats 1000000 in
theorem crash_c (p : Value) (d : D) (keep : Int) (_hk : I64 keep) (F : Nat → Prop) (w : World) (h : Dd w F p d) : Calls Try.prog 16 #[p, .int .i64 keep] w (RetK w F p (crashD d keep) (.tuple #[])) := by
  obtain ⟨g, A, m, c, rfl, hy, ho, hF, hi⟩ := h
  have HY := Lib.hid hy; have HD := Lib.hid (show Dd w F (.pointer (some ⟨g, 0, none⟩)) d from ⟨g, A, m, c, rfl, hy, ho, hF, hi⟩)
  have HT := Lib.hid (crash_take d keep hi.1)
  have HI := Lib.hid (fits_crash d keep hi)
  have HL : Hid (m = d.data.length) := Lib.hid ho.1
  have h1 := hi.1.1
  have h2 : d.safe ≤ (m : Int) := by rw [ho.1]; exact hi.1.2.1
  have h3 : m ≤ 60000 := by rw [ho.1]; exact hi.1.2.2.1
  clear hy ho hF hi
  rw [← HL.out] at HT
  have z0 := HY.out.c0; have z1 := HY.out.c1
  have HK : Hid (∀ W', Below w.heap.size w W' → W'.cell? ⟨g, 0, none⟩ = some (.slice A m c) ∧ W'.cell? ⟨g, 1, none⟩ = some (.int .i64 d.safe)) := Lib.hid (fun W' h => ⟨(HY.out.all h).c0, (HY.out.all h).c1⟩)
  clear z0 z1
  go_enter Try.func16, Try.ntmps16
  go_wp2_with fail
  refine wp_region_held_drew (S := fun W' => Below w.heap.size w W') (by kernel_rfl) (Below.refl _ _).drew (fun hHeld => ?_)
  generalize w.drew = w5 at hHeld ⊢
  have HB5 : Hid (Below w.heap.size w w5) := hHeld
  clear hHeld
  refine take_in (i := 0) (oi := ⟨_, _, _, _, _, _⟩) (v := ?_) rfl (by kernel_rfl) (by kernel_rfl) (by kernel_rfl) (fun _ _ _ h => h) (by rfl) ?_ HB5.out ?_
  rotate_left
  · intro W hW; have hq := HK.out W hW; go_simp; with_reducible rfl
  simp only [Act.put, List.setIfInBounds_toArray, List.set_cons_zero, List.set_cons_succ]
  refine take_in (i := 1) (oi := ⟨_, _, _, _, _, _⟩) (v := ?_) rfl (by kernel_rfl) (by kernel_rfl) (by kernel_rfl) (fun _ _ _ h => h) (by rfl) ?_ HB5.out ?_
  rotate_left
  · intro W hW; have hq := HK.out W hW; go_simp; with_reducible rfl
  simp only [Act.put, List.setIfInBounds_toArray, List.set_cons_zero, List.set_cons_succ]
  refine take_in (i := 2) (oi := ⟨_, _, _, _, _, _⟩) (v := ?_) rfl (by kernel_rfl) (by kernel_rfl) (by kernel_rfl) (fun _ _ _ h => h) (by rfl) ?_ HB5.out ?_
  rotate_left
  · intro W hW; have hq := HK.out W hW; go_simp; with_reducible rfl
  simp only [Act.put, List.setIfInBounds_toArray, List.set_cons_zero, List.set_cons_succ]
  refine take_in (i := 3) (oi := ⟨_, _, _, _, _, _⟩) (v := ?_) rfl (by kernel_rfl) (by kernel_rfl) (by kernel_rfl) (fun _ _ _ h => h) (by rfl) ?_ HB5.out ?_
  rotate_left
  · intro W hW; have hq := HK.out W hW; go_simp; with_reducible rfl
  simp only [Act.put, List.setIfInBounds_toArray, List.set_cons_zero, List.set_cons_succ]
  refine take_in (i := 4) (oi := ⟨_, _, _, _, _, _⟩) (v := ?_) rfl (by kernel_rfl) (by kernel_rfl) (by kernel_rfl) (fun _ _ _ h => h) (by rfl) ?_ HB5.out ?_
  rotate_left
  · intro W hW; have hq := HK.out W hW; go_simp; with_reducible rfl
  simp only [Act.put, List.setIfInBounds_toArray, List.set_cons_zero, List.set_cons_succ]
  refine take_in (i := 5) (oi := ⟨_, _, _, _, _, _⟩) (v := ?_) rfl (by kernel_rfl) (by kernel_rfl) (by kernel_rfl) (fun _ _ _ h => h) (by rfl) ?_ HB5.out ?_
  rotate_left
  · intro W hW; have hq := HK.out W hW; go_simp; with_reducible rfl
  simp only [Act.put, List.setIfInBounds_toArray, List.set_cons_zero, List.set_cons_succ]
  refine take_in (i := 6) (oi := ⟨_, _, _, _, _, _⟩) (v := ?_) rfl (by kernel_rfl) (by kernel_rfl) (by kernel_rfl) (fun _ _ _ h => h) (by rfl) ?_ HB5.out ?_
  rotate_left
  · intro W hW; have hq := HK.out W hW; go_simp; with_reducible rfl
  simp only [Act.put, List.setIfInBounds_toArray, List.set_cons_zero, List.set_cons_succ]
  refine take_in (i := 7) (oi := ⟨_, _, _, _, _, _⟩) (v := ?_) rfl (by kernel_rfl) (by kernel_rfl) (by kernel_rfl) (fun _ _ _ h => h) (by rfl) ?_ HB5.out ?_
  rotate_left
  · intro W hW; have hq := HK.out W hW; go_simp; with_reducible rfl
  simp only [Act.put, List.setIfInBounds_toArray, List.set_cons_zero, List.set_cons_succ]
  refine take_in (i := 8) (oi := ⟨_, _, _, _, _, _⟩) (v := ?_) rfl (by kernel_rfl) (by kernel_rfl) (by kernel_rfl) (fun _ _ _ h => h) (by rfl) ?_ HB5.out ?_
  rotate_left
  · intro W hW; have hq := HK.out W hW; go_simp; with_reducible rfl
  simp only [Act.put, List.setIfInBounds_toArray, List.set_cons_zero, List.set_cons_succ]
  refine take_in (i := 9) (oi := ⟨_, _, _, _, _, _⟩) (v := ?_) rfl (by kernel_rfl) (by kernel_rfl) (by kernel_rfl) (fun _ _ _ h => h) (by rfl) ?_ HB5.out ?_
  rotate_left
  · intro W hW; have hq := HK.out W hW; go_simp; with_reducible rfl
  simp only [Act.put, List.setIfInBounds_toArray, List.set_cons_zero, List.set_cons_succ]
  refine take_in (i := 10) (oi := ⟨_, _, _, _, _, _⟩) (v := ?_) rfl (by kernel_rfl) (by kernel_rfl) (by kernel_rfl) (fun _ _ _ h => h) (by rfl) ?_ HB5.out ?_
  rotate_left
  · intro W hW; have hq := HK.out W hW; go_simp; with_reducible rfl
  simp only [Act.put, List.setIfInBounds_toArray, List.set_cons_zero, List.set_cons_succ]
  refine wpAnyH_ready (rs := [11]) (by kernel_rfl) (by simp) ?_
  refine AllReadyH.cons (o := ⟨_, _, _, _, _, _⟩) rfl (fun K hK => ?_) AllReadyH.nil
  go_simp
  refine (between_c _ _ _ _).mono ?_
  rintro e w1 ⟨rfl, hb⟩
  have HB6 := Lib.hid (HB5.out.trans (hb.mono HB5.out.size)); clear hb
  refine hK.out _ _ HB6.out (fun _ => ?_)
  clear hK K
  refine take_in (i := 12) (oi := ⟨_, _, _, _, _, _⟩) (v := ?_) rfl (by kernel_rfl) (by kernel_rfl) (by kernel_rfl) (fun _ _ _ h => h) (by rfl) ?_ HB6.out ?_
  rotate_left
  · intro W hW; go_simp; with_reducible rfl
  simp only [Act.put, List.setIfInBounds_toArray, List.set_cons_zero, List.set_cons_succ]
  refine wpAnyH_done (by kernel_rfl) ?_ _
  have hb := HB6.out
  clear HB5 HB6 HK
  have HY := Lib.hid (HY.out.all hb)
  have HD := Lib.hid (HD.out.keep hb.size (fun k hk => hb.block k (HD.out.lt k hk)))
  have HG := Lib.hid (Gw.of_below (F := F) hb)
  clear hb
  have hwr : IntKind.i64.wrap ((m : Int) - d.safe) = (m : Int) - d.safe := by rw [IntKind.wrap_i64]; omega
  rw [hwr]
  clear hwr
  obtain ⟨q, hq⟩ : ∃ q, q = max 0 (min keep ((m : Int) - d.safe)) := ⟨_, rfl⟩
  rw [← hq] at HT ⊢
  have hq0 : 0 ≤ q := by omega
  have hqm : d.safe + q ≤ m := by omega
  have HQ := Lib.hid hq; clear hq
  have z1 := HY.out.c1
  go_wp2_with fail
  refine (leave_c _ d _ (d.safe + q).toNat (by omega) (by rw [← HL.out]; omega) F _ HD.out).mono ?_
  rintro e w2 ⟨F2, rfl, hd, hg⟩
  obtain ⟨A2, n2, c2, hy2, ho2, hF2, _⟩ := hd.at
  have HY2 := Lib.hid hy2; have HO2 := Lib.hid ho2; have HF2 := Lib.hid hF2; have HG := Lib.hid (HG.out.trans hg)
  clear hd hg hy2 ho2 hF2
  simp only [leaveD] at HY2 HO2
  rw [HT.out] at HO2
  have y0 := HY2.out.c0; have y1 := HY2.out.c1; have y3 := HY2.out.c3; have y4 := HY2.out.c4
  have f1 := frozen_of_row w2 g 1 _ _ HY2.out
  have f3 := frozen_of_row w2 g 3 _ _ HY2.out
  have f4 := frozen_of_row w2 g 4 _ _ HY2.out
  go_wp2
  go_end0
  have a1 := HY2.out.setS (n2 : Int)
  have a2 := a1.setO false
  have b1 := own_put (i := 1) HY2.out HO2.out (.int .i64 (n2 : Int))
  have b2 := own_put (i := 4) a1 b1 (.bool false)
  refine RetK.trans HG.out (ret_same _ HF2.out ((((Kp.refl _ _).setCell (fs_own HF2.out) _).setCell (fs_own HF2.out) _).setCell (fs_own HF2.out) _) ?_ (own_put a2 b2 _) HI.out)
  show Dy _ g A2 n2 c2 ((d.data.take (d.safe.toNat + keep.toNat)).length : Int) d.room (-1) false
  rw [← HO2.out.1]
  exact a2.setF (-1)
theorem cut_min (d : D) (n : Int) : d.data.take (max 0 (min n (d.data.length : Int))).toNat = d.data.take n.toNat := by
  by_cases h : n ≤ (d.data.length : Int)
  · congr 1
    omega
  · rw [List.take_of_length_le (by omega), List.take_of_length_le (by omega)]
theorem cut_c (p : Value) (d : D) (n : Int) (_hk : I64 n) (F : Nat → Prop) (w : World) (h : Dd w F p d) : Calls Try.prog 20 #[p, .int .i64 n] w (RetK w F p (cutD d n) (.tuple #[])) := by
  obtain ⟨g, A, m, c, rfl, hy, ho, hF, hi⟩ := h
  have HY := Lib.hid hy; have HD := Lib.hid (show Dd w F (.pointer (some ⟨g, 0, none⟩)) d from ⟨g, A, m, c, rfl, hy, ho, hF, hi⟩)
  have HL : Hid (m = d.data.length) := Lib.hid ho.1
  have hs0 := hi.1.1
  clear hy ho hF hi
  have z0 := HY.out.c0; have z4 := HY.out.c4
  cases hoff : d.off with
  | true =>
    have e1 : cutD d n = d := by unfold cutD; rw [hoff]; rfl
    rw [e1]
    rw [hoff] at z4
    go_enter Try.func20, Try.ntmps20
    go_wp2
    go_end0
    exact ⟨F, rfl, HD.out, Kp.refl _ _, fun _ h => Or.inl h⟩
  | false =>
    have HE : Hid (cutD d n = leaveD d (max 0 (min n (m : Int))).toNat) := Lib.hid (by
      have e2 := cut_min d n
      rw [← HL.out] at e2
      unfold cutD leaveD
      rw [hoff, ← e2]
      simp only [Bool.false_eq_true, if_false, D.mk.injEq, true_and, and_true, List.length_take, ← HL.out]
      split <;> omega)
    rw [HE.out]
    rw [hoff] at z4
    go_enter Try.func20, Try.ntmps20
    go_wp2_with fail
    refine (between_c _ _ _ _).mono ?_
    rintro e w1 ⟨rfl, hb⟩
    have HD := Lib.hid (HD.out.keep hb.size (fun k hk => hb.block k (HD.out.lt k hk)))
    have HG := Lib.hid (Gw.of_below (F := F) hb)
    clear hb
    obtain ⟨q, hq⟩ : ∃ q, q = max 0 (min n (m : Int)) := ⟨_, rfl⟩
    simp only [← hq]
    have hq0 : 0 ≤ q ∧ q ≤ m := by omega
    have HQ := Lib.hid hq; clear hq
    go_wp2_with fail
    refine (leave_c _ d _ q.toNat (by omega) (by rw [← HL.out]; omega) F _ HD.out).mono ?_
    intro e w2 hr
    have HR := Lib.hid (RetK.trans HG.out hr)
    obtain ⟨F2, rfl, hd, hg⟩ := hr
    clear hd hg
    go_wp2
    go_end0
    rw [← HQ.out]
    exact HR.out
end Go.Proofs.Ytgcmejhgfdipkaa.Dkw
