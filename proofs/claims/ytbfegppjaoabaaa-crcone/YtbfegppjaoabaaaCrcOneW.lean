/- The walk of CrcOne. -/
import Derived.Test.YtbfegppjaoabaaaCrcA
import Derived.Test.YtbfegppjaoabaaaArr4
import Derived.Deep.DeepCutAuto
namespace Go.Proofs.Ytbfegppjaoabaaa.crcOne
open Go.RowKit
open Crc

theorem rd_any (w : World) (xs : List Value) (ty : TypeId) : Rd (w.alloc (.cells xs.toArray ty)) (w.heap.size + 1) (some ⟨w.heap.size, 0, none⟩) xs := by
  intro _
  refine ⟨_, _, rfl, by omega, fun j u hu => ?_⟩
  rw [cell_of_row _ _ _ _ _ _ (heap_alloc_new w _)]
  simpa using hu
theorem rd_at (w : World) (xs : List Value) (ty : TypeId) (g : Nat) (hg : g = w.heap.size) : Rd (w.alloc (.cells xs.toArray ty)) (w.alloc (.cells xs.toArray ty)).heap.size (some ⟨g, 0, none⟩) xs := by
  subst hg
  exact (rd_any w xs ty).more (by simp)

set_option maxRecDepth 100000 in
theorem walk (w : World) (A : Option Addr) (n c : Nat) (bs : List UInt8) (hn : n = bs.length) (_hc : n ≤ c) (hr : Rd w w.heap.size A (bs.map B8)) (_hl : c * 1 ≤ 140737488351232)
    (A1 : Option Addr) (n1 c1 : Nat) (ts : List UInt8) (hn1 : n1 = ts.length) (_hc1 : n1 ≤ c1) (hr1 : Rd w w.heap.size A1 (ts.map B8)) (_hl1 : c1 * 1 ≤ 140737488351232)
    (x0 x1 x2 x3 y0 y1 y2 y3 : UInt8) :
    Calls Try.prog 9 #[.slice A n c, .slice A1 n1 c1, .agg #[.int .u8 (x0.toNat : Int), .int .u8 (x1.toNat : Int), .int .u8 (x2.toNat : Int), .int .u8 (x3.toNat : Int), .int .u8 (y0.toNat : Int), .int .u8 (y1.toNat : Int), .int .u8 (y2.toNat : Int), .int .u8 (y3.toNat : Int)]] w fun e w' => e = .returned (.bool true) ∧ Below w.heap.size w w' := by
  have hb : n ≤ big := by unfold big; omega
  have hb1 : n1 ≤ big := by unfold big; omega
  clear _hc _hl _hc1 _hl1
  have HN := Lib.hid hn; clear hn
  have HR := Lib.hid hr; clear hr
  have HN1 := Lib.hid hn1; clear hn1
  have HR1 := Lib.hid hr1; clear hr1
  go_enter Try.func9, Try.ntmps9
  go_wp2_with fail
  refine (alive_c _).mono ?_
  rintro e w2 ⟨rfl, hb2⟩
  rw [World.size_alloc] at hb2
  have hc0 : w2.cell? ⟨w.heap.size, 0, none⟩ = some (.int .u8 (x0.toNat : Int)) := by
    rw [hb2.cell (by simp), cell_of_row _ _ _ _ _ _ (heap_alloc_new w _)]
    rfl
  have hc1 : w2.cell? ⟨w.heap.size, 1, none⟩ = some (.int .u8 (x1.toNat : Int)) := by
    rw [hb2.cell (by simp), cell_of_row _ _ _ _ _ _ (heap_alloc_new w _)]
    rfl
  have hc2 : w2.cell? ⟨w.heap.size, 2, none⟩ = some (.int .u8 (x2.toNat : Int)) := by
    rw [hb2.cell (by simp), cell_of_row _ _ _ _ _ _ (heap_alloc_new w _)]
    rfl
  have hc3 : w2.cell? ⟨w.heap.size, 3, none⟩ = some (.int .u8 (x3.toNat : Int)) := by
    rw [hb2.cell (by simp), cell_of_row _ _ _ _ _ _ (heap_alloc_new w _)]
    rfl
  have hc4 : w2.cell? ⟨w.heap.size, 4, none⟩ = some (.int .u8 (y0.toNat : Int)) := by
    rw [hb2.cell (by simp), cell_of_row _ _ _ _ _ _ (heap_alloc_new w _)]
    rfl
  have hc5 : w2.cell? ⟨w.heap.size, 5, none⟩ = some (.int .u8 (y1.toNat : Int)) := by
    rw [hb2.cell (by simp), cell_of_row _ _ _ _ _ _ (heap_alloc_new w _)]
    rfl
  have hc6 : w2.cell? ⟨w.heap.size, 6, none⟩ = some (.int .u8 (y2.toNat : Int)) := by
    rw [hb2.cell (by simp), cell_of_row _ _ _ _ _ _ (heap_alloc_new w _)]
    rfl
  have hc7 : w2.cell? ⟨w.heap.size, 7, none⟩ = some (.int .u8 (y3.toNat : Int)) := by
    rw [hb2.cell (by simp), cell_of_row _ _ _ _ _ _ (heap_alloc_new w _)]
    rfl
  have hb2' : Below w.heap.size w w2 := ((Below.refl _ _).alloc (Nat.le_refl _) _).trans (hb2.mono (by omega))
  have hs2 : w.heap.size + 1 ≤ w2.heap.size := by have := hb2.size; rwa [World.size_alloc] at this
  have HB2 := Lib.hid hb2'; clear hb2 hb2'
  have HK : Hid (∀ W', Below w2.heap.size w2 W' → W'.cell? ⟨w.heap.size, 0, none⟩ = some (.int .u8 (x0.toNat : Int)) ∧ W'.cell? ⟨w.heap.size, 1, none⟩ = some (.int .u8 (x1.toNat : Int)) ∧ W'.cell? ⟨w.heap.size, 2, none⟩ = some (.int .u8 (x2.toNat : Int)) ∧ W'.cell? ⟨w.heap.size, 3, none⟩ = some (.int .u8 (x3.toNat : Int)) ∧ W'.cell? ⟨w.heap.size, 4, none⟩ = some (.int .u8 (y0.toNat : Int)) ∧ W'.cell? ⟨w.heap.size, 5, none⟩ = some (.int .u8 (y1.toNat : Int)) ∧ W'.cell? ⟨w.heap.size, 6, none⟩ = some (.int .u8 (y2.toNat : Int)) ∧ W'.cell? ⟨w.heap.size, 7, none⟩ = some (.int .u8 (y3.toNat : Int))) := Lib.hid (by
    intro W' h
    exact ⟨(h.cell (show w.heap.size < _ by omega)).trans hc0, (h.cell (show w.heap.size < _ by omega)).trans hc1, (h.cell (show w.heap.size < _ by omega)).trans hc2, (h.cell (show w.heap.size < _ by omega)).trans hc3, (h.cell (show w.heap.size < _ by omega)).trans hc4, (h.cell (show w.heap.size < _ by omega)).trans hc5, (h.cell (show w.heap.size < _ by omega)).trans hc6, (h.cell (show w.heap.size < _ by omega)).trans hc7⟩)
  clear hc0 hc1 hc2 hc3 hc4 hc5 hc6 hc7
  go_upto_region 3 with (fail)
  go_cut [7, 8] (fun s7 s8 wq => ∃ g7 g8, s7 = .pointer (some ⟨g7, 0, none⟩) ∧ s8 = .pointer (some ⟨g8, 0, none⟩) ∧ Rd wq wq.heap.size (some ⟨g7, 0, none⟩) ([x0, x1, x2, x3].map B8) ∧ Rd wq wq.heap.size (some ⟨g8, 0, none⟩) ([y0, y1, y2, y3].map B8) ∧ Below w2.heap.size w2 wq)
  case first =>
    refine wp_region_held_drew (S := fun W' => Below w2.heap.size w2 W') (by kernel_rfl) (Below.refl _ _).drew (fun hHeld => ?_)
    generalize w2.drew = w3 at hHeld ⊢
    have HB3 : Hid (Below w2.heap.size w2 w3) := hHeld
    clear hHeld
    have hs3 := HB3.out.size
    refine take_in (i := 0) (oi := ⟨_, _, _, _, _, _⟩) (v := ?_) rfl (by kernel_rfl) (by kernel_rfl) (by kernel_rfl) (fun _ _ _ h => h) (by rfl) ?_ HB3.out ?_
    rotate_left
    · intro W hW; have hq := HK.out W hW; go_simp; with_reducible rfl
    simp only [Act.put, List.setIfInBounds_toArray, List.set_cons_zero, List.set_cons_succ]
    refine take_in (i := 1) (oi := ⟨_, _, _, _, _, _⟩) (v := ?_) rfl (by kernel_rfl) (by kernel_rfl) (by kernel_rfl) (fun _ _ _ h => h) (by rfl) ?_ HB3.out ?_
    rotate_left
    · intro W hW; have hq := HK.out W hW; go_simp; with_reducible rfl
    simp only [Act.put, List.setIfInBounds_toArray, List.set_cons_zero, List.set_cons_succ]
    refine take_in (i := 2) (oi := ⟨_, _, _, _, _, _⟩) (v := ?_) rfl (by kernel_rfl) (by kernel_rfl) (by kernel_rfl) (fun _ _ _ h => h) (by rfl) ?_ HB3.out ?_
    rotate_left
    · intro W hW; have hq := HK.out W hW; go_simp; with_reducible rfl
    simp only [Act.put, List.setIfInBounds_toArray, List.set_cons_zero, List.set_cons_succ]
    refine take_in (i := 3) (oi := ⟨_, _, _, _, _, _⟩) (v := ?_) rfl (by kernel_rfl) (by kernel_rfl) (by kernel_rfl) (fun _ _ _ h => h) (by rfl) ?_ HB3.out ?_
    rotate_left
    · intro W hW; have hq := HK.out W hW; go_simp; with_reducible rfl
    simp only [Act.put, List.setIfInBounds_toArray, List.set_cons_zero, List.set_cons_succ]
    refine wpAnyH_ready (rs := [4, 5]) (by kernel_rfl) (by simp) ?_
    refine AllReadyH.cons (o := ⟨_, _, _, _, _, _⟩) rfl (fun K hK => ?_) (AllReadyH.cons (o := ⟨_, _, _, _, _, _⟩) rfl (fun K hK => ?_) AllReadyH.nil)
    · go_simp
      refine hK.out _ _ (HB3.out.alloc hs3 _) (fun _ => ?_)
      clear hK K
      refine wpAnyH_ready (rs := [5]) (by kernel_rfl) (by simp) ?_
      refine AllReadyH.cons (o := ⟨_, _, _, _, _, _⟩) rfl (fun K hK => ?_) AllReadyH.nil
      go_simp
      refine hK.out _ _ ((HB3.out.alloc hs3 _).alloc (by simp; omega) _) (fun _ => ?_)
      clear hK K
      refine wpAnyH_ready (rs := [6]) (by kernel_rfl) (by simp) ?_
      refine AllReadyH.cons (o := ⟨_, _, _, _, _, _⟩) rfl (fun K hK => ?_) AllReadyH.nil
      go_simp
      refine hK.out _ _ ((HB3.out.alloc hs3 (.cells #[.int .u8 (x0.toNat : Int), .int .u8 (x1.toNat : Int), .int .u8 (x2.toNat : Int), .int .u8 (x3.toNat : Int)] 39)).alloc (by simp; omega) (.cells #[.int .u8 0, .int .u8 0, .int .u8 0, .int .u8 0] 39)) (fun _ => ?_)
      clear hK K
      refine wpAnyH_ready (rs := [7]) (by kernel_rfl) (by simp) ?_
      refine AllReadyH.cons (o := ⟨_, _, _, _, _, _⟩) rfl (fun K hK => ?_) AllReadyH.nil
      go_simp
      refine hK.out _ _ ((HB3.out.alloc hs3 (.cells #[.int .u8 (x0.toNat : Int), .int .u8 (x1.toNat : Int), .int .u8 (x2.toNat : Int), .int .u8 (x3.toNat : Int)] 39)).alloc (by simp; omega) (.cells #[.int .u8 (y0.toNat : Int), .int .u8 (y1.toNat : Int), .int .u8 (y2.toNat : Int), .int .u8 (y3.toNat : Int)] 39)) (fun _ => ?_)
      clear hK K
      refine wpAnyH_done (by kernel_rfl) ?_ _
      go_wp2
      go_meet
      case rel =>
        exact ⟨w3.heap.size, w3.heap.size + 1, rfl, rfl, ((rd_any w3 (([x0, x1, x2, x3] : List UInt8).map B8) 39).below ((Below.refl _ _).alloc (by simp) _)).more (by simp), rd_at (w3.alloc _) (([y0, y1, y2, y3] : List UInt8).map B8) 39 (w3.heap.size + 1) (by simp), (HB3.out.alloc hs3 (.cells #[.int .u8 (x0.toNat : Int), .int .u8 (x1.toNat : Int), .int .u8 (x2.toNat : Int), .int .u8 (x3.toNat : Int)] 39)).alloc (by simp; omega) (.cells #[.int .u8 (y0.toNat : Int), .int .u8 (y1.toNat : Int), .int .u8 (y2.toNat : Int), .int .u8 (y3.toNat : Int)] 39)⟩
    · go_simp
      refine hK.out _ _ (HB3.out.alloc hs3 _) (fun _ => ?_)
      clear hK K
      refine wpAnyH_ready (rs := [4]) (by kernel_rfl) (by simp) ?_
      refine AllReadyH.cons (o := ⟨_, _, _, _, _, _⟩) rfl (fun K hK => ?_) AllReadyH.nil
      go_simp
      refine hK.out _ _ ((HB3.out.alloc hs3 _).alloc (by simp; omega) _) (fun _ => ?_)
      clear hK K
      refine wpAnyH_ready (rs := [6]) (by kernel_rfl) (by simp) ?_
      refine AllReadyH.cons (o := ⟨_, _, _, _, _, _⟩) rfl (fun K hK => ?_) AllReadyH.nil
      go_simp
      refine hK.out _ _ ((HB3.out.alloc hs3 (.cells #[.int .u8 0, .int .u8 0, .int .u8 0, .int .u8 0] 39)).alloc (by simp; omega) (.cells #[.int .u8 (x0.toNat : Int), .int .u8 (x1.toNat : Int), .int .u8 (x2.toNat : Int), .int .u8 (x3.toNat : Int)] 39)) (fun _ => ?_)
      clear hK K
      refine wpAnyH_ready (rs := [7]) (by kernel_rfl) (by simp) ?_
      refine AllReadyH.cons (o := ⟨_, _, _, _, _, _⟩) rfl (fun K hK => ?_) AllReadyH.nil
      go_simp
      refine hK.out _ _ ((HB3.out.alloc hs3 (.cells #[.int .u8 (y0.toNat : Int), .int .u8 (y1.toNat : Int), .int .u8 (y2.toNat : Int), .int .u8 (y3.toNat : Int)] 39)).alloc (by simp; omega) (.cells #[.int .u8 (x0.toNat : Int), .int .u8 (x1.toNat : Int), .int .u8 (x2.toNat : Int), .int .u8 (x3.toNat : Int)] 39)) (fun _ => ?_)
      clear hK K
      refine wpAnyH_done (by kernel_rfl) ?_ _
      go_wp2
      go_meet
      case rel =>
        exact ⟨w3.heap.size + 1, w3.heap.size, rfl, rfl, rd_at (w3.alloc _) (([x0, x1, x2, x3] : List UInt8).map B8) 39 (w3.heap.size + 1) (by simp), ((rd_any w3 (([y0, y1, y2, y3] : List UInt8).map B8) 39).below ((Below.refl _ _).alloc (by simp) _)).more (by simp), (HB3.out.alloc hs3 (.cells #[.int .u8 (y0.toNat : Int), .int .u8 (y1.toNat : Int), .int .u8 (y2.toNat : Int), .int .u8 (y3.toNat : Int)] 39)).alloc (by simp; omega) (.cells #[.int .u8 (x0.toNat : Int), .int .u8 (x1.toNat : Int), .int .u8 (x2.toNat : Int), .int .u8 (x3.toNat : Int)] 39)⟩
  case rest =>
    obtain ⟨g7, g8, rfl, rfl, hr7, hr8, hbc⟩ := hcut
    obtain ⟨b7, o7, e7, hlt7, hc7⟩ := hr7 (by simp)
    obtain ⟨b8, o8, e8, hlt8, hc8⟩ := hr8 (by simp)
    simp only [Option.some.injEq, Addr.mk.injEq] at e7 e8
    obtain ⟨rfl, rfl, _⟩ := e7
    obtain ⟨rfl, rfl, _⟩ := e8
    have hsc := hbc.size
    have HBC := Lib.hid (HB2.out.trans (hbc.mono (by omega))); clear hbc
    have HR7 := Lib.hid hr7; clear hr7
    have HR8 := Lib.hid hr8; clear hr8
    have HKC : Hid (∀ W', Below wc.heap.size wc W' → W'.cell? ⟨g7, 0, none⟩ = some (.int .u8 (x0.toNat : Int)) ∧ W'.cell? ⟨g7, 1, none⟩ = some (.int .u8 (x1.toNat : Int)) ∧ W'.cell? ⟨g7, 2, none⟩ = some (.int .u8 (x2.toNat : Int)) ∧ W'.cell? ⟨g7, 3, none⟩ = some (.int .u8 (x3.toNat : Int)) ∧ W'.cell? ⟨g8, 0, none⟩ = some (.int .u8 (y0.toNat : Int)) ∧ W'.cell? ⟨g8, 1, none⟩ = some (.int .u8 (y1.toNat : Int)) ∧ W'.cell? ⟨g8, 2, none⟩ = some (.int .u8 (y2.toNat : Int)) ∧ W'.cell? ⟨g8, 3, none⟩ = some (.int .u8 (y3.toNat : Int))) := Lib.hid (by
      intro W' h
      exact ⟨(h.cell hlt7).trans ((congrArg _ (by simp)).trans (hc7 0 _ rfl)), (h.cell hlt7).trans ((congrArg _ (by simp)).trans (hc7 1 _ rfl)), (h.cell hlt7).trans ((congrArg _ (by simp)).trans (hc7 2 _ rfl)), (h.cell hlt7).trans ((congrArg _ (by simp)).trans (hc7 3 _ rfl)), (h.cell hlt8).trans ((congrArg _ (by simp)).trans (hc8 0 _ rfl)), (h.cell hlt8).trans ((congrArg _ (by simp)).trans (hc8 1 _ rfl)), (h.cell hlt8).trans ((congrArg _ (by simp)).trans (hc8 2 _ rfl)), (h.cell hlt8).trans ((congrArg _ (by simp)).trans (hc8 3 _ rfl))⟩)
    have KEY1 : Hid (∀ W' g, Below wc.heap.size wc W' → Rd W' W'.heap.size (some ⟨g, 0, none⟩) [.slice A n c, .slice (some ⟨g7, 0, none⟩) 4 4, .slice A1 n1 c1] → Calls Try.prog 14 #[.slice (some ⟨g, 0, none⟩) 3 3] W' fun e w' => e = .returned (.int .u32 ((sum (bs ++ ([x0, x1, x2, x3] ++ ts))).toNat : Int)) ∧ W' = w') := Lib.hid (by
      intro W' g h hg
      have hw := HBC.out.trans (h.mono HBC.out.size)
      have := of_c (some ⟨g, 0, none⟩) 3 3 [⟨A, n, c, bs⟩, ⟨some ⟨g7, 0, none⟩, 4, 4, [x0, x1, x2, x3]⟩, ⟨A1, n1, c1, ts⟩] rfl (by show 3 ≤ big; unfold big; omega) W'.heap.size W' ⟨hg, by
        intro p hp
        simp only [List.mem_cons, List.not_mem_nil, or_false] at hp
        rcases hp with rfl | rfl | rfl
        · exact ⟨HN.out, hb, (HR.out.below hw).more hw.size⟩
        · exact ⟨rfl, by show 4 ≤ big; unfold big; omega, (HR7.out.below h).more h.size⟩
        · exact ⟨HN1.out, hb1, (HR1.out.below hw).more hw.size⟩⟩
      simpa [Part.all] using this)
    have KEY2 : Hid (∀ W' g, Below wc.heap.size wc W' → Rd W' W'.heap.size (some ⟨g, 0, none⟩) [.slice A n c, .slice (some ⟨g8, 0, none⟩) 4 4, .slice A1 n1 c1] → Calls Try.prog 14 #[.slice (some ⟨g, 0, none⟩) 3 3] W' fun e w' => e = .returned (.int .u32 ((sum (bs ++ ([y0, y1, y2, y3] ++ ts))).toNat : Int)) ∧ W' = w') := Lib.hid (by
      intro W' g h hg
      have hw := HBC.out.trans (h.mono HBC.out.size)
      have := of_c (some ⟨g, 0, none⟩) 3 3 [⟨A, n, c, bs⟩, ⟨some ⟨g8, 0, none⟩, 4, 4, [y0, y1, y2, y3]⟩, ⟨A1, n1, c1, ts⟩] rfl (by show 3 ≤ big; unfold big; omega) W'.heap.size W' ⟨hg, by
        intro p hp
        simp only [List.mem_cons, List.not_mem_nil, or_false] at hp
        rcases hp with rfl | rfl | rfl
        · exact ⟨HN.out, hb, (HR.out.below hw).more hw.size⟩
        · exact ⟨rfl, by show 4 ≤ big; unfold big; omega, (HR8.out.below h).more h.size⟩
        · exact ⟨HN1.out, hb1, (HR1.out.below hw).more hw.size⟩⟩
      simpa [Part.all] using this)
    obtain ⟨v, hv⟩ : ∃ v, v = decide ((x0.toNat : Int) = (y0.toNat : Int) ∧ (x1.toNat : Int) = (y1.toNat : Int) ∧ (x2.toNat : Int) = (y2.toNat : Int) ∧ (x3.toNat : Int) = (y3.toNat : Int)) := ⟨_, rfl⟩
    have heq : ∀ w, (Op.equalIn 10000 39 (.agg #[.int .u8 (x0.toNat : Int), .int .u8 (x1.toNat : Int), .int .u8 (x2.toNat : Int), .int .u8 (x3.toNat : Int)]) (.agg #[.int .u8 (y0.toNat : Int), .int .u8 (y1.toNat : Int), .int .u8 (y2.toNat : Int), .int .u8 (y3.toNat : Int)])).run Try.prog w = .ok v w := by
      intro w
      rw [hv]
      exact eq_four _ _ _ _ _ _ _ _ w
    have hsame : (((sum (bs ++ ([x0, x1, x2, x3] ++ ts))).toNat : Int) == ((sum (bs ++ ([y0, y1, y2, y3] ++ ts))).toNat : Int)) = v := by
      rw [hv, Bool.eq_iff_iff, beq_iff_eq, decide_eq_true_iff]
      constructor
      · intro h
        have h1 := sum_one bs [x0, x1, x2, x3] [y0, y1, y2, y3] ts rfl rfl (BitVec.eq_of_toNat_eq (by omega))
        simp only [List.cons.injEq, and_true] at h1
        obtain ⟨rfl, rfl, rfl, rfl⟩ := h1
        simp
      · rintro ⟨h0, h1, h2, h3⟩
        have e0 : x0 = y0 := UInt8.toNat_inj.1 (by omega)
        have e1 : x1 = y1 := UInt8.toNat_inj.1 (by omega)
        have e2 : x2 = y2 := UInt8.toNat_inj.1 (by omega)
        have e3 : x3 = y3 := UInt8.toNat_inj.1 (by omega)
        rw [e0, e1, e2, e3]
    clear hv
    generalize (sum (bs ++ ([x0, x1, x2, x3] ++ ts))).toNat = s1 at KEY1 hsame
    generalize (sum (bs ++ ([y0, y1, y2, y3] ++ ts))).toNat = s2 at KEY2 hsame
    clear HK hs2
    go_wp2
    refine wp_region_held_drew (S := fun W' => Below wc.heap.size wc W') (by kernel_rfl) (Below.refl _ _).drew (fun hHeld => ?_)
    generalize wc.drew = w5 at hHeld ⊢
    have HB5 : Hid (Below wc.heap.size wc w5) := hHeld
    clear hHeld
    have hs5 := HB5.out.size
    obtain ⟨o1, ho1⟩ : ∃ o1, o1 = Obj.cells #[.slice A n c, .slice (some ⟨g7, 0, none⟩) 4 4, .slice A1 n1 c1] 22 := ⟨_, rfl⟩
    obtain ⟨o2, ho2⟩ : ∃ o2, o2 = Obj.cells #[.slice A n c, .slice (some ⟨g8, 0, none⟩) 4 4, .slice A1 n1 c1] 22 := ⟨_, rfl⟩
    have HX1 : Hid (∀ W' g, Below wc.heap.size wc W' → g = W'.heap.size → Rd (W'.alloc o1) (W'.alloc o1).heap.size (some ⟨g, 0, none⟩) [.slice A n c, .slice (some ⟨g7, 0, none⟩) 4 4, .slice A1 n1 c1]) := Lib.hid (by
      intro W' g _ hg
      rw [ho1]
      exact rd_at W' [.slice A n c, .slice (some ⟨g7, 0, none⟩) 4 4, .slice A1 n1 c1] 22 g hg)
    have HX2 : Hid (∀ W' g, Below wc.heap.size wc W' → g = W'.heap.size → Rd (W'.alloc o2) (W'.alloc o2).heap.size (some ⟨g, 0, none⟩) [.slice A n c, .slice (some ⟨g8, 0, none⟩) 4 4, .slice A1 n1 c1]) := Lib.hid (by
      intro W' g _ hg
      rw [ho2]
      exact rd_at W' [.slice A n c, .slice (some ⟨g8, 0, none⟩) 4 4, .slice A1 n1 c1] 22 g hg)
    have HO1 := Lib.hid ho1; clear ho1
    have HO2 := Lib.hid ho2; clear ho2
    have HBL : Hid (∀ W' o, Below wc.heap.size wc W' → Below wc.heap.size wc (W'.alloc o)) := Lib.hid (fun W' o h => h.alloc h.size o)
    refine take_in (i := 0) (oi := ⟨_, _, _, _, _, _⟩) (v := ?_) rfl (by kernel_rfl) (by kernel_rfl) (by kernel_rfl) (fun _ _ _ h => h) (by rfl) ?_ HB5.out ?_
    rotate_left
    · intro W hW; have hq := HKC.out W hW; go_simp; with_reducible rfl
    simp only [Act.put, List.setIfInBounds_toArray, List.set_cons_zero, List.set_cons_succ]
    refine take_in (i := 1) (oi := ⟨_, _, _, _, _, _⟩) (v := ?_) rfl (by kernel_rfl) (by kernel_rfl) (by kernel_rfl) (fun _ _ _ h => h) (by rfl) ?_ HB5.out ?_
    rotate_left
    · intro W hW; have hq := HKC.out W hW; go_simp; with_reducible rfl
    simp only [Act.put, List.setIfInBounds_toArray, List.set_cons_zero, List.set_cons_succ]
    refine take_in (i := 2) (oi := ⟨_, _, _, _, _, _⟩) (v := ?_) rfl (by kernel_rfl) (by kernel_rfl) (by kernel_rfl) (fun _ _ _ h => h) (by rfl) ?_ HB5.out ?_
    rotate_left
    · intro W hW; have hq := HKC.out W hW; go_simp; with_reducible rfl
    simp only [Act.put, List.setIfInBounds_toArray, List.set_cons_zero, List.set_cons_succ]
    refine take_in (i := 5) (oi := ⟨_, _, _, _, _, _⟩) (v := ?_) rfl (by kernel_rfl) (by kernel_rfl) (by kernel_rfl) (fun _ _ _ h => h) (by rfl) ?_ HB5.out ?_
    rotate_left
    · intro W hW; have hq := HKC.out W hW; go_simp; with_reducible rfl
    simp only [Act.put, List.setIfInBounds_toArray, List.set_cons_zero, List.set_cons_succ]
    refine take_in (i := 6) (oi := ⟨_, _, _, _, _, _⟩) (v := ?_) rfl (by kernel_rfl) (by kernel_rfl) (by kernel_rfl) (fun _ _ _ h => h) (by rfl) ?_ HB5.out ?_
    rotate_left
    · intro W hW; have hq := HKC.out W hW; go_simp; with_reducible rfl
    simp only [Act.put, List.setIfInBounds_toArray, List.set_cons_zero, List.set_cons_succ]
    refine take_in (i := 7) (oi := ⟨_, _, _, _, _, _⟩) (v := ?_) rfl (by kernel_rfl) (by kernel_rfl) (by kernel_rfl) (fun _ _ _ h => h) (by rfl) ?_ HB5.out ?_
    rotate_left
    · intro W hW; have hq := HKC.out W hW; go_simp; with_reducible rfl
    simp only [Act.put, List.setIfInBounds_toArray, List.set_cons_zero, List.set_cons_succ]
    refine take_in (i := 11) (oi := ⟨_, _, _, _, _, _⟩) (v := ?_) rfl (by kernel_rfl) (by kernel_rfl) (by kernel_rfl) (fun _ _ _ h => h) (by rfl) ?_ HB5.out ?_
    rotate_left
    · intro W hW; have hq := HKC.out W hW; go_simp; with_reducible rfl
    simp only [Act.put, List.setIfInBounds_toArray, List.set_cons_zero, List.set_cons_succ]
    refine take_in (i := 12) (oi := ⟨_, _, _, _, _, _⟩) (v := ?_) rfl (by kernel_rfl) (by kernel_rfl) (by kernel_rfl) (fun _ _ _ h => h) (by rfl) ?_ HB5.out ?_
    rotate_left
    · intro W hW; have hq := HKC.out W hW; go_simp; with_reducible rfl
    simp only [Act.put, List.setIfInBounds_toArray, List.set_cons_zero, List.set_cons_succ]
    refine take_in (i := 13) (oi := ⟨_, _, _, _, _, _⟩) (v := ?_) rfl (by kernel_rfl) (by kernel_rfl) (by kernel_rfl) (fun _ _ _ h => h) (by rfl) ?_ HB5.out ?_
    rotate_left
    · intro W hW; have hq := HKC.out W hW; go_simp; with_reducible rfl
    simp only [Act.put, List.setIfInBounds_toArray, List.set_cons_zero, List.set_cons_succ]
    refine wpAnyH_ready (rs := [3, 8]) (by kernel_rfl) (by simp) ?_
    refine AllReadyH.cons (o := ⟨_, _, _, _, _, _⟩) rfl (fun K hK => ?_) (AllReadyH.cons (o := ⟨_, _, _, _, _, _⟩) rfl (fun K hK => ?_) AllReadyH.nil)
    · go_simp
      rw [← HO1.out]
      refine hK.out _ _ (HBL.out _ _ HB5.out) (fun _ => ?_)
      clear hK K
      refine wpAnyH_ready (rs := [4, 8]) (by kernel_rfl) (by simp) ?_
      refine AllReadyH.cons (o := ⟨_, _, _, _, _, _⟩) rfl (fun K hK => ?_) (AllReadyH.cons (o := ⟨_, _, _, _, _, _⟩) rfl (fun K hK => ?_) AllReadyH.nil)
      · go_simp
        refine (KEY1.out _ _ (HBL.out _ _ HB5.out) (HX1.out _ _ HB5.out rfl)).mono ?_
        rintro e w' ⟨rfl, rfl⟩
        refine hK.out _ _ (HBL.out _ _ HB5.out) (fun _ => ?_)
        clear hK K
        refine wpAnyH_ready (rs := [8]) (by kernel_rfl) (by simp) ?_
        refine AllReadyH.cons (o := ⟨_, _, _, _, _, _⟩) rfl (fun K hK => ?_) AllReadyH.nil
        go_simp
        rw [← HO2.out]
        refine hK.out _ _ (HBL.out _ _ (HBL.out _ _ HB5.out)) (fun _ => ?_)
        clear hK K
        refine wpAnyH_ready (rs := [9]) (by kernel_rfl) (by simp) ?_
        refine AllReadyH.cons (o := ⟨_, _, _, _, _, _⟩) rfl (fun K hK => ?_) AllReadyH.nil
        go_simp
        refine (KEY2.out _ _ (HBL.out _ _ (HBL.out _ _ HB5.out)) (HX2.out _ _ (HBL.out _ _ HB5.out) (by simp))).mono ?_
        rintro e w' ⟨rfl, rfl⟩
        refine hK.out _ _ (HBL.out _ _ (HBL.out _ _ HB5.out)) (fun _ => ?_)
        clear hK K
        refine take_in (i := 10) (oi := ⟨_, _, _, _, _, _⟩) (v := ?_) rfl (by kernel_rfl) (by kernel_rfl) (by kernel_rfl) (fun _ _ _ h => h) (by rfl) ?_ (HBL.out _ _ (HBL.out _ _ HB5.out)) ?_
        rotate_left
        · intro W hW; go_simp; with_reducible rfl
        simp only [Act.put, List.setIfInBounds_toArray, List.set_cons_zero, List.set_cons_succ]
        refine take_in (i := 14) (oi := ⟨_, _, _, _, _, _⟩) (v := ?_) rfl (by kernel_rfl) (by kernel_rfl) (by kernel_rfl) (fun _ _ _ h => h) (by rfl) ?_ (HBL.out _ _ (HBL.out _ _ HB5.out)) ?_
        rotate_left
        · intro W hW; go_simp; with_reducible rfl
        simp only [Act.put, List.setIfInBounds_toArray, List.set_cons_zero, List.set_cons_succ]
        refine take_in (i := 15) (oi := ⟨_, _, _, _, _, _⟩) (v := ?_) rfl (by kernel_rfl) (by kernel_rfl) (by kernel_rfl) (fun _ _ _ h => h) (by rfl) ?_ (HBL.out _ _ (HBL.out _ _ HB5.out)) ?_
        rotate_left
        · intro W hW; go_simp; with_reducible rfl
        simp only [Act.put, List.setIfInBounds_toArray, List.set_cons_zero, List.set_cons_succ]
        refine wpAnyH_done (by kernel_rfl) ?_ _
        go_wp2
        go_ret
        exact ⟨rfl, HBC.out.trans ((HBL.out _ _ (HBL.out _ _ HB5.out)).mono HBC.out.size)⟩
      · go_simp
        rw [← HO2.out]
        refine hK.out _ _ (HBL.out _ _ (HBL.out _ _ HB5.out)) (fun _ => ?_)
        clear hK K
        refine wpAnyH_ready (rs := [4]) (by kernel_rfl) (by simp) ?_
        refine AllReadyH.cons (o := ⟨_, _, _, _, _, _⟩) rfl (fun K hK => ?_) AllReadyH.nil
        go_simp
        refine (KEY1.out _ _ (HBL.out _ _ (HBL.out _ _ HB5.out)) (((HX1.out _ _ HB5.out rfl).below ((Below.refl _ _).alloc (Nat.le_refl _) _)).more (by simp))).mono ?_
        rintro e w' ⟨rfl, rfl⟩
        refine hK.out _ _ (HBL.out _ _ (HBL.out _ _ HB5.out)) (fun _ => ?_)
        clear hK K
        refine wpAnyH_ready (rs := [9]) (by kernel_rfl) (by simp) ?_
        refine AllReadyH.cons (o := ⟨_, _, _, _, _, _⟩) rfl (fun K hK => ?_) AllReadyH.nil
        go_simp
        refine (KEY2.out _ _ (HBL.out _ _ (HBL.out _ _ HB5.out)) (HX2.out _ _ (HBL.out _ _ HB5.out) (by simp))).mono ?_
        rintro e w' ⟨rfl, rfl⟩
        refine hK.out _ _ (HBL.out _ _ (HBL.out _ _ HB5.out)) (fun _ => ?_)
        clear hK K
        refine take_in (i := 10) (oi := ⟨_, _, _, _, _, _⟩) (v := ?_) rfl (by kernel_rfl) (by kernel_rfl) (by kernel_rfl) (fun _ _ _ h => h) (by rfl) ?_ (HBL.out _ _ (HBL.out _ _ HB5.out)) ?_
        rotate_left
        · intro W hW; go_simp; with_reducible rfl
        simp only [Act.put, List.setIfInBounds_toArray, List.set_cons_zero, List.set_cons_succ]
        refine take_in (i := 14) (oi := ⟨_, _, _, _, _, _⟩) (v := ?_) rfl (by kernel_rfl) (by kernel_rfl) (by kernel_rfl) (fun _ _ _ h => h) (by rfl) ?_ (HBL.out _ _ (HBL.out _ _ HB5.out)) ?_
        rotate_left
        · intro W hW; go_simp; with_reducible rfl
        simp only [Act.put, List.setIfInBounds_toArray, List.set_cons_zero, List.set_cons_succ]
        refine take_in (i := 15) (oi := ⟨_, _, _, _, _, _⟩) (v := ?_) rfl (by kernel_rfl) (by kernel_rfl) (by kernel_rfl) (fun _ _ _ h => h) (by rfl) ?_ (HBL.out _ _ (HBL.out _ _ HB5.out)) ?_
        rotate_left
        · intro W hW; go_simp; with_reducible rfl
        simp only [Act.put, List.setIfInBounds_toArray, List.set_cons_zero, List.set_cons_succ]
        refine wpAnyH_done (by kernel_rfl) ?_ _
        go_wp2
        go_ret
        exact ⟨rfl, HBC.out.trans ((HBL.out _ _ (HBL.out _ _ HB5.out)).mono HBC.out.size)⟩
    · go_simp
      rw [← HO2.out]
      refine hK.out _ _ (HBL.out _ _ HB5.out) (fun _ => ?_)
      clear hK K
      refine wpAnyH_ready (rs := [3]) (by kernel_rfl) (by simp) ?_
      refine AllReadyH.cons (o := ⟨_, _, _, _, _, _⟩) rfl (fun K hK => ?_) AllReadyH.nil
      go_simp
      rw [← HO1.out]
      refine hK.out _ _ (HBL.out _ _ (HBL.out _ _ HB5.out)) (fun _ => ?_)
      clear hK K
      refine wpAnyH_ready (rs := [4]) (by kernel_rfl) (by simp) ?_
      refine AllReadyH.cons (o := ⟨_, _, _, _, _, _⟩) rfl (fun K hK => ?_) AllReadyH.nil
      go_simp
      refine (KEY1.out _ _ (HBL.out _ _ (HBL.out _ _ HB5.out)) (HX1.out _ _ (HBL.out _ _ HB5.out) (by simp))).mono ?_
      rintro e w' ⟨rfl, rfl⟩
      refine hK.out _ _ (HBL.out _ _ (HBL.out _ _ HB5.out)) (fun _ => ?_)
      clear hK K
      refine wpAnyH_ready (rs := [9]) (by kernel_rfl) (by simp) ?_
      refine AllReadyH.cons (o := ⟨_, _, _, _, _, _⟩) rfl (fun K hK => ?_) AllReadyH.nil
      go_simp
      refine (KEY2.out _ _ (HBL.out _ _ (HBL.out _ _ HB5.out)) (((HX2.out _ _ HB5.out rfl).below ((Below.refl _ _).alloc (Nat.le_refl _) _)).more (by simp))).mono ?_
      rintro e w' ⟨rfl, rfl⟩
      refine hK.out _ _ (HBL.out _ _ (HBL.out _ _ HB5.out)) (fun _ => ?_)
      clear hK K
      refine take_in (i := 10) (oi := ⟨_, _, _, _, _, _⟩) (v := ?_) rfl (by kernel_rfl) (by kernel_rfl) (by kernel_rfl) (fun _ _ _ h => h) (by rfl) ?_ (HBL.out _ _ (HBL.out _ _ HB5.out)) ?_
      rotate_left
      · intro W hW; go_simp; with_reducible rfl
      simp only [Act.put, List.setIfInBounds_toArray, List.set_cons_zero, List.set_cons_succ]
      refine take_in (i := 14) (oi := ⟨_, _, _, _, _, _⟩) (v := ?_) rfl (by kernel_rfl) (by kernel_rfl) (by kernel_rfl) (fun _ _ _ h => h) (by rfl) ?_ (HBL.out _ _ (HBL.out _ _ HB5.out)) ?_
      rotate_left
      · intro W hW; go_simp; with_reducible rfl
      simp only [Act.put, List.setIfInBounds_toArray, List.set_cons_zero, List.set_cons_succ]
      refine take_in (i := 15) (oi := ⟨_, _, _, _, _, _⟩) (v := ?_) rfl (by kernel_rfl) (by kernel_rfl) (by kernel_rfl) (fun _ _ _ h => h) (by rfl) ?_ (HBL.out _ _ (HBL.out _ _ HB5.out)) ?_
      rotate_left
      · intro W hW; go_simp; with_reducible rfl
      simp only [Act.put, List.setIfInBounds_toArray, List.set_cons_zero, List.set_cons_succ]
      refine wpAnyH_done (by kernel_rfl) ?_ _
      go_wp2
      go_ret
      exact ⟨rfl, HBC.out.trans ((HBL.out _ _ (HBL.out _ _ HB5.out)).mono HBC.out.size)⟩
end Go.Proofs.Ytbfegppjaoabaaa.crcOne
