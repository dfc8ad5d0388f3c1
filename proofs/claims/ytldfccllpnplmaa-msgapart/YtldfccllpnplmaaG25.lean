/- Contracts and words on which the claims of this seat stand, part 25: MsV. -/
import Derived.Test.YtldfccllpnplmaaG20
import Derived.Test.YtldfccllpnplmaaG24
set_option linter.unusedSimpArgs false
set_option linter.unusedVariables false
namespace Go.Proofs.Ytldfccllpnplmaa.Msw
set_option maxRecDepth 20000
open Go.RowKit
open Cl Bk Ms Clw Bkw
open Chgw (hat hbe ret_bool vw Vi)
open Rg (bal)
open Lgw (wrapu)

theorem atN_le (ns : List Nat) (i : Nat) : atN ns i ≤ 1099511627776 := by
  unfold atN
  split
  · omega
  · split <;> omega
set_option maxHeartbeats 1000000 in
theorem at_o (A : Option Addr) (n c : Nat) (ns : List Nat) (hn : n = ns.length) (i : Nat) (B : Nat) (w : World) (hr : Rd w B A (ns.map N64)) (hw : ∀ x ∈ ns, Wire.W64 x) :
    Calls Try.prog 48 #[.slice A n c, .int .i64 (i : Int)] w fun e w' => e = .returned (.int .i64 (atN ns i : Int)) ∧ w = w' := by
  by_cases h : i < n
  · have hil : i < ns.length := by omega
    have hz : ns[i]? = some ns[i] := List.getElem?_eq_getElem hil
    have HW := Lib.hid (hw _ (List.getElem_mem hil))
    have HA : Hid (atN ns i = if 1099511627776 < ns[i] then 1099511627776 else ns[i]) := Lib.hid (by unfold atN; rw [hz])
    obtain ⟨b, o, rfl, _, hc⟩ := hr (by simp; omega)
    have hx := hc i (N64 ns[i]) (by rw [List.getElem?_map, hz]; rfl)
    generalize ns[i] = x at HW HA hx
    generalize atN ns i = r at HA ⊢
    clear hz hil hc hr hw
    have HN := Lib.hid hn; clear hn
    unfold N64 at hx
    by_cases hb : 1099511627776 < x
    · have HE := Lib.hid (show (r : Int) = 1099511627776 from by rw [HA.out, if_pos hb]; rfl)
      clear HA
      have hq : decide ((1099511627776 : Int) < (x : Int)) = true := by rw [decide_eq_true_iff]; omega
      have hq2 : (1099511627776 : Int) < (x : Int) := by omega
      clear hb
      go_enter Try.func48, Try.ntmps48
      go_wp2
      go_ret
      exact ⟨by rw [HE.out]; rfl, rfl⟩
    · have HE := Lib.hid (show r = x from by rw [HA.out, if_neg hb])
      clear HA
      have hq2 : ¬ (1099511627776 : Int) < (x : Int) := by omega
      have hq3 : (x : Int) ≤ 1099511627776 := by omega
      have hwx : IntKind.i64.wrap (x : Int) = (x : Int) := by simp [IntKind.wrap, IntKind.bits, IntKind.signed]; omega
      go_enter Try.func48, Try.ntmps48
      go_wp2
      go_ret
      exact ⟨by rw [HE.out]; rfl, rfl⟩
  · have HE : Hid (atN ns i = 1099511627776) := Lib.hid (by unfold atN; rw [List.getElem?_eq_none (by omega)])
    clear hn hr hw
    generalize atN ns i = r at HE ⊢
    have HE2 := Lib.hid (show (r : Int) = 1099511627776 from by rw [HE.out]; rfl)
    clear HE
    go_enter Try.func48, Try.ntmps48
    go_wp2
    go_ret
    exact ⟨by rw [HE2.out]; rfl, rfl⟩
/-- numbers off bytes: what is still to come -/
theorem numsU_step {k : Nat} {b r : List UInt8} {x : Nat} (hb : b ≠ []) (ht : Wire.takeF b = some (x, r)) : numsU (k + 1) b = (numsU k r).map (x :: ·) := by
  cases b with
  | nil => exact absurd rfl hb
  | cons y l => show (match Wire.takeF (y :: l) with | none => none | some (x, r) => (numsU k r).map (x :: ·)) = _; rw [ht]
theorem numsU_bad {k : Nat} {b : List UInt8} (hb : b ≠ []) (ht : Wire.takeF b = none) : numsU (k + 1) b = none := by
  cases b with
  | nil => exact absurd rfl hb
  | cons y l => show (match Wire.takeF (y :: l) with | none => none | some (x, r) => (numsU k r).map (x :: ·)) = _; rw [ht]
theorem namV_gv (x : Nat) : (((Chgw.gv (Chgw.namedF (x : Int))).1 : Nat) : Int) = (namV x).1 ∧ (((Chgw.gv (Chgw.namedF (x : Int))).2 : Nat) : Int) = (namV x).2 := by
  unfold Chgw.namedF namV
  by_cases h : x < 4096
  · rw [if_pos (by omega), if_pos h]
    show ((((x : Int).toNat / 64 : Nat) : Int) = _) ∧ ((((x : Int).toNat % 64 : Nat) : Int) = _)
    rw [Int.toNat_natCast]
    exact ⟨rfl, rfl⟩
  · rw [if_neg (by omega), if_neg h]
    exact ⟨rfl, rfl⟩
theorem named_o (x : Nat) (hx : x ≤ 1099511627776) (w : World) : Calls Try.prog 49 #[.int .i64 (x : Int)] w fun e w' => ∃ y : Int, e = .returned (.tuple #[.agg #[.int .i64 (namV x).1, .int .i64 (namV x).2], .int .i64 y]) ∧ Below w.heap.size w w' := by
  refine (Chgw.named_r (x : Int) (by omega) w).mono ?_
  rintro e w' ⟨he, hb⟩
  have h := namV_gv x
  refine ⟨Chgw.ge (Chgw.namedF (x : Int)), ?_, hb⟩
  rw [he, ← h.1, ← h.2]
  rfl
def cellsD (ns : List Nat) (k : Nat) : List C := (List.range k).map fun j => cellD ns (7 + 2 * j)
theorem cellsD_succ (ns : List Nat) (k : Nat) : cellsD ns (k + 1) = cellsD ns k ++ [cellD ns (7 + 2 * k)] := by unfold cellsD; rw [List.range_succ, List.map_append]; rfl
def entsD (ns : List Nat) (p k : Nat) : List E := (List.range k).map fun j => entD ns (p + 4 * j)
theorem entsD_succ (ns : List Nat) (p k : Nat) : entsD ns p (k + 1) = entsD ns p k ++ [entD ns (p + 4 * k)] := by unfold entsD; rw [List.range_succ, List.map_append]; rfl
theorem decM_eq (ns : List Nat) : decM ns = ⟨(atN ns 0 : Int), (atN ns 1 : Int), (atN ns 2 : Int), (atN ns 3 : Int), (atN ns 4 : Int), (namV (atN ns 5)).1, (namV (atN ns 5)).2, cellsD ns (manyD ns), entsD ns (placeD ns + 1) (bookD ns)⟩ := rfl
theorem wf_ents {ns : List Nat} (hw : ∀ x ∈ ns, Wire.W64 x) (p k : Nat) : ∀ e ∈ entsD ns p k, WfE e := by
  intro e he
  obtain ⟨j, _, rfl⟩ := List.mem_map.1 he
  have h1 := atN_le ns (p + 4 * j)
  have h2 := atN_le ns (p + 4 * j + 1)
  have h3 := atN_le ns (p + 4 * j + 2)
  refine ⟨?_, ?_, ?_, ?_⟩
  · show _ ≤ (atN ns (p + 4 * j) : Int) ∧ (atN ns (p + 4 * j) : Int) ≤ _; omega
  · show _ ≤ (atN ns (p + 4 * j + 1) : Int) ∧ (atN ns (p + 4 * j + 1) : Int) ≤ _; omega
  · show _ ≤ (atN ns (p + 4 * j + 2) : Int) ∧ (atN ns (p + 4 * j + 2) : Int) ≤ _; omega
  · show (ns[p + 4 * j + 3]?).getD 0 < 18446744073709551616
    cases h : ns[p + 4 * j + 3]? with
    | none => simp
    | some x => exact hw x (List.mem_of_getElem? h)
theorem row_ne {w : World} {g : Nat} {cs : Array Value} {T : TypeId} {base k : Nat} {e : TypeId} {v : Value} {n : Nat} {xs : List Value} (h : w.heap[g]? = some (.cells cs T)) (h' : w.ownsRow base e k v n xs) (hne : T ≠ e) {j : Nat} (hj : v.ownBlock = some j) : j ≠ g := by
  rintro rfl
  rcases h'.2 with ⟨rfl, _⟩ | ⟨g', cap', cur', rfl, _, hh', _⟩
  · simp [Value.ownBlock] at hj
  · simp only [Value.ownBlock, Option.some.injEq] at hj
    subst hj
    rw [h] at hh'
    simp only [Option.some.injEq, Obj.cells.injEq] at hh'
    exact hne hh'.2.1
theorem own_ne {w : World} {g : Nat} {m : M} {s t : S3} {base k : Nat} {e : TypeId} {v : Value} {n : Nat} {xs : List Value} (h : Mx w g m s t) (h' : w.ownsRow base e k v n xs) (hne : 29 ≠ e) {j : Nat} (hj : v.ownBlock = some j) : j ≠ g := by
  rintro rfl
  rcases h'.2 with ⟨rfl, _⟩ | ⟨g', cap', cur', rfl, _, hh', _⟩
  · simp [Value.ownBlock] at hj
  · simp only [Value.ownBlock, Option.some.injEq] at hj
    subst hj
    unfold Mx at h
    rw [h] at hh'
    simp only [Option.some.injEq, Obj.cells.injEq] at hh'
    exact hne hh'.2.1
theorem rd_no {w w' : World} {o : Option M} (ho : o = none) (hb : Below w.heap.size w w') : RetRd w o (.returned (.tuple #[mvv zeroM ⟨none, 0, 0⟩ ⟨none, 0, 0⟩, .int .i64 111])) w' := by
  subst ho
  exact ⟨⟨none, 0, 0⟩, ⟨none, 0, 0⟩, rfl, ⟨Sc.nil _, So.nil _⟩, hb⟩
theorem frombits11 (n : Int) (w : World) : (callFunc 50 #[.int .u64 n]).run Try.prog w = .ok (.value (.float .f64 n.toNat)) w :=
  run_callFunc_extern Try.func50 (by kernel_rfl) (by kernel_rfl) (by kernel_rfl) (e := Extern.MathFloatBits.float64frombits) (by kernel_rfl) _ w
set_option maxHeartbeats 16000000 in
set_option maxRecDepth 100000 in
theorem read_own (A : Option Addr) (n c : Nat) (bs : List UInt8) (hn : n = bs.length) (hc : n ≤ c) (w : World) (hr : Rd w w.heap.size A (bs.map B8)) (hl : n ≤ big) :
    Calls Try.prog 21 #[.slice A n c] w (RetRd w (readF bs)) := by
  have hsf := store_flt
  have hfb := frombits11
  have HR := Lib.hid hr; have HN := Lib.hid hn
  have HL := Lib.hid hl
  have HRF : Hid (readF bs = match Crc.openF bs with
    | none => none
    | some b => match numsU 60 b with
      | none => none
      | some n => if rightM (decM n) = true ∧ frameM (decM n) = bs then some (decM n) else none) := Lib.hid rfl
  clear hr hn hl
  go_enter Try.func21, Try.ntmps21
  go_wp2_with fail
  have HZ := Lib.hid (show Mx (w.alloc (.cells #[.int .i64 0, .int .i64 0, .int .i64 0, .int .i64 0, .int .i64 0, .int .i64 0, .int .i64 0, .slice none 0 0, .slice none 0 0] 29)) w.heap.size zeroM ⟨none, 0, 0⟩ ⟨none, 0, 0⟩ from hat _ _ _ rfl)
  have HB := Lib.hid (bal (Below.refl w.heap.size w) (Nat.le_refl _) (.cells #[.int .i64 0, .int .i64 0, .int .i64 0, .int .i64 0, .int .i64 0, .int .i64 0, .int .i64 0, .slice none 0 0, .slice none 0 0] 29))
  generalize w.alloc (.cells #[.int .i64 0, .int .i64 0, .int .i64 0, .int .i64 0, .int .i64 0, .int .i64 0, .int .i64 0, .slice none 0 0, .slice none 0 0] 29) = w1 at HZ HB ⊢
  refine (open_r A n c bs HN.out hc w.heap.size _ (HR.out.below HB.out) HB.out.size HL.out).mono ?_
  rintro e0 w2 ⟨A1, n1, c1, rfl, hn1, hc1, hr1, hb⟩
  have HZ := Lib.hid (HZ.out.all hb)
  have HB := Lib.hid (HB.out.trans (hb.mono HB.out.size)); clear hb
  cases ho : Crc.openF bs with
  | none =>
    have HE := Lib.hid (show readF bs = none from by rw [HRF.out, ho])
    rw [ho] at hn1 hr1
    clear hn1 hr1 HRF hc1
    rw [show oE none = 31 from rfl]
    obtain ⟨y0, y1, y2, y3, y4, y5, y6, y7, y8⟩ := HZ.out.cs
    have f0 := HZ.out.frozen 0; have f1 := HZ.out.frozen 1; have f2 := HZ.out.frozen 2; have f3 := HZ.out.frozen 3; have f4 := HZ.out.frozen 4; have f5 := HZ.out.frozen 5; have f6 := HZ.out.frozen 6; have f7 := HZ.out.frozen 7; have f8 := HZ.out.frozen 8
    simp only [zeroM] at y0 y1 y2 y3 y4 y5 y6 y7 y8
    go_wp2
    refine bodyPost_ret (results_msg2 (g := w.heap.size) (m := zeroM) (s := ⟨none, 0, 0⟩) (t := ⟨none, 0, 0⟩) (x := .int .i64 111) rfl rfl rfl (HZ.out.put zeroM ⟨none, 0, 0⟩ ⟨none, 0, 0⟩)) rfl ?_
    exact rd_no HE.out (((((((((HB.out.setCell (Nat.le_refl _) _).setCell (Nat.le_refl _) _).setCell (Nat.le_refl _) _).setCell (Nat.le_refl _) _).setCell (Nat.le_refl _) _).setCell (Nat.le_refl _) _).setCell (Nat.le_refl _) _).setCell (Nat.le_refl _) _).setCell (Nat.le_refl _) _)
  | some b =>
  have HRF : Hid (readF bs = match numsU 60 b with
      | none => none
      | some n => if rightM (decM n) = true ∧ frameM (decM n) = bs then some (decM n) else none) := Lib.hid (by rw [HRF.out, ho])
  rw [ho] at hn1 hr1
  rw [show oE (some b) = 0 from rfl]
  have HR1 := Lib.hid (show Rd w2 w2.heap.size A1 (b.map B8) from hr1)
  have HN1 := Lib.hid (show n1 = b.length from hn1)
  have HBB : Hid (b.length ≤ big) := Lib.hid (by
    have h1 : bs = Crc.seal_ b := Crc.open_some ho
    have h2 := congrArg List.length h1
    rw [Crc.seal_len] at h2
    have := HL.out
    have := HN.out
    omega)
  clear hn1 hr1 ho
  have HZ2 := Lib.hid HZ.out.lt
  go_wp2
  go_loopw [4, 6] (fun x4 x6 wr => ∃ (A2 : Option Addr) (n2 c2 : Nat) (r : List UInt8) (A3 : Option Addr) (m3 c3 : Nat) (ns : List Nat), x4 = .slice A2 n2 c2 ∧ x6 = .slice A3 m3 c3 ∧ n2 = r.length ∧ n2 ≤ c2 ∧ r.length ≤ b.length ∧ Rd wr wr.heap.size A2 (r.map B8) ∧ Rg.OwnG KN wr w2.heap.size A3 m3 c3 ns ∧ m3 ≤ 60 ∧ (∀ x ∈ ns, Wire.W64 x) ∧ numsU 60 b = (numsU (60 - ns.length) r).map (ns ++ ·) ∧ Below w2.heap.size w2 wr) (fun _ x6 _ => 60 - lenV x6)
  case atStart => exact ⟨A1, n1, c1, b, _, 0, 0, [], rfl, rfl, HN1.out, hc1, Nat.le_refl _, (HR1.out.below (bal (Below.refl _ _) (Nat.le_refl _) _)).more (by simp), Rg.own_newG KN _ _ _ rfl (Nat.le_refl _), by omega, by simp, by simp, bal (Below.refl _ _) (Nat.le_refl _) _⟩
  case round =>
    rename World => wl
    obtain ⟨A2, n2, c2, r, A3, m3, c3, ns, rfl, rfl, hn2, hc2, hrl, hr2, ho, hm3, hw, hnu, hb⟩ := hrel
    have HN2 := Lib.hid hn2; have HR2 := Lib.hid hr2; have HO := Lib.hid ho; have HW := Lib.hid hw; have HNU := Lib.hid hnu; have HBL := Lib.hid hb; have HRL := Lib.hid hrl
    have HM3 := Lib.hid ho.1
    clear hn2 hr2 ho hw hnu hrl
    have hszl := hb.size
    clear hb
    by_cases hp : 0 < n2 ∧ m3 < 60
    · obtain ⟨hp1, hp2⟩ := hp
      have hrne : Hid (r ≠ []) := Lib.hid (by intro e; subst e; have := HN2.out; simp at this; omega)
      have hk : Hid (60 - ns.length = (60 - (m3 + 1)) + 1) := Lib.hid (by have := HM3.out; omega)
      go_wp2_with fail
      refine (get_r A2 n2 c2 r HN2.out hc2 wl.heap.size _ HR2.out (Nat.le_refl _) (by have := HN2.out; have := HRL.out; have := HBB.out; omega)).mono ?_
      rintro e0 w5 ⟨hb, hg⟩
      have HO := Lib.hid (HO.out.below hb (Nat.le_refl _))
      have HBL := Lib.hid (HBL.out.trans (hb.mono HBL.out.size))
      have HB5 := Lib.hid hb
      clear hb
      cases ht : Wire.takeF r with
      | none =>
        have HE := Lib.hid (show readF bs = none from by rw [HRF.out, HNU.out, hk.out, numsU_bad hrne.out ht]; rfl)
        rw [ht] at hg
        simp only at hg
        subst hg
        clear ht
        have HZ := Lib.hid (HZ.out.all HBL.out)
        have HB := Lib.hid (HB.out.trans (HBL.out.mono HB.out.size))
        obtain ⟨y0, y1, y2, y3, y4, y5, y6, y7, y8⟩ := HZ.out.cs
        have f0 := HZ.out.frozen 0; have f1 := HZ.out.frozen 1; have f2 := HZ.out.frozen 2; have f3 := HZ.out.frozen 3; have f4 := HZ.out.frozen 4; have f5 := HZ.out.frozen 5; have f6 := HZ.out.frozen 6; have f7 := HZ.out.frozen 7; have f8 := HZ.out.frozen 8
        simp only [zeroM] at y0 y1 y2 y3 y4 y5 y6 y7 y8
        go_wp2
        refine bodyPost_ret (results_msg2 (g := w.heap.size) (m := zeroM) (s := ⟨none, 0, 0⟩) (t := ⟨none, 0, 0⟩) (x := .int .i64 111) rfl rfl rfl (HZ.out.put zeroM ⟨none, 0, 0⟩ ⟨none, 0, 0⟩)) rfl ?_
        exact rd_no HE.out (((((((((HB.out.setCell (Nat.le_refl _) _).setCell (Nat.le_refl _) _).setCell (Nat.le_refl _) _).setCell (Nat.le_refl _) _).setCell (Nat.le_refl _) _).setCell (Nat.le_refl _) _).setCell (Nat.le_refl _) _).setCell (Nat.le_refl _) _).setCell (Nat.le_refl _) _)
      | some xr =>
        obtain ⟨x, r'⟩ := xr
        rw [ht] at hg
        simp only at hg
        obtain ⟨A6, n6, c6, rfl, ho6⟩ := hg
        have HO6 := Lib.hid ho6; clear ho6
        have HTK := Lib.hid (Wire.takeF_some ht)
        have HNU2 : Hid (numsU 60 b = (numsU (60 - (ns ++ [x]).length) r').map ((ns ++ [x]) ++ ·)) := Lib.hid (by
          rw [HNU.out, hk.out, numsU_step hrne.out ht, Option.map_map, List.length_append, HM3.out]
          congr 1
          funext l
          simp)
        have HLR : Hid (r'.length ≤ b.length) := Lib.hid (by have := Wire.takeF_len ht; have := HRL.out; omega)
        clear ht
        have HRW := Lib.hid (show Rg.Rs KN (w5.alloc (.cells #[.int .u64 (x : Int)] 56)) (w5.heap.size + 1) (some ⟨w5.heap.size, 0, none⟩) [x] from nums_rs w5 w5.heap.size [x] rfl)
        have HO7 := Lib.hid (HO.out.alloc (.cells #[.int .u64 (x : Int)] 56))
        have HB7 := Lib.hid (bal HBL.out (Nat.le_refl _) (.cells #[.int .u64 (x : Int)] 56))
        go_upto_region 10 with (at_builtin; refine Rg.wp_appGg (K := KN) rfl (.tmp 46) (.tmp 48) rfl w2.heap.size A3 m3 c3 _ rfl HO7.out _ _ 1 1 [x] rfl rfl HRW.out (by show _ * 8 ≤ _; omega) HB7.out.size ?_; intro A9 c9 w9 ho9 hb9 hg9)
        have HR9 : Hid (Own w9 wl.heap.size A6 n6 c6 r') := Lib.hid ⟨HO6.out.1, Rg.rows_apart (HO6.out.alloc _).2 HO7.out.2 (by decide) hg9⟩
        have HO9 := Lib.hid ho9; have HB9 := Lib.hid (HB7.out.trans hb9)
        clear ho9 hb9 hg9 HRW HO7 HB7
        go_wp2
        refine ⟨⟨A6, n6, c6, r', A9, m3 + 1, c9, ns ++ [x], rfl, rfl, HR9.out.1, HR9.out.cap, HLR.out, HR9.out.rd, HO9.out, by omega, ?_, HNU2.out, HB9.out⟩, by simp [lenV]; omega⟩
        intro y hy
        rcases List.mem_append.1 hy with hy | hy
        · exact HW.out y hy
        · rw [List.mem_singleton] at hy
          subst hy
          exact HTK.out.1
    · have hnu : numsU 60 b = some ns := by
        rw [HNU.out]
        by_cases h1 : 0 < n2
        · have h2 : 60 - ns.length = 0 := by have := HM3.out; omega
          rw [h2]
          show (some []).map (ns ++ ·) = _
          simp
        · have h2 : r = [] := List.eq_nil_of_length_eq_zero (by have := HN2.out; omega)
          rw [h2]
          cases h3 : 60 - ns.length with
          | zero => show (some []).map (ns ++ ·) = _; simp
          | succ j => show (some []).map (ns ++ ·) = _; simp
      have HRF : Hid (readF bs = if rightM (decM ns) = true ∧ frameM (decM ns) = bs then some (decM ns) else none) := Lib.hid (by rw [HRF.out, hnu])
      clear hnu HNU HRL HR2 HN2
      have HAT : Hid (∀ (z : Int) (i : Nat) (W : World), z = (i : Int) → Below wl.heap.size wl W → Calls Try.prog 48 #[.slice A3 m3 c3, .int .i64 z] W fun e w' => e = .returned (.int .i64 (atN ns i : Int)) ∧ W = w') := Lib.hid (fun z i W hz hW => by rw [hz]; exact at_o A3 m3 c3 ns HM3.out i wl.heap.size W ((rs_rd HO.out.rs).below hW) HW.out)
      have HZ := Lib.hid (HZ.out.all HBL.out)
      have HB := Lib.hid (HB.out.trans (HBL.out.mono HB.out.size))
      have hcase : ¬ 0 < n2 ∨ (0 < n2 ∧ ¬ m3 < 60) := by omega
      go_upto_region 5 with (fail)
      go_cut [36] (fun s36 wq => s36 = .bool false ∧ wl = wq)
      case first =>
        clear HAT HRF HBL HB HZ HO HM3 HW
        rcases hcase with h1 | ⟨h1, h2⟩
        · go_wp2
          go_meet
          case rel => exact ⟨rfl, rfl⟩
        · go_wp2
          go_meet
          case rel => exact ⟨congrArg Value.bool (by rw [decide_eq_false_iff_not]; omega), rfl⟩
      case rest =>
      obtain ⟨rfl, rfl⟩ := hcut
      clear hcase hp
      have HBW := Lib.hid (Below.refl wl.heap.size wl)
      go_wp2_with fail
      refine (HAT.out _ 0 _ rfl HBW.out).mono ?_
      rintro e0 w' ⟨rfl, rfl⟩
      go_wp2_with fail
      refine (HAT.out _ 1 _ rfl HBW.out).mono ?_
      rintro e0 w' ⟨rfl, rfl⟩
      go_wp2_with fail
      refine (HAT.out _ 2 _ rfl HBW.out).mono ?_
      rintro e0 w' ⟨rfl, rfl⟩
      go_wp2_with fail
      refine (HAT.out _ 3 _ rfl HBW.out).mono ?_
      rintro e0 w' ⟨rfl, rfl⟩
      go_wp2_with fail
      refine (HAT.out _ 4 _ rfl HBW.out).mono ?_
      rintro e0 w' ⟨rfl, rfl⟩
      have HDC := Lib.hid (decM_eq ns)
      have HE5 := Lib.hid (atN_le ns 5); have HLA : Hid (∀ i, atN ns i ≤ 1099511627776) := Lib.hid (atN_le ns)
      generalize atN ns 0 = a0 at HDC ⊢
      generalize atN ns 1 = a1 at HDC ⊢
      generalize atN ns 2 = a2 at HDC ⊢
      generalize atN ns 3 = a3 at HDC ⊢
      generalize atN ns 4 = a4 at HDC ⊢
      go_wp2_with fail
      have HX := Lib.hid (show Mx (wl.alloc (.cells #[.int .i64 (a0 : Int), .int .i64 (a1 : Int), .int .i64 (a2 : Int), .int .i64 (a3 : Int), .int .i64 (a4 : Int), .int .i64 0, .int .i64 0, .slice none 0 0, .slice none 0 0] 29)) wl.heap.size ⟨(a0 : Int), (a1 : Int), (a2 : Int), (a3 : Int), (a4 : Int), 0, 0, [], []⟩ ⟨none, 0, 0⟩ ⟨none, 0, 0⟩ from hat _ _ _ rfl)
      have HBW := Lib.hid (bal HBW.out (Nat.le_refl _) (.cells #[.int .i64 (a0 : Int), .int .i64 (a1 : Int), .int .i64 (a2 : Int), .int .i64 (a3 : Int), .int .i64 (a4 : Int), .int .i64 0, .int .i64 0, .slice none 0 0, .slice none 0 0] 29))
      generalize wl.alloc (.cells #[.int .i64 (a0 : Int), .int .i64 (a1 : Int), .int .i64 (a2 : Int), .int .i64 (a3 : Int), .int .i64 (a4 : Int), .int .i64 0, .int .i64 0, .slice none 0 0, .slice none 0 0] 29) = w3 at HX HBW ⊢
      refine (HAT.out _ 5 _ rfl HBW.out).mono ?_
      rintro e0 w' ⟨rfl, rfl⟩
      generalize atN ns 5 = a5 at HDC HE5 ⊢
      go_wp2_with fail
      refine (named_o a5 HE5.out _).mono ?_
      rintro e0 w4 ⟨y5, rfl, hb⟩
      have HX := Lib.hid (HX.out.all hb)
      have HBW := Lib.hid (HBW.out.trans (hb.mono HBW.out.size)); clear hb
      generalize (namV a5).1 = va at HDC ⊢
      generalize (namV a5).2 = vd at HDC ⊢
      have z5 := HX.out.c5; have z6 := HX.out.c6; have f5 := HX.out.frozen 5; have f6 := HX.out.frozen 6
      simp only at z5 z6
      go_upto_region 13 with (fail)
      have HX := Lib.hid ((HX.out.put1 5 (.int .i64 va) ⟨(a0 : Int), (a1 : Int), (a2 : Int), (a3 : Int), (a4 : Int), va, 0, [], []⟩ ⟨none, 0, 0⟩ ⟨none, 0, 0⟩ rfl).put1 6 (.int .i64 vd) ⟨(a0 : Int), (a1 : Int), (a2 : Int), (a3 : Int), (a4 : Int), va, vd, [], []⟩ ⟨none, 0, 0⟩ ⟨none, 0, 0⟩ rfl)
      have HBW := Lib.hid (show Below wl.heap.size wl ((w4.setCell ⟨wl.heap.size, 5, none⟩ (.int .i64 va)).setCell ⟨wl.heap.size, 6, none⟩ (.int .i64 vd)) from (HBW.out.setCell (Nat.le_refl _) _).setCell (Nat.le_refl _) _)
      clear z5 z6 f5 f6
      generalize ((w4.setCell ⟨wl.heap.size, 5, none⟩ (.int .i64 va)).setCell ⟨wl.heap.size, 6, none⟩ (.int .i64 vd)) = w5 at HX HBW ⊢
      go_wp2
      go_loopw [12, 11] (fun x12 x11 wr => ∃ (k p : Nat) (s : S3), x12 = .int .i64 k ∧ x11 = .int .i64 p ∧ p = 7 + 2 * k ∧ k ≤ manyD ns ∧ Mx wr wl.heap.size ⟨(a0 : Int), (a1 : Int), (a2 : Int), (a3 : Int), (a4 : Int), va, vd, cellsD ns k, []⟩ s ⟨none, 0, 0⟩ ∧ Rg.OwnG KC wr wl.heap.size s.a s.n s.c (cellsD ns k) ∧ Below wl.heap.size wl wr) (fun x12 _ _ => 6 - (intOf x12).toNat)
      case atStart => exact ⟨0, 7, ⟨none, 0, 0⟩, rfl, rfl, rfl, Nat.zero_le _, HX.out, Rg.own_noneG KC _ _, HBW.out⟩
      case round =>
        rename World => wk
        obtain ⟨k, p, s, rfl, rfl, hpk, hk, hx, ho, hb⟩ := hrel
        have HPK := Lib.hid hpk; have HX := Lib.hid hx; have HOC := Lib.hid ho; have HBK := Lib.hid hb
        have HSN := Lib.hid ho.1
        clear hpk hx ho hb
        have HM6 : Hid (manyD ns = min (atN ns 6) 6) := Lib.hid rfl
        have HKM := Lib.hid hk; clear hk
        by_cases hlt : k < atN ns 6 ∧ k < 6
        · obtain ⟨h1, h2⟩ := hlt
          have hp20 : p ≤ 20 := by have := HPK.out; omega
          have HK1 : Hid (k + 1 ≤ manyD ns) := Lib.hid (by rw [HM6.out]; omega)
          have hsn : s.n = k := by have := HSN.out; unfold cellsD at this; simpa using this
          have HCS : Hid (cellsD ns (k + 1) = cellsD ns k ++ [((atN ns p : Int), (namV (atN ns (p + 1))).1, (namV (atN ns (p + 1))).2)]) := Lib.hid (by rw [cellsD_succ, ← HPK.out]; rfl)
          obtain ⟨sa, sn, sc⟩ := s
          simp only at hsn
          subst hsn
          go_wp2_with fail
          refine (HAT.out _ 6 _ rfl HBK.out).mono ?_
          rintro e0 w' ⟨rfl, rfl⟩
          generalize atN ns 6 = a6 at h1 HM6 ⊢
          go_wp2_with fail
          refine (HAT.out _ (p + 1) _ (by omega) HBK.out).mono ?_
          rintro e0 w' ⟨rfl, rfl⟩
          have HB1 := Lib.hid (HLA.out (p + 1))
          generalize atN ns (p + 1) = b1 at HCS HB1 ⊢
          go_wp2_with fail
          refine (named_o b1 HB1.out _).mono ?_
          rintro e0 wm ⟨y5, rfl, hb⟩
          have HX := Lib.hid (HX.out.all hb)
          have HOC := Lib.hid (HOC.out.below hb (Nat.le_refl _))
          have HBK := Lib.hid (HBK.out.trans (hb.mono HBK.out.size)); clear hb
          generalize (namV b1).1 = ca at HCS ⊢
          generalize (namV b1).2 = cd at HCS ⊢
          go_wp2_with fail
          have VV := Lib.hid (show Vi (wm.alloc (.cells #[.int .i64 ca, .int .i64 cd] 25)) wm.heap.size ca cd from hat _ _ _ rfl)
          have HX := Lib.hid (show Mx (wm.alloc (.cells #[.int .i64 ca, .int .i64 cd] 25)) wl.heap.size ⟨(a0 : Int), (a1 : Int), (a2 : Int), (a3 : Int), (a4 : Int), va, vd, cellsD ns sn, []⟩ ⟨sa, sn, sc⟩ ⟨none, 0, 0⟩ from hbe HX.out)
          have HOC := Lib.hid (HOC.out.alloc (.cells #[.int .i64 ca, .int .i64 cd] 25))
          have HBK := Lib.hid (bal HBK.out (Nat.le_refl _) (.cells #[.int .i64 ca, .int .i64 cd] 25))
          generalize wm.alloc (.cells #[.int .i64 ca, .int .i64 cd] 25) = wv at VV HX HOC HBK ⊢
          generalize wm.heap.size = gv at VV ⊢
          refine wp_region_held_drew (S := fun W' => Vi W' gv ca cd ∧ Below wl.heap.size wl W') (by kernel_rfl) ⟨VV.out, HBK.out.drew⟩ (fun hHeld => ?_)
          have HX := Lib.hid (show Mx wv.drew wl.heap.size ⟨(a0 : Int), (a1 : Int), (a2 : Int), (a3 : Int), (a4 : Int), va, vd, cellsD ns sn, []⟩ ⟨sa, sn, sc⟩ ⟨none, 0, 0⟩ from HX.out)
          have HOC := Lib.hid (show Rg.OwnG KC wv.drew wl.heap.size sa sn sc (cellsD ns sn) from HOC.out)
          generalize wv.drew = w5 at hHeld HX HOC ⊢
          have HB5 := Lib.hid hHeld
          clear hHeld
          refine take_in (i := 0) (oi := ⟨_, _, _, _, _, _⟩) (v := ?_) rfl (by kernel_rfl) (by kernel_rfl) (by kernel_rfl) (fun _ _ _ h => h) (by rfl) ?_ HB5.out ?_
          rotate_left
          · intro W hW; have hq := And.intro hW.1.c0 hW.1.c1; go_simp; with_reducible rfl
          simp only [Act.put, List.setIfInBounds_toArray, List.set_cons_zero, List.set_cons_succ]
          refine take_in (i := 2) (oi := ⟨_, _, _, _, _, _⟩) (v := ?_) rfl (by kernel_rfl) (by kernel_rfl) (by kernel_rfl) (fun _ _ _ h => h) (by rfl) ?_ HB5.out ?_
          rotate_left
          · intro W hW; have hq := And.intro hW.1.c0 hW.1.c1; go_simp; with_reducible rfl
          simp only [Act.put, List.setIfInBounds_toArray, List.set_cons_zero, List.set_cons_succ]
          refine take_in (i := 3) (oi := ⟨_, _, _, _, _, _⟩) (v := ?_) rfl (by kernel_rfl) (by kernel_rfl) (by kernel_rfl) (fun _ _ _ h => h) (by rfl) ?_ HB5.out ?_
          rotate_left
          · intro W hW; have hq := And.intro hW.1.c0 hW.1.c1; go_simp; with_reducible rfl
          simp only [Act.put, List.setIfInBounds_toArray, List.set_cons_zero, List.set_cons_succ]
          refine take_in (i := 5) (oi := ⟨_, _, _, _, _, _⟩) (v := ?_) rfl (by kernel_rfl) (by kernel_rfl) (by kernel_rfl) (fun _ _ _ h => h) (by rfl) ?_ HB5.out ?_
          rotate_left
          · intro W hW; have hq := And.intro hW.1.c0 hW.1.c1; go_simp; with_reducible rfl
          simp only [Act.put, List.setIfInBounds_toArray, List.set_cons_zero, List.set_cons_succ]
          have x7 := HX.out.c7
          simp only at x7
          have HGV : Hid (gv ≠ wl.heap.size) := Lib.hid (fun e => by
            have h1 := HX.out; have h2 := HB5.out.1
            unfold Mx at h1; unfold Vi at h2
            rw [e, h1] at h2
            simp only [Option.some.injEq, Obj.cells.injEq] at h2
            exact absurd h2.2.1 (by decide))
          refine wpAnyH_ready (rs := [1, 4]) (by kernel_rfl) (by simp) ?_
          refine AllReadyH.cons (o := ⟨_, _, _, _, _, _⟩) rfl (fun K hK => ?_) (AllReadyH.cons (o := ⟨_, _, _, _, _, _⟩) rfl (fun K hK => ?_) AllReadyH.nil)
          · skip
            go_simp
            refine hK.out _ _ HB5.out (fun _ => ?_)
            clear hK K
            refine wpAnyH_ready (rs := [4]) (by kernel_rfl) (by simp) ?_
            refine AllReadyH.cons (o := ⟨_, _, _, _, _, _⟩) rfl (fun K hK => ?_) AllReadyH.nil
            go_simp
            refine (HAT.out _ p _ rfl HB5.out.2).mono ?_
            rintro e0 w' ⟨rfl, rfl⟩
            refine hK.out _ _ HB5.out (fun _ => ?_)
            clear hK K
            generalize atN ns p = b0 at HCS ⊢
            refine take_in (i := 6) (oi := ⟨_, _, _, _, _, _⟩) (v := ?_) rfl (by kernel_rfl) (by kernel_rfl) (by kernel_rfl) (fun _ _ _ h => h) (by rfl) ?_ HB5.out ?_
            rotate_left
            · intro W hW; go_simp; with_reducible rfl
            simp only [Act.put, List.setIfInBounds_toArray, List.set_cons_zero, List.set_cons_succ]
            clear x7
            refine wpAnyH_ready (rs := [7]) (by kernel_rfl) (by simp) ?_
            refine AllReadyH.cons (o := ⟨_, _, _, _, _, _⟩) rfl (fun K hK => ?_) AllReadyH.nil
            go_simp
            have HB7 := Lib.hid (show Vi (w5.alloc (.cells #[.int .i64 (b0 : Int), .int .i64 ca, .int .i64 cd] 47)) gv ca cd ∧ Below wl.heap.size wl (w5.alloc (.cells #[.int .i64 (b0 : Int), .int .i64 ca, .int .i64 cd] 47)) from ⟨hbe HB5.out.1, bal HB5.out.2 (Nat.le_refl _) _⟩)
            refine hK.out _ _ HB7.out (fun _ => ?_)
            clear hK K
            have HO7 := Lib.hid (HOC.out.alloc (.cells #[.int .i64 (b0 : Int), .int .i64 ca, .int .i64 cd] 47))
            have HX7 := Lib.hid (show Mx (w5.alloc (.cells #[.int .i64 (b0 : Int), .int .i64 ca, .int .i64 cd] 47)) wl.heap.size ⟨(a0 : Int), (a1 : Int), (a2 : Int), (a3 : Int), (a4 : Int), va, vd, cellsD ns sn, []⟩ ⟨sa, sn, sc⟩ ⟨none, 0, 0⟩ from hbe HX.out)
            have HRW := Lib.hid (show Rg.Rs KC (w5.alloc (.cells #[.int .i64 (b0 : Int), .int .i64 ca, .int .i64 cd] 47)) (w5.heap.size + 1) (some ⟨w5.heap.size, 0, none⟩) [((b0 : Int), ca, cd)] from one_tri w5 ((b0 : Int), ca, cd))
            generalize w5.alloc (.cells #[.int .i64 (b0 : Int), .int .i64 ca, .int .i64 cd] 47) = w7 at HB7 HO7 HX7 HRW ⊢
            generalize w5.heap.size = g6 at HRW ⊢
            refine wpAnyH_ready (rs := [8]) (by kernel_rfl) (by simp) ?_
            refine AllReadyH.cons (o := ⟨_, _, _, _, _, _⟩) rfl (fun K hK => ?_) AllReadyH.nil
            refine Rg.op_appGg (K := KC) (.tmp 88) (.tmp 94) rfl wl.heap.size sa sn sc _ rfl HO7.out _ _ 1 1 [((b0 : Int), ca, cd)] rfl rfl HRW.out (by show _ * 24 ≤ _; omega) HB7.out.2.size ?_
            intro A9 c9 w9 ho9 hb9 hg9
            have HB9 := Lib.hid (show Vi w9 gv ca cd ∧ Below wl.heap.size wl w9 from ⟨Rg.blk_apart HB7.out.1 HO7.out.2 (by decide) hg9, HB7.out.2.trans hb9⟩)
            have HX9 := Lib.hid (show Mx w9 wl.heap.size ⟨(a0 : Int), (a1 : Int), (a2 : Int), (a3 : Int), (a4 : Int), va, vd, cellsD ns sn, []⟩ ⟨sa, sn, sc⟩ ⟨none, 0, 0⟩ from Rg.blk_apart HX7.out HO7.out.2 (by decide) hg9)
            have HO9 := Lib.hid ho9
            clear ho9 hb9 hg9 HX7 HO7 HB7 HRW
            refine hK.out _ _ HB9.out (fun _ => ?_)
            clear hK K
            simp only [Act.put, List.setIfInBounds_toArray, List.set_cons_zero, List.set_cons_succ]
            have x7 := HX9.out.c7; have f7 := HX9.out.frozen 7
            simp only at x7
            refine take_in (i := 9) (oi := ⟨_, _, _, _, _, _⟩) (v := ?_) rfl (by kernel_rfl) (by kernel_rfl) (by kernel_rfl) (fun _ _ _ h => h) (by rfl) ?_ HB9.out ?_
            rotate_left
            · intro W hW; go_simp; with_reducible rfl
            simp only [Act.put, List.setIfInBounds_toArray, List.set_cons_zero, List.set_cons_succ]
            refine wpAnyH_ready (rs := [10]) (by kernel_rfl) (by simp) ?_
            refine AllReadyH.cons (o := ⟨_, _, _, _, _, _⟩) rfl (fun K hK => ?_) AllReadyH.nil
            go_simp
            have HX := Lib.hid (HX9.out.put1 7 (.slice A9 (sn + 1) c9) ⟨(a0 : Int), (a1 : Int), (a2 : Int), (a3 : Int), (a4 : Int), va, vd, cellsD ns (sn + 1), []⟩ ⟨A9, sn + 1, c9⟩ ⟨none, 0, 0⟩ rfl)
            have HBE := Lib.hid (show Vi (w9.setCell ⟨wl.heap.size, 7, none⟩ (.slice A9 (sn + 1) c9)) gv ca cd ∧ Below wl.heap.size wl (w9.setCell ⟨wl.heap.size, 7, none⟩ (.slice A9 (sn + 1) c9)) from ⟨vi_other HB9.out.1 (p := ⟨wl.heap.size, 7, none⟩) HGV.out _, HB9.out.2.setCell (Nat.le_refl _) _⟩)
            have HOE := Lib.hid (show Rg.OwnG KC (w9.setCell ⟨wl.heap.size, 7, none⟩ (.slice A9 (sn + 1) c9)) wl.heap.size A9 (sn + 1) c9 (cellsD ns sn ++ [((b0 : Int), ca, cd)]) from HO9.out.keep (fun k hk => Below.heap_setCell _ _ _ _ (own_ne HX9.out HO9.out.2 (by decide) hk)))
            refine hK.out _ _ HBE.out (fun _ => ?_)
            clear hK K x7 f7
            refine wpAnyH_done (by kernel_rfl) ?_ _
            generalize w9.setCell ⟨wl.heap.size, 7, none⟩ (.slice A9 (sn + 1) c9) = wz at HX HBE HOE ⊢
            go_wp2
            exact ⟨⟨sn + 1, p + 2, ⟨A9, sn + 1, c9⟩, by go_num, by go_num, by have := HPK.out; omega, HK1.out, HX.out, by rw [HCS.out]; exact HOE.out, HBE.out.2⟩, by simp [intOf]; omega⟩
          · skip
            go_simp
            refine (HAT.out _ p _ rfl HB5.out.2).mono ?_
            rintro e0 w' ⟨rfl, rfl⟩
            refine hK.out _ _ HB5.out (fun _ => ?_)
            clear hK K
            generalize atN ns p = b0 at HCS ⊢
            refine take_in (i := 6) (oi := ⟨_, _, _, _, _, _⟩) (v := ?_) rfl (by kernel_rfl) (by kernel_rfl) (by kernel_rfl) (fun _ _ _ h => h) (by rfl) ?_ HB5.out ?_
            rotate_left
            · intro W hW; go_simp; with_reducible rfl
            simp only [Act.put, List.setIfInBounds_toArray, List.set_cons_zero, List.set_cons_succ]
            refine wpAnyH_ready (rs := [1, 7]) (by kernel_rfl) (by simp) ?_
            refine AllReadyH.cons (o := ⟨_, _, _, _, _, _⟩) rfl (fun K hK => ?_) (AllReadyH.cons (o := ⟨_, _, _, _, _, _⟩) rfl (fun K hK => ?_) AllReadyH.nil)
            · skip
              go_simp
              refine hK.out _ _ HB5.out (fun _ => ?_)
              clear hK K
              clear x7
              refine wpAnyH_ready (rs := [7]) (by kernel_rfl) (by simp) ?_
              refine AllReadyH.cons (o := ⟨_, _, _, _, _, _⟩) rfl (fun K hK => ?_) AllReadyH.nil
              go_simp
              have HB7 := Lib.hid (show Vi (w5.alloc (.cells #[.int .i64 (b0 : Int), .int .i64 ca, .int .i64 cd] 47)) gv ca cd ∧ Below wl.heap.size wl (w5.alloc (.cells #[.int .i64 (b0 : Int), .int .i64 ca, .int .i64 cd] 47)) from ⟨hbe HB5.out.1, bal HB5.out.2 (Nat.le_refl _) _⟩)
              refine hK.out _ _ HB7.out (fun _ => ?_)
              clear hK K
              have HO7 := Lib.hid (HOC.out.alloc (.cells #[.int .i64 (b0 : Int), .int .i64 ca, .int .i64 cd] 47))
              have HX7 := Lib.hid (show Mx (w5.alloc (.cells #[.int .i64 (b0 : Int), .int .i64 ca, .int .i64 cd] 47)) wl.heap.size ⟨(a0 : Int), (a1 : Int), (a2 : Int), (a3 : Int), (a4 : Int), va, vd, cellsD ns sn, []⟩ ⟨sa, sn, sc⟩ ⟨none, 0, 0⟩ from hbe HX.out)
              have HRW := Lib.hid (show Rg.Rs KC (w5.alloc (.cells #[.int .i64 (b0 : Int), .int .i64 ca, .int .i64 cd] 47)) (w5.heap.size + 1) (some ⟨w5.heap.size, 0, none⟩) [((b0 : Int), ca, cd)] from one_tri w5 ((b0 : Int), ca, cd))
              generalize w5.alloc (.cells #[.int .i64 (b0 : Int), .int .i64 ca, .int .i64 cd] 47) = w7 at HB7 HO7 HX7 HRW ⊢
              generalize w5.heap.size = g6 at HRW ⊢
              refine wpAnyH_ready (rs := [8]) (by kernel_rfl) (by simp) ?_
              refine AllReadyH.cons (o := ⟨_, _, _, _, _, _⟩) rfl (fun K hK => ?_) AllReadyH.nil
              refine Rg.op_appGg (K := KC) (.tmp 88) (.tmp 94) rfl wl.heap.size sa sn sc _ rfl HO7.out _ _ 1 1 [((b0 : Int), ca, cd)] rfl rfl HRW.out (by show _ * 24 ≤ _; omega) HB7.out.2.size ?_
              intro A9 c9 w9 ho9 hb9 hg9
              have HB9 := Lib.hid (show Vi w9 gv ca cd ∧ Below wl.heap.size wl w9 from ⟨Rg.blk_apart HB7.out.1 HO7.out.2 (by decide) hg9, HB7.out.2.trans hb9⟩)
              have HX9 := Lib.hid (show Mx w9 wl.heap.size ⟨(a0 : Int), (a1 : Int), (a2 : Int), (a3 : Int), (a4 : Int), va, vd, cellsD ns sn, []⟩ ⟨sa, sn, sc⟩ ⟨none, 0, 0⟩ from Rg.blk_apart HX7.out HO7.out.2 (by decide) hg9)
              have HO9 := Lib.hid ho9
              clear ho9 hb9 hg9 HX7 HO7 HB7 HRW
              refine hK.out _ _ HB9.out (fun _ => ?_)
              clear hK K
              simp only [Act.put, List.setIfInBounds_toArray, List.set_cons_zero, List.set_cons_succ]
              have x7 := HX9.out.c7; have f7 := HX9.out.frozen 7
              simp only at x7
              refine take_in (i := 9) (oi := ⟨_, _, _, _, _, _⟩) (v := ?_) rfl (by kernel_rfl) (by kernel_rfl) (by kernel_rfl) (fun _ _ _ h => h) (by rfl) ?_ HB9.out ?_
              rotate_left
              · intro W hW; go_simp; with_reducible rfl
              simp only [Act.put, List.setIfInBounds_toArray, List.set_cons_zero, List.set_cons_succ]
              refine wpAnyH_ready (rs := [10]) (by kernel_rfl) (by simp) ?_
              refine AllReadyH.cons (o := ⟨_, _, _, _, _, _⟩) rfl (fun K hK => ?_) AllReadyH.nil
              go_simp
              have HX := Lib.hid (HX9.out.put1 7 (.slice A9 (sn + 1) c9) ⟨(a0 : Int), (a1 : Int), (a2 : Int), (a3 : Int), (a4 : Int), va, vd, cellsD ns (sn + 1), []⟩ ⟨A9, sn + 1, c9⟩ ⟨none, 0, 0⟩ rfl)
              have HBE := Lib.hid (show Vi (w9.setCell ⟨wl.heap.size, 7, none⟩ (.slice A9 (sn + 1) c9)) gv ca cd ∧ Below wl.heap.size wl (w9.setCell ⟨wl.heap.size, 7, none⟩ (.slice A9 (sn + 1) c9)) from ⟨vi_other HB9.out.1 (p := ⟨wl.heap.size, 7, none⟩) HGV.out _, HB9.out.2.setCell (Nat.le_refl _) _⟩)
              have HOE := Lib.hid (show Rg.OwnG KC (w9.setCell ⟨wl.heap.size, 7, none⟩ (.slice A9 (sn + 1) c9)) wl.heap.size A9 (sn + 1) c9 (cellsD ns sn ++ [((b0 : Int), ca, cd)]) from HO9.out.keep (fun k hk => Below.heap_setCell _ _ _ _ (own_ne HX9.out HO9.out.2 (by decide) hk)))
              refine hK.out _ _ HBE.out (fun _ => ?_)
              clear hK K x7 f7
              refine wpAnyH_done (by kernel_rfl) ?_ _
              generalize w9.setCell ⟨wl.heap.size, 7, none⟩ (.slice A9 (sn + 1) c9) = wz at HX HBE HOE ⊢
              go_wp2
              exact ⟨⟨sn + 1, p + 2, ⟨A9, sn + 1, c9⟩, by go_num, by go_num, by have := HPK.out; omega, HK1.out, HX.out, by rw [HCS.out]; exact HOE.out, HBE.out.2⟩, by simp [intOf]; omega⟩
            · skip
              clear x7
              go_simp
              have HB7 := Lib.hid (show Vi (w5.alloc (.cells #[.int .i64 (b0 : Int), .int .i64 ca, .int .i64 cd] 47)) gv ca cd ∧ Below wl.heap.size wl (w5.alloc (.cells #[.int .i64 (b0 : Int), .int .i64 ca, .int .i64 cd] 47)) from ⟨hbe HB5.out.1, bal HB5.out.2 (Nat.le_refl _) _⟩)
              refine hK.out _ _ HB7.out (fun _ => ?_)
              clear hK K
              have HO7 := Lib.hid (HOC.out.alloc (.cells #[.int .i64 (b0 : Int), .int .i64 ca, .int .i64 cd] 47))
              have HX7 := Lib.hid (show Mx (w5.alloc (.cells #[.int .i64 (b0 : Int), .int .i64 ca, .int .i64 cd] 47)) wl.heap.size ⟨(a0 : Int), (a1 : Int), (a2 : Int), (a3 : Int), (a4 : Int), va, vd, cellsD ns sn, []⟩ ⟨sa, sn, sc⟩ ⟨none, 0, 0⟩ from hbe HX.out)
              have HRW := Lib.hid (show Rg.Rs KC (w5.alloc (.cells #[.int .i64 (b0 : Int), .int .i64 ca, .int .i64 cd] 47)) (w5.heap.size + 1) (some ⟨w5.heap.size, 0, none⟩) [((b0 : Int), ca, cd)] from one_tri w5 ((b0 : Int), ca, cd))
              generalize w5.alloc (.cells #[.int .i64 (b0 : Int), .int .i64 ca, .int .i64 cd] 47) = w7 at HB7 HO7 HX7 HRW ⊢
              generalize w5.heap.size = g6 at HRW ⊢
              have x7 := HX7.out.c7
              simp only at x7
              refine wpAnyH_ready (rs := [1]) (by kernel_rfl) (by simp) ?_
              refine AllReadyH.cons (o := ⟨_, _, _, _, _, _⟩) rfl (fun K hK => ?_) AllReadyH.nil
              go_simp
              refine hK.out _ _ HB7.out (fun _ => ?_)
              clear hK K x7
              refine wpAnyH_ready (rs := [8]) (by kernel_rfl) (by simp) ?_
              refine AllReadyH.cons (o := ⟨_, _, _, _, _, _⟩) rfl (fun K hK => ?_) AllReadyH.nil
              refine Rg.op_appGg (K := KC) (.tmp 88) (.tmp 94) rfl wl.heap.size sa sn sc _ rfl HO7.out _ _ 1 1 [((b0 : Int), ca, cd)] rfl rfl HRW.out (by show _ * 24 ≤ _; omega) HB7.out.2.size ?_
              intro A9 c9 w9 ho9 hb9 hg9
              have HB9 := Lib.hid (show Vi w9 gv ca cd ∧ Below wl.heap.size wl w9 from ⟨Rg.blk_apart HB7.out.1 HO7.out.2 (by decide) hg9, HB7.out.2.trans hb9⟩)
              have HX9 := Lib.hid (show Mx w9 wl.heap.size ⟨(a0 : Int), (a1 : Int), (a2 : Int), (a3 : Int), (a4 : Int), va, vd, cellsD ns sn, []⟩ ⟨sa, sn, sc⟩ ⟨none, 0, 0⟩ from Rg.blk_apart HX7.out HO7.out.2 (by decide) hg9)
              have HO9 := Lib.hid ho9
              clear ho9 hb9 hg9 HX7 HO7 HB7 HRW
              refine hK.out _ _ HB9.out (fun _ => ?_)
              clear hK K
              simp only [Act.put, List.setIfInBounds_toArray, List.set_cons_zero, List.set_cons_succ]
              have x7 := HX9.out.c7; have f7 := HX9.out.frozen 7
              simp only at x7
              refine take_in (i := 9) (oi := ⟨_, _, _, _, _, _⟩) (v := ?_) rfl (by kernel_rfl) (by kernel_rfl) (by kernel_rfl) (fun _ _ _ h => h) (by rfl) ?_ HB9.out ?_
              rotate_left
              · intro W hW; go_simp; with_reducible rfl
              simp only [Act.put, List.setIfInBounds_toArray, List.set_cons_zero, List.set_cons_succ]
              refine wpAnyH_ready (rs := [10]) (by kernel_rfl) (by simp) ?_
              refine AllReadyH.cons (o := ⟨_, _, _, _, _, _⟩) rfl (fun K hK => ?_) AllReadyH.nil
              go_simp
              have HX := Lib.hid (HX9.out.put1 7 (.slice A9 (sn + 1) c9) ⟨(a0 : Int), (a1 : Int), (a2 : Int), (a3 : Int), (a4 : Int), va, vd, cellsD ns (sn + 1), []⟩ ⟨A9, sn + 1, c9⟩ ⟨none, 0, 0⟩ rfl)
              have HBE := Lib.hid (show Vi (w9.setCell ⟨wl.heap.size, 7, none⟩ (.slice A9 (sn + 1) c9)) gv ca cd ∧ Below wl.heap.size wl (w9.setCell ⟨wl.heap.size, 7, none⟩ (.slice A9 (sn + 1) c9)) from ⟨vi_other HB9.out.1 (p := ⟨wl.heap.size, 7, none⟩) HGV.out _, HB9.out.2.setCell (Nat.le_refl _) _⟩)
              have HOE := Lib.hid (show Rg.OwnG KC (w9.setCell ⟨wl.heap.size, 7, none⟩ (.slice A9 (sn + 1) c9)) wl.heap.size A9 (sn + 1) c9 (cellsD ns sn ++ [((b0 : Int), ca, cd)]) from HO9.out.keep (fun k hk => Below.heap_setCell _ _ _ _ (own_ne HX9.out HO9.out.2 (by decide) hk)))
              refine hK.out _ _ HBE.out (fun _ => ?_)
              clear hK K x7 f7
              refine wpAnyH_done (by kernel_rfl) ?_ _
              generalize w9.setCell ⟨wl.heap.size, 7, none⟩ (.slice A9 (sn + 1) c9) = wz at HX HBE HOE ⊢
              go_wp2
              exact ⟨⟨sn + 1, p + 2, ⟨A9, sn + 1, c9⟩, by go_num, by go_num, by have := HPK.out; omega, HK1.out, HX.out, by rw [HCS.out]; exact HOE.out, HBE.out.2⟩, by simp [intOf]; omega⟩
        · have hkm : k = manyD ns := by have := HM6.out; have := HKM.out; omega
          go_upto_region 15 with (fail)
          go_cut [76] (fun s76 wq => s76 = .bool false ∧ wk = wq)
          case first =>
            clear HRF HBL HB HZ HO HM3 HW HDC HE5 HLA HX HOC HSN
            go_wp2_with fail
            refine (HAT.out _ 6 _ rfl HBK.out).mono ?_
            rintro e0 w' ⟨rfl, rfl⟩
            generalize atN ns 6 = a6 at hlt HM6 ⊢
            clear HM6 HKM hkm HAT
            by_cases h1 : k < a6
            · have h2 : ¬ k < 6 := by omega
              clear hlt
              go_wp2
              go_meet
              case rel => exact ⟨congrArg Value.bool (by rw [decide_eq_false_iff_not]; omega), rfl⟩
            · clear hlt
              go_wp2
              go_meet
              case rel => exact ⟨rfl, rfl⟩
          case rest =>
          obtain ⟨rfl, rfl⟩ := hcut
          clear hlt
          have HBZ := HBK
          have HK7 : Hid (p = placeD ns) := Lib.hid (by have := HPK.out; unfold placeD; omega)
          have HDC : Hid (decM ns = ⟨(a0 : Int), (a1 : Int), (a2 : Int), (a3 : Int), (a4 : Int), va, vd, cellsD ns k, entsD ns (p + 1) (bookD ns)⟩) := Lib.hid (by rw [HDC.out, HK7.out, hkm])
          have HBD : Hid (bookD ns = min (atN ns p) 4) := Lib.hid (by rw [HK7.out]; rfl)
          have hk6 : k ≤ 6 := by have := HM6.out; omega
          have HRS := Lib.hid (rs_rd HO.out.rs)
          have HSK : Hid (s.n = k) := Lib.hid (by have := HSN.out; unfold cellsD at this; simpa using this)
          clear HM6 HKM HSN hkm HPK
          go_wp2_with fail
          refine (HAT.out _ p _ rfl HBK.out).mono ?_
          rintro e0 w' ⟨rfl, rfl⟩
          generalize atN ns p = a7 at HBD ⊢
          have hp20 : p ≤ 20 := by have := HK7.out; have h1 : manyD ns ≤ 6 := Nat.min_le_right _ _; unfold placeD at this; omega
          go_wp2
          go_loopw [16, 11] (fun x16 x11 wr => ∃ (j q : Nat) (t : S3), x16 = .int .i64 j ∧ x11 = .int .i64 q ∧ q = p + 1 + 4 * j ∧ j ≤ bookD ns ∧ Mx wr wl.heap.size ⟨(a0 : Int), (a1 : Int), (a2 : Int), (a3 : Int), (a4 : Int), va, vd, cellsD ns k, entsD ns (p + 1) j⟩ s t ∧ Rg.OwnG KC wr wl.heap.size s.a s.n s.c (cellsD ns k) ∧ Rg.OwnG KE wr wl.heap.size t.a t.n t.c (entsD ns (p + 1) j) ∧ Below wl.heap.size wl wr) (fun x16 _ _ => 4 - (intOf x16).toNat)
          case atStart => exact ⟨0, p + 1, ⟨none, 0, 0⟩, rfl, by go_num, rfl, Nat.zero_le _, HX.out, HOC.out, Rg.own_noneG KE _ _, HBK.out⟩
          case round =>
            clear HX HOC HBK HBZ
            rename World => we
            obtain ⟨j, q, t, rfl, rfl, hq, hj, hx, hoc, hoe, hb⟩ := hrel
            have HQ := Lib.hid hq; have HX := Lib.hid hx; have HOC := Lib.hid hoc; have HOE := Lib.hid hoe; have HBK := Lib.hid hb
            have HTN := Lib.hid hoe.1; have HJ := Lib.hid hj
            clear hq hx hoc hoe hb hj
            by_cases hlt : j < a7 ∧ j < 4
            · obtain ⟨h1, h2⟩ := hlt
              have hq40 : q ≤ 40 := by have := HQ.out; omega
              have HJ1 : Hid (j + 1 ≤ bookD ns) := Lib.hid (by rw [HBD.out]; omega)
              have htn : t.n = j := by have := HTN.out; unfold entsD at this; simpa using this
              have HES : Hid (entsD ns (p + 1) (j + 1) = entsD ns (p + 1) j ++ [⟨(atN ns q : Int), (atN ns (q + 1) : Int), (atN ns (q + 2) : Int), (ns[q + 3]?).getD 0⟩]) := Lib.hid (by rw [entsD_succ, ← HQ.out]; rfl)
              obtain ⟨ta, tn, tc⟩ := t
              simp only at htn
              subst htn
              go_wp2_with fail
              refine (HAT.out _ q _ rfl HBK.out).mono ?_
              rintro e0 w' ⟨rfl, rfl⟩
              go_wp2_with fail
              refine (HAT.out _ (q + 1) _ (by omega) HBK.out).mono ?_
              rintro e0 w' ⟨rfl, rfl⟩
              go_wp2_with fail
              refine (HAT.out _ (q + 2) _ (by omega) HBK.out).mono ?_
              rintro e0 w' ⟨rfl, rfl⟩
              generalize atN ns q = b0 at HES ⊢
              generalize atN ns (q + 1) = b1 at HES ⊢
              generalize atN ns (q + 2) = b2 at HES ⊢
              have HBX := Lib.hid HBK.out
              have HLT : Hid (∀ k, (Value.slice ta tn tc).ownBlock = some k → k < we.heap.size) := Lib.hid (fun k hk => (HOE.out.2.lt k hk).2)
              go_upto_region 26 with (fail)
              have VE := Lib.hid (show Ex (we.alloc (.cells #[.int .i64 (b0 : Int), .int .i64 (b1 : Int), .int .i64 (b2 : Int), .float .f64 0] 52)) we.heap.size ⟨(b0 : Int), (b1 : Int), (b2 : Int), 0⟩ from hat _ _ _ rfl)
              have HX := Lib.hid (show Mx (we.alloc (.cells #[.int .i64 (b0 : Int), .int .i64 (b1 : Int), .int .i64 (b2 : Int), .float .f64 0] 52)) wl.heap.size ⟨(a0 : Int), (a1 : Int), (a2 : Int), (a3 : Int), (a4 : Int), va, vd, cellsD ns k, entsD ns (p + 1) tn⟩ s ⟨ta, tn, tc⟩ from hbe HX.out)
              have HOC := Lib.hid (HOC.out.alloc (.cells #[.int .i64 (b0 : Int), .int .i64 (b1 : Int), .int .i64 (b2 : Int), .float .f64 0] 52)); have HOE := Lib.hid (HOE.out.alloc (.cells #[.int .i64 (b0 : Int), .int .i64 (b1 : Int), .int .i64 (b2 : Int), .float .f64 0] 52))
              have HBK := Lib.hid (bal HBK.out (Nat.le_refl _) (.cells #[.int .i64 (b0 : Int), .int .i64 (b1 : Int), .int .i64 (b2 : Int), .float .f64 0] 52))
              have HGE : Hid (we.heap.size ≠ wl.heap.size ∧ wl.heap.size ≤ we.heap.size) := Lib.hid ⟨fun e => by
                have h1 := HX.out; have h2 := VE.out
                unfold Mx at h1; unfold Ex at h2
                rw [e, h1] at h2
                simp only [Option.some.injEq, Obj.cells.injEq] at h2
                exact absurd h2.2.1 (by decide), by
                rcases Nat.lt_or_ge we.heap.size wl.heap.size with h | h
                · exfalso
                  have h1 := (HBK.out.block we.heap.size h)
                  have h2 := VE.out
                  unfold Ex at h2
                  have h3 : we.heap.size < we.heap.size := Nat.lt_of_lt_of_le h HBX.out.size
                  omega
                · exact h⟩
              generalize we.alloc (.cells #[.int .i64 (b0 : Int), .int .i64 (b1 : Int), .int .i64 (b2 : Int), .float .f64 0] 52) = wv at VE HX HOC HOE HBK ⊢
              generalize we.heap.size = gv at VE HGE HLT ⊢
              have HVE0 := Lib.hid (show wv.heap[gv]? = some (.cells #[.int .i64 (b0 : Int), .int .i64 (b1 : Int), .int .i64 (b2 : Int), .float .f64 0] 52) from VE.out)
              by_cases hlen : q + 3 < m3
              · have hql : q + 3 < ns.length := by rw [← HM3.out]; exact hlen
                have hz3 : ns[q + 3]? = some ns[q + 3] := List.getElem?_eq_getElem hql
                obtain ⟨bn, on, hA3, hbn, hcn⟩ := HRS.out (by simp; omega)
                have hn3 := (HBK.out.cell (p := ⟨bn, on + (q + 3), none⟩) hbn).trans (hcn (q + 3) (N64 ns[q + 3]) (by rw [List.getElem?_map, hz3]; rfl))
                rw [hz3] at HES
                have HES2 : Hid (entsD ns (p + 1) (tn + 1) = entsD ns (p + 1) tn ++ [⟨(b0 : Int), (b1 : Int), (b2 : Int), ns[q + 3]⟩]) := HES
                clear HES
                generalize ns[q + 3] = xv at HES2 hn3
                have HES := HES2; clear HES2
                unfold N64 at hn3
                clear hz3 hql hcn
                rw [hA3]
                have z3 := VE.out.c3; have f3 := frozen_of_row wv gv 3 _ _ VE.out
                have hq3 : (q : Int) + 3 < (m3 : Int) := by omega
                have hq30 : (0 : Int) ≤ (q : Int) + 3 := by omega
                have hq3t : ((q : Int) + 3).toNat = q + 3 := by omega
                simp only at z3
                go_upto_region 28 with (fail)
                rw [← hA3]
                clear hA3 hbn
                have VE := Lib.hid (show Ex (wv.setCell ⟨gv, 3, none⟩ (.float .f64 xv)) gv ⟨(b0 : Int), (b1 : Int), (b2 : Int), xv⟩ from by
                  have h := VE.out
                  unfold Ex at h ⊢
                  rw [heap_setCell_same wv gv 3 _ _ _ h]
                  rfl)
                have HX := Lib.hid (show Mx (wv.setCell ⟨gv, 3, none⟩ (.float .f64 xv)) wl.heap.size ⟨(a0 : Int), (a1 : Int), (a2 : Int), (a3 : Int), (a4 : Int), va, vd, cellsD ns k, entsD ns (p + 1) tn⟩ s ⟨ta, tn, tc⟩ from HX.out.other (p := ⟨gv, 3, none⟩) (fun e => HGE.out.1 e.symm) _)
                have HOC := Lib.hid (show Rg.OwnG KC (wv.setCell ⟨gv, 3, none⟩ (.float .f64 xv)) wl.heap.size s.a s.n s.c (cellsD ns k) from HOC.out.keep (fun k hk => Below.heap_setCell _ _ _ _ (row_ne HVE0.out HOC.out.2 (by decide) hk)))
                have HOE := Lib.hid (show Rg.OwnG KE (wv.setCell ⟨gv, 3, none⟩ (.float .f64 xv)) wl.heap.size ta tn tc (entsD ns (p + 1) tn) from HOE.out.keep (fun k hk => Below.heap_setCell _ _ _ _ (by have := (HLT.out k hk); show k ≠ gv; omega)))
                have HBK := Lib.hid (show Below wl.heap.size wl (wv.setCell ⟨gv, 3, none⟩ (.float .f64 xv)) from HBK.out.setCell HGE.out.2 _)
                clear z3 f3 hq3 hq30 hq3t hn3
                generalize wv.setCell ⟨gv, 3, none⟩ (.float .f64 xv) = wv at VE HX HOC HOE HBK ⊢
                obtain ⟨e0, e1, e2, e3⟩ : wv.cell? ⟨gv, 0, none⟩ = some (.int .i64 (b0 : Int)) ∧ wv.cell? ⟨gv, 1, none⟩ = some (.int .i64 (b1 : Int)) ∧ wv.cell? ⟨gv, 2, none⟩ = some (.int .i64 (b2 : Int)) ∧ wv.cell? ⟨gv, 3, none⟩ = some (.float .f64 xv) := ⟨VE.out.c0, VE.out.c1, VE.out.c2, VE.out.c3⟩
                have x8 := HX.out.c8
                simp only at x8
                have EOB : Obj := (.cells #[.int .i64 (b0 : Int), .int .i64 (b1 : Int), .int .i64 (b2 : Int), .float .f64 xv] 52)
                clear EOB
                have HO7 := Lib.hid (HOE.out.alloc (.cells #[.int .i64 (b0 : Int), .int .i64 (b1 : Int), .int .i64 (b2 : Int), .float .f64 xv] 52))
                have HC7 := Lib.hid (HOC.out.alloc (.cells #[.int .i64 (b0 : Int), .int .i64 (b1 : Int), .int .i64 (b2 : Int), .float .f64 xv] 52))
                have HB7 := Lib.hid (bal HBK.out (Nat.le_refl _) (.cells #[.int .i64 (b0 : Int), .int .i64 (b1 : Int), .int .i64 (b2 : Int), .float .f64 xv] 52))
                have HX7 := Lib.hid (show Mx (wv.alloc (.cells #[.int .i64 (b0 : Int), .int .i64 (b1 : Int), .int .i64 (b2 : Int), .float .f64 xv] 52)) wl.heap.size ⟨(a0 : Int), (a1 : Int), (a2 : Int), (a3 : Int), (a4 : Int), va, vd, cellsD ns k, entsD ns (p + 1) tn⟩ s ⟨ta, tn, tc⟩ from hbe HX.out)
                have HRW := Lib.hid (show Rg.Rs KE (wv.alloc (.cells #[.int .i64 (b0 : Int), .int .i64 (b1 : Int), .int .i64 (b2 : Int), .float .f64 xv] 52)) (wv.heap.size + 1) (some ⟨wv.heap.size, 0, none⟩) [⟨(b0 : Int), (b1 : Int), (b2 : Int), xv⟩] from Rg.rs_new KE wv [⟨(b0 : Int), (b1 : Int), (b2 : Int), xv⟩])
                have HX78 : Hid (∀ W, Mx W wl.heap.size ⟨(a0 : Int), (a1 : Int), (a2 : Int), (a3 : Int), (a4 : Int), va, vd, cellsD ns k, entsD ns (p + 1) tn⟩ s ⟨ta, tn, tc⟩ → W.cell? ⟨wl.heap.size, 8, none⟩ = some (.slice ta tn tc) ∧ W.frozen? ⟨wl.heap.size, 8, none⟩ = false) := Lib.hid (fun W h => ⟨h.c8, h.frozen 8⟩)
                go_upto_region 29 with (at_builtin; refine Rg.wp_appGg (K := KE) rfl (.tmp 139) (.tmp 141) rfl wl.heap.size ta tn tc _ rfl HO7.out _ _ 1 1 [⟨(b0 : Int), (b1 : Int), (b2 : Int), xv⟩] rfl rfl HRW.out (by show _ * 32 ≤ _; omega) HB7.out.size ?_; intro A9 c9 w9 ho9 hb9 hg9; obtain ⟨p8, f8⟩ := HX78.out w9 (Rg.blk_apart HX7.out HO7.out.2 (by decide) hg9))
                have HX9 := Lib.hid (show Mx w9 wl.heap.size ⟨(a0 : Int), (a1 : Int), (a2 : Int), (a3 : Int), (a4 : Int), va, vd, cellsD ns k, entsD ns (p + 1) tn⟩ s ⟨ta, tn, tc⟩ from Rg.blk_apart HX7.out HO7.out.2 (by decide) hg9)
                have HC9 := Lib.hid (show Rg.OwnG KC w9 wl.heap.size s.a s.n s.c (cellsD ns k) from ⟨HC7.out.1, Rg.rows_apart HC7.out.2 HO7.out.2 (by decide) hg9⟩)
                have HX := Lib.hid (HX9.out.put1 8 (.slice A9 (tn + 1) c9) ⟨(a0 : Int), (a1 : Int), (a2 : Int), (a3 : Int), (a4 : Int), va, vd, cellsD ns k, entsD ns (p + 1) (tn + 1)⟩ s ⟨A9, tn + 1, c9⟩ rfl)
                have HBE := Lib.hid (show Below wl.heap.size wl (w9.setCell ⟨wl.heap.size, 8, none⟩ (.slice A9 (tn + 1) c9)) from (HB7.out.trans hb9).setCell (Nat.le_refl _) _)
                have HOE := Lib.hid (show Rg.OwnG KE (w9.setCell ⟨wl.heap.size, 8, none⟩ (.slice A9 (tn + 1) c9)) wl.heap.size A9 (tn + 1) c9 (entsD ns (p + 1) tn ++ [⟨(b0 : Int), (b1 : Int), (b2 : Int), xv⟩]) from ho9.keep (fun k hk => Below.heap_setCell _ _ _ _ (own_ne HX9.out ho9.2 (by decide) hk)))
                have HOC := Lib.hid (show Rg.OwnG KC (w9.setCell ⟨wl.heap.size, 8, none⟩ (.slice A9 (tn + 1) c9)) wl.heap.size s.a s.n s.c (cellsD ns k) from HC9.out.keep (fun k hk => Below.heap_setCell _ _ _ _ (own_ne HX9.out HC9.out.2 (by decide) hk)))
                clear ho9 hb9 hg9 p8 f8 HX78 HX7 HO7 HB7 HRW HC7 e0 e1 e2 e3 x8
                generalize w9.setCell ⟨wl.heap.size, 8, none⟩ (.slice A9 (tn + 1) c9) = wz at HX HBE HOE HOC ⊢
                go_wp2
                exact ⟨⟨tn + 1, q + 4, ⟨A9, tn + 1, c9⟩, by go_num, by go_num, by have := HQ.out; omega, HJ1.out, HX.out, HOC.out, by rw [HES.out]; exact HOE.out, HBE.out⟩, by simp [intOf]; omega⟩
              · have HES : Hid (entsD ns (p + 1) (tn + 1) = entsD ns (p + 1) tn ++ [⟨(b0 : Int), (b1 : Int), (b2 : Int), 0⟩]) := Lib.hid (by rw [HES.out, List.getElem?_eq_none (by rw [← HM3.out]; omega)]; rfl)
                have hq3 : ¬ (q : Int) + 3 < (m3 : Int) := by omega
                obtain ⟨xv, hxv⟩ : ∃ xv : Nat, xv = 0 := ⟨0, rfl⟩
                rw [← hxv] at VE HES
                clear hxv
                go_upto_region 28 with (fail)
                clear hq3
                obtain ⟨e0, e1, e2, e3⟩ : wv.cell? ⟨gv, 0, none⟩ = some (.int .i64 (b0 : Int)) ∧ wv.cell? ⟨gv, 1, none⟩ = some (.int .i64 (b1 : Int)) ∧ wv.cell? ⟨gv, 2, none⟩ = some (.int .i64 (b2 : Int)) ∧ wv.cell? ⟨gv, 3, none⟩ = some (.float .f64 xv) := ⟨VE.out.c0, VE.out.c1, VE.out.c2, VE.out.c3⟩
                have x8 := HX.out.c8
                simp only at x8
                have EOB : Obj := (.cells #[.int .i64 (b0 : Int), .int .i64 (b1 : Int), .int .i64 (b2 : Int), .float .f64 xv] 52)
                clear EOB
                have HO7 := Lib.hid (HOE.out.alloc (.cells #[.int .i64 (b0 : Int), .int .i64 (b1 : Int), .int .i64 (b2 : Int), .float .f64 xv] 52))
                have HC7 := Lib.hid (HOC.out.alloc (.cells #[.int .i64 (b0 : Int), .int .i64 (b1 : Int), .int .i64 (b2 : Int), .float .f64 xv] 52))
                have HB7 := Lib.hid (bal HBK.out (Nat.le_refl _) (.cells #[.int .i64 (b0 : Int), .int .i64 (b1 : Int), .int .i64 (b2 : Int), .float .f64 xv] 52))
                have HX7 := Lib.hid (show Mx (wv.alloc (.cells #[.int .i64 (b0 : Int), .int .i64 (b1 : Int), .int .i64 (b2 : Int), .float .f64 xv] 52)) wl.heap.size ⟨(a0 : Int), (a1 : Int), (a2 : Int), (a3 : Int), (a4 : Int), va, vd, cellsD ns k, entsD ns (p + 1) tn⟩ s ⟨ta, tn, tc⟩ from hbe HX.out)
                have HRW := Lib.hid (show Rg.Rs KE (wv.alloc (.cells #[.int .i64 (b0 : Int), .int .i64 (b1 : Int), .int .i64 (b2 : Int), .float .f64 xv] 52)) (wv.heap.size + 1) (some ⟨wv.heap.size, 0, none⟩) [⟨(b0 : Int), (b1 : Int), (b2 : Int), xv⟩] from Rg.rs_new KE wv [⟨(b0 : Int), (b1 : Int), (b2 : Int), xv⟩])
                have HX78 : Hid (∀ W, Mx W wl.heap.size ⟨(a0 : Int), (a1 : Int), (a2 : Int), (a3 : Int), (a4 : Int), va, vd, cellsD ns k, entsD ns (p + 1) tn⟩ s ⟨ta, tn, tc⟩ → W.cell? ⟨wl.heap.size, 8, none⟩ = some (.slice ta tn tc) ∧ W.frozen? ⟨wl.heap.size, 8, none⟩ = false) := Lib.hid (fun W h => ⟨h.c8, h.frozen 8⟩)
                go_upto_region 29 with (at_builtin; refine Rg.wp_appGg (K := KE) rfl (.tmp 139) (.tmp 141) rfl wl.heap.size ta tn tc _ rfl HO7.out _ _ 1 1 [⟨(b0 : Int), (b1 : Int), (b2 : Int), xv⟩] rfl rfl HRW.out (by show _ * 32 ≤ _; omega) HB7.out.size ?_; intro A9 c9 w9 ho9 hb9 hg9; obtain ⟨p8, f8⟩ := HX78.out w9 (Rg.blk_apart HX7.out HO7.out.2 (by decide) hg9))
                have HX9 := Lib.hid (show Mx w9 wl.heap.size ⟨(a0 : Int), (a1 : Int), (a2 : Int), (a3 : Int), (a4 : Int), va, vd, cellsD ns k, entsD ns (p + 1) tn⟩ s ⟨ta, tn, tc⟩ from Rg.blk_apart HX7.out HO7.out.2 (by decide) hg9)
                have HC9 := Lib.hid (show Rg.OwnG KC w9 wl.heap.size s.a s.n s.c (cellsD ns k) from ⟨HC7.out.1, Rg.rows_apart HC7.out.2 HO7.out.2 (by decide) hg9⟩)
                have HX := Lib.hid (HX9.out.put1 8 (.slice A9 (tn + 1) c9) ⟨(a0 : Int), (a1 : Int), (a2 : Int), (a3 : Int), (a4 : Int), va, vd, cellsD ns k, entsD ns (p + 1) (tn + 1)⟩ s ⟨A9, tn + 1, c9⟩ rfl)
                have HBE := Lib.hid (show Below wl.heap.size wl (w9.setCell ⟨wl.heap.size, 8, none⟩ (.slice A9 (tn + 1) c9)) from (HB7.out.trans hb9).setCell (Nat.le_refl _) _)
                have HOE := Lib.hid (show Rg.OwnG KE (w9.setCell ⟨wl.heap.size, 8, none⟩ (.slice A9 (tn + 1) c9)) wl.heap.size A9 (tn + 1) c9 (entsD ns (p + 1) tn ++ [⟨(b0 : Int), (b1 : Int), (b2 : Int), xv⟩]) from ho9.keep (fun k hk => Below.heap_setCell _ _ _ _ (own_ne HX9.out ho9.2 (by decide) hk)))
                have HOC := Lib.hid (show Rg.OwnG KC (w9.setCell ⟨wl.heap.size, 8, none⟩ (.slice A9 (tn + 1) c9)) wl.heap.size s.a s.n s.c (cellsD ns k) from HC9.out.keep (fun k hk => Below.heap_setCell _ _ _ _ (own_ne HX9.out HC9.out.2 (by decide) hk)))
                clear ho9 hb9 hg9 p8 f8 HX78 HX7 HO7 HB7 HRW HC7 e0 e1 e2 e3 x8
                generalize w9.setCell ⟨wl.heap.size, 8, none⟩ (.slice A9 (tn + 1) c9) = wz at HX HBE HOE HOC ⊢
                go_wp2
                exact ⟨⟨tn + 1, q + 4, ⟨A9, tn + 1, c9⟩, by go_num, by go_num, by have := HQ.out; omega, HJ1.out, HX.out, HOC.out, by rw [HES.out]; exact HOE.out, HBE.out⟩, by simp [intOf]; omega⟩
            · have hjb : j = bookD ns := by have := HBD.out; have := HJ.out; omega
              go_upto_region 23 with (fail)
              go_cut [110] (fun s110 wq => s110 = .bool false ∧ we = wq)
              case first =>
                clear HRF HBL HB HZ HO HM3 HW HDC HE5 HLA HX HOC HOE HAT HBK HTN
                by_cases h1 : j < a7
                · have h2 : ¬ j < 4 := by omega
                  clear hlt hjb
                  go_wp2
                  go_meet
                  case rel => exact ⟨congrArg Value.bool (by rw [decide_eq_false_iff_not]; omega), rfl⟩
                · clear hlt hjb
                  go_wp2
                  go_meet
                  case rel => exact ⟨rfl, rfl⟩
              case rest =>
              obtain ⟨rfl, rfl⟩ := hcut
              have HDC : Hid (decM ns = ⟨(a0 : Int), (a1 : Int), (a2 : Int), (a3 : Int), (a4 : Int), va, vd, cellsD ns k, entsD ns (p + 1) j⟩) := Lib.hid (by rw [HDC.out, hjb])
              have hj4 : j ≤ 4 := by have := HBD.out; omega
              clear hlt hjb HBD HJ HQ HAT HTN
              have HMM := Lib.hid (show Mo we ⟨(a0 : Int), (a1 : Int), (a2 : Int), (a3 : Int), (a4 : Int), va, vd, cellsD ns k, entsD ns (p + 1) j⟩ s t from ⟨Sc.own HOC.out (by unfold cellsD; simp; omega), So.own HOE.out (wf_ents HW.out (p + 1) j) (by unfold entsD; simp; omega)⟩)
              have HFRM := Lib.hid (frame_o ⟨(a0 : Int), (a1 : Int), (a2 : Int), (a3 : Int), (a4 : Int), va, vd, cellsD ns k, entsD ns (p + 1) j⟩ s t we HMM.out)
              have HZ := Lib.hid (HZ.out.all HBK.out)
              have HB := Lib.hid (HB.out.trans (HBK.out.mono HB.out.size))
              rw [HDC.out] at HRF
              have HLW : Hid (w.heap.size < wl.heap.size) := Lib.hid (Nat.lt_of_lt_of_le HZ2.out HBL.out.size)
              have HOC := Lib.hid (show Rg.OwnG KC we wl.heap.size s.a s.n s.c (⟨(a0 : Int), (a1 : Int), (a2 : Int), (a3 : Int), (a4 : Int), va, vd, cellsD ns k, entsD ns (p + 1) j⟩ : M).cells from HOC.out)
              have HOE := Lib.hid (show Rg.OwnG KE we wl.heap.size t.a t.n t.c (⟨(a0 : Int), (a1 : Int), (a2 : Int), (a3 : Int), (a4 : Int), va, vd, cellsD ns k, entsD ns (p + 1) j⟩ : M).book from HOE.out)
              clear HDC
              generalize hMM : (⟨(a0 : Int), (a1 : Int), (a2 : Int), (a3 : Int), (a4 : Int), va, vd, cellsD ns k, entsD ns (p + 1) j⟩ : M) = mm at HRF HMM HFRM HX HOC HOE
              have HMQ := Lib.hid hMM; clear hMM
              obtain ⟨x0, x1, x2, x3, x4, x5, x6, x7, x8⟩ := HX.out.cs
              unfold mvv at HFRM
              go_wp2_with fail
              refine HFRM.out.mono ?_
              rintro e0 w8 ⟨A8, n8, c8, rfl, hn8, hc8, hr8, hb⟩
              clear x0 x1 x2 x3 x4 x5 x6 x7 x8
              have HX := Lib.hid (HX.out.all hb)
              have HMM := Lib.hid (HMM.out.all hb)
              have HZ := Lib.hid (HZ.out.all hb)
              have HOC := Lib.hid (HOC.out.below hb (Nat.le_refl _))
              have HOE := Lib.hid (HOE.out.below hb (Nat.le_refl _))
              have HB := Lib.hid (HB.out.trans (hb.mono HB.out.size)); clear hb
              have HN8 := Lib.hid hn8; have HR8 := Lib.hid hr8; clear hn8 hr8
              cases hrt : rightM mm with
              | false =>
                have HE := Lib.hid (show readF bs = none from by rw [HRF.out, if_neg (by rw [hrt]; simp)])
                rw [(fr_no hrt).1]
                clear hrt HN8 HR8
                obtain ⟨y0, y1, y2, y3, y4, y5, y6, y7, y8⟩ := HZ.out.cs
                have f0 := HZ.out.frozen 0; have f1 := HZ.out.frozen 1; have f2 := HZ.out.frozen 2; have f3 := HZ.out.frozen 3; have f4 := HZ.out.frozen 4; have f5 := HZ.out.frozen 5; have f6 := HZ.out.frozen 6; have f7 := HZ.out.frozen 7; have f8 := HZ.out.frozen 8
                simp only [zeroM] at y0 y1 y2 y3 y4 y5 y6 y7 y8
                go_wp2
                refine bodyPost_ret (results_msg2 (g := w.heap.size) (m := zeroM) (s := ⟨none, 0, 0⟩) (t := ⟨none, 0, 0⟩) (x := .int .i64 111) rfl rfl rfl (HZ.out.put zeroM ⟨none, 0, 0⟩ ⟨none, 0, 0⟩)) rfl ?_
                exact rd_no HE.out (((((((((HB.out.setCell (Nat.le_refl _) _).setCell (Nat.le_refl _) _).setCell (Nat.le_refl _) _).setCell (Nat.le_refl _) _).setCell (Nat.le_refl _) _).setCell (Nat.le_refl _) _).setCell (Nat.le_refl _) _).setCell (Nat.le_refl _) _).setCell (Nat.le_refl _) _)
              | true =>
              have HFY := Lib.hid (fr_yes hrt)
              rw [HFY.out.1]
              have hs1 := str8' (w := w8) (B := w8.heap.size) c8 (show Rd w8 w8.heap.size A8 ((frB mm).map B8) from HR8.out) HN8.out
              have hs2 := str8' (w := w8) (B := w.heap.size) c (HR.out.below HB.out) HN.out
              by_cases hfe : frB mm = bs
              · have hst : ((str (frB mm)).toList == (str bs).toList) = true := by rw [hfe]; simp
                have HE := Lib.hid (show readF bs = some mm from by rw [HRF.out, if_pos ⟨hrt, by rw [← HFY.out.2]; exact hfe⟩])
                generalize str (frB mm) = S1 at hs1 hst
                generalize str bs = S2 at hs2 hst
                clear hfe hrt
                obtain ⟨x0, x1, x2, x3, x4, x5, x6, x7, x8⟩ := HX.out.cs
                obtain ⟨y0, y1, y2, y3, y4, y5, y6, y7, y8⟩ := HZ.out.cs
                have f0 := HZ.out.frozen 0; have f1 := HZ.out.frozen 1; have f2 := HZ.out.frozen 2; have f3 := HZ.out.frozen 3; have f4 := HZ.out.frozen 4; have f5 := HZ.out.frozen 5; have f6 := HZ.out.frozen 6; have f7 := HZ.out.frozen 7; have f8 := HZ.out.frozen 8
                simp only [zeroM] at y0 y1 y2 y3 y4 y5 y6 y7 y8
                go_wp2
                refine bodyPost_ret (results_msg2 (g := w.heap.size) (m := mm) (s := s) (t := t) (x := .int .i64 0) rfl rfl rfl (HZ.out.put mm s t)) rfl ?_
                have HBF := Lib.hid (((((((((HB.out.setCell (Nat.le_refl _) (.int .i64 mm.kind) (p := ⟨w.heap.size, 0, none⟩)).setCell (Nat.le_refl _) (.int .i64 mm.src) (p := ⟨w.heap.size, 1, none⟩)).setCell (Nat.le_refl _) (.int .i64 mm.dst) (p := ⟨w.heap.size, 2, none⟩)).setCell (Nat.le_refl _) (.int .i64 mm.inc) (p := ⟨w.heap.size, 3, none⟩)).setCell (Nat.le_refl _) (.int .i64 mm.seq) (p := ⟨w.heap.size, 4, none⟩)).setCell (Nat.le_refl _) (.int .i64 mm.va) (p := ⟨w.heap.size, 5, none⟩)).setCell (Nat.le_refl _) (.int .i64 mm.vd) (p := ⟨w.heap.size, 6, none⟩)).setCell (Nat.le_refl _) (.slice s.a s.n s.c) (p := ⟨w.heap.size, 7, none⟩)).setCell (Nat.le_refl _) (.slice t.a t.n t.c) (p := ⟨w.heap.size, 8, none⟩))
                rw [HE.out]
                refine ⟨s, t, rfl, ?_, HBF.out⟩
                refine retCo_mo HMM.out (base := wl.heap.size) ?_ ?_
                · exact HOC.out.keep (fun k hk => chain9 (by have := (HOC.out.2.lt k hk).1; have := HLW.out; omega))
                · exact HOE.out.keep (fun k hk => chain9 (by have := (HOE.out.2.lt k hk).1; have := HLW.out; omega))
              · have hst : ((str (frB mm)).toList == (str bs).toList) = false := by rw [beq_eq_false_iff_ne, str_toList, str_toList]; exact hfe
                have HE := Lib.hid (show readF bs = none from by rw [HRF.out, if_neg (fun h => hfe (by rw [HFY.out.2]; exact h.2))])
                generalize str (frB mm) = S1 at hs1 hst
                generalize str bs = S2 at hs2 hst
                clear hfe hrt
                obtain ⟨y0, y1, y2, y3, y4, y5, y6, y7, y8⟩ := HZ.out.cs
                have f0 := HZ.out.frozen 0; have f1 := HZ.out.frozen 1; have f2 := HZ.out.frozen 2; have f3 := HZ.out.frozen 3; have f4 := HZ.out.frozen 4; have f5 := HZ.out.frozen 5; have f6 := HZ.out.frozen 6; have f7 := HZ.out.frozen 7; have f8 := HZ.out.frozen 8
                simp only [zeroM] at y0 y1 y2 y3 y4 y5 y6 y7 y8
                go_wp2
                refine bodyPost_ret (results_msg2 (g := w.heap.size) (m := zeroM) (s := ⟨none, 0, 0⟩) (t := ⟨none, 0, 0⟩) (x := .int .i64 111) rfl rfl rfl (HZ.out.put zeroM ⟨none, 0, 0⟩ ⟨none, 0, 0⟩)) rfl ?_
                exact rd_no HE.out (((((((((HB.out.setCell (Nat.le_refl _) _).setCell (Nat.le_refl _) _).setCell (Nat.le_refl _) _).setCell (Nat.le_refl _) _).setCell (Nat.le_refl _) _).setCell (Nat.le_refl _) _).setCell (Nat.le_refl _) _).setCell (Nat.le_refl _) _).setCell (Nat.le_refl _) _)
end Go.Proofs.Ytldfccllpnplmaa.Msw
