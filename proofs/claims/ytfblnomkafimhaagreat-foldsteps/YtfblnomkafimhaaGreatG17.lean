/- Contracts and words on which the claims of this seat stand, part 17: Open OpenT OpenE OpenR. -/
import Derived.Test.YtfblnomkafimhaaGreatRows
import Derived.Test.YtfblnomkafimhaaGreatG01
import Derived.Test.YtfblnomkafimhaaGreatG05
import Derived.Test.YtfblnomkafimhaaGreatG07
import Derived.ProofKit
import Derived.OpenShut
import Derived.SizedLaws
import Derived.Lib.SmallJoins
import Derived.Deep.SlicePairs
import Derived.ChangeSlices
import Derived.Laws.Cover2
set_option linter.unusedSimpArgs false
set_option linter.unusedVariables false
namespace Go.Proofs.YtfblnomkafimhaaGreat
set_option maxRecDepth 20000
open Go.ChangeShapes Go.WideShapes Go.ChangeAt Go.RowKit

/-- how many places a reading of a slice has -/
def Places {H : Type} (d : DataW H) (c : Nat) : Prop := (d = .nil ∧ c = 0) ∨ ∃ el sp, d = .slice el sp ∧ el.length + sp.length = c

theorem open_zs {H : Type} {enc : TypeId × Value → H} {W : World} {b0 : Nat} {t e : TypeId} {k : IntKind} {v : Value} {d : DataW H} {p : List MemPlace} (ht : Tryz.prog.underlying t = some (.slice e)) (he : Tryz.prog.underlying e = some (.int k)) (hc : Tryz.prog.cellsOf e = 1)
    (hval : Value.okWide Tryz.prog W .any b0 t v) (h : DataW.Trod enc Tryz.prog W 0 (fun _ => true) true t v d p) (hlt : ∀ x ∈ p, x.block < W.heap.size) :
    ∃ A n c, ∃ zs : List Int, v = .slice A n c ∧ n = zs.length ∧ n ≤ c ∧ c ≤ maxLen ∧ Rd W W.heap.size A (zs.map (Value.int k)) ∧ (∀ z ∈ zs, (Lit.int k z).wf = true) ∧ Places d c := by
  obtain ⟨a0, len, cap, rfl⟩ := okWide_slice ht hval
  obtain ⟨fuel, hf⟩ := h
  rcases open_ints ht he hc hf with ⟨hcs, hx⟩ | ⟨a, len', cap', zs, hcs, _, hl, hm, hz, hx, hcell, hwz⟩
  · simp [Value.cells] at hcs
    obtain ⟨rfl, rfl, rfl⟩ := hcs
    simp only [Prod.mk.injEq] at hx
    obtain ⟨rfl, rfl⟩ := hx
    exact ⟨none, 0, 0, [], rfl, rfl, Nat.le_refl _, by simp, Rd.nil, by simp, Or.inl ⟨rfl, rfl⟩⟩
  · simp [Value.cells] at hcs
    obtain ⟨rfl, rfl, rfl⟩ := hcs
    simp only [Prod.mk.injEq] at hx
    obtain ⟨rfl, rfl⟩ := hx
    simp only [if_true] at hz
    refine ⟨some a, len, cap, zs.take len, rfl, by simp; omega, hl, hm, ?_, fun z hzz => hwz z (List.mem_of_mem_take hzz), Or.inr ⟨_, _, rfl, by simp [lits]; omega⟩⟩
    intro hpos
    simp only [List.length_map, List.length_take] at hpos
    obtain ⟨b, off, spot⟩ := a
    have hspot : spot = none := by simpa [Addr.add] using World.cell?_spot (hcell 0 (by omega))
    subst hspot
    refine ⟨b, off, rfl, hlt (.cell b off) (MemPlace.mem_row.2 ⟨0, by omega, by simp⟩), fun j u hu => ?_⟩
    rw [List.getElem?_map, List.getElem?_take] at hu
    split at hu
    · have hj : j < zs.length := by omega
      rw [List.getElem?_eq_getElem hj] at hu
      simp only [Option.map_some, Option.some.injEq] at hu
      subst hu
      have := hcell j hj
      rw [add_plain] at this
      rw [this]
      simp [List.getD, hj]
    · cases hu

theorem open_u8 {H : Type} {enc : TypeId × Value → H} {W : World} {b0 : Nat} {t e : TypeId} {v : Value} {d : DataW H} {p : List MemPlace} (ht : Tryz.prog.underlying t = some (.slice e)) (he : Tryz.prog.underlying e = some (.int .u8)) (hc : Tryz.prog.cellsOf e = 1)
    (hval : Value.okWide Tryz.prog W .any b0 t v) (h : DataW.Trod enc Tryz.prog W 0 (fun _ => true) true t v d p) (hlt : ∀ x ∈ p, x.block < W.heap.size) :
    ∃ A n c, ∃ bs : List UInt8, v = .slice A n c ∧ n = bs.length ∧ n ≤ c ∧ Rd W W.heap.size A (bs.map B8) ∧ Places d c := by
  obtain ⟨A, n, c, zs, hv, hn, hnc, _, hr, hw, hd⟩ := open_zs ht he hc hval h hlt
  refine ⟨A, n, c, zs.map fun z => UInt8.ofNat z.toNat, hv, by simpa using hn, hnc, ?_, hd⟩
  have e : (zs.map fun z => UInt8.ofNat z.toNat).map B8 = zs.map (Value.int .u8) := by
    rw [List.map_map]
    refine List.map_congr_left fun z hz => ?_
    have hx : 0 ≤ z ∧ z ≤ 255 := by simpa [Lit.wf, IntKind.min, IntKind.max, IntKind.signed, IntKind.bits] using hw z hz
    simp only [Function.comp, B8, UInt8.toNat_ofNat']
    congr 1
    omega
  rw [e]
  exact hr

theorem open_u64 {H : Type} {enc : TypeId × Value → H} {W : World} {b0 : Nat} {t e : TypeId} {v : Value} {d : DataW H} {p : List MemPlace} (ht : Tryz.prog.underlying t = some (.slice e)) (he : Tryz.prog.underlying e = some (.int .u64)) (hc : Tryz.prog.cellsOf e = 1)
    (hval : Value.okWide Tryz.prog W .any b0 t v) (h : DataW.Trod enc Tryz.prog W 0 (fun _ => true) true t v d p) (hlt : ∀ x ∈ p, x.block < W.heap.size) :
    ∃ A n c, ∃ ns : List Nat, v = .slice A n c ∧ n = ns.length ∧ n ≤ c ∧ Rd W W.heap.size A (ns.map N64) ∧ (∀ x ∈ ns, x < 256 ^ 8) ∧ Places d c := by
  obtain ⟨A, n, c, zs, hv, hn, hnc, _, hr, hw, hd⟩ := open_zs ht he hc hval h hlt
  have hx : ∀ z ∈ zs, 0 ≤ z ∧ z ≤ 18446744073709551615 := fun z hz => by simpa [Lit.wf, IntKind.min, IntKind.max, IntKind.signed, IntKind.bits] using hw z hz
  refine ⟨A, n, c, zs.map Int.toNat, hv, by simpa using hn, hnc, ?_, ?_, hd⟩
  · have e : (zs.map Int.toNat).map N64 = zs.map (Value.int .u64) := by
      rw [List.map_map]
      refine List.map_congr_left fun z hz => ?_
      have := hx z hz
      simp only [Function.comp, N64]
      congr 1
      omega
    rw [e]
    exact hr
  · intro x hm
    obtain ⟨z, hz, rfl⟩ := List.mem_map.1 hm
    have := hx z hz
    omega

theorem sized_places {H : Type} {ts : List TypeId} {ds : List (DataW H)} (h : (DataW.weightsEach Tryz.prog ts ds).all (· ≤ reachBytes) = true) {j : Nat} {t e : TypeId} {d : DataW H} {c : Nat} (ht : ts[j]? = some t) (hd : ds[j]? = some d) (hu : Tryz.prog.underlying t = some (.slice e)) (hp : Places d c) :
    c * Tryz.prog.bytesOf e ≤ 140737488351232 := by
  rcases hp with ⟨_, rfl⟩ | ⟨el, sp, rfl, rfl⟩
  · omega
  · have := sized_slice h ht hd hu
    simpa [reachBytes] using this

theorem bulk_one {H : Type} (d : DataW H) : 1 ≤ Rows.uptoBulk d := by
  cases d with
  | lit l => cases l <;> simp [Rows.uptoBulk]
  | _ => simp [Rows.uptoBulk]
theorem bulk_len {H : Type} (l : List (DataW H)) : l.length ≤ Rows.uptoBulkAll l := by
  induction l with
  | nil => exact Nat.zero_le _
  | cons x r ih =>
    have := bulk_one x
    simp only [Rows.uptoBulkAll, List.length_cons]
    omega
theorem bulk_mem {H : Type} {d : DataW H} {l : List (DataW H)} {j : Nat} (h : l[j]? = some d) : Rows.uptoBulk d ≤ Rows.uptoBulkAll l := by
  induction l generalizing j with
  | nil => simp at h
  | cons x r ih =>
    simp only [Rows.uptoBulkAll]
    cases j with
    | zero => simp only [List.getElem?_cons_zero, Option.some.injEq] at h; subst h; omega
    | succ j => have := ih (j := j) (by simpa using h); omega
theorem upto_places {H : Type} {ds : List (DataW H)} (hk : Rows.uptoSmall H ds = true) {j : Nat} {d : DataW H} {c : Nat} (hd : ds[j]? = some d) (hp : Places d c) : c ≤ 1048576 := by
  have hb : Rows.uptoBulkAll ds ≤ 1048576 := of_decide_eq_true hk
  have h1 := bulk_mem hd
  rcases hp with ⟨_, rfl⟩ | ⟨el, sp, rfl, rfl⟩
  · omega
  · have h2 := bulk_len el
    have h3 := bulk_len sp
    simp only [Rows.uptoBulk] at h1
    omega
theorem upto_bulk {H : Type} {ds : List (DataW H)} (hk : Rows.uptoSmall H ds = true) {j : Nat} {d : DataW H} {m : Nat} (hd : ds[j]? = some d) (hm : m ≤ Rows.uptoBulk d) : m ≤ 1048576 := by
  have hb : Rows.uptoBulkAll ds ≤ 1048576 := of_decide_eq_true hk
  have h1 := bulk_mem hd
  omega
end Go.Proofs.YtfblnomkafimhaaGreat

namespace Go.Proofs.YtfblnomkafimhaaGreat
set_option maxRecDepth 20000
open Go.ChangeShapes Go.WideShapes Go.ChangeAt Go.RowKit
open Tg Tgw

theorem open_tag {H : Type} {enc : TypeId × Value → H} {W : World} {b0 : Nat} {v : Value} {d : DataW H} {p : List MemPlace}
    (hval : Value.okWide Tryz.prog W .any b0 55 v) (h : DataW.Trod enc Tryz.prog W 0 (fun _ => true) true 55 v d p) :
    ∃ a b : Int, v = .agg #[.int .i64 a, .int .i64 b] ∧ (Lit.int .i64 a).wf = true ∧ (Lit.int .i64 b).wf = true := by
  obtain ⟨v0, v1, y0, y1, n, rfl, _, _, h0, h1⟩ := Go.Joins.open_agg2 (P := Tryz.prog) Tryz.underlying55 (by kernel_rfl) (by kernel_rfl) hval h
  obtain ⟨a, ea, _, wa⟩ := DataW.trod_int Tryz.underlying3 h0
  obtain ⟨b, eb, _, wb⟩ := DataW.trod_int Tryz.underlying3 h1
  simp only [List.cons.injEq, and_true] at ea eb
  exact ⟨a, b, by rw [ea, eb], wa, wb⟩
theorem i64_wf {a : Int} (h : (Lit.int .i64 a).wf = true) : I64 a := by
  unfold I64
  simpa [Lit.wf, IntKind.min, IntKind.max, IntKind.signed, IntKind.bits] using h
theorem open_tags {H : Type} {enc : TypeId × Value → H} {W : World} {b0 : Nat} {t : TypeId} {v : Value} {d : DataW H} {p : List MemPlace} (ht : Tryz.prog.underlying t = some (.slice 55))
    (hval : Value.okWide Tryz.prog W .any b0 t v) (h : DataW.Trod enc Tryz.prog W 0 (fun _ => true) true t v d p) (hlt : ∀ x ∈ p, x.block < W.heap.size) :
    ∃ A n c, ∃ ts : List (Int × Int), v = .slice A n c ∧ n = ts.length ∧ n ≤ c ∧ Rt W W.heap.size A ts ∧ (∀ x ∈ ts, I2 x) ∧ Places d c := by
  obtain ⟨a0, len, cap, rfl⟩ := okWide_slice ht hval
  obtain ⟨fuel, hf⟩ := h
  rcases Deep.open_slice_pairs ht Tryz.underlying55 (by kernel_rfl) rfl rfl (by kernel_rfl) (by kernel_rfl) hf with ⟨hcs, hx⟩ | ⟨a, len', cap', m, fl, V0, V1, D0, D1, P0, P1, hcs, _, hl, hm, hmm, hx, hrow⟩
  · simp [Value.cells] at hcs
    obtain ⟨rfl, rfl, rfl⟩ := hcs
    simp only [Prod.mk.injEq] at hx
    obtain ⟨rfl, rfl⟩ := hx
    exact ⟨none, 0, 0, [], rfl, rfl, Nat.le_refl _, Rt.nil, by simp, Or.inl ⟨rfl, rfl⟩⟩
  · simp [Value.cells] at hcs
    obtain ⟨rfl, rfl, rfl⟩ := hcs
    simp only [Prod.mk.injEq] at hx
    obtain ⟨rfl, rfl⟩ := hx
    simp only [if_true] at hmm
    subst hmm
    let f : Nat → Int × Int := fun r => (intOf (V0 r), intOf (V1 r))
    have hat : ∀ j, j < len → (W.cell? (a.add (j * 2)) = some (.int .i64 (f j).1) ∧ W.cell? (a.add (j * 2 + 1)) = some (.int .i64 (f j).2)) ∧ I2 (f j) := by
      intro j hj
      obtain ⟨h0, h1, g0, g1⟩ := hrow j (by omega)
      obtain ⟨x, ex, _, wx⟩ := DataW.trod_int Tryz.underlying3 g0
      obtain ⟨y, ey, _, wy⟩ := DataW.trod_int Tryz.underlying3 g1
      simp only [List.cons.injEq, and_true] at ex ey
      show (W.cell? _ = some (.int .i64 (intOf (V0 j))) ∧ W.cell? _ = some (.int .i64 (intOf (V1 j)))) ∧ I2 (intOf (V0 j), intOf (V1 j))
      rw [ex] at h0 ⊢
      rw [ey] at h1 ⊢
      exact ⟨⟨h0, h1⟩, i64_wf wx, i64_wf wy⟩
    refine ⟨some a, len, _, (List.range len).map f, rfl, by simp, hl, ?_, ?_, Or.inr ⟨_, _, rfl, by simp; omega⟩⟩
    · intro hpos
      simp only [List.length_map, List.length_range] at hpos
      obtain ⟨b, off, spot⟩ := a
      have hspot : spot = none := by simpa [Addr.add] using World.cell?_spot (hrow 0 (by omega)).1
      subst hspot
      refine ⟨b, off, rfl, hlt (.cell b off) (List.mem_append_left _ (MemPlace.mem_row.2 ⟨0, by omega, by simp⟩)), fun j u hu => ?_⟩
      rw [List.getElem?_map] at hu
      rcases Nat.lt_or_ge j len with hj | hj
      · rw [List.getElem?_range hj] at hu
        simp only [Option.map_some, Option.some.injEq] at hu
        subst hu
        obtain ⟨⟨h0, h1⟩, _⟩ := hat j hj
        rw [add_plain] at h0 h1
        exact ⟨h0, h1⟩
      · rw [List.getElem?_eq_none (by simpa using hj)] at hu
        cases hu
    · intro x hx
      obtain ⟨j, hj, rfl⟩ := List.mem_map.1 hx
      exact (hat j (List.mem_range.1 hj)).2
end Go.Proofs.YtfblnomkafimhaaGreat

namespace Go.Proofs.YtfblnomkafimhaaGreat
set_option maxRecDepth 20000
open Go.ChangeShapes Go.WideShapes Go.ChangeAt Go.RowKit
open Tg Bk Bkw

theorem trod_flt {H : Type} {enc : TypeId × Value → H} {W : World} {base fuel : Nat} {sp : Nat → Bool} {held : Bool} {t : TypeId} {cs : List Value} {x : DataW H × List MemPlace} (ht : Tryz.prog.underlying t = some (.float .f64)) (h : DataW.trod enc Tryz.prog W base sp held fuel t cs = some x) :
    ∃ n, cs = [.float .f64 n] ∧ (Lit.float .f64 n).wf = true := by
  cases fuel with
  | zero => simp [DataW.trod] at h
  | succ n =>
    unfold DataW.trod at h
    rw [ht] at h
    split at h <;> simp_all
theorem f64_wf {b : Nat} (h : (Lit.float .f64 b).wf = true) : Flt.U64 b := by
  unfold Flt.U64
  simpa [Lit.wf] using h
theorem open_entries {H : Type} {enc : TypeId × Value → H} {W : World} {b0 : Nat} {t : TypeId} {v : Value} {d : DataW H} {p : List MemPlace} (ht : Tryz.prog.underlying t = some (.slice 58))
    (hval : Value.okWide Tryz.prog W .any b0 t v) (h : DataW.Trod enc Tryz.prog W 0 (fun _ => true) true t v d p) (hlt : ∀ x ∈ p, x.block < W.heap.size) :
    ∃ A n c, ∃ es : List E, v = .slice A n c ∧ n = es.length ∧ n ≤ c ∧ Re W W.heap.size A es ∧ (∀ x ∈ es, WfE x) ∧ Places d c := by
  obtain ⟨a0, len, cap, rfl⟩ := okWide_slice ht hval
  obtain ⟨fuel, hf⟩ := h
  have ce : Tryz.prog.cellsOf 58 = 4 := by kernel_rfl
  rcases Deep.open_slice ht hf with ⟨hcs, hx⟩ | ⟨a, len', cap', m, fl, D, Pl, hcs, _, hl, hm, hmm, hx, hrow⟩
  · simp [Value.cells] at hcs
    obtain ⟨rfl, rfl, rfl⟩ := hcs
    simp only [Prod.mk.injEq] at hx
    obtain ⟨rfl, rfl⟩ := hx
    exact ⟨none, 0, 0, [], rfl, rfl, Nat.le_refl _, Re.nil, by simp, Or.inl ⟨rfl, rfl⟩⟩
  · simp [Value.cells] at hcs
    obtain ⟨rfl, rfl, rfl⟩ := hcs
    simp only [Prod.mk.injEq] at hx
    obtain ⟨rfl, rfl⟩ := hx
    simp only [if_true] at hmm
    subst hmm
    have each : ∀ i, i < m → ∃ e : E, WfE e ∧ ∀ j u, j < 4 → (cellsE e)[j]? = some u → W.cell? (a.add (i * 4 + j)) = some u := by
      intro i hi
      obtain ⟨cs, h1, h2⟩ := hrow i hi
      rw [ce] at h1
      obtain ⟨_, hlen, hcell⟩ := World.cells?_some h1
      obtain ⟨xs, k, hk, hxy, _, hxl, hfd⟩ := DataW.trod_struct Tryz.underlying58 h2
      match xs, hxl, cs, hlen with
      | [y0, y1, y2], _, [v0, v1, v2, v3], _ =>
        have g0 := hfd 0 _ rfl
        have g1 := hfd 1 _ rfl
        have g2 := hfd 2 _ rfl
        simp only [show Tryz.prog.cellsOf 3 = 1 from by kernel_rfl, show Tryz.prog.cellsOf 55 = 2 from by kernel_rfl, show Tryz.prog.cellsOf 56 = 1 from by kernel_rfl, List.drop_zero, List.drop_succ_cons, List.take_succ_cons, List.take_zero, List.getElem?_cons_zero, List.getElem?_cons_succ] at g0 g1 g2
        obtain ⟨x0, e0, _, w0⟩ := DataW.trod_int Tryz.underlying3 g0
        obtain ⟨x3, e3, w3⟩ := trod_flt Tryz.underlying56 g2
        obtain ⟨zs, k2, hk2, _, _, hzl, hfz⟩ := DataW.trod_struct Tryz.underlying55 g1
        match zs, hzl with
        | [z0, z1], _ =>
          have q0 := hfz 0 _ rfl
          have q1 := hfz 1 _ rfl
          simp only [show Tryz.prog.cellsOf 3 = 1 from by kernel_rfl, List.drop_zero, List.drop_succ_cons, List.take_succ_cons, List.take_zero, List.getElem?_cons_zero, List.getElem?_cons_succ] at q0 q1
          obtain ⟨x1, e1, _, w1⟩ := DataW.trod_int Tryz.underlying3 q0
          obtain ⟨x2, e2, _, w2⟩ := DataW.trod_int Tryz.underlying3 q1
          obtain rfl : v0 = .int .i64 x0 := (List.cons.inj e0).1
          obtain rfl : v1 = .int .i64 x1 := (List.cons.inj e1).1
          obtain rfl : v2 = .int .i64 x2 := (List.cons.inj e2).1
          obtain rfl : v3 = .float .f64 x3 := (List.cons.inj e3).1
          refine ⟨⟨x0, x1, x2, x3⟩, ⟨i64_wf w0, i64_wf w1, i64_wf w2, f64_wf w3⟩, fun j u hj hu => ?_⟩
          have := hcell j hj
          rw [Deep.add_add] at this
          rw [this]
          exact hu
    let f : Nat → E := fun r => if h : r < m then (each r h).choose else zero 0
    have hat : ∀ j, j < m → WfE (f j) ∧ ∀ i u, i < 4 → (cellsE (f j))[i]? = some u → W.cell? (a.add (j * 4 + i)) = some u := by
      intro j hj
      have := (each j hj).choose_spec
      simp only [f, dif_pos hj]
      exact this
    refine ⟨some a, len, _, (List.range len).map f, rfl, by simp, hl, ?_, ?_, Or.inr ⟨_, _, rfl, by simp; omega⟩⟩
    · intro hpos
      simp only [List.length_map, List.length_range] at hpos
      obtain ⟨b, off, spot⟩ := a
      have hspot : spot = none := by simpa [Addr.add] using World.cell?_spot ((hat 0 (by omega)).2 0 _ (by omega) rfl)
      subst hspot
      refine ⟨b, off, rfl, hlt (.cell b off) (List.mem_append_left _ (MemPlace.mem_row.2 ⟨0, by rw [ce]; omega, by simp⟩)), fun j u hu => ?_⟩
      rw [List.getElem?_map] at hu
      rcases Nat.lt_or_ge j len with hj | hj
      · rw [List.getElem?_range hj] at hu
        simp only [Option.map_some, Option.some.injEq] at hu
        subst hu
        refine four_of fun i u hi hu => ?_
        have := (hat j (by omega)).2 i u hi hu
        rw [add_plain] at this
        rw [Nat.add_assoc]
        exact this
      · rw [List.getElem?_eq_none (by simpa using hj)] at hu
        cases hu
    · intro x hx
      obtain ⟨j, hj, rfl⟩ := List.mem_map.1 hx
      exact (hat j (by have := List.mem_range.1 hj; omega)).1
end Go.Proofs.YtfblnomkafimhaaGreat

namespace Go.Proofs.YtfblnomkafimhaaGreat
set_option maxRecDepth 20000
open Go.ChangeShapes Go.WideShapes Go.ChangeAt Go.RowKit
open Tg Bk Bkw Lg Lgw

theorem trod_two {H : Type} {enc : TypeId × Value → H} {W : World} {fuel : Nat} {v0 v1 : Value} {x : DataW H × List MemPlace} (h : DataW.trod enc Tryz.prog W 0 (fun _ => true) true fuel 26 [v0, v1] = some x) :
    ∃ a b : Int, v0 = .int .i64 a ∧ v1 = .int .i64 b := by
  obtain ⟨xs, k, hk, hxy, _, hxl, hfd⟩ := DataW.trod_struct Tryz.underlying26 h
  match xs, hxl with
  | [y0, y1], _ =>
    have g0 := hfd 0 _ rfl
    have g1 := hfd 1 _ rfl
    simp only [show Tryz.prog.cellsOf 3 = 1 from by kernel_rfl, List.drop_zero, List.drop_succ_cons, List.take_succ_cons, List.take_zero, List.getElem?_cons_zero, List.getElem?_cons_succ] at g0 g1
    obtain ⟨a, ea, _, _⟩ := DataW.trod_int Tryz.underlying3 g0
    obtain ⟨b, eb, _, _⟩ := DataW.trod_int Tryz.underlying3 g1
    exact ⟨a, b, (List.cons.inj ea).1, (List.cons.inj eb).1⟩
theorem trod_cell3 {H : Type} {enc : TypeId × Value → H} {W : World} {fuel : Nat} {v0 v1 v2 : Value} {x : DataW H × List MemPlace} (h : DataW.trod enc Tryz.prog W 0 (fun _ => true) true fuel 53 [v0, v1, v2] = some x) :
    ∃ a b c : Int, v0 = .int .i64 a ∧ v1 = .int .i64 b ∧ v2 = .int .i64 c := by
  obtain ⟨xs, k, hk, hxy, _, hxl, hfd⟩ := DataW.trod_struct Tryz.underlying53 h
  match xs, hxl with
  | [y0, y1], _ =>
    have g0 := hfd 0 _ rfl
    have g1 := hfd 1 _ rfl
    simp only [show Tryz.prog.cellsOf 3 = 1 from by kernel_rfl, show Tryz.prog.cellsOf 26 = 2 from by kernel_rfl, List.drop_zero, List.drop_succ_cons, List.take_succ_cons, List.take_zero, List.getElem?_cons_zero, List.getElem?_cons_succ] at g0 g1
    obtain ⟨a, ea, _, _⟩ := DataW.trod_int Tryz.underlying3 g0
    obtain ⟨b, c, eb, ec⟩ := trod_two g1
    exact ⟨a, b, c, (List.cons.inj ea).1, eb, ec⟩
theorem trod_ent {H : Type} {enc : TypeId × Value → H} {W : World} {fuel : Nat} {v0 v1 v2 v3 : Value} {x : DataW H × List MemPlace} (h : DataW.trod enc Tryz.prog W 0 (fun _ => true) true fuel 58 [v0, v1, v2, v3] = some x) :
    ∃ e : E, WfE e ∧ v0 = .int .i64 e.key ∧ v1 = .int .i64 e.num ∧ v2 = .int .i64 e.node ∧ v3 = .float .f64 e.val := by
  obtain ⟨xs, k, hk, hxy, _, hxl, hfd⟩ := DataW.trod_struct Tryz.underlying58 h
  match xs, hxl with
  | [y0, y1, y2], _ =>
    have g0 := hfd 0 _ rfl
    have g1 := hfd 1 _ rfl
    have g2 := hfd 2 _ rfl
    simp only [show Tryz.prog.cellsOf 3 = 1 from by kernel_rfl, show Tryz.prog.cellsOf 55 = 2 from by kernel_rfl, show Tryz.prog.cellsOf 56 = 1 from by kernel_rfl, List.drop_zero, List.drop_succ_cons, List.take_succ_cons, List.take_zero, List.getElem?_cons_zero, List.getElem?_cons_succ] at g0 g1 g2
    obtain ⟨x0, e0, _, w0⟩ := DataW.trod_int Tryz.underlying3 g0
    obtain ⟨x3, e3, w3⟩ := trod_flt Tryz.underlying56 g2
    obtain ⟨zs, k2, hk2, _, _, hzl, hfz⟩ := DataW.trod_struct Tryz.underlying55 g1
    match zs, hzl with
    | [z0, z1], _ =>
      have q0 := hfz 0 _ rfl
      have q1 := hfz 1 _ rfl
      simp only [show Tryz.prog.cellsOf 3 = 1 from by kernel_rfl, List.drop_zero, List.drop_succ_cons, List.take_succ_cons, List.take_zero, List.getElem?_cons_zero, List.getElem?_cons_succ] at q0 q1
      obtain ⟨x1, e1, _, w1⟩ := DataW.trod_int Tryz.underlying3 q0
      obtain ⟨x2, e2, _, w2⟩ := DataW.trod_int Tryz.underlying3 q1
      exact ⟨⟨x0, x1, x2, x3⟩, ⟨i64_wf w0, i64_wf w1, i64_wf w2, f64_wf w3⟩, (List.cons.inj e0).1, (List.cons.inj e1).1, (List.cons.inj e2).1, (List.cons.inj e3).1⟩
theorem trod_rec {H : Type} {enc : TypeId × Value → H} {W : World} {fuel : Nat} {cs : List Value} (hlen : cs.length = 11) {x : DataW H × List MemPlace} (h : DataW.trod enc Tryz.prog W 0 (fun _ => true) true fuel 60 cs = some x) :
    ∃ r : R, WfE r.e ∧ cs = cellsR r := by
  obtain ⟨xs, k, hk, hxy, _, hxl, hfd⟩ := DataW.trod_struct Tryz.underlying60 h
  match xs, hxl, cs, hlen with
  | [y0, y1, y2, y3, y4], _, [v0, v1, v2, v3, v4, v5, v6, v7, v8, v9, v10], _ =>
    have g0 := hfd 0 _ rfl
    have g1 := hfd 1 _ rfl
    have g2 := hfd 2 _ rfl
    have g3 := hfd 3 _ rfl
    have g4 := hfd 4 _ rfl
    simp only [show Tryz.prog.cellsOf 3 = 1 from by kernel_rfl, show Tryz.prog.cellsOf 26 = 2 from by kernel_rfl, show Tryz.prog.cellsOf 53 = 3 from by kernel_rfl, show Tryz.prog.cellsOf 58 = 4 from by kernel_rfl, List.drop_zero, List.drop_succ_cons, List.take_succ_cons, List.take_zero, List.getElem?_cons_zero, List.getElem?_cons_succ] at g0 g1 g2 g3 g4
    obtain ⟨x0, e0, _, _⟩ := DataW.trod_int Tryz.underlying3 g0
    obtain ⟨x1, x2, rfl, rfl⟩ := trod_two g1
    obtain ⟨x3, x4, x5, rfl, rfl, rfl⟩ := trod_cell3 g2
    obtain ⟨e, we, rfl, rfl, rfl, rfl⟩ := trod_ent g3
    obtain ⟨x10, e10, _, _⟩ := DataW.trod_int Tryz.underlying3 g4
    obtain rfl : v0 = .int .i64 x0 := (List.cons.inj e0).1
    obtain rfl : v10 = .int .i64 x10 := (List.cons.inj e10).1
    exact ⟨⟨x0, x1, x2, x3, x4, x5, e, x10⟩, we, rfl⟩
/-- a record -/
theorem open_rec {H : Type} {enc : TypeId × Value → H} {W : World} {b0 : Nat} {v : Value} {d : DataW H} {p : List MemPlace}
    (hval : Value.okWide Tryz.prog W .any b0 60 v) (h : DataW.Trod enc Tryz.prog W 0 (fun _ => true) true 60 v d p) :
    ∃ r : R, v = rvv r ∧ WfE r.e := by
  obtain ⟨cs, rfl, hsz⟩ := okWide_struct Tryz.underlying60 hval
  obtain ⟨fuel, hf⟩ := h
  have ce : Tryz.prog.cellsOf 60 = 11 := by kernel_rfl
  rw [ce] at hsz
  obtain ⟨r, hw, hr⟩ := trod_rec (cs := cs.toList) (by simpa using hsz) hf
  refine ⟨r, ?_, hw⟩
  have : cs = (cellsR r).toArray := by rw [← hr]
  rw [this]
  rfl
/-- a slice of records -/
theorem open_recs {H : Type} {enc : TypeId × Value → H} {W : World} {b0 : Nat} {t : TypeId} {v : Value} {d : DataW H} {p : List MemPlace} (ht : Tryz.prog.underlying t = some (.slice 60))
    (hval : Value.okWide Tryz.prog W .any b0 t v) (h : DataW.Trod enc Tryz.prog W 0 (fun _ => true) true t v d p) (hlt : ∀ x ∈ p, x.block < W.heap.size) :
    ∃ A n c, ∃ rs : List R, v = .slice A n c ∧ n = rs.length ∧ n ≤ c ∧ Rg.Rs KR W W.heap.size A rs ∧ (∀ x ∈ rs, WfE x.e) ∧ Places d c := by
  obtain ⟨a0, len, cap, rfl⟩ := okWide_slice ht hval
  obtain ⟨fuel, hf⟩ := h
  have ce : Tryz.prog.cellsOf 60 = 11 := by kernel_rfl
  rcases Deep.open_slice ht hf with ⟨hcs, hx⟩ | ⟨a, len', cap', m, fl, D, Pl, hcs, _, hl, hm, hmm, hx, hrow⟩
  · simp [Value.cells] at hcs
    obtain ⟨rfl, rfl, rfl⟩ := hcs
    simp only [Prod.mk.injEq] at hx
    obtain ⟨rfl, rfl⟩ := hx
    exact ⟨none, 0, 0, [], rfl, rfl, Nat.le_refl _, Rg.Rs.nil, by simp, Or.inl ⟨rfl, rfl⟩⟩
  · simp [Value.cells] at hcs
    obtain ⟨rfl, rfl, rfl⟩ := hcs
    simp only [Prod.mk.injEq] at hx
    obtain ⟨rfl, rfl⟩ := hx
    simp only [if_true] at hmm
    subst hmm
    have each : ∀ i, i < m → ∃ r : R, WfE r.e ∧ ∀ j u, j < 11 → (cellsR r)[j]? = some u → W.cell? (a.add (i * 11 + j)) = some u := by
      intro i hi
      obtain ⟨cs, h1, h2⟩ := hrow i hi
      rw [ce] at h1
      obtain ⟨_, hlen, hcell⟩ := World.cells?_some h1
      obtain ⟨r, hw, rfl⟩ := trod_rec hlen h2
      refine ⟨r, hw, fun j u hj hu => ?_⟩
      have := hcell j hj
      rw [Deep.add_add] at this
      rw [this]
      exact hu
    let f : Nat → R := fun r => if h : r < m then (each r h).choose else zeroR
    have hat : ∀ j, j < m → WfE (f j).e ∧ ∀ i u, i < 11 → (cellsR (f j))[i]? = some u → W.cell? (a.add (j * 11 + i)) = some u := by
      intro j hj
      have := (each j hj).choose_spec
      simp only [f, dif_pos hj]
      exact this
    refine ⟨some a, len, _, (List.range len).map f, rfl, by simp, hl, ?_, ?_, Or.inr ⟨_, _, rfl, by simp; omega⟩⟩
    · intro hpos
      simp only [List.length_map, List.length_range] at hpos
      obtain ⟨b, off, spot⟩ := a
      have hspot : spot = none := by simpa [Addr.add] using World.cell?_spot ((hat 0 (by omega)).2 0 _ (by omega) rfl)
      subst hspot
      refine ⟨b, off, rfl, hlt (.cell b off) (List.mem_append_left _ (MemPlace.mem_row.2 ⟨0, by rw [ce]; omega, by simp⟩)), fun j u hu => ?_⟩
      rw [List.getElem?_map] at hu
      rcases Nat.lt_or_ge j len with hj | hj
      · rw [List.getElem?_range hj] at hu
        simp only [Option.map_some, Option.some.injEq] at hu
        subst hu
        intro i v hv
        have hi : i < 11 := Rg.lt_cells KR hv
        have := (hat j (by omega)).2 i v hi hv
        rw [add_plain] at this
        show W.cell? ⟨b, off + j * 11 + i, none⟩ = some v
        rw [Nat.add_assoc]
        exact this
      · rw [List.getElem?_eq_none (by simpa using hj)] at hu
        cases hu
    · intro x hx
      obtain ⟨j, hj, rfl⟩ := List.mem_map.1 hx
      exact (hat j (by have := List.mem_range.1 hj; omega)).1
end Go.Proofs.YtfblnomkafimhaaGreat
