/- Contracts and words on which the claims of this seat stand, part 48: SliceL FoSt FoY FoZ. -/
import Derived.Test.YtfblnomkafimhaaGreatProg
import Derived.Test.YtfblnomkafimhaaGreatG04
import Derived.Test.YtfblnomkafimhaaGreatG07
import Derived.Test.YtfblnomkafimhaaGreatG43
import Derived.Test.YtfblnomkafimhaaGreatG44
import Derived.Test.YtfblnomkafimhaaGreatG45
import Derived.Test.YtfblnomkafimhaaGreatG47
import Derived.Shelf.GgSortFunc.Tiny
set_option linter.unusedSimpArgs false
set_option linter.unusedVariables false
namespace Go.Proofs
open Go.Shelf
def YtfblnomkafimhaaGreat.sliceS_ren : Go.Shelf.Ren := ⟨fun | 6 => 61 | 10 => 99 | 11 => 100 | 12 => 101 | 13 => 102 | 14 => 103 | 24 => 138 | 25 => 139 | 26 => 140 | 27 => 141 | 28 => 142 | 29 => 143 | 30 => 144 | 31 => 145 | 32 => 146 | 33 => 147 | 34 => 164 | 35 => 165 | 36 => 166 | 37 => 167 | 38 => 168 | 39 => 174 | n => n, fun | 20 => 20 | 26 => 107 | 35 => 137 | 0 => 0 | 37 => 139 | 3 => 3 | 41 => 143 | 44 => 146 | 49 => 176 | 51 => 148 | 4 => 4 | 54 => 180 | 53 => 179 | 58 => 120 | 5 => 5 | 9 => 9 | 60 => 195 | 64 => 199 | 66 => 204 | 67 => 205 | 17 => 17 | 32 => 134 | 33 => 135 | 82 => 223 | 12 => 12 | 75 => 216 | 76 => 217 | 77 => 218 | 78 => 219 | 79 => 220 | 80 => 221 | n => n, fun | n => n⟩
theorem YtfblnomkafimhaaGreat.sliceS : Go.Proofs.LaysGg.n6 Tryz.prog YtfblnomkafimhaaGreat.sliceS_ren := {
  mixed := by kernel_rfl
  f6 := Tryz.func61.trans (congrArg some (by kernel_rfl))
  f10 := Tryz.func99.trans (congrArg some (by kernel_rfl))
  f11 := Tryz.func100.trans (congrArg some (by kernel_rfl))
  f12 := Tryz.func101.trans (congrArg some (by kernel_rfl))
  f13 := Tryz.func102.trans (congrArg some (by kernel_rfl))
  f14 := Tryz.func103.trans (congrArg some (by kernel_rfl))
  f24 := Tryz.func138.trans (congrArg some (by kernel_rfl))
  f25 := Tryz.func139.trans (congrArg some (by kernel_rfl))
  f26 := Tryz.func140.trans (congrArg some (by kernel_rfl))
  f27 := Tryz.func141.trans (congrArg some (by kernel_rfl))
  f28 := Tryz.func142.trans (congrArg some (by kernel_rfl))
  f29 := Tryz.func143.trans (congrArg some (by kernel_rfl))
  f30 := Tryz.func144.trans (congrArg some (by kernel_rfl))
  f31 := Tryz.func145.trans (congrArg some (by kernel_rfl))
  f32 := Tryz.func146.trans (congrArg some (by kernel_rfl))
  f33 := Tryz.func147.trans (congrArg some (by kernel_rfl))
  f34 := Tryz.func164.trans (congrArg some (by kernel_rfl))
  f35 := Tryz.func165.trans (congrArg some (by kernel_rfl))
  f36 := Tryz.func166.trans (congrArg some (by kernel_rfl))
  f37 := Tryz.func167.trans (congrArg some (by kernel_rfl))
  f38 := Tryz.func168.trans (congrArg some (by kernel_rfl))
  f39 := Tryz.func174.trans (congrArg some (by kernel_rfl))
  t0 := Tryz.underlying0
  a0 := Tryz.isAgg0
  z0 := Tryz.sizeOf0
  v0 := Tryz.zeroValue0
  i0 := by kernel_rfl
  t3 := Tryz.underlying3
  a3 := Tryz.isAgg3
  z3 := Tryz.sizeOf3
  v3 := Tryz.zeroValue3
  i3 := by kernel_rfl
  t4 := Tryz.underlying4
  a4 := Tryz.isAgg4
  z4 := Tryz.sizeOf4
  v4 := Tryz.zeroValue4
  i4 := by kernel_rfl
  t5 := Tryz.underlying5
  a5 := Tryz.isAgg5
  z5 := Tryz.sizeOf5
  v5 := Tryz.zeroValue5
  i5 := by kernel_rfl
  t9 := Tryz.underlying9
  a9 := Tryz.isAgg9
  z9 := Tryz.sizeOf9
  v9 := Tryz.zeroValue9
  i9 := by kernel_rfl
  t12 := Tryz.underlying12
  a12 := Tryz.isAgg12
  z12 := Tryz.sizeOf12
  v12 := Tryz.zeroValue12
  i12 := by kernel_rfl
  t17 := Tryz.underlying17
  a17 := Tryz.isAgg17
  z17 := Tryz.sizeOf17
  v17 := Tryz.zeroValue17
  i17 := by kernel_rfl
  t20 := Tryz.underlying20
  a20 := Tryz.isAgg20
  z20 := Tryz.sizeOf20
  v20 := Tryz.zeroValue20
  i20 := by kernel_rfl
  t26 := Tryz.underlying107
  a26 := Tryz.isAgg107
  z26 := Tryz.sizeOf107
  v26 := Tryz.zeroValue107
  i26 := by kernel_rfl
  t32 := Tryz.underlying134
  a32 := Tryz.isAgg134
  z32 := Tryz.sizeOf134
  v32 := Tryz.zeroValue134
  i32 := by kernel_rfl
  t33 := Tryz.underlying135
  a33 := Tryz.isAgg135
  z33 := Tryz.sizeOf135
  v33 := Tryz.zeroValue135
  i33 := by kernel_rfl
  t35 := Tryz.underlying137
  a35 := Tryz.isAgg137
  z35 := Tryz.sizeOf137
  v35 := Tryz.zeroValue137
  i35 := by kernel_rfl
  t37 := Tryz.underlying139
  a37 := Tryz.isAgg139
  z37 := Tryz.sizeOf139
  v37 := Tryz.zeroValue139
  i37 := by kernel_rfl
  t41 := Tryz.underlying143
  a41 := Tryz.isAgg143
  z41 := Tryz.sizeOf143
  v41 := Tryz.zeroValue143
  i41 := by kernel_rfl
  t44 := Tryz.underlying146
  a44 := Tryz.isAgg146
  z44 := Tryz.sizeOf146
  v44 := Tryz.zeroValue146
  i44 := by kernel_rfl
  t49 := Tryz.underlying176
  a49 := Tryz.isAgg176
  z49 := Tryz.sizeOf176
  v49 := Tryz.zeroValue176
  i49 := by kernel_rfl
  t51 := Tryz.underlying148
  a51 := Tryz.isAgg148
  z51 := Tryz.sizeOf148
  v51 := Tryz.zeroValue148
  i51 := by kernel_rfl
  t53 := Tryz.underlying179
  a53 := Tryz.isAgg179
  z53 := Tryz.sizeOf179
  v53 := Tryz.zeroValue179
  i53 := by kernel_rfl
  t54 := Tryz.underlying180
  a54 := Tryz.isAgg180
  z54 := Tryz.sizeOf180
  v54 := Tryz.zeroValue180
  i54 := by kernel_rfl
  t58 := Tryz.underlying120
  a58 := Tryz.isAgg120
  z58 := Tryz.sizeOf120
  v58 := Tryz.zeroValue120
  i58 := by kernel_rfl
  t60 := Tryz.underlying195
  a60 := Tryz.isAgg195
  z60 := Tryz.sizeOf195
  v60 := Tryz.zeroValue195
  i60 := by kernel_rfl
  t64 := Tryz.underlying199
  a64 := Tryz.isAgg199
  z64 := Tryz.sizeOf199
  v64 := Tryz.zeroValue199
  i64 := by kernel_rfl
  t66 := Tryz.underlying204
  a66 := Tryz.isAgg204
  z66 := Tryz.sizeOf204
  v66 := Tryz.zeroValue204
  i66 := by kernel_rfl
  t67 := Tryz.underlying205
  a67 := Tryz.isAgg205
  z67 := Tryz.sizeOf205
  v67 := Tryz.zeroValue205
  i67 := by kernel_rfl
  t75 := Tryz.underlying216
  a75 := Tryz.isAgg216
  z75 := Tryz.sizeOf216
  v75 := Tryz.zeroValue216
  i75 := by kernel_rfl
  t76 := Tryz.underlying217
  a76 := Tryz.isAgg217
  z76 := Tryz.sizeOf217
  v76 := Tryz.zeroValue217
  i76 := by kernel_rfl
  t77 := Tryz.underlying218
  a77 := Tryz.isAgg218
  z77 := Tryz.sizeOf218
  v77 := Tryz.zeroValue218
  i77 := by kernel_rfl
  t78 := Tryz.underlying219
  a78 := Tryz.isAgg219
  z78 := Tryz.sizeOf219
  v78 := Tryz.zeroValue219
  i78 := by kernel_rfl
  t79 := Tryz.underlying220
  a79 := Tryz.isAgg220
  z79 := Tryz.sizeOf220
  v79 := Tryz.zeroValue220
  i79 := by kernel_rfl
  t80 := Tryz.underlying221
  a80 := Tryz.isAgg221
  z80 := Tryz.sizeOf221
  v80 := Tryz.zeroValue221
  i80 := by kernel_rfl
  t82 := Tryz.underlying223
  a82 := Tryz.isAgg223
  z82 := Tryz.sizeOf223
  v82 := Tryz.zeroValue223
  i82 := by kernel_rfl }
end Go.Proofs

namespace Go.Proofs.YtfblnomkafimhaaGreat.Fow
set_option maxRecDepth 20000
open Go.RowKit
open Chg Vw Cl Bk Lg Fo Clw Bkw
open Chgw (hat hbe vw ret_bool ret_i64 Vx)
open Rg (bal)

noncomputable def tiVs : TypeInfo := (Tryz.prog.info? 45).get (by kernel_rfl)
noncomputable def tiV : TypeInfo := (Tryz.prog.info? 26).get (by kernel_rfl)
theorem slice_one (A : Option Addr) (c gz : Nat) (W : World) : Calls Tryz.prog 61 #[.iface 45 (.slice A 1 c), .func (.func 62) #[] #[.pointer (some ⟨gz, 0, none⟩)]] W fun e W' => e = .returned (.tuple #[]) ∧ ∃ os, W' = Sort.grow W os :=
  Any.sort_Slice_tiny YtfblnomkafimhaaGreat.sliceS 45 26 tiVs tiV (by kernel_rfl) (by kernel_rfl) (by kernel_rfl) (by kernel_rfl) 25 (fun _ => by kernel_rfl) A 1 c (Nat.le_refl _) 130 (by kernel_rfl) _ _ _ W
theorem compact_one (A : Option Addr) (c : Nat) (W : World) : Calls Tryz.prog 64 #[.slice A 1 c] W fun e W' => e = .returned (.slice A 1 c) ∧ W = W' := by
  go_enter Tryz.func64, Tryz.ntmps64
  go_wp2
  go_ret
  exact ⟨rfl, rfl⟩
theorem below_grow (B : Nat) (w : World) (os : Array Obj) (hB : B ≤ w.heap.size) : Below B w (Sort.grow w os) := ⟨rfl, rfl, rfl, by rw [Sort.size_grow]; exact Nat.le_add_right _ _, fun k hk => Sort.heap_grow_old _ os (by omega)⟩
theorem seen_one (s : St) (b c i : Sl) (w : World) (h : Sto w s b c i) (hw : WfS s) (h1 : s.books = []) (h2 : s.cells = []) (h3 : s.ints = []) :
    Calls Tryz.prog 25 #[stv s b c i] w fun e w' => ∃ A c', e = .returned (.slice A 1 c') ∧ Below w.heap.size w w' := by
  have hall : seenAll s = [s.held] := by unfold seenAll; rw [h1, h2, h3]; rfl
  refine (seen_of s b c i w h hw (fun L => L = [s.held]) (fun L => L = [s.held]) ?_ ?_).mono ?_
  · intro gz A n c' W hgz ho hz
    rw [hall] at ho
    obtain rfl : n = 1 := ho.1
    refine (slice_one A c' gz W).mono ?_
    rintro e W' ⟨rfl, os, rfl⟩
    have hb := below_grow W.heap.size W os (Nat.le_refl _)
    refine ⟨rfl, [s.held], rfl, ho.below hb (Nat.le_refl _), (hb.block gz (Array.getElem?_eq_some_iff.1 hz).1).trans hz, ?_⟩
    have hle : w.heap.size ≤ W.heap.size := Nat.le_trans hgz (Nat.le_of_lt (Array.getElem?_eq_some_iff.1 hz).1)
    exact below_grow _ W os hle
  · intro A n c' L' W hq ho hle
    subst hq
    obtain rfl : n = 1 := ho.1
    refine (compact_one A c' W).mono ?_
    rintro e W' ⟨rfl, rfl⟩
    exact ⟨A, 1, c', [s.held], rfl, rfl, Sv.own ho (by show 1 * 16 ≤ _; omega), Below.refl _ _⟩
  · rintro e w' ⟨A, n, c', m, rfl, rfl, hs, hb⟩
    obtain rfl : n = 1 := hs.1
    exact ⟨A, c', rfl, hb⟩
end Go.Proofs.YtfblnomkafimhaaGreat.Fow

namespace Go.Proofs.YtfblnomkafimhaaGreat.Fow
set_option maxRecDepth 20000
open Go.RowKit
open Chg Vw Cl Bk Lg Fo Clw Bkw
open Lgw (rvv Rx KR Sr Elv elv_at)
open Chgw (hat hbe vw ret_bool ret_i64 Vx)
open Rg (bal)

theorem first_c (w : World) : Calls Tryz.prog 12 #[] w fun e w' => e = .returned (.agg #[.int .i64 7, .int .i64 0]) ∧ Below w.heap.size w w' := by
  go_enter Tryz.func12, Tryz.ntmps12
  go_wp2
  refine bodyPost_ret (Chgw.results_view (g := w.heap.size) (a := 7) (d := 0) rfl rfl (hat _ _ _ rfl)) rfl ?_
  exact ⟨rfl, bal (Below.refl _ _) (Nat.le_refl _) _⟩
set_option maxHeartbeats 2000000 in
theorem right_w (a d : Int) (A : Option Addr) (n c : Nat) (l : List R) (w : World) (h : Sr w A n c l) : Calls Tryz.prog 19 #[.agg #[.int .i64 a, .int .i64 d], .slice A n c] w fun e w' => e = .returned (.bool (l.all rightR && Chgw.rightB a d)) ∧ Below w.heap.size w w' := by
  have hsf := Lgw.store_flt
  have HN := Lib.hid h.1; have HR := Lib.hid h.2.2.2.2; have HU := Lib.hid h.2.2.2.1
  have hl : n * 88 ≤ 140737488355328 := h.2.2.1
  have HV := Lib.hid (fun W => Chgw.right_r a d W)
  have HF : Hid (∀ (k : Nat) r, l[k]? = some r → rightR r = false → l.all rightR = false) := Lib.hid (fun k r hr hf => by
    rw [List.all_eq_false]
    exact ⟨r, List.mem_of_getElem? hr, by rw [hf]; simp⟩)
  have HT : Hid ((∀ (j : Nat) r, j < n → l[j]? = some r → rightR r = true) → l.all rightR = true) := Lib.hid (fun hh => by
    rw [List.all_eq_true]
    intro r hr
    obtain ⟨j, hj⟩ := List.getElem?_of_mem hr
    exact hh j r (by rw [HN.out]; exact lt_of_get hj) hj)
  clear h
  generalize l.all rightR = al at HF HT ⊢
  generalize Chgw.rightB a d = rb at HV ⊢
  unfold vw at HV
  go_enter Tryz.func19, Tryz.ntmps19
  go_upto_region 1 with (fail)
  have HX := Lib.hid (show (w.alloc (.cells #[.int .i64 a, .int .i64 d] 26)).heap[w.heap.size]? = some (.cells #[.int .i64 a, .int .i64 d] 26) from hat _ _ _ rfl)
  have HB := Lib.hid (bal (Below.refl w.heap.size w) (Nat.le_refl _) (.cells #[.int .i64 a, .int .i64 d] 26))
  generalize w.alloc (.cells #[.int .i64 a, .int .i64 d] 26) = w1 at HX HB ⊢
  have HGX := Lib.hid (Array.getElem?_eq_some_iff.1 HX.out).1
  generalize hgx : w.heap.size = gx at HX HGX ⊢
  have HGE := Lib.hid hgx; clear hgx
  go_wp2
  go_loopw [9] (fun i wr => ∃ k : Nat, i = .int .i64 k ∧ k ≤ n ∧ (∀ (j : Nat) r, j < k → l[j]? = some r → rightR r = true) ∧ Below w1.heap.size w1 wr) (fun i _ => n - (intOf i).toNat)
  case atStart => exact ⟨0, rfl, by omega, fun j r hj => by omega, Below.refl _ _⟩
  case round =>
    rename World => wl
    obtain ⟨k, rfl, hk, hall, hb⟩ := hrel
    have HC := Lib.hid hb; have HA := Lib.hid hall
    clear hb hall
    by_cases h : k < n
    · obtain ⟨bb, o, rfl, hbB, hcell⟩ := HR.out (by rw [← HN.out]; omega)
      have hkl : k < l.length := by rw [← HN.out]; exact h
      have hz : l[k]? = some l[k] := List.getElem?_eq_getElem hkl
      have hc0 := elv_at (fun j u hu => ((HB.out.trans (HC.out.mono HB.out.size)).cell (p := ⟨bb, o + k * KR.k + j, none⟩) hbB).trans (hcell k l[k] hz j u hu))
      have hu := HU.out l[k] (List.getElem_mem hkl)
      have HFF := Lib.hid (HF.out k _ hz)
      have HSTEP : Hid (rightR l[k] = true → ∀ (j : Nat) r, j < k + 1 → l[j]? = some r → rightR r = true) := Lib.hid (fun he j r hj hr => by
        rcases Nat.lt_or_ge j k with h' | h'
        · exact HA.out j r h' hr
        · obtain rfl : j = k := by omega
          rw [hz] at hr
          cases hr
          exact he)
      generalize l[k] = r at hc0 hu HFF HSTEP
      have HRR := Lib.hid (fun W => Lgw.right_r r hu W)
      generalize rightR r = t at HFF HSTEP HRR
      unfold rvv at HRR
      clear hz hcell hkl hu hbB
      rw [show KR.k = 11 from rfl] at hc0
      obtain ⟨x0, x1, x2, x3, x4, x5, x6, x7, x8, x9, x10⟩ := hc0
      go_upto_region 4 with (fail)
      have HXR := Lib.hid (show Rx (wl.alloc (.cells #[.int .i64 r.kind, .int .i64 r.va, .int .i64 r.vd, .int .i64 r.cn, .int .i64 r.ca, .int .i64 r.cd, .int .i64 r.e.key, .int .i64 r.e.num, .int .i64 r.e.node, .float .f64 r.e.val, .int .i64 r.n] 60)) wl.heap.size r from hat _ _ _ rfl)
      have HC := Lib.hid (bal HC.out (Nat.le_refl _) (.cells #[.int .i64 r.kind, .int .i64 r.va, .int .i64 r.vd, .int .i64 r.cn, .int .i64 r.ca, .int .i64 r.cd, .int .i64 r.e.key, .int .i64 r.e.num, .int .i64 r.e.node, .float .f64 r.e.val, .int .i64 r.n] 60)); clear x0 x1 x2 x3 x4 x5 x6 x7 x8 x9 x10
      generalize wl.alloc (.cells #[.int .i64 r.kind, .int .i64 r.va, .int .i64 r.vd, .int .i64 r.cn, .int .i64 r.ca, .int .i64 r.cd, .int .i64 r.e.key, .int .i64 r.e.num, .int .i64 r.e.node, .float .f64 r.e.val, .int .i64 r.n] 60) = wm at HXR HC ⊢
      generalize wl.heap.size = gr at HXR ⊢
      obtain ⟨y0, y1, y2, y3, y4, y5, y6, y7, y8, y9, y10⟩ := HXR.out.cs
      go_wp2_with fail
      refine (HRR.out wm).mono ?_
      rintro e w5 ⟨rfl, hb5⟩
      have HC := Lib.hid (HC.out.trans (hb5.mono HC.out.size)); clear hb5 y0 y1 y2 y3 y4 y5 y6 y7 y8 y9 y10 HXR
      cases t with
      | false =>
        have HE := Lib.hid (HFF.out rfl)
        go_wp2
        go_ret
        exact ⟨by rw [HE.out]; rfl, HB.out.trans (HC.out.mono HB.out.size)⟩
      | true =>
        have HE := Lib.hid (HSTEP.out rfl)
        go_wp2
        exact ⟨⟨k + 1, by go_num, by omega, HE.out, HC.out⟩, by simp [intOf]; omega⟩
    · obtain rfl : k = n := by omega
      have HE := Lib.hid (HT.out HA.out)
      have HXX := Lib.hid ((HC.out.block gx HGX.out).trans HX.out)
      obtain ⟨z0, z1⟩ := cells2 HXX.out
      go_wp2_with fail
      refine (HV.out wl).mono ?_
      rintro e w5 ⟨rfl, hb5⟩
      have HB5 := Lib.hid ((HB.out.trans (HC.out.mono HB.out.size)).trans (hb5.mono (HB.out.trans (HC.out.mono HB.out.size)).size)); clear hb5
      go_wp2
      go_ret
      exact ⟨by rw [HE.out]; rfl, HB5.out⟩
def aliveL : List R := [⟨4, 0, 0, 0, 0, 0, ⟨0, 0, 0, 0⟩, 5⟩, ⟨4, 0, 0, 0, 0, 0, ⟨0, 0, 0, 0⟩, 3⟩, ⟨3, 15, 0, 0, 0, 0, ⟨0, 0, 0, 0⟩, 0⟩, ⟨3, 7, 1, 0, 0, 0, ⟨0, 0, 0, 0⟩, 0⟩]
theorem alive_ok : ∀ r ∈ aliveL, OkR r := by
  intro r hr
  have hw : WfE ⟨0, 0, 0, 0⟩ := ⟨⟨by decide, by decide⟩, ⟨by decide, by decide⟩, ⟨by decide, by decide⟩, by show (0 : Nat) < _; decide⟩
  simp only [aliveL, List.mem_cons, List.not_mem_nil, or_false] at hr
  rcases hr with rfl | rfl | rfl | rfl <;> exact ⟨by decide +kernel, hw⟩
theorem alive_of : ofS (7, 0) aliveL = ⟨[], [], [], (15, 0), 0, 5⟩ := by kernel_rfl
set_option maxHeartbeats 4000000 in
theorem fold_alive_c (w : World) : Calls Tryz.prog 14 #[] w fun e w' => e = .returned (.bool true) ∧ Below w.heap.size w w' := by
  have hsf := Lgw.store_flt
  have heq := Chgw.eq_view
  go_enter Tryz.func14, Tryz.ntmps14
  go_wp2_with fail
  refine (first_c w).mono ?_
  rintro e w2 ⟨rfl, hb2⟩
  have HB := Lib.hid hb2; clear hb2
  go_wp2_with fail
  have HSR := Lib.hid (show Sr (w2.alloc (.cells (Rg.flat KR aliveL).toArray 60)) (some ⟨w2.heap.size, 0, none⟩) 4 4 aliveL from ⟨rfl, Nat.le_refl _, by omega, fun r hr => (alive_ok r hr).2.2.2.2, by have h := Rg.rs_new KR w2 aliveL; rw [World.size_alloc]; exact h⟩)
  have HB := Lib.hid (bal HB.out (Nat.le_refl _) (.cells (Rg.flat KR aliveL).toArray 60))
  have HOF := Lib.hid (fof_c (7, 0) (by unfold V64; decide) _ 4 4 aliveL _ HSR.out alive_ok)
  rw [alive_of] at HOF
  refine HOF.out.mono ?_
  rintro e w3 ⟨b, c, i, xs, ys, rfl, ho, hb3⟩
  have HST : Hid (Sto w3 ⟨[], [], [], (15, 0), 0, 5⟩ b c i) := Lib.hid (ho.stoW (by rw [← alive_of]; exact wf_of (by unfold V64; decide) alive_ok))
  have HB := Lib.hid (HB.out.trans (hb3.mono HB.out.size)); clear hb3 ho HOF HSR
  have HSE := Lib.hid (fun W hW => seen_one ⟨[], [], [], (15, 0), 0, 5⟩ b c i W (HST.out.all hW) (by rw [← alive_of]; exact wf_of (by unfold V64; decide) alive_ok) rfl rfl rfl)
  unfold stv at HSE
  unfold stv
  simp only at HSE ⊢
  go_upto_region 2 with (fail)
  have HX := Lib.hid (show (w3.alloc (.cells #[.slice b.a b.n b.c, .slice c.a c.n c.c, .slice i.a i.n i.c, .int .i64 15, .int .i64 0, .int .i64 0, .int .i64 5] 28)).heap[w3.heap.size]? = some (.cells #[.slice b.a b.n b.c, .slice c.a c.n c.c, .slice i.a i.n i.c, .int .i64 15, .int .i64 0, .int .i64 0, .int .i64 5] 28) from hat _ _ _ rfl)
  have HC := Lib.hid (bal (Below.refl w3.heap.size w3) (Nat.le_refl _) (.cells #[.slice b.a b.n b.c, .slice c.a c.n c.c, .slice i.a i.n i.c, .int .i64 15, .int .i64 0, .int .i64 0, .int .i64 5] 28))
  generalize w3.alloc (.cells #[.slice b.a b.n b.c, .slice c.a c.n c.c, .slice i.a i.n i.c, .int .i64 15, .int .i64 0, .int .i64 0, .int .i64 5] 28) = w4 at HX HC ⊢
  generalize w3.heap.size = gs at HX ⊢
  have x0 : w4.cell? ⟨gs, 0, none⟩ = some (.slice b.a b.n b.c) := by rw [cell_of_row _ _ _ _ _ _ HX.out]; rfl
  have x1 : w4.cell? ⟨gs, 1, none⟩ = some (.slice c.a c.n c.c) := by rw [cell_of_row _ _ _ _ _ _ HX.out]; rfl
  have x2 : w4.cell? ⟨gs, 2, none⟩ = some (.slice i.a i.n i.c) := by rw [cell_of_row _ _ _ _ _ _ HX.out]; rfl
  have x3 : w4.cell? ⟨gs, 3, none⟩ = some (.int .i64 15) := by rw [cell_of_row _ _ _ _ _ _ HX.out]; rfl
  have x4 : w4.cell? ⟨gs, 4, none⟩ = some (.int .i64 0) := by rw [cell_of_row _ _ _ _ _ _ HX.out]; rfl
  have x5 : w4.cell? ⟨gs, 5, none⟩ = some (.int .i64 0) := by rw [cell_of_row _ _ _ _ _ _ HX.out]; rfl
  have x6 : w4.cell? ⟨gs, 6, none⟩ = some (.int .i64 5) := by rw [cell_of_row _ _ _ _ _ _ HX.out]; rfl
  go_wp2_with fail
  refine (HSE.out w4 HC.out).mono ?_
  rintro e w5 ⟨A, c5, rfl, hb5⟩
  have HB5 := Lib.hid ((HB.out.trans (HC.out.mono HB.out.size)).trans (hb5.mono (HB.out.trans (HC.out.mono HB.out.size)).size)); clear hb5
  go_wp2
  go_ret
  exact ⟨rfl, HB5.out⟩
end Go.Proofs.YtfblnomkafimhaaGreat.Fow

namespace Go.Proofs.YtfblnomkafimhaaGreat.Fow
set_option maxRecDepth 20000
open Go.RowKit
open Chg Vw Cl Bk Lg Fo Clw Bkw
open Lgw (rvv Rx KR Sr Elv elv_at)
open Chgw (hat hbe vw ret_bool ret_i64 Vx)
open Rg (bal)

theorem right_v64 {a d : Int} (h : Chgw.rightB a d = true) : ∃ v : Nat × Nat, a = (v.1 : Int) ∧ d = (v.2 : Int) ∧ V64 v := by
  unfold Chgw.rightB at h
  simp at h
  refine ⟨(a.toNat, d.toNat), ?_, ?_, ?_⟩
  · show a = ((a.toNat : Nat) : Int); omega
  · show d = ((d.toNat : Nat) : Int); omega
  · unfold V64; simp only; omega
theorem ok_all {l : List R} (h : l.all rightR = true) (hw : ∀ r ∈ l, WfE r.e) : ∀ r ∈ l, OkR r := fun r hr => ⟨by rw [List.all_eq_true] at h; exact h r hr, hw r hr⟩
theorem sameS_refl (s : St) : sameS s s = true := by
  have h1 : zipA eqB s.books s.books = true := zip_true rfl (fun i x y hx hy => by
    rw [hx] at hy; cases hy
    unfold eqB
    rw [Bool.and_eq_true]
    exact ⟨by simp, same_refl x.2⟩)
  have h2 : zipA eqC s.cells s.cells = true := zip_true rfl (fun i x y hx hy => by
    rw [hx] at hy; cases hy
    unfold eqC
    rw [Bool.and_eq_true]
    exact ⟨by simp, (sameC_eq _ _).2 rfl⟩)
  have h3 : zipA eqI s.ints s.ints = true := zip_true rfl (fun i x y hx hy => by
    rw [hx] at hy; cases hy
    unfold eqI
    simp)
  unfold sameS
  rw [sameB_zip, sameCs_zip, sameI_zip, h1, h2, h3]
  simp
end Go.Proofs.YtfblnomkafimhaaGreat.Fow
