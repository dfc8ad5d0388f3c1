/- LogBurst: a log in which some bits within thirty-two side by side of one record are turned, behind the byte that says how long it is, tells those ahead of it alone, unless it is as it was. Conditions: none. -/
import Derived.Test.YtjcbdnbbdhjoiaaRows
import Derived.Test.YtjcbdnbbdhjoiaaG16
import Derived.Test.YtjcbdnbbdhjoiaaG17
import Derived.WalkKit
import Derived.ProofKit
import Derived.OpenShut
import Derived.Laws.Cover2
import Derived.SizedLaws
import Derived.JoinedCond
import Derived.Carry
set_option linter.unusedSimpArgs false
set_option linter.unusedVariables false
namespace Go.Proofs.Ytjcbdnbbdhjoiaa.Lgw
set_option maxRecDepth 20000
open Go.RowKit
open Bk Lg Wire
open Dk
open Crc (seal_ openF turn turns turns_len turns_found)
open Tgw (hat hbe)
open Rg (bal)

theorem modify_append (f : UInt8 → UInt8) : ∀ (pre q : List UInt8) (i : Nat), (pre ++ q).modify (pre.length + i) f = pre ++ q.modify i f
  | [], q, i => by simp
  | x :: pre, q, i => by
    rw [List.cons_append, List.length_cons, show pre.length + 1 + i = (pre.length + i) + 1 by omega, List.modify_succ_cons, modify_append f pre q i]
    rfl
theorem turn_append (pre q : List UInt8) (j : Nat) : turn (pre ++ q) (8 * pre.length + j) = pre ++ turn q j := by
  unfold turn
  rw [show (8 * pre.length + j) / 8 = pre.length + j / 8 by omega, show (8 * pre.length + j) % 8 = j % 8 by omega]
  exact modify_append _ pre q (j / 8)
theorem turns_append (pre q : List UInt8) (j m : Nat) : ∀ k, turns (pre ++ q) (8 * pre.length + j) m k = pre ++ turns q j m k
  | 0 => rfl
  | k + 1 => by
    unfold turns
    rw [turns_append pre q j m k, show 8 * pre.length + j + k = 8 * pre.length + (j + k) by omega, turn_append]
    split <;> rfl
theorem burst_append (pre q : List UInt8) (j m : Nat) : burstF (pre ++ q) ((8 * pre.length + j : Nat) : Int) m = pre ++ burstF q (j : Int) m := by
  unfold burstF
  rw [List.length_append]
  by_cases h : (j : Int) < 0 ∨ 8 * (q.length : Int) - (Go.bitLen m : Int) < j
  · rw [if_pos h, if_pos (by omega)]
  · rw [if_neg h, if_neg (by omega)]
    exact turns_append pre q j m _
theorem burst_same_len (bs : List UInt8) (a : Int) (m : Nat) : (burstF bs a m).length = bs.length := by
  unfold burstF
  split
  · rfl
  · exact turns_len _ _ _ _
theorem burst_none (b : List UInt8) (a : Int) (m : Nat) (hm : m < 2 ^ 32) (h : burstF (seal_ b) a m ≠ seal_ b) : openF (burstF (seal_ b) a m) = none := by
  by_cases hc : a < 0 ∨ 8 * ((seal_ b).length : Int) - (Go.bitLen m : Int) < a
  · exact absurd (if_pos hc) h
  · have e : burstF (seal_ b) a m = turns (seal_ b) a.toNat m (Go.bitLen m) := if_neg hc
    rw [e] at h ⊢
    exact turns_found b _ m _ (bitLen_le m 32 hm) h
/-- where the records that are ahead end -/
def endN (gs : List R) (k : Nat) : Nat := (flatR (gs.take k)).length
theorem endN_zero (gs : List R) : endN gs 0 = 0 := rfl
theorem flat_split (gs : List R) (k : Nat) : flatR gs = flatR (gs.take k) ++ flatR (gs.drop k) := by rw [← flatR_append, List.take_append_drop]
theorem flat_take (gs : List R) (k : Nat) : (flatR gs).take (endN gs k) = flatR (gs.take k) := by
  unfold endN
  conv => lhs; rw [flat_split gs k]
  rw [List.take_left]
theorem flat_drop (gs : List R) (k : Nat) : (flatR gs).drop (endN gs k) = flatR (gs.drop k) := by
  unfold endN
  conv => lhs; rw [flat_split gs k]
  rw [List.drop_left]
theorem endN_le (gs : List R) (k : Nat) : endN gs k ≤ (flatR gs).length := by
  rw [flat_split gs k, List.length_append]
  unfold endN
  omega
theorem endN_all (gs : List R) : endN gs gs.length = (flatR gs).length := by unfold endN; rw [List.take_length]
theorem endN_step (gs : List R) (k : Nat) (r : R) (h : gs[k]? = some r) : endN gs (k + 1) = endN gs k + (bytesR r).length := by
  unfold endN
  rw [take_snoc h, flatR_snoc, List.length_append]
/-- the places where they end, one by one -/
def ends (gs : List R) : List Int := (List.range gs.length).map fun i => ((endN gs (i + 1) : Nat) : Int)
theorem ends_nil : ends [] = [] := rfl
theorem ends_get (gs : List R) (i : Nat) (h : i < gs.length) : (ends gs)[i]? = some ((endN gs (i + 1) : Nat) : Int) := by
  unfold ends
  rw [List.getElem?_map, List.getElem?_range h]
  rfl
theorem ends_len (gs : List R) : (ends gs).length = gs.length := by simp [ends]
theorem ends_snoc (gs : List R) (r : R) : ends (gs ++ [r]) = ends gs ++ [((flatR (gs ++ [r])).length : Int)] := by
  refine List.ext_getElem? fun i => ?_
  rcases Nat.lt_or_ge i gs.length with h | h
  · rw [ends_get _ i (by rw [List.length_append]; omega), List.getElem?_append_left (by rw [ends_len]; exact h), ends_get gs i h]
    unfold endN
    rw [List.take_append_of_le_length (by omega)]
  · rcases Nat.eq_or_lt_of_le h with h2 | h2
    · subst h2
      rw [ends_get _ _ (by rw [List.length_append]; simp), List.getElem?_append_right (by rw [ends_len]; exact Nat.le_refl _), ends_len, Nat.sub_self]
      have : endN (gs ++ [r]) (gs.length + 1) = (flatR (gs ++ [r])).length := by
        have := endN_all (gs ++ [r])
        rwa [List.length_append] at this
      rw [this]
      rfl
    · rw [List.getElem?_eq_none (by rw [ends_len, List.length_append]; simp; omega), List.getElem?_eq_none (by rw [List.length_append, ends_len]; simp; omega)]
/-- bits turned in one record, behind the two bytes that say how long it is -/
theorem burst_rec (gs : List R) (hok : ∀ r ∈ gs, Ok r) (k : Nat) (hk : k < gs.length) (j m : Nat) (hm : m < 2 ^ 32) :
    (burstF (flatR (gs.take (k + 1))) ((8 * (endN gs k + 2) + j : Nat) : Int) m = flatR (gs.take (k + 1)) → Scans (burstF (flatR (gs.take (k + 1))) ((8 * (endN gs k + 2) + j : Nat) : Int) m ++ flatR (gs.drop (k + 1))) (gs.map cnR) (flatR gs).length) ∧
    (burstF (flatR (gs.take (k + 1))) ((8 * (endN gs k + 2) + j : Nat) : Int) m ≠ flatR (gs.take (k + 1)) → Scans (burstF (flatR (gs.take (k + 1))) ((8 * (endN gs k + 2) + j : Nat) : Int) m ++ flatR (gs.drop (k + 1))) ((gs.take k).map cnR) (endN gs k)) := by
  have hz : gs[k]? = some gs[k] := List.getElem?_eq_getElem hk
  have hr := hok gs[k] (List.getElem_mem hk)
  generalize gs[k] = r at hz hr
  have hl2 := bytes_len r hr
  have hsm := seal_small r hr
  have e1 : flatR (gs.take (k + 1)) = (flatR (gs.take k) ++ form (seal_ (bodyR r)).length) ++ seal_ (bodyR r) := by
    rw [take_snoc hz, flatR_snoc]
    show _ ++ ([] ++ form (seal_ (bodyR r)).length ++ seal_ (bodyR r)) = _
    rw [List.nil_append, List.append_assoc]
  have hf2 : (form (seal_ (bodyR r)).length).length = 2 := by
    have h3 : (bytesR r).length = ([] ++ form (seal_ (bodyR r)).length ++ seal_ (bodyR r)).length := rfl
    rw [List.nil_append, List.length_append] at h3
    omega
  have hp : (flatR (gs.take k) ++ form (seal_ (bodyR r)).length).length = endN gs k + 2 := by rw [List.length_append, hf2]; rfl
  have e2 : burstF (flatR (gs.take (k + 1))) ((8 * (endN gs k + 2) + j : Nat) : Int) m = (flatR (gs.take k) ++ form (seal_ (bodyR r)).length) ++ burstF (seal_ (bodyR r)) (j : Int) m := by
    rw [e1, ← hp, burst_append]
  constructor
  · intro h
    rw [h, ← flatR_append, List.take_append_drop]
    have := scans_of gs hok [] (fun r n => first_nil r n)
    rwa [List.append_nil] at this
  · intro h
    rw [e2, e1] at h
    have hne : burstF (seal_ (bodyR r)) (j : Int) m ≠ seal_ (bodyR r) := fun e => h (by rw [e])
    have hno := burst_none (bodyR r) (j : Int) m hm hne
    have hsl := burst_same_len (seal_ (bodyR r)) (j : Int) m
    rw [e2]
    generalize burstF (seal_ (bodyR r)) (j : Int) m = y at hno hsl
    have e3 : flatR (gs.take k) ++ form (seal_ (bodyR r)).length ++ y ++ flatR (gs.drop (k + 1)) = flatR (gs.take k) ++ (textF [] y ++ flatR (gs.drop (k + 1))) := by
      unfold textF
      rw [List.nil_append, hsl, List.append_assoc, List.append_assoc, List.append_assoc]
    rw [e3]
    have hcut : cutF (textF [] y ++ flatR (gs.drop (k + 1))) = some (y, flatR (gs.drop (k + 1))) := cutF_text (by omega)
    exact scans_of (gs.take k) (fun x hx => hok x (List.mem_of_mem_take hx)) _ (fun r' n' => no_open hcut hno r' n')
/-- append onto a row of bytes of one's own: the elder slice, too, holds what it held -/
theorem wp_app8k {w : World} {ops : Array Oper} {rest : List Oper} {o : Oper} {a : Act} {Q : Exit → Act → World → Prop} (hgd : o.guard = none) (s x : Operand)
    (ho : o.op = .call { callee := .builtin .append, args := #[s, x], argTypes := #[41, 41] })
    (base : Nat) (A0 : Option Addr) (n0 c0 : Nat) (bs0 : List UInt8) (hs : a.eval s = .slice A0 n0 c0) (hown : Own w base A0 n0 c0 bs0)
    (B : Nat) (A : Option Addr) (m c : Nat) (news : List UInt8) (hx : a.eval x = .slice A m c) (hm : m = news.length) (hr : Rd w B A (news.map B8))
    (hb : n0 + m ≤ big) (hbase : base ≤ w.heap.size)
    (h : ∀ A' c' w', Own w' base A' (n0 + m) c' (bs0 ++ news) → Below base w w' → Rd w' w'.heap.size A0 (bs0.map B8) → wpList Try.prog ops Q rest (a.put o.dst (.slice A' (n0 + m) c')) w') : wpList Try.prog ops Q (o :: rest) a w := by
  obtain ⟨i0, hi, hz0, hz1, hz2⟩ := info_parts info8
  have hlen : n0 + m = (bs0 ++ news).length := by rw [List.length_append, ← hown.1, ← hm]
  have key : ∃ A' c' w', (Builtin.append_ #[41, 41] o.type #[.slice A0 n0 c0, .slice A m c]).run Try.prog w = .ok (.slice A' (n0 + m) c') w' ∧ Own w' base A' (n0 + m) c' (bs0 ++ news) ∧ Below base w w' ∧ Rd w' w'.heap.size A0 (bs0.map B8) := by
    obtain ⟨A', c', w', h1, h2, h3, h4⟩ := run_app (P := Try.prog) w base 41 o.type 5 i0 (.int .u8 0) 1 Try.underlying41 hi hz0 hz1 hz2 rfl (.slice A0 n0 c0) n0 (bs0.map B8) hown.2 B A m c (news.map B8) (by simpa using hm) hr (B8_one news) (by unfold big at hb; unfold maxLen; omega) (by unfold big at hb; omega) hbase
    refine ⟨A', c', w', h1, ⟨hlen, by rw [List.map_append]; exact h2⟩, h3, ?_⟩
    rcases hown.2.2 with ⟨_, h0⟩ | ⟨g, cap, cur, hv, hbg, hg, hnc, hcm, hcs, htake⟩
    · have : bs0 = [] := List.eq_nil_of_length_eq_zero (by rw [← hown.1]; exact h0)
      subst this
      exact Rd.nil
    · injection hv with e1 e2 e3
      subst e1
      subst e3
      cases A with
      | none =>
        have hm0 : m = 0 := by
          cases news with
          | nil => simpa using hm
          | cons x y => obtain ⟨b, o, h, _⟩ := hr (by simp); cases h
        subst hm0
        have h5 : (Builtin.append_ #[41, 41] o.type #[.slice (some ⟨g, 0, none⟩) n0 c0, .slice none 0 c]).run Try.prog w = .ok (.slice (some ⟨g, 0, none⟩) n0 c0) w := by
          simp [Builtin.append_, run_underlying Try.underlying41, sizeOf, typeInfo, hi, Builtin.lenOf, Builtin.firstCells, hnc, storeCells]
        rw [h5] at h1
        injection h1 with _ e5
        subst e5
        exact hown.rd
      | some ad =>
        have hcell : ∀ j u, (news.map B8)[j]? = some u → w.cell? (ad.add j) = some u := by
          intro j u hu
          have hp : 0 < (news.map B8).length := by
            rcases Nat.eq_zero_or_pos (news.map B8).length with h | h
            · rw [List.eq_nil_of_length_eq_zero h] at hu; cases hu
            · exact h
          obtain ⟨b, o, e, _, hc⟩ := hr hp
          injection e with e
          subst e
          rw [Rg.add_at]
          exact hc j u hu
        have hml : (news.map B8).length = m * i0.size := by rw [hz1, List.length_map, Nat.mul_one, hm]
        by_cases hroom : n0 + m ≤ c0
        · obtain ⟨w2, k1, k2, k3⟩ := run_append_fits (P := Try.prog) w base 41 o.type 5 i0 1 Try.underlying41 hi hz1 g n0 c0 (bs0.map B8) hown.2 ad m c (news.map B8) (by rw [List.length_map, Nat.mul_one, hm]) hcell (B8_one news) hroom
          rw [k1] at h1
          injection h1 with e4 e5
          subst e5
          intro hp
          have hrd : Rd w2 w2.heap.size (some ⟨g, 0, none⟩) ((bs0.map B8) ++ (news.map B8)) := Rd.of_own k2
          obtain ⟨b, o, e, hbl, hc⟩ := hrd (by rw [List.length_append]; omega)
          refine ⟨b, o, e, hbl, fun j u hu => hc j u ?_⟩
          rw [List.getElem?_append_left (by rcases Nat.lt_or_ge j (bs0.map B8).length with h | h; exact h; rw [List.getElem?_eq_none h] at hu; cases hu)]
          exact hu
        · have k1 := run_append_grow (P := Try.prog) w 41 o.type 5 i0 (.int .u8 0) Try.underlying41 hi hz0 ⟨g, 0, none⟩ n0 c0 (bs0.map B8) (by rw [hz1, List.length_map, Nat.mul_one, hown.1]) (hown.2.cells (g := g) rfl) ad m c (news.map B8) hml hcell (by omega) (by unfold big at hb; omega) (growslice_fits (by omega) (by rw [hz2]; unfold big at hb; omega))
          rw [k1] at h1
          injection h1 with e4 e5
          subst e5
          have hbl : Below w.heap.size w (w.drew.alloc (.cells ((bs0.map B8).toArray ++ (news.map B8).toArray ++ Builtin.zeroCells (Value.int .u8 0).cells (grownCap w (n0 + m) c0 5 - (n0 + m))) 5)) := ((Below.refl w.heap.size w).drew).alloc (Nat.le_refl _) _
          exact (hown.rd.below hbl).more hbl.size
  obtain ⟨A', c', w', hrun, h2, h3, h4⟩ := key
  refine wpList_plain hgd fun _ hK => ?_
  unfold Oper.wp execOp
  simp only [ho, resolve, invoke, builtin, Sem.run_bind, Sem.run_pure, Result.andThen_ok, List.map_toArray, List.map_cons, List.map_nil, hs, hx, hrun]
  exact hK _ _ (h A' c' w' h2 h3 h4)
end Go.Proofs.Ytjcbdnbbdhjoiaa.Lgw

namespace Go.Proofs.Ytjcbdnbbdhjoiaa.logBurst
set_option maxRecDepth 20000
open Go.RowKit
open Bk Lg Wire Lgw
open Dk
open Tgw (hat hbe)
open Rg (bal)

theorem size88 (w : World) : (sizeOf 40).run Try.prog w = .ok 11 w := by
  have u3 := Try.sizeOf40
  simp [go_sem]
theorem run_headR (A : Option Addr) (n c k : Nat) (j : Int) (q : IntKind) (hj : j = (k : Int)) (hk : k ≤ c) (w : World) : (Instr.slice 22 (.slice A n c) none (some (.int q j)) none).run Try.prog w = .ok (.slice A k c) w := by
  subst hj
  have he : Try.prog.elem 22 = 40 := by simp [Program.elem, Try.underlying22]
  rw [run_slice_h (P := Try.prog) w 22 A n c (by rw [he]; exact Try.underlying22) q k (by omega) (by omega), he, size88]
  simp [Result.andThen, sliced]
  intro _
  cases A <;> simp [Addr.add]
set_option maxRecDepth 100000 in
set_option maxHeartbeats 8000000 in
theorem walk (w : World) (A : Option Addr) (n c : Nat) (rs : List R) (hs : Sr w A n c rs) (hwf : ∀ r ∈ rs, WfE r.e) (at_ : Int) (w1 : (Lit.int .i64 at_).wf = true) (mask : Int) (w2 : (Lit.int .u32 mask).wf = true) :
    Calls Try.prog 8 #[.slice A n c, .int .i64 at_, .int .u32 mask] w fun e w' => e = .returned (.bool true) ∧ Below w.heap.size w w' := by
  have HS := Lib.hid hs; have HW := Lib.hid hwf
  have hn : Hid (n = rs.length) := Lib.hid hs.1
  obtain ⟨ha1, ha2⟩ := wf_i64 w1
  obtain ⟨mk, rfl, hmk⟩ := wf_u32 w2
  have HMK := Lib.hid hmk
  have hsf := store_flt
  clear hs hwf w1 w2 hmk
  go_enter Try.func8, Try.ntmps8
  go_wp2_with fail
  refine (log_alive_c _).mono ?_
  rintro e w2 ⟨rfl, hb⟩
  have HB := Lib.hid hb; clear hb
  by_cases h30 : 30 < n
  · go_wp2
    go_ret
    exact ⟨rfl, HB.out⟩
  have hn30 : n ≤ 30 := by omega
  by_cases hneg : at_ < 0
  · go_wp2
    go_ret
    exact ⟨rfl, HB.out⟩
  obtain ⟨a, rfl⟩ : ∃ a : Nat, at_ = a := ⟨at_.toNat, by omega⟩
  go_wp2
  go_loopw [7, 8, 9, 34] (fun x7 x8 x9 x34 wr => ∃ (k : Nat) (A7 : Option Addr) (n7 c7 : Nat) (A8 : Option Addr) (n8 c8 : Nat) (A9 : Option Addr) (n9 c9 : Nat), x7 = .slice A7 n7 c7 ∧ x8 = .slice A8 n8 c8 ∧ x9 = .slice A9 n9 c9 ∧ x34 = .int .i64 (k : Int) ∧ k ≤ n ∧ n7 ≤ 60 * k ∧ n8 ≤ k ∧ n9 ≤ k ∧ Own wr w.heap.size A7 n7 c7 (flatR (goods (rs.take k))) ∧ OwnI wr w.heap.size A8 n8 c8 (ends (goods (rs.take k))) ∧ Rg.OwnG KR wr w.heap.size A9 n9 c9 (goods (rs.take k)) ∧ Below w.heap.size w wr) (fun _ _ _ x34 _ => n - (intOf x34).toNat)
  case atStart =>
    have hsz := HB.out.size
    exact ⟨0, _, 0, 0, _, 0, 0, _, 0, 0, rfl, rfl, rfl, rfl, by omega, by omega, by omega, by omega, ((own_new w2 w.heap.size [] hsz (by simp)).alloc _).alloc _, (ownI_at (w2.alloc (.cells #[] 5)) w.heap.size _ [] (by simp) (by simp; omega) (by simp)).alloc _, Rg.own_newG KR ((w2.alloc (.cells #[] 5)).alloc (.cells #[] 3)) w.heap.size _ (by simp) (by simp; omega), bal (bal (bal HB.out (Nat.le_refl _) _) (Nat.le_refl _) _) (Nat.le_refl _) _⟩
  case round =>
    obtain ⟨k, A7, n7, c7, A8, n8, c8, A9, n9, c9, rfl, rfl, rfl, rfl, hk, h7, h8, h9, ho7, ho8, ho9, hb⟩ := hrel
    clear HB
    have HO7 := Lib.hid ho7; have HO8 := Lib.hid ho8; have HO9 := Lib.hid ho9; have HB := Lib.hid hb
    clear ho7 ho8 ho9 hb
    by_cases h : k < n
    · obtain ⟨bb, o, rfl, hbB, hcell⟩ := HS.out.2.2.2.2 (by rw [← hn.out]; omega)
      have hkl : k < rs.length := by rw [← hn.out]; exact h
      have hz : rs[k]? = some rs[k] := List.getElem?_eq_getElem hkl
      have hc0 : Rg.At KR wr bb (o + k * 11) rs[k] := (hcell k rs[k] hz).below HB.out hbB
      have HWF := Lib.hid (HW.out rs[k] (List.getElem_mem hkl))
      generalize rs[k] = r at hz hc0 HWF
      have HZ := Lib.hid hz
      obtain ⟨x0, x1, x2, x3, x4, x5, x6, x7, x8, x9, x10⟩ := elv_at hc0
      clear hz hcell hc0 hkl
      have HBY := Lib.hid (fun W => bytes_c r HWF.out W)
      unfold rvv at HBY
      go_wp2_with fail
      clear x0 x1 x2 x3 x4 x5 x6 x7 x8 x9 x10
      have HX := Lib.hid (show Rx (wr.alloc (.cells #[.int .i64 r.kind, .int .i64 r.va, .int .i64 r.vd, .int .i64 r.cn, .int .i64 r.ca, .int .i64 r.cd, .int .i64 r.e.key, .int .i64 r.e.num, .int .i64 r.e.node, .float .f64 r.e.val, .int .i64 r.n] 40)) wr.heap.size r from hat _ _ _ rfl)
      have HO7 := Lib.hid (HO7.out.alloc (.cells #[.int .i64 r.kind, .int .i64 r.va, .int .i64 r.vd, .int .i64 r.cn, .int .i64 r.ca, .int .i64 r.cd, .int .i64 r.e.key, .int .i64 r.e.num, .int .i64 r.e.node, .float .f64 r.e.val, .int .i64 r.n] 40)); have HO8 := Lib.hid (HO8.out.alloc (.cells #[.int .i64 r.kind, .int .i64 r.va, .int .i64 r.vd, .int .i64 r.cn, .int .i64 r.ca, .int .i64 r.cd, .int .i64 r.e.key, .int .i64 r.e.num, .int .i64 r.e.node, .float .f64 r.e.val, .int .i64 r.n] 40)); have HO9 := Lib.hid (HO9.out.alloc (.cells #[.int .i64 r.kind, .int .i64 r.va, .int .i64 r.vd, .int .i64 r.cn, .int .i64 r.ca, .int .i64 r.cd, .int .i64 r.e.key, .int .i64 r.e.num, .int .i64 r.e.node, .float .f64 r.e.val, .int .i64 r.n] 40))
      have HB := Lib.hid (bal HB.out (Nat.le_refl _) (.cells #[.int .i64 r.kind, .int .i64 r.va, .int .i64 r.vd, .int .i64 r.cn, .int .i64 r.ca, .int .i64 r.cd, .int .i64 r.e.key, .int .i64 r.e.num, .int .i64 r.e.node, .float .f64 r.e.val, .int .i64 r.n] 40))
      generalize wr.alloc (.cells #[.int .i64 r.kind, .int .i64 r.va, .int .i64 r.vd, .int .i64 r.cn, .int .i64 r.ca, .int .i64 r.cd, .int .i64 r.e.key, .int .i64 r.e.num, .int .i64 r.e.node, .float .f64 r.e.val, .int .i64 r.n] 40) = w3 at HX HO7 HO8 HO9 HB ⊢
      generalize wr.heap.size = gx at HX ⊢
      refine (HBY.out _).mono ?_
      rintro e w4 ⟨hb, h4⟩
      have HX := Lib.hid (HX.out.all hb); have HO7 := Lib.hid (HO7.out.below hb (Nat.le_refl _)); have HO8 := Lib.hid (HO8.out.below hb (Nat.le_refl _)); have HO9 := Lib.hid (HO9.out.below hb (Nat.le_refl _))
      have HB := Lib.hid (HB.out.trans (hb.mono HB.out.size))
      clear hb
      rcases h4 with ⟨hrt, rfl⟩ | ⟨hrt, A4, n4, c4, rfl, ho4⟩
      · have HG := Lib.hid (goods_no HZ.out hrt)
        clear hrt
        go_wp2
        exact ⟨⟨k + 1, A7, n7, c7, A8, n8, c8, A9, n9, c9, rfl, rfl, rfl, by go_num, by omega, by omega, by omega, by omega, by rw [HG.out]; exact HO7.out, by rw [HG.out]; exact HO8.out, by rw [HG.out]; exact HO9.out, HB.out⟩, by simp [intOf]; omega⟩
      · have HG := Lib.hid (goods_yes HZ.out hrt)
        have HN4 := Lib.hid ho4.1; have HR4 := Lib.hid ho4.rd
        have hn4 : n4 ≤ 60 := by
          have h1 := bytes_len r ⟨hrt, HWF.out.2.2.2⟩; have h2 := seal_small r ⟨hrt, HWF.out.2.2.2⟩
          have h3 := ho4.1
          omega
        clear hrt ho4
        go_upto_region 14 with (at_builtin; refine wp_app8g rfl (.tmp 45) (.tmp 46) rfl w.heap.size A7 n7 c7 _ rfl HO7.out w4.heap.size A4 n4 c4 (bytesR r) rfl HN4.out HR4.out (by unfold big; omega) HB.out.size ?_; intro A17 c17 w7 ho17 hb7 hg7)
        have HX := Lib.hid (rx_apart HX.out HO7.out.2 (by decide) hg7)
        have HO8 : Hid (OwnI w7 w.heap.size A8 n8 c8 (ends (goods (rs.take k)))) := Lib.hid ⟨HO8.out.1, own_apart HO8.out.2 HO7.out.2 (by decide) hg7⟩
        have HO9 : Hid (Rg.OwnG KR w7 w.heap.size A9 n9 c9 (goods (rs.take k))) := Lib.hid ⟨HO9.out.1, own_apart HO9.out.2 HO7.out.2 (by decide) hg7⟩
        have HO7 := Lib.hid ho17
        have HB := Lib.hid (HB.out.trans hb7)
        clear ho17 hb7 hg7 HR4 HN4
        obtain ⟨nn, hnn⟩ : ∃ nn, nn = n7 + n4 := ⟨_, rfl⟩
        rw [← hnn] at HO7 ⊢
        have hnn2 : nn ≤ 60 * (k + 1) := by omega
        clear hnn
        go_upto_region 15 with (at_builtin; refine wp_appIg rfl (.tmp 48) (.tmp 51) rfl w.heap.size A8 n8 c8 _ rfl (HO8.out.alloc _) (w7.heap.size + 1) _ 1 1 [(nn : Int)] rfl rfl (rdI_new w7 [.int .i64 (nn : Int)]) (by omega) (by have := HB.out.size; simp; omega) ?_; intro A18 c18 w8 ho18 hb8 hg8)
        have HX := Lib.hid (rx_apart (Rx.all HX.out (bal (Below.refl w7.heap.size w7) (Nat.le_refl _) (.cells #[.int .i64 (nn : Int)] 3))) (HO8.out.alloc (.cells #[.int .i64 (nn : Int)] 3)).2 (by decide) hg8)
        have HO7 : Hid (Own w8 w.heap.size A17 nn c17 (flatR (goods (rs.take k)) ++ bytesR r)) := Lib.hid ⟨HO7.out.1, own_apart (HO7.out.alloc (.cells #[.int .i64 (nn : Int)] 3)).2 (HO8.out.alloc (.cells #[.int .i64 (nn : Int)] 3)).2 (by decide) hg8⟩
        have HO9 : Hid (Rg.OwnG KR w8 w.heap.size A9 n9 c9 (goods (rs.take k))) := Lib.hid ⟨HO9.out.1, own_apart (HO9.out.alloc (.cells #[.int .i64 (nn : Int)] 3)).2 (HO8.out.alloc (.cells #[.int .i64 (nn : Int)] 3)).2 (by decide) hg8⟩
        have HO8 := Lib.hid ho18
        have HB := Lib.hid ((bal HB.out (Nat.le_refl _) _).trans hb8)
        clear ho18 hb8 hg8
        obtain ⟨z0, z1, z2, z3, z4, z5, z6, z7, z8, z9, z10⟩ := HX.out.cs
        go_wp2_with (at_builtin; refine wp_app1 rfl (.tmp 53) (.tmp 55) rfl w.heap.size A9 n9 c9 _ rfl (HO9.out.alloc (.cells #[.int .i64 r.kind, .int .i64 r.va, .int .i64 r.vd, .int .i64 r.cn, .int .i64 r.ca, .int .i64 r.cd, .int .i64 r.e.key, .int .i64 r.e.num, .int .i64 r.e.node, .float .f64 r.e.val, .int .i64 r.n] 40)) w8.heap.size r rfl (hat _ _ _ rfl) (by omega) (by have := HB.out.size; simp; omega) ?_; intro A19 c19 w9 ho19 hb9 hg9)
        have HQ7 := Lib.hid (own_apart (HO7.out.alloc (.cells #[.int .i64 r.kind, .int .i64 r.va, .int .i64 r.vd, .int .i64 r.cn, .int .i64 r.ca, .int .i64 r.cd, .int .i64 r.e.key, .int .i64 r.e.num, .int .i64 r.e.node, .float .f64 r.e.val, .int .i64 r.n] 40)).2 (HO9.out.alloc (.cells #[.int .i64 r.kind, .int .i64 r.va, .int .i64 r.vd, .int .i64 r.cn, .int .i64 r.ca, .int .i64 r.cd, .int .i64 r.e.key, .int .i64 r.e.num, .int .i64 r.e.node, .float .f64 r.e.val, .int .i64 r.n] 40)).2 (by decide) hg9)
        have HQ8 := Lib.hid (own_apart (HO8.out.alloc (.cells #[.int .i64 r.kind, .int .i64 r.va, .int .i64 r.vd, .int .i64 r.cn, .int .i64 r.ca, .int .i64 r.cd, .int .i64 r.e.key, .int .i64 r.e.num, .int .i64 r.e.node, .float .f64 r.e.val, .int .i64 r.n] 40)).2 (HO9.out.alloc (.cells #[.int .i64 r.kind, .int .i64 r.va, .int .i64 r.vd, .int .i64 r.cn, .int .i64 r.ca, .int .i64 r.cd, .int .i64 r.e.key, .int .i64 r.e.num, .int .i64 r.e.node, .float .f64 r.e.val, .int .i64 r.n] 40)).2 (by decide) hg9)
        have HFL : Hid (flatR (goods (rs.take k)) ++ bytesR r = flatR (goods (rs.take (k + 1)))) := Lib.hid (by rw [HG.out, flatR_snoc])
        refine ⟨⟨k + 1, A17, nn, c17, A18, n8 + 1, c18, A19, n9 + 1, c19, rfl, rfl, rfl, by go_num, by omega, by omega, by omega, by omega, ?_, ?_, ?_, (bal HB.out (Nat.le_refl _) _).trans hb9⟩, by simp [intOf]; omega⟩
        · rw [← HFL.out]; exact ⟨HO7.out.1, HQ7.out⟩
        · have e : ends (goods (rs.take (k + 1))) = ends (goods (rs.take k)) ++ [(nn : Int)] := by
            rw [HG.out, ends_snoc, flatR_snoc, ← HO7.out.1]
          rw [e]; exact ⟨HO8.out.1, HQ8.out⟩
        · rw [HG.out]; exact ho19
    · obtain rfl : k = n := by omega
      have HT : Hid (rs.take k = rs) := Lib.hid (List.take_of_length_le (by rw [← hn.out]; exact Nat.le_refl _))
      have HOKG := Lib.hid (goods_ok HW.out k)
      rw [HT.out] at HO7 HO8 HO9 HOKG
      clear HT
      generalize goods rs = gs at *
      have hn7 : n7 ≤ 1800 := by omega
      by_cases h0 : n9 = 0
      · subst h0
        go_wp2
        go_ret
        exact ⟨rfl, HB.out⟩
      have hn9 : Hid (n9 = gs.length) := Lib.hid HO9.out.1
      have hLne : (n9 : Int) ≠ 0 := by omega
      obtain ⟨q, hq⟩ : ∃ q, q = a / 1000 := ⟨_, rfl⟩
      obtain ⟨K, hK⟩ : ∃ K, K = q % n9 := ⟨_, rfl⟩
      obtain ⟨j, hj⟩ : ∃ j, j = a % 1000 := ⟨_, rfl⟩
      have hKn : K < n9 := by rw [hK]; exact Nat.mod_lt _ (by omega)
      have hj1000 : j < 1000 := by omega
      have hq1 : (a : Int).tdiv 1000 = (q : Int) := by rw [Int.tdiv_eq_ediv_of_nonneg (by omega)]; omega
      have hq2 : (a : Int) / 1000 = (q : Int) := by omega
      have hK1 : (q : Int).tmod (n9 : Int) = (K : Int) := by rw [Int.tmod_eq_emod_of_nonneg (by omega), hK]; exact (Int.natCast_emod q n9).symm
      have hK2 : (q : Int) % (n9 : Int) = (K : Int) := by rw [hK]; exact (Int.natCast_emod q n9).symm
      have hj1 : (a : Int).tmod 1000 = (j : Int) := by rw [Int.tmod_eq_emod_of_nonneg (by omega)]; omega
      have hj2 : (a : Int) % 1000 = (j : Int) := by omega
      clear hq hK hj
      obtain ⟨b8, o8, rfl, hb8, hcell8⟩ := HO8.out.rd (by rw [List.length_map, ends_len, ← hn9.out]; omega)
      have HC8 : Hid (∀ i, i < gs.length → wr.cell? ⟨b8, o8 + i, none⟩ = some (.int .i64 ((endN gs (i + 1) : Nat) : Int))) := Lib.hid (fun i hi => hcell8 i _ (by rw [List.getElem?_map, ends_get gs i hi]; rfl))
      clear hcell8
      obtain ⟨E, hE⟩ : ∃ E, E = endN gs (K + 1) := ⟨_, rfl⟩
      obtain ⟨F, hF⟩ : ∃ F, F = endN gs K := ⟨_, rfl⟩
      have HE : Hid (E = (flatR (gs.take (K + 1))).length) := Lib.hid hE
      have HF := Lib.hid hF
      have hE7 : E ≤ n7 := by rw [hE, HO7.out.1]; exact endN_le gs (K + 1)
      have hF7 : F ≤ 1800 := by have h1 := endN_le gs K; rw [← HO7.out.1] at h1; omega
      have HCE : Hid (wr.cell? ⟨b8, o8 + K, none⟩ = some (.int .i64 (E : Int))) := Lib.hid (by rw [hE]; exact HC8.out K (by rw [← hn9.out]; exact hKn))
      have HTK : Hid ((flatR gs).take E = flatR (gs.take (K + 1))) := Lib.hid (by rw [hE, flat_take])
      have HRE : Hid (Rd wr wr.heap.size A7 ((flatR (gs.take (K + 1))).map B8)) := Lib.hid (by rw [← HTK.out, List.map_take]; exact HO7.out.rd.take E)
      obtain ⟨rd, hrd⟩ : ∃ rd, rd = n7 - E := ⟨_, rfl⟩
      have hrd7 : rd ≤ 1800 := by omega
      obtain ⟨A20, c20, hslD, hrD⟩ := run_from' Try.underlying41 size8 A7 n7 c7 E rd E .i64 rfl hE7 HO7.out.cap hrd.symm
      have HRD : Hid (∀ W B, Rd W B A7 ((flatR gs).map B8) → Rd W B A20 ((flatR (gs.drop (K + 1))).map B8)) := Lib.hid (fun W B h => by
        have h1 := hrD W B _ (by rw [List.length_map]; exact HO7.out.1.symm) h
        rw [← List.map_drop, hE, flat_drop] at h1
        exact h1)
      have HD : Hid (rd = (flatR (gs.drop (K + 1))).length) := Lib.hid (by rw [← flat_drop, List.length_drop, ← hE, ← HO7.out.1]; exact hrd)
      have hslE := Dkw.run_head A7 n7 c7 E E .i64 rfl (by have := HO7.out.cap; omega)
      clear hE hrd hrD
      have hK8 : K < n8 := by have h1 := HO8.out.1; rw [ends_len, ← hn9.out] at h1; omega
      go_upto_region 21 with (fail)
      by_cases hK0 : K = 0
      · have HKD : Hid (decide (0 < K) = false) := Lib.hid (by rw [decide_eq_false_iff_not]; omega)
        have HF0 : Hid (F = 0) := Lib.hid (by rw [hF, hK0]; rfl)
        clear hF hK0
        go_cut [15, 67] (fun s15 s67 wq => ∃ F0 : Nat, s15 = .int .i64 (F0 : Int) ∧ F0 = F ∧ s67 = .bool false ∧ wq = wr)
        case first =>
          go_wp2
          go_meet
          case rel => exact ⟨0, rfl, HF0.out.symm, congrArg Value.bool HKD.out, rfl⟩
        case rest =>
          obtain ⟨F0, rfl, hF1, rfl, rfl⟩ := hcut
          subst hF1
          clear HF0
          go_upto_region 23 with (fail)
          clear HKD
          have hcE := HCE.out
          go_wp2_with fail
          refine (burst_c A7 E c7 (flatR (gs.take (K + 1))) HE.out _ (by omega) (by omega) mk HMK.out _ wc HRE.out (Nat.le_refl _) (by unfold big; omega)).mono ?_
          rintro e w10 ⟨A17, n17, c17, rfl, ho17, hb10⟩
          rw [show ((8 : Int) * ((F0 : Int) + 2) + (j : Int)) = ((8 * (F0 + 2) + j : Nat) : Int) by omega] at ho17
          rw [HF.out] at ho17
          have hx := ho17.1
          rw [burst_same_len, ← HE.out] at hx
          subst hx
          have HBR := Lib.hid (burst_rec gs HOKG.out K (by rw [← hn9.out]; exact hKn) j mk HMK.out)
          rw [← HF.out] at ho17 HBR
          generalize burstF (flatR (gs.take (K + 1))) ((8 * (F0 + 2) + j : Nat) : Int) mk = X at ho17 HBR
          have HO17 := Lib.hid ho17
          have HB10 := Lib.hid hb10
          clear ho17 hb10
          have hcE10 : w10.cell? ⟨b8, o8 + K, none⟩ = some (.int .i64 (n17 : Int)) := (HB10.out.cell hb8).trans HCE.out
          have HRD10 := Lib.hid (HRD.out w10 w10.heap.size ((HO7.out.rd.below HB10.out).more HB10.out.size))
          clear hcE
          go_wp2_with (at_builtin; refine wp_app8k rfl (.tmp 89) (.tmp 95) rfl wc.heap.size A17 n17 c17 X rfl HO17.out w10.heap.size A20 rd c20 (flatR (gs.drop (K + 1))) rfl HD.out HRD10.out (by unfold big; omega) HB10.out.size ?_; intro A21 c21 w11 ho21 hb21 hr21)
          have HO21 := Lib.hid ho21; have HR21 := Lib.hid hr21
          have HB11 := Lib.hid (HB10.out.trans hb21)
          clear ho21 hb21 hr21 hcE10 HRD10
          refine (scan_c A21 (n17 + rd) c21 _ HO21.out.1 HO21.out.cap (by omega) w11 HO21.out.rd).mono ?_
          rintro e w12 ⟨A18, n18, c18, m19, rs18, rfl, hsc, hsr, hb⟩
          have HSC := Lib.hid hsc; have HS18 := Lib.hid hsr
          have HR21 := Lib.hid ((HR21.out.below hb).more hb.size)
          have HB12 := Lib.hid (HB11.out.trans (hb.mono HB11.out.size))
          clear hsc hsr hb HO21 hslD
          have HK : Hid (∀ W', Below w12.heap.size w12 W' → W'.cell? ⟨b8, o8 + K, none⟩ = some (.int .i64 (n17 : Int)) ∧ (convert 41 9 (.slice A17 n17 c17)).run Try.prog W' = .ok (.string (str X)) W' ∧ (convert 41 9 (.slice A7 n17 c7)).run Try.prog W' = .ok (.string (str (flatR (gs.take (K + 1))))) W') := Lib.hid (fun W' h => by
            have hbb := HB12.out.trans (h.mono HB12.out.size)
            exact ⟨(hbb.cell hb8).trans HCE.out, str8' c17 (HR21.out.below h) HO17.out.1, str8' c7 (HRE.out.below hbb) HE.out⟩)
          have HV : Hid (((str X).toList == (str (flatR (gs.take (K + 1)))).toList) = decide (X = flatR (gs.take (K + 1)))) := Lib.hid (by
            rw [str_toList, str_toList]
            exact Bool.eq_iff_iff.2 (by simp))
          generalize str X = S1 at HK HV
          generalize str (flatR (gs.take (K + 1))) = S2 at HK HV
          obtain ⟨v, hv⟩ : ∃ v, v = (S1.toList == S2.toList) := ⟨_, rfl⟩
          rw [← hv] at HV
          have hv' := hv.symm
          clear hv
          go_upto_region 26 with (fail)
          refine wp_region_held_drew (S := fun W' => Below w12.heap.size w12 W') (by kernel_rfl) (Below.refl _ _).drew (fun hHeld => ?_)
          generalize w12.drew = w13 at hHeld ⊢
          have HB1 : Hid (Below w12.heap.size w12 w13) := hHeld
          clear hHeld
          refine take_in (i := 0) (oi := ⟨_, _, _, _, _, _⟩) (v := ?_) rfl (by kernel_rfl) (by kernel_rfl) (by kernel_rfl) (fun _ _ _ h => h) (by rfl) ?_ HB1.out ?_
          rotate_left
          · intro W hW; have hqq := HK.out W hW; go_simp; with_reducible rfl
          simp only [Act.put, List.setIfInBounds_toArray, List.set_cons_zero, List.set_cons_succ]
          refine take_in (i := 1) (oi := ⟨_, _, _, _, _, _⟩) (v := ?_) rfl (by kernel_rfl) (by kernel_rfl) (by kernel_rfl) (fun _ _ _ h => h) (by rfl) ?_ HB1.out ?_
          rotate_left
          · intro W hW; have hqq := HK.out W hW; go_simp; with_reducible rfl
          simp only [Act.put, List.setIfInBounds_toArray, List.set_cons_zero, List.set_cons_succ]
          refine take_in (i := 2) (oi := ⟨_, _, _, _, _, _⟩) (v := ?_) rfl (by kernel_rfl) (by kernel_rfl) (by kernel_rfl) (fun _ _ _ h => h) (by rfl) ?_ HB1.out ?_
          rotate_left
          · intro W hW; have hqq := HK.out W hW; go_simp; with_reducible rfl
          simp only [Act.put, List.setIfInBounds_toArray, List.set_cons_zero, List.set_cons_succ]
          refine take_in (i := 3) (oi := ⟨_, _, _, _, _, _⟩) (v := ?_) rfl (by kernel_rfl) (by kernel_rfl) (by kernel_rfl) (fun _ _ _ h => h) (by rfl) ?_ HB1.out ?_
          rotate_left
          · intro W hW; have hqq := HK.out W hW; go_simp; with_reducible rfl
          simp only [Act.put, List.setIfInBounds_toArray, List.set_cons_zero, List.set_cons_succ]
          refine take_in (i := 4) (oi := ⟨_, _, _, _, _, _⟩) (v := ?_) rfl (by kernel_rfl) (by kernel_rfl) (by kernel_rfl) (fun _ _ _ h => h) (by rfl) ?_ HB1.out ?_
          rotate_left
          · intro W hW; have hqq := HK.out W hW; go_simp; with_reducible rfl
          simp only [Act.put, List.setIfInBounds_toArray, List.set_cons_zero, List.set_cons_succ]
          refine take_in (i := 5) (oi := ⟨_, _, _, _, _, _⟩) (v := ?_) rfl (by kernel_rfl) (by kernel_rfl) (by kernel_rfl) (fun _ _ _ h => h) (by rfl) ?_ HB1.out ?_
          rotate_left
          · intro W hW; have hqq := HK.out W hW; go_simp; with_reducible rfl
          simp only [Act.put, List.setIfInBounds_toArray, List.set_cons_zero, List.set_cons_succ]
          refine take_in (i := 6) (oi := ⟨_, _, _, _, _, _⟩) (v := ?_) rfl (by kernel_rfl) (by kernel_rfl) (by kernel_rfl) (fun _ _ _ h => h) (by rfl) ?_ HB1.out ?_
          rotate_left
          · intro W hW; have hqq := HK.out W hW; go_simp; with_reducible rfl
          simp only [Act.put, List.setIfInBounds_toArray, List.set_cons_zero, List.set_cons_succ]
          refine take_in (i := 7) (oi := ⟨_, _, _, _, _, _⟩) (v := ?_) rfl (by kernel_rfl) (by kernel_rfl) (by kernel_rfl) (fun _ _ _ h => h) (by rfl) ?_ HB1.out ?_
          rotate_left
          · intro W hW; have hqq := HK.out W hW; go_simp; with_reducible rfl
          simp only [Act.put, List.setIfInBounds_toArray, List.set_cons_zero, List.set_cons_succ]
          refine take_in (i := 8) (oi := ⟨_, _, _, _, _, _⟩) (v := ?_) rfl (by kernel_rfl) (by kernel_rfl) (by kernel_rfl) (fun _ _ _ h => h) (by rfl) ?_ HB1.out ?_
          rotate_left
          · intro W hW; have hqq := HK.out W hW; go_simp; with_reducible rfl
          simp only [Act.put, List.setIfInBounds_toArray, List.set_cons_zero, List.set_cons_succ]
          refine take_in (i := 9) (oi := ⟨_, _, _, _, _, _⟩) (v := ?_) rfl (by kernel_rfl) (by kernel_rfl) (by kernel_rfl) (fun _ _ _ h => h) (by rfl) ?_ HB1.out ?_
          rotate_left
          · intro W hW; have hqq := HK.out W hW; go_simp; with_reducible rfl
          simp only [Act.put, List.setIfInBounds_toArray, List.set_cons_zero, List.set_cons_succ]
          refine wpAnyH_done (by kernel_rfl) ?_ _
          clear hv' HK hslE
          have HB13 := Lib.hid (HB12.out.trans (HB1.out.mono HB12.out.size))
          have HO9 := Lib.hid (HO9.out.below HB13.out (Nat.le_refl _))
          have HS18 := Lib.hid (HS18.out.all HB1.out)
          have HBF := Lib.hid (HB.out.trans (HB13.out.mono HB.out.size))
          cases v with
          | true =>
            have HX := Lib.hid (of_decide_eq_true HV.out.symm)
            obtain ⟨h1, h2⟩ := scans_one HSC.out (HBR.out.1 HX.out)
            subst h1
            have hm19 : m19 = n7 := by rw [h2, ← HO7.out.1]
            subst hm19
            clear h2
            have HS9 : Hid (Sr w13 A9 n9 c9 gs) := Lib.hid ⟨HO9.out.1, HO9.out.cap, by omega, fun r hr => (HOKG.out r hr).2, HO9.out.rs⟩
            go_wp2_with fail
            refine (same_c A18 n18 c18 _ A9 n9 c9 gs w13 HS18.out HS9.out).mono ?_
            rw [sameR_cn]
            rintro e w14 ⟨rfl, hb⟩
            have HBF := Lib.hid (HBF.out.trans (hb.mono HBF.out.size)); clear hb
            go_wp2
            go_ret
            exact ⟨rfl, HBF.out⟩
          | false =>
            have HX := Lib.hid (of_decide_eq_false HV.out.symm)
            obtain ⟨h1, h2⟩ := scans_one HSC.out (HBR.out.2 HX.out)
            subst h1
            have hm19 : m19 = F0 := h2
            subst hm19
            clear h2
            have hslW := run_headR A9 n9 c9 K K .i64 rfl (by have := HO9.out.cap; omega)
            have HS9 : Hid (Sr w13 A9 K c9 (gs.take K)) := Lib.hid ⟨by rw [List.length_take, ← hn9.out]; omega, by have := HO9.out.cap; omega, by omega, fun r hr => (HOKG.out r (List.mem_of_mem_take hr)).2, HO9.out.rs.take K⟩
            go_wp2_with fail
            refine (same_c A18 n18 c18 _ A9 K c9 (gs.take K) w13 HS18.out HS9.out).mono ?_
            rw [sameR_cn]
            rintro e w14 ⟨rfl, hb⟩
            have HBF := Lib.hid (HBF.out.trans (hb.mono HBF.out.size)); clear hb
            go_wp2
            go_ret
            exact ⟨rfl, HBF.out⟩
      · obtain ⟨K2, hK2'⟩ : ∃ K2, K2 = K - 1 := ⟨_, rfl⟩
        have hKs : (K : Int) - 1 = (K2 : Int) := by omega
        have hKp : (0 : Int) < (K : Int) := by omega
        have hK2b : K2 < n8 := by have h1 := HO8.out.1; rw [ends_len, ← hn9.out] at h1; omega
        have hcF : wr.cell? ⟨b8, o8 + K2, none⟩ = some (.int .i64 (F : Int)) := by
          rw [hF, show K = K2 + 1 by omega]
          exact HC8.out K2 (by rw [← hn9.out]; omega)
        clear hF hK2' hK0
        go_upto_region 23 with (fail)
        clear hcF hKs hKp hK2b
        have hcE := HCE.out
        go_wp2_with fail
        refine (burst_c A7 E c7 (flatR (gs.take (K + 1))) HE.out _ (by omega) (by omega) mk HMK.out _ wr HRE.out (Nat.le_refl _) (by unfold big; omega)).mono ?_
        rintro e w10 ⟨A17, n17, c17, rfl, ho17, hb10⟩
        rw [show ((8 : Int) * ((F : Int) + 2) + (j : Int)) = ((8 * (F + 2) + j : Nat) : Int) by omega] at ho17
        rw [HF.out] at ho17
        have hx := ho17.1
        rw [burst_same_len, ← HE.out] at hx
        subst hx
        have HBR := Lib.hid (burst_rec gs HOKG.out K (by rw [← hn9.out]; exact hKn) j mk HMK.out)
        rw [← HF.out] at ho17 HBR
        generalize burstF (flatR (gs.take (K + 1))) ((8 * (F + 2) + j : Nat) : Int) mk = X at ho17 HBR
        have HO17 := Lib.hid ho17
        have HB10 := Lib.hid hb10
        clear ho17 hb10
        have hcE10 : w10.cell? ⟨b8, o8 + K, none⟩ = some (.int .i64 (n17 : Int)) := (HB10.out.cell hb8).trans HCE.out
        have HRD10 := Lib.hid (HRD.out w10 w10.heap.size ((HO7.out.rd.below HB10.out).more HB10.out.size))
        clear hcE
        go_wp2_with (at_builtin; refine wp_app8k rfl (.tmp 89) (.tmp 95) rfl wr.heap.size A17 n17 c17 X rfl HO17.out w10.heap.size A20 rd c20 (flatR (gs.drop (K + 1))) rfl HD.out HRD10.out (by unfold big; omega) HB10.out.size ?_; intro A21 c21 w11 ho21 hb21 hr21)
        have HO21 := Lib.hid ho21; have HR21 := Lib.hid hr21
        have HB11 := Lib.hid (HB10.out.trans hb21)
        clear ho21 hb21 hr21 hcE10 HRD10
        refine (scan_c A21 (n17 + rd) c21 _ HO21.out.1 HO21.out.cap (by omega) w11 HO21.out.rd).mono ?_
        rintro e w12 ⟨A18, n18, c18, m19, rs18, rfl, hsc, hsr, hb⟩
        have HSC := Lib.hid hsc; have HS18 := Lib.hid hsr
        have HR21 := Lib.hid ((HR21.out.below hb).more hb.size)
        have HB12 := Lib.hid (HB11.out.trans (hb.mono HB11.out.size))
        clear hsc hsr hb HO21 hslD
        have HK : Hid (∀ W', Below w12.heap.size w12 W' → W'.cell? ⟨b8, o8 + K, none⟩ = some (.int .i64 (n17 : Int)) ∧ (convert 41 9 (.slice A17 n17 c17)).run Try.prog W' = .ok (.string (str X)) W' ∧ (convert 41 9 (.slice A7 n17 c7)).run Try.prog W' = .ok (.string (str (flatR (gs.take (K + 1))))) W') := Lib.hid (fun W' h => by
          have hbb := HB12.out.trans (h.mono HB12.out.size)
          exact ⟨(hbb.cell hb8).trans HCE.out, str8' c17 (HR21.out.below h) HO17.out.1, str8' c7 (HRE.out.below hbb) HE.out⟩)
        have HV : Hid (((str X).toList == (str (flatR (gs.take (K + 1)))).toList) = decide (X = flatR (gs.take (K + 1)))) := Lib.hid (by
          rw [str_toList, str_toList]
          exact Bool.eq_iff_iff.2 (by simp))
        generalize str X = S1 at HK HV
        generalize str (flatR (gs.take (K + 1))) = S2 at HK HV
        obtain ⟨v, hv⟩ : ∃ v, v = (S1.toList == S2.toList) := ⟨_, rfl⟩
        rw [← hv] at HV
        have hv' := hv.symm
        clear hv
        go_upto_region 26 with (fail)
        refine wp_region_held_drew (S := fun W' => Below w12.heap.size w12 W') (by kernel_rfl) (Below.refl _ _).drew (fun hHeld => ?_)
        generalize w12.drew = w13 at hHeld ⊢
        have HB1 : Hid (Below w12.heap.size w12 w13) := hHeld
        clear hHeld
        refine take_in (i := 0) (oi := ⟨_, _, _, _, _, _⟩) (v := ?_) rfl (by kernel_rfl) (by kernel_rfl) (by kernel_rfl) (fun _ _ _ h => h) (by rfl) ?_ HB1.out ?_
        rotate_left
        · intro W hW; have hqq := HK.out W hW; go_simp; with_reducible rfl
        simp only [Act.put, List.setIfInBounds_toArray, List.set_cons_zero, List.set_cons_succ]
        refine take_in (i := 1) (oi := ⟨_, _, _, _, _, _⟩) (v := ?_) rfl (by kernel_rfl) (by kernel_rfl) (by kernel_rfl) (fun _ _ _ h => h) (by rfl) ?_ HB1.out ?_
        rotate_left
        · intro W hW; have hqq := HK.out W hW; go_simp; with_reducible rfl
        simp only [Act.put, List.setIfInBounds_toArray, List.set_cons_zero, List.set_cons_succ]
        refine take_in (i := 2) (oi := ⟨_, _, _, _, _, _⟩) (v := ?_) rfl (by kernel_rfl) (by kernel_rfl) (by kernel_rfl) (fun _ _ _ h => h) (by rfl) ?_ HB1.out ?_
        rotate_left
        · intro W hW; have hqq := HK.out W hW; go_simp; with_reducible rfl
        simp only [Act.put, List.setIfInBounds_toArray, List.set_cons_zero, List.set_cons_succ]
        refine take_in (i := 3) (oi := ⟨_, _, _, _, _, _⟩) (v := ?_) rfl (by kernel_rfl) (by kernel_rfl) (by kernel_rfl) (fun _ _ _ h => h) (by rfl) ?_ HB1.out ?_
        rotate_left
        · intro W hW; have hqq := HK.out W hW; go_simp; with_reducible rfl
        simp only [Act.put, List.setIfInBounds_toArray, List.set_cons_zero, List.set_cons_succ]
        refine take_in (i := 4) (oi := ⟨_, _, _, _, _, _⟩) (v := ?_) rfl (by kernel_rfl) (by kernel_rfl) (by kernel_rfl) (fun _ _ _ h => h) (by rfl) ?_ HB1.out ?_
        rotate_left
        · intro W hW; have hqq := HK.out W hW; go_simp; with_reducible rfl
        simp only [Act.put, List.setIfInBounds_toArray, List.set_cons_zero, List.set_cons_succ]
        refine take_in (i := 5) (oi := ⟨_, _, _, _, _, _⟩) (v := ?_) rfl (by kernel_rfl) (by kernel_rfl) (by kernel_rfl) (fun _ _ _ h => h) (by rfl) ?_ HB1.out ?_
        rotate_left
        · intro W hW; have hqq := HK.out W hW; go_simp; with_reducible rfl
        simp only [Act.put, List.setIfInBounds_toArray, List.set_cons_zero, List.set_cons_succ]
        refine take_in (i := 6) (oi := ⟨_, _, _, _, _, _⟩) (v := ?_) rfl (by kernel_rfl) (by kernel_rfl) (by kernel_rfl) (fun _ _ _ h => h) (by rfl) ?_ HB1.out ?_
        rotate_left
        · intro W hW; have hqq := HK.out W hW; go_simp; with_reducible rfl
        simp only [Act.put, List.setIfInBounds_toArray, List.set_cons_zero, List.set_cons_succ]
        refine take_in (i := 7) (oi := ⟨_, _, _, _, _, _⟩) (v := ?_) rfl (by kernel_rfl) (by kernel_rfl) (by kernel_rfl) (fun _ _ _ h => h) (by rfl) ?_ HB1.out ?_
        rotate_left
        · intro W hW; have hqq := HK.out W hW; go_simp; with_reducible rfl
        simp only [Act.put, List.setIfInBounds_toArray, List.set_cons_zero, List.set_cons_succ]
        refine take_in (i := 8) (oi := ⟨_, _, _, _, _, _⟩) (v := ?_) rfl (by kernel_rfl) (by kernel_rfl) (by kernel_rfl) (fun _ _ _ h => h) (by rfl) ?_ HB1.out ?_
        rotate_left
        · intro W hW; have hqq := HK.out W hW; go_simp; with_reducible rfl
        simp only [Act.put, List.setIfInBounds_toArray, List.set_cons_zero, List.set_cons_succ]
        refine take_in (i := 9) (oi := ⟨_, _, _, _, _, _⟩) (v := ?_) rfl (by kernel_rfl) (by kernel_rfl) (by kernel_rfl) (fun _ _ _ h => h) (by rfl) ?_ HB1.out ?_
        rotate_left
        · intro W hW; have hqq := HK.out W hW; go_simp; with_reducible rfl
        simp only [Act.put, List.setIfInBounds_toArray, List.set_cons_zero, List.set_cons_succ]
        refine wpAnyH_done (by kernel_rfl) ?_ _
        clear hv' HK hslE
        have HB13 := Lib.hid (HB12.out.trans (HB1.out.mono HB12.out.size))
        have HO9 := Lib.hid (HO9.out.below HB13.out (Nat.le_refl _))
        have HS18 := Lib.hid (HS18.out.all HB1.out)
        have HBF := Lib.hid (HB.out.trans (HB13.out.mono HB.out.size))
        cases v with
        | true =>
          have HX := Lib.hid (of_decide_eq_true HV.out.symm)
          obtain ⟨h1, h2⟩ := scans_one HSC.out (HBR.out.1 HX.out)
          subst h1
          have hm19 : m19 = n7 := by rw [h2, ← HO7.out.1]
          subst hm19
          clear h2
          have HS9 : Hid (Sr w13 A9 n9 c9 gs) := Lib.hid ⟨HO9.out.1, HO9.out.cap, by omega, fun r hr => (HOKG.out r hr).2, HO9.out.rs⟩
          go_wp2_with fail
          refine (same_c A18 n18 c18 _ A9 n9 c9 gs w13 HS18.out HS9.out).mono ?_
          rw [sameR_cn]
          rintro e w14 ⟨rfl, hb⟩
          have HBF := Lib.hid (HBF.out.trans (hb.mono HBF.out.size)); clear hb
          go_wp2
          go_ret
          exact ⟨rfl, HBF.out⟩
        | false =>
          have HX := Lib.hid (of_decide_eq_false HV.out.symm)
          obtain ⟨h1, h2⟩ := scans_one HSC.out (HBR.out.2 HX.out)
          subst h1
          have hm19 : m19 = F := h2
          subst hm19
          clear h2
          have hslW := run_headR A9 n9 c9 K K .i64 rfl (by have := HO9.out.cap; omega)
          have HS9 : Hid (Sr w13 A9 K c9 (gs.take K)) := Lib.hid ⟨by rw [List.length_take, ← hn9.out]; omega, by have := HO9.out.cap; omega, by omega, fun r hr => (HOKG.out r (List.mem_of_mem_take hr)).2, HO9.out.rs.take K⟩
          go_wp2_with fail
          refine (same_c A18 n18 c18 _ A9 K c9 (gs.take K) w13 HS18.out HS9.out).mono ?_
          rw [sameR_cn]
          rintro e w14 ⟨rfl, hb⟩
          have HBF := Lib.hid (HBF.out.trans (hb.mono HBF.out.size)); clear hb
          go_wp2
          go_ret
          exact ⟨rfl, HBF.out⟩
end Go.Proofs.Ytjcbdnbbdhjoiaa.logBurst

namespace Go.Proofs.Ytjcbdnbbdhjoiaa
open Go.ChangeShapes Go.WideShapes Go.ChangeAt Go.RowKit

theorem logBurst_own : ownKnob Try.prog.godebug = none := by kernel_rfl
theorem logBurst_laid : laidOutB Try.prog = true := by kernel_rfl

set_option maxRecDepth 100000 in
theorem logBurst_lifted (os : Os) (started : os.Started) (H : Type) (enc : TypeId × Value → H) :
    ReturnsInHanded {} Try.checked os 8 .any (Rows.logBurstSpec.pre6 enc Try.prog Try.f8 Rows.logBurstRow.domain false) (Rows.logBurstSpec.post enc Try.prog Try.f8 false true false false) := by
  refine returnsInHanded_of_change_sized (C := Try.checked) logBurst_own started (by kernel_rfl) Try.func8
    (ChangeSpec.witness6 (enc := enc) (C := Try.checked) false ⟨#[], #[.slice none 0 0, .int .i64 0, .int .u32 0], []⟩ 8 (by kernel_rfl) (by kernel_rfl) (by kernel_rfl) (by kernel_rfl)) ?_
  intro W base args ds gs before hval0 hW _ hsz0 _
  have hsz : (DataW.weightsEach Try.prog (Try.f8.params.toList ++ Rows.logBurstSpec.plain.varTypes Try.prog) (ds ++ gs)).all (· ≤ reachBytes) = true := hsz0
  have hval : ∀ (j : Nat) t v, Try.f8.params[j]? = some t → args[j]? = some v → Value.okWide Try.prog W .any base t v := hval0
  have hW' := hW
  obtain ⟨p, q, hA0, hV, rfl, hfz, hnd⟩ := hW
  have hA : DataW.TrodAll enc Try.prog W 0 (fun _ => true) true Try.f8.params.toList args.toList ds p := hA0
  rw [Try.params8] at hA hval hsz
  obtain ⟨v0, vs0, d0, ds0, p0, q0, hargs, rfl, rfl, h0, r0⟩ := trodAll_cons hA
  obtain ⟨v1, vs1, d1, ds1, p1, q1, rfl, rfl, rfl, h1, r1⟩ := trodAll_cons r0
  obtain ⟨v2, vs2, d2, ds2, p2, q2, rfl, rfl, rfl, h2, r2⟩ := trodAll_cons r1
  obtain ⟨rfl, rfl, rfl⟩ := trodAll_nil r2
  obtain rfl : args = #[v0, v1, v2] := by cases args; simp_all
  obtain ⟨rfl, rfl⟩ := trodVars_none hV
  clear hA0 hval0
  simp only [List.append_nil] at hW'
  have hk0 := h0
  have hlt0 : ∀ x ∈ p0, x.block < W.heap.size := (fun x hx => by have := hW'.lt x (by simp [hx]); simpa using this)
  obtain ⟨A0, n0, c0, l0, rfl, hn0, hc0, hr0, hw0, hd0⟩ := open_recs Try.underlying22 (hval 0 22 v0 rfl rfl) h0 hlt0
  have hb0 := sized_places hsz (j := 0) rfl rfl Try.underlying22 hd0
  rw [show Try.prog.bytesOf 40 = 88 from by kernel_rfl] at hb0
  obtain ⟨a1, rfl, rfl, rfl, w1⟩ := open_int Try.underlying3 (hval 1 3 v1 rfl rfl) h1
  obtain ⟨a2, rfl, rfl, rfl, w2⟩ := open_int Try.underlying68 (hval 2 68 v2 rfl rfl) h2
  refine (logBurst.walk W A0 n0 c0 l0 ⟨hn0, hc0, by omega, fun r hr => (hw0 r hr).2.2.2, hr0⟩ hw0 a1 w1 a2 w2).mono fun e W' ⟨he, hb⟩ => ?_
  subst he
  exact ⟨_, rfl, _, _, _, [], _, [], hW', trodAll_cons_mk (shut_bool Try.underlying4 _) trodAll_mk0, (trodAll_cons_mk (Below.trod logBurst_laid (by kernel_rfl) (of_decide_eq_true (by kernel_rfl)) hk0 hb hlt0) (trodAll_cons_mk (shut_int Try.underlying3 w1) (trodAll_cons_mk (shut_int Try.underlying68 w2) trodAll_mk0))), rfl, hb.frame _, fun h => by cases h⟩

theorem logBurst_proved : Rows.LogBurstSaid :=
  OpenClaim.holds_of_wide 8 Try.f8 rfl rfl rfl rfl rfl rfl rfl ⟨rfl, rfl, rfl, rfl, rfl⟩ rfl rfl rfl rfl rfl (by kernel_rfl) Try.func8 (by kernel_rfl)
    (of_decide_eq_true (by kernel_rfl)) (by unfold Func.isWrapper; first | (rw [if_pos (by decide +kernel)]; kernel_rfl) | (rw [if_neg (by decide +kernel)]; exact ⟨rfl, rfl⟩))
    (fun os started H enc _ => logBurst_lifted os started H enc)
#print axioms logBurst_proved
end Go.Proofs.Ytjcbdnbbdhjoiaa
