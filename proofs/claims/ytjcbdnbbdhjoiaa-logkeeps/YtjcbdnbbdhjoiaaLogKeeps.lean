/- LogKeeps: what was added to a log and kept by its disk is read back when the log is opened again. Conditions: none. -/
import Derived.Test.YtjcbdnbbdhjoiaaRows
import Derived.Test.YtjcbdnbbdhjoiaaG16
import Derived.Test.YtjcbdnbbdhjoiaaG17
import Derived.WalkKit
import Derived.ProofKit
import Derived.OpenShut
import Derived.Laws.Cover2
import Derived.SizedLaws
import Derived.JoinedCond
import Derived.Carry
set_option linter.unusedSimpArgs false
set_option linter.unusedVariables false
namespace Go.Proofs.Ytjcbdnbbdhjoiaa.Lgw
set_option maxRecDepth 20000
open Go.RowKit
open Bk Lg Wire
open Dk
open Crc (seal_ openF turn turns turns_len turns_found)
open Tgw (hat hbe)
open Rg (bal)

theorem modify_append (f : UInt8 → UInt8) : ∀ (pre q : List UInt8) (i : Nat), (pre ++ q).modify (pre.length + i) f = pre ++ q.modify i f
  | [], q, i => by simp
  | x :: pre, q, i => by
    rw [List.cons_append, List.length_cons, show pre.length + 1 + i = (pre.length + i) + 1 by omega, List.modify_succ_cons, modify_append f pre q i]
    rfl
theorem turn_append (pre q : List UInt8) (j : Nat) : turn (pre ++ q) (8 * pre.length + j) = pre ++ turn q j := by
  unfold turn
  rw [show (8 * pre.length + j) / 8 = pre.length + j / 8 by omega, show (8 * pre.length + j) % 8 = j % 8 by omega]
  exact modify_append _ pre q (j / 8)
theorem turns_append (pre q : List UInt8) (j m : Nat) : ∀ k, turns (pre ++ q) (8 * pre.length + j) m k = pre ++ turns q j m k
  | 0 => rfl
  | k + 1 => by
    unfold turns
    rw [turns_append pre q j m k, show 8 * pre.length + j + k = 8 * pre.length + (j + k) by omega, turn_append]
    split <;> rfl
theorem burst_append (pre q : List UInt8) (j m : Nat) : burstF (pre ++ q) ((8 * pre.length + j : Nat) : Int) m = pre ++ burstF q (j : Int) m := by
  unfold burstF
  rw [List.length_append]
  by_cases h : (j : Int) < 0 ∨ 8 * (q.length : Int) - (Go.bitLen m : Int) < j
  · rw [if_pos h, if_pos (by omega)]
  · rw [if_neg h, if_neg (by omega)]
    exact turns_append pre q j m _
theorem burst_same_len (bs : List UInt8) (a : Int) (m : Nat) : (burstF bs a m).length = bs.length := by
  unfold burstF
  split
  · rfl
  · exact turns_len _ _ _ _
theorem burst_none (b : List UInt8) (a : Int) (m : Nat) (hm : m < 2 ^ 32) (h : burstF (seal_ b) a m ≠ seal_ b) : openF (burstF (seal_ b) a m) = none := by
  by_cases hc : a < 0 ∨ 8 * ((seal_ b).length : Int) - (Go.bitLen m : Int) < a
  · exact absurd (if_pos hc) h
  · have e : burstF (seal_ b) a m = turns (seal_ b) a.toNat m (Go.bitLen m) := if_neg hc
    rw [e] at h ⊢
    exact turns_found b _ m _ (bitLen_le m 32 hm) h
/-- where the records that are ahead end -/
def endN (gs : List R) (k : Nat) : Nat := (flatR (gs.take k)).length
theorem endN_zero (gs : List R) : endN gs 0 = 0 := rfl
theorem flat_split (gs : List R) (k : Nat) : flatR gs = flatR (gs.take k) ++ flatR (gs.drop k) := by rw [← flatR_append, List.take_append_drop]
theorem flat_take (gs : List R) (k : Nat) : (flatR gs).take (endN gs k) = flatR (gs.take k) := by
  unfold endN
  conv => lhs; rw [flat_split gs k]
  rw [List.take_left]
theorem flat_drop (gs : List R) (k : Nat) : (flatR gs).drop (endN gs k) = flatR (gs.drop k) := by
  unfold endN
  conv => lhs; rw [flat_split gs k]
  rw [List.drop_left]
theorem endN_le (gs : List R) (k : Nat) : endN gs k ≤ (flatR gs).length := by
  rw [flat_split gs k, List.length_append]
  unfold endN
  omega
theorem endN_all (gs : List R) : endN gs gs.length = (flatR gs).length := by unfold endN; rw [List.take_length]
theorem endN_step (gs : List R) (k : Nat) (r : R) (h : gs[k]? = some r) : endN gs (k + 1) = endN gs k + (bytesR r).length := by
  unfold endN
  rw [take_snoc h, flatR_snoc, List.length_append]
/-- the places where they end, one by one -/
def ends (gs : List R) : List Int := (List.range gs.length).map fun i => ((endN gs (i + 1) : Nat) : Int)
theorem ends_nil : ends [] = [] := rfl
theorem ends_get (gs : List R) (i : Nat) (h : i < gs.length) : (ends gs)[i]? = some ((endN gs (i + 1) : Nat) : Int) := by
  unfold ends
  rw [List.getElem?_map, List.getElem?_range h]
  rfl
theorem ends_len (gs : List R) : (ends gs).length = gs.length := by simp [ends]
theorem ends_snoc (gs : List R) (r : R) : ends (gs ++ [r]) = ends gs ++ [((flatR (gs ++ [r])).length : Int)] := by
  refine List.ext_getElem? fun i => ?_
  rcases Nat.lt_or_ge i gs.length with h | h
  · rw [ends_get _ i (by rw [List.length_append]; omega), List.getElem?_append_left (by rw [ends_len]; exact h), ends_get gs i h]
    unfold endN
    rw [List.take_append_of_le_length (by omega)]
  · rcases Nat.eq_or_lt_of_le h with h2 | h2
    · subst h2
      rw [ends_get _ _ (by rw [List.length_append]; simp), List.getElem?_append_right (by rw [ends_len]; exact Nat.le_refl _), ends_len, Nat.sub_self]
      have : endN (gs ++ [r]) (gs.length + 1) = (flatR (gs ++ [r])).length := by
        have := endN_all (gs ++ [r])
        rwa [List.length_append] at this
      rw [this]
      rfl
    · rw [List.getElem?_eq_none (by rw [ends_len, List.length_append]; simp; omega), List.getElem?_eq_none (by rw [List.length_append, ends_len]; simp; omega)]
/-- bits turned in one record, behind the two bytes that say how long it is -/
theorem burst_rec (gs : List R) (hok : ∀ r ∈ gs, Ok r) (k : Nat) (hk : k < gs.length) (j m : Nat) (hm : m < 2 ^ 32) :
    (burstF (flatR (gs.take (k + 1))) ((8 * (endN gs k + 2) + j : Nat) : Int) m = flatR (gs.take (k + 1)) → Scans (burstF (flatR (gs.take (k + 1))) ((8 * (endN gs k + 2) + j : Nat) : Int) m ++ flatR (gs.drop (k + 1))) (gs.map cnR) (flatR gs).length) ∧
    (burstF (flatR (gs.take (k + 1))) ((8 * (endN gs k + 2) + j : Nat) : Int) m ≠ flatR (gs.take (k + 1)) → Scans (burstF (flatR (gs.take (k + 1))) ((8 * (endN gs k + 2) + j : Nat) : Int) m ++ flatR (gs.drop (k + 1))) ((gs.take k).map cnR) (endN gs k)) := by
  have hz : gs[k]? = some gs[k] := List.getElem?_eq_getElem hk
  have hr := hok gs[k] (List.getElem_mem hk)
  generalize gs[k] = r at hz hr
  have hl2 := bytes_len r hr
  have hsm := seal_small r hr
  have e1 : flatR (gs.take (k + 1)) = (flatR (gs.take k) ++ form (seal_ (bodyR r)).length) ++ seal_ (bodyR r) := by
    rw [take_snoc hz, flatR_snoc]
    show _ ++ ([] ++ form (seal_ (bodyR r)).length ++ seal_ (bodyR r)) = _
    rw [List.nil_append, List.append_assoc]
  have hf2 : (form (seal_ (bodyR r)).length).length = 2 := by
    have h3 : (bytesR r).length = ([] ++ form (seal_ (bodyR r)).length ++ seal_ (bodyR r)).length := rfl
    rw [List.nil_append, List.length_append] at h3
    omega
  have hp : (flatR (gs.take k) ++ form (seal_ (bodyR r)).length).length = endN gs k + 2 := by rw [List.length_append, hf2]; rfl
  have e2 : burstF (flatR (gs.take (k + 1))) ((8 * (endN gs k + 2) + j : Nat) : Int) m = (flatR (gs.take k) ++ form (seal_ (bodyR r)).length) ++ burstF (seal_ (bodyR r)) (j : Int) m := by
    rw [e1, ← hp, burst_append]
  constructor
  · intro h
    rw [h, ← flatR_append, List.take_append_drop]
    have := scans_of gs hok [] (fun r n => first_nil r n)
    rwa [List.append_nil] at this
  · intro h
    rw [e2, e1] at h
    have hne : burstF (seal_ (bodyR r)) (j : Int) m ≠ seal_ (bodyR r) := fun e => h (by rw [e])
    have hno := burst_none (bodyR r) (j : Int) m hm hne
    have hsl := burst_same_len (seal_ (bodyR r)) (j : Int) m
    rw [e2]
    generalize burstF (seal_ (bodyR r)) (j : Int) m = y at hno hsl
    have e3 : flatR (gs.take k) ++ form (seal_ (bodyR r)).length ++ y ++ flatR (gs.drop (k + 1)) = flatR (gs.take k) ++ (textF [] y ++ flatR (gs.drop (k + 1))) := by
      unfold textF
      rw [List.nil_append, hsl, List.append_assoc, List.append_assoc, List.append_assoc]
    rw [e3]
    have hcut : cutF (textF [] y ++ flatR (gs.drop (k + 1))) = some (y, flatR (gs.drop (k + 1))) := cutF_text (by omega)
    exact scans_of (gs.take k) (fun x hx => hok x (List.mem_of_mem_take hx)) _ (fun r' n' => no_open hcut hno r' n')
/-- append onto a row of bytes of one's own: the elder slice, too, holds what it held -/
theorem wp_app8k {w : World} {ops : Array Oper} {rest : List Oper} {o : Oper} {a : Act} {Q : Exit → Act → World → Prop} (hgd : o.guard = none) (s x : Operand)
    (ho : o.op = .call { callee := .builtin .append, args := #[s, x], argTypes := #[41, 41] })
    (base : Nat) (A0 : Option Addr) (n0 c0 : Nat) (bs0 : List UInt8) (hs : a.eval s = .slice A0 n0 c0) (hown : Own w base A0 n0 c0 bs0)
    (B : Nat) (A : Option Addr) (m c : Nat) (news : List UInt8) (hx : a.eval x = .slice A m c) (hm : m = news.length) (hr : Rd w B A (news.map B8))
    (hb : n0 + m ≤ big) (hbase : base ≤ w.heap.size)
    (h : ∀ A' c' w', Own w' base A' (n0 + m) c' (bs0 ++ news) → Below base w w' → Rd w' w'.heap.size A0 (bs0.map B8) → wpList Try.prog ops Q rest (a.put o.dst (.slice A' (n0 + m) c')) w') : wpList Try.prog ops Q (o :: rest) a w := by
  obtain ⟨i0, hi, hz0, hz1, hz2⟩ := info_parts info8
  have hlen : n0 + m = (bs0 ++ news).length := by rw [List.length_append, ← hown.1, ← hm]
  have key : ∃ A' c' w', (Builtin.append_ #[41, 41] o.type #[.slice A0 n0 c0, .slice A m c]).run Try.prog w = .ok (.slice A' (n0 + m) c') w' ∧ Own w' base A' (n0 + m) c' (bs0 ++ news) ∧ Below base w w' ∧ Rd w' w'.heap.size A0 (bs0.map B8) := by
    obtain ⟨A', c', w', h1, h2, h3, h4⟩ := run_app (P := Try.prog) w base 41 o.type 5 i0 (.int .u8 0) 1 Try.underlying41 hi hz0 hz1 hz2 rfl (.slice A0 n0 c0) n0 (bs0.map B8) hown.2 B A m c (news.map B8) (by simpa using hm) hr (B8_one news) (by unfold big at hb; unfold maxLen; omega) (by unfold big at hb; omega) hbase
    refine ⟨A', c', w', h1, ⟨hlen, by rw [List.map_append]; exact h2⟩, h3, ?_⟩
    rcases hown.2.2 with ⟨_, h0⟩ | ⟨g, cap, cur, hv, hbg, hg, hnc, hcm, hcs, htake⟩
    · have : bs0 = [] := List.eq_nil_of_length_eq_zero (by rw [← hown.1]; exact h0)
      subst this
      exact Rd.nil
    · injection hv with e1 e2 e3
      subst e1
      subst e3
      cases A with
      | none =>
        have hm0 : m = 0 := by
          cases news with
          | nil => simpa using hm
          | cons x y => obtain ⟨b, o, h, _⟩ := hr (by simp); cases h
        subst hm0
        have h5 : (Builtin.append_ #[41, 41] o.type #[.slice (some ⟨g, 0, none⟩) n0 c0, .slice none 0 c]).run Try.prog w = .ok (.slice (some ⟨g, 0, none⟩) n0 c0) w := by
          simp [Builtin.append_, run_underlying Try.underlying41, sizeOf, typeInfo, hi, Builtin.lenOf, Builtin.firstCells, hnc, storeCells]
        rw [h5] at h1
        injection h1 with _ e5
        subst e5
        exact hown.rd
      | some ad =>
        have hcell : ∀ j u, (news.map B8)[j]? = some u → w.cell? (ad.add j) = some u := by
          intro j u hu
          have hp : 0 < (news.map B8).length := by
            rcases Nat.eq_zero_or_pos (news.map B8).length with h | h
            · rw [List.eq_nil_of_length_eq_zero h] at hu; cases hu
            · exact h
          obtain ⟨b, o, e, _, hc⟩ := hr hp
          injection e with e
          subst e
          rw [Rg.add_at]
          exact hc j u hu
        have hml : (news.map B8).length = m * i0.size := by rw [hz1, List.length_map, Nat.mul_one, hm]
        by_cases hroom : n0 + m ≤ c0
        · obtain ⟨w2, k1, k2, k3⟩ := run_append_fits (P := Try.prog) w base 41 o.type 5 i0 1 Try.underlying41 hi hz1 g n0 c0 (bs0.map B8) hown.2 ad m c (news.map B8) (by rw [List.length_map, Nat.mul_one, hm]) hcell (B8_one news) hroom
          rw [k1] at h1
          injection h1 with e4 e5
          subst e5
          intro hp
          have hrd : Rd w2 w2.heap.size (some ⟨g, 0, none⟩) ((bs0.map B8) ++ (news.map B8)) := Rd.of_own k2
          obtain ⟨b, o, e, hbl, hc⟩ := hrd (by rw [List.length_append]; omega)
          refine ⟨b, o, e, hbl, fun j u hu => hc j u ?_⟩
          rw [List.getElem?_append_left (by rcases Nat.lt_or_ge j (bs0.map B8).length with h | h; exact h; rw [List.getElem?_eq_none h] at hu; cases hu)]
          exact hu
        · have k1 := run_append_grow (P := Try.prog) w 41 o.type 5 i0 (.int .u8 0) Try.underlying41 hi hz0 ⟨g, 0, none⟩ n0 c0 (bs0.map B8) (by rw [hz1, List.length_map, Nat.mul_one, hown.1]) (hown.2.cells (g := g) rfl) ad m c (news.map B8) hml hcell (by omega) (by unfold big at hb; omega) (growslice_fits (by omega) (by rw [hz2]; unfold big at hb; omega))
          rw [k1] at h1
          injection h1 with e4 e5
          subst e5
          have hbl : Below w.heap.size w (w.drew.alloc (.cells ((bs0.map B8).toArray ++ (news.map B8).toArray ++ Builtin.zeroCells (Value.int .u8 0).cells (grownCap w (n0 + m) c0 5 - (n0 + m))) 5)) := ((Below.refl w.heap.size w).drew).alloc (Nat.le_refl _) _
          exact (hown.rd.below hbl).more hbl.size
  obtain ⟨A', c', w', hrun, h2, h3, h4⟩ := key
  refine wpList_plain hgd fun _ hK => ?_
  unfold Oper.wp execOp
  simp only [ho, resolve, invoke, builtin, Sem.run_bind, Sem.run_pure, Result.andThen_ok, List.map_toArray, List.map_cons, List.map_nil, hs, hx, hrun]
  exact hK _ _ (h A' c' w' h2 h3 h4)
end Go.Proofs.Ytjcbdnbbdhjoiaa.Lgw

namespace Go.Proofs.Ytjcbdnbbdhjoiaa.Lgw
set_option maxRecDepth 20000
open Go.RowKit
open Bk Lg Wire
open Dk
open Tgw (hat hbe)
open Rg (bal)
open Dkw (Dd RetK Gw Dy Fs)

/-- append onto a row of records of one's own, and which block may have turned -/
theorem wp_appRg {w : World} {ops : Array Oper} {rest : List Oper} {o : Oper} {a : Act} {Q : Exit → Act → World → Prop} (hgd : o.guard = none) (s x : Operand)
    (ho : o.op = .call { callee := .builtin .append, args := #[s, x], argTypes := #[22, 22] })
    (base : Nat) (A0 : Option Addr) (n0 c0 : Nat) (rs0 : List R) (hs : a.eval s = .slice A0 n0 c0) (hown : Rg.OwnG KR w base A0 n0 c0 rs0)
    (B : Nat) (A : Option Addr) (m c : Nat) (rs : List R) (hx : a.eval x = .slice A m c) (hm : m = rs.length) (hr : Rg.Rs KR w B A rs) (hb : (n0 + m) * 88 ≤ 140737488355328) (hbase : base ≤ w.heap.size)
    (h : ∀ A' c' w', Rg.OwnG KR w' base A' (n0 + m) c' (rs0 ++ rs) → Below base w w' → w.grownBy w' (Value.slice A0 n0 c0).ownBlock → wpList Try.prog ops Q rest (a.put o.dst (.slice A' (n0 + m) c')) w') : wpList Try.prog ops Q (o :: rest) a w := by
  obtain ⟨i0, hi, hz0, hz1, hz2⟩ := info_parts (KR).info
  have hby : (KR).bytes = 88 := rfl
  have hlen : n0 + m = (rs0 ++ rs).length := by rw [List.length_append, hown.1, hm]
  have key : ∃ A' c' w', (Builtin.append_ #[22, 22] o.type #[.slice A0 n0 c0, .slice A m c]).run Try.prog w = .ok (.slice A' (n0 + m) c') w' ∧ Rg.OwnG KR w' base A' (n0 + m) c' (rs0 ++ rs) ∧ Below base w w' ∧ w.grownBy w' (Value.slice A0 n0 c0).ownBlock := by
    have some_case : ∀ ad : Addr, A = some ad → (∀ j u, (Rg.flat KR rs)[j]? = some u → w.cell? (ad.add j) = some u) → ∃ A' c' w', (Builtin.append_ #[22, 22] o.type #[.slice A0 n0 c0, .slice A m c]).run Try.prog w = .ok (.slice A' (n0 + m) c') w' ∧ Rg.OwnG KR w' base A' (n0 + m) c' (rs0 ++ rs) ∧ Below base w w' ∧ w.grownBy w' (Value.slice A0 n0 c0).ownBlock := by
      rintro ad rfl hc
      obtain ⟨v', w', hrun, hoo, hg, _⟩ := run_append_own (P := Try.prog) w base (KR).S o.type (KR).T i0 _ (KR).k (KR).bytes (KR).und hi hz0 hz1 hz2 (KR).zs (KR).kpos _ n0 (Rg.flat KR rs0) hown.2 ad m c (Rg.flat KR rs) (by rw [Rg.flat_len, hm]) hc (Rg.flat_one KR rs) (by unfold maxLen; omega) (by rw [hby]; exact hb) hbase
      have hbl : Below base w w' := (Below.refl _ _).grown hg hbase (fun k hk => (hown.2.lt k hk).1)
      have hfl : Rg.flat KR rs0 ++ Rg.flat KR rs = Rg.flat KR (rs0 ++ rs) := by unfold Rg.flat; rw [List.flatMap_append]
      rw [hfl] at hoo
      rcases hoo.2 with ⟨rfl, h0⟩ | ⟨g', cap, cur, rfl, _⟩
      · rw [h0] at hoo hlen ⊢
        exact ⟨none, 0, w', hrun, ⟨hlen, hoo⟩, hbl, hg⟩
      · exact ⟨_, _, w', hrun, ⟨hlen, hoo⟩, hbl, hg⟩
    rcases Nat.eq_zero_or_pos rs.length with h0 | h0
    · have hn : rs = [] := List.eq_nil_of_length_eq_zero h0
      subst hn
      have hm0 : m = 0 := by simpa using hm
      subst hm0
      cases A with
      | none =>
        refine ⟨A0, c0, w, ?_, by simpa using hown, Below.refl _ _, ⟨rfl, rfl, rfl, Nat.le_refl _, fun _ _ _ => rfl⟩⟩
        have hu : Try.prog.underlying 22 = some (.slice 40) := Try.underlying22
        have hi' : Try.prog.info? 40 = some i0 := hi
        rcases hown.2.2 with ⟨hv, hnn⟩ | ⟨g, cap, cur, hv, _, _, hnc, _⟩
        · injection hv with h1 h2 h3
          subst h1
          subst h3
          subst hnn
          simp [Builtin.append_, run_underlying hu, sizeOf, typeInfo, hi', Builtin.lenOf, Builtin.firstCells]
        · injection hv with h1 h2 h3
          subst h1
          subst h3
          simp [Builtin.append_, run_underlying hu, sizeOf, typeInfo, hi', Builtin.lenOf, Builtin.firstCells, hnc, storeCells]
      | some ad => exact some_case ad rfl (fun j u hu => by simp [Rg.flat] at hu)
    · obtain ⟨b, oo, rfl, _, hc⟩ := hr h0
      exact some_case ⟨b, oo, none⟩ rfl (fun j u hu => by
        rw [Rg.add_at]
        obtain ⟨k, i, v, hv, hi2, rfl, hh⟩ := Rg.flat_get KR rs j u hu
        rw [← Nat.add_assoc]
        exact hc k v hv i u hh)
  obtain ⟨A', c', w', hrun, h2, h3, h4⟩ := key
  refine wpList_plain hgd fun _ hK => ?_
  unfold Oper.wp execOp
  simp only [ho, resolve, invoke, builtin, Sem.run_bind, Sem.run_pure, Result.andThen_ok, List.map_toArray, List.map_cons, List.map_nil, hs, hx, hrun]
  exact hK _ _ (h A' c' w' h2 h3 h4)
/-- a row of records lies outside of a disk's blocks -/
theorem rec_far {w : World} {F : Nat → Prop} {p : Value} {d : D} {base : Nat} {A : Option Addr} {n c : Nat} {rs : List R} (hd : Dd w F p d) (ho : Rg.OwnG KR w base A n c rs) : ∀ k, (Value.slice A n c).ownBlock = some k → ¬ F k := by
  intro k hk hf
  rcases ho.2.2 with ⟨hv, _⟩ | ⟨g, cap, cur, hv, _, hh, _⟩
  · rw [hv] at hk; simp [Value.ownBlock] at hk
  · rw [hv] at hk
    simp only [Value.ownBlock, Option.some.injEq] at hk
    subst hk
    obtain ⟨g2, A2, n2, c2, _, hy, hod, hF, _⟩ := hd
    rcases (hF g).1 hf with h1 | h1
    · subst h1
      unfold Dy at hy
      rw [hh] at hy
      simp only [Option.some.injEq, Obj.cells.injEq] at hy
      exact absurd hy.2.1 (by decide)
    · rcases hod.2.2 with ⟨hv2, _⟩ | ⟨g3, cap3, cur3, hv2, _, hh3, _⟩
      · rw [hv2] at h1; simp [Value.ownBlock] at h1
      · rw [hv2] at h1
        simp only [Value.ownBlock, Option.some.injEq] at h1
        subst h1
        rw [hh] at hh3
        simp only [Option.some.injEq, Obj.cells.injEq] at hh3
        exact absurd hh3.2.1 (by decide)
theorem rec_keep {w w' : World} {F F' : Nat → Prop} {p : Value} {d : D} {base : Nat} {A : Option Addr} {n c : Nat} {rs : List R} (hd : Dd w F p d) (ho : Rg.OwnG KR w base A n c rs) (hg : Gw F F' w w') : Rg.OwnG KR w' base A n c rs :=
  ho.keep (fun k hk => hg.1.block k (ho.2.lt k hk).2 (rec_far hd ho k hk))
theorem disk_keep {w w' : World} {F : Nat → Prop} {p : Value} {d : D} {base : Nat} {A : Option Addr} {n c : Nat} {rs : List R} (hd : Dd w F p d) (ho : Rg.OwnG KR w base A n c rs) (hg : w.grownBy w' (Value.slice A n c).ownBlock) : Dd w' F p d :=
  hd.keep hg.size (fun k hk => hg.block k (hd.lt k hk) (fun e => rec_far hd ho k e.symm hk))
/-- a slice of records that came in -/
structure Pr where
  a : Option Addr
  n : Nat
  c : Nat
  rs : List R
def Pr.v (p : Pr) : Value := .slice p.a p.n p.c
def Pr.ok (w : World) (B : Nat) (p : Pr) : Prop := p.n = p.rs.length ∧ p.n ≤ p.c ∧ p.n * 88 ≤ 140737488355328 ∧ (∀ r ∈ p.rs, WfE r.e) ∧ Rg.Rs KR w B p.a p.rs
theorem Pr.ok.sr {w w' : World} {p : Pr} (h : p.ok w w.heap.size) (hb : Below w.heap.size w w') : Sr w' p.a p.n p.c p.rs :=
  ⟨h.1, h.2.1, h.2.2.1, fun r hr => (h.2.2.2.1 r hr).2.2.2, (h.2.2.2.2.below hb).more hb.size⟩
/-- the slice A holds these slices, below block B -/
def Prs (w : World) (B : Nat) (A : Option Addr) (ps : List Pr) : Prop := Rd w B A (ps.map Pr.v) ∧ ∀ p ∈ ps, p.ok w B
/-- what holds of a log's disk while nothing has failed -/
def Kept (d : D) (all : List R) : Prop := (∀ r ∈ all, Ok r) ∧ d.data = flatR all ∧ d.safe = (flatR all).length ∧ d.off = false ∧ Iv d
/-- and when it ends: a part of what was added is there, and of the first safeN records all -/
def Left (d : D) (all : List R) (k : Nat) : Prop := (∀ r ∈ all, Ok r) ∧ k ≤ all.length ∧ (∃ L, d.data = (flatR all).take L) ∧ d.safe = (flatR (all.take k)).length ∧ (flatR (all.take k)).length ≤ d.data.length
theorem kept_left {d : D} {all : List R} (h : Kept d all) : Left d all all.length := by
  obtain ⟨h1, h2, h3, _, _⟩ := h
  refine ⟨h1, Nat.le_refl _, ⟨(flatR all).length, by rw [List.take_length]; exact h2⟩, ?_, ?_⟩
  · rw [List.take_length]; exact h3
  · rw [List.take_length, h2]; exact Nat.le_refl _
theorem kept_add {d : D} {all l : List R} (h : Kept d all) (hw : ∀ r ∈ l, Flt.U64 r.e.val) (he : addE d l = 0) : Kept (addD d l) (all ++ l) := by
  obtain ⟨h1, h2, h3, h4, h5⟩ := h
  have hr : ∀ r ∈ l, rightR r = true := by
    intro r hr
    cases hrt : rightR r with
    | true => rfl
    | false =>
      obtain ⟨k, hk⟩ := List.mem_iff_getElem?.1 hr
      have := (add_bad (d := d) hk hrt).1
      rw [this] at he
      cases he
  have h6 := add_good (d := d) hr
  rw [h6.1] at he
  rw [h6.2, if_pos he]
  have hi := iv_sync _ (iv_app d (flatR l) h5)
  have ha : appD d (flatR l) = ⟨d.data ++ flatR l, d.safe, d.room, if 0 ≤ d.fuse then d.fuse - (flatR l).length else d.fuse, false⟩ := by
    unfold appE at he
    rw [h4, if_neg (by simp)] at he
    by_cases c1 : 0 < (flatR l).length ∧ d.room - (d.data.length : Int) < (flatR l).length
    · rw [if_pos c1] at he; cases he
    rw [if_neg c1] at he
    by_cases c2 : 0 ≤ d.fuse ∧ d.fuse < (flatR l).length
    · rw [if_pos c2] at he; cases he
    unfold appD
    rw [h4, if_neg (by simp), if_neg c1, if_neg c2]
  rw [ha] at hi ⊢
  refine ⟨fun r hr2 => ?_, ?_, ?_, rfl, hi⟩
  · rcases List.mem_append.1 hr2 with h | h
    · exact h1 r h
    · exact ⟨hr r h, hw r h⟩
  · show d.data ++ flatR l = _
    rw [flatR_append, h2]
  · show ((d.data ++ flatR l).length : Int) = _
    rw [flatR_append, h2]
theorem left_add {d : D} {all l : List R} (h : Kept d all) (hw : ∀ r ∈ l, Flt.U64 r.e.val) (he : addE d l ≠ 0) (he2 : addE d l ≠ 91) : Left (addD d l) (all ++ l) all.length := by
  obtain ⟨h1, h2, h3, h4, h5⟩ := h
  have hr : ∀ r ∈ l, rightR r = true := by
    intro r hr
    cases hrt : rightR r with
    | true => rfl
    | false =>
      obtain ⟨k, hk⟩ := List.mem_iff_getElem?.1 hr
      exact absurd (add_bad (d := d) hk hrt).1 he2
  have h6 := add_good (d := d) hr
  rw [h6.1] at he
  rw [h6.2, if_neg he]
  have hok : ∀ r ∈ all ++ l, Ok r := fun r hr2 => by
    rcases List.mem_append.1 hr2 with h | h
    · exact h1 r h
    · exact ⟨hr r h, hw r h⟩
  have ht : (all ++ l).take all.length = all := List.take_left
  have hlen : all.length ≤ (all ++ l).length := by rw [List.length_append]; omega
  unfold appE at he
  rw [h4, if_neg (by simp)] at he
  by_cases c1 : 0 < (flatR l).length ∧ d.room - (d.data.length : Int) < (flatR l).length
  · have : appD d (flatR l) = d := by unfold appD; rw [h4, if_neg (by simp), if_pos c1]
    rw [this]
    refine ⟨hok, hlen, ⟨(flatR all).length, ?_⟩, by rw [ht]; exact h3, by rw [ht, h2]; exact Nat.le_refl _⟩
    rw [flatR_append, List.take_left]; exact h2
  rw [if_neg c1] at he
  by_cases c2 : 0 ≤ d.fuse ∧ d.fuse < (flatR l).length
  · have : appD d (flatR l) = ⟨d.data ++ (flatR l).take d.fuse.toNat, d.safe, d.room, 0, true⟩ := by
      unfold appD
      rw [h4, if_neg (by simp), if_neg c1, if_pos c2]
    rw [this]
    refine ⟨hok, hlen, ⟨(flatR all).length + d.fuse.toNat, ?_⟩, by rw [ht]; exact h3, ?_⟩
    · show d.data ++ (flatR l).take d.fuse.toNat = _
      rw [flatR_append, h2, List.take_length_add_append]
    · rw [ht]
      show _ ≤ (d.data ++ (flatR l).take d.fuse.toNat).length
      rw [h2, List.length_append]
      omega
  · rw [if_neg c2] at he
    exact absurd rfl he
/-- what a crash leaves, and what is read then -/
theorem crash_left {d : D} {all : List R} {k : Nat} (h : Left d all k) (keep : Int) : ∃ M, Scans (crashD d keep).data ((all.take (wholeN all M)).map cnR) (flatR (all.take (wholeN all M))).length ∧ k ≤ wholeN all M ∧ wholeN all M ≤ all.length := by
  obtain ⟨h1, h2, ⟨L, h3⟩, h4, h5⟩ := h
  refine ⟨min (d.safe.toNat + keep.toNat) L, ?_, ?_, wholeN_le _ _⟩
  · have e : (crashD d keep).data = (flatR all).take (min (d.safe.toNat + keep.toNat) L) := by
      show d.data.take (d.safe.toNat + keep.toNat) = _
      rw [h3, List.take_take]
    rw [e]
    exact scans_take all h1 _
  · have hs : d.safe.toNat = (flatR (all.take k)).length := by omega
    have hl : (flatR (all.take k)).length ≤ min (d.safe.toNat + keep.toNat) L := by
      rw [h3, List.length_take] at h5
      omega
    have := wholeN_ge (all.take k) (all.drop k) _ hl
    rw [List.take_append_drop, List.length_take] at this
    omega
end Go.Proofs.Ytjcbdnbbdhjoiaa.Lgw

namespace Go.Proofs.Ytjcbdnbbdhjoiaa.logKeeps
set_option maxRecDepth 20000
open Go.RowKit
open Bk Lg Wire Lgw
open Dk
open Tgw (hat hbe)
open Rg (bal)
open Dkw (Dd RetK Gw)

theorem size88 (w : World) : (sizeOf 40).run Try.prog w = .ok 11 w := by
  have u3 := Try.sizeOf40
  simp [go_sem]
theorem run_headR (A : Option Addr) (n c k : Nat) (j : Int) (q : IntKind) (hj : j = (k : Int)) (hk : k ≤ c) (w : World) : (Instr.slice 22 (.slice A n c) none (some (.int q j)) none).run Try.prog w = .ok (.slice A k c) w := by
  subst hj
  have he : Try.prog.elem 22 = 40 := by simp [Program.elem, Try.underlying22]
  rw [run_slice_h (P := Try.prog) w 22 A n c (by rw [he]; exact Try.underlying22) q k (by omega) (by omega), he, size88]
  simp [Result.andThen, sliced]
  intro _
  cases A <;> simp [Addr.add]
theorem app_not (d : D) (b : List UInt8) : appE d b ≠ 91 := by
  unfold appE
  split
  · omega
  split
  · omega
  split <;> omega
theorem bad_same {d : D} {l : List R} (h : addE d l = 91) : addD d l = d := by
  cases ha : l.all rightR with
  | true =>
    have := (add_good (d := d) (List.all_eq_true.1 ha)).1
    rw [this] at h
    exact absurd h (app_not d _)
  | false =>
    unfold addD
    rw [ha]
    rfl
set_option maxRecDepth 100000 in
set_option maxHeartbeats 8000000 in
theorem walk (w : World) (A : Option Addr) (n c : Nat) (ps : List Pr) (hn : n = ps.length) (hl : n ≤ big) (hr : Prs w w.heap.size A ps) (fu : Int) (w0 : (Lit.int .i64 fu).wf = true) (ke : Int) (w1 : (Lit.int .i64 ke).wf = true) :
    Calls Try.prog 6 #[.slice A n c, .int .i64 fu, .int .i64 ke] w fun e w' => e = .returned (.bool true) ∧ Below w.heap.size w w' := by
  have H0 : Hid (Dkw.I64 fu) := Lib.hid (wf_i64 w0)
  have H1 : Hid (Dkw.I64 ke) := Lib.hid (wf_i64 w1)
  have HN := Lib.hid hn; have HR := Lib.hid hr
  unfold big at hl
  clear hn hr w0 w1
  go_enter Try.func6, Try.ntmps6
  go_wp2_with fail
  refine (log_alive_c _).mono ?_
  rintro e w2 ⟨rfl, hb⟩
  have HB := Lib.hid hb; clear hb
  by_cases h30 : 30 < n
  · go_wp2
    go_ret
    exact ⟨rfl, HB.out⟩
  have hn30 : n ≤ 30 := by omega
  go_wp2_with fail
  refine (Dkw.new_c 60000 (Dkw.i64_small _ (by omega)) _).mono ?_
  rintro e w3 ⟨p, F, rfl, hd, hF, hb⟩
  obtain ⟨a, rfl⟩ := hd.ptr
  have HD := Lib.hid hd; have HF : Hid (∀ k, F k → w.heap.size ≤ k) := Lib.hid (fun k hk => Nat.le_trans HB.out.size (hF k hk))
  have HB := Lib.hid (HB.out.trans (hb.mono HB.out.size))
  clear hd hF hb
  go_wp2_with fail
  refine (Dkw.fuse_c _ _ fu H0.out F _ HD.out).mono ?_
  rintro e w4 ⟨F4, rfl, hd, hg⟩
  have hg2 := hg.below HB.out.size HF.out
  have HKE : Hid (Kept (fuseD (newD 60000) fu) []) := Lib.hid ⟨by simp, rfl, rfl, rfl, hd.iv⟩
  have HD := Lib.hid hd; have HF := Lib.hid hg2.2; have HB := Lib.hid (HB.out.trans hg2.1)
  clear hd hg hg2
  generalize fuseD (newD 60000) fu = d4 at HD HKE
  go_wp2
  go_loopw [8, 9, 26] (fun x8 x9 x26 wr => ∃ (k : Nat) (A8 : Option Addr) (n8 c8 : Nat) (all : List R) (F : Nat → Prop) (d : D), x8 = .slice A8 n8 c8 ∧ x9 = .int .i64 (n8 : Int) ∧ x26 = .int .i64 (k : Int) ∧ k ≤ n ∧ n8 ≤ 20 * k ∧ Dd wr F (.pointer (some a)) d ∧ Kept d all ∧ Rg.OwnG KR wr w.heap.size A8 n8 c8 all ∧ (∀ k, F k → w.heap.size ≤ k) ∧ Below w.heap.size w wr) (fun _ _ x26 _ => n - (intOf x26).toNat)
  case atStart =>
    have hsz := HB.out.size
    exact ⟨0, _, 0, 0, [], F4, d4, rfl, rfl, rfl, by omega, by omega, HD.out.all (bal (Below.refl _ _) (Nat.le_refl _) _), HKE.out, Rg.own_newG KR w4 w.heap.size _ rfl hsz, HF.out, bal HB.out (Nat.le_refl _) _⟩
  case round =>
    obtain ⟨k, A8, n8, c8, all, F5, d, rfl, rfl, rfl, hk, h8, hd, hke, ho8, hF, hb⟩ := hrel
    clear HD HKE HF HB
    have HD := Lib.hid hd; have HKE := Lib.hid hke; have HO8 := Lib.hid ho8; have HF := Lib.hid hF; have HB := Lib.hid hb
    clear hd hke ho8 hF hb
    by_cases h : k < n
    · obtain ⟨b, o, rfl, hbB, hcell⟩ := HR.out.1 (by rw [List.length_map, ← HN.out]; omega)
      have hkl : k < ps.length := by rw [← HN.out]; exact h
      have hz : ps[k]? = some ps[k] := List.getElem?_eq_getElem hkl
      have hcu := hcell k ps[k].v (by rw [List.getElem?_map, hz]; rfl)
      have HPO := Lib.hid (HR.out.2 ps[k] (List.getElem_mem hkl))
      generalize ps[k] = q at hcu HPO
      obtain ⟨pa, pn, pc, prs⟩ := q
      have hcu' : wr.cell? ⟨b, o + k, none⟩ = some (.slice pa pn pc) := (HB.out.cell (by show b < _; exact hbB)).trans hcu
      clear hz hcell hcu hkl
      by_cases h20 : 20 < pn
      · go_wp2
        go_ret
        exact ⟨rfl, HB.out⟩
      have hpn : pn ≤ 20 := by omega
      have HSR : Hid (Sr wr pa pn pc prs) := Lib.hid (Pr.ok.sr (p := ⟨pa, pn, pc, prs⟩) HPO.out HB.out)
      have HWF : Hid (∀ r ∈ prs, WfE r.e) := Lib.hid HPO.out.2.2.2.1
      go_wp2_with fail
      clear hcu'
      refine (add_c _ d pa pn pc prs HWF.out F5 _ HD.out HSR.out).mono ?_
      rintro e w6 ⟨F6, rfl, hd, hg⟩
      have HO8 := Lib.hid (rec_keep HD.out HO8.out hg)
      have hg2 := hg.below HB.out.size HF.out
      have HD := Lib.hid hd; have HF := Lib.hid hg2.2; have HB := Lib.hid (HB.out.trans hg2.1)
      clear hd hg hg2 HSR
      have HRS : Hid (Rg.Rs KR w6 w.heap.size pa prs) := Lib.hid (Rg.Rs.below HPO.out.2.2.2.2 HB.out)
      have hpl : Hid (pn = prs.length) := Lib.hid HPO.out.1
      have HU : Hid (∀ r ∈ prs, Flt.U64 r.e.val) := Lib.hid (fun r hr => (HWF.out r hr).2.2.2)
      have HC91 : Hid (addE d prs = 91 → addD d prs = d) := Lib.hid bad_same
      have HC0 : Hid (addE d prs = 0 → Kept (addD d prs) (all ++ prs)) := Lib.hid (kept_add HKE.out HU.out)
      have HCX : Hid (addE d prs ≠ 0 → addE d prs ≠ 91 → Lgw.Left (addD d prs) (all ++ prs) all.length) := Lib.hid (left_add HKE.out HU.out)
      have HAL : Hid (n8 = all.length) := Lib.hid HO8.out.1
      generalize addE d prs = x at HC91 HC0 HCX ⊢
      generalize addD d prs = d6 at HC91 HC0 HCX HD
      by_cases hx91 : x = 91
      · have HDD : Hid (Dd w6 F6 (.pointer (some a)) d) := Lib.hid (by rw [← HC91.out hx91]; exact HD.out)
        subst hx91
        go_wp2
        exact ⟨⟨k + 1, A8, n8, c8, all, F6, d, rfl, rfl, by go_num, by omega, by omega, HDD.out, HKE.out, HO8.out, HF.out, HB.out⟩, by simp [intOf]; omega⟩
      have hb91 : (x == 91) = false := by rw [beq_eq_false_iff_ne]; exact hx91
      by_cases hx0 : x = 0
      · have HKE := Lib.hid (HC0.out hx0)
        subst hx0
        clear hx91 hb91 HC91 HC0 HCX
        go_wp2_with (at_builtin; refine wp_appRg rfl (.tmp 40) (.tmp 41) rfl w.heap.size A8 n8 c8 all rfl HO8.out w.heap.size pa pn pc prs rfl hpl.out HRS.out (by omega) HB.out.size ?_; intro A9 c9 w7 ho9 hb9 hg9)
        exact ⟨⟨k + 1, A9, n8 + pn, c9, all ++ prs, F6, d6, rfl, by go_num, by go_num, by omega, by omega, disk_keep HD.out HO8.out hg9, HKE.out, ho9, HF.out, HB.out.trans hb9⟩, by simp [intOf]; omega⟩
      · have HL := Lib.hid (HCX.out hx0 hx91)
        rw [← HAL.out] at HL
        have hb0 : (x == 0) = false := by rw [beq_eq_false_iff_ne]; exact hx0
        clear hx91 hx0 HC91 HC0 HCX HKE
        go_upto_region 20 with (at_builtin; refine wp_appRg rfl (.tmp 45) (.tmp 46) rfl w.heap.size A8 n8 c8 all rfl HO8.out w.heap.size pa pn pc prs rfl hpl.out HRS.out (by omega) HB.out.size ?_; intro A9 c9 w7 ho9 hb9 hg9)
        have HD := Lib.hid (disk_keep HD.out HO8.out hg9)
        have HO8 := Lib.hid ho9
        have HB := Lib.hid (HB.out.trans hb9)
        clear ho9 hb9 hg9
        obtain ⟨nn, hnn⟩ : ∃ nn, nn = n8 + pn := ⟨_, rfl⟩
        rw [← hnn] at HO8 ⊢
        have hnn2 : nn ≤ 1000 := by omega
        clear hnn
        go_wp2_with fail
        refine (Dkw.crash_c _ _ ke H1.out F6 _ HD.out).mono ?_
        rintro e w20 ⟨F20, rfl, hd, hg⟩
        have HO8 := Lib.hid (rec_keep HD.out HO8.out hg)
        have hg2 := hg.below HB.out.size HF.out
        have HD := Lib.hid hd; have HB := Lib.hid (HB.out.trans hg2.1)
        clear hd hg hg2
        obtain ⟨M, hM⟩ := crash_left HL.out ke
        have HM := Lib.hid hM
        clear hM
        generalize crashD d6 ke = dc at HD HM
        go_wp2_with fail
        refine (read_c _ _ F20 _ HD.out).mono ?_
        rintro e w21 ⟨A21, n21, c21, rs21, m21, rfl, hsc, hsr, hb⟩
        obtain ⟨rfl, _⟩ := scans_one hsc HM.out.1
        have HS21 := Lib.hid hsr
        have HO8 := Lib.hid (HO8.out.below hb (Nat.le_refl _))
        have HB := Lib.hid (HB.out.trans (hb.mono HB.out.size))
        clear hsc hb
        have hWl := HM.out.2.2
        have hWk := HM.out.2.1
        have hn21 : n21 = wholeN (all ++ prs) M := by have := hsr.1; rw [List.length_map, List.length_take] at this; omega
        have HLL := Lib.hid HL.out.1
        have HA8 : Hid (nn = ((all ++ prs)).length) := Lib.hid HO8.out.1
        have hc8 := HO8.out.cap
        clear hsr HM HL
        rw [← hn21] at HS21 hWl hWk
        clear hn21
        rw [← HA8.out] at hWl
        have hcmp1 : ((n8 : Nat) : Int) ≤ (n21 : Int) := by omega
        have hcmp2 : (n21 : Int) ≤ ((nn : Nat) : Int) := by omega
        have hsl := run_headR A9 nn c9 n21 n21 .i64 rfl (by omega)
        have HS9 : Hid (Sr w21 A9 n21 c9 (((all ++ prs)).take n21)) := Lib.hid ⟨by rw [List.length_take, ← HA8.out]; omega, by omega, by omega, fun r hr => (HLL.out r (List.mem_of_mem_take hr)).2, HO8.out.rs.take n21⟩
        go_wp2_with fail
        refine (same_c A21 n21 c21 _ A9 n21 c9 (((all ++ prs)).take n21) w21 HS21.out HS9.out).mono ?_
        rw [sameR_cn]
        rintro e w22 ⟨rfl, hb⟩
        have HB := Lib.hid (HB.out.trans (hb.mono HB.out.size)); clear hb
        go_wp2
        go_ret
        exact ⟨rfl, HB.out⟩
    · obtain rfl : k = n := by omega
      have HL := Lib.hid (kept_left HKE.out)
      have HAL : Hid (n8 = all.length) := Lib.hid HO8.out.1
      rw [← HAL.out] at HL
      have hn8 : n8 ≤ 1000 := by omega
      go_wp2_with fail
      refine (Dkw.crash_c _ _ ke H1.out F5 _ HD.out).mono ?_
      rintro e w20 ⟨F20, rfl, hd, hg⟩
      have HO8 := Lib.hid (rec_keep HD.out HO8.out hg)
      have hg2 := hg.below HB.out.size HF.out
      have HD := Lib.hid hd; have HB := Lib.hid (HB.out.trans hg2.1)
      clear hd hg hg2
      obtain ⟨M, hM⟩ := crash_left HL.out ke
      have HM := Lib.hid hM
      clear hM
      generalize crashD d ke = dc at HD HM
      go_wp2_with fail
      refine (read_c _ _ F20 _ HD.out).mono ?_
      rintro e w21 ⟨A21, n21, c21, rs21, m21, rfl, hsc, hsr, hb⟩
      obtain ⟨rfl, _⟩ := scans_one hsc HM.out.1
      have HS21 := Lib.hid hsr
      have HO8 := Lib.hid (HO8.out.below hb (Nat.le_refl _))
      have HB := Lib.hid (HB.out.trans (hb.mono HB.out.size))
      clear hsc hb
      have hWl := HM.out.2.2
      have hWk := HM.out.2.1
      have hn21 : n21 = wholeN all M := by have := hsr.1; rw [List.length_map, List.length_take] at this; omega
      have HLL := Lib.hid HL.out.1
      have HA8 : Hid (n8 = (all).length) := Lib.hid HO8.out.1
      have hc8 := HO8.out.cap
      clear hsr HM HL
      rw [← hn21] at HS21 hWl hWk
      clear hn21
      rw [← HA8.out] at hWl
      have hcmp1 : ((n8 : Nat) : Int) ≤ (n21 : Int) := by omega
      have hcmp2 : (n21 : Int) ≤ ((n8 : Nat) : Int) := by omega
      have hsl := run_headR A8 n8 c8 n21 n21 .i64 rfl (by omega)
      have HS9 : Hid (Sr w21 A8 n21 c8 ((all).take n21)) := Lib.hid ⟨by rw [List.length_take, ← HA8.out]; omega, by omega, by omega, fun r hr => (HLL.out r (List.mem_of_mem_take hr)).2, HO8.out.rs.take n21⟩
      go_wp2_with fail
      refine (same_c A21 n21 c21 _ A8 n21 c8 ((all).take n21) w21 HS21.out HS9.out).mono ?_
      rw [sameR_cn]
      rintro e w22 ⟨rfl, hb⟩
      have HB := Lib.hid (HB.out.trans (hb.mono HB.out.size)); clear hb
      go_wp2
      go_ret
      exact ⟨rfl, HB.out⟩
end Go.Proofs.Ytjcbdnbbdhjoiaa.logKeeps

namespace Go.Proofs.Ytjcbdnbbdhjoiaa
set_option maxRecDepth 20000
open Go.ChangeShapes Go.WideShapes Go.ChangeAt Go.RowKit
open Tg Bk Bkw Lg Lgw Dk Dkw

theorem recs_of {H : Type} {enc : TypeId × Value → H} {W : World} {fuel : Nat} {t : TypeId} {cs : List Value} {x : DataW H × List MemPlace} (ht : Try.prog.underlying t = some (.slice 40))
    (h : DataW.trod enc Try.prog W 0 (fun _ => true) true fuel t cs = some x) :
    ∃ p : Pr, cs = [p.v] ∧ p.n = p.rs.length ∧ p.n ≤ p.c ∧ (p.c = 0 ∨ p.c * 88 ∈ x.1.weights Try.prog t) ∧ (∀ r ∈ p.rs, WfE r.e) ∧ ((∀ y ∈ x.2, y.block < W.heap.size) → Rg.Rs KR W W.heap.size p.a p.rs) := by
  have ce : Try.prog.cellsOf 40 = 11 := by kernel_rfl
  have be : Try.prog.bytesOf 40 = 88 := by kernel_rfl
  rcases Deep.open_slice ht h with ⟨hcs, hx⟩ | ⟨a, len, cap', m, fl, D, Pl, hcs, _, hl, hm, hmm, hx, hrow⟩
  · subst hcs
    exact ⟨⟨none, 0, 0, []⟩, rfl, rfl, Nat.le_refl _, Or.inl rfl, by simp, fun _ => Rg.Rs.nil⟩
  · subst hcs
    obtain ⟨x1, x2⟩ := x
    simp only [Prod.mk.injEq] at hx
    obtain ⟨rfl, rfl⟩ := hx
    simp only [if_true] at hmm
    subst hmm
    have each : ∀ i, i < m → ∃ r : R, WfE r.e ∧ ∀ j u, j < 11 → (cellsR r)[j]? = some u → W.cell? (a.add (i * 11 + j)) = some u := by
      intro i hi
      obtain ⟨cs, h1, h2⟩ := hrow i hi
      rw [ce] at h1
      obtain ⟨_, hlen, hcell⟩ := World.cells?_some h1
      obtain ⟨r, hw, rfl⟩ := trod_rec hlen h2
      refine ⟨r, hw, fun j u hj hu => ?_⟩
      have := hcell j hj
      rw [Deep.add_add] at this
      rw [this]
      exact hu
    let f : Nat → R := fun r => if h : r < m then (each r h).choose else zeroR
    have hat : ∀ j, j < m → WfE (f j).e ∧ ∀ i u, i < 11 → (cellsR (f j))[i]? = some u → W.cell? (a.add (j * 11 + i)) = some u := by
      intro j hj
      have := (each j hj).choose_spec
      simp only [f, dif_pos hj]
      exact this
    refine ⟨⟨some a, len, m, (List.range len).map f⟩, rfl, by simp, hl, Or.inr ?_, ?_, fun hlt => ?_⟩
    · simp only [DataW.weights, ht, be, List.mem_cons]
      left
      simp
      omega
    · intro x hx
      obtain ⟨j, hj, rfl⟩ := List.mem_map.1 hx
      exact (hat j (by have := List.mem_range.1 hj; omega)).1
    · intro hpos
      simp only [List.length_map, List.length_range] at hpos
      obtain ⟨b, off, spot⟩ := a
      have hspot : spot = none := by simpa [Addr.add] using World.cell?_spot ((hat 0 (by omega)).2 0 _ (by omega) rfl)
      subst hspot
      refine ⟨b, off, rfl, hlt (.cell b off) (List.mem_append_left _ (MemPlace.mem_row.2 ⟨0, by rw [ce]; omega, by simp⟩)), fun j u hu => ?_⟩
      rw [List.getElem?_map] at hu
      rcases Nat.lt_or_ge j len with hj | hj
      · rw [List.getElem?_range hj] at hu
        simp only [Option.map_some, Option.some.injEq] at hu
        subst hu
        intro i v hv
        have hi : i < 11 := Rg.lt_cells KR hv
        have := (hat j (by omega)).2 i v hi hv
        rw [add_plain] at this
        show W.cell? ⟨b, off + j * 11 + i, none⟩ = some v
        rw [Nat.add_assoc]
        exact this
      · rw [List.getElem?_eq_none (by simpa using hj)] at hu
        cases hu
/-- a slice of slices of records -/
theorem open_prs {H : Type} {enc : TypeId × Value → H} {W : World} {b0 : Nat} {t e : TypeId} {v : Value} {d : DataW H} {p : List MemPlace} (ht : Try.prog.underlying t = some (.slice e)) (he : Try.prog.underlying e = some (.slice 40))
    (ce : Try.prog.cellsOf e = 1)
    (hval : Value.okWide Try.prog W .any b0 t v) (h : DataW.Trod enc Try.prog W 0 (fun _ => true) true t v d p) (hlt : ∀ x ∈ p, x.block < W.heap.size)
    (hw : ∀ n ∈ d.weights Try.prog t, n ≤ reachBytes) :
    ∃ A n c, ∃ ps : List Pr, v = .slice A n c ∧ n = ps.length ∧ n ≤ c ∧ Prs W W.heap.size A ps ∧ Places d c := by
  obtain ⟨a0, len, cap, rfl⟩ := okWide_slice ht hval
  obtain ⟨fuel, hf⟩ := h
  rcases Deep.open_slice ht hf with ⟨hcs, hx⟩ | ⟨a, len', cap', m, fl, D, Pl, hcs, _, hl, hm, hmm, hx, hrow⟩
  · simp [Value.cells] at hcs
    obtain ⟨rfl, rfl, rfl⟩ := hcs
    simp only [Prod.mk.injEq] at hx
    obtain ⟨rfl, rfl⟩ := hx
    exact ⟨none, 0, 0, [], rfl, rfl, Nat.le_refl _, ⟨Rd.nil, by simp⟩, Or.inl ⟨rfl, rfl⟩⟩
  · simp [Value.cells] at hcs
    obtain ⟨rfl, rfl, rfl⟩ := hcs
    simp only [Prod.mk.injEq] at hx
    obtain ⟨rfl, rfl⟩ := hx
    simp only [if_true] at hmm
    subst hmm
    have each : ∀ i, i < len → ∃ x : Pr, x.ok W W.heap.size ∧ W.cell? (a.add i) = some x.v := by
      intro i hi
      obtain ⟨cs, h1, h2⟩ := hrow i (by omega)
      rw [ce, Nat.mul_one] at h1
      obtain ⟨_, hlen, hcell⟩ := World.cells?_some h1
      obtain ⟨x, rfl, hn, hc, hbig, hwf, hrd⟩ := recs_of he h2
      have h0 := hcell 0 (by omega)
      rw [Deep.add_add, Nat.add_zero] at h0
      refine ⟨x, ⟨hn, hc, ?_, hwf, hrd (fun y hy => hlt y (List.mem_append_right _ (List.mem_flatMap.2 ⟨i, by simp; omega, hy⟩)))⟩, ?_⟩
      · rcases hbig with h | h
        · omega
        · have := hw (x.c * 88) (by
            simp only [DataW.weights, ht, List.mem_cons, List.mem_append]
            exact Or.inr (Or.inl (weights_all (List.mem_map.2 ⟨i, by simpa using hi, rfl⟩) _ h)))
          unfold reachBytes at this
          omega
      · rw [h0]; rfl
    let f : Nat → Pr := fun r => if h : r < len then (each r h).choose else ⟨none, 0, 0, []⟩
    have hat : ∀ j, j < len → (f j).ok W W.heap.size ∧ W.cell? (a.add j) = some (f j).v := by
      intro j hj
      have := (each j hj).choose_spec
      simp only [f, dif_pos hj]
      exact this
    refine ⟨some a, len, _, (List.range len).map f, rfl, by simp, hl, ⟨?_, ?_⟩, Or.inr ⟨_, _, rfl, by simp; omega⟩⟩
    · intro hpos
      simp only [List.length_map, List.length_range] at hpos
      obtain ⟨b, off, spot⟩ := a
      have hspot : spot = none := by simpa [Addr.add] using World.cell?_spot (hat 0 (by omega)).2
      subst hspot
      refine ⟨b, off, rfl, hlt (.cell b off) (List.mem_append_left _ (MemPlace.mem_row.2 ⟨0, by rw [ce]; omega, by simp⟩)), fun j u hu => ?_⟩
      rw [List.map_map, List.getElem?_map] at hu
      rcases Nat.lt_or_ge j len with hj | hj
      · rw [List.getElem?_range hj] at hu
        simp only [Option.map_some, Option.some.injEq, Function.comp] at hu
        subst hu
        have := (hat j hj).2
        rw [add_plain] at this
        exact this
      · rw [List.getElem?_eq_none (by simpa using hj)] at hu
        cases hu
    · intro x hx
      obtain ⟨j, hj, rfl⟩ := List.mem_map.1 hx
      exact (hat j (List.mem_range.1 hj)).1
end Go.Proofs.Ytjcbdnbbdhjoiaa

namespace Go.Proofs.Ytjcbdnbbdhjoiaa
open Go.ChangeShapes Go.WideShapes Go.ChangeAt Go.RowKit

theorem logKeeps_own : ownKnob Try.prog.godebug = none := by kernel_rfl
theorem logKeeps_laid : laidOutB Try.prog = true := by kernel_rfl
theorem logKeeps_cells22 : Try.prog.cellsOf 22 = 1 := by kernel_rfl

set_option maxRecDepth 100000 in
theorem logKeeps_lifted (os : Os) (started : os.Started) (H : Type) (enc : TypeId × Value → H) :
    ReturnsInHanded {} Try.checked os 6 .any (Rows.logKeepsSpec.pre6 enc Try.prog Try.f6 Rows.logKeepsRow.domain false) (Rows.logKeepsSpec.post enc Try.prog Try.f6 false true false false) := by
  refine returnsInHanded_of_change_sized (C := Try.checked) logKeeps_own started (by kernel_rfl) Try.func6
    (ChangeSpec.witness6 (enc := enc) (C := Try.checked) false ⟨#[], #[.slice none 0 0, .int .i64 0, .int .i64 0], []⟩ 8 (by kernel_rfl) (by kernel_rfl) (by kernel_rfl) (by kernel_rfl)) ?_
  intro W base args ds gs before hval0 hW _ hsz0 _
  have hsz : (DataW.weightsEach Try.prog (Try.f6.params.toList ++ Rows.logKeepsSpec.plain.varTypes Try.prog) (ds ++ gs)).all (· ≤ reachBytes) = true := hsz0
  have hval : ∀ (j : Nat) t v, Try.f6.params[j]? = some t → args[j]? = some v → Value.okWide Try.prog W .any base t v := hval0
  have hW' := hW
  obtain ⟨p, q, hA0, hV, rfl, hfz, hnd⟩ := hW
  have hA : DataW.TrodAll enc Try.prog W 0 (fun _ => true) true Try.f6.params.toList args.toList ds p := hA0
  rw [Try.params6] at hA hval hsz
  obtain ⟨v0, vs0, d0, ds0, p0, q0, hargs, rfl, rfl, h0, r0⟩ := trodAll_cons hA
  obtain ⟨v1, vs1, d1, ds1, p1, q1, rfl, rfl, rfl, h1, r1⟩ := trodAll_cons r0
  obtain ⟨v2, vs2, d2, ds2, p2, q2, rfl, rfl, rfl, h2, r2⟩ := trodAll_cons r1
  obtain ⟨rfl, rfl, rfl⟩ := trodAll_nil r2
  obtain rfl : args = #[v0, v1, v2] := by cases args; simp_all
  obtain ⟨rfl, rfl⟩ := trodVars_none hV
  clear hA0 hval0
  simp only [List.append_nil] at hW'
  have hk0 := h0
  have hlt0 : ∀ x ∈ p0, x.block < W.heap.size := (fun x hx => by have := hW'.lt x (by simp [hx]); simpa using this)
  obtain ⟨A0, n0, c0, l0, rfl, hn0, hc0, hr0, hd0⟩ := open_prs Try.underlying65 Try.underlying22 logKeeps_cells22 (hval 0 65 v0 rfl rfl) h0 hlt0 (sized_of hsz (j := 0) rfl rfl)
  have hb0 := sized_places hsz (j := 0) rfl rfl Try.underlying65 hd0
  rw [show Try.prog.bytesOf 22 = 24 from by kernel_rfl] at hb0
  obtain ⟨a1, rfl, rfl, rfl, w1⟩ := open_int Try.underlying3 (hval 1 3 v1 rfl rfl) h1
  obtain ⟨a2, rfl, rfl, rfl, w2⟩ := open_int Try.underlying3 (hval 2 3 v2 rfl rfl) h2
  refine (logKeeps.walk W A0 n0 c0 l0 hn0 (by unfold big; omega) hr0 a1 w1 a2 w2).mono fun e W' ⟨he, hb⟩ => ?_
  subst he
  exact ⟨_, rfl, _, _, _, [], _, [], hW', trodAll_cons_mk (shut_bool Try.underlying4 _) trodAll_mk0, (trodAll_cons_mk (Below.trod logKeeps_laid (by kernel_rfl) (of_decide_eq_true (by kernel_rfl)) hk0 hb hlt0) (trodAll_cons_mk (shut_int Try.underlying3 w1) (trodAll_cons_mk (shut_int Try.underlying3 w2) trodAll_mk0))), rfl, hb.frame _, fun h => by cases h⟩

theorem logKeeps_proved : Rows.LogKeepsSaid :=
  OpenClaim.holds_of_wide 6 Try.f6 rfl rfl rfl rfl rfl rfl rfl ⟨rfl, rfl, rfl, rfl, rfl⟩ rfl rfl rfl rfl rfl (by kernel_rfl) Try.func6 (by kernel_rfl)
    (of_decide_eq_true (by kernel_rfl)) (by unfold Func.isWrapper; first | (rw [if_pos (by decide +kernel)]; kernel_rfl) | (rw [if_neg (by decide +kernel)]; exact ⟨rfl, rfl⟩))
    (fun os started H enc _ => logKeeps_lifted os started H enc)
#print axioms logKeeps_proved
end Go.Proofs.Ytjcbdnbbdhjoiaa
