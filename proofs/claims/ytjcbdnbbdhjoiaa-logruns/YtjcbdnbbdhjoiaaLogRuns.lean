/- LogRuns: whatever is done with a log, each answer, its disk and what is read from it are as the document says. Conditions: none. -/
import Derived.Test.YtjcbdnbbdhjoiaaRows
import Derived.Test.YtjcbdnbbdhjoiaaG06
import Derived.Test.YtjcbdnbbdhjoiaaG15
import Derived.Test.YtjcbdnbbdhjoiaaG16
import Derived.Test.YtjcbdnbbdhjoiaaG17
import Derived.WalkKit
import Derived.ProofKit
import Derived.OpenShut
import Derived.Laws.Cover2
import Derived.SizedLaws
import Derived.JoinedCond
import Derived.Carry
set_option linter.unusedSimpArgs false
set_option linter.unusedVariables false
namespace Go.Proofs.Ytjcbdnbbdhjoiaa.Lgw
set_option maxRecDepth 20000
open Go.RowKit
open Bk Lg Wire
open Dk
open Crc (seal_ openF turn turns turns_len turns_found)
open Tgw (hat hbe)
open Rg (bal)

theorem modify_append (f : UInt8 → UInt8) : ∀ (pre q : List UInt8) (i : Nat), (pre ++ q).modify (pre.length + i) f = pre ++ q.modify i f
  | [], q, i => by simp
  | x :: pre, q, i => by
    rw [List.cons_append, List.length_cons, show pre.length + 1 + i = (pre.length + i) + 1 by omega, List.modify_succ_cons, modify_append f pre q i]
    rfl
theorem turn_append (pre q : List UInt8) (j : Nat) : turn (pre ++ q) (8 * pre.length + j) = pre ++ turn q j := by
  unfold turn
  rw [show (8 * pre.length + j) / 8 = pre.length + j / 8 by omega, show (8 * pre.length + j) % 8 = j % 8 by omega]
  exact modify_append _ pre q (j / 8)
theorem turns_append (pre q : List UInt8) (j m : Nat) : ∀ k, turns (pre ++ q) (8 * pre.length + j) m k = pre ++ turns q j m k
  | 0 => rfl
  | k + 1 => by
    unfold turns
    rw [turns_append pre q j m k, show 8 * pre.length + j + k = 8 * pre.length + (j + k) by omega, turn_append]
    split <;> rfl
theorem burst_append (pre q : List UInt8) (j m : Nat) : burstF (pre ++ q) ((8 * pre.length + j : Nat) : Int) m = pre ++ burstF q (j : Int) m := by
  unfold burstF
  rw [List.length_append]
  by_cases h : (j : Int) < 0 ∨ 8 * (q.length : Int) - (Go.bitLen m : Int) < j
  · rw [if_pos h, if_pos (by omega)]
  · rw [if_neg h, if_neg (by omega)]
    exact turns_append pre q j m _
theorem burst_same_len (bs : List UInt8) (a : Int) (m : Nat) : (burstF bs a m).length = bs.length := by
  unfold burstF
  split
  · rfl
  · exact turns_len _ _ _ _
theorem burst_none (b : List UInt8) (a : Int) (m : Nat) (hm : m < 2 ^ 32) (h : burstF (seal_ b) a m ≠ seal_ b) : openF (burstF (seal_ b) a m) = none := by
  by_cases hc : a < 0 ∨ 8 * ((seal_ b).length : Int) - (Go.bitLen m : Int) < a
  · exact absurd (if_pos hc) h
  · have e : burstF (seal_ b) a m = turns (seal_ b) a.toNat m (Go.bitLen m) := if_neg hc
    rw [e] at h ⊢
    exact turns_found b _ m _ (bitLen_le m 32 hm) h
/-- where the records that are ahead end -/
def endN (gs : List R) (k : Nat) : Nat := (flatR (gs.take k)).length
theorem endN_zero (gs : List R) : endN gs 0 = 0 := rfl
theorem flat_split (gs : List R) (k : Nat) : flatR gs = flatR (gs.take k) ++ flatR (gs.drop k) := by rw [← flatR_append, List.take_append_drop]
theorem flat_take (gs : List R) (k : Nat) : (flatR gs).take (endN gs k) = flatR (gs.take k) := by
  unfold endN
  conv => lhs; rw [flat_split gs k]
  rw [List.take_left]
theorem flat_drop (gs : List R) (k : Nat) : (flatR gs).drop (endN gs k) = flatR (gs.drop k) := by
  unfold endN
  conv => lhs; rw [flat_split gs k]
  rw [List.drop_left]
theorem endN_le (gs : List R) (k : Nat) : endN gs k ≤ (flatR gs).length := by
  rw [flat_split gs k, List.length_append]
  unfold endN
  omega
theorem endN_all (gs : List R) : endN gs gs.length = (flatR gs).length := by unfold endN; rw [List.take_length]
theorem endN_step (gs : List R) (k : Nat) (r : R) (h : gs[k]? = some r) : endN gs (k + 1) = endN gs k + (bytesR r).length := by
  unfold endN
  rw [take_snoc h, flatR_snoc, List.length_append]
/-- the places where they end, one by one -/
def ends (gs : List R) : List Int := (List.range gs.length).map fun i => ((endN gs (i + 1) : Nat) : Int)
theorem ends_nil : ends [] = [] := rfl
theorem ends_get (gs : List R) (i : Nat) (h : i < gs.length) : (ends gs)[i]? = some ((endN gs (i + 1) : Nat) : Int) := by
  unfold ends
  rw [List.getElem?_map, List.getElem?_range h]
  rfl
theorem ends_len (gs : List R) : (ends gs).length = gs.length := by simp [ends]
theorem ends_snoc (gs : List R) (r : R) : ends (gs ++ [r]) = ends gs ++ [((flatR (gs ++ [r])).length : Int)] := by
  refine List.ext_getElem? fun i => ?_
  rcases Nat.lt_or_ge i gs.length with h | h
  · rw [ends_get _ i (by rw [List.length_append]; omega), List.getElem?_append_left (by rw [ends_len]; exact h), ends_get gs i h]
    unfold endN
    rw [List.take_append_of_le_length (by omega)]
  · rcases Nat.eq_or_lt_of_le h with h2 | h2
    · subst h2
      rw [ends_get _ _ (by rw [List.length_append]; simp), List.getElem?_append_right (by rw [ends_len]; exact Nat.le_refl _), ends_len, Nat.sub_self]
      have : endN (gs ++ [r]) (gs.length + 1) = (flatR (gs ++ [r])).length := by
        have := endN_all (gs ++ [r])
        rwa [List.length_append] at this
      rw [this]
      rfl
    · rw [List.getElem?_eq_none (by rw [ends_len, List.length_append]; simp; omega), List.getElem?_eq_none (by rw [List.length_append, ends_len]; simp; omega)]
/-- bits turned in one record, behind the two bytes that say how long it is -/
theorem burst_rec (gs : List R) (hok : ∀ r ∈ gs, Ok r) (k : Nat) (hk : k < gs.length) (j m : Nat) (hm : m < 2 ^ 32) :
    (burstF (flatR (gs.take (k + 1))) ((8 * (endN gs k + 2) + j : Nat) : Int) m = flatR (gs.take (k + 1)) → Scans (burstF (flatR (gs.take (k + 1))) ((8 * (endN gs k + 2) + j : Nat) : Int) m ++ flatR (gs.drop (k + 1))) (gs.map cnR) (flatR gs).length) ∧
    (burstF (flatR (gs.take (k + 1))) ((8 * (endN gs k + 2) + j : Nat) : Int) m ≠ flatR (gs.take (k + 1)) → Scans (burstF (flatR (gs.take (k + 1))) ((8 * (endN gs k + 2) + j : Nat) : Int) m ++ flatR (gs.drop (k + 1))) ((gs.take k).map cnR) (endN gs k)) := by
  have hz : gs[k]? = some gs[k] := List.getElem?_eq_getElem hk
  have hr := hok gs[k] (List.getElem_mem hk)
  generalize gs[k] = r at hz hr
  have hl2 := bytes_len r hr
  have hsm := seal_small r hr
  have e1 : flatR (gs.take (k + 1)) = (flatR (gs.take k) ++ form (seal_ (bodyR r)).length) ++ seal_ (bodyR r) := by
    rw [take_snoc hz, flatR_snoc]
    show _ ++ ([] ++ form (seal_ (bodyR r)).length ++ seal_ (bodyR r)) = _
    rw [List.nil_append, List.append_assoc]
  have hf2 : (form (seal_ (bodyR r)).length).length = 2 := by
    have h3 : (bytesR r).length = ([] ++ form (seal_ (bodyR r)).length ++ seal_ (bodyR r)).length := rfl
    rw [List.nil_append, List.length_append] at h3
    omega
  have hp : (flatR (gs.take k) ++ form (seal_ (bodyR r)).length).length = endN gs k + 2 := by rw [List.length_append, hf2]; rfl
  have e2 : burstF (flatR (gs.take (k + 1))) ((8 * (endN gs k + 2) + j : Nat) : Int) m = (flatR (gs.take k) ++ form (seal_ (bodyR r)).length) ++ burstF (seal_ (bodyR r)) (j : Int) m := by
    rw [e1, ← hp, burst_append]
  constructor
  · intro h
    rw [h, ← flatR_append, List.take_append_drop]
    have := scans_of gs hok [] (fun r n => first_nil r n)
    rwa [List.append_nil] at this
  · intro h
    rw [e2, e1] at h
    have hne : burstF (seal_ (bodyR r)) (j : Int) m ≠ seal_ (bodyR r) := fun e => h (by rw [e])
    have hno := burst_none (bodyR r) (j : Int) m hm hne
    have hsl := burst_same_len (seal_ (bodyR r)) (j : Int) m
    rw [e2]
    generalize burstF (seal_ (bodyR r)) (j : Int) m = y at hno hsl
    have e3 : flatR (gs.take k) ++ form (seal_ (bodyR r)).length ++ y ++ flatR (gs.drop (k + 1)) = flatR (gs.take k) ++ (textF [] y ++ flatR (gs.drop (k + 1))) := by
      unfold textF
      rw [List.nil_append, hsl, List.append_assoc, List.append_assoc, List.append_assoc]
    rw [e3]
    have hcut : cutF (textF [] y ++ flatR (gs.drop (k + 1))) = some (y, flatR (gs.drop (k + 1))) := cutF_text (by omega)
    exact scans_of (gs.take k) (fun x hx => hok x (List.mem_of_mem_take hx)) _ (fun r' n' => no_open hcut hno r' n')
/-- append onto a row of bytes of one's own: the elder slice, too, holds what it held -/
theorem wp_app8k {w : World} {ops : Array Oper} {rest : List Oper} {o : Oper} {a : Act} {Q : Exit → Act → World → Prop} (hgd : o.guard = none) (s x : Operand)
    (ho : o.op = .call { callee := .builtin .append, args := #[s, x], argTypes := #[41, 41] })
    (base : Nat) (A0 : Option Addr) (n0 c0 : Nat) (bs0 : List UInt8) (hs : a.eval s = .slice A0 n0 c0) (hown : Own w base A0 n0 c0 bs0)
    (B : Nat) (A : Option Addr) (m c : Nat) (news : List UInt8) (hx : a.eval x = .slice A m c) (hm : m = news.length) (hr : Rd w B A (news.map B8))
    (hb : n0 + m ≤ big) (hbase : base ≤ w.heap.size)
    (h : ∀ A' c' w', Own w' base A' (n0 + m) c' (bs0 ++ news) → Below base w w' → Rd w' w'.heap.size A0 (bs0.map B8) → wpList Try.prog ops Q rest (a.put o.dst (.slice A' (n0 + m) c')) w') : wpList Try.prog ops Q (o :: rest) a w := by
  obtain ⟨i0, hi, hz0, hz1, hz2⟩ := info_parts info8
  have hlen : n0 + m = (bs0 ++ news).length := by rw [List.length_append, ← hown.1, ← hm]
  have key : ∃ A' c' w', (Builtin.append_ #[41, 41] o.type #[.slice A0 n0 c0, .slice A m c]).run Try.prog w = .ok (.slice A' (n0 + m) c') w' ∧ Own w' base A' (n0 + m) c' (bs0 ++ news) ∧ Below base w w' ∧ Rd w' w'.heap.size A0 (bs0.map B8) := by
    obtain ⟨A', c', w', h1, h2, h3, h4⟩ := run_app (P := Try.prog) w base 41 o.type 5 i0 (.int .u8 0) 1 Try.underlying41 hi hz0 hz1 hz2 rfl (.slice A0 n0 c0) n0 (bs0.map B8) hown.2 B A m c (news.map B8) (by simpa using hm) hr (B8_one news) (by unfold big at hb; unfold maxLen; omega) (by unfold big at hb; omega) hbase
    refine ⟨A', c', w', h1, ⟨hlen, by rw [List.map_append]; exact h2⟩, h3, ?_⟩
    rcases hown.2.2 with ⟨_, h0⟩ | ⟨g, cap, cur, hv, hbg, hg, hnc, hcm, hcs, htake⟩
    · have : bs0 = [] := List.eq_nil_of_length_eq_zero (by rw [← hown.1]; exact h0)
      subst this
      exact Rd.nil
    · injection hv with e1 e2 e3
      subst e1
      subst e3
      cases A with
      | none =>
        have hm0 : m = 0 := by
          cases news with
          | nil => simpa using hm
          | cons x y => obtain ⟨b, o, h, _⟩ := hr (by simp); cases h
        subst hm0
        have h5 : (Builtin.append_ #[41, 41] o.type #[.slice (some ⟨g, 0, none⟩) n0 c0, .slice none 0 c]).run Try.prog w = .ok (.slice (some ⟨g, 0, none⟩) n0 c0) w := by
          simp [Builtin.append_, run_underlying Try.underlying41, sizeOf, typeInfo, hi, Builtin.lenOf, Builtin.firstCells, hnc, storeCells]
        rw [h5] at h1
        injection h1 with _ e5
        subst e5
        exact hown.rd
      | some ad =>
        have hcell : ∀ j u, (news.map B8)[j]? = some u → w.cell? (ad.add j) = some u := by
          intro j u hu
          have hp : 0 < (news.map B8).length := by
            rcases Nat.eq_zero_or_pos (news.map B8).length with h | h
            · rw [List.eq_nil_of_length_eq_zero h] at hu; cases hu
            · exact h
          obtain ⟨b, o, e, _, hc⟩ := hr hp
          injection e with e
          subst e
          rw [Rg.add_at]
          exact hc j u hu
        have hml : (news.map B8).length = m * i0.size := by rw [hz1, List.length_map, Nat.mul_one, hm]
        by_cases hroom : n0 + m ≤ c0
        · obtain ⟨w2, k1, k2, k3⟩ := run_append_fits (P := Try.prog) w base 41 o.type 5 i0 1 Try.underlying41 hi hz1 g n0 c0 (bs0.map B8) hown.2 ad m c (news.map B8) (by rw [List.length_map, Nat.mul_one, hm]) hcell (B8_one news) hroom
          rw [k1] at h1
          injection h1 with e4 e5
          subst e5
          intro hp
          have hrd : Rd w2 w2.heap.size (some ⟨g, 0, none⟩) ((bs0.map B8) ++ (news.map B8)) := Rd.of_own k2
          obtain ⟨b, o, e, hbl, hc⟩ := hrd (by rw [List.length_append]; omega)
          refine ⟨b, o, e, hbl, fun j u hu => hc j u ?_⟩
          rw [List.getElem?_append_left (by rcases Nat.lt_or_ge j (bs0.map B8).length with h | h; exact h; rw [List.getElem?_eq_none h] at hu; cases hu)]
          exact hu
        · have k1 := run_append_grow (P := Try.prog) w 41 o.type 5 i0 (.int .u8 0) Try.underlying41 hi hz0 ⟨g, 0, none⟩ n0 c0 (bs0.map B8) (by rw [hz1, List.length_map, Nat.mul_one, hown.1]) (hown.2.cells (g := g) rfl) ad m c (news.map B8) hml hcell (by omega) (by unfold big at hb; omega) (growslice_fits (by omega) (by rw [hz2]; unfold big at hb; omega))
          rw [k1] at h1
          injection h1 with e4 e5
          subst e5
          have hbl : Below w.heap.size w (w.drew.alloc (.cells ((bs0.map B8).toArray ++ (news.map B8).toArray ++ Builtin.zeroCells (Value.int .u8 0).cells (grownCap w (n0 + m) c0 5 - (n0 + m))) 5)) := ((Below.refl w.heap.size w).drew).alloc (Nat.le_refl _) _
          exact (hown.rd.below hbl).more hbl.size
  obtain ⟨A', c', w', hrun, h2, h3, h4⟩ := key
  refine wpList_plain hgd fun _ hK => ?_
  unfold Oper.wp execOp
  simp only [ho, resolve, invoke, builtin, Sem.run_bind, Sem.run_pure, Result.andThen_ok, List.map_toArray, List.map_cons, List.map_nil, hs, hx, hrun]
  exact hK _ _ (h A' c' w' h2 h3 h4)
end Go.Proofs.Ytjcbdnbbdhjoiaa.Lgw

namespace Go.Proofs.Ytjcbdnbbdhjoiaa.Lgw
set_option maxRecDepth 20000
open Go.RowKit
open Bk Lg Wire
open Dk
open Tgw (hat hbe)
open Rg (bal)
open Dkw (Dd RetK Gw Dy Fs)

/-- append onto a row of records of one's own, and which block may have turned -/
theorem wp_appRg {w : World} {ops : Array Oper} {rest : List Oper} {o : Oper} {a : Act} {Q : Exit → Act → World → Prop} (hgd : o.guard = none) (s x : Operand)
    (ho : o.op = .call { callee := .builtin .append, args := #[s, x], argTypes := #[22, 22] })
    (base : Nat) (A0 : Option Addr) (n0 c0 : Nat) (rs0 : List R) (hs : a.eval s = .slice A0 n0 c0) (hown : Rg.OwnG KR w base A0 n0 c0 rs0)
    (B : Nat) (A : Option Addr) (m c : Nat) (rs : List R) (hx : a.eval x = .slice A m c) (hm : m = rs.length) (hr : Rg.Rs KR w B A rs) (hb : (n0 + m) * 88 ≤ 140737488355328) (hbase : base ≤ w.heap.size)
    (h : ∀ A' c' w', Rg.OwnG KR w' base A' (n0 + m) c' (rs0 ++ rs) → Below base w w' → w.grownBy w' (Value.slice A0 n0 c0).ownBlock → wpList Try.prog ops Q rest (a.put o.dst (.slice A' (n0 + m) c')) w') : wpList Try.prog ops Q (o :: rest) a w := by
  obtain ⟨i0, hi, hz0, hz1, hz2⟩ := info_parts (KR).info
  have hby : (KR).bytes = 88 := rfl
  have hlen : n0 + m = (rs0 ++ rs).length := by rw [List.length_append, hown.1, hm]
  have key : ∃ A' c' w', (Builtin.append_ #[22, 22] o.type #[.slice A0 n0 c0, .slice A m c]).run Try.prog w = .ok (.slice A' (n0 + m) c') w' ∧ Rg.OwnG KR w' base A' (n0 + m) c' (rs0 ++ rs) ∧ Below base w w' ∧ w.grownBy w' (Value.slice A0 n0 c0).ownBlock := by
    have some_case : ∀ ad : Addr, A = some ad → (∀ j u, (Rg.flat KR rs)[j]? = some u → w.cell? (ad.add j) = some u) → ∃ A' c' w', (Builtin.append_ #[22, 22] o.type #[.slice A0 n0 c0, .slice A m c]).run Try.prog w = .ok (.slice A' (n0 + m) c') w' ∧ Rg.OwnG KR w' base A' (n0 + m) c' (rs0 ++ rs) ∧ Below base w w' ∧ w.grownBy w' (Value.slice A0 n0 c0).ownBlock := by
      rintro ad rfl hc
      obtain ⟨v', w', hrun, hoo, hg, _⟩ := run_append_own (P := Try.prog) w base (KR).S o.type (KR).T i0 _ (KR).k (KR).bytes (KR).und hi hz0 hz1 hz2 (KR).zs (KR).kpos _ n0 (Rg.flat KR rs0) hown.2 ad m c (Rg.flat KR rs) (by rw [Rg.flat_len, hm]) hc (Rg.flat_one KR rs) (by unfold maxLen; omega) (by rw [hby]; exact hb) hbase
      have hbl : Below base w w' := (Below.refl _ _).grown hg hbase (fun k hk => (hown.2.lt k hk).1)
      have hfl : Rg.flat KR rs0 ++ Rg.flat KR rs = Rg.flat KR (rs0 ++ rs) := by unfold Rg.flat; rw [List.flatMap_append]
      rw [hfl] at hoo
      rcases hoo.2 with ⟨rfl, h0⟩ | ⟨g', cap, cur, rfl, _⟩
      · rw [h0] at hoo hlen ⊢
        exact ⟨none, 0, w', hrun, ⟨hlen, hoo⟩, hbl, hg⟩
      · exact ⟨_, _, w', hrun, ⟨hlen, hoo⟩, hbl, hg⟩
    rcases Nat.eq_zero_or_pos rs.length with h0 | h0
    · have hn : rs = [] := List.eq_nil_of_length_eq_zero h0
      subst hn
      have hm0 : m = 0 := by simpa using hm
      subst hm0
      cases A with
      | none =>
        refine ⟨A0, c0, w, ?_, by simpa using hown, Below.refl _ _, ⟨rfl, rfl, rfl, Nat.le_refl _, fun _ _ _ => rfl⟩⟩
        have hu : Try.prog.underlying 22 = some (.slice 40) := Try.underlying22
        have hi' : Try.prog.info? 40 = some i0 := hi
        rcases hown.2.2 with ⟨hv, hnn⟩ | ⟨g, cap, cur, hv, _, _, hnc, _⟩
        · injection hv with h1 h2 h3
          subst h1
          subst h3
          subst hnn
          simp [Builtin.append_, run_underlying hu, sizeOf, typeInfo, hi', Builtin.lenOf, Builtin.firstCells]
        · injection hv with h1 h2 h3
          subst h1
          subst h3
          simp [Builtin.append_, run_underlying hu, sizeOf, typeInfo, hi', Builtin.lenOf, Builtin.firstCells, hnc, storeCells]
      | some ad => exact some_case ad rfl (fun j u hu => by simp [Rg.flat] at hu)
    · obtain ⟨b, oo, rfl, _, hc⟩ := hr h0
      exact some_case ⟨b, oo, none⟩ rfl (fun j u hu => by
        rw [Rg.add_at]
        obtain ⟨k, i, v, hv, hi2, rfl, hh⟩ := Rg.flat_get KR rs j u hu
        rw [← Nat.add_assoc]
        exact hc k v hv i u hh)
  obtain ⟨A', c', w', hrun, h2, h3, h4⟩ := key
  refine wpList_plain hgd fun _ hK => ?_
  unfold Oper.wp execOp
  simp only [ho, resolve, invoke, builtin, Sem.run_bind, Sem.run_pure, Result.andThen_ok, List.map_toArray, List.map_cons, List.map_nil, hs, hx, hrun]
  exact hK _ _ (h A' c' w' h2 h3 h4)
/-- a row of records lies outside of a disk's blocks -/
theorem rec_far {w : World} {F : Nat → Prop} {p : Value} {d : D} {base : Nat} {A : Option Addr} {n c : Nat} {rs : List R} (hd : Dd w F p d) (ho : Rg.OwnG KR w base A n c rs) : ∀ k, (Value.slice A n c).ownBlock = some k → ¬ F k := by
  intro k hk hf
  rcases ho.2.2 with ⟨hv, _⟩ | ⟨g, cap, cur, hv, _, hh, _⟩
  · rw [hv] at hk; simp [Value.ownBlock] at hk
  · rw [hv] at hk
    simp only [Value.ownBlock, Option.some.injEq] at hk
    subst hk
    obtain ⟨g2, A2, n2, c2, _, hy, hod, hF, _⟩ := hd
    rcases (hF g).1 hf with h1 | h1
    · subst h1
      unfold Dy at hy
      rw [hh] at hy
      simp only [Option.some.injEq, Obj.cells.injEq] at hy
      exact absurd hy.2.1 (by decide)
    · rcases hod.2.2 with ⟨hv2, _⟩ | ⟨g3, cap3, cur3, hv2, _, hh3, _⟩
      · rw [hv2] at h1; simp [Value.ownBlock] at h1
      · rw [hv2] at h1
        simp only [Value.ownBlock, Option.some.injEq] at h1
        subst h1
        rw [hh] at hh3
        simp only [Option.some.injEq, Obj.cells.injEq] at hh3
        exact absurd hh3.2.1 (by decide)
theorem rec_keep {w w' : World} {F F' : Nat → Prop} {p : Value} {d : D} {base : Nat} {A : Option Addr} {n c : Nat} {rs : List R} (hd : Dd w F p d) (ho : Rg.OwnG KR w base A n c rs) (hg : Gw F F' w w') : Rg.OwnG KR w' base A n c rs :=
  ho.keep (fun k hk => hg.1.block k (ho.2.lt k hk).2 (rec_far hd ho k hk))
theorem disk_keep {w w' : World} {F : Nat → Prop} {p : Value} {d : D} {base : Nat} {A : Option Addr} {n c : Nat} {rs : List R} (hd : Dd w F p d) (ho : Rg.OwnG KR w base A n c rs) (hg : w.grownBy w' (Value.slice A n c).ownBlock) : Dd w' F p d :=
  hd.keep hg.size (fun k hk => hg.block k (hd.lt k hk) (fun e => rec_far hd ho k e.symm hk))
/-- a slice of records that came in -/
structure Pr where
  a : Option Addr
  n : Nat
  c : Nat
  rs : List R
def Pr.v (p : Pr) : Value := .slice p.a p.n p.c
def Pr.ok (w : World) (B : Nat) (p : Pr) : Prop := p.n = p.rs.length ∧ p.n ≤ p.c ∧ p.n * 88 ≤ 140737488355328 ∧ (∀ r ∈ p.rs, WfE r.e) ∧ Rg.Rs KR w B p.a p.rs
theorem Pr.ok.sr {w w' : World} {p : Pr} (h : p.ok w w.heap.size) (hb : Below w.heap.size w w') : Sr w' p.a p.n p.c p.rs :=
  ⟨h.1, h.2.1, h.2.2.1, fun r hr => (h.2.2.2.1 r hr).2.2.2, (h.2.2.2.2.below hb).more hb.size⟩
/-- the slice A holds these slices, below block B -/
def Prs (w : World) (B : Nat) (A : Option Addr) (ps : List Pr) : Prop := Rd w B A (ps.map Pr.v) ∧ ∀ p ∈ ps, p.ok w B
/-- what holds of a log's disk while nothing has failed -/
def Kept (d : D) (all : List R) : Prop := (∀ r ∈ all, Ok r) ∧ d.data = flatR all ∧ d.safe = (flatR all).length ∧ d.off = false ∧ Iv d
/-- and when it ends: a part of what was added is there, and of the first safeN records all -/
def Left (d : D) (all : List R) (k : Nat) : Prop := (∀ r ∈ all, Ok r) ∧ k ≤ all.length ∧ (∃ L, d.data = (flatR all).take L) ∧ d.safe = (flatR (all.take k)).length ∧ (flatR (all.take k)).length ≤ d.data.length
theorem kept_left {d : D} {all : List R} (h : Kept d all) : Left d all all.length := by
  obtain ⟨h1, h2, h3, _, _⟩ := h
  refine ⟨h1, Nat.le_refl _, ⟨(flatR all).length, by rw [List.take_length]; exact h2⟩, ?_, ?_⟩
  · rw [List.take_length]; exact h3
  · rw [List.take_length, h2]; exact Nat.le_refl _
theorem kept_add {d : D} {all l : List R} (h : Kept d all) (hw : ∀ r ∈ l, Flt.U64 r.e.val) (he : addE d l = 0) : Kept (addD d l) (all ++ l) := by
  obtain ⟨h1, h2, h3, h4, h5⟩ := h
  have hr : ∀ r ∈ l, rightR r = true := by
    intro r hr
    cases hrt : rightR r with
    | true => rfl
    | false =>
      obtain ⟨k, hk⟩ := List.mem_iff_getElem?.1 hr
      have := (add_bad (d := d) hk hrt).1
      rw [this] at he
      cases he
  have h6 := add_good (d := d) hr
  rw [h6.1] at he
  rw [h6.2, if_pos he]
  have hi := iv_sync _ (iv_app d (flatR l) h5)
  have ha : appD d (flatR l) = ⟨d.data ++ flatR l, d.safe, d.room, if 0 ≤ d.fuse then d.fuse - (flatR l).length else d.fuse, false⟩ := by
    unfold appE at he
    rw [h4, if_neg (by simp)] at he
    by_cases c1 : 0 < (flatR l).length ∧ d.room - (d.data.length : Int) < (flatR l).length
    · rw [if_pos c1] at he; cases he
    rw [if_neg c1] at he
    by_cases c2 : 0 ≤ d.fuse ∧ d.fuse < (flatR l).length
    · rw [if_pos c2] at he; cases he
    unfold appD
    rw [h4, if_neg (by simp), if_neg c1, if_neg c2]
  rw [ha] at hi ⊢
  refine ⟨fun r hr2 => ?_, ?_, ?_, rfl, hi⟩
  · rcases List.mem_append.1 hr2 with h | h
    · exact h1 r h
    · exact ⟨hr r h, hw r h⟩
  · show d.data ++ flatR l = _
    rw [flatR_append, h2]
  · show ((d.data ++ flatR l).length : Int) = _
    rw [flatR_append, h2]
theorem left_add {d : D} {all l : List R} (h : Kept d all) (hw : ∀ r ∈ l, Flt.U64 r.e.val) (he : addE d l ≠ 0) (he2 : addE d l ≠ 91) : Left (addD d l) (all ++ l) all.length := by
  obtain ⟨h1, h2, h3, h4, h5⟩ := h
  have hr : ∀ r ∈ l, rightR r = true := by
    intro r hr
    cases hrt : rightR r with
    | true => rfl
    | false =>
      obtain ⟨k, hk⟩ := List.mem_iff_getElem?.1 hr
      exact absurd (add_bad (d := d) hk hrt).1 he2
  have h6 := add_good (d := d) hr
  rw [h6.1] at he
  rw [h6.2, if_neg he]
  have hok : ∀ r ∈ all ++ l, Ok r := fun r hr2 => by
    rcases List.mem_append.1 hr2 with h | h
    · exact h1 r h
    · exact ⟨hr r h, hw r h⟩
  have ht : (all ++ l).take all.length = all := List.take_left
  have hlen : all.length ≤ (all ++ l).length := by rw [List.length_append]; omega
  unfold appE at he
  rw [h4, if_neg (by simp)] at he
  by_cases c1 : 0 < (flatR l).length ∧ d.room - (d.data.length : Int) < (flatR l).length
  · have : appD d (flatR l) = d := by unfold appD; rw [h4, if_neg (by simp), if_pos c1]
    rw [this]
    refine ⟨hok, hlen, ⟨(flatR all).length, ?_⟩, by rw [ht]; exact h3, by rw [ht, h2]; exact Nat.le_refl _⟩
    rw [flatR_append, List.take_left]; exact h2
  rw [if_neg c1] at he
  by_cases c2 : 0 ≤ d.fuse ∧ d.fuse < (flatR l).length
  · have : appD d (flatR l) = ⟨d.data ++ (flatR l).take d.fuse.toNat, d.safe, d.room, 0, true⟩ := by
      unfold appD
      rw [h4, if_neg (by simp), if_neg c1, if_pos c2]
    rw [this]
    refine ⟨hok, hlen, ⟨(flatR all).length + d.fuse.toNat, ?_⟩, by rw [ht]; exact h3, ?_⟩
    · show d.data ++ (flatR l).take d.fuse.toNat = _
      rw [flatR_append, h2, List.take_length_add_append]
    · rw [ht]
      show _ ≤ (d.data ++ (flatR l).take d.fuse.toNat).length
      rw [h2, List.length_append]
      omega
  · rw [if_neg c2] at he
    exact absurd rfl he
/-- what a crash leaves, and what is read then -/
theorem crash_left {d : D} {all : List R} {k : Nat} (h : Left d all k) (keep : Int) : ∃ M, Scans (crashD d keep).data ((all.take (wholeN all M)).map cnR) (flatR (all.take (wholeN all M))).length ∧ k ≤ wholeN all M ∧ wholeN all M ≤ all.length := by
  obtain ⟨h1, h2, ⟨L, h3⟩, h4, h5⟩ := h
  refine ⟨min (d.safe.toNat + keep.toNat) L, ?_, ?_, wholeN_le _ _⟩
  · have e : (crashD d keep).data = (flatR all).take (min (d.safe.toNat + keep.toNat) L) := by
      show d.data.take (d.safe.toNat + keep.toNat) = _
      rw [h3, List.take_take]
    rw [e]
    exact scans_take all h1 _
  · have hs : d.safe.toNat = (flatR (all.take k)).length := by omega
    have hl : (flatR (all.take k)).length ≤ min (d.safe.toNat + keep.toNat) L := by
      rw [h3, List.length_take] at h5
      omega
    have := wholeN_ge (all.take k) (all.drop k) _ hl
    rw [List.take_append_drop, List.length_take] at this
    omega
end Go.Proofs.Ytjcbdnbbdhjoiaa.Lgw

namespace Go.Proofs.Ytjcbdnbbdhjoiaa.Lgw
set_option maxRecDepth 20000
open Go.RowKit
open Bk Lg Wire
open Dk
open Rg (bal)

structure Al where
  kind : Int
  num : Int
  pr : Pr
  pt : Dkw.Pt
def Fr4 (w : World) (b o : Nat) (x : Al) : Prop := w.cell? ⟨b, o, none⟩ = some (.int .i64 x.kind) ∧ w.cell? ⟨b, o + 1, none⟩ = some (.int .i64 x.num) ∧ w.cell? ⟨b, o + 2, none⟩ = some (.slice x.pr.a x.pr.n x.pr.c) ∧ w.cell? ⟨b, o + 3, none⟩ = some (.slice x.pt.a x.pt.n x.pt.c)
theorem Fr4.below {w w' : World} {b o B : Nat} {x : Al} (h : Fr4 w b o x) (hb : Below B w w') (hB : b < B) : Fr4 w' b o x :=
  ⟨(hb.cell (p := ⟨b, o, none⟩) hB).trans h.1, (hb.cell (p := ⟨b, o + 1, none⟩) hB).trans h.2.1, (hb.cell (p := ⟨b, o + 2, none⟩) hB).trans h.2.2.1, (hb.cell (p := ⟨b, o + 3, none⟩) hB).trans h.2.2.2⟩
def Al.ok (w : World) (B : Nat) (x : Al) : Prop := Dkw.I64 x.kind ∧ Dkw.I64 x.num ∧ x.pr.ok w B ∧ x.pt.ok w B
/-- the slice A holds these acts, below block B -/
def Als (w : World) (B : Nat) (A : Option Addr) (xs : List Al) : Prop :=
  (0 < xs.length → ∃ b o, A = some ⟨b, o, none⟩ ∧ b < B ∧ ∀ (j : Nat) (x : Al), xs[j]? = some x → Fr4 w b (o + j * 4) x) ∧ ∀ x ∈ xs, x.ok w B
end Go.Proofs.Ytjcbdnbbdhjoiaa.Lgw

namespace Go.Proofs.Ytjcbdnbbdhjoiaa.logRuns
set_option maxRecDepth 20000
open Go.RowKit
open Bk Lg Wire Lgw
open Dk
open Tgw (hat hbe)
open Rg (bal)
open Dkw (Ds Dx Rf Kp dv RetDE Dd RetK Gw Rw Lc)

set_option maxRecDepth 100000 in
set_option maxHeartbeats 4000000 in
theorem walk (w : World) (room : Int) (w0 : (Lit.int .i64 room).wf = true) (A : Option Addr) (n c : Nat) (xs : List Al) (hn : n = xs.length) (hl : n ≤ big) (hr : Als w w.heap.size A xs) :
    Calls Try.prog 5 #[.int .i64 room, .slice A n c] w fun e w' => e = .returned (.bool true) ∧ Below w.heap.size w w' := by
  have H0 : Hid (Dkw.I64 room) := Lib.hid (wf_i64 w0)
  have HN := Lib.hid hn; have HR := Lib.hid hr
  have hsf := store_flt
  unfold big at hl
  clear hn hr w0
  go_enter Try.func5, Try.ntmps5
  go_wp2_with fail
  refine (log_alive_c _).mono ?_
  rintro e w2 ⟨rfl, hb⟩
  have HB := Lib.hid hb; clear hb
  go_wp2_with fail
  refine (Dkw.new_c room H0.out _).mono ?_
  rintro e w3 ⟨p, F, rfl, hd, hF, hb⟩
  obtain ⟨a, rfl⟩ := hd.ptr
  have HD := Lib.hid hd; have HF : Hid (∀ k, F k → w.heap.size ≤ k) := Lib.hid (fun k hk => Nat.le_trans HB.out.size (hF k hk))
  have HB := Lib.hid (HB.out.trans (hb.mono HB.out.size))
  clear hd hF hb
  go_wp2_with fail
  refine (Dkw.new_r room F _).mono ?_
  rintro e w4 ⟨v, rfl, ⟨A4, n4, c4, rfl, hn4, hc4, hr4⟩, hb⟩
  have HD := Lib.hid (HD.out.all hb)
  have HB := Lib.hid (HB.out.trans (hb.mono HB.out.size))
  have HN4 := Lib.hid hn4; have HC4 := Lib.hid hc4; have HR4 := Lib.hid hr4
  clear hb hn4 hc4 hr4
  unfold dv
  by_cases h60 : 60 < n
  · go_wp2
    go_ret
    exact ⟨rfl, bal HB.out (Nat.le_refl _) _⟩
  have hn2 : n ≤ 60 := by omega
  go_wp2
  have HRW : Hid (Rw (w4.alloc (.cells #[.slice A4 n4 c4, .int .i64 (newD room).safe, .int .i64 (newD room).room, .int .i64 (newD room).fuse, .bool (newD room).off] 51)) F w4.heap.size (newD room)) := Lib.hid ⟨A4, n4, c4, hat _ _ _ rfl, HN4.out, HC4.out, Rf.nil, fun h => by have := HD.out.lt _ h; omega⟩
  have HD := Lib.hid (HD.out.all (bal (Below.refl _ _) (Nat.le_refl _) (.cells #[.slice A4 n4 c4, .int .i64 (newD room).safe, .int .i64 (newD room).room, .int .i64 (newD room).fuse, .bool (newD room).off] 51)))
  have hgw : w.heap.size ≤ w4.heap.size := HB.out.size
  have HB := Lib.hid (bal HB.out (Nat.le_refl _) (.cells #[.slice A4 n4 c4, .int .i64 (newD room).safe, .int .i64 (newD room).room, .int .i64 (newD room).fuse, .bool (newD room).off] 51))
  generalize w4.alloc (.cells #[.slice A4 n4 c4, .int .i64 (newD room).safe, .int .i64 (newD room).room, .int .i64 (newD room).fuse, .bool (newD room).off] 51) = w5 at HRW HD HB ⊢
  generalize w4.heap.size = gw at HRW hgw ⊢
  clear HN4 HC4 HR4
  generalize (newD room) = d0 at HD HRW ⊢
  go_loopw [30] (fun i wr => ∃ (k : Nat) (d : D) (F : Nat → Prop), i = .int .i64 k ∧ k ≤ n ∧ Dd wr F (.pointer (some a)) d ∧ Rw wr F gw d ∧ (∀ k, F k → w.heap.size ≤ k) ∧ Below w.heap.size w wr) (fun i _ => n - (intOf i).toNat)
  case atStart => exact ⟨0, d0, F, rfl, Nat.zero_le _, HD.out, HRW.out, HF.out, HB.out⟩
  case round =>
    obtain ⟨k, d, F, rfl, hk, hd, hrw, hF, hb⟩ := hrel
    clear HD HF HB HRW
    have HD := Lib.hid hd; have HF := Lib.hid hF; have HB := Lib.hid hb; have HRW := Lib.hid hrw
    clear hd hF hb hrw
    by_cases h : k < n
    · obtain ⟨b, o, rfl, hbB, hcell⟩ := HR.out.1 (by rw [← HN.out]; omega)
      have hkl : k < xs.length := by rw [← HN.out]; exact h
      have hz : xs[k]? = some xs[k] := List.getElem?_eq_getElem hkl
      have hcu := (hcell k xs[k] hz).below HB.out hbB
      have HPO := Lib.hid (HR.out.2 xs[k] (List.getElem_mem hkl))
      generalize xs[k] = q at hcu HPO
      obtain ⟨ki, nu, ⟨qa, qn, qc, rs⟩, ⟨pa, pn, pc, bs⟩⟩ := q
      have HPR : Hid (Pr.ok w w.heap.size ⟨qa, qn, qc, rs⟩) := Lib.hid HPO.out.2.2.1
      have HPT : Hid (pn = bs.length ∧ pn ≤ pc ∧ pn ≤ big ∧ Rd w w.heap.size pa (bs.map B8)) := Lib.hid HPO.out.2.2.2
      have HNU : Hid (Dkw.I64 nu) := Lib.hid HPO.out.2.1
      obtain ⟨q0, q1, q2, q3⟩ := hcu
      have q0 : wr.cell? ⟨b, o + k * 4, none⟩ = some (.int .i64 ki) := q0
      have q1 : wr.cell? ⟨b, o + k * 4 + 1, none⟩ = some (.int .i64 nu) := q1
      have q2 : wr.cell? ⟨b, o + k * 4 + 2, none⟩ = some (.slice qa qn qc) := q2
      have q3 : wr.cell? ⟨b, o + k * 4 + 3, none⟩ = some (.slice pa pn pc) := q3
      clear hz hkl hcell HPO
      go_upto_region 11 with (fail)
      have VA := Lib.hid (Lc.new (o := (.cells #[.int .i64 ki, .int .i64 nu, .slice qa qn qc, .slice pa pn pc] 54)) HD.out.lt)
      have HD := Lib.hid (HD.out.all (bal (Below.refl _ _) (Nat.le_refl _) (.cells #[.int .i64 ki, .int .i64 nu, .slice qa qn qc, .slice pa pn pc] 54)))
      have HRW := Lib.hid (HRW.out.all (bal (Below.refl _ _) (Nat.le_refl _) (.cells #[.int .i64 ki, .int .i64 nu, .slice qa qn qc, .slice pa pn pc] 54)))
      have HB := Lib.hid (bal HB.out (Nat.le_refl _) (.cells #[.int .i64 ki, .int .i64 nu, .slice qa qn qc, .slice pa pn pc] 54))
      clear q0 q1 q2 q3
      generalize wr.alloc (.cells #[.int .i64 ki, .int .i64 nu, .slice qa qn qc, .slice pa pn pc] 54) = w6 at VA HD HB HRW ⊢
      generalize wr.heap.size = ga at VA ⊢
      have v0 : w6.cell? ⟨ga, 0, none⟩ = some (.int .i64 ki) := by rw [cell_of_row _ _ _ _ _ _ VA.out.1]; rfl
      have HIV := Lib.hid HD.out.iv
      by_cases e0 : ki = 0
      · skip
        have z0 : (ki == 0) = true := by rw [beq_iff_eq]; exact e0
        clear e0
        have u2 : w6.cell? ⟨ga, 2, none⟩ = some (.slice qa qn qc) := by rw [cell_of_row _ _ _ _ _ _ VA.out.1]; rfl
        by_cases h20 : qn < 20
        · skip
          have v2 : ∀ o, (w6.alloc o).cell? ⟨ga, 2, none⟩ = some (.slice qa qn qc) := fun o => by rw [cell_of_row _ _ _ _ _ _ (hbe VA.out.1)]; rfl
          have HWF : Hid (∀ r ∈ rs, WfE r.e) := Lib.hid HPR.out.2.2.2.1
          go_wp2_with (at_builtin; refine Rg.wp_copyG (K := KR) rfl (.tmp 43) (.tmp 45) rfl w6 rfl w.heap.size qa qn qc rs rfl HPR.out.1 (Rg.Rs.below HPR.out.2.2.2.2 HB.out) HB.out.size (show qn * 88 ≤ 140737488355328 by omega) ?_; intro A7 c7 w7 how hb7)
          clear v0 u2 v2
          have HS7 : Hid (Sr w7 A7 qn c7 rs) := Lib.hid ⟨how.1, how.cap, by omega, fun r hr => (HWF.out r hr).2.2.2, how.rs⟩
          have VA := Lib.hid (VA.out.all hb7); have HRW := Lib.hid (HRW.out.all hb7); have HD := Lib.hid (HD.out.all hb7); have HB := Lib.hid (HB.out.trans (hb7.mono HB.out.size))
          clear how hb7
          refine (add_c _ d A7 qn c7 rs HWF.out F _ HD.out HS7.out).mono ?_
          rintro e w8 ⟨F8, rfl, hd, hg⟩
          clear HS7
          have VA := Lib.hid (VA.out.keep hg); have HRW := Lib.hid (HRW.out.keep hg)
          have hg2 := hg.below HB.out.size HF.out
          have HD := Lib.hid hd; have HF := Lib.hid hg2.2; have HB := Lib.hid (HB.out.trans hg2.1)
          clear hd hg hg2

          obtain ⟨Aw, nw, cw, hxw, hnw, hcw, hrw, hfw⟩ := HRW.out
          have HVD : Hid (Ds w8 (fun k => F8 k ∨ k = gw) (dv Aw nw cw d) d) := Lib.hid ⟨Aw, nw, cw, rfl, hnw, hcw, hrw⟩
          have HGL : Hid (∀ k, (F8 k ∨ k = gw) → k < w8.heap.size) := Lib.hid (fun k h => h.elim (HD.out.lt k) (fun h => h ▸ hxw.lt))
          have x0 := hxw.c0; have x1 := hxw.c1; have x2 := hxw.c2; have x3 := hxw.c3; have x4 := hxw.c4
          have u1 : w8.cell? ⟨ga, 2, none⟩ = some (.slice qa qn qc) := by rw [cell_of_row _ _ _ _ _ _ VA.out.1]; rfl
          clear hxw hnw hcw hrw hfw
          go_wp2_with fail
          clear x0 x1 x2 x3 x4 u1
          refine (add_r (dv Aw nw cw d) d qa qn qc rs (fun k => F8 k ∨ k = gw) _ HGL.out HVD.out HIV.out (Pr.ok.sr (p := ⟨qa, qn, qc, rs⟩) HPR.out HB.out)).mono ?_
          rintro e w9 ⟨v, rfl, ⟨A9, n9, c9, rfl, hn9, hc9, hr9⟩, hb⟩
          have HRW := Lib.hid (HRW.out.all hb); have HD := Lib.hid (HD.out.all hb); have HB := Lib.hid (HB.out.trans (hb.mono HB.out.size)); clear hb
          have HN8 := Lib.hid hn9; have HC8 := Lib.hid hc9; have HR8 := Lib.hid hr9
          clear hn9 hc9 hr9 HVD HGL HIV
          generalize addD d rs = d2 at HD HN8 HR8 ⊢
          generalize addE d rs = ae

          obtain ⟨_, _, _, hxw, _, _, _, hfw⟩ := HRW.out
          have x0 := hxw.c0; have x1 := hxw.c1; have x2 := hxw.c2; have x3 := hxw.c3; have x4 := hxw.c4
          have f0 := frozen_of_row w9 gw 0 _ _ hxw
          have f1 := frozen_of_row w9 gw 1 _ _ hxw
          have f2 := frozen_of_row w9 gw 2 _ _ hxw
          have f3 := frozen_of_row w9 gw 3 _ _ hxw
          have f4 := frozen_of_row w9 gw 4 _ _ hxw
          have HFW := Lib.hid hfw
          clear hxw hfw
          unfold dv
          go_upto_region 25 with (fail)
          clear x0 x1 x2 x3 x4 f0 f1 f2 f3 f4
          have HRW := Lib.hid (HRW.out.store HN8.out HC8.out HR8.out)
          have HD := Lib.hid (show Dd (((((w9.setCell ⟨gw, 0, none⟩ (.slice A9 n9 c9)).setCell ⟨gw, 1, none⟩ (.int .i64 d2.safe)).setCell ⟨gw, 2, none⟩ (.int .i64 d2.room)).setCell ⟨gw, 3, none⟩ (.int .i64 d2.fuse)).setCell ⟨gw, 4, none⟩ (.bool d2.off)) F8 _ d2 from ((((HD.out.setCell HFW.out _).setCell HFW.out _).setCell HFW.out _).setCell HFW.out _).setCell HFW.out _)
          have HB := Lib.hid (show Below w.heap.size w (((((w9.setCell ⟨gw, 0, none⟩ (.slice A9 n9 c9)).setCell ⟨gw, 1, none⟩ (.int .i64 d2.safe)).setCell ⟨gw, 2, none⟩ (.int .i64 d2.room)).setCell ⟨gw, 3, none⟩ (.int .i64 d2.fuse)).setCell ⟨gw, 4, none⟩ (.bool d2.off)) from ((((HB.out.setCell hgw _).setCell hgw _).setCell hgw _).setCell hgw _).setCell hgw _)
          generalize (((((w9.setCell ⟨gw, 0, none⟩ (.slice A9 n9 c9)).setCell ⟨gw, 1, none⟩ (.int .i64 d2.safe)).setCell ⟨gw, 2, none⟩ (.int .i64 d2.room)).setCell ⟨gw, 3, none⟩ (.int .i64 d2.fuse)).setCell ⟨gw, 4, none⟩ (.bool d2.off)) = wq at HRW HD HB ⊢
          clear HN8 HC8 HR8 HFW

          obtain ⟨Aq, nq, cq, hxq, hnq, hcq, hrq, hfq⟩ := HRW.out
          have x0 := hxq.c0
          have HNQ := Lib.hid hnq; have HCQ := Lib.hid hcq; have HRQ := Lib.hid hrq.rd
          have HIV := Lib.hid HD.out.iv
          clear hxq hnq hcq hrq hfq
          go_wp2_with fail
          clear x0
          refine (scan_r Aq nq cq d2.data HNQ.out HCQ.out (by have h1 := HNQ.out; have h2 := HIV.out.2.2.1; omega) wq HRQ.out).mono ?_
          rintro e v0 ⟨A11, n11, c11, m11, rs11, rfl, hsc, hsr, hb⟩
          have HSC := Lib.hid hsc; have HSR := Lib.hid hsr
          have HRW := Lib.hid (HRW.out.all hb); have HD := Lib.hid (HD.out.all hb); have HB := Lib.hid (HB.out.trans (hb.mono HB.out.size))
          clear hsc hsr hb HNQ HCQ HRQ HIV
          go_upto_region 26 with (fail)
          obtain ⟨Aq, nq, cq, hxq, hnq, hcq, hrq, hfq⟩ := HRW.out
          have HKQ : Hid (∀ W', Below v0.heap.size v0 W' → (W'.cell? ⟨gw, 0, none⟩ = some (.slice Aq nq cq) ∧ W'.cell? ⟨gw, 1, none⟩ = some (.int .i64 d2.safe) ∧ W'.cell? ⟨gw, 4, none⟩ = some (.bool d2.off)) ∧ (convert 41 9 (.slice Aq nq cq)).run Try.prog W' = .ok (.string (str d2.data)) W') := Lib.hid (fun W' h => ⟨⟨(hxq.all h).c0, (hxq.all h).c1, (hxq.all h).c4⟩, str8' cq (hrq.rd.below h) hnq⟩)
          clear hxq hnq hcq hrq hfq
          have hsm := Dkw.str_same d2.data
          refine wp_region_held_drew (S := fun W' => Below v0.heap.size v0 W') (by kernel_rfl) (Below.refl _ _).drew (fun hHeld => ?_)
          generalize v0.drew = v1 at hHeld ⊢
          have HB1 : Hid (Below v0.heap.size v0 v1) := hHeld
          clear hHeld
          refine take_in (i := 0) (oi := ⟨_, _, _, _, _, _⟩) (v := ?_) rfl (by kernel_rfl) (by kernel_rfl) (by kernel_rfl) (fun _ _ _ h => h) (by rfl) ?_ HB1.out ?_
          rotate_left
          · intro W hW; have hq := HKQ.out W hW; go_simp; with_reducible rfl
          simp only [Act.put, List.setIfInBounds_toArray, List.set_cons_zero, List.set_cons_succ]
          refine take_in (i := 1) (oi := ⟨_, _, _, _, _, _⟩) (v := ?_) rfl (by kernel_rfl) (by kernel_rfl) (by kernel_rfl) (fun _ _ _ h => h) (by rfl) ?_ HB1.out ?_
          rotate_left
          · intro W hW; have hq := HKQ.out W hW; go_simp; with_reducible rfl
          simp only [Act.put, List.setIfInBounds_toArray, List.set_cons_zero, List.set_cons_succ]
          refine take_in (i := 2) (oi := ⟨_, _, _, _, _, _⟩) (v := ?_) rfl (by kernel_rfl) (by kernel_rfl) (by kernel_rfl) (fun _ _ _ h => h) (by rfl) ?_ HB1.out ?_
          rotate_left
          · intro W hW; have hq := HKQ.out W hW; go_simp; with_reducible rfl
          simp only [Act.put, List.setIfInBounds_toArray, List.set_cons_zero, List.set_cons_succ]
          refine take_in (i := 3) (oi := ⟨_, _, _, _, _, _⟩) (v := ?_) rfl (by kernel_rfl) (by kernel_rfl) (by kernel_rfl) (fun _ _ _ h => h) (by rfl) ?_ HB1.out ?_
          rotate_left
          · intro W hW; have hq := HKQ.out W hW; go_simp; with_reducible rfl
          simp only [Act.put, List.setIfInBounds_toArray, List.set_cons_zero, List.set_cons_succ]
          refine take_in (i := 4) (oi := ⟨_, _, _, _, _, _⟩) (v := ?_) rfl (by kernel_rfl) (by kernel_rfl) (by kernel_rfl) (fun _ _ _ h => h) (by rfl) ?_ HB1.out ?_
          rotate_left
          · intro W hW; have hq := HKQ.out W hW; go_simp; with_reducible rfl
          simp only [Act.put, List.setIfInBounds_toArray, List.set_cons_zero, List.set_cons_succ]
          refine take_in (i := 7) (oi := ⟨_, _, _, _, _, _⟩) (v := ?_) rfl (by kernel_rfl) (by kernel_rfl) (by kernel_rfl) (fun _ _ _ h => h) (by rfl) ?_ HB1.out ?_
          rotate_left
          · intro W hW; have hq := HKQ.out W hW; go_simp; with_reducible rfl
          simp only [Act.put, List.setIfInBounds_toArray, List.set_cons_zero, List.set_cons_succ]
          refine take_in (i := 8) (oi := ⟨_, _, _, _, _, _⟩) (v := ?_) rfl (by kernel_rfl) (by kernel_rfl) (by kernel_rfl) (fun _ _ _ h => h) (by rfl) ?_ HB1.out ?_
          rotate_left
          · intro W hW; have hq := HKQ.out W hW; go_simp; with_reducible rfl
          simp only [Act.put, List.setIfInBounds_toArray, List.set_cons_zero, List.set_cons_succ]
          refine take_in (i := 9) (oi := ⟨_, _, _, _, _, _⟩) (v := ?_) rfl (by kernel_rfl) (by kernel_rfl) (by kernel_rfl) (fun _ _ _ h => h) (by rfl) ?_ HB1.out ?_
          rotate_left
          · intro W hW; have hq := HKQ.out W hW; go_simp; with_reducible rfl
          simp only [Act.put, List.setIfInBounds_toArray, List.set_cons_zero, List.set_cons_succ]
          refine wpAnyH_ready (rs := [5]) (by kernel_rfl) (by simp) ?_
          refine AllReadyH.cons (o := ⟨_, _, _, _, _, _⟩) rfl (fun K hK => ?_) AllReadyH.nil
          go_simp
          refine (Dkw.bytes_c _ _ F8 _ (HD.out.all HB1.out)).mono ?_
          rintro e v2 ⟨A9, n9, c9, rfl, how, hb⟩
          have HO9 := Lib.hid how; clear how
          have HB2 := Lib.hid (HB1.out.trans (hb.mono HB1.out.size)); clear hb
          refine hK.out _ _ HB2.out (fun _ => ?_)
          clear hK K
          have HK9 : Hid (∀ W', Below v2.heap.size v2 W' → (convert 41 9 (.slice A9 n9 c9)).run Try.prog W' = .ok (.string (str d2.data)) W') := Lib.hid (fun W' h => str8' c9 (HO9.out.rd.below h) HO9.out.1)
          refine tighten (S' := fun W' => Below v2.heap.size v2 W') (fun W' h => HB2.out.trans (h.mono HB2.out.size)) _ _ _ _ ?_
          have HB3 := Lib.hid (Below.refl v2.heap.size v2)
          have HD2 := Lib.hid (HD.out.all HB2.out)
          have HS2 := Lib.hid (HSR.out.all HB2.out)
          have HKQ : Hid (∀ W', Below v2.heap.size v2 W' → (W'.cell? ⟨gw, 0, none⟩ = some (.slice Aq nq cq) ∧ W'.cell? ⟨gw, 1, none⟩ = some (.int .i64 d2.safe) ∧ W'.cell? ⟨gw, 4, none⟩ = some (.bool d2.off))) := Lib.hid (fun W' h => (HKQ.out W' (HB2.out.trans (h.mono HB2.out.size))).1)
          refine take_in (i := 6) (oi := ⟨_, _, _, _, _, _⟩) (v := ?_) rfl (by kernel_rfl) (by kernel_rfl) (by kernel_rfl) (fun _ _ _ h => h) (by rfl) ?_ HB3.out ?_
          rotate_left
          · intro W hW; have hq := HK9.out W hW; go_simp; with_reducible rfl
          simp only [Act.put, List.setIfInBounds_toArray, List.set_cons_zero, List.set_cons_succ]
          refine take_in (i := 10) (oi := ⟨_, _, _, _, _, _⟩) (v := ?_) rfl (by kernel_rfl) (by kernel_rfl) (by kernel_rfl) (fun _ _ _ h => h) (by rfl) ?_ HB3.out ?_
          rotate_left
          · intro W hW; have hq := HKQ.out W hW; go_simp; with_reducible rfl
          simp only [Act.put, List.setIfInBounds_toArray, List.set_cons_zero, List.set_cons_succ]
          refine take_in (i := 11) (oi := ⟨_, _, _, _, _, _⟩) (v := ?_) rfl (by kernel_rfl) (by kernel_rfl) (by kernel_rfl) (fun _ _ _ h => h) (by rfl) ?_ HB3.out ?_
          rotate_left
          · intro W hW; have hq := HKQ.out W hW; go_simp; with_reducible rfl
          simp only [Act.put, List.setIfInBounds_toArray, List.set_cons_zero, List.set_cons_succ]
          refine take_in (i := 12) (oi := ⟨_, _, _, _, _, _⟩) (v := ?_) rfl (by kernel_rfl) (by kernel_rfl) (by kernel_rfl) (fun _ _ _ h => h) (by rfl) ?_ HB3.out ?_
          rotate_left
          · intro W hW; have hq := HKQ.out W hW; go_simp; with_reducible rfl
          simp only [Act.put, List.setIfInBounds_toArray, List.set_cons_zero, List.set_cons_succ]
          refine take_in (i := 13) (oi := ⟨_, _, _, _, _, _⟩) (v := ?_) rfl (by kernel_rfl) (by kernel_rfl) (by kernel_rfl) (fun _ _ _ h => h) (by rfl) ?_ HB3.out ?_
          rotate_left
          · intro W hW; have hq := HKQ.out W hW; go_simp; with_reducible rfl
          simp only [Act.put, List.setIfInBounds_toArray, List.set_cons_zero, List.set_cons_succ]
          refine take_in (i := 15) (oi := ⟨_, _, _, _, _, _⟩) (v := ?_) rfl (by kernel_rfl) (by kernel_rfl) (by kernel_rfl) (fun _ _ _ h => h) (by rfl) ?_ HB3.out ?_
          rotate_left
          · intro W hW; have hq := HKQ.out W hW; go_simp; with_reducible rfl
          simp only [Act.put, List.setIfInBounds_toArray, List.set_cons_zero, List.set_cons_succ]
          refine take_in (i := 16) (oi := ⟨_, _, _, _, _, _⟩) (v := ?_) rfl (by kernel_rfl) (by kernel_rfl) (by kernel_rfl) (fun _ _ _ h => h) (by rfl) ?_ HB3.out ?_
          rotate_left
          · intro W hW; have hq := HKQ.out W hW; go_simp; with_reducible rfl
          simp only [Act.put, List.setIfInBounds_toArray, List.set_cons_zero, List.set_cons_succ]
          refine wpAnyH_ready (rs := [14]) (by kernel_rfl) (by simp) ?_
          refine AllReadyH.cons (o := ⟨_, _, _, _, _, _⟩) rfl (fun K hK => ?_) AllReadyH.nil
          go_simp
          refine (Dkw.safe_c _ _ F8 _ (HD2.out.all HB3.out)).mono ?_
          rintro e v3 ⟨rfl, hb⟩
          have HB4 := Lib.hid (HB3.out.trans (hb.mono HB3.out.size)); clear hb
          refine hK.out _ _ HB4.out (fun _ => ?_)
          clear hK K
          refine take_in (i := 17) (oi := ⟨_, _, _, _, _, _⟩) (v := ?_) rfl (by kernel_rfl) (by kernel_rfl) (by kernel_rfl) (fun _ _ _ h => h) (by rfl) ?_ HB4.out ?_
          rotate_left
          · intro W hW; have hq := HKQ.out W hW; go_simp; with_reducible rfl
          simp only [Act.put, List.setIfInBounds_toArray, List.set_cons_zero, List.set_cons_succ]
          refine take_in (i := 18) (oi := ⟨_, _, _, _, _, _⟩) (v := ?_) rfl (by kernel_rfl) (by kernel_rfl) (by kernel_rfl) (fun _ _ _ h => h) (by rfl) ?_ HB4.out ?_
          rotate_left
          · intro W hW; have hq := HKQ.out W hW; go_simp; with_reducible rfl
          simp only [Act.put, List.setIfInBounds_toArray, List.set_cons_zero, List.set_cons_succ]
          refine take_in (i := 19) (oi := ⟨_, _, _, _, _, _⟩) (v := ?_) rfl (by kernel_rfl) (by kernel_rfl) (by kernel_rfl) (fun _ _ _ h => h) (by rfl) ?_ HB4.out ?_
          rotate_left
          · intro W hW; have hq := HKQ.out W hW; go_simp; with_reducible rfl
          simp only [Act.put, List.setIfInBounds_toArray, List.set_cons_zero, List.set_cons_succ]
          refine take_in (i := 20) (oi := ⟨_, _, _, _, _, _⟩) (v := ?_) rfl (by kernel_rfl) (by kernel_rfl) (by kernel_rfl) (fun _ _ _ h => h) (by rfl) ?_ HB4.out ?_
          rotate_left
          · intro W hW; have hq := HKQ.out W hW; go_simp; with_reducible rfl
          simp only [Act.put, List.setIfInBounds_toArray, List.set_cons_zero, List.set_cons_succ]
          refine take_in (i := 22) (oi := ⟨_, _, _, _, _, _⟩) (v := ?_) rfl (by kernel_rfl) (by kernel_rfl) (by kernel_rfl) (fun _ _ _ h => h) (by rfl) ?_ HB4.out ?_
          rotate_left
          · intro W hW; have hq := HKQ.out W hW; go_simp; with_reducible rfl
          simp only [Act.put, List.setIfInBounds_toArray, List.set_cons_zero, List.set_cons_succ]
          refine take_in (i := 23) (oi := ⟨_, _, _, _, _, _⟩) (v := ?_) rfl (by kernel_rfl) (by kernel_rfl) (by kernel_rfl) (fun _ _ _ h => h) (by rfl) ?_ HB4.out ?_
          rotate_left
          · intro W hW; have hq := HKQ.out W hW; go_simp; with_reducible rfl
          simp only [Act.put, List.setIfInBounds_toArray, List.set_cons_zero, List.set_cons_succ]
          refine wpAnyH_ready (rs := [21]) (by kernel_rfl) (by simp) ?_
          refine AllReadyH.cons (o := ⟨_, _, _, _, _, _⟩) rfl (fun K hK => ?_) AllReadyH.nil
          go_simp
          refine (Dkw.off_c _ _ F8 _ (HD2.out.all HB4.out)).mono ?_
          rintro e v4 ⟨rfl, hb⟩
          have HB5 := Lib.hid (HB4.out.trans (hb.mono HB4.out.size)); clear hb
          refine hK.out _ _ HB5.out (fun _ => ?_)
          clear hK K
          refine take_in (i := 24) (oi := ⟨_, _, _, _, _, _⟩) (v := ?_) rfl (by kernel_rfl) (by kernel_rfl) (by kernel_rfl) (fun _ _ _ h => h) (by rfl) ?_ HB5.out ?_
          rotate_left
          · intro W hW; go_simp; with_reducible rfl
          simp only [Act.put, List.setIfInBounds_toArray, List.set_cons_zero, List.set_cons_succ]
          refine take_in (i := 25) (oi := ⟨_, _, _, _, _, _⟩) (v := ?_) rfl (by kernel_rfl) (by kernel_rfl) (by kernel_rfl) (fun _ _ _ h => h) (by rfl) ?_ HB5.out ?_
          rotate_left
          · intro W hW; go_simp; with_reducible rfl
          simp only [Act.put, List.setIfInBounds_toArray, List.set_cons_zero, List.set_cons_succ]
          refine take_in (i := 26) (oi := ⟨_, _, _, _, _, _⟩) (v := ?_) rfl (by kernel_rfl) (by kernel_rfl) (by kernel_rfl) (fun _ _ _ h => h) (by rfl) ?_ HB5.out ?_
          rotate_left
          · intro W hW; go_simp; with_reducible rfl
          simp only [Act.put, List.setIfInBounds_toArray, List.set_cons_zero, List.set_cons_succ]
          refine take_in (i := 27) (oi := ⟨_, _, _, _, _, _⟩) (v := ?_) rfl (by kernel_rfl) (by kernel_rfl) (by kernel_rfl) (fun _ _ _ h => h) (by rfl) ?_ HB5.out ?_
          rotate_left
          · intro W hW; go_simp; with_reducible rfl
          simp only [Act.put, List.setIfInBounds_toArray, List.set_cons_zero, List.set_cons_succ]
          refine take_in (i := 29) (oi := ⟨_, _, _, _, _, _⟩) (v := ?_) rfl (by kernel_rfl) (by kernel_rfl) (by kernel_rfl) (fun _ _ _ h => h) (by rfl) ?_ HB5.out ?_
          rotate_left
          · intro W hW; go_simp; with_reducible rfl
          simp only [Act.put, List.setIfInBounds_toArray, List.set_cons_zero, List.set_cons_succ]
          refine wpAnyH_ready (rs := [28]) (by kernel_rfl) (by simp) ?_
          refine AllReadyH.cons (o := ⟨_, _, _, _, _, _⟩) rfl (fun K hK => ?_) AllReadyH.nil
          go_simp
          refine (read_c _ _ F8 _ (HD2.out.all HB5.out)).mono ?_
          rintro e v5 ⟨A28, n28, c28, rs28, m28, rfl, hsc, hsr, hb⟩
          obtain ⟨rfl, _⟩ := scans_one hsc HSC.out
          have HSR28 := Lib.hid hsr
          have HB6 := Lib.hid (HB5.out.trans (hb.mono HB5.out.size)); clear hb hsc hsr
          refine hK.out _ _ HB6.out (fun _ => ?_)
          clear hK K
          refine wpAnyH_ready (rs := [30]) (by kernel_rfl) (by simp) ?_
          refine AllReadyH.cons (o := ⟨_, _, _, _, _, _⟩) rfl (fun K hK => ?_) AllReadyH.nil
          go_simp
          refine (same_r _ _ _ _ _ _ _ _ _ HSR28.out (HS2.out.all HB6.out)).mono ?_
          rw [sameR_refl]
          rintro e v6 ⟨rfl, hb⟩
          have HB7 := Lib.hid (HB6.out.trans (hb.mono HB6.out.size)); clear hb
          refine hK.out _ _ HB7.out (fun _ => ?_)
          clear hK K
          refine take_in (i := 31) (oi := ⟨_, _, _, _, _, _⟩) (v := ?_) rfl (by kernel_rfl) (by kernel_rfl) (by kernel_rfl) (fun _ _ _ h => h) (by rfl) ?_ HB7.out ?_
          rotate_left
          · intro W hW; go_simp; with_reducible rfl
          simp only [Act.put, List.setIfInBounds_toArray, List.set_cons_zero, List.set_cons_succ]
          refine take_in (i := 32) (oi := ⟨_, _, _, _, _, _⟩) (v := ?_) rfl (by kernel_rfl) (by kernel_rfl) (by kernel_rfl) (fun _ _ _ h => h) (by rfl) ?_ HB7.out ?_
          rotate_left
          · intro W hW; go_simp; with_reducible rfl
          simp only [Act.put, List.setIfInBounds_toArray, List.set_cons_zero, List.set_cons_succ]
          refine wpAnyH_done (by kernel_rfl) ?_ _
          have HB8 := Lib.hid (HB2.out.trans (HB7.out.mono HB2.out.size))
          go_wp2
          exact ⟨⟨k + 1, _, F8, by go_num, by omega, HD.out.all HB8.out, HRW.out.all HB8.out, HF.out, HB.out.trans (HB8.out.mono HB.out.size)⟩, by simp [intOf]; omega⟩
        · go_upto_region 25 with (fail)
          clear v0 u2
          obtain ⟨Aq, nq, cq, hxq, hnq, hcq, hrq, hfq⟩ := HRW.out
          have x0 := hxq.c0
          have HNQ := Lib.hid hnq; have HCQ := Lib.hid hcq; have HRQ := Lib.hid hrq.rd
          have HIV := Lib.hid HD.out.iv
          clear hxq hnq hcq hrq hfq
          go_wp2_with fail
          clear x0
          refine (scan_r Aq nq cq d.data HNQ.out HCQ.out (by have h1 := HNQ.out; have h2 := HIV.out.2.2.1; omega) w6 HRQ.out).mono ?_
          rintro e v0 ⟨A11, n11, c11, m11, rs11, rfl, hsc, hsr, hb⟩
          have HSC := Lib.hid hsc; have HSR := Lib.hid hsr
          have HRW := Lib.hid (HRW.out.all hb); have HD := Lib.hid (HD.out.all hb); have HB := Lib.hid (HB.out.trans (hb.mono HB.out.size))
          clear hsc hsr hb HNQ HCQ HRQ HIV
          go_upto_region 26 with (fail)
          obtain ⟨Aq, nq, cq, hxq, hnq, hcq, hrq, hfq⟩ := HRW.out
          have HKQ : Hid (∀ W', Below v0.heap.size v0 W' → (W'.cell? ⟨gw, 0, none⟩ = some (.slice Aq nq cq) ∧ W'.cell? ⟨gw, 1, none⟩ = some (.int .i64 d.safe) ∧ W'.cell? ⟨gw, 4, none⟩ = some (.bool d.off)) ∧ (convert 41 9 (.slice Aq nq cq)).run Try.prog W' = .ok (.string (str d.data)) W') := Lib.hid (fun W' h => ⟨⟨(hxq.all h).c0, (hxq.all h).c1, (hxq.all h).c4⟩, str8' cq (hrq.rd.below h) hnq⟩)
          clear hxq hnq hcq hrq hfq
          have hsm := Dkw.str_same d.data
          refine wp_region_held_drew (S := fun W' => Below v0.heap.size v0 W') (by kernel_rfl) (Below.refl _ _).drew (fun hHeld => ?_)
          generalize v0.drew = v1 at hHeld ⊢
          have HB1 : Hid (Below v0.heap.size v0 v1) := hHeld
          clear hHeld
          refine take_in (i := 0) (oi := ⟨_, _, _, _, _, _⟩) (v := ?_) rfl (by kernel_rfl) (by kernel_rfl) (by kernel_rfl) (fun _ _ _ h => h) (by rfl) ?_ HB1.out ?_
          rotate_left
          · intro W hW; have hq := HKQ.out W hW; go_simp; with_reducible rfl
          simp only [Act.put, List.setIfInBounds_toArray, List.set_cons_zero, List.set_cons_succ]
          refine take_in (i := 1) (oi := ⟨_, _, _, _, _, _⟩) (v := ?_) rfl (by kernel_rfl) (by kernel_rfl) (by kernel_rfl) (fun _ _ _ h => h) (by rfl) ?_ HB1.out ?_
          rotate_left
          · intro W hW; have hq := HKQ.out W hW; go_simp; with_reducible rfl
          simp only [Act.put, List.setIfInBounds_toArray, List.set_cons_zero, List.set_cons_succ]
          refine take_in (i := 2) (oi := ⟨_, _, _, _, _, _⟩) (v := ?_) rfl (by kernel_rfl) (by kernel_rfl) (by kernel_rfl) (fun _ _ _ h => h) (by rfl) ?_ HB1.out ?_
          rotate_left
          · intro W hW; have hq := HKQ.out W hW; go_simp; with_reducible rfl
          simp only [Act.put, List.setIfInBounds_toArray, List.set_cons_zero, List.set_cons_succ]
          refine take_in (i := 3) (oi := ⟨_, _, _, _, _, _⟩) (v := ?_) rfl (by kernel_rfl) (by kernel_rfl) (by kernel_rfl) (fun _ _ _ h => h) (by rfl) ?_ HB1.out ?_
          rotate_left
          · intro W hW; have hq := HKQ.out W hW; go_simp; with_reducible rfl
          simp only [Act.put, List.setIfInBounds_toArray, List.set_cons_zero, List.set_cons_succ]
          refine take_in (i := 4) (oi := ⟨_, _, _, _, _, _⟩) (v := ?_) rfl (by kernel_rfl) (by kernel_rfl) (by kernel_rfl) (fun _ _ _ h => h) (by rfl) ?_ HB1.out ?_
          rotate_left
          · intro W hW; have hq := HKQ.out W hW; go_simp; with_reducible rfl
          simp only [Act.put, List.setIfInBounds_toArray, List.set_cons_zero, List.set_cons_succ]
          refine take_in (i := 7) (oi := ⟨_, _, _, _, _, _⟩) (v := ?_) rfl (by kernel_rfl) (by kernel_rfl) (by kernel_rfl) (fun _ _ _ h => h) (by rfl) ?_ HB1.out ?_
          rotate_left
          · intro W hW; have hq := HKQ.out W hW; go_simp; with_reducible rfl
          simp only [Act.put, List.setIfInBounds_toArray, List.set_cons_zero, List.set_cons_succ]
          refine take_in (i := 8) (oi := ⟨_, _, _, _, _, _⟩) (v := ?_) rfl (by kernel_rfl) (by kernel_rfl) (by kernel_rfl) (fun _ _ _ h => h) (by rfl) ?_ HB1.out ?_
          rotate_left
          · intro W hW; have hq := HKQ.out W hW; go_simp; with_reducible rfl
          simp only [Act.put, List.setIfInBounds_toArray, List.set_cons_zero, List.set_cons_succ]
          refine take_in (i := 9) (oi := ⟨_, _, _, _, _, _⟩) (v := ?_) rfl (by kernel_rfl) (by kernel_rfl) (by kernel_rfl) (fun _ _ _ h => h) (by rfl) ?_ HB1.out ?_
          rotate_left
          · intro W hW; have hq := HKQ.out W hW; go_simp; with_reducible rfl
          simp only [Act.put, List.setIfInBounds_toArray, List.set_cons_zero, List.set_cons_succ]
          refine wpAnyH_ready (rs := [5]) (by kernel_rfl) (by simp) ?_
          refine AllReadyH.cons (o := ⟨_, _, _, _, _, _⟩) rfl (fun K hK => ?_) AllReadyH.nil
          go_simp
          refine (Dkw.bytes_c _ _ F _ (HD.out.all HB1.out)).mono ?_
          rintro e v2 ⟨A9, n9, c9, rfl, how, hb⟩
          have HO9 := Lib.hid how; clear how
          have HB2 := Lib.hid (HB1.out.trans (hb.mono HB1.out.size)); clear hb
          refine hK.out _ _ HB2.out (fun _ => ?_)
          clear hK K
          have HK9 : Hid (∀ W', Below v2.heap.size v2 W' → (convert 41 9 (.slice A9 n9 c9)).run Try.prog W' = .ok (.string (str d.data)) W') := Lib.hid (fun W' h => str8' c9 (HO9.out.rd.below h) HO9.out.1)
          refine tighten (S' := fun W' => Below v2.heap.size v2 W') (fun W' h => HB2.out.trans (h.mono HB2.out.size)) _ _ _ _ ?_
          have HB3 := Lib.hid (Below.refl v2.heap.size v2)
          have HD2 := Lib.hid (HD.out.all HB2.out)
          have HS2 := Lib.hid (HSR.out.all HB2.out)
          have HKQ : Hid (∀ W', Below v2.heap.size v2 W' → (W'.cell? ⟨gw, 0, none⟩ = some (.slice Aq nq cq) ∧ W'.cell? ⟨gw, 1, none⟩ = some (.int .i64 d.safe) ∧ W'.cell? ⟨gw, 4, none⟩ = some (.bool d.off))) := Lib.hid (fun W' h => (HKQ.out W' (HB2.out.trans (h.mono HB2.out.size))).1)
          refine take_in (i := 6) (oi := ⟨_, _, _, _, _, _⟩) (v := ?_) rfl (by kernel_rfl) (by kernel_rfl) (by kernel_rfl) (fun _ _ _ h => h) (by rfl) ?_ HB3.out ?_
          rotate_left
          · intro W hW; have hq := HK9.out W hW; go_simp; with_reducible rfl
          simp only [Act.put, List.setIfInBounds_toArray, List.set_cons_zero, List.set_cons_succ]
          refine take_in (i := 10) (oi := ⟨_, _, _, _, _, _⟩) (v := ?_) rfl (by kernel_rfl) (by kernel_rfl) (by kernel_rfl) (fun _ _ _ h => h) (by rfl) ?_ HB3.out ?_
          rotate_left
          · intro W hW; have hq := HKQ.out W hW; go_simp; with_reducible rfl
          simp only [Act.put, List.setIfInBounds_toArray, List.set_cons_zero, List.set_cons_succ]
          refine take_in (i := 11) (oi := ⟨_, _, _, _, _, _⟩) (v := ?_) rfl (by kernel_rfl) (by kernel_rfl) (by kernel_rfl) (fun _ _ _ h => h) (by rfl) ?_ HB3.out ?_
          rotate_left
          · intro W hW; have hq := HKQ.out W hW; go_simp; with_reducible rfl
          simp only [Act.put, List.setIfInBounds_toArray, List.set_cons_zero, List.set_cons_succ]
          refine take_in (i := 12) (oi := ⟨_, _, _, _, _, _⟩) (v := ?_) rfl (by kernel_rfl) (by kernel_rfl) (by kernel_rfl) (fun _ _ _ h => h) (by rfl) ?_ HB3.out ?_
          rotate_left
          · intro W hW; have hq := HKQ.out W hW; go_simp; with_reducible rfl
          simp only [Act.put, List.setIfInBounds_toArray, List.set_cons_zero, List.set_cons_succ]
          refine take_in (i := 13) (oi := ⟨_, _, _, _, _, _⟩) (v := ?_) rfl (by kernel_rfl) (by kernel_rfl) (by kernel_rfl) (fun _ _ _ h => h) (by rfl) ?_ HB3.out ?_
          rotate_left
          · intro W hW; have hq := HKQ.out W hW; go_simp; with_reducible rfl
          simp only [Act.put, List.setIfInBounds_toArray, List.set_cons_zero, List.set_cons_succ]
          refine take_in (i := 15) (oi := ⟨_, _, _, _, _, _⟩) (v := ?_) rfl (by kernel_rfl) (by kernel_rfl) (by kernel_rfl) (fun _ _ _ h => h) (by rfl) ?_ HB3.out ?_
          rotate_left
          · intro W hW; have hq := HKQ.out W hW; go_simp; with_reducible rfl
          simp only [Act.put, List.setIfInBounds_toArray, List.set_cons_zero, List.set_cons_succ]
          refine take_in (i := 16) (oi := ⟨_, _, _, _, _, _⟩) (v := ?_) rfl (by kernel_rfl) (by kernel_rfl) (by kernel_rfl) (fun _ _ _ h => h) (by rfl) ?_ HB3.out ?_
          rotate_left
          · intro W hW; have hq := HKQ.out W hW; go_simp; with_reducible rfl
          simp only [Act.put, List.setIfInBounds_toArray, List.set_cons_zero, List.set_cons_succ]
          refine wpAnyH_ready (rs := [14]) (by kernel_rfl) (by simp) ?_
          refine AllReadyH.cons (o := ⟨_, _, _, _, _, _⟩) rfl (fun K hK => ?_) AllReadyH.nil
          go_simp
          refine (Dkw.safe_c _ _ F _ (HD2.out.all HB3.out)).mono ?_
          rintro e v3 ⟨rfl, hb⟩
          have HB4 := Lib.hid (HB3.out.trans (hb.mono HB3.out.size)); clear hb
          refine hK.out _ _ HB4.out (fun _ => ?_)
          clear hK K
          refine take_in (i := 17) (oi := ⟨_, _, _, _, _, _⟩) (v := ?_) rfl (by kernel_rfl) (by kernel_rfl) (by kernel_rfl) (fun _ _ _ h => h) (by rfl) ?_ HB4.out ?_
          rotate_left
          · intro W hW; have hq := HKQ.out W hW; go_simp; with_reducible rfl
          simp only [Act.put, List.setIfInBounds_toArray, List.set_cons_zero, List.set_cons_succ]
          refine take_in (i := 18) (oi := ⟨_, _, _, _, _, _⟩) (v := ?_) rfl (by kernel_rfl) (by kernel_rfl) (by kernel_rfl) (fun _ _ _ h => h) (by rfl) ?_ HB4.out ?_
          rotate_left
          · intro W hW; have hq := HKQ.out W hW; go_simp; with_reducible rfl
          simp only [Act.put, List.setIfInBounds_toArray, List.set_cons_zero, List.set_cons_succ]
          refine take_in (i := 19) (oi := ⟨_, _, _, _, _, _⟩) (v := ?_) rfl (by kernel_rfl) (by kernel_rfl) (by kernel_rfl) (fun _ _ _ h => h) (by rfl) ?_ HB4.out ?_
          rotate_left
          · intro W hW; have hq := HKQ.out W hW; go_simp; with_reducible rfl
          simp only [Act.put, List.setIfInBounds_toArray, List.set_cons_zero, List.set_cons_succ]
          refine take_in (i := 20) (oi := ⟨_, _, _, _, _, _⟩) (v := ?_) rfl (by kernel_rfl) (by kernel_rfl) (by kernel_rfl) (fun _ _ _ h => h) (by rfl) ?_ HB4.out ?_
          rotate_left
          · intro W hW; have hq := HKQ.out W hW; go_simp; with_reducible rfl
          simp only [Act.put, List.setIfInBounds_toArray, List.set_cons_zero, List.set_cons_succ]
          refine take_in (i := 22) (oi := ⟨_, _, _, _, _, _⟩) (v := ?_) rfl (by kernel_rfl) (by kernel_rfl) (by kernel_rfl) (fun _ _ _ h => h) (by rfl) ?_ HB4.out ?_
          rotate_left
          · intro W hW; have hq := HKQ.out W hW; go_simp; with_reducible rfl
          simp only [Act.put, List.setIfInBounds_toArray, List.set_cons_zero, List.set_cons_succ]
          refine take_in (i := 23) (oi := ⟨_, _, _, _, _, _⟩) (v := ?_) rfl (by kernel_rfl) (by kernel_rfl) (by kernel_rfl) (fun _ _ _ h => h) (by rfl) ?_ HB4.out ?_
          rotate_left
          · intro W hW; have hq := HKQ.out W hW; go_simp; with_reducible rfl
          simp only [Act.put, List.setIfInBounds_toArray, List.set_cons_zero, List.set_cons_succ]
          refine wpAnyH_ready (rs := [21]) (by kernel_rfl) (by simp) ?_
          refine AllReadyH.cons (o := ⟨_, _, _, _, _, _⟩) rfl (fun K hK => ?_) AllReadyH.nil
          go_simp
          refine (Dkw.off_c _ _ F _ (HD2.out.all HB4.out)).mono ?_
          rintro e v4 ⟨rfl, hb⟩
          have HB5 := Lib.hid (HB4.out.trans (hb.mono HB4.out.size)); clear hb
          refine hK.out _ _ HB5.out (fun _ => ?_)
          clear hK K
          refine take_in (i := 24) (oi := ⟨_, _, _, _, _, _⟩) (v := ?_) rfl (by kernel_rfl) (by kernel_rfl) (by kernel_rfl) (fun _ _ _ h => h) (by rfl) ?_ HB5.out ?_
          rotate_left
          · intro W hW; go_simp; with_reducible rfl
          simp only [Act.put, List.setIfInBounds_toArray, List.set_cons_zero, List.set_cons_succ]
          refine take_in (i := 25) (oi := ⟨_, _, _, _, _, _⟩) (v := ?_) rfl (by kernel_rfl) (by kernel_rfl) (by kernel_rfl) (fun _ _ _ h => h) (by rfl) ?_ HB5.out ?_
          rotate_left
          · intro W hW; go_simp; with_reducible rfl
          simp only [Act.put, List.setIfInBounds_toArray, List.set_cons_zero, List.set_cons_succ]
          refine take_in (i := 26) (oi := ⟨_, _, _, _, _, _⟩) (v := ?_) rfl (by kernel_rfl) (by kernel_rfl) (by kernel_rfl) (fun _ _ _ h => h) (by rfl) ?_ HB5.out ?_
          rotate_left
          · intro W hW; go_simp; with_reducible rfl
          simp only [Act.put, List.setIfInBounds_toArray, List.set_cons_zero, List.set_cons_succ]
          refine take_in (i := 27) (oi := ⟨_, _, _, _, _, _⟩) (v := ?_) rfl (by kernel_rfl) (by kernel_rfl) (by kernel_rfl) (fun _ _ _ h => h) (by rfl) ?_ HB5.out ?_
          rotate_left
          · intro W hW; go_simp; with_reducible rfl
          simp only [Act.put, List.setIfInBounds_toArray, List.set_cons_zero, List.set_cons_succ]
          refine take_in (i := 29) (oi := ⟨_, _, _, _, _, _⟩) (v := ?_) rfl (by kernel_rfl) (by kernel_rfl) (by kernel_rfl) (fun _ _ _ h => h) (by rfl) ?_ HB5.out ?_
          rotate_left
          · intro W hW; go_simp; with_reducible rfl
          simp only [Act.put, List.setIfInBounds_toArray, List.set_cons_zero, List.set_cons_succ]
          refine wpAnyH_ready (rs := [28]) (by kernel_rfl) (by simp) ?_
          refine AllReadyH.cons (o := ⟨_, _, _, _, _, _⟩) rfl (fun K hK => ?_) AllReadyH.nil
          go_simp
          refine (read_c _ _ F _ (HD2.out.all HB5.out)).mono ?_
          rintro e v5 ⟨A28, n28, c28, rs28, m28, rfl, hsc, hsr, hb⟩
          obtain ⟨rfl, _⟩ := scans_one hsc HSC.out
          have HSR28 := Lib.hid hsr
          have HB6 := Lib.hid (HB5.out.trans (hb.mono HB5.out.size)); clear hb hsc hsr
          refine hK.out _ _ HB6.out (fun _ => ?_)
          clear hK K
          refine wpAnyH_ready (rs := [30]) (by kernel_rfl) (by simp) ?_
          refine AllReadyH.cons (o := ⟨_, _, _, _, _, _⟩) rfl (fun K hK => ?_) AllReadyH.nil
          go_simp
          refine (same_r _ _ _ _ _ _ _ _ _ HSR28.out (HS2.out.all HB6.out)).mono ?_
          rw [sameR_refl]
          rintro e v6 ⟨rfl, hb⟩
          have HB7 := Lib.hid (HB6.out.trans (hb.mono HB6.out.size)); clear hb
          refine hK.out _ _ HB7.out (fun _ => ?_)
          clear hK K
          refine take_in (i := 31) (oi := ⟨_, _, _, _, _, _⟩) (v := ?_) rfl (by kernel_rfl) (by kernel_rfl) (by kernel_rfl) (fun _ _ _ h => h) (by rfl) ?_ HB7.out ?_
          rotate_left
          · intro W hW; go_simp; with_reducible rfl
          simp only [Act.put, List.setIfInBounds_toArray, List.set_cons_zero, List.set_cons_succ]
          refine take_in (i := 32) (oi := ⟨_, _, _, _, _, _⟩) (v := ?_) rfl (by kernel_rfl) (by kernel_rfl) (by kernel_rfl) (fun _ _ _ h => h) (by rfl) ?_ HB7.out ?_
          rotate_left
          · intro W hW; go_simp; with_reducible rfl
          simp only [Act.put, List.setIfInBounds_toArray, List.set_cons_zero, List.set_cons_succ]
          refine wpAnyH_done (by kernel_rfl) ?_ _
          have HB8 := Lib.hid (HB2.out.trans (HB7.out.mono HB2.out.size))
          go_wp2
          exact ⟨⟨k + 1, _, F, by go_num, by omega, HD.out.all HB8.out, HRW.out.all HB8.out, HF.out, HB.out.trans (HB8.out.mono HB.out.size)⟩, by simp [intOf]; omega⟩
      have z0 : (ki == 0) = false := by rw [beq_eq_false_iff_ne]; exact e0
      clear e0
      by_cases e1 : ki = 1
      · skip
        have z1 : (ki == 1) = true := by rw [beq_iff_eq]; exact e1
        clear e1
        have u1 : w6.cell? ⟨ga, 1, none⟩ = some (.int .i64 nu) := by rw [cell_of_row _ _ _ _ _ _ VA.out.1]; rfl
        go_wp2_with fail
        clear v0 u1
        refine (Dkw.crash_c _ _ nu HNU.out F _ HD.out).mono ?_
        rintro e w7 ⟨F7, rfl, hd, hg⟩
        have VA := Lib.hid (VA.out.keep hg); have HRW := Lib.hid (HRW.out.keep hg)
        have hg2 := hg.below HB.out.size HF.out
        have HD := Lib.hid hd; have HF := Lib.hid hg2.2; have HB := Lib.hid (HB.out.trans hg2.1)
        clear hd hg hg2

        obtain ⟨Aw, nw, cw, hxw, hnw, hcw, hrw, hfw⟩ := HRW.out
        have HVD : Hid (Ds w7 (fun k => F7 k ∨ k = gw) (dv Aw nw cw d) d) := Lib.hid ⟨Aw, nw, cw, rfl, hnw, hcw, hrw⟩
        have HGL : Hid (∀ k, (F7 k ∨ k = gw) → k < w7.heap.size) := Lib.hid (fun k h => h.elim (HD.out.lt k) (fun h => h ▸ hxw.lt))
        have x0 := hxw.c0; have x1 := hxw.c1; have x2 := hxw.c2; have x3 := hxw.c3; have x4 := hxw.c4
        have u1 : w7.cell? ⟨ga, 1, none⟩ = some (.int .i64 nu) := by rw [cell_of_row _ _ _ _ _ _ VA.out.1]; rfl
        clear hxw hnw hcw hrw hfw
        go_wp2_with fail
        clear x0 x1 x2 x3 x4 u1
        refine (Dkw.crash_r (dv Aw nw cw d) d nu (fun k => F7 k ∨ k = gw) _ HGL.out HVD.out HIV.out HNU.out.2).mono ?_
        rintro e w9 ⟨v, rfl, ⟨A9, n9, c9, rfl, hn9, hc9, hr9⟩, hb⟩
        have HRW := Lib.hid (HRW.out.all hb); have HD := Lib.hid (HD.out.all hb); have HB := Lib.hid (HB.out.trans (hb.mono HB.out.size)); clear hb
        have HN8 := Lib.hid hn9; have HC8 := Lib.hid hc9; have HR8 := Lib.hid hr9
        clear hn9 hc9 hr9 HVD HGL HIV
        generalize crashD d nu = d2 at HD HN8 HR8 ⊢

        obtain ⟨_, _, _, hxw, _, _, _, hfw⟩ := HRW.out
        have x0 := hxw.c0; have x1 := hxw.c1; have x2 := hxw.c2; have x3 := hxw.c3; have x4 := hxw.c4
        have f0 := frozen_of_row w9 gw 0 _ _ hxw
        have f1 := frozen_of_row w9 gw 1 _ _ hxw
        have f2 := frozen_of_row w9 gw 2 _ _ hxw
        have f3 := frozen_of_row w9 gw 3 _ _ hxw
        have f4 := frozen_of_row w9 gw 4 _ _ hxw
        have HFW := Lib.hid hfw
        clear hxw hfw
        unfold dv
        go_upto_region 25 with (fail)
        clear x0 x1 x2 x3 x4 f0 f1 f2 f3 f4
        have HRW := Lib.hid (HRW.out.store HN8.out HC8.out HR8.out)
        have HD := Lib.hid (show Dd (((((w9.setCell ⟨gw, 0, none⟩ (.slice A9 n9 c9)).setCell ⟨gw, 1, none⟩ (.int .i64 d2.safe)).setCell ⟨gw, 2, none⟩ (.int .i64 d2.room)).setCell ⟨gw, 3, none⟩ (.int .i64 d2.fuse)).setCell ⟨gw, 4, none⟩ (.bool d2.off)) F7 _ d2 from ((((HD.out.setCell HFW.out _).setCell HFW.out _).setCell HFW.out _).setCell HFW.out _).setCell HFW.out _)
        have HB := Lib.hid (show Below w.heap.size w (((((w9.setCell ⟨gw, 0, none⟩ (.slice A9 n9 c9)).setCell ⟨gw, 1, none⟩ (.int .i64 d2.safe)).setCell ⟨gw, 2, none⟩ (.int .i64 d2.room)).setCell ⟨gw, 3, none⟩ (.int .i64 d2.fuse)).setCell ⟨gw, 4, none⟩ (.bool d2.off)) from ((((HB.out.setCell hgw _).setCell hgw _).setCell hgw _).setCell hgw _).setCell hgw _)
        generalize (((((w9.setCell ⟨gw, 0, none⟩ (.slice A9 n9 c9)).setCell ⟨gw, 1, none⟩ (.int .i64 d2.safe)).setCell ⟨gw, 2, none⟩ (.int .i64 d2.room)).setCell ⟨gw, 3, none⟩ (.int .i64 d2.fuse)).setCell ⟨gw, 4, none⟩ (.bool d2.off)) = wq at HRW HD HB ⊢
        clear HN8 HC8 HR8 HFW

        obtain ⟨Aq, nq, cq, hxq, hnq, hcq, hrq, hfq⟩ := HRW.out
        have x0 := hxq.c0
        have HNQ := Lib.hid hnq; have HCQ := Lib.hid hcq; have HRQ := Lib.hid hrq.rd
        have HIV := Lib.hid HD.out.iv
        clear hxq hnq hcq hrq hfq
        go_wp2_with fail
        clear x0
        refine (scan_r Aq nq cq d2.data HNQ.out HCQ.out (by have h1 := HNQ.out; have h2 := HIV.out.2.2.1; omega) wq HRQ.out).mono ?_
        rintro e v0 ⟨A11, n11, c11, m11, rs11, rfl, hsc, hsr, hb⟩
        have HSC := Lib.hid hsc; have HSR := Lib.hid hsr
        have HRW := Lib.hid (HRW.out.all hb); have HD := Lib.hid (HD.out.all hb); have HB := Lib.hid (HB.out.trans (hb.mono HB.out.size))
        clear hsc hsr hb HNQ HCQ HRQ HIV
        go_upto_region 26 with (fail)
        obtain ⟨Aq, nq, cq, hxq, hnq, hcq, hrq, hfq⟩ := HRW.out
        have HKQ : Hid (∀ W', Below v0.heap.size v0 W' → (W'.cell? ⟨gw, 0, none⟩ = some (.slice Aq nq cq) ∧ W'.cell? ⟨gw, 1, none⟩ = some (.int .i64 d2.safe) ∧ W'.cell? ⟨gw, 4, none⟩ = some (.bool d2.off)) ∧ (convert 41 9 (.slice Aq nq cq)).run Try.prog W' = .ok (.string (str d2.data)) W') := Lib.hid (fun W' h => ⟨⟨(hxq.all h).c0, (hxq.all h).c1, (hxq.all h).c4⟩, str8' cq (hrq.rd.below h) hnq⟩)
        clear hxq hnq hcq hrq hfq
        have hsm := Dkw.str_same d2.data
        refine wp_region_held_drew (S := fun W' => Below v0.heap.size v0 W') (by kernel_rfl) (Below.refl _ _).drew (fun hHeld => ?_)
        generalize v0.drew = v1 at hHeld ⊢
        have HB1 : Hid (Below v0.heap.size v0 v1) := hHeld
        clear hHeld
        refine take_in (i := 0) (oi := ⟨_, _, _, _, _, _⟩) (v := ?_) rfl (by kernel_rfl) (by kernel_rfl) (by kernel_rfl) (fun _ _ _ h => h) (by rfl) ?_ HB1.out ?_
        rotate_left
        · intro W hW; have hq := HKQ.out W hW; go_simp; with_reducible rfl
        simp only [Act.put, List.setIfInBounds_toArray, List.set_cons_zero, List.set_cons_succ]
        refine take_in (i := 1) (oi := ⟨_, _, _, _, _, _⟩) (v := ?_) rfl (by kernel_rfl) (by kernel_rfl) (by kernel_rfl) (fun _ _ _ h => h) (by rfl) ?_ HB1.out ?_
        rotate_left
        · intro W hW; have hq := HKQ.out W hW; go_simp; with_reducible rfl
        simp only [Act.put, List.setIfInBounds_toArray, List.set_cons_zero, List.set_cons_succ]
        refine take_in (i := 2) (oi := ⟨_, _, _, _, _, _⟩) (v := ?_) rfl (by kernel_rfl) (by kernel_rfl) (by kernel_rfl) (fun _ _ _ h => h) (by rfl) ?_ HB1.out ?_
        rotate_left
        · intro W hW; have hq := HKQ.out W hW; go_simp; with_reducible rfl
        simp only [Act.put, List.setIfInBounds_toArray, List.set_cons_zero, List.set_cons_succ]
        refine take_in (i := 3) (oi := ⟨_, _, _, _, _, _⟩) (v := ?_) rfl (by kernel_rfl) (by kernel_rfl) (by kernel_rfl) (fun _ _ _ h => h) (by rfl) ?_ HB1.out ?_
        rotate_left
        · intro W hW; have hq := HKQ.out W hW; go_simp; with_reducible rfl
        simp only [Act.put, List.setIfInBounds_toArray, List.set_cons_zero, List.set_cons_succ]
        refine take_in (i := 4) (oi := ⟨_, _, _, _, _, _⟩) (v := ?_) rfl (by kernel_rfl) (by kernel_rfl) (by kernel_rfl) (fun _ _ _ h => h) (by rfl) ?_ HB1.out ?_
        rotate_left
        · intro W hW; have hq := HKQ.out W hW; go_simp; with_reducible rfl
        simp only [Act.put, List.setIfInBounds_toArray, List.set_cons_zero, List.set_cons_succ]
        refine take_in (i := 7) (oi := ⟨_, _, _, _, _, _⟩) (v := ?_) rfl (by kernel_rfl) (by kernel_rfl) (by kernel_rfl) (fun _ _ _ h => h) (by rfl) ?_ HB1.out ?_
        rotate_left
        · intro W hW; have hq := HKQ.out W hW; go_simp; with_reducible rfl
        simp only [Act.put, List.setIfInBounds_toArray, List.set_cons_zero, List.set_cons_succ]
        refine take_in (i := 8) (oi := ⟨_, _, _, _, _, _⟩) (v := ?_) rfl (by kernel_rfl) (by kernel_rfl) (by kernel_rfl) (fun _ _ _ h => h) (by rfl) ?_ HB1.out ?_
        rotate_left
        · intro W hW; have hq := HKQ.out W hW; go_simp; with_reducible rfl
        simp only [Act.put, List.setIfInBounds_toArray, List.set_cons_zero, List.set_cons_succ]
        refine take_in (i := 9) (oi := ⟨_, _, _, _, _, _⟩) (v := ?_) rfl (by kernel_rfl) (by kernel_rfl) (by kernel_rfl) (fun _ _ _ h => h) (by rfl) ?_ HB1.out ?_
        rotate_left
        · intro W hW; have hq := HKQ.out W hW; go_simp; with_reducible rfl
        simp only [Act.put, List.setIfInBounds_toArray, List.set_cons_zero, List.set_cons_succ]
        refine wpAnyH_ready (rs := [5]) (by kernel_rfl) (by simp) ?_
        refine AllReadyH.cons (o := ⟨_, _, _, _, _, _⟩) rfl (fun K hK => ?_) AllReadyH.nil
        go_simp
        refine (Dkw.bytes_c _ _ F7 _ (HD.out.all HB1.out)).mono ?_
        rintro e v2 ⟨A9, n9, c9, rfl, how, hb⟩
        have HO9 := Lib.hid how; clear how
        have HB2 := Lib.hid (HB1.out.trans (hb.mono HB1.out.size)); clear hb
        refine hK.out _ _ HB2.out (fun _ => ?_)
        clear hK K
        have HK9 : Hid (∀ W', Below v2.heap.size v2 W' → (convert 41 9 (.slice A9 n9 c9)).run Try.prog W' = .ok (.string (str d2.data)) W') := Lib.hid (fun W' h => str8' c9 (HO9.out.rd.below h) HO9.out.1)
        refine tighten (S' := fun W' => Below v2.heap.size v2 W') (fun W' h => HB2.out.trans (h.mono HB2.out.size)) _ _ _ _ ?_
        have HB3 := Lib.hid (Below.refl v2.heap.size v2)
        have HD2 := Lib.hid (HD.out.all HB2.out)
        have HS2 := Lib.hid (HSR.out.all HB2.out)
        have HKQ : Hid (∀ W', Below v2.heap.size v2 W' → (W'.cell? ⟨gw, 0, none⟩ = some (.slice Aq nq cq) ∧ W'.cell? ⟨gw, 1, none⟩ = some (.int .i64 d2.safe) ∧ W'.cell? ⟨gw, 4, none⟩ = some (.bool d2.off))) := Lib.hid (fun W' h => (HKQ.out W' (HB2.out.trans (h.mono HB2.out.size))).1)
        refine take_in (i := 6) (oi := ⟨_, _, _, _, _, _⟩) (v := ?_) rfl (by kernel_rfl) (by kernel_rfl) (by kernel_rfl) (fun _ _ _ h => h) (by rfl) ?_ HB3.out ?_
        rotate_left
        · intro W hW; have hq := HK9.out W hW; go_simp; with_reducible rfl
        simp only [Act.put, List.setIfInBounds_toArray, List.set_cons_zero, List.set_cons_succ]
        refine take_in (i := 10) (oi := ⟨_, _, _, _, _, _⟩) (v := ?_) rfl (by kernel_rfl) (by kernel_rfl) (by kernel_rfl) (fun _ _ _ h => h) (by rfl) ?_ HB3.out ?_
        rotate_left
        · intro W hW; have hq := HKQ.out W hW; go_simp; with_reducible rfl
        simp only [Act.put, List.setIfInBounds_toArray, List.set_cons_zero, List.set_cons_succ]
        refine take_in (i := 11) (oi := ⟨_, _, _, _, _, _⟩) (v := ?_) rfl (by kernel_rfl) (by kernel_rfl) (by kernel_rfl) (fun _ _ _ h => h) (by rfl) ?_ HB3.out ?_
        rotate_left
        · intro W hW; have hq := HKQ.out W hW; go_simp; with_reducible rfl
        simp only [Act.put, List.setIfInBounds_toArray, List.set_cons_zero, List.set_cons_succ]
        refine take_in (i := 12) (oi := ⟨_, _, _, _, _, _⟩) (v := ?_) rfl (by kernel_rfl) (by kernel_rfl) (by kernel_rfl) (fun _ _ _ h => h) (by rfl) ?_ HB3.out ?_
        rotate_left
        · intro W hW; have hq := HKQ.out W hW; go_simp; with_reducible rfl
        simp only [Act.put, List.setIfInBounds_toArray, List.set_cons_zero, List.set_cons_succ]
        refine take_in (i := 13) (oi := ⟨_, _, _, _, _, _⟩) (v := ?_) rfl (by kernel_rfl) (by kernel_rfl) (by kernel_rfl) (fun _ _ _ h => h) (by rfl) ?_ HB3.out ?_
        rotate_left
        · intro W hW; have hq := HKQ.out W hW; go_simp; with_reducible rfl
        simp only [Act.put, List.setIfInBounds_toArray, List.set_cons_zero, List.set_cons_succ]
        refine take_in (i := 15) (oi := ⟨_, _, _, _, _, _⟩) (v := ?_) rfl (by kernel_rfl) (by kernel_rfl) (by kernel_rfl) (fun _ _ _ h => h) (by rfl) ?_ HB3.out ?_
        rotate_left
        · intro W hW; have hq := HKQ.out W hW; go_simp; with_reducible rfl
        simp only [Act.put, List.setIfInBounds_toArray, List.set_cons_zero, List.set_cons_succ]
        refine take_in (i := 16) (oi := ⟨_, _, _, _, _, _⟩) (v := ?_) rfl (by kernel_rfl) (by kernel_rfl) (by kernel_rfl) (fun _ _ _ h => h) (by rfl) ?_ HB3.out ?_
        rotate_left
        · intro W hW; have hq := HKQ.out W hW; go_simp; with_reducible rfl
        simp only [Act.put, List.setIfInBounds_toArray, List.set_cons_zero, List.set_cons_succ]
        refine wpAnyH_ready (rs := [14]) (by kernel_rfl) (by simp) ?_
        refine AllReadyH.cons (o := ⟨_, _, _, _, _, _⟩) rfl (fun K hK => ?_) AllReadyH.nil
        go_simp
        refine (Dkw.safe_c _ _ F7 _ (HD2.out.all HB3.out)).mono ?_
        rintro e v3 ⟨rfl, hb⟩
        have HB4 := Lib.hid (HB3.out.trans (hb.mono HB3.out.size)); clear hb
        refine hK.out _ _ HB4.out (fun _ => ?_)
        clear hK K
        refine take_in (i := 17) (oi := ⟨_, _, _, _, _, _⟩) (v := ?_) rfl (by kernel_rfl) (by kernel_rfl) (by kernel_rfl) (fun _ _ _ h => h) (by rfl) ?_ HB4.out ?_
        rotate_left
        · intro W hW; have hq := HKQ.out W hW; go_simp; with_reducible rfl
        simp only [Act.put, List.setIfInBounds_toArray, List.set_cons_zero, List.set_cons_succ]
        refine take_in (i := 18) (oi := ⟨_, _, _, _, _, _⟩) (v := ?_) rfl (by kernel_rfl) (by kernel_rfl) (by kernel_rfl) (fun _ _ _ h => h) (by rfl) ?_ HB4.out ?_
        rotate_left
        · intro W hW; have hq := HKQ.out W hW; go_simp; with_reducible rfl
        simp only [Act.put, List.setIfInBounds_toArray, List.set_cons_zero, List.set_cons_succ]
        refine take_in (i := 19) (oi := ⟨_, _, _, _, _, _⟩) (v := ?_) rfl (by kernel_rfl) (by kernel_rfl) (by kernel_rfl) (fun _ _ _ h => h) (by rfl) ?_ HB4.out ?_
        rotate_left
        · intro W hW; have hq := HKQ.out W hW; go_simp; with_reducible rfl
        simp only [Act.put, List.setIfInBounds_toArray, List.set_cons_zero, List.set_cons_succ]
        refine take_in (i := 20) (oi := ⟨_, _, _, _, _, _⟩) (v := ?_) rfl (by kernel_rfl) (by kernel_rfl) (by kernel_rfl) (fun _ _ _ h => h) (by rfl) ?_ HB4.out ?_
        rotate_left
        · intro W hW; have hq := HKQ.out W hW; go_simp; with_reducible rfl
        simp only [Act.put, List.setIfInBounds_toArray, List.set_cons_zero, List.set_cons_succ]
        refine take_in (i := 22) (oi := ⟨_, _, _, _, _, _⟩) (v := ?_) rfl (by kernel_rfl) (by kernel_rfl) (by kernel_rfl) (fun _ _ _ h => h) (by rfl) ?_ HB4.out ?_
        rotate_left
        · intro W hW; have hq := HKQ.out W hW; go_simp; with_reducible rfl
        simp only [Act.put, List.setIfInBounds_toArray, List.set_cons_zero, List.set_cons_succ]
        refine take_in (i := 23) (oi := ⟨_, _, _, _, _, _⟩) (v := ?_) rfl (by kernel_rfl) (by kernel_rfl) (by kernel_rfl) (fun _ _ _ h => h) (by rfl) ?_ HB4.out ?_
        rotate_left
        · intro W hW; have hq := HKQ.out W hW; go_simp; with_reducible rfl
        simp only [Act.put, List.setIfInBounds_toArray, List.set_cons_zero, List.set_cons_succ]
        refine wpAnyH_ready (rs := [21]) (by kernel_rfl) (by simp) ?_
        refine AllReadyH.cons (o := ⟨_, _, _, _, _, _⟩) rfl (fun K hK => ?_) AllReadyH.nil
        go_simp
        refine (Dkw.off_c _ _ F7 _ (HD2.out.all HB4.out)).mono ?_
        rintro e v4 ⟨rfl, hb⟩
        have HB5 := Lib.hid (HB4.out.trans (hb.mono HB4.out.size)); clear hb
        refine hK.out _ _ HB5.out (fun _ => ?_)
        clear hK K
        refine take_in (i := 24) (oi := ⟨_, _, _, _, _, _⟩) (v := ?_) rfl (by kernel_rfl) (by kernel_rfl) (by kernel_rfl) (fun _ _ _ h => h) (by rfl) ?_ HB5.out ?_
        rotate_left
        · intro W hW; go_simp; with_reducible rfl
        simp only [Act.put, List.setIfInBounds_toArray, List.set_cons_zero, List.set_cons_succ]
        refine take_in (i := 25) (oi := ⟨_, _, _, _, _, _⟩) (v := ?_) rfl (by kernel_rfl) (by kernel_rfl) (by kernel_rfl) (fun _ _ _ h => h) (by rfl) ?_ HB5.out ?_
        rotate_left
        · intro W hW; go_simp; with_reducible rfl
        simp only [Act.put, List.setIfInBounds_toArray, List.set_cons_zero, List.set_cons_succ]
        refine take_in (i := 26) (oi := ⟨_, _, _, _, _, _⟩) (v := ?_) rfl (by kernel_rfl) (by kernel_rfl) (by kernel_rfl) (fun _ _ _ h => h) (by rfl) ?_ HB5.out ?_
        rotate_left
        · intro W hW; go_simp; with_reducible rfl
        simp only [Act.put, List.setIfInBounds_toArray, List.set_cons_zero, List.set_cons_succ]
        refine take_in (i := 27) (oi := ⟨_, _, _, _, _, _⟩) (v := ?_) rfl (by kernel_rfl) (by kernel_rfl) (by kernel_rfl) (fun _ _ _ h => h) (by rfl) ?_ HB5.out ?_
        rotate_left
        · intro W hW; go_simp; with_reducible rfl
        simp only [Act.put, List.setIfInBounds_toArray, List.set_cons_zero, List.set_cons_succ]
        refine take_in (i := 29) (oi := ⟨_, _, _, _, _, _⟩) (v := ?_) rfl (by kernel_rfl) (by kernel_rfl) (by kernel_rfl) (fun _ _ _ h => h) (by rfl) ?_ HB5.out ?_
        rotate_left
        · intro W hW; go_simp; with_reducible rfl
        simp only [Act.put, List.setIfInBounds_toArray, List.set_cons_zero, List.set_cons_succ]
        refine wpAnyH_ready (rs := [28]) (by kernel_rfl) (by simp) ?_
        refine AllReadyH.cons (o := ⟨_, _, _, _, _, _⟩) rfl (fun K hK => ?_) AllReadyH.nil
        go_simp
        refine (read_c _ _ F7 _ (HD2.out.all HB5.out)).mono ?_
        rintro e v5 ⟨A28, n28, c28, rs28, m28, rfl, hsc, hsr, hb⟩
        obtain ⟨rfl, _⟩ := scans_one hsc HSC.out
        have HSR28 := Lib.hid hsr
        have HB6 := Lib.hid (HB5.out.trans (hb.mono HB5.out.size)); clear hb hsc hsr
        refine hK.out _ _ HB6.out (fun _ => ?_)
        clear hK K
        refine wpAnyH_ready (rs := [30]) (by kernel_rfl) (by simp) ?_
        refine AllReadyH.cons (o := ⟨_, _, _, _, _, _⟩) rfl (fun K hK => ?_) AllReadyH.nil
        go_simp
        refine (same_r _ _ _ _ _ _ _ _ _ HSR28.out (HS2.out.all HB6.out)).mono ?_
        rw [sameR_refl]
        rintro e v6 ⟨rfl, hb⟩
        have HB7 := Lib.hid (HB6.out.trans (hb.mono HB6.out.size)); clear hb
        refine hK.out _ _ HB7.out (fun _ => ?_)
        clear hK K
        refine take_in (i := 31) (oi := ⟨_, _, _, _, _, _⟩) (v := ?_) rfl (by kernel_rfl) (by kernel_rfl) (by kernel_rfl) (fun _ _ _ h => h) (by rfl) ?_ HB7.out ?_
        rotate_left
        · intro W hW; go_simp; with_reducible rfl
        simp only [Act.put, List.setIfInBounds_toArray, List.set_cons_zero, List.set_cons_succ]
        refine take_in (i := 32) (oi := ⟨_, _, _, _, _, _⟩) (v := ?_) rfl (by kernel_rfl) (by kernel_rfl) (by kernel_rfl) (fun _ _ _ h => h) (by rfl) ?_ HB7.out ?_
        rotate_left
        · intro W hW; go_simp; with_reducible rfl
        simp only [Act.put, List.setIfInBounds_toArray, List.set_cons_zero, List.set_cons_succ]
        refine wpAnyH_done (by kernel_rfl) ?_ _
        have HB8 := Lib.hid (HB2.out.trans (HB7.out.mono HB2.out.size))
        go_wp2
        exact ⟨⟨k + 1, _, F7, by go_num, by omega, HD.out.all HB8.out, HRW.out.all HB8.out, HF.out, HB.out.trans (HB8.out.mono HB.out.size)⟩, by simp [intOf]; omega⟩
      have z1 : (ki == 1) = false := by rw [beq_eq_false_iff_ne]; exact e1
      clear e1
      by_cases e2 : ki = 2
      · skip
        have z2 : (ki == 2) = true := by rw [beq_iff_eq]; exact e2
        clear e2
        have u1 : w6.cell? ⟨ga, 1, none⟩ = some (.int .i64 nu) := by rw [cell_of_row _ _ _ _ _ _ VA.out.1]; rfl
        go_wp2_with fail
        clear v0 u1
        refine (Dkw.fuse_c _ _ nu HNU.out F _ HD.out).mono ?_
        rintro e w7 ⟨F7, rfl, hd, hg⟩
        have VA := Lib.hid (VA.out.keep hg); have HRW := Lib.hid (HRW.out.keep hg)
        have hg2 := hg.below HB.out.size HF.out
        have HD := Lib.hid hd; have HF := Lib.hid hg2.2; have HB := Lib.hid (HB.out.trans hg2.1)
        clear hd hg hg2

        obtain ⟨Aw, nw, cw, hxw, hnw, hcw, hrw, hfw⟩ := HRW.out
        have HVD : Hid (Ds w7 (fun k => F7 k ∨ k = gw) (dv Aw nw cw d) d) := Lib.hid ⟨Aw, nw, cw, rfl, hnw, hcw, hrw⟩
        have HGL : Hid (∀ k, (F7 k ∨ k = gw) → k < w7.heap.size) := Lib.hid (fun k h => h.elim (HD.out.lt k) (fun h => h ▸ hxw.lt))
        have x0 := hxw.c0; have x1 := hxw.c1; have x2 := hxw.c2; have x3 := hxw.c3; have x4 := hxw.c4
        have u1 : w7.cell? ⟨ga, 1, none⟩ = some (.int .i64 nu) := by rw [cell_of_row _ _ _ _ _ _ VA.out.1]; rfl
        clear hxw hnw hcw hrw hfw
        go_wp2_with fail
        clear x0 x1 x2 x3 x4 u1
        refine (Dkw.fuse_r (dv Aw nw cw d) d nu (fun k => F7 k ∨ k = gw) _ HVD.out).mono ?_
        rintro e w9 ⟨v, rfl, ⟨A9, n9, c9, rfl, hn9, hc9, hr9⟩, hb⟩
        have HRW := Lib.hid (HRW.out.all hb); have HD := Lib.hid (HD.out.all hb); have HB := Lib.hid (HB.out.trans (hb.mono HB.out.size)); clear hb
        have HN8 := Lib.hid hn9; have HC8 := Lib.hid hc9; have HR8 := Lib.hid hr9
        clear hn9 hc9 hr9 HVD HGL HIV
        generalize fuseD d nu = d2 at HD HN8 HR8 ⊢

        obtain ⟨_, _, _, hxw, _, _, _, hfw⟩ := HRW.out
        have x0 := hxw.c0; have x1 := hxw.c1; have x2 := hxw.c2; have x3 := hxw.c3; have x4 := hxw.c4
        have f0 := frozen_of_row w9 gw 0 _ _ hxw
        have f1 := frozen_of_row w9 gw 1 _ _ hxw
        have f2 := frozen_of_row w9 gw 2 _ _ hxw
        have f3 := frozen_of_row w9 gw 3 _ _ hxw
        have f4 := frozen_of_row w9 gw 4 _ _ hxw
        have HFW := Lib.hid hfw
        clear hxw hfw
        unfold dv
        go_upto_region 25 with (fail)
        clear x0 x1 x2 x3 x4 f0 f1 f2 f3 f4
        have HRW := Lib.hid (HRW.out.store HN8.out HC8.out HR8.out)
        have HD := Lib.hid (show Dd (((((w9.setCell ⟨gw, 0, none⟩ (.slice A9 n9 c9)).setCell ⟨gw, 1, none⟩ (.int .i64 d2.safe)).setCell ⟨gw, 2, none⟩ (.int .i64 d2.room)).setCell ⟨gw, 3, none⟩ (.int .i64 d2.fuse)).setCell ⟨gw, 4, none⟩ (.bool d2.off)) F7 _ d2 from ((((HD.out.setCell HFW.out _).setCell HFW.out _).setCell HFW.out _).setCell HFW.out _).setCell HFW.out _)
        have HB := Lib.hid (show Below w.heap.size w (((((w9.setCell ⟨gw, 0, none⟩ (.slice A9 n9 c9)).setCell ⟨gw, 1, none⟩ (.int .i64 d2.safe)).setCell ⟨gw, 2, none⟩ (.int .i64 d2.room)).setCell ⟨gw, 3, none⟩ (.int .i64 d2.fuse)).setCell ⟨gw, 4, none⟩ (.bool d2.off)) from ((((HB.out.setCell hgw _).setCell hgw _).setCell hgw _).setCell hgw _).setCell hgw _)
        generalize (((((w9.setCell ⟨gw, 0, none⟩ (.slice A9 n9 c9)).setCell ⟨gw, 1, none⟩ (.int .i64 d2.safe)).setCell ⟨gw, 2, none⟩ (.int .i64 d2.room)).setCell ⟨gw, 3, none⟩ (.int .i64 d2.fuse)).setCell ⟨gw, 4, none⟩ (.bool d2.off)) = wq at HRW HD HB ⊢
        clear HN8 HC8 HR8 HFW

        obtain ⟨Aq, nq, cq, hxq, hnq, hcq, hrq, hfq⟩ := HRW.out
        have x0 := hxq.c0
        have HNQ := Lib.hid hnq; have HCQ := Lib.hid hcq; have HRQ := Lib.hid hrq.rd
        have HIV := Lib.hid HD.out.iv
        clear hxq hnq hcq hrq hfq
        go_wp2_with fail
        clear x0
        refine (scan_r Aq nq cq d2.data HNQ.out HCQ.out (by have h1 := HNQ.out; have h2 := HIV.out.2.2.1; omega) wq HRQ.out).mono ?_
        rintro e v0 ⟨A11, n11, c11, m11, rs11, rfl, hsc, hsr, hb⟩
        have HSC := Lib.hid hsc; have HSR := Lib.hid hsr
        have HRW := Lib.hid (HRW.out.all hb); have HD := Lib.hid (HD.out.all hb); have HB := Lib.hid (HB.out.trans (hb.mono HB.out.size))
        clear hsc hsr hb HNQ HCQ HRQ HIV
        go_upto_region 26 with (fail)
        obtain ⟨Aq, nq, cq, hxq, hnq, hcq, hrq, hfq⟩ := HRW.out
        have HKQ : Hid (∀ W', Below v0.heap.size v0 W' → (W'.cell? ⟨gw, 0, none⟩ = some (.slice Aq nq cq) ∧ W'.cell? ⟨gw, 1, none⟩ = some (.int .i64 d2.safe) ∧ W'.cell? ⟨gw, 4, none⟩ = some (.bool d2.off)) ∧ (convert 41 9 (.slice Aq nq cq)).run Try.prog W' = .ok (.string (str d2.data)) W') := Lib.hid (fun W' h => ⟨⟨(hxq.all h).c0, (hxq.all h).c1, (hxq.all h).c4⟩, str8' cq (hrq.rd.below h) hnq⟩)
        clear hxq hnq hcq hrq hfq
        have hsm := Dkw.str_same d2.data
        refine wp_region_held_drew (S := fun W' => Below v0.heap.size v0 W') (by kernel_rfl) (Below.refl _ _).drew (fun hHeld => ?_)
        generalize v0.drew = v1 at hHeld ⊢
        have HB1 : Hid (Below v0.heap.size v0 v1) := hHeld
        clear hHeld
        refine take_in (i := 0) (oi := ⟨_, _, _, _, _, _⟩) (v := ?_) rfl (by kernel_rfl) (by kernel_rfl) (by kernel_rfl) (fun _ _ _ h => h) (by rfl) ?_ HB1.out ?_
        rotate_left
        · intro W hW; have hq := HKQ.out W hW; go_simp; with_reducible rfl
        simp only [Act.put, List.setIfInBounds_toArray, List.set_cons_zero, List.set_cons_succ]
        refine take_in (i := 1) (oi := ⟨_, _, _, _, _, _⟩) (v := ?_) rfl (by kernel_rfl) (by kernel_rfl) (by kernel_rfl) (fun _ _ _ h => h) (by rfl) ?_ HB1.out ?_
        rotate_left
        · intro W hW; have hq := HKQ.out W hW; go_simp; with_reducible rfl
        simp only [Act.put, List.setIfInBounds_toArray, List.set_cons_zero, List.set_cons_succ]
        refine take_in (i := 2) (oi := ⟨_, _, _, _, _, _⟩) (v := ?_) rfl (by kernel_rfl) (by kernel_rfl) (by kernel_rfl) (fun _ _ _ h => h) (by rfl) ?_ HB1.out ?_
        rotate_left
        · intro W hW; have hq := HKQ.out W hW; go_simp; with_reducible rfl
        simp only [Act.put, List.setIfInBounds_toArray, List.set_cons_zero, List.set_cons_succ]
        refine take_in (i := 3) (oi := ⟨_, _, _, _, _, _⟩) (v := ?_) rfl (by kernel_rfl) (by kernel_rfl) (by kernel_rfl) (fun _ _ _ h => h) (by rfl) ?_ HB1.out ?_
        rotate_left
        · intro W hW; have hq := HKQ.out W hW; go_simp; with_reducible rfl
        simp only [Act.put, List.setIfInBounds_toArray, List.set_cons_zero, List.set_cons_succ]
        refine take_in (i := 4) (oi := ⟨_, _, _, _, _, _⟩) (v := ?_) rfl (by kernel_rfl) (by kernel_rfl) (by kernel_rfl) (fun _ _ _ h => h) (by rfl) ?_ HB1.out ?_
        rotate_left
        · intro W hW; have hq := HKQ.out W hW; go_simp; with_reducible rfl
        simp only [Act.put, List.setIfInBounds_toArray, List.set_cons_zero, List.set_cons_succ]
        refine take_in (i := 7) (oi := ⟨_, _, _, _, _, _⟩) (v := ?_) rfl (by kernel_rfl) (by kernel_rfl) (by kernel_rfl) (fun _ _ _ h => h) (by rfl) ?_ HB1.out ?_
        rotate_left
        · intro W hW; have hq := HKQ.out W hW; go_simp; with_reducible rfl
        simp only [Act.put, List.setIfInBounds_toArray, List.set_cons_zero, List.set_cons_succ]
        refine take_in (i := 8) (oi := ⟨_, _, _, _, _, _⟩) (v := ?_) rfl (by kernel_rfl) (by kernel_rfl) (by kernel_rfl) (fun _ _ _ h => h) (by rfl) ?_ HB1.out ?_
        rotate_left
        · intro W hW; have hq := HKQ.out W hW; go_simp; with_reducible rfl
        simp only [Act.put, List.setIfInBounds_toArray, List.set_cons_zero, List.set_cons_succ]
        refine take_in (i := 9) (oi := ⟨_, _, _, _, _, _⟩) (v := ?_) rfl (by kernel_rfl) (by kernel_rfl) (by kernel_rfl) (fun _ _ _ h => h) (by rfl) ?_ HB1.out ?_
        rotate_left
        · intro W hW; have hq := HKQ.out W hW; go_simp; with_reducible rfl
        simp only [Act.put, List.setIfInBounds_toArray, List.set_cons_zero, List.set_cons_succ]
        refine wpAnyH_ready (rs := [5]) (by kernel_rfl) (by simp) ?_
        refine AllReadyH.cons (o := ⟨_, _, _, _, _, _⟩) rfl (fun K hK => ?_) AllReadyH.nil
        go_simp
        refine (Dkw.bytes_c _ _ F7 _ (HD.out.all HB1.out)).mono ?_
        rintro e v2 ⟨A9, n9, c9, rfl, how, hb⟩
        have HO9 := Lib.hid how; clear how
        have HB2 := Lib.hid (HB1.out.trans (hb.mono HB1.out.size)); clear hb
        refine hK.out _ _ HB2.out (fun _ => ?_)
        clear hK K
        have HK9 : Hid (∀ W', Below v2.heap.size v2 W' → (convert 41 9 (.slice A9 n9 c9)).run Try.prog W' = .ok (.string (str d2.data)) W') := Lib.hid (fun W' h => str8' c9 (HO9.out.rd.below h) HO9.out.1)
        refine tighten (S' := fun W' => Below v2.heap.size v2 W') (fun W' h => HB2.out.trans (h.mono HB2.out.size)) _ _ _ _ ?_
        have HB3 := Lib.hid (Below.refl v2.heap.size v2)
        have HD2 := Lib.hid (HD.out.all HB2.out)
        have HS2 := Lib.hid (HSR.out.all HB2.out)
        have HKQ : Hid (∀ W', Below v2.heap.size v2 W' → (W'.cell? ⟨gw, 0, none⟩ = some (.slice Aq nq cq) ∧ W'.cell? ⟨gw, 1, none⟩ = some (.int .i64 d2.safe) ∧ W'.cell? ⟨gw, 4, none⟩ = some (.bool d2.off))) := Lib.hid (fun W' h => (HKQ.out W' (HB2.out.trans (h.mono HB2.out.size))).1)
        refine take_in (i := 6) (oi := ⟨_, _, _, _, _, _⟩) (v := ?_) rfl (by kernel_rfl) (by kernel_rfl) (by kernel_rfl) (fun _ _ _ h => h) (by rfl) ?_ HB3.out ?_
        rotate_left
        · intro W hW; have hq := HK9.out W hW; go_simp; with_reducible rfl
        simp only [Act.put, List.setIfInBounds_toArray, List.set_cons_zero, List.set_cons_succ]
        refine take_in (i := 10) (oi := ⟨_, _, _, _, _, _⟩) (v := ?_) rfl (by kernel_rfl) (by kernel_rfl) (by kernel_rfl) (fun _ _ _ h => h) (by rfl) ?_ HB3.out ?_
        rotate_left
        · intro W hW; have hq := HKQ.out W hW; go_simp; with_reducible rfl
        simp only [Act.put, List.setIfInBounds_toArray, List.set_cons_zero, List.set_cons_succ]
        refine take_in (i := 11) (oi := ⟨_, _, _, _, _, _⟩) (v := ?_) rfl (by kernel_rfl) (by kernel_rfl) (by kernel_rfl) (fun _ _ _ h => h) (by rfl) ?_ HB3.out ?_
        rotate_left
        · intro W hW; have hq := HKQ.out W hW; go_simp; with_reducible rfl
        simp only [Act.put, List.setIfInBounds_toArray, List.set_cons_zero, List.set_cons_succ]
        refine take_in (i := 12) (oi := ⟨_, _, _, _, _, _⟩) (v := ?_) rfl (by kernel_rfl) (by kernel_rfl) (by kernel_rfl) (fun _ _ _ h => h) (by rfl) ?_ HB3.out ?_
        rotate_left
        · intro W hW; have hq := HKQ.out W hW; go_simp; with_reducible rfl
        simp only [Act.put, List.setIfInBounds_toArray, List.set_cons_zero, List.set_cons_succ]
        refine take_in (i := 13) (oi := ⟨_, _, _, _, _, _⟩) (v := ?_) rfl (by kernel_rfl) (by kernel_rfl) (by kernel_rfl) (fun _ _ _ h => h) (by rfl) ?_ HB3.out ?_
        rotate_left
        · intro W hW; have hq := HKQ.out W hW; go_simp; with_reducible rfl
        simp only [Act.put, List.setIfInBounds_toArray, List.set_cons_zero, List.set_cons_succ]
        refine take_in (i := 15) (oi := ⟨_, _, _, _, _, _⟩) (v := ?_) rfl (by kernel_rfl) (by kernel_rfl) (by kernel_rfl) (fun _ _ _ h => h) (by rfl) ?_ HB3.out ?_
        rotate_left
        · intro W hW; have hq := HKQ.out W hW; go_simp; with_reducible rfl
        simp only [Act.put, List.setIfInBounds_toArray, List.set_cons_zero, List.set_cons_succ]
        refine take_in (i := 16) (oi := ⟨_, _, _, _, _, _⟩) (v := ?_) rfl (by kernel_rfl) (by kernel_rfl) (by kernel_rfl) (fun _ _ _ h => h) (by rfl) ?_ HB3.out ?_
        rotate_left
        · intro W hW; have hq := HKQ.out W hW; go_simp; with_reducible rfl
        simp only [Act.put, List.setIfInBounds_toArray, List.set_cons_zero, List.set_cons_succ]
        refine wpAnyH_ready (rs := [14]) (by kernel_rfl) (by simp) ?_
        refine AllReadyH.cons (o := ⟨_, _, _, _, _, _⟩) rfl (fun K hK => ?_) AllReadyH.nil
        go_simp
        refine (Dkw.safe_c _ _ F7 _ (HD2.out.all HB3.out)).mono ?_
        rintro e v3 ⟨rfl, hb⟩
        have HB4 := Lib.hid (HB3.out.trans (hb.mono HB3.out.size)); clear hb
        refine hK.out _ _ HB4.out (fun _ => ?_)
        clear hK K
        refine take_in (i := 17) (oi := ⟨_, _, _, _, _, _⟩) (v := ?_) rfl (by kernel_rfl) (by kernel_rfl) (by kernel_rfl) (fun _ _ _ h => h) (by rfl) ?_ HB4.out ?_
        rotate_left
        · intro W hW; have hq := HKQ.out W hW; go_simp; with_reducible rfl
        simp only [Act.put, List.setIfInBounds_toArray, List.set_cons_zero, List.set_cons_succ]
        refine take_in (i := 18) (oi := ⟨_, _, _, _, _, _⟩) (v := ?_) rfl (by kernel_rfl) (by kernel_rfl) (by kernel_rfl) (fun _ _ _ h => h) (by rfl) ?_ HB4.out ?_
        rotate_left
        · intro W hW; have hq := HKQ.out W hW; go_simp; with_reducible rfl
        simp only [Act.put, List.setIfInBounds_toArray, List.set_cons_zero, List.set_cons_succ]
        refine take_in (i := 19) (oi := ⟨_, _, _, _, _, _⟩) (v := ?_) rfl (by kernel_rfl) (by kernel_rfl) (by kernel_rfl) (fun _ _ _ h => h) (by rfl) ?_ HB4.out ?_
        rotate_left
        · intro W hW; have hq := HKQ.out W hW; go_simp; with_reducible rfl
        simp only [Act.put, List.setIfInBounds_toArray, List.set_cons_zero, List.set_cons_succ]
        refine take_in (i := 20) (oi := ⟨_, _, _, _, _, _⟩) (v := ?_) rfl (by kernel_rfl) (by kernel_rfl) (by kernel_rfl) (fun _ _ _ h => h) (by rfl) ?_ HB4.out ?_
        rotate_left
        · intro W hW; have hq := HKQ.out W hW; go_simp; with_reducible rfl
        simp only [Act.put, List.setIfInBounds_toArray, List.set_cons_zero, List.set_cons_succ]
        refine take_in (i := 22) (oi := ⟨_, _, _, _, _, _⟩) (v := ?_) rfl (by kernel_rfl) (by kernel_rfl) (by kernel_rfl) (fun _ _ _ h => h) (by rfl) ?_ HB4.out ?_
        rotate_left
        · intro W hW; have hq := HKQ.out W hW; go_simp; with_reducible rfl
        simp only [Act.put, List.setIfInBounds_toArray, List.set_cons_zero, List.set_cons_succ]
        refine take_in (i := 23) (oi := ⟨_, _, _, _, _, _⟩) (v := ?_) rfl (by kernel_rfl) (by kernel_rfl) (by kernel_rfl) (fun _ _ _ h => h) (by rfl) ?_ HB4.out ?_
        rotate_left
        · intro W hW; have hq := HKQ.out W hW; go_simp; with_reducible rfl
        simp only [Act.put, List.setIfInBounds_toArray, List.set_cons_zero, List.set_cons_succ]
        refine wpAnyH_ready (rs := [21]) (by kernel_rfl) (by simp) ?_
        refine AllReadyH.cons (o := ⟨_, _, _, _, _, _⟩) rfl (fun K hK => ?_) AllReadyH.nil
        go_simp
        refine (Dkw.off_c _ _ F7 _ (HD2.out.all HB4.out)).mono ?_
        rintro e v4 ⟨rfl, hb⟩
        have HB5 := Lib.hid (HB4.out.trans (hb.mono HB4.out.size)); clear hb
        refine hK.out _ _ HB5.out (fun _ => ?_)
        clear hK K
        refine take_in (i := 24) (oi := ⟨_, _, _, _, _, _⟩) (v := ?_) rfl (by kernel_rfl) (by kernel_rfl) (by kernel_rfl) (fun _ _ _ h => h) (by rfl) ?_ HB5.out ?_
        rotate_left
        · intro W hW; go_simp; with_reducible rfl
        simp only [Act.put, List.setIfInBounds_toArray, List.set_cons_zero, List.set_cons_succ]
        refine take_in (i := 25) (oi := ⟨_, _, _, _, _, _⟩) (v := ?_) rfl (by kernel_rfl) (by kernel_rfl) (by kernel_rfl) (fun _ _ _ h => h) (by rfl) ?_ HB5.out ?_
        rotate_left
        · intro W hW; go_simp; with_reducible rfl
        simp only [Act.put, List.setIfInBounds_toArray, List.set_cons_zero, List.set_cons_succ]
        refine take_in (i := 26) (oi := ⟨_, _, _, _, _, _⟩) (v := ?_) rfl (by kernel_rfl) (by kernel_rfl) (by kernel_rfl) (fun _ _ _ h => h) (by rfl) ?_ HB5.out ?_
        rotate_left
        · intro W hW; go_simp; with_reducible rfl
        simp only [Act.put, List.setIfInBounds_toArray, List.set_cons_zero, List.set_cons_succ]
        refine take_in (i := 27) (oi := ⟨_, _, _, _, _, _⟩) (v := ?_) rfl (by kernel_rfl) (by kernel_rfl) (by kernel_rfl) (fun _ _ _ h => h) (by rfl) ?_ HB5.out ?_
        rotate_left
        · intro W hW; go_simp; with_reducible rfl
        simp only [Act.put, List.setIfInBounds_toArray, List.set_cons_zero, List.set_cons_succ]
        refine take_in (i := 29) (oi := ⟨_, _, _, _, _, _⟩) (v := ?_) rfl (by kernel_rfl) (by kernel_rfl) (by kernel_rfl) (fun _ _ _ h => h) (by rfl) ?_ HB5.out ?_
        rotate_left
        · intro W hW; go_simp; with_reducible rfl
        simp only [Act.put, List.setIfInBounds_toArray, List.set_cons_zero, List.set_cons_succ]
        refine wpAnyH_ready (rs := [28]) (by kernel_rfl) (by simp) ?_
        refine AllReadyH.cons (o := ⟨_, _, _, _, _, _⟩) rfl (fun K hK => ?_) AllReadyH.nil
        go_simp
        refine (read_c _ _ F7 _ (HD2.out.all HB5.out)).mono ?_
        rintro e v5 ⟨A28, n28, c28, rs28, m28, rfl, hsc, hsr, hb⟩
        obtain ⟨rfl, _⟩ := scans_one hsc HSC.out
        have HSR28 := Lib.hid hsr
        have HB6 := Lib.hid (HB5.out.trans (hb.mono HB5.out.size)); clear hb hsc hsr
        refine hK.out _ _ HB6.out (fun _ => ?_)
        clear hK K
        refine wpAnyH_ready (rs := [30]) (by kernel_rfl) (by simp) ?_
        refine AllReadyH.cons (o := ⟨_, _, _, _, _, _⟩) rfl (fun K hK => ?_) AllReadyH.nil
        go_simp
        refine (same_r _ _ _ _ _ _ _ _ _ HSR28.out (HS2.out.all HB6.out)).mono ?_
        rw [sameR_refl]
        rintro e v6 ⟨rfl, hb⟩
        have HB7 := Lib.hid (HB6.out.trans (hb.mono HB6.out.size)); clear hb
        refine hK.out _ _ HB7.out (fun _ => ?_)
        clear hK K
        refine take_in (i := 31) (oi := ⟨_, _, _, _, _, _⟩) (v := ?_) rfl (by kernel_rfl) (by kernel_rfl) (by kernel_rfl) (fun _ _ _ h => h) (by rfl) ?_ HB7.out ?_
        rotate_left
        · intro W hW; go_simp; with_reducible rfl
        simp only [Act.put, List.setIfInBounds_toArray, List.set_cons_zero, List.set_cons_succ]
        refine take_in (i := 32) (oi := ⟨_, _, _, _, _, _⟩) (v := ?_) rfl (by kernel_rfl) (by kernel_rfl) (by kernel_rfl) (fun _ _ _ h => h) (by rfl) ?_ HB7.out ?_
        rotate_left
        · intro W hW; go_simp; with_reducible rfl
        simp only [Act.put, List.setIfInBounds_toArray, List.set_cons_zero, List.set_cons_succ]
        refine wpAnyH_done (by kernel_rfl) ?_ _
        have HB8 := Lib.hid (HB2.out.trans (HB7.out.mono HB2.out.size))
        go_wp2
        exact ⟨⟨k + 1, _, F7, by go_num, by omega, HD.out.all HB8.out, HRW.out.all HB8.out, HF.out, HB.out.trans (HB8.out.mono HB.out.size)⟩, by simp [intOf]; omega⟩
      have z2 : (ki == 2) = false := by rw [beq_eq_false_iff_ne]; exact e2
      clear e2
      by_cases e3 : ki = 3
      · skip
        have z3 : (ki == 3) = true := by rw [beq_iff_eq]; exact e3
        clear e3
        have v3 : ∀ o, (w6.alloc o).cell? ⟨ga, 3, none⟩ = some (.slice pa pn pc) := fun o => by rw [cell_of_row _ _ _ _ _ _ (hbe VA.out.1)]; rfl
        go_wp2_with (at_builtin; refine wp_copy8 rfl (.tmp 78) (.tmp 80) rfl w6 rfl w.heap.size pa pn pc bs rfl HPT.out.1 (HPT.out.2.2.2.below HB.out) HB.out.size HPT.out.2.2.1 ?_; intro A7 c7 w7 how hb7)
        clear v0 v3
        have hc7 := how.cap
        have HRF := Lib.hid (Rf.of_own how HD.out.lt)
        have VA := Lib.hid (VA.out.all hb7); have HRW := Lib.hid (HRW.out.all hb7); have HD := Lib.hid (HD.out.all hb7); have HB := Lib.hid (HB.out.trans (hb7.mono HB.out.size))
        clear how hb7
        refine (Dkw.append_c _ _ A7 pn c7 bs HPT.out.1 hc7 HPT.out.2.2.1 F _ HD.out HRF.out).mono ?_
        rintro e w8 ⟨F8, rfl, hd, hg⟩
        clear HRF hc7
        have VA := Lib.hid (VA.out.keep hg); have HRW := Lib.hid (HRW.out.keep hg)
        have hg2 := hg.below HB.out.size HF.out
        have HD := Lib.hid hd; have HF := Lib.hid hg2.2; have HB := Lib.hid (HB.out.trans hg2.1)
        clear hd hg hg2

        obtain ⟨Aw, nw, cw, hxw, hnw, hcw, hrw, hfw⟩ := HRW.out
        have HVD : Hid (Ds w8 (fun k => F8 k ∨ k = gw) (dv Aw nw cw d) d) := Lib.hid ⟨Aw, nw, cw, rfl, hnw, hcw, hrw⟩
        have HGL : Hid (∀ k, (F8 k ∨ k = gw) → k < w8.heap.size) := Lib.hid (fun k h => h.elim (HD.out.lt k) (fun h => h ▸ hxw.lt))
        have x0 := hxw.c0; have x1 := hxw.c1; have x2 := hxw.c2; have x3 := hxw.c3; have x4 := hxw.c4
        have u1 : w8.cell? ⟨ga, 3, none⟩ = some (.slice pa pn pc) := by rw [cell_of_row _ _ _ _ _ _ VA.out.1]; rfl
        clear hxw hnw hcw hrw hfw
        go_wp2_with fail
        clear x0 x1 x2 x3 x4 u1
        refine (Dkw.append_r (dv Aw nw cw d) d pa pn pc bs HPT.out.1 HPT.out.2.2.1 (fun k => F8 k ∨ k = gw) _ HGL.out HVD.out HIV.out ((HPT.out.2.2.2.below HB.out).more HB.out.size)).mono ?_
        rintro e w9 ⟨v, rfl, ⟨A9, n9, c9, rfl, hn9, hc9, hr9⟩, hb⟩
        have HRW := Lib.hid (HRW.out.all hb); have HD := Lib.hid (HD.out.all hb); have HB := Lib.hid (HB.out.trans (hb.mono HB.out.size)); clear hb
        have HN8 := Lib.hid hn9; have HC8 := Lib.hid hc9; have HR8 := Lib.hid hr9
        clear hn9 hc9 hr9 HVD HGL HIV
        generalize appD d bs = d2 at HD HN8 HR8 ⊢
        generalize appE d bs = ae

        obtain ⟨_, _, _, hxw, _, _, _, hfw⟩ := HRW.out
        have x0 := hxw.c0; have x1 := hxw.c1; have x2 := hxw.c2; have x3 := hxw.c3; have x4 := hxw.c4
        have f0 := frozen_of_row w9 gw 0 _ _ hxw
        have f1 := frozen_of_row w9 gw 1 _ _ hxw
        have f2 := frozen_of_row w9 gw 2 _ _ hxw
        have f3 := frozen_of_row w9 gw 3 _ _ hxw
        have f4 := frozen_of_row w9 gw 4 _ _ hxw
        have HFW := Lib.hid hfw
        clear hxw hfw
        unfold dv
        go_upto_region 25 with (fail)
        clear x0 x1 x2 x3 x4 f0 f1 f2 f3 f4
        have HRW := Lib.hid (HRW.out.store HN8.out HC8.out HR8.out)
        have HD := Lib.hid (show Dd (((((w9.setCell ⟨gw, 0, none⟩ (.slice A9 n9 c9)).setCell ⟨gw, 1, none⟩ (.int .i64 d2.safe)).setCell ⟨gw, 2, none⟩ (.int .i64 d2.room)).setCell ⟨gw, 3, none⟩ (.int .i64 d2.fuse)).setCell ⟨gw, 4, none⟩ (.bool d2.off)) F8 _ d2 from ((((HD.out.setCell HFW.out _).setCell HFW.out _).setCell HFW.out _).setCell HFW.out _).setCell HFW.out _)
        have HB := Lib.hid (show Below w.heap.size w (((((w9.setCell ⟨gw, 0, none⟩ (.slice A9 n9 c9)).setCell ⟨gw, 1, none⟩ (.int .i64 d2.safe)).setCell ⟨gw, 2, none⟩ (.int .i64 d2.room)).setCell ⟨gw, 3, none⟩ (.int .i64 d2.fuse)).setCell ⟨gw, 4, none⟩ (.bool d2.off)) from ((((HB.out.setCell hgw _).setCell hgw _).setCell hgw _).setCell hgw _).setCell hgw _)
        generalize (((((w9.setCell ⟨gw, 0, none⟩ (.slice A9 n9 c9)).setCell ⟨gw, 1, none⟩ (.int .i64 d2.safe)).setCell ⟨gw, 2, none⟩ (.int .i64 d2.room)).setCell ⟨gw, 3, none⟩ (.int .i64 d2.fuse)).setCell ⟨gw, 4, none⟩ (.bool d2.off)) = wq at HRW HD HB ⊢
        clear HN8 HC8 HR8 HFW

        obtain ⟨Aq, nq, cq, hxq, hnq, hcq, hrq, hfq⟩ := HRW.out
        have x0 := hxq.c0
        have HNQ := Lib.hid hnq; have HCQ := Lib.hid hcq; have HRQ := Lib.hid hrq.rd
        have HIV := Lib.hid HD.out.iv
        clear hxq hnq hcq hrq hfq
        go_wp2_with fail
        clear x0
        refine (scan_r Aq nq cq d2.data HNQ.out HCQ.out (by have h1 := HNQ.out; have h2 := HIV.out.2.2.1; omega) wq HRQ.out).mono ?_
        rintro e v0 ⟨A11, n11, c11, m11, rs11, rfl, hsc, hsr, hb⟩
        have HSC := Lib.hid hsc; have HSR := Lib.hid hsr
        have HRW := Lib.hid (HRW.out.all hb); have HD := Lib.hid (HD.out.all hb); have HB := Lib.hid (HB.out.trans (hb.mono HB.out.size))
        clear hsc hsr hb HNQ HCQ HRQ HIV
        go_upto_region 26 with (fail)
        obtain ⟨Aq, nq, cq, hxq, hnq, hcq, hrq, hfq⟩ := HRW.out
        have HKQ : Hid (∀ W', Below v0.heap.size v0 W' → (W'.cell? ⟨gw, 0, none⟩ = some (.slice Aq nq cq) ∧ W'.cell? ⟨gw, 1, none⟩ = some (.int .i64 d2.safe) ∧ W'.cell? ⟨gw, 4, none⟩ = some (.bool d2.off)) ∧ (convert 41 9 (.slice Aq nq cq)).run Try.prog W' = .ok (.string (str d2.data)) W') := Lib.hid (fun W' h => ⟨⟨(hxq.all h).c0, (hxq.all h).c1, (hxq.all h).c4⟩, str8' cq (hrq.rd.below h) hnq⟩)
        clear hxq hnq hcq hrq hfq
        have hsm := Dkw.str_same d2.data
        refine wp_region_held_drew (S := fun W' => Below v0.heap.size v0 W') (by kernel_rfl) (Below.refl _ _).drew (fun hHeld => ?_)
        generalize v0.drew = v1 at hHeld ⊢
        have HB1 : Hid (Below v0.heap.size v0 v1) := hHeld
        clear hHeld
        refine take_in (i := 0) (oi := ⟨_, _, _, _, _, _⟩) (v := ?_) rfl (by kernel_rfl) (by kernel_rfl) (by kernel_rfl) (fun _ _ _ h => h) (by rfl) ?_ HB1.out ?_
        rotate_left
        · intro W hW; have hq := HKQ.out W hW; go_simp; with_reducible rfl
        simp only [Act.put, List.setIfInBounds_toArray, List.set_cons_zero, List.set_cons_succ]
        refine take_in (i := 1) (oi := ⟨_, _, _, _, _, _⟩) (v := ?_) rfl (by kernel_rfl) (by kernel_rfl) (by kernel_rfl) (fun _ _ _ h => h) (by rfl) ?_ HB1.out ?_
        rotate_left
        · intro W hW; have hq := HKQ.out W hW; go_simp; with_reducible rfl
        simp only [Act.put, List.setIfInBounds_toArray, List.set_cons_zero, List.set_cons_succ]
        refine take_in (i := 2) (oi := ⟨_, _, _, _, _, _⟩) (v := ?_) rfl (by kernel_rfl) (by kernel_rfl) (by kernel_rfl) (fun _ _ _ h => h) (by rfl) ?_ HB1.out ?_
        rotate_left
        · intro W hW; have hq := HKQ.out W hW; go_simp; with_reducible rfl
        simp only [Act.put, List.setIfInBounds_toArray, List.set_cons_zero, List.set_cons_succ]
        refine take_in (i := 3) (oi := ⟨_, _, _, _, _, _⟩) (v := ?_) rfl (by kernel_rfl) (by kernel_rfl) (by kernel_rfl) (fun _ _ _ h => h) (by rfl) ?_ HB1.out ?_
        rotate_left
        · intro W hW; have hq := HKQ.out W hW; go_simp; with_reducible rfl
        simp only [Act.put, List.setIfInBounds_toArray, List.set_cons_zero, List.set_cons_succ]
        refine take_in (i := 4) (oi := ⟨_, _, _, _, _, _⟩) (v := ?_) rfl (by kernel_rfl) (by kernel_rfl) (by kernel_rfl) (fun _ _ _ h => h) (by rfl) ?_ HB1.out ?_
        rotate_left
        · intro W hW; have hq := HKQ.out W hW; go_simp; with_reducible rfl
        simp only [Act.put, List.setIfInBounds_toArray, List.set_cons_zero, List.set_cons_succ]
        refine take_in (i := 7) (oi := ⟨_, _, _, _, _, _⟩) (v := ?_) rfl (by kernel_rfl) (by kernel_rfl) (by kernel_rfl) (fun _ _ _ h => h) (by rfl) ?_ HB1.out ?_
        rotate_left
        · intro W hW; have hq := HKQ.out W hW; go_simp; with_reducible rfl
        simp only [Act.put, List.setIfInBounds_toArray, List.set_cons_zero, List.set_cons_succ]
        refine take_in (i := 8) (oi := ⟨_, _, _, _, _, _⟩) (v := ?_) rfl (by kernel_rfl) (by kernel_rfl) (by kernel_rfl) (fun _ _ _ h => h) (by rfl) ?_ HB1.out ?_
        rotate_left
        · intro W hW; have hq := HKQ.out W hW; go_simp; with_reducible rfl
        simp only [Act.put, List.setIfInBounds_toArray, List.set_cons_zero, List.set_cons_succ]
        refine take_in (i := 9) (oi := ⟨_, _, _, _, _, _⟩) (v := ?_) rfl (by kernel_rfl) (by kernel_rfl) (by kernel_rfl) (fun _ _ _ h => h) (by rfl) ?_ HB1.out ?_
        rotate_left
        · intro W hW; have hq := HKQ.out W hW; go_simp; with_reducible rfl
        simp only [Act.put, List.setIfInBounds_toArray, List.set_cons_zero, List.set_cons_succ]
        refine wpAnyH_ready (rs := [5]) (by kernel_rfl) (by simp) ?_
        refine AllReadyH.cons (o := ⟨_, _, _, _, _, _⟩) rfl (fun K hK => ?_) AllReadyH.nil
        go_simp
        refine (Dkw.bytes_c _ _ F8 _ (HD.out.all HB1.out)).mono ?_
        rintro e v2 ⟨A9, n9, c9, rfl, how, hb⟩
        have HO9 := Lib.hid how; clear how
        have HB2 := Lib.hid (HB1.out.trans (hb.mono HB1.out.size)); clear hb
        refine hK.out _ _ HB2.out (fun _ => ?_)
        clear hK K
        have HK9 : Hid (∀ W', Below v2.heap.size v2 W' → (convert 41 9 (.slice A9 n9 c9)).run Try.prog W' = .ok (.string (str d2.data)) W') := Lib.hid (fun W' h => str8' c9 (HO9.out.rd.below h) HO9.out.1)
        refine tighten (S' := fun W' => Below v2.heap.size v2 W') (fun W' h => HB2.out.trans (h.mono HB2.out.size)) _ _ _ _ ?_
        have HB3 := Lib.hid (Below.refl v2.heap.size v2)
        have HD2 := Lib.hid (HD.out.all HB2.out)
        have HS2 := Lib.hid (HSR.out.all HB2.out)
        have HKQ : Hid (∀ W', Below v2.heap.size v2 W' → (W'.cell? ⟨gw, 0, none⟩ = some (.slice Aq nq cq) ∧ W'.cell? ⟨gw, 1, none⟩ = some (.int .i64 d2.safe) ∧ W'.cell? ⟨gw, 4, none⟩ = some (.bool d2.off))) := Lib.hid (fun W' h => (HKQ.out W' (HB2.out.trans (h.mono HB2.out.size))).1)
        refine take_in (i := 6) (oi := ⟨_, _, _, _, _, _⟩) (v := ?_) rfl (by kernel_rfl) (by kernel_rfl) (by kernel_rfl) (fun _ _ _ h => h) (by rfl) ?_ HB3.out ?_
        rotate_left
        · intro W hW; have hq := HK9.out W hW; go_simp; with_reducible rfl
        simp only [Act.put, List.setIfInBounds_toArray, List.set_cons_zero, List.set_cons_succ]
        refine take_in (i := 10) (oi := ⟨_, _, _, _, _, _⟩) (v := ?_) rfl (by kernel_rfl) (by kernel_rfl) (by kernel_rfl) (fun _ _ _ h => h) (by rfl) ?_ HB3.out ?_
        rotate_left
        · intro W hW; have hq := HKQ.out W hW; go_simp; with_reducible rfl
        simp only [Act.put, List.setIfInBounds_toArray, List.set_cons_zero, List.set_cons_succ]
        refine take_in (i := 11) (oi := ⟨_, _, _, _, _, _⟩) (v := ?_) rfl (by kernel_rfl) (by kernel_rfl) (by kernel_rfl) (fun _ _ _ h => h) (by rfl) ?_ HB3.out ?_
        rotate_left
        · intro W hW; have hq := HKQ.out W hW; go_simp; with_reducible rfl
        simp only [Act.put, List.setIfInBounds_toArray, List.set_cons_zero, List.set_cons_succ]
        refine take_in (i := 12) (oi := ⟨_, _, _, _, _, _⟩) (v := ?_) rfl (by kernel_rfl) (by kernel_rfl) (by kernel_rfl) (fun _ _ _ h => h) (by rfl) ?_ HB3.out ?_
        rotate_left
        · intro W hW; have hq := HKQ.out W hW; go_simp; with_reducible rfl
        simp only [Act.put, List.setIfInBounds_toArray, List.set_cons_zero, List.set_cons_succ]
        refine take_in (i := 13) (oi := ⟨_, _, _, _, _, _⟩) (v := ?_) rfl (by kernel_rfl) (by kernel_rfl) (by kernel_rfl) (fun _ _ _ h => h) (by rfl) ?_ HB3.out ?_
        rotate_left
        · intro W hW; have hq := HKQ.out W hW; go_simp; with_reducible rfl
        simp only [Act.put, List.setIfInBounds_toArray, List.set_cons_zero, List.set_cons_succ]
        refine take_in (i := 15) (oi := ⟨_, _, _, _, _, _⟩) (v := ?_) rfl (by kernel_rfl) (by kernel_rfl) (by kernel_rfl) (fun _ _ _ h => h) (by rfl) ?_ HB3.out ?_
        rotate_left
        · intro W hW; have hq := HKQ.out W hW; go_simp; with_reducible rfl
        simp only [Act.put, List.setIfInBounds_toArray, List.set_cons_zero, List.set_cons_succ]
        refine take_in (i := 16) (oi := ⟨_, _, _, _, _, _⟩) (v := ?_) rfl (by kernel_rfl) (by kernel_rfl) (by kernel_rfl) (fun _ _ _ h => h) (by rfl) ?_ HB3.out ?_
        rotate_left
        · intro W hW; have hq := HKQ.out W hW; go_simp; with_reducible rfl
        simp only [Act.put, List.setIfInBounds_toArray, List.set_cons_zero, List.set_cons_succ]
        refine wpAnyH_ready (rs := [14]) (by kernel_rfl) (by simp) ?_
        refine AllReadyH.cons (o := ⟨_, _, _, _, _, _⟩) rfl (fun K hK => ?_) AllReadyH.nil
        go_simp
        refine (Dkw.safe_c _ _ F8 _ (HD2.out.all HB3.out)).mono ?_
        rintro e v3 ⟨rfl, hb⟩
        have HB4 := Lib.hid (HB3.out.trans (hb.mono HB3.out.size)); clear hb
        refine hK.out _ _ HB4.out (fun _ => ?_)
        clear hK K
        refine take_in (i := 17) (oi := ⟨_, _, _, _, _, _⟩) (v := ?_) rfl (by kernel_rfl) (by kernel_rfl) (by kernel_rfl) (fun _ _ _ h => h) (by rfl) ?_ HB4.out ?_
        rotate_left
        · intro W hW; have hq := HKQ.out W hW; go_simp; with_reducible rfl
        simp only [Act.put, List.setIfInBounds_toArray, List.set_cons_zero, List.set_cons_succ]
        refine take_in (i := 18) (oi := ⟨_, _, _, _, _, _⟩) (v := ?_) rfl (by kernel_rfl) (by kernel_rfl) (by kernel_rfl) (fun _ _ _ h => h) (by rfl) ?_ HB4.out ?_
        rotate_left
        · intro W hW; have hq := HKQ.out W hW; go_simp; with_reducible rfl
        simp only [Act.put, List.setIfInBounds_toArray, List.set_cons_zero, List.set_cons_succ]
        refine take_in (i := 19) (oi := ⟨_, _, _, _, _, _⟩) (v := ?_) rfl (by kernel_rfl) (by kernel_rfl) (by kernel_rfl) (fun _ _ _ h => h) (by rfl) ?_ HB4.out ?_
        rotate_left
        · intro W hW; have hq := HKQ.out W hW; go_simp; with_reducible rfl
        simp only [Act.put, List.setIfInBounds_toArray, List.set_cons_zero, List.set_cons_succ]
        refine take_in (i := 20) (oi := ⟨_, _, _, _, _, _⟩) (v := ?_) rfl (by kernel_rfl) (by kernel_rfl) (by kernel_rfl) (fun _ _ _ h => h) (by rfl) ?_ HB4.out ?_
        rotate_left
        · intro W hW; have hq := HKQ.out W hW; go_simp; with_reducible rfl
        simp only [Act.put, List.setIfInBounds_toArray, List.set_cons_zero, List.set_cons_succ]
        refine take_in (i := 22) (oi := ⟨_, _, _, _, _, _⟩) (v := ?_) rfl (by kernel_rfl) (by kernel_rfl) (by kernel_rfl) (fun _ _ _ h => h) (by rfl) ?_ HB4.out ?_
        rotate_left
        · intro W hW; have hq := HKQ.out W hW; go_simp; with_reducible rfl
        simp only [Act.put, List.setIfInBounds_toArray, List.set_cons_zero, List.set_cons_succ]
        refine take_in (i := 23) (oi := ⟨_, _, _, _, _, _⟩) (v := ?_) rfl (by kernel_rfl) (by kernel_rfl) (by kernel_rfl) (fun _ _ _ h => h) (by rfl) ?_ HB4.out ?_
        rotate_left
        · intro W hW; have hq := HKQ.out W hW; go_simp; with_reducible rfl
        simp only [Act.put, List.setIfInBounds_toArray, List.set_cons_zero, List.set_cons_succ]
        refine wpAnyH_ready (rs := [21]) (by kernel_rfl) (by simp) ?_
        refine AllReadyH.cons (o := ⟨_, _, _, _, _, _⟩) rfl (fun K hK => ?_) AllReadyH.nil
        go_simp
        refine (Dkw.off_c _ _ F8 _ (HD2.out.all HB4.out)).mono ?_
        rintro e v4 ⟨rfl, hb⟩
        have HB5 := Lib.hid (HB4.out.trans (hb.mono HB4.out.size)); clear hb
        refine hK.out _ _ HB5.out (fun _ => ?_)
        clear hK K
        refine take_in (i := 24) (oi := ⟨_, _, _, _, _, _⟩) (v := ?_) rfl (by kernel_rfl) (by kernel_rfl) (by kernel_rfl) (fun _ _ _ h => h) (by rfl) ?_ HB5.out ?_
        rotate_left
        · intro W hW; go_simp; with_reducible rfl
        simp only [Act.put, List.setIfInBounds_toArray, List.set_cons_zero, List.set_cons_succ]
        refine take_in (i := 25) (oi := ⟨_, _, _, _, _, _⟩) (v := ?_) rfl (by kernel_rfl) (by kernel_rfl) (by kernel_rfl) (fun _ _ _ h => h) (by rfl) ?_ HB5.out ?_
        rotate_left
        · intro W hW; go_simp; with_reducible rfl
        simp only [Act.put, List.setIfInBounds_toArray, List.set_cons_zero, List.set_cons_succ]
        refine take_in (i := 26) (oi := ⟨_, _, _, _, _, _⟩) (v := ?_) rfl (by kernel_rfl) (by kernel_rfl) (by kernel_rfl) (fun _ _ _ h => h) (by rfl) ?_ HB5.out ?_
        rotate_left
        · intro W hW; go_simp; with_reducible rfl
        simp only [Act.put, List.setIfInBounds_toArray, List.set_cons_zero, List.set_cons_succ]
        refine take_in (i := 27) (oi := ⟨_, _, _, _, _, _⟩) (v := ?_) rfl (by kernel_rfl) (by kernel_rfl) (by kernel_rfl) (fun _ _ _ h => h) (by rfl) ?_ HB5.out ?_
        rotate_left
        · intro W hW; go_simp; with_reducible rfl
        simp only [Act.put, List.setIfInBounds_toArray, List.set_cons_zero, List.set_cons_succ]
        refine take_in (i := 29) (oi := ⟨_, _, _, _, _, _⟩) (v := ?_) rfl (by kernel_rfl) (by kernel_rfl) (by kernel_rfl) (fun _ _ _ h => h) (by rfl) ?_ HB5.out ?_
        rotate_left
        · intro W hW; go_simp; with_reducible rfl
        simp only [Act.put, List.setIfInBounds_toArray, List.set_cons_zero, List.set_cons_succ]
        refine wpAnyH_ready (rs := [28]) (by kernel_rfl) (by simp) ?_
        refine AllReadyH.cons (o := ⟨_, _, _, _, _, _⟩) rfl (fun K hK => ?_) AllReadyH.nil
        go_simp
        refine (read_c _ _ F8 _ (HD2.out.all HB5.out)).mono ?_
        rintro e v5 ⟨A28, n28, c28, rs28, m28, rfl, hsc, hsr, hb⟩
        obtain ⟨rfl, _⟩ := scans_one hsc HSC.out
        have HSR28 := Lib.hid hsr
        have HB6 := Lib.hid (HB5.out.trans (hb.mono HB5.out.size)); clear hb hsc hsr
        refine hK.out _ _ HB6.out (fun _ => ?_)
        clear hK K
        refine wpAnyH_ready (rs := [30]) (by kernel_rfl) (by simp) ?_
        refine AllReadyH.cons (o := ⟨_, _, _, _, _, _⟩) rfl (fun K hK => ?_) AllReadyH.nil
        go_simp
        refine (same_r _ _ _ _ _ _ _ _ _ HSR28.out (HS2.out.all HB6.out)).mono ?_
        rw [sameR_refl]
        rintro e v6 ⟨rfl, hb⟩
        have HB7 := Lib.hid (HB6.out.trans (hb.mono HB6.out.size)); clear hb
        refine hK.out _ _ HB7.out (fun _ => ?_)
        clear hK K
        refine take_in (i := 31) (oi := ⟨_, _, _, _, _, _⟩) (v := ?_) rfl (by kernel_rfl) (by kernel_rfl) (by kernel_rfl) (fun _ _ _ h => h) (by rfl) ?_ HB7.out ?_
        rotate_left
        · intro W hW; go_simp; with_reducible rfl
        simp only [Act.put, List.setIfInBounds_toArray, List.set_cons_zero, List.set_cons_succ]
        refine take_in (i := 32) (oi := ⟨_, _, _, _, _, _⟩) (v := ?_) rfl (by kernel_rfl) (by kernel_rfl) (by kernel_rfl) (fun _ _ _ h => h) (by rfl) ?_ HB7.out ?_
        rotate_left
        · intro W hW; go_simp; with_reducible rfl
        simp only [Act.put, List.setIfInBounds_toArray, List.set_cons_zero, List.set_cons_succ]
        refine wpAnyH_done (by kernel_rfl) ?_ _
        have HB8 := Lib.hid (HB2.out.trans (HB7.out.mono HB2.out.size))
        go_wp2
        exact ⟨⟨k + 1, _, F8, by go_num, by omega, HD.out.all HB8.out, HRW.out.all HB8.out, HF.out, HB.out.trans (HB8.out.mono HB.out.size)⟩, by simp [intOf]; omega⟩
      have z3 : (ki == 3) = false := by rw [beq_eq_false_iff_ne]; exact e3
      clear e3
      go_upto_region 25 with (fail)
      clear v0
      obtain ⟨Aq, nq, cq, hxq, hnq, hcq, hrq, hfq⟩ := HRW.out
      have x0 := hxq.c0
      have HNQ := Lib.hid hnq; have HCQ := Lib.hid hcq; have HRQ := Lib.hid hrq.rd
      have HIV := Lib.hid HD.out.iv
      clear hxq hnq hcq hrq hfq
      go_wp2_with fail
      clear x0
      refine (scan_r Aq nq cq d.data HNQ.out HCQ.out (by have h1 := HNQ.out; have h2 := HIV.out.2.2.1; omega) w6 HRQ.out).mono ?_
      rintro e v0 ⟨A11, n11, c11, m11, rs11, rfl, hsc, hsr, hb⟩
      have HSC := Lib.hid hsc; have HSR := Lib.hid hsr
      have HRW := Lib.hid (HRW.out.all hb); have HD := Lib.hid (HD.out.all hb); have HB := Lib.hid (HB.out.trans (hb.mono HB.out.size))
      clear hsc hsr hb HNQ HCQ HRQ HIV
      go_upto_region 26 with (fail)
      obtain ⟨Aq, nq, cq, hxq, hnq, hcq, hrq, hfq⟩ := HRW.out
      have HKQ : Hid (∀ W', Below v0.heap.size v0 W' → (W'.cell? ⟨gw, 0, none⟩ = some (.slice Aq nq cq) ∧ W'.cell? ⟨gw, 1, none⟩ = some (.int .i64 d.safe) ∧ W'.cell? ⟨gw, 4, none⟩ = some (.bool d.off)) ∧ (convert 41 9 (.slice Aq nq cq)).run Try.prog W' = .ok (.string (str d.data)) W') := Lib.hid (fun W' h => ⟨⟨(hxq.all h).c0, (hxq.all h).c1, (hxq.all h).c4⟩, str8' cq (hrq.rd.below h) hnq⟩)
      clear hxq hnq hcq hrq hfq
      have hsm := Dkw.str_same d.data
      refine wp_region_held_drew (S := fun W' => Below v0.heap.size v0 W') (by kernel_rfl) (Below.refl _ _).drew (fun hHeld => ?_)
      generalize v0.drew = v1 at hHeld ⊢
      have HB1 : Hid (Below v0.heap.size v0 v1) := hHeld
      clear hHeld
      refine take_in (i := 0) (oi := ⟨_, _, _, _, _, _⟩) (v := ?_) rfl (by kernel_rfl) (by kernel_rfl) (by kernel_rfl) (fun _ _ _ h => h) (by rfl) ?_ HB1.out ?_
      rotate_left
      · intro W hW; have hq := HKQ.out W hW; go_simp; with_reducible rfl
      simp only [Act.put, List.setIfInBounds_toArray, List.set_cons_zero, List.set_cons_succ]
      refine take_in (i := 1) (oi := ⟨_, _, _, _, _, _⟩) (v := ?_) rfl (by kernel_rfl) (by kernel_rfl) (by kernel_rfl) (fun _ _ _ h => h) (by rfl) ?_ HB1.out ?_
      rotate_left
      · intro W hW; have hq := HKQ.out W hW; go_simp; with_reducible rfl
      simp only [Act.put, List.setIfInBounds_toArray, List.set_cons_zero, List.set_cons_succ]
      refine take_in (i := 2) (oi := ⟨_, _, _, _, _, _⟩) (v := ?_) rfl (by kernel_rfl) (by kernel_rfl) (by kernel_rfl) (fun _ _ _ h => h) (by rfl) ?_ HB1.out ?_
      rotate_left
      · intro W hW; have hq := HKQ.out W hW; go_simp; with_reducible rfl
      simp only [Act.put, List.setIfInBounds_toArray, List.set_cons_zero, List.set_cons_succ]
      refine take_in (i := 3) (oi := ⟨_, _, _, _, _, _⟩) (v := ?_) rfl (by kernel_rfl) (by kernel_rfl) (by kernel_rfl) (fun _ _ _ h => h) (by rfl) ?_ HB1.out ?_
      rotate_left
      · intro W hW; have hq := HKQ.out W hW; go_simp; with_reducible rfl
      simp only [Act.put, List.setIfInBounds_toArray, List.set_cons_zero, List.set_cons_succ]
      refine take_in (i := 4) (oi := ⟨_, _, _, _, _, _⟩) (v := ?_) rfl (by kernel_rfl) (by kernel_rfl) (by kernel_rfl) (fun _ _ _ h => h) (by rfl) ?_ HB1.out ?_
      rotate_left
      · intro W hW; have hq := HKQ.out W hW; go_simp; with_reducible rfl
      simp only [Act.put, List.setIfInBounds_toArray, List.set_cons_zero, List.set_cons_succ]
      refine take_in (i := 7) (oi := ⟨_, _, _, _, _, _⟩) (v := ?_) rfl (by kernel_rfl) (by kernel_rfl) (by kernel_rfl) (fun _ _ _ h => h) (by rfl) ?_ HB1.out ?_
      rotate_left
      · intro W hW; have hq := HKQ.out W hW; go_simp; with_reducible rfl
      simp only [Act.put, List.setIfInBounds_toArray, List.set_cons_zero, List.set_cons_succ]
      refine take_in (i := 8) (oi := ⟨_, _, _, _, _, _⟩) (v := ?_) rfl (by kernel_rfl) (by kernel_rfl) (by kernel_rfl) (fun _ _ _ h => h) (by rfl) ?_ HB1.out ?_
      rotate_left
      · intro W hW; have hq := HKQ.out W hW; go_simp; with_reducible rfl
      simp only [Act.put, List.setIfInBounds_toArray, List.set_cons_zero, List.set_cons_succ]
      refine take_in (i := 9) (oi := ⟨_, _, _, _, _, _⟩) (v := ?_) rfl (by kernel_rfl) (by kernel_rfl) (by kernel_rfl) (fun _ _ _ h => h) (by rfl) ?_ HB1.out ?_
      rotate_left
      · intro W hW; have hq := HKQ.out W hW; go_simp; with_reducible rfl
      simp only [Act.put, List.setIfInBounds_toArray, List.set_cons_zero, List.set_cons_succ]
      refine wpAnyH_ready (rs := [5]) (by kernel_rfl) (by simp) ?_
      refine AllReadyH.cons (o := ⟨_, _, _, _, _, _⟩) rfl (fun K hK => ?_) AllReadyH.nil
      go_simp
      refine (Dkw.bytes_c _ _ F _ (HD.out.all HB1.out)).mono ?_
      rintro e v2 ⟨A9, n9, c9, rfl, how, hb⟩
      have HO9 := Lib.hid how; clear how
      have HB2 := Lib.hid (HB1.out.trans (hb.mono HB1.out.size)); clear hb
      refine hK.out _ _ HB2.out (fun _ => ?_)
      clear hK K
      have HK9 : Hid (∀ W', Below v2.heap.size v2 W' → (convert 41 9 (.slice A9 n9 c9)).run Try.prog W' = .ok (.string (str d.data)) W') := Lib.hid (fun W' h => str8' c9 (HO9.out.rd.below h) HO9.out.1)
      refine tighten (S' := fun W' => Below v2.heap.size v2 W') (fun W' h => HB2.out.trans (h.mono HB2.out.size)) _ _ _ _ ?_
      have HB3 := Lib.hid (Below.refl v2.heap.size v2)
      have HD2 := Lib.hid (HD.out.all HB2.out)
      have HS2 := Lib.hid (HSR.out.all HB2.out)
      have HKQ : Hid (∀ W', Below v2.heap.size v2 W' → (W'.cell? ⟨gw, 0, none⟩ = some (.slice Aq nq cq) ∧ W'.cell? ⟨gw, 1, none⟩ = some (.int .i64 d.safe) ∧ W'.cell? ⟨gw, 4, none⟩ = some (.bool d.off))) := Lib.hid (fun W' h => (HKQ.out W' (HB2.out.trans (h.mono HB2.out.size))).1)
      refine take_in (i := 6) (oi := ⟨_, _, _, _, _, _⟩) (v := ?_) rfl (by kernel_rfl) (by kernel_rfl) (by kernel_rfl) (fun _ _ _ h => h) (by rfl) ?_ HB3.out ?_
      rotate_left
      · intro W hW; have hq := HK9.out W hW; go_simp; with_reducible rfl
      simp only [Act.put, List.setIfInBounds_toArray, List.set_cons_zero, List.set_cons_succ]
      refine take_in (i := 10) (oi := ⟨_, _, _, _, _, _⟩) (v := ?_) rfl (by kernel_rfl) (by kernel_rfl) (by kernel_rfl) (fun _ _ _ h => h) (by rfl) ?_ HB3.out ?_
      rotate_left
      · intro W hW; have hq := HKQ.out W hW; go_simp; with_reducible rfl
      simp only [Act.put, List.setIfInBounds_toArray, List.set_cons_zero, List.set_cons_succ]
      refine take_in (i := 11) (oi := ⟨_, _, _, _, _, _⟩) (v := ?_) rfl (by kernel_rfl) (by kernel_rfl) (by kernel_rfl) (fun _ _ _ h => h) (by rfl) ?_ HB3.out ?_
      rotate_left
      · intro W hW; have hq := HKQ.out W hW; go_simp; with_reducible rfl
      simp only [Act.put, List.setIfInBounds_toArray, List.set_cons_zero, List.set_cons_succ]
      refine take_in (i := 12) (oi := ⟨_, _, _, _, _, _⟩) (v := ?_) rfl (by kernel_rfl) (by kernel_rfl) (by kernel_rfl) (fun _ _ _ h => h) (by rfl) ?_ HB3.out ?_
      rotate_left
      · intro W hW; have hq := HKQ.out W hW; go_simp; with_reducible rfl
      simp only [Act.put, List.setIfInBounds_toArray, List.set_cons_zero, List.set_cons_succ]
      refine take_in (i := 13) (oi := ⟨_, _, _, _, _, _⟩) (v := ?_) rfl (by kernel_rfl) (by kernel_rfl) (by kernel_rfl) (fun _ _ _ h => h) (by rfl) ?_ HB3.out ?_
      rotate_left
      · intro W hW; have hq := HKQ.out W hW; go_simp; with_reducible rfl
      simp only [Act.put, List.setIfInBounds_toArray, List.set_cons_zero, List.set_cons_succ]
      refine take_in (i := 15) (oi := ⟨_, _, _, _, _, _⟩) (v := ?_) rfl (by kernel_rfl) (by kernel_rfl) (by kernel_rfl) (fun _ _ _ h => h) (by rfl) ?_ HB3.out ?_
      rotate_left
      · intro W hW; have hq := HKQ.out W hW; go_simp; with_reducible rfl
      simp only [Act.put, List.setIfInBounds_toArray, List.set_cons_zero, List.set_cons_succ]
      refine take_in (i := 16) (oi := ⟨_, _, _, _, _, _⟩) (v := ?_) rfl (by kernel_rfl) (by kernel_rfl) (by kernel_rfl) (fun _ _ _ h => h) (by rfl) ?_ HB3.out ?_
      rotate_left
      · intro W hW; have hq := HKQ.out W hW; go_simp; with_reducible rfl
      simp only [Act.put, List.setIfInBounds_toArray, List.set_cons_zero, List.set_cons_succ]
      refine wpAnyH_ready (rs := [14]) (by kernel_rfl) (by simp) ?_
      refine AllReadyH.cons (o := ⟨_, _, _, _, _, _⟩) rfl (fun K hK => ?_) AllReadyH.nil
      go_simp
      refine (Dkw.safe_c _ _ F _ (HD2.out.all HB3.out)).mono ?_
      rintro e v3 ⟨rfl, hb⟩
      have HB4 := Lib.hid (HB3.out.trans (hb.mono HB3.out.size)); clear hb
      refine hK.out _ _ HB4.out (fun _ => ?_)
      clear hK K
      refine take_in (i := 17) (oi := ⟨_, _, _, _, _, _⟩) (v := ?_) rfl (by kernel_rfl) (by kernel_rfl) (by kernel_rfl) (fun _ _ _ h => h) (by rfl) ?_ HB4.out ?_
      rotate_left
      · intro W hW; have hq := HKQ.out W hW; go_simp; with_reducible rfl
      simp only [Act.put, List.setIfInBounds_toArray, List.set_cons_zero, List.set_cons_succ]
      refine take_in (i := 18) (oi := ⟨_, _, _, _, _, _⟩) (v := ?_) rfl (by kernel_rfl) (by kernel_rfl) (by kernel_rfl) (fun _ _ _ h => h) (by rfl) ?_ HB4.out ?_
      rotate_left
      · intro W hW; have hq := HKQ.out W hW; go_simp; with_reducible rfl
      simp only [Act.put, List.setIfInBounds_toArray, List.set_cons_zero, List.set_cons_succ]
      refine take_in (i := 19) (oi := ⟨_, _, _, _, _, _⟩) (v := ?_) rfl (by kernel_rfl) (by kernel_rfl) (by kernel_rfl) (fun _ _ _ h => h) (by rfl) ?_ HB4.out ?_
      rotate_left
      · intro W hW; have hq := HKQ.out W hW; go_simp; with_reducible rfl
      simp only [Act.put, List.setIfInBounds_toArray, List.set_cons_zero, List.set_cons_succ]
      refine take_in (i := 20) (oi := ⟨_, _, _, _, _, _⟩) (v := ?_) rfl (by kernel_rfl) (by kernel_rfl) (by kernel_rfl) (fun _ _ _ h => h) (by rfl) ?_ HB4.out ?_
      rotate_left
      · intro W hW; have hq := HKQ.out W hW; go_simp; with_reducible rfl
      simp only [Act.put, List.setIfInBounds_toArray, List.set_cons_zero, List.set_cons_succ]
      refine take_in (i := 22) (oi := ⟨_, _, _, _, _, _⟩) (v := ?_) rfl (by kernel_rfl) (by kernel_rfl) (by kernel_rfl) (fun _ _ _ h => h) (by rfl) ?_ HB4.out ?_
      rotate_left
      · intro W hW; have hq := HKQ.out W hW; go_simp; with_reducible rfl
      simp only [Act.put, List.setIfInBounds_toArray, List.set_cons_zero, List.set_cons_succ]
      refine take_in (i := 23) (oi := ⟨_, _, _, _, _, _⟩) (v := ?_) rfl (by kernel_rfl) (by kernel_rfl) (by kernel_rfl) (fun _ _ _ h => h) (by rfl) ?_ HB4.out ?_
      rotate_left
      · intro W hW; have hq := HKQ.out W hW; go_simp; with_reducible rfl
      simp only [Act.put, List.setIfInBounds_toArray, List.set_cons_zero, List.set_cons_succ]
      refine wpAnyH_ready (rs := [21]) (by kernel_rfl) (by simp) ?_
      refine AllReadyH.cons (o := ⟨_, _, _, _, _, _⟩) rfl (fun K hK => ?_) AllReadyH.nil
      go_simp
      refine (Dkw.off_c _ _ F _ (HD2.out.all HB4.out)).mono ?_
      rintro e v4 ⟨rfl, hb⟩
      have HB5 := Lib.hid (HB4.out.trans (hb.mono HB4.out.size)); clear hb
      refine hK.out _ _ HB5.out (fun _ => ?_)
      clear hK K
      refine take_in (i := 24) (oi := ⟨_, _, _, _, _, _⟩) (v := ?_) rfl (by kernel_rfl) (by kernel_rfl) (by kernel_rfl) (fun _ _ _ h => h) (by rfl) ?_ HB5.out ?_
      rotate_left
      · intro W hW; go_simp; with_reducible rfl
      simp only [Act.put, List.setIfInBounds_toArray, List.set_cons_zero, List.set_cons_succ]
      refine take_in (i := 25) (oi := ⟨_, _, _, _, _, _⟩) (v := ?_) rfl (by kernel_rfl) (by kernel_rfl) (by kernel_rfl) (fun _ _ _ h => h) (by rfl) ?_ HB5.out ?_
      rotate_left
      · intro W hW; go_simp; with_reducible rfl
      simp only [Act.put, List.setIfInBounds_toArray, List.set_cons_zero, List.set_cons_succ]
      refine take_in (i := 26) (oi := ⟨_, _, _, _, _, _⟩) (v := ?_) rfl (by kernel_rfl) (by kernel_rfl) (by kernel_rfl) (fun _ _ _ h => h) (by rfl) ?_ HB5.out ?_
      rotate_left
      · intro W hW; go_simp; with_reducible rfl
      simp only [Act.put, List.setIfInBounds_toArray, List.set_cons_zero, List.set_cons_succ]
      refine take_in (i := 27) (oi := ⟨_, _, _, _, _, _⟩) (v := ?_) rfl (by kernel_rfl) (by kernel_rfl) (by kernel_rfl) (fun _ _ _ h => h) (by rfl) ?_ HB5.out ?_
      rotate_left
      · intro W hW; go_simp; with_reducible rfl
      simp only [Act.put, List.setIfInBounds_toArray, List.set_cons_zero, List.set_cons_succ]
      refine take_in (i := 29) (oi := ⟨_, _, _, _, _, _⟩) (v := ?_) rfl (by kernel_rfl) (by kernel_rfl) (by kernel_rfl) (fun _ _ _ h => h) (by rfl) ?_ HB5.out ?_
      rotate_left
      · intro W hW; go_simp; with_reducible rfl
      simp only [Act.put, List.setIfInBounds_toArray, List.set_cons_zero, List.set_cons_succ]
      refine wpAnyH_ready (rs := [28]) (by kernel_rfl) (by simp) ?_
      refine AllReadyH.cons (o := ⟨_, _, _, _, _, _⟩) rfl (fun K hK => ?_) AllReadyH.nil
      go_simp
      refine (read_c _ _ F _ (HD2.out.all HB5.out)).mono ?_
      rintro e v5 ⟨A28, n28, c28, rs28, m28, rfl, hsc, hsr, hb⟩
      obtain ⟨rfl, _⟩ := scans_one hsc HSC.out
      have HSR28 := Lib.hid hsr
      have HB6 := Lib.hid (HB5.out.trans (hb.mono HB5.out.size)); clear hb hsc hsr
      refine hK.out _ _ HB6.out (fun _ => ?_)
      clear hK K
      refine wpAnyH_ready (rs := [30]) (by kernel_rfl) (by simp) ?_
      refine AllReadyH.cons (o := ⟨_, _, _, _, _, _⟩) rfl (fun K hK => ?_) AllReadyH.nil
      go_simp
      refine (same_r _ _ _ _ _ _ _ _ _ HSR28.out (HS2.out.all HB6.out)).mono ?_
      rw [sameR_refl]
      rintro e v6 ⟨rfl, hb⟩
      have HB7 := Lib.hid (HB6.out.trans (hb.mono HB6.out.size)); clear hb
      refine hK.out _ _ HB7.out (fun _ => ?_)
      clear hK K
      refine take_in (i := 31) (oi := ⟨_, _, _, _, _, _⟩) (v := ?_) rfl (by kernel_rfl) (by kernel_rfl) (by kernel_rfl) (fun _ _ _ h => h) (by rfl) ?_ HB7.out ?_
      rotate_left
      · intro W hW; go_simp; with_reducible rfl
      simp only [Act.put, List.setIfInBounds_toArray, List.set_cons_zero, List.set_cons_succ]
      refine take_in (i := 32) (oi := ⟨_, _, _, _, _, _⟩) (v := ?_) rfl (by kernel_rfl) (by kernel_rfl) (by kernel_rfl) (fun _ _ _ h => h) (by rfl) ?_ HB7.out ?_
      rotate_left
      · intro W hW; go_simp; with_reducible rfl
      simp only [Act.put, List.setIfInBounds_toArray, List.set_cons_zero, List.set_cons_succ]
      refine wpAnyH_done (by kernel_rfl) ?_ _
      have HB8 := Lib.hid (HB2.out.trans (HB7.out.mono HB2.out.size))
      go_wp2
      exact ⟨⟨k + 1, _, F, by go_num, by omega, HD.out.all HB8.out, HRW.out.all HB8.out, HF.out, HB.out.trans (HB8.out.mono HB.out.size)⟩, by simp [intOf]; omega⟩
    · go_wp2
      go_ret
      exact ⟨rfl, HB.out⟩
end Go.Proofs.Ytjcbdnbbdhjoiaa.logRuns

namespace Go.Proofs.Ytjcbdnbbdhjoiaa
set_option maxRecDepth 20000
open Go.ChangeShapes Go.WideShapes Go.ChangeAt Go.RowKit
open Tg Bk Bkw Lg Lgw Dk Dkw

theorem recs_of {H : Type} {enc : TypeId × Value → H} {W : World} {fuel : Nat} {t : TypeId} {cs : List Value} {x : DataW H × List MemPlace} (ht : Try.prog.underlying t = some (.slice 40))
    (h : DataW.trod enc Try.prog W 0 (fun _ => true) true fuel t cs = some x) :
    ∃ p : Pr, cs = [p.v] ∧ p.n = p.rs.length ∧ p.n ≤ p.c ∧ (p.c = 0 ∨ p.c * 88 ∈ x.1.weights Try.prog t) ∧ (∀ r ∈ p.rs, WfE r.e) ∧ ((∀ y ∈ x.2, y.block < W.heap.size) → Rg.Rs KR W W.heap.size p.a p.rs) := by
  have ce : Try.prog.cellsOf 40 = 11 := by kernel_rfl
  have be : Try.prog.bytesOf 40 = 88 := by kernel_rfl
  rcases Deep.open_slice ht h with ⟨hcs, hx⟩ | ⟨a, len, cap', m, fl, D, Pl, hcs, _, hl, hm, hmm, hx, hrow⟩
  · subst hcs
    exact ⟨⟨none, 0, 0, []⟩, rfl, rfl, Nat.le_refl _, Or.inl rfl, by simp, fun _ => Rg.Rs.nil⟩
  · subst hcs
    obtain ⟨x1, x2⟩ := x
    simp only [Prod.mk.injEq] at hx
    obtain ⟨rfl, rfl⟩ := hx
    simp only [if_true] at hmm
    subst hmm
    have each : ∀ i, i < m → ∃ r : R, WfE r.e ∧ ∀ j u, j < 11 → (cellsR r)[j]? = some u → W.cell? (a.add (i * 11 + j)) = some u := by
      intro i hi
      obtain ⟨cs, h1, h2⟩ := hrow i hi
      rw [ce] at h1
      obtain ⟨_, hlen, hcell⟩ := World.cells?_some h1
      obtain ⟨r, hw, rfl⟩ := trod_rec hlen h2
      refine ⟨r, hw, fun j u hj hu => ?_⟩
      have := hcell j hj
      rw [Deep.add_add] at this
      rw [this]
      exact hu
    let f : Nat → R := fun r => if h : r < m then (each r h).choose else zeroR
    have hat : ∀ j, j < m → WfE (f j).e ∧ ∀ i u, i < 11 → (cellsR (f j))[i]? = some u → W.cell? (a.add (j * 11 + i)) = some u := by
      intro j hj
      have := (each j hj).choose_spec
      simp only [f, dif_pos hj]
      exact this
    refine ⟨⟨some a, len, m, (List.range len).map f⟩, rfl, by simp, hl, Or.inr ?_, ?_, fun hlt => ?_⟩
    · simp only [DataW.weights, ht, be, List.mem_cons]
      left
      simp
      omega
    · intro x hx
      obtain ⟨j, hj, rfl⟩ := List.mem_map.1 hx
      exact (hat j (by have := List.mem_range.1 hj; omega)).1
    · intro hpos
      simp only [List.length_map, List.length_range] at hpos
      obtain ⟨b, off, spot⟩ := a
      have hspot : spot = none := by simpa [Addr.add] using World.cell?_spot ((hat 0 (by omega)).2 0 _ (by omega) rfl)
      subst hspot
      refine ⟨b, off, rfl, hlt (.cell b off) (List.mem_append_left _ (MemPlace.mem_row.2 ⟨0, by rw [ce]; omega, by simp⟩)), fun j u hu => ?_⟩
      rw [List.getElem?_map] at hu
      rcases Nat.lt_or_ge j len with hj | hj
      · rw [List.getElem?_range hj] at hu
        simp only [Option.map_some, Option.some.injEq] at hu
        subst hu
        intro i v hv
        have hi : i < 11 := Rg.lt_cells KR hv
        have := (hat j (by omega)).2 i v hi hv
        rw [add_plain] at this
        show W.cell? ⟨b, off + j * 11 + i, none⟩ = some v
        rw [Nat.add_assoc]
        exact this
      · rw [List.getElem?_eq_none (by simpa using hj)] at hu
        cases hu
/-- a slice of slices of records -/
theorem open_prs {H : Type} {enc : TypeId × Value → H} {W : World} {b0 : Nat} {t e : TypeId} {v : Value} {d : DataW H} {p : List MemPlace} (ht : Try.prog.underlying t = some (.slice e)) (he : Try.prog.underlying e = some (.slice 40))
    (ce : Try.prog.cellsOf e = 1)
    (hval : Value.okWide Try.prog W .any b0 t v) (h : DataW.Trod enc Try.prog W 0 (fun _ => true) true t v d p) (hlt : ∀ x ∈ p, x.block < W.heap.size)
    (hw : ∀ n ∈ d.weights Try.prog t, n ≤ reachBytes) :
    ∃ A n c, ∃ ps : List Pr, v = .slice A n c ∧ n = ps.length ∧ n ≤ c ∧ Prs W W.heap.size A ps ∧ Places d c := by
  obtain ⟨a0, len, cap, rfl⟩ := okWide_slice ht hval
  obtain ⟨fuel, hf⟩ := h
  rcases Deep.open_slice ht hf with ⟨hcs, hx⟩ | ⟨a, len', cap', m, fl, D, Pl, hcs, _, hl, hm, hmm, hx, hrow⟩
  · simp [Value.cells] at hcs
    obtain ⟨rfl, rfl, rfl⟩ := hcs
    simp only [Prod.mk.injEq] at hx
    obtain ⟨rfl, rfl⟩ := hx
    exact ⟨none, 0, 0, [], rfl, rfl, Nat.le_refl _, ⟨Rd.nil, by simp⟩, Or.inl ⟨rfl, rfl⟩⟩
  · simp [Value.cells] at hcs
    obtain ⟨rfl, rfl, rfl⟩ := hcs
    simp only [Prod.mk.injEq] at hx
    obtain ⟨rfl, rfl⟩ := hx
    simp only [if_true] at hmm
    subst hmm
    have each : ∀ i, i < len → ∃ x : Pr, x.ok W W.heap.size ∧ W.cell? (a.add i) = some x.v := by
      intro i hi
      obtain ⟨cs, h1, h2⟩ := hrow i (by omega)
      rw [ce, Nat.mul_one] at h1
      obtain ⟨_, hlen, hcell⟩ := World.cells?_some h1
      obtain ⟨x, rfl, hn, hc, hbig, hwf, hrd⟩ := recs_of he h2
      have h0 := hcell 0 (by omega)
      rw [Deep.add_add, Nat.add_zero] at h0
      refine ⟨x, ⟨hn, hc, ?_, hwf, hrd (fun y hy => hlt y (List.mem_append_right _ (List.mem_flatMap.2 ⟨i, by simp; omega, hy⟩)))⟩, ?_⟩
      · rcases hbig with h | h
        · omega
        · have := hw (x.c * 88) (by
            simp only [DataW.weights, ht, List.mem_cons, List.mem_append]
            exact Or.inr (Or.inl (weights_all (List.mem_map.2 ⟨i, by simpa using hi, rfl⟩) _ h)))
          unfold reachBytes at this
          omega
      · rw [h0]; rfl
    let f : Nat → Pr := fun r => if h : r < len then (each r h).choose else ⟨none, 0, 0, []⟩
    have hat : ∀ j, j < len → (f j).ok W W.heap.size ∧ W.cell? (a.add j) = some (f j).v := by
      intro j hj
      have := (each j hj).choose_spec
      simp only [f, dif_pos hj]
      exact this
    refine ⟨some a, len, _, (List.range len).map f, rfl, by simp, hl, ⟨?_, ?_⟩, Or.inr ⟨_, _, rfl, by simp; omega⟩⟩
    · intro hpos
      simp only [List.length_map, List.length_range] at hpos
      obtain ⟨b, off, spot⟩ := a
      have hspot : spot = none := by simpa [Addr.add] using World.cell?_spot (hat 0 (by omega)).2
      subst hspot
      refine ⟨b, off, rfl, hlt (.cell b off) (List.mem_append_left _ (MemPlace.mem_row.2 ⟨0, by rw [ce]; omega, by simp⟩)), fun j u hu => ?_⟩
      rw [List.map_map, List.getElem?_map] at hu
      rcases Nat.lt_or_ge j len with hj | hj
      · rw [List.getElem?_range hj] at hu
        simp only [Option.map_some, Option.some.injEq, Function.comp] at hu
        subst hu
        have := (hat j hj).2
        rw [add_plain] at this
        exact this
      · rw [List.getElem?_eq_none (by simpa using hj)] at hu
        cases hu
    · intro x hx
      obtain ⟨j, hj, rfl⟩ := List.mem_map.1 hx
      exact (hat j (List.mem_range.1 hj)).1
end Go.Proofs.Ytjcbdnbbdhjoiaa

namespace Go.Proofs.Ytjcbdnbbdhjoiaa
set_option maxRecDepth 20000
open Go.ChangeShapes Go.WideShapes Go.ChangeAt Go.RowKit
open Tg Bk Bkw Lg Lgw Dk

/-- a slice of structs of two numbers, a slice of records and a text -/
theorem open_als {H : Type} {enc : TypeId × Value → H} {W : World} {b0 : Nat} {t s e q ti tr : TypeId} {f0 f1 f2 f3 : Field} {v : Value} {d : DataW H} {p : List MemPlace} (ht : Try.prog.underlying t = some (.slice s)) (hs : Try.prog.underlying s = some (.struct #[f0, f1, f2, f3]))
    (cs : Try.prog.cellsOf s = 4) (o0 : f0.offset = 0) (o1 : f1.offset = 1) (o2 : f2.offset = 2) (o3 : f3.offset = 3) (t0 : f0.type = ti) (t1 : f1.type = ti) (t2 : f2.type = tr) (t3 : f3.type = e)
    (hi : Try.prog.underlying ti = some (.int .i64)) (ci : Try.prog.cellsOf ti = 1) (htr : Try.prog.underlying tr = some (.slice 40)) (ctr : Try.prog.cellsOf tr = 1) (he : Try.prog.underlying e = some (.slice q)) (hq : Try.prog.underlying q = some (.int .u8))
    (ce : Try.prog.cellsOf e = 1) (cq : Try.prog.cellsOf q = 1) (bq : Try.prog.bytesOf q = 1)
    (hval : Value.okWide Try.prog W .any b0 t v) (h : DataW.Trod enc Try.prog W 0 (fun _ => true) true t v d p) (hlt : ∀ x ∈ p, x.block < W.heap.size)
    (hw : ∀ n ∈ d.weights Try.prog t, n ≤ reachBytes) :
    ∃ A n c, ∃ xs : List Al, v = .slice A n c ∧ n = xs.length ∧ n ≤ c ∧ Als W W.heap.size A xs ∧ Places d c := by
  obtain ⟨a0, len, cap, rfl⟩ := okWide_slice ht hval
  obtain ⟨fuel, hf⟩ := h
  rcases Deep.open_slice ht hf with ⟨hcs, hx⟩ | ⟨a, len', cap', m, fl, D, Pl, hcs, _, hl, hm, hmm, hx, hrow⟩
  · simp [Value.cells] at hcs
    obtain ⟨rfl, rfl, rfl⟩ := hcs
    simp only [Prod.mk.injEq] at hx
    obtain ⟨rfl, rfl⟩ := hx
    exact ⟨none, 0, 0, [], rfl, rfl, Nat.le_refl _, ⟨by simp, by simp⟩, Or.inl ⟨rfl, rfl⟩⟩
  · simp [Value.cells] at hcs
    obtain ⟨rfl, rfl, rfl⟩ := hcs
    simp only [Prod.mk.injEq] at hx
    obtain ⟨rfl, rfl⟩ := hx
    simp only [if_true] at hmm
    subst hmm
    have each : ∀ i, i < len → ∃ x : Al, x.ok W W.heap.size ∧ W.cell? (a.add (i * 4)) = some (.int .i64 x.kind) ∧ W.cell? (a.add (i * 4 + 1)) = some (.int .i64 x.num) ∧ W.cell? (a.add (i * 4 + 2)) = some x.pr.v ∧ W.cell? (a.add (i * 4 + 3)) = some x.pt.v := by
      intro i hi'
      obtain ⟨vs, h1, h2⟩ := hrow i (by omega)
      rw [cs] at h1
      obtain ⟨_, hlen, hcell⟩ := World.cells?_some h1
      obtain ⟨xs, k, hk, hxy, _, hxl, hfd⟩ := DataW.trod_struct hs h2
      match xs, hxl, vs, hlen with
      | [y0, y1, y2, y3], _, [v0, v1, v2, v3], _ =>
        have g0 := hfd 0 f0 rfl
        have g1 := hfd 1 f1 rfl
        have g2 := hfd 2 f2 rfl
        have g3 := hfd 3 f3 rfl
        rw [t0, ci, o0] at g0
        rw [t1, ci, o1] at g1
        rw [t2, ctr, o2] at g2
        rw [t3, ce, o3] at g3
        simp only [List.drop_zero, List.drop_succ_cons, List.take_succ_cons, List.take_zero, List.getElem?_cons_zero, List.getElem?_cons_succ] at g0 g1 g2 g3
        obtain ⟨x0, e0, _, w0⟩ := DataW.trod_int hi g0
        obtain ⟨x1, e1, _, w1⟩ := DataW.trod_int hi g1
        obtain ⟨x2, e2, hn2, hc2, hbig2, hwf2, hrd2⟩ := recs_of htr g2
        obtain ⟨x3, e3, hn, hc, hbig, hrd⟩ := text_of he hq cq bq g3
        obtain rfl : v0 = .int .i64 x0 := (List.cons.inj e0).1
        obtain rfl : v1 = .int .i64 x1 := (List.cons.inj e1).1
        obtain rfl : v2 = x2.v := (List.cons.inj e2).1
        obtain rfl : v3 = x3.v := (List.cons.inj e3).1
        have c0 := hcell 0 (by omega)
        have c1 := hcell 1 (by omega)
        have c2 := hcell 2 (by omega)
        have c3 := hcell 3 (by omega)
        rw [Deep.add_add] at c0 c1 c2 c3
        simp only [Prod.mk.injEq] at hxy
        refine ⟨⟨x0, x1, x2, x3⟩, ⟨i64_of w0, i64_of w1, ⟨hn2, hc2, ?_, hwf2, hrd2 (fun y hy => hlt y (List.mem_append_right _ (List.mem_flatMap.2 ⟨i, by simp; omega, ?_⟩)))⟩, hn, hc, ?_, hrd (fun y hy => hlt y (List.mem_append_right _ (List.mem_flatMap.2 ⟨i, by simp; omega, ?_⟩)))⟩, by rw [Nat.add_zero] at c0; exact c0, c1, c2, c3⟩
        · show x2.n * 88 ≤ 140737488355328
          rcases hbig2 with h | h
          · omega
          · have := hw (x2.c * 88) (by
              simp only [DataW.weights, ht, List.mem_cons, List.mem_append]
              refine Or.inr (Or.inl (weights_all (List.mem_map.2 ⟨i, by simpa using hi', rfl⟩) _ ?_))
              rw [hxy.1]
              simp only [DataW.weights, hs, DataW.weightsEach, List.map_cons, List.map_nil, List.mem_append, t2]
              exact Or.inr (Or.inr (Or.inl h)))
            unfold reachBytes at this
            omega
        · rw [hxy.2]
          simp [hy]
        · show x3.n ≤ big
          rcases hbig with h | h
          · unfold big; omega
          · have := hw x3.c (by
              simp only [DataW.weights, ht, List.mem_cons, List.mem_append]
              refine Or.inr (Or.inl (weights_all (List.mem_map.2 ⟨i, by simpa using hi', rfl⟩) _ ?_))
              rw [hxy.1]
              simp only [DataW.weights, hs, DataW.weightsEach, List.map_cons, List.map_nil, List.mem_append, t3]
              exact Or.inr (Or.inr (Or.inr (Or.inl h))))
            unfold reachBytes at this
            unfold big
            omega
        · rw [hxy.2]
          simp [hy]
    let f : Nat → Al := fun r => if h : r < len then (each r h).choose else ⟨0, 0, ⟨none, 0, 0, []⟩, ⟨none, 0, 0, []⟩⟩
    have hat : ∀ j, j < len → (f j).ok W W.heap.size ∧ W.cell? (a.add (j * 4)) = some (.int .i64 (f j).kind) ∧ W.cell? (a.add (j * 4 + 1)) = some (.int .i64 (f j).num) ∧ W.cell? (a.add (j * 4 + 2)) = some (f j).pr.v ∧ W.cell? (a.add (j * 4 + 3)) = some (f j).pt.v := by
      intro j hj
      have := (each j hj).choose_spec
      simp only [f, dif_pos hj]
      exact this
    refine ⟨some a, len, _, (List.range len).map f, rfl, by simp, hl, ⟨?_, ?_⟩, Or.inr ⟨_, _, rfl, by simp; omega⟩⟩
    · intro hpos
      simp only [List.length_map, List.length_range] at hpos
      obtain ⟨b, off, spot⟩ := a
      have hspot : spot = none := by simpa [Addr.add] using World.cell?_spot (hat 0 (by omega)).2.1
      subst hspot
      refine ⟨b, off, rfl, hlt (.cell b off) (List.mem_append_left _ (MemPlace.mem_row.2 ⟨0, by rw [cs]; omega, by simp⟩)), fun j u hu => ?_⟩
      rw [List.getElem?_map] at hu
      rcases Nat.lt_or_ge j len with hj | hj
      · rw [List.getElem?_range hj] at hu
        simp only [Option.map_some, Option.some.injEq] at hu
        subst hu
        have := (hat j hj).2
        rw [add_plain, add_plain, add_plain, add_plain] at this
        exact ⟨this.1, this.2.1, this.2.2.1, this.2.2.2⟩
      · rw [List.getElem?_eq_none (by simpa using hj)] at hu
        cases hu
    · intro x hx
      obtain ⟨j, hj, rfl⟩ := List.mem_map.1 hx
      exact (hat j (List.mem_range.1 hj)).1
end Go.Proofs.Ytjcbdnbbdhjoiaa

namespace Go.Proofs.Ytjcbdnbbdhjoiaa
open Go.ChangeShapes Go.WideShapes Go.ChangeAt Go.RowKit

theorem logRuns_own : ownKnob Try.prog.godebug = none := by kernel_rfl
theorem logRuns_laid : laidOutB Try.prog = true := by kernel_rfl
theorem logRuns_cells3 : Try.prog.cellsOf 3 = 1 := by kernel_rfl
theorem logRuns_bytes3 : Try.prog.bytesOf 3 = 8 := by kernel_rfl
theorem logRuns_cells5 : Try.prog.cellsOf 5 = 1 := by kernel_rfl
theorem logRuns_bytes5 : Try.prog.bytesOf 5 = 1 := by kernel_rfl
theorem logRuns_cells22 : Try.prog.cellsOf 22 = 1 := by kernel_rfl
theorem logRuns_cells41 : Try.prog.cellsOf 41 = 1 := by kernel_rfl

set_option maxRecDepth 100000 in
theorem logRuns_lifted (os : Os) (started : os.Started) (H : Type) (enc : TypeId × Value → H) :
    ReturnsInHanded {} Try.checked os 5 .any (Rows.logRunsSpec.pre6 enc Try.prog Try.f5 Rows.logRunsRow.domain false) (Rows.logRunsSpec.post enc Try.prog Try.f5 false true false false) := by
  refine returnsInHanded_of_change_sized (C := Try.checked) logRuns_own started (by kernel_rfl) Try.func5
    (ChangeSpec.witness6 (enc := enc) (C := Try.checked) false ⟨#[], #[.int .i64 0, .slice none 0 0], []⟩ 8 (by kernel_rfl) (by kernel_rfl) (by kernel_rfl) (by kernel_rfl)) ?_
  intro W base args ds gs before hval0 hW _ hsz0 _
  have hsz : (DataW.weightsEach Try.prog (Try.f5.params.toList ++ Rows.logRunsSpec.plain.varTypes Try.prog) (ds ++ gs)).all (· ≤ reachBytes) = true := hsz0
  have hval : ∀ (j : Nat) t v, Try.f5.params[j]? = some t → args[j]? = some v → Value.okWide Try.prog W .any base t v := hval0
  have hW' := hW
  obtain ⟨p, q, hA0, hV, rfl, hfz, hnd⟩ := hW
  have hA : DataW.TrodAll enc Try.prog W 0 (fun _ => true) true Try.f5.params.toList args.toList ds p := hA0
  rw [Try.params5] at hA hval hsz
  obtain ⟨v0, vs0, d0, ds0, p0, q0, hargs, rfl, rfl, h0, r0⟩ := trodAll_cons hA
  obtain ⟨v1, vs1, d1, ds1, p1, q1, rfl, rfl, rfl, h1, r1⟩ := trodAll_cons r0
  obtain ⟨rfl, rfl, rfl⟩ := trodAll_nil r1
  obtain rfl : args = #[v0, v1] := by cases args; simp_all
  obtain ⟨rfl, rfl⟩ := trodVars_none hV
  clear hA0 hval0
  simp only [List.append_nil] at hW'
  obtain ⟨a0, rfl, rfl, rfl, w0⟩ := open_int Try.underlying3 (hval 0 3 v0 rfl rfl) h0
  have hk1 := h1
  have hlt1 : ∀ x ∈ p1, x.block < W.heap.size := (fun x hx => by have := hW'.lt x (by simp [hx]); simpa using this)
  obtain ⟨A1, n1, c1, l1, rfl, hn1, hc1, hr1, hd1⟩ := open_als Try.underlying49 Try.underlying54 (by kernel_rfl) rfl rfl rfl rfl rfl rfl rfl rfl Try.underlying3 logRuns_cells3 Try.underlying22 logRuns_cells22 Try.underlying41 Try.underlying5 logRuns_cells41 logRuns_cells5 logRuns_bytes5 (hval 1 49 v1 rfl rfl) h1 hlt1 (sized_of hsz (j := 1) rfl rfl)
  have hb1 := sized_places hsz (j := 1) rfl rfl Try.underlying49 hd1
  rw [show Try.prog.bytesOf 54 = 64 from by kernel_rfl] at hb1
  refine (logRuns.walk W a0 w0 A1 n1 c1 l1 hn1 (by unfold big; omega) hr1).mono fun e W' ⟨he, hb⟩ => ?_
  subst he
  exact ⟨_, rfl, _, _, _, [], _, [], hW', trodAll_cons_mk (shut_bool Try.underlying4 _) trodAll_mk0, (trodAll_cons_mk (shut_int Try.underlying3 w0) (trodAll_cons_mk (Below.trod logRuns_laid (by kernel_rfl) (of_decide_eq_true (by kernel_rfl)) hk1 hb hlt1) trodAll_mk0)), rfl, hb.frame _, fun h => by cases h⟩

theorem logRuns_proved : Rows.LogRunsSaid :=
  OpenClaim.holds_of_wide 5 Try.f5 rfl rfl rfl rfl rfl rfl rfl ⟨rfl, rfl, rfl, rfl, rfl⟩ rfl rfl rfl rfl rfl (by kernel_rfl) Try.func5 (by kernel_rfl)
    (of_decide_eq_true (by kernel_rfl)) (by unfold Func.isWrapper; first | (rw [if_pos (by decide +kernel)]; kernel_rfl) | (rw [if_neg (by decide +kernel)]; exact ⟨rfl, rfl⟩))
    (fun os started H enc _ => logRuns_lifted os started H enc)
#print axioms logRuns_proved
end Go.Proofs.Ytjcbdnbbdhjoiaa
