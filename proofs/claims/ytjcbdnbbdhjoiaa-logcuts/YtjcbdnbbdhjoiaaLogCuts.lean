/- LogCuts: of records cut off anywhere those that are whole are found; cut there and written on, all are found. Conditions: none. -/
import Derived.Test.YtjcbdnbbdhjoiaaRows
import Derived.Test.YtjcbdnbbdhjoiaaG07
import Derived.Test.YtjcbdnbbdhjoiaaG15
import Derived.Test.YtjcbdnbbdhjoiaaG16
import Derived.Test.YtjcbdnbbdhjoiaaG17
import Derived.WalkKit
import Derived.ProofKit
import Derived.OpenShut
import Derived.Laws.Cover2
import Derived.SizedLaws
import Derived.JoinedCond
import Derived.Carry
set_option linter.unusedSimpArgs false
set_option linter.unusedVariables false
namespace Go.Proofs.Ytjcbdnbbdhjoiaa.Lgw
set_option maxRecDepth 20000
open Go.RowKit
open Bk Lg Wire
open Dk
open Crc (seal_ openF turn turns turns_len turns_found)
open Tgw (hat hbe)
open Rg (bal)

theorem modify_append (f : UInt8 → UInt8) : ∀ (pre q : List UInt8) (i : Nat), (pre ++ q).modify (pre.length + i) f = pre ++ q.modify i f
  | [], q, i => by simp
  | x :: pre, q, i => by
    rw [List.cons_append, List.length_cons, show pre.length + 1 + i = (pre.length + i) + 1 by omega, List.modify_succ_cons, modify_append f pre q i]
    rfl
theorem turn_append (pre q : List UInt8) (j : Nat) : turn (pre ++ q) (8 * pre.length + j) = pre ++ turn q j := by
  unfold turn
  rw [show (8 * pre.length + j) / 8 = pre.length + j / 8 by omega, show (8 * pre.length + j) % 8 = j % 8 by omega]
  exact modify_append _ pre q (j / 8)
theorem turns_append (pre q : List UInt8) (j m : Nat) : ∀ k, turns (pre ++ q) (8 * pre.length + j) m k = pre ++ turns q j m k
  | 0 => rfl
  | k + 1 => by
    unfold turns
    rw [turns_append pre q j m k, show 8 * pre.length + j + k = 8 * pre.length + (j + k) by omega, turn_append]
    split <;> rfl
theorem burst_append (pre q : List UInt8) (j m : Nat) : burstF (pre ++ q) ((8 * pre.length + j : Nat) : Int) m = pre ++ burstF q (j : Int) m := by
  unfold burstF
  rw [List.length_append]
  by_cases h : (j : Int) < 0 ∨ 8 * (q.length : Int) - (Go.bitLen m : Int) < j
  · rw [if_pos h, if_pos (by omega)]
  · rw [if_neg h, if_neg (by omega)]
    exact turns_append pre q j m _
theorem burst_same_len (bs : List UInt8) (a : Int) (m : Nat) : (burstF bs a m).length = bs.length := by
  unfold burstF
  split
  · rfl
  · exact turns_len _ _ _ _
theorem burst_none (b : List UInt8) (a : Int) (m : Nat) (hm : m < 2 ^ 32) (h : burstF (seal_ b) a m ≠ seal_ b) : openF (burstF (seal_ b) a m) = none := by
  by_cases hc : a < 0 ∨ 8 * ((seal_ b).length : Int) - (Go.bitLen m : Int) < a
  · exact absurd (if_pos hc) h
  · have e : burstF (seal_ b) a m = turns (seal_ b) a.toNat m (Go.bitLen m) := if_neg hc
    rw [e] at h ⊢
    exact turns_found b _ m _ (bitLen_le m 32 hm) h
/-- where the records that are ahead end -/
def endN (gs : List R) (k : Nat) : Nat := (flatR (gs.take k)).length
theorem endN_zero (gs : List R) : endN gs 0 = 0 := rfl
theorem flat_split (gs : List R) (k : Nat) : flatR gs = flatR (gs.take k) ++ flatR (gs.drop k) := by rw [← flatR_append, List.take_append_drop]
theorem flat_take (gs : List R) (k : Nat) : (flatR gs).take (endN gs k) = flatR (gs.take k) := by
  unfold endN
  conv => lhs; rw [flat_split gs k]
  rw [List.take_left]
theorem flat_drop (gs : List R) (k : Nat) : (flatR gs).drop (endN gs k) = flatR (gs.drop k) := by
  unfold endN
  conv => lhs; rw [flat_split gs k]
  rw [List.drop_left]
theorem endN_le (gs : List R) (k : Nat) : endN gs k ≤ (flatR gs).length := by
  rw [flat_split gs k, List.length_append]
  unfold endN
  omega
theorem endN_all (gs : List R) : endN gs gs.length = (flatR gs).length := by unfold endN; rw [List.take_length]
theorem endN_step (gs : List R) (k : Nat) (r : R) (h : gs[k]? = some r) : endN gs (k + 1) = endN gs k + (bytesR r).length := by
  unfold endN
  rw [take_snoc h, flatR_snoc, List.length_append]
/-- the places where they end, one by one -/
def ends (gs : List R) : List Int := (List.range gs.length).map fun i => ((endN gs (i + 1) : Nat) : Int)
theorem ends_nil : ends [] = [] := rfl
theorem ends_get (gs : List R) (i : Nat) (h : i < gs.length) : (ends gs)[i]? = some ((endN gs (i + 1) : Nat) : Int) := by
  unfold ends
  rw [List.getElem?_map, List.getElem?_range h]
  rfl
theorem ends_len (gs : List R) : (ends gs).length = gs.length := by simp [ends]
theorem ends_snoc (gs : List R) (r : R) : ends (gs ++ [r]) = ends gs ++ [((flatR (gs ++ [r])).length : Int)] := by
  refine List.ext_getElem? fun i => ?_
  rcases Nat.lt_or_ge i gs.length with h | h
  · rw [ends_get _ i (by rw [List.length_append]; omega), List.getElem?_append_left (by rw [ends_len]; exact h), ends_get gs i h]
    unfold endN
    rw [List.take_append_of_le_length (by omega)]
  · rcases Nat.eq_or_lt_of_le h with h2 | h2
    · subst h2
      rw [ends_get _ _ (by rw [List.length_append]; simp), List.getElem?_append_right (by rw [ends_len]; exact Nat.le_refl _), ends_len, Nat.sub_self]
      have : endN (gs ++ [r]) (gs.length + 1) = (flatR (gs ++ [r])).length := by
        have := endN_all (gs ++ [r])
        rwa [List.length_append] at this
      rw [this]
      rfl
    · rw [List.getElem?_eq_none (by rw [ends_len, List.length_append]; simp; omega), List.getElem?_eq_none (by rw [List.length_append, ends_len]; simp; omega)]
/-- bits turned in one record, behind the two bytes that say how long it is -/
theorem burst_rec (gs : List R) (hok : ∀ r ∈ gs, Ok r) (k : Nat) (hk : k < gs.length) (j m : Nat) (hm : m < 2 ^ 32) :
    (burstF (flatR (gs.take (k + 1))) ((8 * (endN gs k + 2) + j : Nat) : Int) m = flatR (gs.take (k + 1)) → Scans (burstF (flatR (gs.take (k + 1))) ((8 * (endN gs k + 2) + j : Nat) : Int) m ++ flatR (gs.drop (k + 1))) (gs.map cnR) (flatR gs).length) ∧
    (burstF (flatR (gs.take (k + 1))) ((8 * (endN gs k + 2) + j : Nat) : Int) m ≠ flatR (gs.take (k + 1)) → Scans (burstF (flatR (gs.take (k + 1))) ((8 * (endN gs k + 2) + j : Nat) : Int) m ++ flatR (gs.drop (k + 1))) ((gs.take k).map cnR) (endN gs k)) := by
  have hz : gs[k]? = some gs[k] := List.getElem?_eq_getElem hk
  have hr := hok gs[k] (List.getElem_mem hk)
  generalize gs[k] = r at hz hr
  have hl2 := bytes_len r hr
  have hsm := seal_small r hr
  have e1 : flatR (gs.take (k + 1)) = (flatR (gs.take k) ++ form (seal_ (bodyR r)).length) ++ seal_ (bodyR r) := by
    rw [take_snoc hz, flatR_snoc]
    show _ ++ ([] ++ form (seal_ (bodyR r)).length ++ seal_ (bodyR r)) = _
    rw [List.nil_append, List.append_assoc]
  have hf2 : (form (seal_ (bodyR r)).length).length = 2 := by
    have h3 : (bytesR r).length = ([] ++ form (seal_ (bodyR r)).length ++ seal_ (bodyR r)).length := rfl
    rw [List.nil_append, List.length_append] at h3
    omega
  have hp : (flatR (gs.take k) ++ form (seal_ (bodyR r)).length).length = endN gs k + 2 := by rw [List.length_append, hf2]; rfl
  have e2 : burstF (flatR (gs.take (k + 1))) ((8 * (endN gs k + 2) + j : Nat) : Int) m = (flatR (gs.take k) ++ form (seal_ (bodyR r)).length) ++ burstF (seal_ (bodyR r)) (j : Int) m := by
    rw [e1, ← hp, burst_append]
  constructor
  · intro h
    rw [h, ← flatR_append, List.take_append_drop]
    have := scans_of gs hok [] (fun r n => first_nil r n)
    rwa [List.append_nil] at this
  · intro h
    rw [e2, e1] at h
    have hne : burstF (seal_ (bodyR r)) (j : Int) m ≠ seal_ (bodyR r) := fun e => h (by rw [e])
    have hno := burst_none (bodyR r) (j : Int) m hm hne
    have hsl := burst_same_len (seal_ (bodyR r)) (j : Int) m
    rw [e2]
    generalize burstF (seal_ (bodyR r)) (j : Int) m = y at hno hsl
    have e3 : flatR (gs.take k) ++ form (seal_ (bodyR r)).length ++ y ++ flatR (gs.drop (k + 1)) = flatR (gs.take k) ++ (textF [] y ++ flatR (gs.drop (k + 1))) := by
      unfold textF
      rw [List.nil_append, hsl, List.append_assoc, List.append_assoc, List.append_assoc]
    rw [e3]
    have hcut : cutF (textF [] y ++ flatR (gs.drop (k + 1))) = some (y, flatR (gs.drop (k + 1))) := cutF_text (by omega)
    exact scans_of (gs.take k) (fun x hx => hok x (List.mem_of_mem_take hx)) _ (fun r' n' => no_open hcut hno r' n')
/-- append onto a row of bytes of one's own: the elder slice, too, holds what it held -/
theorem wp_app8k {w : World} {ops : Array Oper} {rest : List Oper} {o : Oper} {a : Act} {Q : Exit → Act → World → Prop} (hgd : o.guard = none) (s x : Operand)
    (ho : o.op = .call { callee := .builtin .append, args := #[s, x], argTypes := #[41, 41] })
    (base : Nat) (A0 : Option Addr) (n0 c0 : Nat) (bs0 : List UInt8) (hs : a.eval s = .slice A0 n0 c0) (hown : Own w base A0 n0 c0 bs0)
    (B : Nat) (A : Option Addr) (m c : Nat) (news : List UInt8) (hx : a.eval x = .slice A m c) (hm : m = news.length) (hr : Rd w B A (news.map B8))
    (hb : n0 + m ≤ big) (hbase : base ≤ w.heap.size)
    (h : ∀ A' c' w', Own w' base A' (n0 + m) c' (bs0 ++ news) → Below base w w' → Rd w' w'.heap.size A0 (bs0.map B8) → wpList Try.prog ops Q rest (a.put o.dst (.slice A' (n0 + m) c')) w') : wpList Try.prog ops Q (o :: rest) a w := by
  obtain ⟨i0, hi, hz0, hz1, hz2⟩ := info_parts info8
  have hlen : n0 + m = (bs0 ++ news).length := by rw [List.length_append, ← hown.1, ← hm]
  have key : ∃ A' c' w', (Builtin.append_ #[41, 41] o.type #[.slice A0 n0 c0, .slice A m c]).run Try.prog w = .ok (.slice A' (n0 + m) c') w' ∧ Own w' base A' (n0 + m) c' (bs0 ++ news) ∧ Below base w w' ∧ Rd w' w'.heap.size A0 (bs0.map B8) := by
    obtain ⟨A', c', w', h1, h2, h3, h4⟩ := run_app (P := Try.prog) w base 41 o.type 5 i0 (.int .u8 0) 1 Try.underlying41 hi hz0 hz1 hz2 rfl (.slice A0 n0 c0) n0 (bs0.map B8) hown.2 B A m c (news.map B8) (by simpa using hm) hr (B8_one news) (by unfold big at hb; unfold maxLen; omega) (by unfold big at hb; omega) hbase
    refine ⟨A', c', w', h1, ⟨hlen, by rw [List.map_append]; exact h2⟩, h3, ?_⟩
    rcases hown.2.2 with ⟨_, h0⟩ | ⟨g, cap, cur, hv, hbg, hg, hnc, hcm, hcs, htake⟩
    · have : bs0 = [] := List.eq_nil_of_length_eq_zero (by rw [← hown.1]; exact h0)
      subst this
      exact Rd.nil
    · injection hv with e1 e2 e3
      subst e1
      subst e3
      cases A with
      | none =>
        have hm0 : m = 0 := by
          cases news with
          | nil => simpa using hm
          | cons x y => obtain ⟨b, o, h, _⟩ := hr (by simp); cases h
        subst hm0
        have h5 : (Builtin.append_ #[41, 41] o.type #[.slice (some ⟨g, 0, none⟩) n0 c0, .slice none 0 c]).run Try.prog w = .ok (.slice (some ⟨g, 0, none⟩) n0 c0) w := by
          simp [Builtin.append_, run_underlying Try.underlying41, sizeOf, typeInfo, hi, Builtin.lenOf, Builtin.firstCells, hnc, storeCells]
        rw [h5] at h1
        injection h1 with _ e5
        subst e5
        exact hown.rd
      | some ad =>
        have hcell : ∀ j u, (news.map B8)[j]? = some u → w.cell? (ad.add j) = some u := by
          intro j u hu
          have hp : 0 < (news.map B8).length := by
            rcases Nat.eq_zero_or_pos (news.map B8).length with h | h
            · rw [List.eq_nil_of_length_eq_zero h] at hu; cases hu
            · exact h
          obtain ⟨b, o, e, _, hc⟩ := hr hp
          injection e with e
          subst e
          rw [Rg.add_at]
          exact hc j u hu
        have hml : (news.map B8).length = m * i0.size := by rw [hz1, List.length_map, Nat.mul_one, hm]
        by_cases hroom : n0 + m ≤ c0
        · obtain ⟨w2, k1, k2, k3⟩ := run_append_fits (P := Try.prog) w base 41 o.type 5 i0 1 Try.underlying41 hi hz1 g n0 c0 (bs0.map B8) hown.2 ad m c (news.map B8) (by rw [List.length_map, Nat.mul_one, hm]) hcell (B8_one news) hroom
          rw [k1] at h1
          injection h1 with e4 e5
          subst e5
          intro hp
          have hrd : Rd w2 w2.heap.size (some ⟨g, 0, none⟩) ((bs0.map B8) ++ (news.map B8)) := Rd.of_own k2
          obtain ⟨b, o, e, hbl, hc⟩ := hrd (by rw [List.length_append]; omega)
          refine ⟨b, o, e, hbl, fun j u hu => hc j u ?_⟩
          rw [List.getElem?_append_left (by rcases Nat.lt_or_ge j (bs0.map B8).length with h | h; exact h; rw [List.getElem?_eq_none h] at hu; cases hu)]
          exact hu
        · have k1 := run_append_grow (P := Try.prog) w 41 o.type 5 i0 (.int .u8 0) Try.underlying41 hi hz0 ⟨g, 0, none⟩ n0 c0 (bs0.map B8) (by rw [hz1, List.length_map, Nat.mul_one, hown.1]) (hown.2.cells (g := g) rfl) ad m c (news.map B8) hml hcell (by omega) (by unfold big at hb; omega) (growslice_fits (by omega) (by rw [hz2]; unfold big at hb; omega))
          rw [k1] at h1
          injection h1 with e4 e5
          subst e5
          have hbl : Below w.heap.size w (w.drew.alloc (.cells ((bs0.map B8).toArray ++ (news.map B8).toArray ++ Builtin.zeroCells (Value.int .u8 0).cells (grownCap w (n0 + m) c0 5 - (n0 + m))) 5)) := ((Below.refl w.heap.size w).drew).alloc (Nat.le_refl _) _
          exact (hown.rd.below hbl).more hbl.size
  obtain ⟨A', c', w', hrun, h2, h3, h4⟩ := key
  refine wpList_plain hgd fun _ hK => ?_
  unfold Oper.wp execOp
  simp only [ho, resolve, invoke, builtin, Sem.run_bind, Sem.run_pure, Result.andThen_ok, List.map_toArray, List.map_cons, List.map_nil, hs, hx, hrun]
  exact hK _ _ (h A' c' w' h2 h3 h4)
end Go.Proofs.Ytjcbdnbbdhjoiaa.Lgw

namespace Go.Proofs.Ytjcbdnbbdhjoiaa.Lgw
set_option maxRecDepth 20000
open Go.RowKit
open Bk Lg Wire
open Dk
open Tgw (hat hbe)
open Rg (bal)
open Dkw (Dd RetK Gw Dy Fs)

/-- append onto a row of records of one's own, and which block may have turned -/
theorem wp_appRg {w : World} {ops : Array Oper} {rest : List Oper} {o : Oper} {a : Act} {Q : Exit → Act → World → Prop} (hgd : o.guard = none) (s x : Operand)
    (ho : o.op = .call { callee := .builtin .append, args := #[s, x], argTypes := #[22, 22] })
    (base : Nat) (A0 : Option Addr) (n0 c0 : Nat) (rs0 : List R) (hs : a.eval s = .slice A0 n0 c0) (hown : Rg.OwnG KR w base A0 n0 c0 rs0)
    (B : Nat) (A : Option Addr) (m c : Nat) (rs : List R) (hx : a.eval x = .slice A m c) (hm : m = rs.length) (hr : Rg.Rs KR w B A rs) (hb : (n0 + m) * 88 ≤ 140737488355328) (hbase : base ≤ w.heap.size)
    (h : ∀ A' c' w', Rg.OwnG KR w' base A' (n0 + m) c' (rs0 ++ rs) → Below base w w' → w.grownBy w' (Value.slice A0 n0 c0).ownBlock → wpList Try.prog ops Q rest (a.put o.dst (.slice A' (n0 + m) c')) w') : wpList Try.prog ops Q (o :: rest) a w := by
  obtain ⟨i0, hi, hz0, hz1, hz2⟩ := info_parts (KR).info
  have hby : (KR).bytes = 88 := rfl
  have hlen : n0 + m = (rs0 ++ rs).length := by rw [List.length_append, hown.1, hm]
  have key : ∃ A' c' w', (Builtin.append_ #[22, 22] o.type #[.slice A0 n0 c0, .slice A m c]).run Try.prog w = .ok (.slice A' (n0 + m) c') w' ∧ Rg.OwnG KR w' base A' (n0 + m) c' (rs0 ++ rs) ∧ Below base w w' ∧ w.grownBy w' (Value.slice A0 n0 c0).ownBlock := by
    have some_case : ∀ ad : Addr, A = some ad → (∀ j u, (Rg.flat KR rs)[j]? = some u → w.cell? (ad.add j) = some u) → ∃ A' c' w', (Builtin.append_ #[22, 22] o.type #[.slice A0 n0 c0, .slice A m c]).run Try.prog w = .ok (.slice A' (n0 + m) c') w' ∧ Rg.OwnG KR w' base A' (n0 + m) c' (rs0 ++ rs) ∧ Below base w w' ∧ w.grownBy w' (Value.slice A0 n0 c0).ownBlock := by
      rintro ad rfl hc
      obtain ⟨v', w', hrun, hoo, hg, _⟩ := run_append_own (P := Try.prog) w base (KR).S o.type (KR).T i0 _ (KR).k (KR).bytes (KR).und hi hz0 hz1 hz2 (KR).zs (KR).kpos _ n0 (Rg.flat KR rs0) hown.2 ad m c (Rg.flat KR rs) (by rw [Rg.flat_len, hm]) hc (Rg.flat_one KR rs) (by unfold maxLen; omega) (by rw [hby]; exact hb) hbase
      have hbl : Below base w w' := (Below.refl _ _).grown hg hbase (fun k hk => (hown.2.lt k hk).1)
      have hfl : Rg.flat KR rs0 ++ Rg.flat KR rs = Rg.flat KR (rs0 ++ rs) := by unfold Rg.flat; rw [List.flatMap_append]
      rw [hfl] at hoo
      rcases hoo.2 with ⟨rfl, h0⟩ | ⟨g', cap, cur, rfl, _⟩
      · rw [h0] at hoo hlen ⊢
        exact ⟨none, 0, w', hrun, ⟨hlen, hoo⟩, hbl, hg⟩
      · exact ⟨_, _, w', hrun, ⟨hlen, hoo⟩, hbl, hg⟩
    rcases Nat.eq_zero_or_pos rs.length with h0 | h0
    · have hn : rs = [] := List.eq_nil_of_length_eq_zero h0
      subst hn
      have hm0 : m = 0 := by simpa using hm
      subst hm0
      cases A with
      | none =>
        refine ⟨A0, c0, w, ?_, by simpa using hown, Below.refl _ _, ⟨rfl, rfl, rfl, Nat.le_refl _, fun _ _ _ => rfl⟩⟩
        have hu : Try.prog.underlying 22 = some (.slice 40) := Try.underlying22
        have hi' : Try.prog.info? 40 = some i0 := hi
        rcases hown.2.2 with ⟨hv, hnn⟩ | ⟨g, cap, cur, hv, _, _, hnc, _⟩
        · injection hv with h1 h2 h3
          subst h1
          subst h3
          subst hnn
          simp [Builtin.append_, run_underlying hu, sizeOf, typeInfo, hi', Builtin.lenOf, Builtin.firstCells]
        · injection hv with h1 h2 h3
          subst h1
          subst h3
          simp [Builtin.append_, run_underlying hu, sizeOf, typeInfo, hi', Builtin.lenOf, Builtin.firstCells, hnc, storeCells]
      | some ad => exact some_case ad rfl (fun j u hu => by simp [Rg.flat] at hu)
    · obtain ⟨b, oo, rfl, _, hc⟩ := hr h0
      exact some_case ⟨b, oo, none⟩ rfl (fun j u hu => by
        rw [Rg.add_at]
        obtain ⟨k, i, v, hv, hi2, rfl, hh⟩ := Rg.flat_get KR rs j u hu
        rw [← Nat.add_assoc]
        exact hc k v hv i u hh)
  obtain ⟨A', c', w', hrun, h2, h3, h4⟩ := key
  refine wpList_plain hgd fun _ hK => ?_
  unfold Oper.wp execOp
  simp only [ho, resolve, invoke, builtin, Sem.run_bind, Sem.run_pure, Result.andThen_ok, List.map_toArray, List.map_cons, List.map_nil, hs, hx, hrun]
  exact hK _ _ (h A' c' w' h2 h3 h4)
/-- a row of records lies outside of a disk's blocks -/
theorem rec_far {w : World} {F : Nat → Prop} {p : Value} {d : D} {base : Nat} {A : Option Addr} {n c : Nat} {rs : List R} (hd : Dd w F p d) (ho : Rg.OwnG KR w base A n c rs) : ∀ k, (Value.slice A n c).ownBlock = some k → ¬ F k := by
  intro k hk hf
  rcases ho.2.2 with ⟨hv, _⟩ | ⟨g, cap, cur, hv, _, hh, _⟩
  · rw [hv] at hk; simp [Value.ownBlock] at hk
  · rw [hv] at hk
    simp only [Value.ownBlock, Option.some.injEq] at hk
    subst hk
    obtain ⟨g2, A2, n2, c2, _, hy, hod, hF, _⟩ := hd
    rcases (hF g).1 hf with h1 | h1
    · subst h1
      unfold Dy at hy
      rw [hh] at hy
      simp only [Option.some.injEq, Obj.cells.injEq] at hy
      exact absurd hy.2.1 (by decide)
    · rcases hod.2.2 with ⟨hv2, _⟩ | ⟨g3, cap3, cur3, hv2, _, hh3, _⟩
      · rw [hv2] at h1; simp [Value.ownBlock] at h1
      · rw [hv2] at h1
        simp only [Value.ownBlock, Option.some.injEq] at h1
        subst h1
        rw [hh] at hh3
        simp only [Option.some.injEq, Obj.cells.injEq] at hh3
        exact absurd hh3.2.1 (by decide)
theorem rec_keep {w w' : World} {F F' : Nat → Prop} {p : Value} {d : D} {base : Nat} {A : Option Addr} {n c : Nat} {rs : List R} (hd : Dd w F p d) (ho : Rg.OwnG KR w base A n c rs) (hg : Gw F F' w w') : Rg.OwnG KR w' base A n c rs :=
  ho.keep (fun k hk => hg.1.block k (ho.2.lt k hk).2 (rec_far hd ho k hk))
theorem disk_keep {w w' : World} {F : Nat → Prop} {p : Value} {d : D} {base : Nat} {A : Option Addr} {n c : Nat} {rs : List R} (hd : Dd w F p d) (ho : Rg.OwnG KR w base A n c rs) (hg : w.grownBy w' (Value.slice A n c).ownBlock) : Dd w' F p d :=
  hd.keep hg.size (fun k hk => hg.block k (hd.lt k hk) (fun e => rec_far hd ho k e.symm hk))
/-- a slice of records that came in -/
structure Pr where
  a : Option Addr
  n : Nat
  c : Nat
  rs : List R
def Pr.v (p : Pr) : Value := .slice p.a p.n p.c
def Pr.ok (w : World) (B : Nat) (p : Pr) : Prop := p.n = p.rs.length ∧ p.n ≤ p.c ∧ p.n * 88 ≤ 140737488355328 ∧ (∀ r ∈ p.rs, WfE r.e) ∧ Rg.Rs KR w B p.a p.rs
theorem Pr.ok.sr {w w' : World} {p : Pr} (h : p.ok w w.heap.size) (hb : Below w.heap.size w w') : Sr w' p.a p.n p.c p.rs :=
  ⟨h.1, h.2.1, h.2.2.1, fun r hr => (h.2.2.2.1 r hr).2.2.2, (h.2.2.2.2.below hb).more hb.size⟩
/-- the slice A holds these slices, below block B -/
def Prs (w : World) (B : Nat) (A : Option Addr) (ps : List Pr) : Prop := Rd w B A (ps.map Pr.v) ∧ ∀ p ∈ ps, p.ok w B
/-- what holds of a log's disk while nothing has failed -/
def Kept (d : D) (all : List R) : Prop := (∀ r ∈ all, Ok r) ∧ d.data = flatR all ∧ d.safe = (flatR all).length ∧ d.off = false ∧ Iv d
/-- and when it ends: a part of what was added is there, and of the first safeN records all -/
def Left (d : D) (all : List R) (k : Nat) : Prop := (∀ r ∈ all, Ok r) ∧ k ≤ all.length ∧ (∃ L, d.data = (flatR all).take L) ∧ d.safe = (flatR (all.take k)).length ∧ (flatR (all.take k)).length ≤ d.data.length
theorem kept_left {d : D} {all : List R} (h : Kept d all) : Left d all all.length := by
  obtain ⟨h1, h2, h3, _, _⟩ := h
  refine ⟨h1, Nat.le_refl _, ⟨(flatR all).length, by rw [List.take_length]; exact h2⟩, ?_, ?_⟩
  · rw [List.take_length]; exact h3
  · rw [List.take_length, h2]; exact Nat.le_refl _
theorem kept_add {d : D} {all l : List R} (h : Kept d all) (hw : ∀ r ∈ l, Flt.U64 r.e.val) (he : addE d l = 0) : Kept (addD d l) (all ++ l) := by
  obtain ⟨h1, h2, h3, h4, h5⟩ := h
  have hr : ∀ r ∈ l, rightR r = true := by
    intro r hr
    cases hrt : rightR r with
    | true => rfl
    | false =>
      obtain ⟨k, hk⟩ := List.mem_iff_getElem?.1 hr
      have := (add_bad (d := d) hk hrt).1
      rw [this] at he
      cases he
  have h6 := add_good (d := d) hr
  rw [h6.1] at he
  rw [h6.2, if_pos he]
  have hi := iv_sync _ (iv_app d (flatR l) h5)
  have ha : appD d (flatR l) = ⟨d.data ++ flatR l, d.safe, d.room, if 0 ≤ d.fuse then d.fuse - (flatR l).length else d.fuse, false⟩ := by
    unfold appE at he
    rw [h4, if_neg (by simp)] at he
    by_cases c1 : 0 < (flatR l).length ∧ d.room - (d.data.length : Int) < (flatR l).length
    · rw [if_pos c1] at he; cases he
    rw [if_neg c1] at he
    by_cases c2 : 0 ≤ d.fuse ∧ d.fuse < (flatR l).length
    · rw [if_pos c2] at he; cases he
    unfold appD
    rw [h4, if_neg (by simp), if_neg c1, if_neg c2]
  rw [ha] at hi ⊢
  refine ⟨fun r hr2 => ?_, ?_, ?_, rfl, hi⟩
  · rcases List.mem_append.1 hr2 with h | h
    · exact h1 r h
    · exact ⟨hr r h, hw r h⟩
  · show d.data ++ flatR l = _
    rw [flatR_append, h2]
  · show ((d.data ++ flatR l).length : Int) = _
    rw [flatR_append, h2]
theorem left_add {d : D} {all l : List R} (h : Kept d all) (hw : ∀ r ∈ l, Flt.U64 r.e.val) (he : addE d l ≠ 0) (he2 : addE d l ≠ 91) : Left (addD d l) (all ++ l) all.length := by
  obtain ⟨h1, h2, h3, h4, h5⟩ := h
  have hr : ∀ r ∈ l, rightR r = true := by
    intro r hr
    cases hrt : rightR r with
    | true => rfl
    | false =>
      obtain ⟨k, hk⟩ := List.mem_iff_getElem?.1 hr
      exact absurd (add_bad (d := d) hk hrt).1 he2
  have h6 := add_good (d := d) hr
  rw [h6.1] at he
  rw [h6.2, if_neg he]
  have hok : ∀ r ∈ all ++ l, Ok r := fun r hr2 => by
    rcases List.mem_append.1 hr2 with h | h
    · exact h1 r h
    · exact ⟨hr r h, hw r h⟩
  have ht : (all ++ l).take all.length = all := List.take_left
  have hlen : all.length ≤ (all ++ l).length := by rw [List.length_append]; omega
  unfold appE at he
  rw [h4, if_neg (by simp)] at he
  by_cases c1 : 0 < (flatR l).length ∧ d.room - (d.data.length : Int) < (flatR l).length
  · have : appD d (flatR l) = d := by unfold appD; rw [h4, if_neg (by simp), if_pos c1]
    rw [this]
    refine ⟨hok, hlen, ⟨(flatR all).length, ?_⟩, by rw [ht]; exact h3, by rw [ht, h2]; exact Nat.le_refl _⟩
    rw [flatR_append, List.take_left]; exact h2
  rw [if_neg c1] at he
  by_cases c2 : 0 ≤ d.fuse ∧ d.fuse < (flatR l).length
  · have : appD d (flatR l) = ⟨d.data ++ (flatR l).take d.fuse.toNat, d.safe, d.room, 0, true⟩ := by
      unfold appD
      rw [h4, if_neg (by simp), if_neg c1, if_pos c2]
    rw [this]
    refine ⟨hok, hlen, ⟨(flatR all).length + d.fuse.toNat, ?_⟩, by rw [ht]; exact h3, ?_⟩
    · show d.data ++ (flatR l).take d.fuse.toNat = _
      rw [flatR_append, h2, List.take_length_add_append]
    · rw [ht]
      show _ ≤ (d.data ++ (flatR l).take d.fuse.toNat).length
      rw [h2, List.length_append]
      omega
  · rw [if_neg c2] at he
    exact absurd rfl he
/-- what a crash leaves, and what is read then -/
theorem crash_left {d : D} {all : List R} {k : Nat} (h : Left d all k) (keep : Int) : ∃ M, Scans (crashD d keep).data ((all.take (wholeN all M)).map cnR) (flatR (all.take (wholeN all M))).length ∧ k ≤ wholeN all M ∧ wholeN all M ≤ all.length := by
  obtain ⟨h1, h2, ⟨L, h3⟩, h4, h5⟩ := h
  refine ⟨min (d.safe.toNat + keep.toNat) L, ?_, ?_, wholeN_le _ _⟩
  · have e : (crashD d keep).data = (flatR all).take (min (d.safe.toNat + keep.toNat) L) := by
      show d.data.take (d.safe.toNat + keep.toNat) = _
      rw [h3, List.take_take]
    rw [e]
    exact scans_take all h1 _
  · have hs : d.safe.toNat = (flatR (all.take k)).length := by omega
    have hl : (flatR (all.take k)).length ≤ min (d.safe.toNat + keep.toNat) L := by
      rw [h3, List.length_take] at h5
      omega
    have := wholeN_ge (all.take k) (all.drop k) _ hl
    rw [List.take_append_drop, List.length_take] at this
    omega
end Go.Proofs.Ytjcbdnbbdhjoiaa.Lgw

namespace Go.Proofs.Ytjcbdnbbdhjoiaa.Lgw
set_option maxRecDepth 20000
open Go.RowKit
open Bk Lg Wire
open Dk
open Tgw (hat hbe)
open Rg (bal)
open Dkw (Dd RetK Gw Dy Fs)

theorem endN_cons (r : R) (rs : List R) (k : Nat) : endN (r :: rs) (k + 1) = (bytesR r).length + endN rs k := by
  unfold endN
  rw [List.take_succ_cons, flatR_cons, List.length_append]
theorem whole_iff : ∀ (gs : List R) (k i : Nat), i < gs.length → (endN gs (i + 1) ≤ k ↔ i < wholeN gs k)
  | [], _, _, h => by simp at h
  | r :: rs, k, i, h => by
    rw [endN_cons]
    unfold wholeN
    split
    · cases i with
      | zero => rw [endN_zero]; omega
      | succ i =>
        have := whole_iff rs (k - (bytesR r).length) i (by simpa using h)
        omega
    · omega
theorem hold_cut (gs : List R) (W : Nat) : cutD (holdD gs) ((endN gs W : Nat) : Int) = holdD (gs.take W) := by
  unfold cutD holdD
  rw [if_neg (by simp)]
  simp only [Int.toNat_natCast, flat_take]
  have h := endN_le gs W
  unfold endN at h
  congr 1
  split <;> omega
theorem row_far {w : World} {F : Nat → Prop} {p : Value} {d : D} {base k n : Nat} {e : TypeId} {v : Value} {xs : List Value} (hd : Dd w F p d) (ho : w.ownsRow base e k v n xs) (h1 : e ≠ 78) (h2 : e ≠ 5) : ∀ k, v.ownBlock = some k → ¬ F k := by
  intro k hk hf
  rcases ho.2 with ⟨rfl, _⟩ | ⟨g, cap, cur, rfl, _, hh, _⟩
  · simp [Value.ownBlock] at hk
  · simp only [Value.ownBlock, Option.some.injEq] at hk
    subst hk
    obtain ⟨g2, A2, n2, c2, _, hy, hod, hF, _⟩ := hd
    rcases (hF g).1 hf with h3 | h3
    · subst h3
      unfold Dy at hy
      rw [hh] at hy
      simp only [Option.some.injEq, Obj.cells.injEq] at hy
      exact h1 hy.2.1
    · rcases hod.2.2 with ⟨hv2, _⟩ | ⟨g3, cap3, cur3, hv2, _, hh3, _⟩
      · rw [hv2] at h3; simp [Value.ownBlock] at h3
      · rw [hv2] at h3
        simp only [Value.ownBlock, Option.some.injEq] at h3
        subst h3
        rw [hh] at hh3
        simp only [Option.some.injEq, Obj.cells.injEq] at hh3
        exact h2 hh3.2.1
theorem int_keep {w w' : World} {F F' : Nat → Prop} {p : Value} {d : D} {base : Nat} {A : Option Addr} {n c : Nat} {l : List Int} (hd : Dd w F p d) (ho : OwnI w base A n c l) (hg : Gw F F' w w') : OwnI w' base A n c l := by
  refine ⟨ho.1, ho.2.1, ?_⟩
  have hf := row_far hd ho.2 (by decide) (by decide)
  have hl := ho.2.lt
  rcases ho.2.2 with h0 | ⟨g, cap, cur, hv, hgb, hh, r⟩
  · exact .inl h0
  · refine .inr ⟨g, cap, cur, hv, hgb, ?_, r⟩
    rw [← hh]
    exact hg.1.block g (hl g (by rw [hv]; rfl)).2 (hf g (by rw [hv]; rfl))
theorem int_disk {w w' : World} {F : Nat → Prop} {p : Value} {d : D} {base : Nat} {A : Option Addr} {n c : Nat} {l : List Int} (hd : Dd w F p d) (ho : OwnI w base A n c l) (hg : w.grownBy w' (Value.slice A n c).ownBlock) : Dd w' F p d :=
  hd.keep hg.size (fun k hk => hg.block k (hd.lt k hk) (fun e => row_far hd ho.2 (by decide) (by decide) k e.symm hk))
/-- append onto an empty row without room: all that was stays -/
theorem op_app0 {w : World} {o : Oper} {a : Act} {Kn : Act → World → Prop} {Q : Exit → Act → World → Prop} (s x : Operand)
    (ho : o.op = .call { callee := .builtin .append, args := #[s, x], argTypes := #[22, 22] })
    (g : Nat) (hs : a.eval s = .slice (some ⟨g, 0, none⟩) 0 0) (hg : w.heap[g]? = some (.cells #[] 40))
    (B : Nat) (A : Option Addr) (m c : Nat) (rs : List R) (hx : a.eval x = .slice A m c) (hm : m = rs.length) (hr : Rg.Rs KR w B A rs) (hb : m ≤ 1000)
    (h : ∀ A' c' w', Below w.heap.size w w' → ((rs = [] ∧ w' = w ∧ A' = some ⟨g, 0, none⟩ ∧ c' = 0) ∨ Rg.OwnG KR w' w.heap.size A' m c' rs) → Kn (a.put o.dst (.slice A' m c')) w') : o.wp Try.prog a w Kn Q := by
  obtain ⟨i0, hi, hz0, hz1, hz2⟩ := info_parts (KR).info
  have hby : (KR).bytes = 88 := rfl
  have hk : (KR).k = 11 := rfl
  have hown : Rg.OwnG KR w g (some ⟨g, 0, none⟩) 0 0 [] := ⟨rfl, by simp [Rg.flat], .inr ⟨g, 0, #[], rfl, Nat.le_refl _, hg, Nat.le_refl _, by simp, by simp, by simp [Rg.flat]⟩⟩
  have hlt : g < w.heap.size := (Array.getElem?_eq_some_iff.1 hg).1
  have key : ∃ A' c' w', (Builtin.append_ #[22, 22] o.type #[.slice (some ⟨g, 0, none⟩) 0 0, .slice A m c]).run Try.prog w = .ok (.slice A' m c') w' ∧ Below w.heap.size w w' ∧ ((rs = [] ∧ w' = w ∧ A' = some ⟨g, 0, none⟩ ∧ c' = 0) ∨ Rg.OwnG KR w' w.heap.size A' m c' rs) := by
    have hu : Try.prog.underlying 22 = some (.slice 40) := Try.underlying22
    have hi' : Try.prog.info? 40 = some i0 := hi
    rcases Nat.eq_zero_or_pos rs.length with h0 | h0
    · have hn : rs = [] := List.eq_nil_of_length_eq_zero h0
      subst hn
      have hm0 : m = 0 := by simpa using hm
      subst hm0
      refine ⟨some ⟨g, 0, none⟩, 0, w, ?_, Below.refl _ _, Or.inl ⟨rfl, rfl, rfl, rfl⟩⟩
      cases A with
      | none => simp [Builtin.append_, run_underlying hu, sizeOf, typeInfo, hi', Builtin.lenOf, Builtin.firstCells, storeCells]
      | some ad =>
        have hf := run_firstCells_some (P := Try.prog) w i0.size 0 ad 0 c [] (by simp) (by simp)
        simp [Builtin.append_, run_underlying hu, sizeOf, typeInfo, hi', Builtin.lenOf, hf, storeCells]
    · obtain ⟨b, oo, rfl, _, hc⟩ := hr h0
      have hcell : ∀ j u, (Rg.flat KR rs)[j]? = some u → w.cell? ((⟨b, oo, none⟩ : Addr).add j) = some u := fun j u hu => by
        rw [Rg.add_at]
        obtain ⟨k, i, v, hv, hi2, rfl, hh⟩ := Rg.flat_get KR rs j u hu
        rw [← Nat.add_assoc]
        exact hc k v hv i u hh
      obtain ⟨v', w', hrun, hoo, hg2, _⟩ := run_append_own (P := Try.prog) w g (KR).S o.type (KR).T i0 _ (KR).k (KR).bytes (KR).und hi hz0 hz1 hz2 (KR).zs (KR).kpos _ 0 (Rg.flat KR []) hown.2 ⟨b, oo, none⟩ m c (Rg.flat KR rs) (by rw [Rg.flat_len, hm]) hcell (Rg.flat_one KR rs) (by unfold maxLen; omega) (by rw [hby]; omega) (by omega)
      have k1 := run_append_grow (P := Try.prog) w (KR).S o.type (KR).T i0 _ (KR).und hi hz0 ⟨g, 0, none⟩ 0 0 [] (by simp) (by simp) ⟨b, oo, none⟩ m c (Rg.flat KR rs) (by rw [Rg.flat_len, hm, hz1]) hcell (by omega) (by omega) (growslice_fits (by omega) (by rw [hz2, hby]; omega))
      rw [k1] at hrun
      injection hrun with e4 e5
      subst e4
      subst e5
      rw [Nat.zero_add] at k1 hoo
      refine ⟨_, _, _, k1, ((Below.refl w.heap.size w).drew).alloc (Nat.le_refl _) _, Or.inr ⟨hm, ?_⟩⟩
      have hfl : Rg.flat KR [] ++ Rg.flat KR rs = Rg.flat KR rs := by simp [Rg.flat]
      rw [hfl] at hoo
      refine ⟨hoo.1, ?_⟩
      rcases hoo.2 with ⟨hv, _⟩ | ⟨g3, cap3, cur3, hv, _, r⟩
      · cases hv
      · refine .inr ⟨g3, cap3, cur3, hv, ?_, r⟩
        injection hv with e1 e2 e3
        injection e1 with e1
        injection e1 with e1
        omega
  obtain ⟨A', c', w', hrun, h2, h3⟩ := key
  unfold Oper.wp execOp
  simp only [ho, resolve, invoke, builtin, Sem.run_bind, Sem.run_pure, Result.andThen_ok, List.map_toArray, List.map_cons, List.map_nil, hs, hx, hrun]
  exact h A' c' w' h2 h3
end Go.Proofs.Ytjcbdnbbdhjoiaa.Lgw

namespace Go.Proofs.Ytjcbdnbbdhjoiaa.logCuts
set_option maxRecDepth 20000
open Go.RowKit
open Bk Lg Wire Lgw
open Dk
open Tgw (hat hbe)
open Rg (bal)
open Dkw (Dd RetK Gw Lc)

theorem size88 (w : World) : (sizeOf 40).run Try.prog w = .ok 11 w := by
  have u3 := Try.sizeOf40
  simp [go_sem]
theorem run_headR (A : Option Addr) (n c k : Nat) (j : Int) (q : IntKind) (hj : j = (k : Int)) (hk : k ≤ c) (w : World) : (Instr.slice 22 (.slice A n c) none (some (.int q j)) none).run Try.prog w = .ok (.slice A k c) w := by
  subst hj
  have he : Try.prog.elem 22 = 40 := by simp [Program.elem, Try.underlying22]
  rw [run_slice_h (P := Try.prog) w 22 A n c (by rw [he]; exact Try.underlying22) q k (by omega) (by omega), he, size88]
  simp [Result.andThen, sliced]
  intro _
  cases A <;> simp [Addr.add]
/-- a copy of these records: the empty row as it was, or a row of its own from block b on -/
def R6 (w : World) (g b : Nat) (A : Option Addr) (n c : Nat) (rs : List R) : Prop := (rs = [] ∧ A = some ⟨g, 0, none⟩ ∧ c = 0 ∧ w.heap[g]? = some (.cells #[] 40)) ∨ Rg.OwnG KR w b A n c rs
theorem R6.alloc {w : World} {g b : Nat} {A : Option Addr} {n c : Nat} {rs : List R} (h : R6 w g b A n c rs) (o : Obj) : R6 (w.alloc o) g b A n c rs :=
  h.elim (fun h => Or.inl ⟨h.1, h.2.1, h.2.2.1, hbe h.2.2.2⟩) (fun h => Or.inr (h.alloc o))
theorem rs_rx {w : World} {g : Nat} {r : R} (h : Rx w g r) : Rg.Rs KR w w.heap.size (some ⟨g, 0, none⟩) [r] := by
  intro _
  refine ⟨g, 0, rfl, h.lt, fun j x hj => ?_⟩
  cases j with
  | succ j => simp at hj
  | zero =>
    simp only [List.getElem?_cons_zero, Option.some.injEq] at hj
    subst hj
    intro i u hu
    rw [Nat.zero_mul, Nat.zero_add]
    exact h.cell i u hu
def RetY (w : World) (e : Ending) (w' : World) : Prop := e = .returned (.bool true) ∧ Below w.heap.size w w'
set_option maxRecDepth 100000 in
set_option maxHeartbeats 8000000 in
theorem walk' (w : World) (A : Option Addr) (n c : Nat) (rs : List R) (hs : Sr w A n c rs) (hwf : ∀ r ∈ rs, WfE r.e) (kn : Int) (w1 : (Lit.int .i64 kn).wf = true) (rp : R) (hrp : WfE rp.e) :
    Calls Try.prog 10 #[.slice A n c, .int .i64 kn, rvv rp] w (RetY w) := by
  have HS := Lib.hid (hs.all (bal (Below.refl w.heap.size w) (Nat.le_refl _) (.cells #[.int .i64 rp.kind, .int .i64 rp.va, .int .i64 rp.vd, .int .i64 rp.cn, .int .i64 rp.ca, .int .i64 rp.cd, .int .i64 rp.e.key, .int .i64 rp.e.num, .int .i64 rp.e.node, .float .f64 rp.e.val, .int .i64 rp.n] 40))); have HW := Lib.hid hwf; have HWP := Lib.hid hrp
  have hn : Hid (n = rs.length) := Lib.hid hs.1
  obtain ⟨ha1, ha2⟩ := wf_i64 w1
  have hsf := store_flt
  have HPO : Hid (∀ w', Below (w.alloc (.cells #[.int .i64 rp.kind, .int .i64 rp.va, .int .i64 rp.vd, .int .i64 rp.cn, .int .i64 rp.ca, .int .i64 rp.cd, .int .i64 rp.e.key, .int .i64 rp.e.num, .int .i64 rp.e.node, .float .f64 rp.e.val, .int .i64 rp.n] 40)).heap.size (w.alloc (.cells #[.int .i64 rp.kind, .int .i64 rp.va, .int .i64 rp.vd, .int .i64 rp.cn, .int .i64 rp.ca, .int .i64 rp.cd, .int .i64 rp.e.key, .int .i64 rp.e.num, .int .i64 rp.e.node, .float .f64 rp.e.val, .int .i64 rp.n] 40)) w' → RetY w (.returned (.bool true)) w') := Lib.hid (fun w' h => ⟨rfl, (bal (Below.refl _ _) (Nat.le_refl _) _).trans (h.mono (by simp))⟩)
  have HRP : Hid (Rx (w.alloc (.cells #[.int .i64 rp.kind, .int .i64 rp.va, .int .i64 rp.vd, .int .i64 rp.cn, .int .i64 rp.ca, .int .i64 rp.cd, .int .i64 rp.e.key, .int .i64 rp.e.num, .int .i64 rp.e.node, .float .f64 rp.e.val, .int .i64 rp.n] 40)) w.heap.size rp) := Lib.hid (hat _ _ _ rfl)
  generalize RetY w = PP at HPO ⊢
  clear hs hwf w1 hrp
  unfold rvv
  go_enter Try.func10, Try.ntmps10
  go_wp2_with fail
  generalize w.alloc (.cells #[.int .i64 rp.kind, .int .i64 rp.va, .int .i64 rp.vd, .int .i64 rp.cn, .int .i64 rp.ca, .int .i64 rp.cd, .int .i64 rp.e.key, .int .i64 rp.e.num, .int .i64 rp.e.node, .float .f64 rp.e.val, .int .i64 rp.n] 40) = v at HPO HRP HS ⊢
  generalize w.heap.size = gr at HRP ⊢
  have HRV : Hid (∀ W, Below v.heap.size v W → Rx W gr rp) := Lib.hid (fun W h => HRP.out.all h)
  clear HRP
  refine (log_alive_c _).mono ?_
  rintro e w2 ⟨rfl, hb⟩
  have HB := Lib.hid hb; clear hb
  by_cases h30 : 30 < n
  · go_wp2
    try go_ret
    exact HPO.out _ HB.out
  have hn30 : n ≤ 30 := by omega
  by_cases hneg : kn < 0
  · go_wp2
    try go_ret
    exact HPO.out _ HB.out
  obtain ⟨k0, rfl⟩ : ∃ k0 : Nat, kn = k0 := ⟨kn.toNat, by omega⟩
  go_wp2_with fail
  refine (Dkw.new_c 60000 (Dkw.i64_small _ (by omega)) _).mono ?_
  rintro e w3 ⟨p, F, rfl, hd, hF, hb⟩
  obtain ⟨a, rfl⟩ := hd.ptr
  have HD : Hid (Dd w3 F (.pointer (some a)) (holdD [])) := Lib.hid hd
  have HF : Hid (∀ k, F k → v.heap.size ≤ k) := Lib.hid (fun k hk => Nat.le_trans HB.out.size (hF k hk))
  have HB := Lib.hid (HB.out.trans (hb.mono HB.out.size))
  clear hd hF hb
  go_wp2
  go_loopw [8, 9, 32] (fun x8 x9 x32 wr => ∃ (k : Nat) (A8 : Option Addr) (n8 c8 : Nat) (A9 : Option Addr) (n9 c9 : Nat) (F : Nat → Prop), x8 = .slice A8 n8 c8 ∧ x9 = .slice A9 n9 c9 ∧ x32 = .int .i64 (k : Int) ∧ k ≤ n ∧ n8 ≤ k ∧ n9 ≤ k ∧ Dd wr F (.pointer (some a)) (holdD (goods (rs.take k))) ∧ (∀ k, F k → v.heap.size ≤ k) ∧ OwnI wr v.heap.size A8 n8 c8 (ends (goods (rs.take k))) ∧ Rg.OwnG KR wr v.heap.size A9 n9 c9 (goods (rs.take k)) ∧ Below v.heap.size v wr) (fun _ _ x32 _ => n - (intOf x32).toNat)
  case atStart =>
    have hsz := HB.out.size
    exact ⟨0, _, 0, 0, _, 0, 0, F, rfl, rfl, rfl, by omega, by omega, by omega, HD.out.all (bal (bal (Below.refl _ _) (Nat.le_refl _) _) (Nat.le_refl _) _), HF.out, (ownI_at w3 v.heap.size _ [] rfl hsz (by simp)).alloc _, Rg.own_newG KR (w3.alloc (.cells #[] 3)) v.heap.size _ (by simp) (by simp; omega), bal (bal HB.out (Nat.le_refl _) _) (Nat.le_refl _) _⟩
  case round =>
    obtain ⟨k, A8, n8, c8, A9, n9, c9, F, rfl, rfl, rfl, hk, h8, h9, hd, hF, ho8, ho9, hb⟩ := hrel
    clear HB HD HF
    have HO8 := Lib.hid ho8; have HO9 := Lib.hid ho9; have HB := Lib.hid hb; have HD := Lib.hid hd; have HF := Lib.hid hF
    clear ho8 ho9 hb hd hF
    by_cases h : k < n
    · obtain ⟨bb, o, rfl, hbB, hcell⟩ := HS.out.2.2.2.2 (by rw [← hn.out]; omega)
      have hkl : k < rs.length := by rw [← hn.out]; exact h
      have hz : rs[k]? = some rs[k] := List.getElem?_eq_getElem hkl
      have hc0 : Rg.At KR wr bb (o + k * 11) rs[k] := (hcell k rs[k] hz).below HB.out hbB
      have HWF := Lib.hid (HW.out rs[k] (List.getElem_mem hkl))
      generalize rs[k] = r at hz hc0 HWF
      have HZ := Lib.hid hz
      obtain ⟨x0, x1, x2, x3, x4, x5, x6, x7, x8, x9, x10⟩ := elv_at hc0
      clear hz hcell hc0 hkl
      go_wp2_with fail
      clear x0 x1 x2 x3 x4 x5 x6 x7 x8 x9 x10
      have HS1 := Lib.hid (sr_one (wr.alloc (.cells #[.int .i64 r.kind, .int .i64 r.va, .int .i64 r.vd, .int .i64 r.cn, .int .i64 r.ca, .int .i64 r.cd, .int .i64 r.e.key, .int .i64 r.e.num, .int .i64 r.e.node, .float .f64 r.e.val, .int .i64 r.n] 40)) r HWF.out.2.2.2)
      have VX : Hid (Lc ((wr.alloc (.cells #[.int .i64 r.kind, .int .i64 r.va, .int .i64 r.vd, .int .i64 r.cn, .int .i64 r.ca, .int .i64 r.cd, .int .i64 r.e.key, .int .i64 r.e.num, .int .i64 r.e.node, .float .f64 r.e.val, .int .i64 r.n] 40)).alloc (.cells #[.int .i64 r.kind, .int .i64 r.va, .int .i64 r.vd, .int .i64 r.cn, .int .i64 r.ca, .int .i64 r.cd, .int .i64 r.e.key, .int .i64 r.e.num, .int .i64 r.e.node, .float .f64 r.e.val, .int .i64 r.n] 40)) F wr.heap.size ((.cells #[.int .i64 r.kind, .int .i64 r.va, .int .i64 r.vd, .int .i64 r.cn, .int .i64 r.ca, .int .i64 r.cd, .int .i64 r.e.key, .int .i64 r.e.num, .int .i64 r.e.node, .float .f64 r.e.val, .int .i64 r.n] 40))) := Lib.hid ((Lc.new HD.out.lt).all (bal (Below.refl _ _) (Nat.le_refl _) (.cells #[.int .i64 r.kind, .int .i64 r.va, .int .i64 r.vd, .int .i64 r.cn, .int .i64 r.ca, .int .i64 r.cd, .int .i64 r.e.key, .int .i64 r.e.num, .int .i64 r.e.node, .float .f64 r.e.val, .int .i64 r.n] 40)))
      have HD := Lib.hid (HD.out.all (bal (bal (Below.refl wr.heap.size wr) (Nat.le_refl _) (.cells #[.int .i64 r.kind, .int .i64 r.va, .int .i64 r.vd, .int .i64 r.cn, .int .i64 r.ca, .int .i64 r.cd, .int .i64 r.e.key, .int .i64 r.e.num, .int .i64 r.e.node, .float .f64 r.e.val, .int .i64 r.n] 40)) (Nat.le_refl _) (.cells #[.int .i64 r.kind, .int .i64 r.va, .int .i64 r.vd, .int .i64 r.cn, .int .i64 r.ca, .int .i64 r.cd, .int .i64 r.e.key, .int .i64 r.e.num, .int .i64 r.e.node, .float .f64 r.e.val, .int .i64 r.n] 40)))
      have HO8 := Lib.hid ((HO8.out.alloc (.cells #[.int .i64 r.kind, .int .i64 r.va, .int .i64 r.vd, .int .i64 r.cn, .int .i64 r.ca, .int .i64 r.cd, .int .i64 r.e.key, .int .i64 r.e.num, .int .i64 r.e.node, .float .f64 r.e.val, .int .i64 r.n] 40)).alloc (.cells #[.int .i64 r.kind, .int .i64 r.va, .int .i64 r.vd, .int .i64 r.cn, .int .i64 r.ca, .int .i64 r.cd, .int .i64 r.e.key, .int .i64 r.e.num, .int .i64 r.e.node, .float .f64 r.e.val, .int .i64 r.n] 40)); have HO9 := Lib.hid ((HO9.out.alloc (.cells #[.int .i64 r.kind, .int .i64 r.va, .int .i64 r.vd, .int .i64 r.cn, .int .i64 r.ca, .int .i64 r.cd, .int .i64 r.e.key, .int .i64 r.e.num, .int .i64 r.e.node, .float .f64 r.e.val, .int .i64 r.n] 40)).alloc (.cells #[.int .i64 r.kind, .int .i64 r.va, .int .i64 r.vd, .int .i64 r.cn, .int .i64 r.ca, .int .i64 r.cd, .int .i64 r.e.key, .int .i64 r.e.num, .int .i64 r.e.node, .float .f64 r.e.val, .int .i64 r.n] 40))
      have HB := Lib.hid (bal (bal HB.out (Nat.le_refl _) (.cells #[.int .i64 r.kind, .int .i64 r.va, .int .i64 r.vd, .int .i64 r.cn, .int .i64 r.ca, .int .i64 r.cd, .int .i64 r.e.key, .int .i64 r.e.num, .int .i64 r.e.node, .float .f64 r.e.val, .int .i64 r.n] 40)) (Nat.le_refl _) (.cells #[.int .i64 r.kind, .int .i64 r.va, .int .i64 r.vd, .int .i64 r.cn, .int .i64 r.ca, .int .i64 r.cd, .int .i64 r.e.key, .int .i64 r.e.num, .int .i64 r.e.node, .float .f64 r.e.val, .int .i64 r.n] 40))
      rw [World.size_alloc] at HS1
      generalize (wr.alloc (.cells #[.int .i64 r.kind, .int .i64 r.va, .int .i64 r.vd, .int .i64 r.cn, .int .i64 r.ca, .int .i64 r.cd, .int .i64 r.e.key, .int .i64 r.e.num, .int .i64 r.e.node, .float .f64 r.e.val, .int .i64 r.n] 40)).alloc (.cells #[.int .i64 r.kind, .int .i64 r.va, .int .i64 r.vd, .int .i64 r.cn, .int .i64 r.ca, .int .i64 r.cd, .int .i64 r.e.key, .int .i64 r.e.num, .int .i64 r.e.node, .float .f64 r.e.val, .int .i64 r.n] 40) = w6 at HS1 VX HD HO8 HO9 HB ⊢
      generalize wr.heap.size = gx at HS1 VX ⊢
      refine (add_c _ _ _ 1 1 [r] (wfs_one HWF.out) F _ HD.out HS1.out).mono ?_
      rintro e w7 ⟨F3, rfl, hd, hg⟩
      have VX := Lib.hid (VX.out.keep hg); have HO8 := Lib.hid (int_keep HD.out HO8.out hg); have HO9 := Lib.hid (rec_keep HD.out HO9.out hg)
      have hg2 := hg.below HB.out.size HF.out
      have HD := Lib.hid hd; have HF := Lib.hid hg2.2; have HB := Lib.hid (HB.out.trans hg2.1)
      clear hd hg hg2 HS1
      cases hrt : rightR r with
      | false =>
        have HE := Lib.hid (hold_bad (goods (rs.take k)) r hrt)
        have HG := Lib.hid (goods_no HZ.out hrt)
        clear hrt
        rw [HE.out.1]
        have HD : Hid (Dd w7 F3 (.pointer (some a)) (holdD (goods (rs.take (k + 1))))) := Lib.hid (by rw [HG.out, ← HE.out.2]; exact HD.out)
        clear HE
        go_wp2
        exact ⟨⟨k + 1, A8, n8, c8, A9, n9, c9, F3, rfl, rfl, by go_num, by omega, by omega, by omega, HD.out, HF.out, by rw [HG.out]; exact HO8.out, by rw [HG.out]; exact HO9.out, HB.out⟩, by simp [intOf]; omega⟩
      | true =>
        have HOKR : Hid (Ok r) := Lib.hid ⟨hrt, HWF.out.2.2.2⟩
        have hgl := goods_len rs k
        have HE := Lib.hid (hold_add (goods (rs.take k)) r hrt (by
          have h1 := flatR_le (goods (rs.take k)) (goods_ok HW.out k)
          have h2 := bytes_len r HOKR.out
          have h3 := seal_small r HOKR.out
          omega))
        have HG := Lib.hid (goods_yes HZ.out hrt)
        clear hrt hgl
        rw [HE.out.1]
        have HD : Hid (Dd w7 F3 (.pointer (some a)) (holdD (goods (rs.take (k + 1))))) := Lib.hid (by rw [HG.out, ← HE.out.2]; exact HD.out)
        clear HE
        go_wp2_with fail
        refine (Dkw.bytes_c _ _ F3 _ HD.out).mono ?_
        rintro e w8 ⟨A4, n4, c4, rfl, how, hb⟩
        have HN4 : Hid (n4 = (flatR (goods (rs.take (k + 1)))).length) := Lib.hid how.1
        have hn4 : n4 ≤ 60000 := by have h1 := HD.out.iv.2.2.1; have h2 := how.1; omega
        have VX := Lib.hid (VX.out.all hb); have HO8 := Lib.hid (HO8.out.below hb (Nat.le_refl _)); have HO9 := Lib.hid (HO9.out.below hb (Nat.le_refl _)); have HD := Lib.hid (HD.out.all hb)
        have HB := Lib.hid (HB.out.trans (hb.mono HB.out.size))
        clear how hb
        go_upto_region 13 with (at_builtin; refine wp_appIg rfl (.tmp 41) (.tmp 45) rfl v.heap.size A8 n8 c8 _ rfl (HO8.out.alloc _) (w8.heap.size + 1) _ 1 1 [(n4 : Int)] rfl rfl (rdI_new w8 [.int .i64 (n4 : Int)]) (by omega) (by have := HB.out.size; simp; omega) ?_; intro A18 c18 w9 ho18 hb8 hg8)
        have VX : Hid (Lc w9 F3 gx ((.cells #[.int .i64 r.kind, .int .i64 r.va, .int .i64 r.vd, .int .i64 r.cn, .int .i64 r.ca, .int .i64 r.cd, .int .i64 r.e.key, .int .i64 r.e.num, .int .i64 r.e.node, .float .f64 r.e.val, .int .i64 r.n] 40))) := Lib.hid ⟨rx_apart (Rx.all VX.out.1 (bal (Below.refl w8.heap.size w8) (Nat.le_refl _) (.cells #[.int .i64 (n4 : Int)] 3))) (HO8.out.alloc (.cells #[.int .i64 (n4 : Int)] 3)).2 (by decide) hg8, VX.out.2⟩
        have HO9 : Hid (Rg.OwnG KR w9 v.heap.size A9 n9 c9 (goods (rs.take k))) := Lib.hid ⟨HO9.out.1, own_apart (HO9.out.alloc (.cells #[.int .i64 (n4 : Int)] 3)).2 (HO8.out.alloc (.cells #[.int .i64 (n4 : Int)] 3)).2 (by decide) hg8⟩
        have HD := Lib.hid (int_disk (HD.out.all (bal (Below.refl w8.heap.size w8) (Nat.le_refl _) (.cells #[.int .i64 (n4 : Int)] 3))) (HO8.out.alloc (.cells #[.int .i64 (n4 : Int)] 3)) hg8)
        have HO8 := Lib.hid ho18
        have HB := Lib.hid ((bal HB.out (Nat.le_refl _) _).trans hb8)
        clear ho18 hb8 hg8
        have HX : Hid (Rx w9 gx r) := Lib.hid VX.out.1
        obtain ⟨z0, z1, z2, z3, z4, z5, z6, z7, z8, z9, z10⟩ := HX.out.cs
        go_wp2_with (at_builtin; refine wp_app1 rfl (.tmp 47) (.tmp 49) rfl v.heap.size A9 n9 c9 _ rfl (HO9.out.alloc (.cells #[.int .i64 r.kind, .int .i64 r.va, .int .i64 r.vd, .int .i64 r.cn, .int .i64 r.ca, .int .i64 r.cd, .int .i64 r.e.key, .int .i64 r.e.num, .int .i64 r.e.node, .float .f64 r.e.val, .int .i64 r.n] 40)) w9.heap.size r rfl (hat _ _ _ rfl) (by omega) (by have := HB.out.size; simp; omega) ?_; intro A19 c19 w10 ho19 hb9 hg9)
        have HQ8 := Lib.hid (own_apart (HO8.out.alloc (.cells #[.int .i64 r.kind, .int .i64 r.va, .int .i64 r.vd, .int .i64 r.cn, .int .i64 r.ca, .int .i64 r.cd, .int .i64 r.e.key, .int .i64 r.e.num, .int .i64 r.e.node, .float .f64 r.e.val, .int .i64 r.n] 40)).2 (HO9.out.alloc (.cells #[.int .i64 r.kind, .int .i64 r.va, .int .i64 r.vd, .int .i64 r.cn, .int .i64 r.ca, .int .i64 r.cd, .int .i64 r.e.key, .int .i64 r.e.num, .int .i64 r.e.node, .float .f64 r.e.val, .int .i64 r.n] 40)).2 (by decide) hg9)
        have HQD := Lib.hid (disk_keep (HD.out.all (bal (Below.refl w9.heap.size w9) (Nat.le_refl _) (.cells #[.int .i64 r.kind, .int .i64 r.va, .int .i64 r.vd, .int .i64 r.cn, .int .i64 r.ca, .int .i64 r.cd, .int .i64 r.e.key, .int .i64 r.e.num, .int .i64 r.e.node, .float .f64 r.e.val, .int .i64 r.n] 40))) (HO9.out.alloc (.cells #[.int .i64 r.kind, .int .i64 r.va, .int .i64 r.vd, .int .i64 r.cn, .int .i64 r.ca, .int .i64 r.cd, .int .i64 r.e.key, .int .i64 r.e.num, .int .i64 r.e.node, .float .f64 r.e.val, .int .i64 r.n] 40)) hg9)
        refine ⟨⟨k + 1, A18, n8 + 1, c18, A19, n9 + 1, c19, F3, rfl, rfl, by go_num, by omega, by omega, by omega, HQD.out, HF.out, ?_, ?_, (bal HB.out (Nat.le_refl _) _).trans hb9⟩, by simp [intOf]; omega⟩
        · have e : ends (goods (rs.take (k + 1))) = ends (goods (rs.take k)) ++ [(n4 : Int)] := by
            rw [HN4.out, HG.out, ends_snoc]
          rw [e]; exact ⟨HO8.out.1, HQ8.out⟩
        · rw [HG.out]; exact ho19
    · obtain rfl : k = n := by omega
      have HT : Hid (rs.take k = rs) := Lib.hid (List.take_of_length_le (by rw [← hn.out]; exact Nat.le_refl _))
      have HOKG := Lib.hid (goods_ok HW.out k); have HWG := Lib.hid (goods_wf HW.out k)
      rw [HT.out] at HO8 HO9 HD HOKG HWG
      clear HT
      have hgl : Hid ((goods rs).length ≤ 30) := Lib.hid (by have h1 := List.length_filter_le rightR rs; have h2 := hn.out; unfold goods; omega)
      generalize goods rs = gs at *
      have HFL := Lib.hid (flatR_le gs HOKG.out)
      have HDA : Hid ((holdD gs).data = flatR gs) := Lib.hid rfl
      have hn9 : Hid (n9 = gs.length) := Lib.hid HO9.out.1
      have hn8 : Hid (n8 = gs.length) := Lib.hid (by rw [← ends_len]; exact HO8.out.1)
      have hn930 : n9 ≤ 30 := by omega
      go_wp2_with fail
      refine (Dkw.bytes_c _ _ F _ HD.out).mono ?_
      rintro e w8 ⟨A4, n4, c4, rfl, how, hb⟩
      have HN4 : Hid (n4 = (flatR gs).length) := Lib.hid how.1
      have HO8 := Lib.hid (HO8.out.below hb (Nat.le_refl _)); have HO9 := Lib.hid (HO9.out.below hb (Nat.le_refl _)); have HD := Lib.hid (HD.out.all hb)
      have HB := Lib.hid (HB.out.trans (hb.mono HB.out.size))
      clear how hb
      obtain ⟨M, hM⟩ : ∃ M, M = min k0 n4 := ⟨_, rfl⟩
      have hmin : ∀ ts t W, (Builtin.min_ ts t #[.int .i64 (k0 : Int), .int .i64 (n4 : Int)]).run Try.prog W = .ok (.int .i64 (M : Int)) W := by
        intro ts t W
        rw [run_min_int2, hM]
        congr 2
        split <;> omega
      have hn4 : n4 ≤ 1800 := by have h1 := HFL.out; have h2 := HN4.out; have h3 := hgl.out; omega
      have hM2 : M ≤ n4 := by omega
      clear hM
      obtain ⟨Wn, hWn⟩ : ∃ Wn, Wn = wholeN gs M := ⟨_, rfl⟩
      have HWI : Hid (∀ i, i < gs.length → (endN gs (i + 1) ≤ M ↔ i < Wn)) := Lib.hid (fun i hi => by rw [hWn]; exact whole_iff gs M i hi)
      have HWL : Hid (Wn ≤ gs.length) := Lib.hid (by rw [hWn]; exact wholeN_le gs M)
      have HSC : Hid (Scans ((flatR gs).take M) ((gs.take Wn).map cnR) (endN gs Wn)) := Lib.hid (by rw [hWn]; exact scans_take gs HOKG.out M)
      clear hWn
      go_upto_region 16 with (fail)
      clear hmin
      go_wp2
      go_loopw [12, 13, 59] (fun x12 x13 x59 wl => ∃ (i q t : Nat), x12 = .int .i64 (q : Int) ∧ x13 = .int .i64 (t : Int) ∧ x59 = .int .i64 (i : Int) ∧ i ≤ n8 ∧ q = min i Wn ∧ t = endN gs q ∧ wl = w8) (fun _ _ x59 _ => n8 - (intOf x59).toNat)
      case atStart => exact ⟨0, 0, 0, rfl, rfl, rfl, by omega, by omega, rfl, rfl⟩
      case round =>
        obtain ⟨i, q, t, rfl, rfl, rfl, hi, hq, ht, rfl⟩ := hrel
        have HQ := Lib.hid hq; have HTT := Lib.hid ht
        clear hq ht
        by_cases h2 : i < n8
        · obtain ⟨b8, o8, rfl, hb8, hcell8⟩ := HO8.out.rd (by rw [List.length_map, ends_len, ← hn8.out]; omega)
          obtain ⟨E, hE⟩ : ∃ E, E = endN gs (i + 1) := ⟨_, rfl⟩
          have hcE : wr.cell? ⟨b8, o8 + i, none⟩ = some (.int .i64 (E : Int)) := by rw [hE]; exact hcell8 i _ (by rw [List.getElem?_map, ends_get gs i (by rw [← hn8.out]; exact h2)]; rfl)
          have HE := Lib.hid hE
          have HEM : Hid (E ≤ M ↔ i < Wn) := Lib.hid (by rw [hE]; exact HWI.out i (by rw [← hn8.out]; exact h2))
          have hE2 : E ≤ 1800 := by rw [hE]; have h1 := endN_le gs (i + 1); have h2 := HN4.out; omega
          clear hcell8 hE
          by_cases h3 : E ≤ M
          · go_wp2
            refine ⟨⟨i + 1, i + 1, E, by go_num, rfl, by go_num, by omega, ?_, HE.out, by trivial⟩, by simp [intOf]; omega⟩
            have := HEM.out.1 h3
            omega
          · go_wp2
            refine ⟨⟨i + 1, q, t, rfl, rfl, by go_num, by omega, ?_, HTT.out, by trivial⟩, by simp [intOf]; omega⟩
            have h4 := HQ.out
            have h5 : ¬ i < Wn := fun h => h3 (HEM.out.2 h)
            omega
        · obtain rfl : i = n8 := by omega
          have hqW : q = Wn := by have h1 := HQ.out; have h2 := HWL.out; have h3 := hn8.out; omega
          clear HQ
          subst hqW
          have hq9 : q ≤ n9 := by have h1 := HWL.out; have h2 := hn9.out; omega
          have ht2 : t ≤ 1800 := by have h1 := HTT.out; have h2 := endN_le gs q; have h3 := HN4.out; omega
          go_wp2_with fail
          refine (Dkw.bytes_c _ _ F _ HD.out).mono ?_
          rintro e w11 ⟨A5, n5, c5, rfl, how, hb⟩
          have HO5 := Lib.hid how
          have HN5 : Hid (n5 = (flatR gs).length) := Lib.hid how.1
          have hn5 : n5 = n4 := by have h1 := HN4.out; have h2 := how.1; exact h2.trans h1.symm
          subst hn5
          have HO9 := Lib.hid (HO9.out.below hb (Nat.le_refl _)); have HD := Lib.hid (HD.out.all hb)
          have HB := Lib.hid (HB.out.trans (hb.mono HB.out.size))
          clear how hb
          have hslE := Dkw.run_head A5 n5 c5 M M .i64 rfl (by have := HO5.out.cap; omega)
          have HLT : Hid (M = ((flatR gs).take M).length) := Lib.hid (by rw [List.length_take]; have := HN4.out; omega)
          have HRM : Hid (Rd w11 w11.heap.size A5 (((flatR gs).take M).map B8)) := Lib.hid (by rw [List.map_take]; exact HO5.out.rd.take M)
          have hMc : M ≤ c5 := by have := HO5.out.cap; omega
          go_wp2_with fail
          clear hslE
          refine (scan_c A5 M c5 _ HLT.out hMc (by omega) w11 HRM.out).mono ?_
          rintro e w12 ⟨A18, n18, c18, m19, rs18, rfl, hsc, hsr, hb⟩
          obtain ⟨rfl, hm⟩ := scans_one hsc HSC.out
          have hmt : m19 = t := hm.trans HTT.out.symm
          subst hmt
          have HS18 := Lib.hid hsr
          have HO9 := Lib.hid (HO9.out.below hb (Nat.le_refl _)); have HD := Lib.hid (HD.out.all hb)
          have HB := Lib.hid (HB.out.trans (hb.mono HB.out.size))
          clear hsc hsr hb hm HO5 HRM HLT hMc
          have hslW := run_headR A9 n9 c9 q q .i64 rfl (by have := HO9.out.cap; omega)
          have hqc : q ≤ c9 := by have := HO9.out.cap; omega
          have HS9 : Hid (Sr w12 A9 q c9 (gs.take q)) := Lib.hid ⟨by rw [List.length_take]; have := hn9.out; omega, hqc, by omega, fun r hr => (HOKG.out r (List.mem_of_mem_take hr)).2, HO9.out.rs.take q⟩
          go_wp2_with fail
          refine (same_r A18 n18 c18 _ A9 q c9 (gs.take q) w12 HS18.out HS9.out).mono ?_
          rw [sameR_cn]
          rintro e w13 ⟨rfl, hb⟩
          have HO9 := Lib.hid (HO9.out.below hb (Nat.le_refl _)); have HD := Lib.hid (HD.out.all hb)
          have HB := Lib.hid (HB.out.trans (hb.mono HB.out.size))
          clear hb HS18 HS9
          go_wp2_with fail
          refine (Dkw.cut_c _ _ (m19 : Int) (Dkw.i64_small _ (by omega)) F _ HD.out).mono ?_
          rintro e w14 ⟨F4, rfl, hd, hg⟩
          have HO9 := Lib.hid (rec_keep HD.out HO9.out hg)
          have hg2 := hg.below HB.out.size HF.out
          have HD : Hid (Dd w14 F4 (.pointer (some a)) (holdD (gs.take q))) := Lib.hid (by rw [← hold_cut gs q, ← HTT.out]; exact hd)
          have HF := Lib.hid hg2.2; have HB := Lib.hid (HB.out.trans hg2.1)
          clear hd hg hg2
          have HX := Lib.hid (HRV.out w14 HB.out)
          obtain ⟨z0, z1, z2, z3, z4, z5, z6, z7, z8, z9, z10⟩ := HX.out.cs
          go_wp2_with fail
          clear z0 z1 z2 z3 z4 z5 z6 z7 z8 z9 z10 HX
          have HS1 := Lib.hid (sr_one w14 rp HWP.out.2.2.2)
          have HD := Lib.hid (HD.out.all (bal (Below.refl w14.heap.size w14) (Nat.le_refl _) (.cells #[.int .i64 rp.kind, .int .i64 rp.va, .int .i64 rp.vd, .int .i64 rp.cn, .int .i64 rp.ca, .int .i64 rp.cd, .int .i64 rp.e.key, .int .i64 rp.e.num, .int .i64 rp.e.node, .float .f64 rp.e.val, .int .i64 rp.n] 40)))
          have HO9 := Lib.hid (HO9.out.alloc (.cells #[.int .i64 rp.kind, .int .i64 rp.va, .int .i64 rp.vd, .int .i64 rp.cn, .int .i64 rp.ca, .int .i64 rp.cd, .int .i64 rp.e.key, .int .i64 rp.e.num, .int .i64 rp.e.node, .float .f64 rp.e.val, .int .i64 rp.n] 40))
          have HB := Lib.hid (bal HB.out (Nat.le_refl _) (.cells #[.int .i64 rp.kind, .int .i64 rp.va, .int .i64 rp.vd, .int .i64 rp.cn, .int .i64 rp.ca, .int .i64 rp.cd, .int .i64 rp.e.key, .int .i64 rp.e.num, .int .i64 rp.e.node, .float .f64 rp.e.val, .int .i64 rp.n] 40))
          generalize w14.alloc (.cells #[.int .i64 rp.kind, .int .i64 rp.va, .int .i64 rp.vd, .int .i64 rp.cn, .int .i64 rp.ca, .int .i64 rp.cd, .int .i64 rp.e.key, .int .i64 rp.e.num, .int .i64 rp.e.node, .float .f64 rp.e.val, .int .i64 rp.n] 40) = w15 at HS1 HD HO9 HB ⊢
          generalize w14.heap.size = gy at HS1 ⊢
          refine (add_c _ _ _ 1 1 [rp] (wfs_one HWP.out) F4 _ HD.out HS1.out).mono ?_
          rintro e w16 ⟨F5, rfl, hd, hg⟩
          have HO9 := Lib.hid (rec_keep HD.out HO9.out hg)
          have hg2 := hg.below HB.out.size HF.out
          have HD := Lib.hid hd; have HF := Lib.hid hg2.2; have HB := Lib.hid (HB.out.trans hg2.1)
          clear hd hg hg2 HS1
          cases hrt : rightR rp with
          | false =>
            have HE := Lib.hid (hold_bad (gs.take q) rp hrt)
            have HRT := Lib.hid hrt
            clear hrt
            rw [HE.out.1]
            have HBY := Lib.hid (fun W => right_c rp HWP.out W)
            unfold rvv at HBY
            have HX := Lib.hid (HRV.out w16 HB.out)
            obtain ⟨z0, z1, z2, z3, z4, z5, z6, z7, z8, z9, z10⟩ := HX.out.cs
            go_wp2_with fail
            refine (HBY.out _).mono ?_
            rw [HRT.out]
            rintro e w17 ⟨rfl, hb⟩
            have HB := Lib.hid (HB.out.trans (hb.mono HB.out.size)); clear hb
            go_wp2
            try go_ret
            exact HPO.out _ HB.out
          | true =>
            have HOKR : Hid (Ok rp) := Lib.hid ⟨hrt, HWP.out.2.2.2⟩
            have HOKQ : Hid (∀ x ∈ gs.take q, Ok x) := Lib.hid (fun x hx => HOKG.out x (List.mem_of_mem_take hx))
            have HE := Lib.hid (hold_add (gs.take q) rp hrt (by
              have h1 := flatR_le (gs.take q) HOKQ.out
              have h2 := bytes_len rp HOKR.out
              have h3 := seal_small rp HOKR.out
              rw [List.length_take] at h1
              omega))
            clear hrt
            rw [HE.out.1]
            have HD : Hid (Dd w16 F5 (.pointer (some a)) (holdD (gs.take q ++ [rp]))) := Lib.hid (by rw [← HE.out.2]; exact HD.out)
            clear HE
            have HSL : Hid (Scans (holdD (gs.take q ++ [rp])).data ((gs.take q ++ [rp]).map cnR) (flatR (gs.take q ++ [rp])).length) := Lib.hid (by
              have h1 := scans_of (gs.take q ++ [rp]) (fun x hx => by
                rcases List.mem_append.1 hx with h | h
                · exact HOKQ.out x h
                · rw [List.mem_singleton.1 h]; exact HOKR.out) [] (fun r n => first_nil r n)
              rw [List.append_nil] at h1
              exact h1)
            have HRQ : Hid (Rg.Rs KR w16 w16.heap.size A9 (gs.take q)) := Lib.hid (HO9.out.rs.take q)
            have HLQ : Hid (q = (gs.take q).length) := Lib.hid (by rw [List.length_take]; have := hn9.out; omega)
            have HUQ : Hid (∀ r ∈ gs.take q ++ [rp], Flt.U64 r.e.val) := Lib.hid (fun x hx => by
              rcases List.mem_append.1 hx with h | h
              · exact (HOKQ.out x h).2
              · rw [List.mem_singleton.1 h]; exact HOKR.out.2)
            have hsm : sameR ((gs.take q ++ [rp]).map cnR) (gs.take q ++ [rp]) = true := sameR_cn _
            have HSM := Lib.hid hsm
            have HSQ : Hid (q ≤ 30) := Lib.hid (by omega)
            clear hsm
            generalize gs.take q = qs at HD HSL HRQ HLQ HUQ HSM
            have HKX : Hid (∀ W', Below w16.heap.size w16 W' → Rx W' gr rp) := Lib.hid (fun W' h => HRV.out W' (HB.out.trans (h.mono HB.out.size)))
            go_upto_region 29 with (fail)
            refine wp_region_held_drew (S := fun W' => Below w16.heap.size w16 W') (by kernel_rfl) (Below.refl _ _).drew (fun hHeld => ?_)
            generalize w16.drew = v1 at hHeld ⊢
            have HV : Hid (Below w16.heap.size w16 v1) := hHeld
            clear hHeld
            refine take_in (i := 0) (oi := ⟨_, _, _, _, _, _⟩) (v := ?_) rfl (by kernel_rfl) (by kernel_rfl) (by kernel_rfl) (fun _ _ _ h => h) (by rfl) ?_ HV.out ?_
            rotate_left
            · intro W hW; have hq := (HKX.out W hW).cs; go_simp; with_reducible rfl
            simp only [Act.put, List.setIfInBounds_toArray, List.set_cons_zero, List.set_cons_succ]
            refine take_in (i := 3) (oi := ⟨_, _, _, _, _, _⟩) (v := ?_) rfl (by kernel_rfl) (by kernel_rfl) (by kernel_rfl) (fun _ _ _ h => h) (by rfl) ?_ HV.out ?_
            rotate_left
            · intro W hW; have hq := (HKX.out W hW).cs; go_simp; with_reducible rfl
            simp only [Act.put, List.setIfInBounds_toArray, List.set_cons_zero, List.set_cons_succ]
            refine take_in (i := 4) (oi := ⟨_, _, _, _, _, _⟩) (v := ?_) rfl (by kernel_rfl) (by kernel_rfl) (by kernel_rfl) (fun _ _ _ h => h) (by rfl) ?_ HV.out ?_
            rotate_left
            · intro W hW; have hq := (HKX.out W hW).cs; go_simp; with_reducible rfl
            simp only [Act.put, List.setIfInBounds_toArray, List.set_cons_zero, List.set_cons_succ]
            refine take_in (i := 5) (oi := ⟨_, _, _, _, _, _⟩) (v := ?_) rfl (by kernel_rfl) (by kernel_rfl) (by kernel_rfl) (fun _ _ _ h => h) (by rfl) ?_ HV.out ?_
            rotate_left
            · intro W hW; have hq := (HKX.out W hW).cs; go_simp; with_reducible rfl
            simp only [Act.put, List.setIfInBounds_toArray, List.set_cons_zero, List.set_cons_succ]
            refine take_in (i := 7) (oi := ⟨_, _, _, _, _, _⟩) (v := ?_) rfl (by kernel_rfl) (by kernel_rfl) (by kernel_rfl) (fun _ _ _ h => h) (by rfl) ?_ HV.out ?_
            rotate_left
            · intro W hW; have hq := (HKX.out W hW).cs; go_simp; with_reducible rfl
            simp only [Act.put, List.setIfInBounds_toArray, List.set_cons_zero, List.set_cons_succ]
            refine wpAnyH_ready (rs := [1, 2, 8]) (by kernel_rfl) (by simp) ?_
            refine AllReadyH.cons (o := ⟨_, _, _, _, _, _⟩) rfl (fun K hK => ?_) (AllReadyH.cons (o := ⟨_, _, _, _, _, _⟩) rfl (fun K hK => ?_) (AllReadyH.cons (o := ⟨_, _, _, _, _, _⟩) rfl (fun K hK => ?_) AllReadyH.nil))
            · skip
              go_simp
              refine (read_c _ _ F5 _ (HD.out.all HV.out)).mono ?_
              rintro e v2 ⟨A1, n1, c1, rs1, m1, rfl, hsc, hsr, hb⟩
              obtain ⟨rfl, _⟩ := scans_one hsc HSL.out
              have HS1 := Lib.hid hsr
              have HV' := Lib.hid (HV.out.trans (hb.mono HV.out.size))
              refine hK.out _ _ HV'.out (fun _ => ?_)
              clear hK K
              have HV := HV'
              clear HV' hb hsc hsr
              refine wpAnyH_ready (rs := [2, 8]) (by kernel_rfl) (by simp) ?_
              refine AllReadyH.cons (o := ⟨_, _, _, _, _, _⟩) rfl (fun K hK => ?_) (AllReadyH.cons (o := ⟨_, _, _, _, _, _⟩) rfl (fun K hK => ?_) AllReadyH.nil)
              · skip
                go_simp
                refine hK.out _ _ (bal HV.out (Nat.le_refl _) _) (fun _ => ?_)
                clear hK K
                have HG2 : Hid ((v2.alloc (.cells #[] 40)).heap[v2.heap.size]? = some (.cells #[] 40)) := Lib.hid (hat _ _ _ rfl)
                have HS1 := Lib.hid (HS1.out.all (bal (Below.refl v2.heap.size v2) (Nat.le_refl _) (.cells #[] 40)))
                have HV := Lib.hid (bal HV.out (Nat.le_refl _) (.cells #[] 40))
                generalize v2.alloc (.cells #[] 40) = v3 at HG2 HS1 HV ⊢
                generalize v2.heap.size = g2 at HG2 ⊢
                refine wpAnyH_ready (rs := [6, 8]) (by kernel_rfl) (by simp) ?_
                refine AllReadyH.cons (o := ⟨_, _, _, _, _, _⟩) rfl (fun K hK => ?_) (AllReadyH.cons (o := ⟨_, _, _, _, _, _⟩) rfl (fun K hK => ?_) AllReadyH.nil)
                · skip
                  refine op_app0 (.tmp 103) (.tmp 106) rfl g2 rfl HG2.out w16.heap.size A9 q c9 qs rfl HLQ.out (HRQ.out.below HV.out) (by have := HSQ.out; omega) ?_
                  intro A6 c6 v4 hb h6
                  simp only [Act.put, Option.getD_some, Option.getD]
                  refine hK.out _ _ (HV.out.trans (hb.mono HV.out.size)) (fun _ => ?_)
                  clear hK K
                  have HR6 : Hid (R6 v4 g2 v3.heap.size A6 q c6 qs) := Lib.hid (h6.elim (fun h => Or.inl ⟨h.1, h.2.2.1, h.2.2.2, by rw [h.2.1]; exact HG2.out⟩) (fun h => Or.inr h))
                  have HR1 : Hid (Rg.Rs KR v4 v3.heap.size A1 _) := Lib.hid (HS1.out.2.2.2.2.below hb)
                  have HB6 : Hid (v3.heap.size ≤ v4.heap.size) := Lib.hid hb.size
                  have HW6 : Hid (w16.heap.size ≤ v3.heap.size) := Lib.hid HV.out.size
                  have HS1 := Lib.hid (HS1.out.all hb)
                  have HV := Lib.hid (HV.out.trans (hb.mono HV.out.size))
                  clear hb h6 HG2
                  generalize v3.heap.size = b6 at HR6 HR1 HB6 HW6
                  refine wpAnyH_ready (rs := [8]) (by kernel_rfl) (by simp) ?_
                  refine AllReadyH.cons (o := ⟨_, _, _, _, _, _⟩) rfl (fun K hK => ?_) AllReadyH.nil
                  · skip
                    go_simp
                    refine hK.out _ _ (bal HV.out (Nat.le_refl _) _) (fun _ => ?_)
                    clear hK K
                    have HX8 : Hid (Rx (v4.alloc (.cells #[.int .i64 rp.kind, .int .i64 rp.va, .int .i64 rp.vd, .int .i64 rp.cn, .int .i64 rp.ca, .int .i64 rp.cd, .int .i64 rp.e.key, .int .i64 rp.e.num, .int .i64 rp.e.node, .float .f64 rp.e.val, .int .i64 rp.n] 40)) v4.heap.size rp) := Lib.hid (hat _ _ _ rfl)
                    have HR1 := Lib.hid (HR1.out.below ((bal (Below.refl v4.heap.size v4) (Nat.le_refl _) (.cells #[.int .i64 rp.kind, .int .i64 rp.va, .int .i64 rp.vd, .int .i64 rp.cn, .int .i64 rp.ca, .int .i64 rp.cd, .int .i64 rp.e.key, .int .i64 rp.e.num, .int .i64 rp.e.node, .float .f64 rp.e.val, .int .i64 rp.n] 40)).mono HB6.out))
                    have HS1 := Lib.hid (HS1.out.all (bal (Below.refl v4.heap.size v4) (Nat.le_refl _) (.cells #[.int .i64 rp.kind, .int .i64 rp.va, .int .i64 rp.vd, .int .i64 rp.cn, .int .i64 rp.ca, .int .i64 rp.cd, .int .i64 rp.e.key, .int .i64 rp.e.num, .int .i64 rp.e.node, .float .f64 rp.e.val, .int .i64 rp.n] 40)))
                    have HR6 := Lib.hid (HR6.out.alloc (.cells #[.int .i64 rp.kind, .int .i64 rp.va, .int .i64 rp.vd, .int .i64 rp.cn, .int .i64 rp.ca, .int .i64 rp.cd, .int .i64 rp.e.key, .int .i64 rp.e.num, .int .i64 rp.e.node, .float .f64 rp.e.val, .int .i64 rp.n] 40))
                    have HB6 := Lib.hid (Nat.le_trans HB6.out (show v4.heap.size ≤ (v4.alloc (.cells #[.int .i64 rp.kind, .int .i64 rp.va, .int .i64 rp.vd, .int .i64 rp.cn, .int .i64 rp.ca, .int .i64 rp.cd, .int .i64 rp.e.key, .int .i64 rp.e.num, .int .i64 rp.e.node, .float .f64 rp.e.val, .int .i64 rp.n] 40)).heap.size by simp))
                    have HV := Lib.hid (bal HV.out (Nat.le_refl _) (.cells #[.int .i64 rp.kind, .int .i64 rp.va, .int .i64 rp.vd, .int .i64 rp.cn, .int .i64 rp.ca, .int .i64 rp.cd, .int .i64 rp.e.key, .int .i64 rp.e.num, .int .i64 rp.e.node, .float .f64 rp.e.val, .int .i64 rp.n] 40))
                    generalize v4.alloc (.cells #[.int .i64 rp.kind, .int .i64 rp.va, .int .i64 rp.vd, .int .i64 rp.cn, .int .i64 rp.ca, .int .i64 rp.cd, .int .i64 rp.e.key, .int .i64 rp.e.num, .int .i64 rp.e.node, .float .f64 rp.e.val, .int .i64 rp.n] 40) = v5 at HB6 HR1 HR6 HS1 HV HX8 ⊢
                    generalize v4.heap.size = g8 at HX8 ⊢
                    refine wpAnyH_ready (rs := [9]) (by kernel_rfl) (by simp) ?_
                    refine AllReadyH.cons (o := ⟨_, _, _, _, _, _⟩) rfl (fun K hK => ?_) AllReadyH.nil
                    have HR8 := Lib.hid (rs_rx HX8.out)
                    rcases HR6.out with ⟨hq0, hA6, hc6, hg2⟩ | ho6
                    · have hqz : q = 0 := by rw [HLQ.out, hq0]; rfl
                      subst hA6 hc6 hq0 hqz
                      refine op_app0 (.tmp 107) (.tmp 109) rfl g2 rfl hg2 v5.heap.size (some ⟨g8, 0, none⟩) 1 1 [rp] rfl rfl HR8.out (by omega) ?_
                      intro A10 c10 w10 hb h10
                      simp only [Act.put, List.setIfInBounds_toArray, List.set_cons_zero, List.set_cons_succ]
                      have HS10 : Hid (Sr w10 A10 1 c10 ([] ++ [rp])) := Lib.hid (h10.elim (fun h => by simp at h) (fun h => ⟨rfl, h.cap, by omega, HUQ.out, h.rs⟩))
                      have HS1 := Lib.hid (HS1.out.all hb)
                      have HV := Lib.hid (HV.out.trans (hb.mono HV.out.size))
                      clear hb h10
                      refine hK.out _ _ HV.out (fun _ => ?_)
                      clear hK K
                      refine wpAnyH_ready (rs := [10]) (by kernel_rfl) (by simp) ?_
                      refine AllReadyH.cons (o := ⟨_, _, _, _, _, _⟩) rfl (fun K hK => ?_) AllReadyH.nil
                      go_simp
                      refine (same_r A1 n1 c1 _ _ _ _ _ _ HS1.out HS10.out).mono ?_
                      rw [HSM.out]
                      rintro e w17 ⟨rfl, hb⟩
                      have HV := Lib.hid (HV.out.trans (hb.mono HV.out.size)); clear hb
                      refine hK.out _ _ HV.out (fun _ => ?_)
                      clear hK K
                      refine take_in (i := 11) (oi := ⟨_, _, _, _, _, _⟩) (v := ?_) rfl (by kernel_rfl) (by kernel_rfl) (by kernel_rfl) (fun _ _ _ h => h) (by rfl) ?_ HV.out ?_
                      rotate_left
                      · intro W hW; go_simp; with_reducible rfl
                      simp only [Act.put, List.setIfInBounds_toArray, List.set_cons_zero, List.set_cons_succ]
                      refine wpAnyH_done (by kernel_rfl) ?_ _
                      go_wp2
                      try go_ret
                      exact HPO.out _ (HB.out.trans (HV.out.mono HB.out.size))
                    · refine Rg.op_appG (K := KR) (.tmp 107) (.tmp 109) rfl b6 A6 q c6 qs rfl ho6 v5.heap.size (some ⟨g8, 0, none⟩) 1 1 [rp] rfl rfl HR8.out (show (q + 1) * 88 ≤ 140737488355328 by have := HSQ.out; omega) HB6.out ?_
                      intro A10 c10 w10 h10 hb
                      simp only [Act.put, List.setIfInBounds_toArray, List.set_cons_zero, List.set_cons_succ]
                      have HS10 : Hid (Sr w10 A10 (q + 1) c10 (qs ++ [rp])) := Lib.hid ⟨h10.1, h10.cap, by have := HSQ.out; omega, HUQ.out, h10.rs⟩
                      have HS1 : Hid (Sr w10 A1 n1 c1 _) := Lib.hid ⟨HS1.out.1, HS1.out.2.1, HS1.out.2.2.1, HS1.out.2.2.2.1, (HR1.out.below hb).more (Nat.le_trans HB6.out hb.size)⟩
                      have HV := Lib.hid (HV.out.trans (hb.mono HW6.out))
                      clear hb h10
                      refine hK.out _ _ HV.out (fun _ => ?_)
                      clear hK K
                      refine wpAnyH_ready (rs := [10]) (by kernel_rfl) (by simp) ?_
                      refine AllReadyH.cons (o := ⟨_, _, _, _, _, _⟩) rfl (fun K hK => ?_) AllReadyH.nil
                      go_simp
                      refine (same_r A1 n1 c1 _ _ _ _ _ _ HS1.out HS10.out).mono ?_
                      rw [HSM.out]
                      rintro e w17 ⟨rfl, hb⟩
                      have HV := Lib.hid (HV.out.trans (hb.mono HV.out.size)); clear hb
                      refine hK.out _ _ HV.out (fun _ => ?_)
                      clear hK K
                      refine take_in (i := 11) (oi := ⟨_, _, _, _, _, _⟩) (v := ?_) rfl (by kernel_rfl) (by kernel_rfl) (by kernel_rfl) (fun _ _ _ h => h) (by rfl) ?_ HV.out ?_
                      rotate_left
                      · intro W hW; go_simp; with_reducible rfl
                      simp only [Act.put, List.setIfInBounds_toArray, List.set_cons_zero, List.set_cons_succ]
                      refine wpAnyH_done (by kernel_rfl) ?_ _
                      go_wp2
                      try go_ret
                      exact HPO.out _ (HB.out.trans (HV.out.mono HB.out.size))
                · skip
                  go_simp
                  refine hK.out _ _ (bal HV.out (Nat.le_refl _) _) (fun _ => ?_)
                  clear hK K
                  have HX8 : Hid (Rx (v3.alloc (.cells #[.int .i64 rp.kind, .int .i64 rp.va, .int .i64 rp.vd, .int .i64 rp.cn, .int .i64 rp.ca, .int .i64 rp.cd, .int .i64 rp.e.key, .int .i64 rp.e.num, .int .i64 rp.e.node, .float .f64 rp.e.val, .int .i64 rp.n] 40)) v3.heap.size rp) := Lib.hid (hat _ _ _ rfl)
                  have HS1 := Lib.hid (HS1.out.all (bal (Below.refl v3.heap.size v3) (Nat.le_refl _) (.cells #[.int .i64 rp.kind, .int .i64 rp.va, .int .i64 rp.vd, .int .i64 rp.cn, .int .i64 rp.ca, .int .i64 rp.cd, .int .i64 rp.e.key, .int .i64 rp.e.num, .int .i64 rp.e.node, .float .f64 rp.e.val, .int .i64 rp.n] 40)))
                  have HG2 : Hid ((v3.alloc (.cells #[.int .i64 rp.kind, .int .i64 rp.va, .int .i64 rp.vd, .int .i64 rp.cn, .int .i64 rp.ca, .int .i64 rp.cd, .int .i64 rp.e.key, .int .i64 rp.e.num, .int .i64 rp.e.node, .float .f64 rp.e.val, .int .i64 rp.n] 40)).heap[g2]? = some (.cells #[] 40)) := Lib.hid (hbe HG2.out)
                  have HV := Lib.hid (bal HV.out (Nat.le_refl _) (.cells #[.int .i64 rp.kind, .int .i64 rp.va, .int .i64 rp.vd, .int .i64 rp.cn, .int .i64 rp.ca, .int .i64 rp.cd, .int .i64 rp.e.key, .int .i64 rp.e.num, .int .i64 rp.e.node, .float .f64 rp.e.val, .int .i64 rp.n] 40))
                  generalize v3.alloc (.cells #[.int .i64 rp.kind, .int .i64 rp.va, .int .i64 rp.vd, .int .i64 rp.cn, .int .i64 rp.ca, .int .i64 rp.cd, .int .i64 rp.e.key, .int .i64 rp.e.num, .int .i64 rp.e.node, .float .f64 rp.e.val, .int .i64 rp.n] 40) = v6 at HG2 HS1 HV HX8 ⊢
                  generalize v3.heap.size = g8 at HX8 ⊢
                  refine wpAnyH_ready (rs := [6]) (by kernel_rfl) (by simp) ?_
                  refine AllReadyH.cons (o := ⟨_, _, _, _, _, _⟩) rfl (fun K hK => ?_) AllReadyH.nil
                  · skip
                    refine op_app0 (.tmp 103) (.tmp 106) rfl g2 rfl HG2.out w16.heap.size A9 q c9 qs rfl HLQ.out (HRQ.out.below HV.out) (by have := HSQ.out; omega) ?_
                    intro A6 c6 v7 hb h6
                    simp only [Act.put, Option.getD_some, Option.getD]
                    refine hK.out _ _ (HV.out.trans (hb.mono HV.out.size)) (fun _ => ?_)
                    clear hK K
                    have HR6 : Hid (R6 v7 g2 v6.heap.size A6 q c6 qs) := Lib.hid (h6.elim (fun h => Or.inl ⟨h.1, h.2.2.1, h.2.2.2, by rw [h.2.1]; exact HG2.out⟩) (fun h => Or.inr h))
                    have HR1 : Hid (Rg.Rs KR v7 v6.heap.size A1 _) := Lib.hid (HS1.out.2.2.2.2.below hb)
                    have HB6 : Hid (v6.heap.size ≤ v7.heap.size) := Lib.hid hb.size
                    have HW6 : Hid (w16.heap.size ≤ v6.heap.size) := Lib.hid HV.out.size
                    have HS1 := Lib.hid (HS1.out.all hb)
                    have HX8 := Lib.hid (HX8.out.all hb)
                    have HV := Lib.hid (HV.out.trans (hb.mono HV.out.size))
                    clear hb h6 HG2
                    generalize v6.heap.size = b6 at HR6 HR1 HB6 HW6
                    refine wpAnyH_ready (rs := [9]) (by kernel_rfl) (by simp) ?_
                    refine AllReadyH.cons (o := ⟨_, _, _, _, _, _⟩) rfl (fun K hK => ?_) AllReadyH.nil
                    have HR8 := Lib.hid (rs_rx HX8.out)
                    rcases HR6.out with ⟨hq0, hA6, hc6, hg2⟩ | ho6
                    · have hqz : q = 0 := by rw [HLQ.out, hq0]; rfl
                      subst hA6 hc6 hq0 hqz
                      refine op_app0 (.tmp 107) (.tmp 109) rfl g2 rfl hg2 v7.heap.size (some ⟨g8, 0, none⟩) 1 1 [rp] rfl rfl HR8.out (by omega) ?_
                      intro A10 c10 w10 hb h10
                      simp only [Act.put, List.setIfInBounds_toArray, List.set_cons_zero, List.set_cons_succ]
                      have HS10 : Hid (Sr w10 A10 1 c10 ([] ++ [rp])) := Lib.hid (h10.elim (fun h => by simp at h) (fun h => ⟨rfl, h.cap, by omega, HUQ.out, h.rs⟩))
                      have HS1 := Lib.hid (HS1.out.all hb)
                      have HV := Lib.hid (HV.out.trans (hb.mono HV.out.size))
                      clear hb h10
                      refine hK.out _ _ HV.out (fun _ => ?_)
                      clear hK K
                      refine wpAnyH_ready (rs := [10]) (by kernel_rfl) (by simp) ?_
                      refine AllReadyH.cons (o := ⟨_, _, _, _, _, _⟩) rfl (fun K hK => ?_) AllReadyH.nil
                      go_simp
                      refine (same_r A1 n1 c1 _ _ _ _ _ _ HS1.out HS10.out).mono ?_
                      rw [HSM.out]
                      rintro e w17 ⟨rfl, hb⟩
                      have HV := Lib.hid (HV.out.trans (hb.mono HV.out.size)); clear hb
                      refine hK.out _ _ HV.out (fun _ => ?_)
                      clear hK K
                      refine take_in (i := 11) (oi := ⟨_, _, _, _, _, _⟩) (v := ?_) rfl (by kernel_rfl) (by kernel_rfl) (by kernel_rfl) (fun _ _ _ h => h) (by rfl) ?_ HV.out ?_
                      rotate_left
                      · intro W hW; go_simp; with_reducible rfl
                      simp only [Act.put, List.setIfInBounds_toArray, List.set_cons_zero, List.set_cons_succ]
                      refine wpAnyH_done (by kernel_rfl) ?_ _
                      go_wp2
                      try go_ret
                      exact HPO.out _ (HB.out.trans (HV.out.mono HB.out.size))
                    · refine Rg.op_appG (K := KR) (.tmp 107) (.tmp 109) rfl b6 A6 q c6 qs rfl ho6 v7.heap.size (some ⟨g8, 0, none⟩) 1 1 [rp] rfl rfl HR8.out (show (q + 1) * 88 ≤ 140737488355328 by have := HSQ.out; omega) HB6.out ?_
                      intro A10 c10 w10 h10 hb
                      simp only [Act.put, List.setIfInBounds_toArray, List.set_cons_zero, List.set_cons_succ]
                      have HS10 : Hid (Sr w10 A10 (q + 1) c10 (qs ++ [rp])) := Lib.hid ⟨h10.1, h10.cap, by have := HSQ.out; omega, HUQ.out, h10.rs⟩
                      have HS1 : Hid (Sr w10 A1 n1 c1 _) := Lib.hid ⟨HS1.out.1, HS1.out.2.1, HS1.out.2.2.1, HS1.out.2.2.2.1, (HR1.out.below hb).more (Nat.le_trans HB6.out hb.size)⟩
                      have HV := Lib.hid (HV.out.trans (hb.mono HW6.out))
                      clear hb h10
                      refine hK.out _ _ HV.out (fun _ => ?_)
                      clear hK K
                      refine wpAnyH_ready (rs := [10]) (by kernel_rfl) (by simp) ?_
                      refine AllReadyH.cons (o := ⟨_, _, _, _, _, _⟩) rfl (fun K hK => ?_) AllReadyH.nil
                      go_simp
                      refine (same_r A1 n1 c1 _ _ _ _ _ _ HS1.out HS10.out).mono ?_
                      rw [HSM.out]
                      rintro e w17 ⟨rfl, hb⟩
                      have HV := Lib.hid (HV.out.trans (hb.mono HV.out.size)); clear hb
                      refine hK.out _ _ HV.out (fun _ => ?_)
                      clear hK K
                      refine take_in (i := 11) (oi := ⟨_, _, _, _, _, _⟩) (v := ?_) rfl (by kernel_rfl) (by kernel_rfl) (by kernel_rfl) (fun _ _ _ h => h) (by rfl) ?_ HV.out ?_
                      rotate_left
                      · intro W hW; go_simp; with_reducible rfl
                      simp only [Act.put, List.setIfInBounds_toArray, List.set_cons_zero, List.set_cons_succ]
                      refine wpAnyH_done (by kernel_rfl) ?_ _
                      go_wp2
                      try go_ret
                      exact HPO.out _ (HB.out.trans (HV.out.mono HB.out.size))
              · skip
                go_simp
                refine hK.out _ _ (bal HV.out (Nat.le_refl _) _) (fun _ => ?_)
                clear hK K
                have HX8 : Hid (Rx (v2.alloc (.cells #[.int .i64 rp.kind, .int .i64 rp.va, .int .i64 rp.vd, .int .i64 rp.cn, .int .i64 rp.ca, .int .i64 rp.cd, .int .i64 rp.e.key, .int .i64 rp.e.num, .int .i64 rp.e.node, .float .f64 rp.e.val, .int .i64 rp.n] 40)) v2.heap.size rp) := Lib.hid (hat _ _ _ rfl)
                have HS1 := Lib.hid (HS1.out.all (bal (Below.refl v2.heap.size v2) (Nat.le_refl _) (.cells #[.int .i64 rp.kind, .int .i64 rp.va, .int .i64 rp.vd, .int .i64 rp.cn, .int .i64 rp.ca, .int .i64 rp.cd, .int .i64 rp.e.key, .int .i64 rp.e.num, .int .i64 rp.e.node, .float .f64 rp.e.val, .int .i64 rp.n] 40)))
                have HV := Lib.hid (bal HV.out (Nat.le_refl _) (.cells #[.int .i64 rp.kind, .int .i64 rp.va, .int .i64 rp.vd, .int .i64 rp.cn, .int .i64 rp.ca, .int .i64 rp.cd, .int .i64 rp.e.key, .int .i64 rp.e.num, .int .i64 rp.e.node, .float .f64 rp.e.val, .int .i64 rp.n] 40))
                generalize v2.alloc (.cells #[.int .i64 rp.kind, .int .i64 rp.va, .int .i64 rp.vd, .int .i64 rp.cn, .int .i64 rp.ca, .int .i64 rp.cd, .int .i64 rp.e.key, .int .i64 rp.e.num, .int .i64 rp.e.node, .float .f64 rp.e.val, .int .i64 rp.n] 40) = v8 at HS1 HV HX8 ⊢
                generalize v2.heap.size = g8 at HX8 ⊢
                refine wpAnyH_ready (rs := [2]) (by kernel_rfl) (by simp) ?_
                refine AllReadyH.cons (o := ⟨_, _, _, _, _, _⟩) rfl (fun K hK => ?_) AllReadyH.nil
                · skip
                  go_simp
                  refine hK.out _ _ (bal HV.out (Nat.le_refl _) _) (fun _ => ?_)
                  clear hK K
                  have HG2 : Hid ((v8.alloc (.cells #[] 40)).heap[v8.heap.size]? = some (.cells #[] 40)) := Lib.hid (hat _ _ _ rfl)
                  have HS1 := Lib.hid (HS1.out.all (bal (Below.refl v8.heap.size v8) (Nat.le_refl _) (.cells #[] 40)))
                  have HX8 := Lib.hid (HX8.out.all (bal (Below.refl v8.heap.size v8) (Nat.le_refl _) (.cells #[] 40)))
                  have HV := Lib.hid (bal HV.out (Nat.le_refl _) (.cells #[] 40))
                  generalize v8.alloc (.cells #[] 40) = v9 at HG2 HS1 HV HX8 ⊢
                  generalize v8.heap.size = g2 at HG2 ⊢
                  refine wpAnyH_ready (rs := [6]) (by kernel_rfl) (by simp) ?_
                  refine AllReadyH.cons (o := ⟨_, _, _, _, _, _⟩) rfl (fun K hK => ?_) AllReadyH.nil
                  · skip
                    refine op_app0 (.tmp 103) (.tmp 106) rfl g2 rfl HG2.out w16.heap.size A9 q c9 qs rfl HLQ.out (HRQ.out.below HV.out) (by have := HSQ.out; omega) ?_
                    intro A6 c6 v10 hb h6
                    simp only [Act.put, Option.getD_some, Option.getD]
                    refine hK.out _ _ (HV.out.trans (hb.mono HV.out.size)) (fun _ => ?_)
                    clear hK K
                    have HR6 : Hid (R6 v10 g2 v9.heap.size A6 q c6 qs) := Lib.hid (h6.elim (fun h => Or.inl ⟨h.1, h.2.2.1, h.2.2.2, by rw [h.2.1]; exact HG2.out⟩) (fun h => Or.inr h))
                    have HR1 : Hid (Rg.Rs KR v10 v9.heap.size A1 _) := Lib.hid (HS1.out.2.2.2.2.below hb)
                    have HB6 : Hid (v9.heap.size ≤ v10.heap.size) := Lib.hid hb.size
                    have HW6 : Hid (w16.heap.size ≤ v9.heap.size) := Lib.hid HV.out.size
                    have HS1 := Lib.hid (HS1.out.all hb)
                    have HX8 := Lib.hid (HX8.out.all hb)
                    have HV := Lib.hid (HV.out.trans (hb.mono HV.out.size))
                    clear hb h6 HG2
                    generalize v9.heap.size = b6 at HR6 HR1 HB6 HW6
                    refine wpAnyH_ready (rs := [9]) (by kernel_rfl) (by simp) ?_
                    refine AllReadyH.cons (o := ⟨_, _, _, _, _, _⟩) rfl (fun K hK => ?_) AllReadyH.nil
                    have HR8 := Lib.hid (rs_rx HX8.out)
                    rcases HR6.out with ⟨hq0, hA6, hc6, hg2⟩ | ho6
                    · have hqz : q = 0 := by rw [HLQ.out, hq0]; rfl
                      subst hA6 hc6 hq0 hqz
                      refine op_app0 (.tmp 107) (.tmp 109) rfl g2 rfl hg2 v10.heap.size (some ⟨g8, 0, none⟩) 1 1 [rp] rfl rfl HR8.out (by omega) ?_
                      intro A10 c10 w10 hb h10
                      simp only [Act.put, List.setIfInBounds_toArray, List.set_cons_zero, List.set_cons_succ]
                      have HS10 : Hid (Sr w10 A10 1 c10 ([] ++ [rp])) := Lib.hid (h10.elim (fun h => by simp at h) (fun h => ⟨rfl, h.cap, by omega, HUQ.out, h.rs⟩))
                      have HS1 := Lib.hid (HS1.out.all hb)
                      have HV := Lib.hid (HV.out.trans (hb.mono HV.out.size))
                      clear hb h10
                      refine hK.out _ _ HV.out (fun _ => ?_)
                      clear hK K
                      refine wpAnyH_ready (rs := [10]) (by kernel_rfl) (by simp) ?_
                      refine AllReadyH.cons (o := ⟨_, _, _, _, _, _⟩) rfl (fun K hK => ?_) AllReadyH.nil
                      go_simp
                      refine (same_r A1 n1 c1 _ _ _ _ _ _ HS1.out HS10.out).mono ?_
                      rw [HSM.out]
                      rintro e w17 ⟨rfl, hb⟩
                      have HV := Lib.hid (HV.out.trans (hb.mono HV.out.size)); clear hb
                      refine hK.out _ _ HV.out (fun _ => ?_)
                      clear hK K
                      refine take_in (i := 11) (oi := ⟨_, _, _, _, _, _⟩) (v := ?_) rfl (by kernel_rfl) (by kernel_rfl) (by kernel_rfl) (fun _ _ _ h => h) (by rfl) ?_ HV.out ?_
                      rotate_left
                      · intro W hW; go_simp; with_reducible rfl
                      simp only [Act.put, List.setIfInBounds_toArray, List.set_cons_zero, List.set_cons_succ]
                      refine wpAnyH_done (by kernel_rfl) ?_ _
                      go_wp2
                      try go_ret
                      exact HPO.out _ (HB.out.trans (HV.out.mono HB.out.size))
                    · refine Rg.op_appG (K := KR) (.tmp 107) (.tmp 109) rfl b6 A6 q c6 qs rfl ho6 v10.heap.size (some ⟨g8, 0, none⟩) 1 1 [rp] rfl rfl HR8.out (show (q + 1) * 88 ≤ 140737488355328 by have := HSQ.out; omega) HB6.out ?_
                      intro A10 c10 w10 h10 hb
                      simp only [Act.put, List.setIfInBounds_toArray, List.set_cons_zero, List.set_cons_succ]
                      have HS10 : Hid (Sr w10 A10 (q + 1) c10 (qs ++ [rp])) := Lib.hid ⟨h10.1, h10.cap, by have := HSQ.out; omega, HUQ.out, h10.rs⟩
                      have HS1 : Hid (Sr w10 A1 n1 c1 _) := Lib.hid ⟨HS1.out.1, HS1.out.2.1, HS1.out.2.2.1, HS1.out.2.2.2.1, (HR1.out.below hb).more (Nat.le_trans HB6.out hb.size)⟩
                      have HV := Lib.hid (HV.out.trans (hb.mono HW6.out))
                      clear hb h10
                      refine hK.out _ _ HV.out (fun _ => ?_)
                      clear hK K
                      refine wpAnyH_ready (rs := [10]) (by kernel_rfl) (by simp) ?_
                      refine AllReadyH.cons (o := ⟨_, _, _, _, _, _⟩) rfl (fun K hK => ?_) AllReadyH.nil
                      go_simp
                      refine (same_r A1 n1 c1 _ _ _ _ _ _ HS1.out HS10.out).mono ?_
                      rw [HSM.out]
                      rintro e w17 ⟨rfl, hb⟩
                      have HV := Lib.hid (HV.out.trans (hb.mono HV.out.size)); clear hb
                      refine hK.out _ _ HV.out (fun _ => ?_)
                      clear hK K
                      refine take_in (i := 11) (oi := ⟨_, _, _, _, _, _⟩) (v := ?_) rfl (by kernel_rfl) (by kernel_rfl) (by kernel_rfl) (fun _ _ _ h => h) (by rfl) ?_ HV.out ?_
                      rotate_left
                      · intro W hW; go_simp; with_reducible rfl
                      simp only [Act.put, List.setIfInBounds_toArray, List.set_cons_zero, List.set_cons_succ]
                      refine wpAnyH_done (by kernel_rfl) ?_ _
                      go_wp2
                      try go_ret
                      exact HPO.out _ (HB.out.trans (HV.out.mono HB.out.size))
            · skip
              go_simp
              refine hK.out _ _ (bal HV.out (Nat.le_refl _) _) (fun _ => ?_)
              clear hK K
              have HG2 : Hid ((v1.alloc (.cells #[] 40)).heap[v1.heap.size]? = some (.cells #[] 40)) := Lib.hid (hat _ _ _ rfl)
              have HV := Lib.hid (bal HV.out (Nat.le_refl _) (.cells #[] 40))
              generalize v1.alloc (.cells #[] 40) = v11 at HG2 HV ⊢
              generalize v1.heap.size = g2 at HG2 ⊢
              refine wpAnyH_ready (rs := [1, 8]) (by kernel_rfl) (by simp) ?_
              refine AllReadyH.cons (o := ⟨_, _, _, _, _, _⟩) rfl (fun K hK => ?_) (AllReadyH.cons (o := ⟨_, _, _, _, _, _⟩) rfl (fun K hK => ?_) AllReadyH.nil)
              · skip
                go_simp
                refine (read_c _ _ F5 _ (HD.out.all HV.out)).mono ?_
                rintro e v12 ⟨A1, n1, c1, rs1, m1, rfl, hsc, hsr, hb⟩
                obtain ⟨rfl, _⟩ := scans_one hsc HSL.out
                have HS1 := Lib.hid hsr
                have HV' := Lib.hid (HV.out.trans (hb.mono HV.out.size))
                refine hK.out _ _ HV'.out (fun _ => ?_)
                clear hK K
                have HG2 : Hid (v12.heap[g2]? = some (.cells #[] 40)) := Lib.hid ((hb.block g2 (Array.getElem?_eq_some_iff.1 HG2.out).1).trans HG2.out)
                have HV := HV'
                clear HV' hb hsc hsr
                refine wpAnyH_ready (rs := [6, 8]) (by kernel_rfl) (by simp) ?_
                refine AllReadyH.cons (o := ⟨_, _, _, _, _, _⟩) rfl (fun K hK => ?_) (AllReadyH.cons (o := ⟨_, _, _, _, _, _⟩) rfl (fun K hK => ?_) AllReadyH.nil)
                · skip
                  refine op_app0 (.tmp 103) (.tmp 106) rfl g2 rfl HG2.out w16.heap.size A9 q c9 qs rfl HLQ.out (HRQ.out.below HV.out) (by have := HSQ.out; omega) ?_
                  intro A6 c6 v13 hb h6
                  simp only [Act.put, Option.getD_some, Option.getD]
                  refine hK.out _ _ (HV.out.trans (hb.mono HV.out.size)) (fun _ => ?_)
                  clear hK K
                  have HR6 : Hid (R6 v13 g2 v12.heap.size A6 q c6 qs) := Lib.hid (h6.elim (fun h => Or.inl ⟨h.1, h.2.2.1, h.2.2.2, by rw [h.2.1]; exact HG2.out⟩) (fun h => Or.inr h))
                  have HR1 : Hid (Rg.Rs KR v13 v12.heap.size A1 _) := Lib.hid (HS1.out.2.2.2.2.below hb)
                  have HB6 : Hid (v12.heap.size ≤ v13.heap.size) := Lib.hid hb.size
                  have HW6 : Hid (w16.heap.size ≤ v12.heap.size) := Lib.hid HV.out.size
                  have HS1 := Lib.hid (HS1.out.all hb)
                  have HV := Lib.hid (HV.out.trans (hb.mono HV.out.size))
                  clear hb h6 HG2
                  generalize v12.heap.size = b6 at HR6 HR1 HB6 HW6
                  refine wpAnyH_ready (rs := [8]) (by kernel_rfl) (by simp) ?_
                  refine AllReadyH.cons (o := ⟨_, _, _, _, _, _⟩) rfl (fun K hK => ?_) AllReadyH.nil
                  · skip
                    go_simp
                    refine hK.out _ _ (bal HV.out (Nat.le_refl _) _) (fun _ => ?_)
                    clear hK K
                    have HX8 : Hid (Rx (v13.alloc (.cells #[.int .i64 rp.kind, .int .i64 rp.va, .int .i64 rp.vd, .int .i64 rp.cn, .int .i64 rp.ca, .int .i64 rp.cd, .int .i64 rp.e.key, .int .i64 rp.e.num, .int .i64 rp.e.node, .float .f64 rp.e.val, .int .i64 rp.n] 40)) v13.heap.size rp) := Lib.hid (hat _ _ _ rfl)
                    have HR1 := Lib.hid (HR1.out.below ((bal (Below.refl v13.heap.size v13) (Nat.le_refl _) (.cells #[.int .i64 rp.kind, .int .i64 rp.va, .int .i64 rp.vd, .int .i64 rp.cn, .int .i64 rp.ca, .int .i64 rp.cd, .int .i64 rp.e.key, .int .i64 rp.e.num, .int .i64 rp.e.node, .float .f64 rp.e.val, .int .i64 rp.n] 40)).mono HB6.out))
                    have HS1 := Lib.hid (HS1.out.all (bal (Below.refl v13.heap.size v13) (Nat.le_refl _) (.cells #[.int .i64 rp.kind, .int .i64 rp.va, .int .i64 rp.vd, .int .i64 rp.cn, .int .i64 rp.ca, .int .i64 rp.cd, .int .i64 rp.e.key, .int .i64 rp.e.num, .int .i64 rp.e.node, .float .f64 rp.e.val, .int .i64 rp.n] 40)))
                    have HR6 := Lib.hid (HR6.out.alloc (.cells #[.int .i64 rp.kind, .int .i64 rp.va, .int .i64 rp.vd, .int .i64 rp.cn, .int .i64 rp.ca, .int .i64 rp.cd, .int .i64 rp.e.key, .int .i64 rp.e.num, .int .i64 rp.e.node, .float .f64 rp.e.val, .int .i64 rp.n] 40))
                    have HB6 := Lib.hid (Nat.le_trans HB6.out (show v13.heap.size ≤ (v13.alloc (.cells #[.int .i64 rp.kind, .int .i64 rp.va, .int .i64 rp.vd, .int .i64 rp.cn, .int .i64 rp.ca, .int .i64 rp.cd, .int .i64 rp.e.key, .int .i64 rp.e.num, .int .i64 rp.e.node, .float .f64 rp.e.val, .int .i64 rp.n] 40)).heap.size by simp))
                    have HV := Lib.hid (bal HV.out (Nat.le_refl _) (.cells #[.int .i64 rp.kind, .int .i64 rp.va, .int .i64 rp.vd, .int .i64 rp.cn, .int .i64 rp.ca, .int .i64 rp.cd, .int .i64 rp.e.key, .int .i64 rp.e.num, .int .i64 rp.e.node, .float .f64 rp.e.val, .int .i64 rp.n] 40))
                    generalize v13.alloc (.cells #[.int .i64 rp.kind, .int .i64 rp.va, .int .i64 rp.vd, .int .i64 rp.cn, .int .i64 rp.ca, .int .i64 rp.cd, .int .i64 rp.e.key, .int .i64 rp.e.num, .int .i64 rp.e.node, .float .f64 rp.e.val, .int .i64 rp.n] 40) = v14 at HB6 HR1 HR6 HS1 HV HX8 ⊢
                    generalize v13.heap.size = g8 at HX8 ⊢
                    refine wpAnyH_ready (rs := [9]) (by kernel_rfl) (by simp) ?_
                    refine AllReadyH.cons (o := ⟨_, _, _, _, _, _⟩) rfl (fun K hK => ?_) AllReadyH.nil
                    have HR8 := Lib.hid (rs_rx HX8.out)
                    rcases HR6.out with ⟨hq0, hA6, hc6, hg2⟩ | ho6
                    · have hqz : q = 0 := by rw [HLQ.out, hq0]; rfl
                      subst hA6 hc6 hq0 hqz
                      refine op_app0 (.tmp 107) (.tmp 109) rfl g2 rfl hg2 v14.heap.size (some ⟨g8, 0, none⟩) 1 1 [rp] rfl rfl HR8.out (by omega) ?_
                      intro A10 c10 w10 hb h10
                      simp only [Act.put, List.setIfInBounds_toArray, List.set_cons_zero, List.set_cons_succ]
                      have HS10 : Hid (Sr w10 A10 1 c10 ([] ++ [rp])) := Lib.hid (h10.elim (fun h => by simp at h) (fun h => ⟨rfl, h.cap, by omega, HUQ.out, h.rs⟩))
                      have HS1 := Lib.hid (HS1.out.all hb)
                      have HV := Lib.hid (HV.out.trans (hb.mono HV.out.size))
                      clear hb h10
                      refine hK.out _ _ HV.out (fun _ => ?_)
                      clear hK K
                      refine wpAnyH_ready (rs := [10]) (by kernel_rfl) (by simp) ?_
                      refine AllReadyH.cons (o := ⟨_, _, _, _, _, _⟩) rfl (fun K hK => ?_) AllReadyH.nil
                      go_simp
                      refine (same_r A1 n1 c1 _ _ _ _ _ _ HS1.out HS10.out).mono ?_
                      rw [HSM.out]
                      rintro e w17 ⟨rfl, hb⟩
                      have HV := Lib.hid (HV.out.trans (hb.mono HV.out.size)); clear hb
                      refine hK.out _ _ HV.out (fun _ => ?_)
                      clear hK K
                      refine take_in (i := 11) (oi := ⟨_, _, _, _, _, _⟩) (v := ?_) rfl (by kernel_rfl) (by kernel_rfl) (by kernel_rfl) (fun _ _ _ h => h) (by rfl) ?_ HV.out ?_
                      rotate_left
                      · intro W hW; go_simp; with_reducible rfl
                      simp only [Act.put, List.setIfInBounds_toArray, List.set_cons_zero, List.set_cons_succ]
                      refine wpAnyH_done (by kernel_rfl) ?_ _
                      go_wp2
                      try go_ret
                      exact HPO.out _ (HB.out.trans (HV.out.mono HB.out.size))
                    · refine Rg.op_appG (K := KR) (.tmp 107) (.tmp 109) rfl b6 A6 q c6 qs rfl ho6 v14.heap.size (some ⟨g8, 0, none⟩) 1 1 [rp] rfl rfl HR8.out (show (q + 1) * 88 ≤ 140737488355328 by have := HSQ.out; omega) HB6.out ?_
                      intro A10 c10 w10 h10 hb
                      simp only [Act.put, List.setIfInBounds_toArray, List.set_cons_zero, List.set_cons_succ]
                      have HS10 : Hid (Sr w10 A10 (q + 1) c10 (qs ++ [rp])) := Lib.hid ⟨h10.1, h10.cap, by have := HSQ.out; omega, HUQ.out, h10.rs⟩
                      have HS1 : Hid (Sr w10 A1 n1 c1 _) := Lib.hid ⟨HS1.out.1, HS1.out.2.1, HS1.out.2.2.1, HS1.out.2.2.2.1, (HR1.out.below hb).more (Nat.le_trans HB6.out hb.size)⟩
                      have HV := Lib.hid (HV.out.trans (hb.mono HW6.out))
                      clear hb h10
                      refine hK.out _ _ HV.out (fun _ => ?_)
                      clear hK K
                      refine wpAnyH_ready (rs := [10]) (by kernel_rfl) (by simp) ?_
                      refine AllReadyH.cons (o := ⟨_, _, _, _, _, _⟩) rfl (fun K hK => ?_) AllReadyH.nil
                      go_simp
                      refine (same_r A1 n1 c1 _ _ _ _ _ _ HS1.out HS10.out).mono ?_
                      rw [HSM.out]
                      rintro e w17 ⟨rfl, hb⟩
                      have HV := Lib.hid (HV.out.trans (hb.mono HV.out.size)); clear hb
                      refine hK.out _ _ HV.out (fun _ => ?_)
                      clear hK K
                      refine take_in (i := 11) (oi := ⟨_, _, _, _, _, _⟩) (v := ?_) rfl (by kernel_rfl) (by kernel_rfl) (by kernel_rfl) (fun _ _ _ h => h) (by rfl) ?_ HV.out ?_
                      rotate_left
                      · intro W hW; go_simp; with_reducible rfl
                      simp only [Act.put, List.setIfInBounds_toArray, List.set_cons_zero, List.set_cons_succ]
                      refine wpAnyH_done (by kernel_rfl) ?_ _
                      go_wp2
                      try go_ret
                      exact HPO.out _ (HB.out.trans (HV.out.mono HB.out.size))
                · skip
                  go_simp
                  refine hK.out _ _ (bal HV.out (Nat.le_refl _) _) (fun _ => ?_)
                  clear hK K
                  have HX8 : Hid (Rx (v12.alloc (.cells #[.int .i64 rp.kind, .int .i64 rp.va, .int .i64 rp.vd, .int .i64 rp.cn, .int .i64 rp.ca, .int .i64 rp.cd, .int .i64 rp.e.key, .int .i64 rp.e.num, .int .i64 rp.e.node, .float .f64 rp.e.val, .int .i64 rp.n] 40)) v12.heap.size rp) := Lib.hid (hat _ _ _ rfl)
                  have HS1 := Lib.hid (HS1.out.all (bal (Below.refl v12.heap.size v12) (Nat.le_refl _) (.cells #[.int .i64 rp.kind, .int .i64 rp.va, .int .i64 rp.vd, .int .i64 rp.cn, .int .i64 rp.ca, .int .i64 rp.cd, .int .i64 rp.e.key, .int .i64 rp.e.num, .int .i64 rp.e.node, .float .f64 rp.e.val, .int .i64 rp.n] 40)))
                  have HG2 : Hid ((v12.alloc (.cells #[.int .i64 rp.kind, .int .i64 rp.va, .int .i64 rp.vd, .int .i64 rp.cn, .int .i64 rp.ca, .int .i64 rp.cd, .int .i64 rp.e.key, .int .i64 rp.e.num, .int .i64 rp.e.node, .float .f64 rp.e.val, .int .i64 rp.n] 40)).heap[g2]? = some (.cells #[] 40)) := Lib.hid (hbe HG2.out)
                  have HV := Lib.hid (bal HV.out (Nat.le_refl _) (.cells #[.int .i64 rp.kind, .int .i64 rp.va, .int .i64 rp.vd, .int .i64 rp.cn, .int .i64 rp.ca, .int .i64 rp.cd, .int .i64 rp.e.key, .int .i64 rp.e.num, .int .i64 rp.e.node, .float .f64 rp.e.val, .int .i64 rp.n] 40))
                  generalize v12.alloc (.cells #[.int .i64 rp.kind, .int .i64 rp.va, .int .i64 rp.vd, .int .i64 rp.cn, .int .i64 rp.ca, .int .i64 rp.cd, .int .i64 rp.e.key, .int .i64 rp.e.num, .int .i64 rp.e.node, .float .f64 rp.e.val, .int .i64 rp.n] 40) = v15 at HG2 HS1 HV HX8 ⊢
                  generalize v12.heap.size = g8 at HX8 ⊢
                  refine wpAnyH_ready (rs := [6]) (by kernel_rfl) (by simp) ?_
                  refine AllReadyH.cons (o := ⟨_, _, _, _, _, _⟩) rfl (fun K hK => ?_) AllReadyH.nil
                  · skip
                    refine op_app0 (.tmp 103) (.tmp 106) rfl g2 rfl HG2.out w16.heap.size A9 q c9 qs rfl HLQ.out (HRQ.out.below HV.out) (by have := HSQ.out; omega) ?_
                    intro A6 c6 v16 hb h6
                    simp only [Act.put, Option.getD_some, Option.getD]
                    refine hK.out _ _ (HV.out.trans (hb.mono HV.out.size)) (fun _ => ?_)
                    clear hK K
                    have HR6 : Hid (R6 v16 g2 v15.heap.size A6 q c6 qs) := Lib.hid (h6.elim (fun h => Or.inl ⟨h.1, h.2.2.1, h.2.2.2, by rw [h.2.1]; exact HG2.out⟩) (fun h => Or.inr h))
                    have HR1 : Hid (Rg.Rs KR v16 v15.heap.size A1 _) := Lib.hid (HS1.out.2.2.2.2.below hb)
                    have HB6 : Hid (v15.heap.size ≤ v16.heap.size) := Lib.hid hb.size
                    have HW6 : Hid (w16.heap.size ≤ v15.heap.size) := Lib.hid HV.out.size
                    have HS1 := Lib.hid (HS1.out.all hb)
                    have HX8 := Lib.hid (HX8.out.all hb)
                    have HV := Lib.hid (HV.out.trans (hb.mono HV.out.size))
                    clear hb h6 HG2
                    generalize v15.heap.size = b6 at HR6 HR1 HB6 HW6
                    refine wpAnyH_ready (rs := [9]) (by kernel_rfl) (by simp) ?_
                    refine AllReadyH.cons (o := ⟨_, _, _, _, _, _⟩) rfl (fun K hK => ?_) AllReadyH.nil
                    have HR8 := Lib.hid (rs_rx HX8.out)
                    rcases HR6.out with ⟨hq0, hA6, hc6, hg2⟩ | ho6
                    · have hqz : q = 0 := by rw [HLQ.out, hq0]; rfl
                      subst hA6 hc6 hq0 hqz
                      refine op_app0 (.tmp 107) (.tmp 109) rfl g2 rfl hg2 v16.heap.size (some ⟨g8, 0, none⟩) 1 1 [rp] rfl rfl HR8.out (by omega) ?_
                      intro A10 c10 w10 hb h10
                      simp only [Act.put, List.setIfInBounds_toArray, List.set_cons_zero, List.set_cons_succ]
                      have HS10 : Hid (Sr w10 A10 1 c10 ([] ++ [rp])) := Lib.hid (h10.elim (fun h => by simp at h) (fun h => ⟨rfl, h.cap, by omega, HUQ.out, h.rs⟩))
                      have HS1 := Lib.hid (HS1.out.all hb)
                      have HV := Lib.hid (HV.out.trans (hb.mono HV.out.size))
                      clear hb h10
                      refine hK.out _ _ HV.out (fun _ => ?_)
                      clear hK K
                      refine wpAnyH_ready (rs := [10]) (by kernel_rfl) (by simp) ?_
                      refine AllReadyH.cons (o := ⟨_, _, _, _, _, _⟩) rfl (fun K hK => ?_) AllReadyH.nil
                      go_simp
                      refine (same_r A1 n1 c1 _ _ _ _ _ _ HS1.out HS10.out).mono ?_
                      rw [HSM.out]
                      rintro e w17 ⟨rfl, hb⟩
                      have HV := Lib.hid (HV.out.trans (hb.mono HV.out.size)); clear hb
                      refine hK.out _ _ HV.out (fun _ => ?_)
                      clear hK K
                      refine take_in (i := 11) (oi := ⟨_, _, _, _, _, _⟩) (v := ?_) rfl (by kernel_rfl) (by kernel_rfl) (by kernel_rfl) (fun _ _ _ h => h) (by rfl) ?_ HV.out ?_
                      rotate_left
                      · intro W hW; go_simp; with_reducible rfl
                      simp only [Act.put, List.setIfInBounds_toArray, List.set_cons_zero, List.set_cons_succ]
                      refine wpAnyH_done (by kernel_rfl) ?_ _
                      go_wp2
                      try go_ret
                      exact HPO.out _ (HB.out.trans (HV.out.mono HB.out.size))
                    · refine Rg.op_appG (K := KR) (.tmp 107) (.tmp 109) rfl b6 A6 q c6 qs rfl ho6 v16.heap.size (some ⟨g8, 0, none⟩) 1 1 [rp] rfl rfl HR8.out (show (q + 1) * 88 ≤ 140737488355328 by have := HSQ.out; omega) HB6.out ?_
                      intro A10 c10 w10 h10 hb
                      simp only [Act.put, List.setIfInBounds_toArray, List.set_cons_zero, List.set_cons_succ]
                      have HS10 : Hid (Sr w10 A10 (q + 1) c10 (qs ++ [rp])) := Lib.hid ⟨h10.1, h10.cap, by have := HSQ.out; omega, HUQ.out, h10.rs⟩
                      have HS1 : Hid (Sr w10 A1 n1 c1 _) := Lib.hid ⟨HS1.out.1, HS1.out.2.1, HS1.out.2.2.1, HS1.out.2.2.2.1, (HR1.out.below hb).more (Nat.le_trans HB6.out hb.size)⟩
                      have HV := Lib.hid (HV.out.trans (hb.mono HW6.out))
                      clear hb h10
                      refine hK.out _ _ HV.out (fun _ => ?_)
                      clear hK K
                      refine wpAnyH_ready (rs := [10]) (by kernel_rfl) (by simp) ?_
                      refine AllReadyH.cons (o := ⟨_, _, _, _, _, _⟩) rfl (fun K hK => ?_) AllReadyH.nil
                      go_simp
                      refine (same_r A1 n1 c1 _ _ _ _ _ _ HS1.out HS10.out).mono ?_
                      rw [HSM.out]
                      rintro e w17 ⟨rfl, hb⟩
                      have HV := Lib.hid (HV.out.trans (hb.mono HV.out.size)); clear hb
                      refine hK.out _ _ HV.out (fun _ => ?_)
                      clear hK K
                      refine take_in (i := 11) (oi := ⟨_, _, _, _, _, _⟩) (v := ?_) rfl (by kernel_rfl) (by kernel_rfl) (by kernel_rfl) (fun _ _ _ h => h) (by rfl) ?_ HV.out ?_
                      rotate_left
                      · intro W hW; go_simp; with_reducible rfl
                      simp only [Act.put, List.setIfInBounds_toArray, List.set_cons_zero, List.set_cons_succ]
                      refine wpAnyH_done (by kernel_rfl) ?_ _
                      go_wp2
                      try go_ret
                      exact HPO.out _ (HB.out.trans (HV.out.mono HB.out.size))
              · skip
                go_simp
                refine hK.out _ _ (bal HV.out (Nat.le_refl _) _) (fun _ => ?_)
                clear hK K
                have HX8 : Hid (Rx (v11.alloc (.cells #[.int .i64 rp.kind, .int .i64 rp.va, .int .i64 rp.vd, .int .i64 rp.cn, .int .i64 rp.ca, .int .i64 rp.cd, .int .i64 rp.e.key, .int .i64 rp.e.num, .int .i64 rp.e.node, .float .f64 rp.e.val, .int .i64 rp.n] 40)) v11.heap.size rp) := Lib.hid (hat _ _ _ rfl)
                have HG2 : Hid ((v11.alloc (.cells #[.int .i64 rp.kind, .int .i64 rp.va, .int .i64 rp.vd, .int .i64 rp.cn, .int .i64 rp.ca, .int .i64 rp.cd, .int .i64 rp.e.key, .int .i64 rp.e.num, .int .i64 rp.e.node, .float .f64 rp.e.val, .int .i64 rp.n] 40)).heap[g2]? = some (.cells #[] 40)) := Lib.hid (hbe HG2.out)
                have HV := Lib.hid (bal HV.out (Nat.le_refl _) (.cells #[.int .i64 rp.kind, .int .i64 rp.va, .int .i64 rp.vd, .int .i64 rp.cn, .int .i64 rp.ca, .int .i64 rp.cd, .int .i64 rp.e.key, .int .i64 rp.e.num, .int .i64 rp.e.node, .float .f64 rp.e.val, .int .i64 rp.n] 40))
                generalize v11.alloc (.cells #[.int .i64 rp.kind, .int .i64 rp.va, .int .i64 rp.vd, .int .i64 rp.cn, .int .i64 rp.ca, .int .i64 rp.cd, .int .i64 rp.e.key, .int .i64 rp.e.num, .int .i64 rp.e.node, .float .f64 rp.e.val, .int .i64 rp.n] 40) = v17 at HG2 HV HX8 ⊢
                generalize v11.heap.size = g8 at HX8 ⊢
                refine wpAnyH_ready (rs := [1]) (by kernel_rfl) (by simp) ?_
                refine AllReadyH.cons (o := ⟨_, _, _, _, _, _⟩) rfl (fun K hK => ?_) AllReadyH.nil
                · skip
                  go_simp
                  refine (read_c _ _ F5 _ (HD.out.all HV.out)).mono ?_
                  rintro e v18 ⟨A1, n1, c1, rs1, m1, rfl, hsc, hsr, hb⟩
                  obtain ⟨rfl, _⟩ := scans_one hsc HSL.out
                  have HS1 := Lib.hid hsr
                  have HV' := Lib.hid (HV.out.trans (hb.mono HV.out.size))
                  refine hK.out _ _ HV'.out (fun _ => ?_)
                  clear hK K
                  have HG2 : Hid (v18.heap[g2]? = some (.cells #[] 40)) := Lib.hid ((hb.block g2 (Array.getElem?_eq_some_iff.1 HG2.out).1).trans HG2.out)
                  have HX8 := Lib.hid (HX8.out.all hb)
                  have HV := HV'
                  clear HV' hb hsc hsr
                  refine wpAnyH_ready (rs := [6]) (by kernel_rfl) (by simp) ?_
                  refine AllReadyH.cons (o := ⟨_, _, _, _, _, _⟩) rfl (fun K hK => ?_) AllReadyH.nil
                  · skip
                    refine op_app0 (.tmp 103) (.tmp 106) rfl g2 rfl HG2.out w16.heap.size A9 q c9 qs rfl HLQ.out (HRQ.out.below HV.out) (by have := HSQ.out; omega) ?_
                    intro A6 c6 v19 hb h6
                    simp only [Act.put, Option.getD_some, Option.getD]
                    refine hK.out _ _ (HV.out.trans (hb.mono HV.out.size)) (fun _ => ?_)
                    clear hK K
                    have HR6 : Hid (R6 v19 g2 v18.heap.size A6 q c6 qs) := Lib.hid (h6.elim (fun h => Or.inl ⟨h.1, h.2.2.1, h.2.2.2, by rw [h.2.1]; exact HG2.out⟩) (fun h => Or.inr h))
                    have HR1 : Hid (Rg.Rs KR v19 v18.heap.size A1 _) := Lib.hid (HS1.out.2.2.2.2.below hb)
                    have HB6 : Hid (v18.heap.size ≤ v19.heap.size) := Lib.hid hb.size
                    have HW6 : Hid (w16.heap.size ≤ v18.heap.size) := Lib.hid HV.out.size
                    have HS1 := Lib.hid (HS1.out.all hb)
                    have HX8 := Lib.hid (HX8.out.all hb)
                    have HV := Lib.hid (HV.out.trans (hb.mono HV.out.size))
                    clear hb h6 HG2
                    generalize v18.heap.size = b6 at HR6 HR1 HB6 HW6
                    refine wpAnyH_ready (rs := [9]) (by kernel_rfl) (by simp) ?_
                    refine AllReadyH.cons (o := ⟨_, _, _, _, _, _⟩) rfl (fun K hK => ?_) AllReadyH.nil
                    have HR8 := Lib.hid (rs_rx HX8.out)
                    rcases HR6.out with ⟨hq0, hA6, hc6, hg2⟩ | ho6
                    · have hqz : q = 0 := by rw [HLQ.out, hq0]; rfl
                      subst hA6 hc6 hq0 hqz
                      refine op_app0 (.tmp 107) (.tmp 109) rfl g2 rfl hg2 v19.heap.size (some ⟨g8, 0, none⟩) 1 1 [rp] rfl rfl HR8.out (by omega) ?_
                      intro A10 c10 w10 hb h10
                      simp only [Act.put, List.setIfInBounds_toArray, List.set_cons_zero, List.set_cons_succ]
                      have HS10 : Hid (Sr w10 A10 1 c10 ([] ++ [rp])) := Lib.hid (h10.elim (fun h => by simp at h) (fun h => ⟨rfl, h.cap, by omega, HUQ.out, h.rs⟩))
                      have HS1 := Lib.hid (HS1.out.all hb)
                      have HV := Lib.hid (HV.out.trans (hb.mono HV.out.size))
                      clear hb h10
                      refine hK.out _ _ HV.out (fun _ => ?_)
                      clear hK K
                      refine wpAnyH_ready (rs := [10]) (by kernel_rfl) (by simp) ?_
                      refine AllReadyH.cons (o := ⟨_, _, _, _, _, _⟩) rfl (fun K hK => ?_) AllReadyH.nil
                      go_simp
                      refine (same_r A1 n1 c1 _ _ _ _ _ _ HS1.out HS10.out).mono ?_
                      rw [HSM.out]
                      rintro e w17 ⟨rfl, hb⟩
                      have HV := Lib.hid (HV.out.trans (hb.mono HV.out.size)); clear hb
                      refine hK.out _ _ HV.out (fun _ => ?_)
                      clear hK K
                      refine take_in (i := 11) (oi := ⟨_, _, _, _, _, _⟩) (v := ?_) rfl (by kernel_rfl) (by kernel_rfl) (by kernel_rfl) (fun _ _ _ h => h) (by rfl) ?_ HV.out ?_
                      rotate_left
                      · intro W hW; go_simp; with_reducible rfl
                      simp only [Act.put, List.setIfInBounds_toArray, List.set_cons_zero, List.set_cons_succ]
                      refine wpAnyH_done (by kernel_rfl) ?_ _
                      go_wp2
                      try go_ret
                      exact HPO.out _ (HB.out.trans (HV.out.mono HB.out.size))
                    · refine Rg.op_appG (K := KR) (.tmp 107) (.tmp 109) rfl b6 A6 q c6 qs rfl ho6 v19.heap.size (some ⟨g8, 0, none⟩) 1 1 [rp] rfl rfl HR8.out (show (q + 1) * 88 ≤ 140737488355328 by have := HSQ.out; omega) HB6.out ?_
                      intro A10 c10 w10 h10 hb
                      simp only [Act.put, List.setIfInBounds_toArray, List.set_cons_zero, List.set_cons_succ]
                      have HS10 : Hid (Sr w10 A10 (q + 1) c10 (qs ++ [rp])) := Lib.hid ⟨h10.1, h10.cap, by have := HSQ.out; omega, HUQ.out, h10.rs⟩
                      have HS1 : Hid (Sr w10 A1 n1 c1 _) := Lib.hid ⟨HS1.out.1, HS1.out.2.1, HS1.out.2.2.1, HS1.out.2.2.2.1, (HR1.out.below hb).more (Nat.le_trans HB6.out hb.size)⟩
                      have HV := Lib.hid (HV.out.trans (hb.mono HW6.out))
                      clear hb h10
                      refine hK.out _ _ HV.out (fun _ => ?_)
                      clear hK K
                      refine wpAnyH_ready (rs := [10]) (by kernel_rfl) (by simp) ?_
                      refine AllReadyH.cons (o := ⟨_, _, _, _, _, _⟩) rfl (fun K hK => ?_) AllReadyH.nil
                      go_simp
                      refine (same_r A1 n1 c1 _ _ _ _ _ _ HS1.out HS10.out).mono ?_
                      rw [HSM.out]
                      rintro e w17 ⟨rfl, hb⟩
                      have HV := Lib.hid (HV.out.trans (hb.mono HV.out.size)); clear hb
                      refine hK.out _ _ HV.out (fun _ => ?_)
                      clear hK K
                      refine take_in (i := 11) (oi := ⟨_, _, _, _, _, _⟩) (v := ?_) rfl (by kernel_rfl) (by kernel_rfl) (by kernel_rfl) (fun _ _ _ h => h) (by rfl) ?_ HV.out ?_
                      rotate_left
                      · intro W hW; go_simp; with_reducible rfl
                      simp only [Act.put, List.setIfInBounds_toArray, List.set_cons_zero, List.set_cons_succ]
                      refine wpAnyH_done (by kernel_rfl) ?_ _
                      go_wp2
                      try go_ret
                      exact HPO.out _ (HB.out.trans (HV.out.mono HB.out.size))
            · skip
              go_simp
              refine hK.out _ _ (bal HV.out (Nat.le_refl _) _) (fun _ => ?_)
              clear hK K
              have HX8 : Hid (Rx (v1.alloc (.cells #[.int .i64 rp.kind, .int .i64 rp.va, .int .i64 rp.vd, .int .i64 rp.cn, .int .i64 rp.ca, .int .i64 rp.cd, .int .i64 rp.e.key, .int .i64 rp.e.num, .int .i64 rp.e.node, .float .f64 rp.e.val, .int .i64 rp.n] 40)) v1.heap.size rp) := Lib.hid (hat _ _ _ rfl)
              have HV := Lib.hid (bal HV.out (Nat.le_refl _) (.cells #[.int .i64 rp.kind, .int .i64 rp.va, .int .i64 rp.vd, .int .i64 rp.cn, .int .i64 rp.ca, .int .i64 rp.cd, .int .i64 rp.e.key, .int .i64 rp.e.num, .int .i64 rp.e.node, .float .f64 rp.e.val, .int .i64 rp.n] 40))
              generalize v1.alloc (.cells #[.int .i64 rp.kind, .int .i64 rp.va, .int .i64 rp.vd, .int .i64 rp.cn, .int .i64 rp.ca, .int .i64 rp.cd, .int .i64 rp.e.key, .int .i64 rp.e.num, .int .i64 rp.e.node, .float .f64 rp.e.val, .int .i64 rp.n] 40) = v20 at HV HX8 ⊢
              generalize v1.heap.size = g8 at HX8 ⊢
              refine wpAnyH_ready (rs := [1, 2]) (by kernel_rfl) (by simp) ?_
              refine AllReadyH.cons (o := ⟨_, _, _, _, _, _⟩) rfl (fun K hK => ?_) (AllReadyH.cons (o := ⟨_, _, _, _, _, _⟩) rfl (fun K hK => ?_) AllReadyH.nil)
              · skip
                go_simp
                refine (read_c _ _ F5 _ (HD.out.all HV.out)).mono ?_
                rintro e v21 ⟨A1, n1, c1, rs1, m1, rfl, hsc, hsr, hb⟩
                obtain ⟨rfl, _⟩ := scans_one hsc HSL.out
                have HS1 := Lib.hid hsr
                have HV' := Lib.hid (HV.out.trans (hb.mono HV.out.size))
                refine hK.out _ _ HV'.out (fun _ => ?_)
                clear hK K
                have HX8 := Lib.hid (HX8.out.all hb)
                have HV := HV'
                clear HV' hb hsc hsr
                refine wpAnyH_ready (rs := [2]) (by kernel_rfl) (by simp) ?_
                refine AllReadyH.cons (o := ⟨_, _, _, _, _, _⟩) rfl (fun K hK => ?_) AllReadyH.nil
                · skip
                  go_simp
                  refine hK.out _ _ (bal HV.out (Nat.le_refl _) _) (fun _ => ?_)
                  clear hK K
                  have HG2 : Hid ((v21.alloc (.cells #[] 40)).heap[v21.heap.size]? = some (.cells #[] 40)) := Lib.hid (hat _ _ _ rfl)
                  have HS1 := Lib.hid (HS1.out.all (bal (Below.refl v21.heap.size v21) (Nat.le_refl _) (.cells #[] 40)))
                  have HX8 := Lib.hid (HX8.out.all (bal (Below.refl v21.heap.size v21) (Nat.le_refl _) (.cells #[] 40)))
                  have HV := Lib.hid (bal HV.out (Nat.le_refl _) (.cells #[] 40))
                  generalize v21.alloc (.cells #[] 40) = v22 at HG2 HS1 HV HX8 ⊢
                  generalize v21.heap.size = g2 at HG2 ⊢
                  refine wpAnyH_ready (rs := [6]) (by kernel_rfl) (by simp) ?_
                  refine AllReadyH.cons (o := ⟨_, _, _, _, _, _⟩) rfl (fun K hK => ?_) AllReadyH.nil
                  · skip
                    refine op_app0 (.tmp 103) (.tmp 106) rfl g2 rfl HG2.out w16.heap.size A9 q c9 qs rfl HLQ.out (HRQ.out.below HV.out) (by have := HSQ.out; omega) ?_
                    intro A6 c6 v23 hb h6
                    simp only [Act.put, Option.getD_some, Option.getD]
                    refine hK.out _ _ (HV.out.trans (hb.mono HV.out.size)) (fun _ => ?_)
                    clear hK K
                    have HR6 : Hid (R6 v23 g2 v22.heap.size A6 q c6 qs) := Lib.hid (h6.elim (fun h => Or.inl ⟨h.1, h.2.2.1, h.2.2.2, by rw [h.2.1]; exact HG2.out⟩) (fun h => Or.inr h))
                    have HR1 : Hid (Rg.Rs KR v23 v22.heap.size A1 _) := Lib.hid (HS1.out.2.2.2.2.below hb)
                    have HB6 : Hid (v22.heap.size ≤ v23.heap.size) := Lib.hid hb.size
                    have HW6 : Hid (w16.heap.size ≤ v22.heap.size) := Lib.hid HV.out.size
                    have HS1 := Lib.hid (HS1.out.all hb)
                    have HX8 := Lib.hid (HX8.out.all hb)
                    have HV := Lib.hid (HV.out.trans (hb.mono HV.out.size))
                    clear hb h6 HG2
                    generalize v22.heap.size = b6 at HR6 HR1 HB6 HW6
                    refine wpAnyH_ready (rs := [9]) (by kernel_rfl) (by simp) ?_
                    refine AllReadyH.cons (o := ⟨_, _, _, _, _, _⟩) rfl (fun K hK => ?_) AllReadyH.nil
                    have HR8 := Lib.hid (rs_rx HX8.out)
                    rcases HR6.out with ⟨hq0, hA6, hc6, hg2⟩ | ho6
                    · have hqz : q = 0 := by rw [HLQ.out, hq0]; rfl
                      subst hA6 hc6 hq0 hqz
                      refine op_app0 (.tmp 107) (.tmp 109) rfl g2 rfl hg2 v23.heap.size (some ⟨g8, 0, none⟩) 1 1 [rp] rfl rfl HR8.out (by omega) ?_
                      intro A10 c10 w10 hb h10
                      simp only [Act.put, List.setIfInBounds_toArray, List.set_cons_zero, List.set_cons_succ]
                      have HS10 : Hid (Sr w10 A10 1 c10 ([] ++ [rp])) := Lib.hid (h10.elim (fun h => by simp at h) (fun h => ⟨rfl, h.cap, by omega, HUQ.out, h.rs⟩))
                      have HS1 := Lib.hid (HS1.out.all hb)
                      have HV := Lib.hid (HV.out.trans (hb.mono HV.out.size))
                      clear hb h10
                      refine hK.out _ _ HV.out (fun _ => ?_)
                      clear hK K
                      refine wpAnyH_ready (rs := [10]) (by kernel_rfl) (by simp) ?_
                      refine AllReadyH.cons (o := ⟨_, _, _, _, _, _⟩) rfl (fun K hK => ?_) AllReadyH.nil
                      go_simp
                      refine (same_r A1 n1 c1 _ _ _ _ _ _ HS1.out HS10.out).mono ?_
                      rw [HSM.out]
                      rintro e w17 ⟨rfl, hb⟩
                      have HV := Lib.hid (HV.out.trans (hb.mono HV.out.size)); clear hb
                      refine hK.out _ _ HV.out (fun _ => ?_)
                      clear hK K
                      refine take_in (i := 11) (oi := ⟨_, _, _, _, _, _⟩) (v := ?_) rfl (by kernel_rfl) (by kernel_rfl) (by kernel_rfl) (fun _ _ _ h => h) (by rfl) ?_ HV.out ?_
                      rotate_left
                      · intro W hW; go_simp; with_reducible rfl
                      simp only [Act.put, List.setIfInBounds_toArray, List.set_cons_zero, List.set_cons_succ]
                      refine wpAnyH_done (by kernel_rfl) ?_ _
                      go_wp2
                      try go_ret
                      exact HPO.out _ (HB.out.trans (HV.out.mono HB.out.size))
                    · refine Rg.op_appG (K := KR) (.tmp 107) (.tmp 109) rfl b6 A6 q c6 qs rfl ho6 v23.heap.size (some ⟨g8, 0, none⟩) 1 1 [rp] rfl rfl HR8.out (show (q + 1) * 88 ≤ 140737488355328 by have := HSQ.out; omega) HB6.out ?_
                      intro A10 c10 w10 h10 hb
                      simp only [Act.put, List.setIfInBounds_toArray, List.set_cons_zero, List.set_cons_succ]
                      have HS10 : Hid (Sr w10 A10 (q + 1) c10 (qs ++ [rp])) := Lib.hid ⟨h10.1, h10.cap, by have := HSQ.out; omega, HUQ.out, h10.rs⟩
                      have HS1 : Hid (Sr w10 A1 n1 c1 _) := Lib.hid ⟨HS1.out.1, HS1.out.2.1, HS1.out.2.2.1, HS1.out.2.2.2.1, (HR1.out.below hb).more (Nat.le_trans HB6.out hb.size)⟩
                      have HV := Lib.hid (HV.out.trans (hb.mono HW6.out))
                      clear hb h10
                      refine hK.out _ _ HV.out (fun _ => ?_)
                      clear hK K
                      refine wpAnyH_ready (rs := [10]) (by kernel_rfl) (by simp) ?_
                      refine AllReadyH.cons (o := ⟨_, _, _, _, _, _⟩) rfl (fun K hK => ?_) AllReadyH.nil
                      go_simp
                      refine (same_r A1 n1 c1 _ _ _ _ _ _ HS1.out HS10.out).mono ?_
                      rw [HSM.out]
                      rintro e w17 ⟨rfl, hb⟩
                      have HV := Lib.hid (HV.out.trans (hb.mono HV.out.size)); clear hb
                      refine hK.out _ _ HV.out (fun _ => ?_)
                      clear hK K
                      refine take_in (i := 11) (oi := ⟨_, _, _, _, _, _⟩) (v := ?_) rfl (by kernel_rfl) (by kernel_rfl) (by kernel_rfl) (fun _ _ _ h => h) (by rfl) ?_ HV.out ?_
                      rotate_left
                      · intro W hW; go_simp; with_reducible rfl
                      simp only [Act.put, List.setIfInBounds_toArray, List.set_cons_zero, List.set_cons_succ]
                      refine wpAnyH_done (by kernel_rfl) ?_ _
                      go_wp2
                      try go_ret
                      exact HPO.out _ (HB.out.trans (HV.out.mono HB.out.size))
              · skip
                go_simp
                refine hK.out _ _ (bal HV.out (Nat.le_refl _) _) (fun _ => ?_)
                clear hK K
                have HG2 : Hid ((v20.alloc (.cells #[] 40)).heap[v20.heap.size]? = some (.cells #[] 40)) := Lib.hid (hat _ _ _ rfl)
                have HX8 := Lib.hid (HX8.out.all (bal (Below.refl v20.heap.size v20) (Nat.le_refl _) (.cells #[] 40)))
                have HV := Lib.hid (bal HV.out (Nat.le_refl _) (.cells #[] 40))
                generalize v20.alloc (.cells #[] 40) = v24 at HG2 HV HX8 ⊢
                generalize v20.heap.size = g2 at HG2 ⊢
                refine wpAnyH_ready (rs := [1]) (by kernel_rfl) (by simp) ?_
                refine AllReadyH.cons (o := ⟨_, _, _, _, _, _⟩) rfl (fun K hK => ?_) AllReadyH.nil
                · skip
                  go_simp
                  refine (read_c _ _ F5 _ (HD.out.all HV.out)).mono ?_
                  rintro e v25 ⟨A1, n1, c1, rs1, m1, rfl, hsc, hsr, hb⟩
                  obtain ⟨rfl, _⟩ := scans_one hsc HSL.out
                  have HS1 := Lib.hid hsr
                  have HV' := Lib.hid (HV.out.trans (hb.mono HV.out.size))
                  refine hK.out _ _ HV'.out (fun _ => ?_)
                  clear hK K
                  have HG2 : Hid (v25.heap[g2]? = some (.cells #[] 40)) := Lib.hid ((hb.block g2 (Array.getElem?_eq_some_iff.1 HG2.out).1).trans HG2.out)
                  have HX8 := Lib.hid (HX8.out.all hb)
                  have HV := HV'
                  clear HV' hb hsc hsr
                  refine wpAnyH_ready (rs := [6]) (by kernel_rfl) (by simp) ?_
                  refine AllReadyH.cons (o := ⟨_, _, _, _, _, _⟩) rfl (fun K hK => ?_) AllReadyH.nil
                  · skip
                    refine op_app0 (.tmp 103) (.tmp 106) rfl g2 rfl HG2.out w16.heap.size A9 q c9 qs rfl HLQ.out (HRQ.out.below HV.out) (by have := HSQ.out; omega) ?_
                    intro A6 c6 v26 hb h6
                    simp only [Act.put, Option.getD_some, Option.getD]
                    refine hK.out _ _ (HV.out.trans (hb.mono HV.out.size)) (fun _ => ?_)
                    clear hK K
                    have HR6 : Hid (R6 v26 g2 v25.heap.size A6 q c6 qs) := Lib.hid (h6.elim (fun h => Or.inl ⟨h.1, h.2.2.1, h.2.2.2, by rw [h.2.1]; exact HG2.out⟩) (fun h => Or.inr h))
                    have HR1 : Hid (Rg.Rs KR v26 v25.heap.size A1 _) := Lib.hid (HS1.out.2.2.2.2.below hb)
                    have HB6 : Hid (v25.heap.size ≤ v26.heap.size) := Lib.hid hb.size
                    have HW6 : Hid (w16.heap.size ≤ v25.heap.size) := Lib.hid HV.out.size
                    have HS1 := Lib.hid (HS1.out.all hb)
                    have HX8 := Lib.hid (HX8.out.all hb)
                    have HV := Lib.hid (HV.out.trans (hb.mono HV.out.size))
                    clear hb h6 HG2
                    generalize v25.heap.size = b6 at HR6 HR1 HB6 HW6
                    refine wpAnyH_ready (rs := [9]) (by kernel_rfl) (by simp) ?_
                    refine AllReadyH.cons (o := ⟨_, _, _, _, _, _⟩) rfl (fun K hK => ?_) AllReadyH.nil
                    have HR8 := Lib.hid (rs_rx HX8.out)
                    rcases HR6.out with ⟨hq0, hA6, hc6, hg2⟩ | ho6
                    · have hqz : q = 0 := by rw [HLQ.out, hq0]; rfl
                      subst hA6 hc6 hq0 hqz
                      refine op_app0 (.tmp 107) (.tmp 109) rfl g2 rfl hg2 v26.heap.size (some ⟨g8, 0, none⟩) 1 1 [rp] rfl rfl HR8.out (by omega) ?_
                      intro A10 c10 w10 hb h10
                      simp only [Act.put, List.setIfInBounds_toArray, List.set_cons_zero, List.set_cons_succ]
                      have HS10 : Hid (Sr w10 A10 1 c10 ([] ++ [rp])) := Lib.hid (h10.elim (fun h => by simp at h) (fun h => ⟨rfl, h.cap, by omega, HUQ.out, h.rs⟩))
                      have HS1 := Lib.hid (HS1.out.all hb)
                      have HV := Lib.hid (HV.out.trans (hb.mono HV.out.size))
                      clear hb h10
                      refine hK.out _ _ HV.out (fun _ => ?_)
                      clear hK K
                      refine wpAnyH_ready (rs := [10]) (by kernel_rfl) (by simp) ?_
                      refine AllReadyH.cons (o := ⟨_, _, _, _, _, _⟩) rfl (fun K hK => ?_) AllReadyH.nil
                      go_simp
                      refine (same_r A1 n1 c1 _ _ _ _ _ _ HS1.out HS10.out).mono ?_
                      rw [HSM.out]
                      rintro e w17 ⟨rfl, hb⟩
                      have HV := Lib.hid (HV.out.trans (hb.mono HV.out.size)); clear hb
                      refine hK.out _ _ HV.out (fun _ => ?_)
                      clear hK K
                      refine take_in (i := 11) (oi := ⟨_, _, _, _, _, _⟩) (v := ?_) rfl (by kernel_rfl) (by kernel_rfl) (by kernel_rfl) (fun _ _ _ h => h) (by rfl) ?_ HV.out ?_
                      rotate_left
                      · intro W hW; go_simp; with_reducible rfl
                      simp only [Act.put, List.setIfInBounds_toArray, List.set_cons_zero, List.set_cons_succ]
                      refine wpAnyH_done (by kernel_rfl) ?_ _
                      go_wp2
                      try go_ret
                      exact HPO.out _ (HB.out.trans (HV.out.mono HB.out.size))
                    · refine Rg.op_appG (K := KR) (.tmp 107) (.tmp 109) rfl b6 A6 q c6 qs rfl ho6 v26.heap.size (some ⟨g8, 0, none⟩) 1 1 [rp] rfl rfl HR8.out (show (q + 1) * 88 ≤ 140737488355328 by have := HSQ.out; omega) HB6.out ?_
                      intro A10 c10 w10 h10 hb
                      simp only [Act.put, List.setIfInBounds_toArray, List.set_cons_zero, List.set_cons_succ]
                      have HS10 : Hid (Sr w10 A10 (q + 1) c10 (qs ++ [rp])) := Lib.hid ⟨h10.1, h10.cap, by have := HSQ.out; omega, HUQ.out, h10.rs⟩
                      have HS1 : Hid (Sr w10 A1 n1 c1 _) := Lib.hid ⟨HS1.out.1, HS1.out.2.1, HS1.out.2.2.1, HS1.out.2.2.2.1, (HR1.out.below hb).more (Nat.le_trans HB6.out hb.size)⟩
                      have HV := Lib.hid (HV.out.trans (hb.mono HW6.out))
                      clear hb h10
                      refine hK.out _ _ HV.out (fun _ => ?_)
                      clear hK K
                      refine wpAnyH_ready (rs := [10]) (by kernel_rfl) (by simp) ?_
                      refine AllReadyH.cons (o := ⟨_, _, _, _, _, _⟩) rfl (fun K hK => ?_) AllReadyH.nil
                      go_simp
                      refine (same_r A1 n1 c1 _ _ _ _ _ _ HS1.out HS10.out).mono ?_
                      rw [HSM.out]
                      rintro e w17 ⟨rfl, hb⟩
                      have HV := Lib.hid (HV.out.trans (hb.mono HV.out.size)); clear hb
                      refine hK.out _ _ HV.out (fun _ => ?_)
                      clear hK K
                      refine take_in (i := 11) (oi := ⟨_, _, _, _, _, _⟩) (v := ?_) rfl (by kernel_rfl) (by kernel_rfl) (by kernel_rfl) (fun _ _ _ h => h) (by rfl) ?_ HV.out ?_
                      rotate_left
                      · intro W hW; go_simp; with_reducible rfl
                      simp only [Act.put, List.setIfInBounds_toArray, List.set_cons_zero, List.set_cons_succ]
                      refine wpAnyH_done (by kernel_rfl) ?_ _
                      go_wp2
                      try go_ret
                      exact HPO.out _ (HB.out.trans (HV.out.mono HB.out.size))
theorem walk (w : World) (A : Option Addr) (n c : Nat) (rs : List R) (hs : Sr w A n c rs) (hwf : ∀ r ∈ rs, WfE r.e) (kn : Int) (w1 : (Lit.int .i64 kn).wf = true) (rp : R) (hrp : WfE rp.e) :
    Calls Try.prog 10 #[.slice A n c, .int .i64 kn, rvv rp] w fun e w' => e = .returned (.bool true) ∧ Below w.heap.size w w' := walk' w A n c rs hs hwf kn w1 rp hrp
end Go.Proofs.Ytjcbdnbbdhjoiaa.logCuts

namespace Go.Proofs.Ytjcbdnbbdhjoiaa
open Go.ChangeShapes Go.WideShapes Go.ChangeAt Go.RowKit

theorem logCuts_own : ownKnob Try.prog.godebug = none := by kernel_rfl
theorem logCuts_laid : laidOutB Try.prog = true := by kernel_rfl

set_option maxRecDepth 100000 in
theorem logCuts_lifted (os : Os) (started : os.Started) (H : Type) (enc : TypeId × Value → H) :
    ReturnsInHanded {} Try.checked os 10 .any (Rows.logCutsSpec.pre6 enc Try.prog Try.f10 Rows.logCutsRow.domain false) (Rows.logCutsSpec.post enc Try.prog Try.f10 false true false false) := by
  refine returnsInHanded_of_change_sized (C := Try.checked) logCuts_own started (by kernel_rfl) Try.func10
    (ChangeSpec.witness6 (enc := enc) (C := Try.checked) false ⟨#[], #[.slice none 0 0, .int .i64 0, .agg #[.int .i64 0, .int .i64 0, .int .i64 0, .int .i64 0, .int .i64 0, .int .i64 0, .int .i64 0, .int .i64 0, .int .i64 0, .float .f64 0, .int .i64 0]], []⟩ 8 (by kernel_rfl) (by kernel_rfl) (by kernel_rfl) (by kernel_rfl)) ?_
  intro W base args ds gs before hval0 hW _ hsz0 _
  have hsz : (DataW.weightsEach Try.prog (Try.f10.params.toList ++ Rows.logCutsSpec.plain.varTypes Try.prog) (ds ++ gs)).all (· ≤ reachBytes) = true := hsz0
  have hval : ∀ (j : Nat) t v, Try.f10.params[j]? = some t → args[j]? = some v → Value.okWide Try.prog W .any base t v := hval0
  have hW' := hW
  obtain ⟨p, q, hA0, hV, rfl, hfz, hnd⟩ := hW
  have hA : DataW.TrodAll enc Try.prog W 0 (fun _ => true) true Try.f10.params.toList args.toList ds p := hA0
  rw [Try.params10] at hA hval hsz
  obtain ⟨v0, vs0, d0, ds0, p0, q0, hargs, rfl, rfl, h0, r0⟩ := trodAll_cons hA
  obtain ⟨v1, vs1, d1, ds1, p1, q1, rfl, rfl, rfl, h1, r1⟩ := trodAll_cons r0
  obtain ⟨v2, vs2, d2, ds2, p2, q2, rfl, rfl, rfl, h2, r2⟩ := trodAll_cons r1
  obtain ⟨rfl, rfl, rfl⟩ := trodAll_nil r2
  obtain rfl : args = #[v0, v1, v2] := by cases args; simp_all
  obtain ⟨rfl, rfl⟩ := trodVars_none hV
  clear hA0 hval0
  simp only [List.append_nil] at hW'
  have hk0 := h0
  have hlt0 : ∀ x ∈ p0, x.block < W.heap.size := (fun x hx => by have := hW'.lt x (by simp [hx]); simpa using this)
  obtain ⟨A0, n0, c0, l0, rfl, hn0, hc0, hr0, hw0, hd0⟩ := open_recs Try.underlying22 (hval 0 22 v0 rfl rfl) h0 hlt0
  have hb0 := sized_places hsz (j := 0) rfl rfl Try.underlying22 hd0
  rw [show Try.prog.bytesOf 40 = 88 from by kernel_rfl] at hb0
  obtain ⟨a1, rfl, rfl, rfl, w1⟩ := open_int Try.underlying3 (hval 1 3 v1 rfl rfl) h1
  have hk2 := h2
  have hlt2 : ∀ x ∈ p2, x.block < W.heap.size := (fun x hx => by have := hW'.lt x (by simp [hx]); simpa using this)
  obtain ⟨re2, rfl, hw2⟩ := open_rec (hval 2 40 v2 rfl rfl) h2
  refine (logCuts.walk W A0 n0 c0 l0 ⟨hn0, hc0, by omega, fun r hr => (hw0 r hr).2.2.2, hr0⟩ hw0 a1 w1 re2 hw2).mono fun e W' ⟨he, hb⟩ => ?_
  subst he
  exact ⟨_, rfl, _, _, _, [], _, [], hW', trodAll_cons_mk (shut_bool Try.underlying4 _) trodAll_mk0, (trodAll_cons_mk (Below.trod logCuts_laid (by kernel_rfl) (of_decide_eq_true (by kernel_rfl)) hk0 hb hlt0) (trodAll_cons_mk (shut_int Try.underlying3 w1) (trodAll_cons_mk (Below.trod logCuts_laid (by kernel_rfl) (of_decide_eq_true (by kernel_rfl)) hk2 hb hlt2) trodAll_mk0))), rfl, hb.frame _, fun h => by cases h⟩

theorem logCuts_proved : Rows.LogCutsSaid :=
  OpenClaim.holds_of_wide 10 Try.f10 rfl rfl rfl rfl rfl rfl rfl ⟨rfl, rfl, rfl, rfl, rfl⟩ rfl rfl rfl rfl rfl (by kernel_rfl) Try.func10 (by kernel_rfl)
    (of_decide_eq_true (by kernel_rfl)) (by unfold Func.isWrapper; first | (rw [if_pos (by decide +kernel)]; kernel_rfl) | (rw [if_neg (by decide +kernel)]; exact ⟨rfl, rfl⟩))
    (fun os started H enc _ => logCuts_lifted os started H enc)
#print axioms logCuts_proved
end Go.Proofs.Ytjcbdnbbdhjoiaa
