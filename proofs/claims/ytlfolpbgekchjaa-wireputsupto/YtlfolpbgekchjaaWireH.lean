/- What Get, Gets, Text and Cut of package wire answer. -/
import Derived.Test.YtlfolpbgekchjaaWireG
import Derived.Deep.RegionWith
namespace Go.Proofs.Ytlfolpbgekchjaa
open Go.RowKit
open Wire

/-- the slice A holds the numbers ns, in a row of the call's own -/
def OwnN (w : World) (base : Nat) (A : Option Addr) (n c : Nat) (ns : List Nat) : Prop := n = ns.length ∧ w.ownsRow base 22 1 (.slice A n c) n (ns.map N64)
theorem OwnN.rd {w : World} {base : Nat} {A : Option Addr} {n c : Nat} {ns : List Nat} (h : OwnN w base A n c ns) : Rd w w.heap.size A (ns.map N64) := Rd.of_own h.2
theorem OwnN.below {w w' : World} {base B : Nat} {A : Option Addr} {n c : Nat} {ns : List Nat} (h : OwnN w base A n c ns) (hb : Below B w w') (hB : w.heap.size ≤ B) : OwnN w' base A n c ns := ⟨h.1, own_below h.2 hb hB⟩
theorem OwnN.base {w : World} {base base' : Nat} {A : Option Addr} {n c : Nat} {ns : List Nat} (h : OwnN w base A n c ns) (hB : base' ≤ base) : OwnN w base' A n c ns := ⟨h.1, own_base h.2 hB⟩
theorem OwnN.alloc {w : World} {base : Nat} {A : Option Addr} {n c : Nat} {ns : List Nat} (h : OwnN w base A n c ns) (o : Obj) : OwnN (w.alloc o) base A n c ns := ⟨h.1, h.2.alloc o⟩
theorem ownN_new (w : World) (base : Nat) (ns : List Nat) (hb : base ≤ w.heap.size) (hm : ns.length ≤ maxLen) : OwnN (w.alloc (.cells (ns.map N64).toArray 22)) base (some ⟨w.heap.size, 0, none⟩) ns.length ns.length ns :=
  ⟨rfl, by have := own_lit w base 22 (ns.map N64) hb (by simpa using hm); simpa using this⟩
theorem rd_num (w : World) (v : Int) (x : Nat) (h : v = (x : Int)) : Rd (w.alloc (.cells #[.int .u64 v] 22)) (w.heap.size + 1) (some ⟨w.heap.size, 0, none⟩) ([x].map N64) := by
  subst h
  intro _
  refine ⟨_, _, rfl, by omega, fun j u hu => ?_⟩
  rw [cell_of_row _ _ _ _ _ _ (heap_alloc_new w _)]
  simpa [N64] using hu
theorem wp_app64 {w : World} {ops : Array Oper} {rest : List Oper} {o : Oper} {a : Act} {Q : Exit → Act → World → Prop} (hgd : o.guard = none) (s x : Operand)
    (ho : o.op = .call { callee := .builtin .append, args := #[s, x], argTypes := #[28, 28] })
    (base : Nat) (A0 : Option Addr) (n0 c0 : Nat) (ns0 : List Nat) (hs : a.eval s = .slice A0 n0 c0) (hown : OwnN w base A0 n0 c0 ns0)
    (B : Nat) (A : Option Addr) (m c : Nat) (news : List Nat) (hx : a.eval x = .slice A m c) (hm : m = news.length) (hr : Rd w B A (news.map N64))
    (hb : (n0 + m) * 8 ≤ big) (hbase : base ≤ w.heap.size)
    (h : ∀ A' c' w', OwnN w' base A' (n0 + m) c' (ns0 ++ news) → Below base w w' → w.grownBy w' (Value.slice A0 n0 c0).ownBlock → wpList Try.prog ops Q rest (a.put o.dst (.slice A' (n0 + m) c')) w') : wpList Try.prog ops Q (o :: rest) a w := by
  obtain ⟨i0, hi, hz0, hz1, hz2⟩ := info_parts info64
  refine wp_app hgd s x 28 ho base 22 i0 (.int .u64 0) 8 Try.underlying28 hi hz0 hz1 hz2 rfl (.slice A0 n0 c0) n0 (ns0.map N64) hs hown.2 B A m c (news.map N64) hx (by simpa using hm) hr (N64_one news)
    (by unfold big at hb; unfold maxLen; omega) (by unfold big at hb; omega) hbase fun A' c' w' h1 h2 h3 => h A' c' w' ⟨?_, ?_⟩ h2 h3
  · rw [List.length_append, hown.1, hm]
  · rw [List.map_append]; exact h1

theorem Rd.below_back {w w' : World} {B B' : Nat} {A : Option Addr} {xs : List Value} (h : Rd w' B A xs) (hb : Below B' w w') (hB : B ≤ B') : Rd w B A xs := h.keep fun _ hp => ((hb.mono hB).cell hp).symm
theorem below_drewN (B : Nat) (w : World) (k : Nat) : Below B w (w.drewN k) := ⟨rfl, rfl, rfl, Nat.le_refl _, fun _ _ => rfl⟩

/-- what Get answers -/
def RetGet (w : World) (o : Option (Nat × List UInt8)) (e : Ending) (w' : World) : Prop :=
  Below w.heap.size w w' ∧ match o with
  | none => e = .returned (.tuple #[.int .u64 0, .slice none 0 0, .int .i64 21])
  | some (v, r) => ∃ A n c, e = .returned (.tuple #[.int .u64 v, .slice A n c, .int .i64 0]) ∧ Own w' w.heap.size A n c r
/-- what Gets answers -/
def RetGets (w : World) (o : Option (List Nat × List UInt8)) (e : Ending) (w' : World) : Prop :=
  Below w.heap.size w w' ∧ match o with
  | none => e = .returned (.tuple #[.slice none 0 0, .slice none 0 0, .int .i64 21])
  | some (ns, r) => ∃ A n c A2 n2 c2, e = .returned (.tuple #[.slice A n c, .slice A2 n2 c2, .int .i64 0]) ∧ OwnN w' w.heap.size A n c ns ∧ Own w' w.heap.size A2 n2 c2 r
/-- what Text answers -/
def RetText (w : World) (b t : List UInt8) (e : Ending) (w' : World) : Prop :=
  Below w.heap.size w w' ∧ ((4000 < t.length ∧ e = .returned (.tuple #[.slice none 0 0, .int .i64 21])) ∨
    (t.length ≤ 4000 ∧ ∃ A n c, e = .returned (.tuple #[.slice A n c, .int .i64 0]) ∧ Own w' w.heap.size A n c (textF b t)))
/-- what Cut answers -/
def RetCut (w : World) (o : Option (List UInt8 × List UInt8)) (e : Ending) (w' : World) : Prop :=
  Below w.heap.size w w' ∧ match o with
  | none => e = .returned (.tuple #[.slice none 0 0, .slice none 0 0, .int .i64 21])
  | some (t, r) => ∃ A n c A2 n2 c2, e = .returned (.tuple #[.slice A n c, .slice A2 n2 c2, .int .i64 0]) ∧ Own w' w.heap.size A n c t ∧ Own w' w.heap.size A2 n2 c2 r

theorem get_c (A : Option Addr) (n c : Nat) (bs : List UInt8) (hn : n = bs.length) (hc : n ≤ c) (B : Nat) (w : World) (hr : Rd w B A (bs.map B8)) (hB : B ≤ w.heap.size) (hl : n ≤ big) :
    Calls Try.prog 10 #[.slice A n c] w (RetGet w (takeF bs)) := by
  have HN := Lib.hid hn; clear hn
  have HR := Lib.hid hr; clear hr
  cases ht : takeF bs with
  | none =>
    have HT := Lib.hid ht; clear ht
    go_enter Try.func10, Try.ntmps10
    go_wp2_with (go_at_call 22; refine (take_no _ _ _ bs HN.out hc B _ HR.out HT.out).mono ?_; rintro e w1 ⟨rfl, k, rfl⟩)
    go_ret3
    exact ⟨below_drewN _ _ _, rfl⟩
  | some x =>
    obtain ⟨v, r⟩ := x
    have hrl := takeF_len ht
    have HT := Lib.hid ht; clear ht
    have hrb : r.length ≤ big := by have := HN.out; omega
    go_enter Try.func10, Try.ntmps10
    go_wp2_with (first
      | (go_at_call 22; refine (take_yes _ _ _ bs HN.out hc B v r _ HR.out HT.out).mono ?_; rintro e w1 ⟨A1, n1, c1, rfl, hn1, hc1, hr1, k, rfl⟩; have HN1 := Lib.hid hn1; clear hn1; have HR1 := Lib.hid hr1; clear hr1)
      | (go_at_call 23; refine (clone_c _ _ _ r HN1.out B _ (HR1.out.drewN k) hB (by rw [HN1.out]; exact hrb)).mono ?_; rintro e w2 ⟨A2, n2, c2, rfl, ho2, hb2⟩; have HO2 := Lib.hid ho2; clear ho2; have HB2 := Lib.hid hb2; clear hb2))
    go_ret3
    exact ⟨(below_drewN _ _ k).trans HB2.out, A2, n2, c2, rfl, HO2.out⟩

/-- so many numbers, many any number -/
def getsI (many : Int) (bs : List UInt8) : Option (List Nat × List UInt8) := if many < 0 ∨ 100 < many then none else getsF many.toNat bs

theorem getsF_step (m k : Nat) (bs rs : List UInt8) (ns : List Nat) (v : Nat) (r : List UInt8) (hk : k < m) (ht : takeF rs = some (v, r))
    (h : getsF m bs = (getsF (m - k) rs).map fun y => (ns ++ y.1, y.2)) : getsF m bs = (getsF (m - (k + 1)) r).map fun y => ((ns ++ [v]) ++ y.1, y.2) := by
  rw [h, show m - k = (m - (k + 1)) + 1 by omega, getsF, ht]
  simp only [Option.bind_some, Option.map_map]
  congr 1
  funext y
  simp

theorem gets_out (A : Option Addr) (n c : Nat) (many : Int) (bs : List UInt8) (w : World) (h : many < 0 ∨ 100 < many) :
    Calls Try.prog 17 #[.slice A n c, .int .i64 many] w (RetGets w (getsI many bs)) := by
  have hg : getsI many bs = none := if_pos h
  rw [hg]
  clear hg
  rcases h with h | h
  · go_enter Try.func17, Try.ntmps17
    go_wp2
    go_ret3
    exact ⟨Below.refl _ _, rfl⟩
  · have h' : ¬ many < 0 := by omega
    go_enter Try.func17, Try.ntmps17
    go_wp2
    go_ret3
    exact ⟨Below.refl _ _, rfl⟩

theorem gets_in (A : Option Addr) (n c m : Nat) (bs : List UInt8) (hn : n = bs.length) (hc : n ≤ c) (B : Nat) (w : World) (hr : Rd w B A (bs.map B8)) (hB : B ≤ w.heap.size) (hl : n ≤ big) (hm : m ≤ 100) :
    Calls Try.prog 17 #[.slice A n c, .int .i64 m] w (RetGets w (getsF m bs)) := by
  obtain ⟨i0, hi, hz0, hz1, hz2⟩ := info_parts info64
  have hr' := Lib.hid hr; clear hr
  have HN := Lib.hid hn; clear hn
  have hmz : ¬ (m : Int) < 0 := by omega
  have hmh : ¬ 100 < (m : Int) := by omega
  go_enter Try.func17, Try.ntmps17
  go_wp2_with (at_make; refine wpList_make_own _ rfl _ _ 28 rfl w.heap.size 22 i0 (.int .u64 0) 1 Try.underlying28 hi hz0 hz1 .i64 .i64 _ m rfl rfl rfl (by rw [hz2]; omega) (by unfold maxLen; omega) (Nat.le_refl _) ?_; intro w0 hown0 hgrow0)
  have HO0 : Hid (OwnN w0 w.heap.size (some ⟨w.heap.size, 0, none⟩) 0 m []) := ⟨rfl, hown0⟩
  have HB0 := Lib.hid ((Below.refl w.heap.size w).grown hgrow0 (Nat.le_refl _) (by simp))
  clear hown0 hgrow0 hi hz0 hz1 hz2
  go_loopw [7, 8, 22] (fun v s i wr => ∃ (A1 : Option Addr) (n1 c1 : Nat) (ns : List Nat) (A2 : Option Addr) (n2 c2 : Nat) (rs : List UInt8) (k : Nat), v = .slice A1 n1 c1 ∧ s = .slice A2 n2 c2 ∧ i = .int .i64 k ∧ k ≤ m ∧ n1 = k ∧ n2 = rs.length ∧ n2 ≤ c2 ∧ n2 ≤ n ∧
      OwnN wr w.heap.size A1 n1 c1 ns ∧ Rd w B A2 (rs.map B8) ∧ (getsF m bs = (getsF (m - k) rs).map fun y => (ns ++ y.1, y.2)) ∧ Below w.heap.size w wr)
    (fun _ _ i _ => m - (intOf i).toNat)
  case atStart => exact ⟨_, 0, m, [], A, n, c, bs, 0, rfl, rfl, rfl, Nat.zero_le _, rfl, HN.out, hc, Nat.le_refl _, HO0.out, hr'.out, by simp, HB0.out⟩
  case round =>
    obtain ⟨A1, n1, c1, ns, A2, n2, c2, rs, k, rfl, rfl, rfl, hk, hn1, hn2, hc2, hn2n, ho, hr2, hg, hb⟩ := hrel
    subst hn1
    have HO := Lib.hid ho; clear ho
    have HR2 := Lib.hid hr2; clear hr2
    have HG := Lib.hid hg; clear hg
    have hbw := hb.size
    have HB := Lib.hid hb; clear hb
    have HN2 := Lib.hid hn2; clear hn2
    by_cases hlt : n1 < m
    · cases ht : takeF rs with
      | none =>
        have hgn : getsF m bs = none := by rw [HG.out, show m - n1 = (m - n1 - 1) + 1 by omega, getsF, ht]; rfl
        have HGN := Lib.hid hgn; clear hgn
        have HT := Lib.hid ht; clear ht
        go_wp2_with (go_at_call 22; refine (take_no _ _ _ rs HN2.out hc2 B _ (HR2.out.below (HB.out.mono hB)) HT.out).mono ?_; rintro e w1 ⟨rfl, q, rfl⟩)
        go_ret3
        rw [HGN.out]
        exact ⟨HB.out.trans (below_drewN _ _ _), rfl⟩
      | some x =>
        obtain ⟨v, r⟩ := x
        have hgs := getsF_step m n1 bs rs ns v r hlt ht HG.out
        have HGS := Lib.hid hgs; clear hgs
        have hrl := takeF_len ht
        have hr3 : r.length ≤ n := by have := HN2.out; omega
        clear hrl
        have HT := Lib.hid ht; clear ht
        have h8 : (n1 + 1) * 8 ≤ big := by unfold big; omega
        go_wp2_with (first
          | (go_at_call 22; refine (take_yes _ _ _ rs HN2.out hc2 B v r _ (HR2.out.below (HB.out.mono hB)) HT.out).mono ?_; rintro e w1 ⟨A3, n3, c3, rfl, hn3, hc3, hr4, q, rfl⟩; have HN3 := Lib.hid hn3; clear hn3; have HR4 := Lib.hid hr4; clear hr4)
          | (at_builtin; refine wp_app64 rfl (.tmp 32) (.tmp 34) rfl w.heap.size A1 n1 c1 ns rfl (OwnN.alloc (w := wr.drewN q) HO.out _) _ _ 1 1 [v] rfl rfl (rd_num _ _ _ rfl) (by omega) (by simp; omega) ?_; intro A4 c4 w4 ho4 hb4 _))
        have hb5 := ((HB.out.trans (below_drewN _ _ q)).alloc (show _ ≤ (wr.drewN q).heap.size from hbw) _).trans hb4
        exact ⟨⟨A4, n1 + 1, c4, ns ++ [v], A3, n3, c3, r, n1 + 1, rfl, rfl, by go_num, by omega, rfl, HN3.out, hc3, by have := HN3.out; omega, ho4, HR4.out.below_back HB.out hB, HGS.out, hb5⟩, by simp [intOf]; omega⟩
    · go_wp2_with (go_at_call 23; refine (clone_c _ _ _ rs HN2.out B _ (HR2.out.below (HB.out.mono hB)) (by omega) (by omega)).mono ?_; rintro e w2 ⟨A5, n5, c5, rfl, ho5, hb5⟩; have HO5 := Lib.hid ho5; clear ho5; have HB5 := Lib.hid hb5; clear hb5)
      go_ret3
      obtain rfl : n1 = m := by omega
      have hg := HG.out
      rw [Nat.sub_self] at hg
      simp only [getsF, Option.map_some, List.append_nil] at hg
      rw [hg]
      exact ⟨HB.out.trans (HB5.out.mono hbw), A1, n1, c1, A5, n5, c5, rfl, HO.out.below HB5.out (Nat.le_refl _), HO5.out.base hbw⟩

theorem gets_c (A : Option Addr) (n c : Nat) (many : Int) (bs : List UInt8) (hn : n = bs.length) (hc : n ≤ c) (B : Nat) (w : World) (hr : Rd w B A (bs.map B8)) (hB : B ≤ w.heap.size) (hl : n ≤ big) :
    Calls Try.prog 17 #[.slice A n c, .int .i64 many] w (RetGets w (getsI many bs)) := by
  by_cases h : many < 0 ∨ 100 < many
  · exact gets_out A n c many bs w h
  · have hg : getsI many bs = getsF many.toNat bs := if_neg h
    obtain ⟨m, rfl⟩ := Int.eq_ofNat_of_zero_le (show 0 ≤ many by omega)
    rw [hg]
    exact gets_in A n c m bs hn hc B w hr hB hl (by omega)

theorem text_aid {w w1 : World} {o : Obj} {B n m : Nat} {A1 : Option Addr} {n1 c1 : Nat} {bs : List UInt8} (_hB : B ≤ w.heap.size) (hn : n = bs.length) (ho1 : Own w1 (w.alloc o).heap.size A1 n1 c1 (bs ++ [m].flatMap form)) (hb1 : Below (w.alloc o).heap.size (w.alloc o) w1) :
    Hid (Own w1 w.heap.size A1 n1 c1 (bs ++ form m)) ∧ Hid (Below w.heap.size w w1) ∧ n1 ≤ n + 9 ∧ w.heap.size ≤ w1.heap.size := by
  have h1 : w.heap.size ≤ (w.alloc o).heap.size := by simp
  have e := ho1.1
  have h8 := sz_le m
  refine ⟨?_, ((Below.refl _ _).alloc (Nat.le_refl _) _).trans (hb1.mono h1), ?_, ?_⟩
  · show Own w1 w.heap.size A1 n1 c1 (bs ++ form m)
    have := ho1.base h1
    simpa using this
  · simp [form_len] at e; omega
  · have := hb1.size; simp at this; omega

theorem text_c (A : Option Addr) (n c : Nat) (bs : List UInt8) (hn : n = bs.length) (A2 : Option Addr) (m c2 : Nat) (ts : List UInt8) (hm : m = ts.length) (B : Nat) (w : World)
    (hr : Rd w B A (bs.map B8)) (hr2 : Rd w B A2 (ts.map B8)) (hB : B ≤ w.heap.size) (hl : n + 4009 ≤ big) :
    Calls Try.prog 13 #[.slice A n c, .slice A2 m c2] w (RetText w bs ts) := by
  have HN := Lib.hid hn; clear hn
  have HM := Lib.hid hm
  have HR := Lib.hid hr; clear hr
  have HR2 := Lib.hid hr2; clear hr2
  by_cases h4 : 4000 < m
  · have h4' : 4000 < ts.length := by omega
    clear hm
    go_enter Try.func13, Try.ntmps13
    go_wp2
    go_ret2
    exact ⟨Below.refl _ _, Or.inl ⟨h4', rfl⟩⟩
  · have h4' : ts.length ≤ 4000 := by omega
    have hw : W64 m := by unfold W64; omega
    have HW := Lib.hid hw; clear hw hm
    go_enter Try.func13, Try.ntmps13
    go_wp2_with (first
      | (go_at_call 12; refine (put_c _ _ _ bs HN.out _ _ _ [m] rfl (by intro x hx; simp at hx; subst hx; exact HW.out) (w.heap.size + 1) _ ((HR.out.below ((Below.refl _ _).alloc hB _)).more (by omega)) (rd_num _ _ _ (by simp)) (by simp) (by simp; omega)).mono ?_; rintro e w1 ⟨A1, n1, c1, rfl, ho1, hb1⟩; obtain ⟨HO1, HB1, hn1, hsz⟩ := text_aid hB HN.out ho1 hb1)
      | (at_builtin; refine wp_app8 rfl (.tmp 14) (.tmp 15) rfl w.heap.size A1 n1 c1 _ rfl HO1.out B A2 m c2 ts rfl HM.out (HR2.out.below (HB1.out.mono hB)) (by omega) (by omega) ?_; intro A3 c3 w3 ho3 hb3))
    go_ret2
    exact ⟨HB1.out.trans hb3, Or.inr ⟨h4', A3, _, c3, rfl, by rw [HM.out] at ho3; exact ho3.len (by rw [HM.out])⟩⟩

theorem cut_c (A : Option Addr) (n c : Nat) (bs : List UInt8) (hn : n = bs.length) (hc : n ≤ c) (B : Nat) (w : World) (hr : Rd w B A (bs.map B8)) (hB : B ≤ w.heap.size) (hl : n ≤ big) :
    Calls Try.prog 20 #[.slice A n c] w (RetCut w (cutF bs)) := by
  have HN := Lib.hid hn; clear hn
  have HR := Lib.hid hr; clear hr
  cases ht : takeF bs with
  | none =>
    have hcut : cutF bs = none := by unfold cutF; rw [ht]
    rw [hcut]
    clear hcut
    have HT := Lib.hid ht; clear ht
    go_enter Try.func20, Try.ntmps20
    go_wp2_with (go_at_call 22; refine (take_no _ _ _ bs HN.out hc B _ HR.out HT.out).mono ?_; rintro e w1 ⟨rfl, k, rfl⟩)
    go_ret3
    exact ⟨below_drewN _ _ _, rfl⟩
  | some x =>
    obtain ⟨v, r⟩ := x
    have hcut : cutF bs = if 4000 < v ∨ r.length < v then none else some (r.take v, r.drop v) := by unfold cutF; rw [ht]
    rw [hcut]
    clear hcut
    have hrl := takeF_len ht
    have hrb : r.length ≤ 140737488355328 := by have := HN.out; unfold big at hl; omega
    have HT := Lib.hid ht; clear ht hrl
    by_cases h4 : 4000 < v
    · rw [if_pos (Or.inl h4)]
      go_enter Try.func20, Try.ntmps20
      go_wp2_with (go_at_call 22; refine (take_yes _ _ _ bs HN.out hc B v r _ HR.out HT.out).mono ?_; rintro e w1 ⟨A1, n1, c1, rfl, hn1, hc1, hr1, k, rfl⟩; have HN1 := Lib.hid hn1; clear hn1; have HR1 := Lib.hid hr1; clear hr1)
      go_ret3
      exact ⟨below_drewN _ _ _, rfl⟩
    · by_cases h5 : r.length < v
      · rw [if_pos (Or.inr h5)]
        go_enter Try.func20, Try.ntmps20
        go_wp2_with fail
        refine (take_yes _ _ _ bs HN.out hc B v r _ HR.out HT.out).mono ?_
        rintro e w1 ⟨A1, n1, c1, rfl, hn1, hc1, hr1, k, rfl⟩
        have hn1b : n1 ≤ 140737488355328 := by rw [hn1]; exact hrb
        have hn1v : n1 < v := by rw [hn1]; exact h5
        have HN1 := Lib.hid hn1; clear hn1
        have HR1 := Lib.hid hr1; clear hr1
        go_wp2
        go_ret3
        exact ⟨below_drewN _ _ _, rfl⟩
      · rw [if_neg (by omega)]
        go_enter Try.func20, Try.ntmps20
        go_wp2_with fail
        refine (take_yes _ _ _ bs HN.out hc B v r _ HR.out HT.out).mono ?_
        rintro e w1 ⟨A1, n1, c1, rfl, hn1, hc1, hr1, k, rfl⟩
        have hn1b : n1 ≤ 140737488355328 := by rw [hn1]; exact hrb
        have hn1v : v ≤ n1 := by rw [hn1]; omega
        have HN1 := Lib.hid hn1; clear hn1
        have HR1 := Lib.hid hr1; clear hr1
        go_wp2
        obtain ⟨A2, hs2, hr2⟩ := run_upto Try.underlying23 size8 A1 n1 c1 v (v : Int) .u64 rfl (by omega)
        have HR2 : Hid (Rd w B A2 ((r.take v).map B8)) := by rw [List.map_take]; exact hr2 w B _ (HR1.out.take v)
        clear hr2
        obtain ⟨A3, hs3, hr3⟩ := run_from Try.underlying23 size8 A1 n1 c1 v (v : Int) .u64 rfl hn1v hc1
        have HR3 : Hid (Rd w B A3 ((r.drop v).map B8)) := by rw [List.map_drop]; exact hr3 w B _ (by have := HN1.out; simp; omega) HR1.out
        clear hr3
        have HL2 : Hid (v = (r.take v).length) := by show _ = _; rw [List.length_take, ← HN1.out]; omega
        have HL3 : Hid (n1 - v = (r.drop v).length) := by show _ = _; rw [List.length_drop, ← HN1.out]
        have hv : v ≤ big := by unfold big; omega
        have hv' : n1 - v ≤ big := by unfold big; omega
        have hb0 : ∀ q, Below B w (w.drewN q) := fun q => below_drewN _ _ _
        have HB0 := Lib.hid hb0; clear hb0
        go_region_with (first
          | (go_at_call_of 23 A2; refine (clone_c A2 _ _ (r.take v) HL2.out B _ ?_ ?_ hv).mono ?_; (first | exact HR2.out.below (HB0.out _) | exact HR2.out.below ((HB0.out _).trans (HB6.out.mono hB))); (first | exact hB | exact Nat.le_trans hB HB6.out.size); rintro e w5 ⟨A5, n5, c5, rfl, ho5, hb5⟩; have HO5 := Lib.hid ho5; clear ho5; have HB5 := Lib.hid hb5; clear hb5)
          | (go_at_call_of 23 A3; refine (clone_c A3 _ _ (r.drop v) HL3.out B _ ?_ ?_ hv').mono ?_; (first | exact HR3.out.below (HB0.out _) | exact HR3.out.below ((HB0.out _).trans (HB5.out.mono hB))); (first | exact hB | exact Nat.le_trans hB HB5.out.size); rintro e w6 ⟨A6, n6, c6, rfl, ho6, hb6⟩; have HO6 := Lib.hid ho6; clear ho6; have HB6 := Lib.hid hb6; clear hb6))
        all_goals go_wp2
        all_goals go_ret3
        all_goals exact ⟨((below_drewN _ _ _).trans HB5.out).trans (HB6.out.mono HB5.out.size), A5, n5, c5, A6, n6, c6, rfl, HO5.out.below HB6.out (Nat.le_refl _), HO6.out.base HB5.out.size⟩
end Go.Proofs.Ytlfolpbgekchjaa
