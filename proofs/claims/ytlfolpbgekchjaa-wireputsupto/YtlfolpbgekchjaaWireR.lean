/- What the document's own functions of layer 2 answer (package ropewayref02). -/
import Derived.Test.YtlfolpbgekchjaaWireH
namespace Go.Proofs.Ytlfolpbgekchjaa
open Go.RowKit
open Wire

theorem own_one (w : World) (base : Nat) (v : Int) (x : UInt8) (h : v = (x.toNat : Int)) (hb : base ≤ w.heap.size) : Own (w.alloc (.cells #[.int .u8 v] 5)) base (some ⟨w.heap.size, 0, none⟩) 1 1 [x] := by
  subst h
  exact own_new w base [x] hb (by simp [maxLen])

theorem byte_mod (k : Nat) : ((k : Int) % 256) = ((UInt8.ofNat (k % 256)).toNat : Int) := by
  rw [UInt8.toNat_ofNat', Nat.mod_mod_of_dvd _ (by decide)]; omega

theorem form_r (n : Nat) (w : World) (hn : W64 n) : Calls Try.prog 25 #[.int .u64 n] w (RetOwn w w.heap.size (form n)) := by
  have HN := Lib.hid hn; clear hn
  have hb8 : 20 ≤ big := by unfold big; omega
  go_enter Try.func25, Try.ntmps25
  go_wp2
  go_loopw [0, 3] (fun u v wr => ∃ (k : Nat) (A : Option Addr) (m c : Nat) (ds : List UInt8), u = .int .u64 k ∧ v = .slice A m c ∧ W64 k ∧ Own wr w.heap.size A m c ds ∧ dg (sz n) n = dg (sz k) k ++ ds ∧ sz n = sz k + m ∧ Below w.heap.size w wr)
    (fun u _ _ => (intOf u).toNat)
  case atStart => exact ⟨n, _, 0, 0, [], rfl, rfl, HN.out, own_new w _ [] (Nat.le_refl _) (by simp), by simp, rfl, (Below.refl _ _).alloc (Nat.le_refl _) _⟩
  case round =>
    obtain ⟨k, A, m, c, ds, rfl, rfl, hk, ho, hd, hs, hb⟩ := hrel
    have h8 := sz_le n
    have hm8 : m ≤ 8 := by omega
    have hbw := hb.size
    have HK := Lib.hid hk; clear hk
    have HO := Lib.hid ho; clear ho
    have HD := Lib.hid hd; clear hd
    have HS := Lib.hid hs; clear hs
    have HB := Lib.hid hb; clear hb h8
    by_cases h0 : 0 < k
    · go_wp2_with (at_builtin; refine wp_app8 rfl (.tmp 10) (.tmp 11) rfl w.heap.size _ 1 1 [UInt8.ofNat (k % 256)] rfl (own_one wr _ _ _ (byte_mod k) hbw) (wr.heap.size) A m c ds rfl HO.out.1 (HO.out.rd.below ((Below.refl _ _).alloc (Nat.le_refl _) _)) (by omega) (by simp; omega) ?_; intro A1 c1 w1 ho1 hb1)
      have hst := sz_step k HK.out (by omega)
      have hd : dg (sz n) n = dg (sz (k / 256)) (k / 256) ++ ([UInt8.ofNat (k % 256)] ++ ds) := by rw [HD.out, hst, dg, List.append_assoc]
      have hs := HS.out
      have hwr : IntKind.u64.wrap ((k : Int) / 256) = ((k / 256 : Nat) : Int) := by
        have := HK.out
        unfold W64 at this
        rw [wrap_u64 _ (by omega) (by omega)]
        omega
      exact ⟨⟨k / 256, A1, 1 + m, c1, _, by rw [hwr], rfl, by have := HK.out; unfold W64 at this ⊢; omega, ho1, hd, by omega, (HB.out.alloc hbw _).trans hb1⟩, by rw [hwr]; simp [intOf]; omega⟩
    · have hk0 : k = 0 := by omega
      have hs := HS.out
      rw [hk0, sz_zero, Nat.zero_add] at hs
      have hd := HD.out
      rw [hk0, sz_zero] at hd
      have HF : Hid ([UInt8.ofNat (sz n)] ++ ds = form n) := by show _ = _; unfold form; rw [hd]; rfl
      have HM : Hid ((m : Int) = ((UInt8.ofNat (sz n)).toNat : Int)) := by show _ = _; rw [sz_byte, hs]
      clear hs hd hk0
      go_wp2_with (at_builtin; refine wp_app8 rfl (.tmp 18) (.tmp 19) rfl w.heap.size _ 1 1 [UInt8.ofNat (sz n)] rfl (own_one wr _ _ _ HM.out hbw) (wr.heap.size) A m c ds rfl HO.out.1 (HO.out.rd.below ((Below.refl _ _).alloc (Nat.le_refl _) _)) (by omega) (by simp; omega) ?_; intro A1 c1 w1 ho1 hb1)
      go_ret
      rw [HF.out] at ho1
      exact ⟨A1, _, c1, rfl, ho1, (HB.out.alloc hbw _).trans hb1⟩

theorem put_r (A : Option Addr) (n c : Nat) (bs : List UInt8) (hn : n = bs.length) (A2 : Option Addr) (m c2 : Nat) (ns : List Nat) (hm : m = ns.length) (hw : ∀ x ∈ ns, W64 x) (B : Nat) (w : World)
    (hr : Rd w B A (bs.map B8)) (hr2 : Rd w B A2 (ns.map N64)) (hB : B ≤ w.heap.size) (hl : n + 9 * m ≤ big) :
    Calls Try.prog 15 #[.slice A n c, .slice A2 m c2] w (RetOwn w w.heap.size (bs ++ ns.flatMap form)) := by
  have HN := Lib.hid hn; clear hn
  have HM := Lib.hid hm
  have HR := Lib.hid hr; clear hr
  have HW := Lib.hid hw; clear hw
  have HR2 := Lib.hid hr2; clear hr2
  have h47 : m ≤ 140737488355328 := by unfold big at hl; omega
  clear hm
  go_enter Try.func15, Try.ntmps15
  go_wp2_with (at_builtin; refine wp_app8 rfl (.tmp 8) (.tmp 9) rfl w.heap.size (some ⟨w.heap.size, 0, none⟩) 0 0 [] rfl (own_new w _ [] (Nat.le_refl _) (by simp)) B A n c bs rfl HN.out (HR.out.below ((Below.refl _ _).alloc hB _)) (by omega) (by simp) ?_; intro A1 c1 w1 ho hb)
  have HO := Lib.hid ho; clear ho
  have HB := Lib.hid (((Below.refl _ _).alloc (Nat.le_refl _) _).trans hb); clear hb
  go_loopw [5, 13] (fun v i wr => ∃ (A' : Option Addr) (n' c' k : Nat), v = .slice A' n' c' ∧ i = .int .i64 k ∧ k ≤ m ∧ n' ≤ n + 9 * k ∧ Own wr w.heap.size A' n' c' (bs ++ (ns.take k).flatMap form) ∧ Below w.heap.size w wr)
    (fun _ i _ => m - (intOf i).toNat)
  case atStart => exact ⟨A1, _, c1, 0, rfl, rfl, Nat.zero_le _, by omega, by simpa using HO.out, HB.out⟩
  case round =>
    obtain ⟨A', n', c', k, rfl, rfl, hk, hn', ho, hb⟩ := hrel
    have HO' := Lib.hid ho; clear ho
    have hbw := hb.size
    have HB' := Lib.hid hb; clear hb
    by_cases hlt : k < m
    · obtain ⟨b, o, rfl, hbB, hcell⟩ := HR2.out (by rw [List.length_map, ← HM.out]; omega)
      have hkl : k < ns.length := by rw [← HM.out]; exact hlt
      have hx : ns[k]? = some ns[k] := List.getElem?_eq_getElem hkl
      have hc0 := hcell k (N64 ns[k]) (by simp [hkl])
      have hwx := HW.out ns[k] (List.getElem_mem hkl)
      generalize ns[k] = x at hx hc0 hwx
      have hcx : wr.cell? ⟨b, o + k, none⟩ = some (.int .u64 (x : Int)) := (HB'.out.cell (by show b < _; omega)).trans hc0
      have HX := Lib.hid hx
      have HWX := Lib.hid hwx
      clear hx hc0 hwx hcell hkl
      go_wp2_with fail
      refine (form_r x _ HWX.out).mono ?_
      rintro e w2 ⟨A2, n2, c2, rfl, ho2, hb2⟩
      have hn2 : n2 ≤ 9 := by have e2 := ho2.1; rw [form_len] at e2; have := sz_le x; omega
      have hb3 : w.heap.size ≤ w2.heap.size := by have := hb2.size; omega
      have HO2 := Lib.hid ho2; clear ho2
      have HB2 := Lib.hid hb2; clear hb2
      go_wp2_with (at_builtin; refine wp_app8 rfl (.tmp 17) (.tmp 19) rfl w.heap.size A' n' c' _ rfl (HO'.out.below HB2.out (Nat.le_refl _)) w2.heap.size A2 n2 c2 (form x) rfl HO2.out.1 HO2.out.rd (by omega) hb3 ?_; intro A3 c3 w3 ho3 hb3)
      go_roundw
      case rel =>
        refine ⟨A3, _, c3, k + 1, rfl, by go_num, by omega, by omega, ?_, (HB'.out.trans (HB2.out.mono hbw)).trans hb3⟩
        rw [take_flat _ _ _ HX.out, ← List.append_assoc]; exact ho3
      case measure => simp [intOf]; omega
    · go_wp2
      go_ret
      obtain rfl : k = m := by omega
      have o := HO'.out
      rw [List.take_of_length_le (by rw [HM.out]; exact Nat.le_refl _)] at o
      exact ⟨A', _, c', rfl, o, HB'.out⟩

theorem text_r (A : Option Addr) (n c : Nat) (bs : List UInt8) (hn : n = bs.length) (A2 : Option Addr) (m c2 : Nat) (ts : List UInt8) (hm : m = ts.length) (B : Nat) (w : World)
    (hr : Rd w B A (bs.map B8)) (hr2 : Rd w B A2 (ts.map B8)) (hB : B ≤ w.heap.size) (hl : n + 4009 ≤ big) :
    Calls Try.prog 14 #[.slice A n c, .slice A2 m c2] w (RetText w bs ts) := by
  have HN := Lib.hid hn; clear hn
  have HM := Lib.hid hm
  have HR := Lib.hid hr; clear hr
  have HR2 := Lib.hid hr2; clear hr2
  by_cases h4 : 4000 < m
  · have h4' : 4000 < ts.length := by omega
    clear hm
    go_enter Try.func14, Try.ntmps14
    go_wp2
    go_ret2
    exact ⟨Below.refl _ _, Or.inl ⟨h4', rfl⟩⟩
  · have h4' : ts.length ≤ 4000 := by omega
    have hw : W64 m := by unfold W64; omega
    have HW := Lib.hid hw; clear hw hm
    go_enter Try.func14, Try.ntmps14
    go_wp2_with (first
      | (go_at_call 15; refine (put_r _ _ _ bs HN.out _ _ _ [m] rfl (by intro x hx; simp at hx; subst hx; exact HW.out) (w.heap.size + 1) _ ((HR.out.below ((Below.refl _ _).alloc hB _)).more (by omega)) (rd_num _ _ _ (by simp)) (by simp) (by simp; omega)).mono ?_; rintro e w1 ⟨A1, n1, c1, rfl, ho1, hb1⟩; obtain ⟨HO1, HB1, hn1, hsz⟩ := text_aid hB HN.out ho1 hb1)
      | (at_builtin; refine wp_app8 rfl (.tmp 14) (.tmp 15) rfl w.heap.size A1 n1 c1 _ rfl HO1.out B A2 m c2 ts rfl HM.out (HR2.out.below (HB1.out.mono hB)) (by omega) (by omega) ?_; intro A3 c3 w3 ho3 hb3))
    go_ret2
    exact ⟨HB1.out.trans hb3, Or.inr ⟨h4', A3, _, c3, rfl, by rw [HM.out] at ho3; exact ho3.len (by rw [HM.out])⟩⟩
end Go.Proofs.Ytlfolpbgekchjaa
