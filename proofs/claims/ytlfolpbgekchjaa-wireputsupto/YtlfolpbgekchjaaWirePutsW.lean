/- The walk of WirePuts. -/
import Derived.Test.YtlfolpbgekchjaaWireF
import Derived.Deep.RegionHeld3
import Derived.Deep.DeepCutAuto
namespace Go.Proofs.Ytlfolpbgekchjaa.wirePuts
open Go.RowKit
open Wire

def tE (t : List UInt8) : Int := if 4000 < t.length then 21 else 0
def tR (b t : List UInt8) : List UInt8 := if 4000 < t.length then [] else textF b t
theorem flatT {w : World} {b t : List UInt8} {e : Ending} {w' : World} (h : RetText w b t e w') :
    ∃ A n c, e = .returned (.tuple #[.slice A n c, .int .i64 (tE t)]) ∧ n = (tR b t).length ∧ Rd w' w'.heap.size A ((tR b t).map B8) ∧ Below w.heap.size w w' := by
  obtain ⟨hb, h⟩ := h
  rcases h with ⟨h4, rfl⟩ | ⟨h4, A, n, c, rfl, ho⟩
  · exact ⟨none, 0, 0, by rw [tE, if_pos h4], by rw [tR, if_pos h4]; rfl, by rw [tR, if_pos h4]; exact Rd.nil, hb⟩
  · have hn : ¬ 4000 < t.length := by omega
    exact ⟨A, n, c, by rw [tE, if_neg hn], by rw [tR, if_neg hn]; exact ho.1, by rw [tR, if_neg hn]; exact ho.rd, hb⟩

theorem _root_.Go.Proofs.Ytlfolpbgekchjaa.Rd.bytes {w : World} {B : Nat} {A : Option Addr} (bs : List UInt8) {x : UInt8} (h : Rd w B A ((bs ++ [x]).map B8)) : Rd w B A (bs.map B8) := by
  have := h.take bs.length
  rwa [← List.map_take, List.take_left] at this

theorem wp_copy64 {ops : Array Oper} {rest : List Oper} {o : Oper} {a : Act} {Q : Exit → Act → World → Prop} (hgd : o.guard = none) (s x : Operand)
    (ho : o.op = .call { callee := .builtin .append, args := #[s, x], argTypes := #[28, 28] })
    (w0 : World) (hs : a.eval s = .slice (some ⟨w0.heap.size, 0, none⟩) 0 0)
    (B : Nat) (A : Option Addr) (m c : Nat) (news : List Nat) (hx : a.eval x = .slice A m c) (hm : m = news.length) (hr : Rd w0 B A (news.map N64)) (hB : B ≤ w0.heap.size) (hb : m * 8 ≤ big)
    (h : ∀ A' c' w', OwnN w' w0.heap.size A' m c' news → Below w0.heap.size w0 w' → wpList Try.prog ops Q rest (a.put o.dst (.slice A' m c')) w') : wpList Try.prog ops Q (o :: rest) a (w0.alloc (.cells #[] 22)) := by
  refine wp_app64 hgd s x ho w0.heap.size _ 0 0 [] hs (ownN_new w0 _ [] (Nat.le_refl _) (by simp)) B A m c news hx hm (hr.below ((Below.refl _ _).alloc hB _)) (by omega) (by simp) fun A' c' w' h1 h2 _ => ?_
  rw [Nat.zero_add] at h1 ⊢
  exact h A' c' w' h1 (((Below.refl _ _).alloc (Nat.le_refl _) _).trans h2)

section
variable {P : Program} {ops : Array Oper} {Q : Exit → Act → World → Prop} {md : Region.Mode}
/-- the next operation in the text's order: it yields in every world that meets S -/
theorem take_in {S : World → Prop} {i : Nat} {oi : Oper} {v : Value} {fuel : Nat} {listed : Array Bool} {a : Act} {w : World} (hi : ops[i]? = some oi) (hs : Region.noSelect ops = true) (hf : Region.free md ops listed i = true)
    (hr : (Region.ready md ops listed).contains i = true) (hQ : ∀ c a w, Q (.panic c) (a.put oi.dst v) w → Q (.panic c) a w) (hw : Region.wanted oi (yielded ops a.tmps) = true) (hy : ∀ W, S W → (execOp a.eval oi).run P W = .ok (.value v) W) (hS : S w)
    (h : wpAnyH P md ops Q S fuel (listed.setIfInBounds i true) (a.put oi.dst v) w) : wpAnyH P md ops Q S (fuel + 1) listed a w :=
  wpAnyH_take hi hs hf hr hQ (Or.inl ⟨hw, hy⟩) hS h
/-- where nothing more changes the world -/
theorem switch {S : World → Prop} {w0 : World} (h0 : S w0) : ∀ (fuel : Nat) (listed : Array Bool) (a : Act) (w : World), w = w0 → wpAnyH P md ops Q (fun W => W = w0) fuel listed a w → wpAnyH P md ops Q S fuel listed a w
  | 0, _, _, _, _, h => h
  | fuel + 1, _, _, _, _, h => ⟨h.1, fun i hi => wpOp_mono (fun a' w' h' => ⟨by rw [h'.1]; exact h0, switch h0 fuel _ a' w' h'.1 h'.2⟩) (h.2 i hi)⟩
end

set_option maxRecDepth 100000 in
set_option maxHeartbeats 4000000 in
theorem walk (w : World) (A : Option Addr) (n c : Nat) (bs : List UInt8) (hn : n = bs.length) (_hc : n ≤ c) (hr : Rd w w.heap.size A (bs.map B8)) (_hl : c ≤ 1048576)
    (A1 : Option Addr) (n1 c1 : Nat) (ts : List UInt8) (hn1 : n1 = ts.length) (_hc1 : n1 ≤ c1) (hr1 : Rd w w.heap.size A1 (ts.map B8)) (_hl1 : c1 ≤ 1048576)
    (A2 : Option Addr) (n2 c2 : Nat) (ns : List Nat) (hn2 : n2 = ns.length) (_hc2 : n2 ≤ c2) (hr2 : Rd w w.heap.size A2 (ns.map N64)) (hw : ∀ x ∈ ns, x < 256 ^ 8) (_hl2 : c2 ≤ 1048576) :
    Calls Try.prog 4 #[.slice A n c, .slice A1 n1 c1, .slice A2 n2 c2] w fun e w' => e = .returned (.bool true) ∧ Below w.heap.size w w' := by
  have h47 : n ≤ 1048576 := by omega
  have h471 : n1 ≤ 1048576 := by omega
  have h472 : n2 ≤ 1048576 := by omega
  have hb9 : 40000000 ≤ big := by unfold big; omega
  clear _hc _hl _hc1 _hl1 _hc2 _hl2
  have HN := Lib.hid hn; clear hn
  have HR := Lib.hid hr; clear hr
  have HW : Hid (∀ x ∈ ns, W64 x) := hw
  clear hw
  have HN1 := Lib.hid hn1; clear hn1
  have HR1 := Lib.hid hr1; clear hr1
  have HN2 := Lib.hid hn2; clear hn2
  have HR2 := Lib.hid hr2; clear hr2
  go_enter Try.func4, Try.ntmps4
  go_wp2_with fail
  refine (alive_c _).mono ?_
  rintro e w1 ⟨rfl, hb1⟩
  have hs1 := hb1.size
  have HB1 := Lib.hid hb1; clear hb1
  go_wp2_with (first
    | (at_builtin; refine wp_copy8 rfl (.tmp 15) (.tmp 16) rfl w1 rfl w.heap.size A n c bs rfl HN.out (HR.out.below HB1.out) hs1 (by omega) ?_; intro A3 c3 w3 ho3 hb3; have hs13 := hb3.size; have HO3 := Lib.hid ho3; clear ho3; have HB3 := Lib.hid hb3; clear hb3)
    | (at_builtin; refine wp_app8 rfl (.tmp 17) (.tmp 18) rfl w1.heap.size A3 n c3 bs rfl (HO3.out.alloc _) _ _ 1 1 [7] rfl rfl (rd_one w3 7 7 rfl) (by omega) (by simp; omega) ?_; intro A4 c4 w4 ho4 hb4; have hb4' := (HB3.out.alloc hs13 _).trans hb4; have hc4 := ho4.cap; obtain ⟨A5, hs5, hr5⟩ := run_upto Try.underlying23 size8 A4 (n + 1) c4 n (n : Int) .i64 rfl (by omega); have HR5 := Lib.hid (hr5 w4 _ _ ho4.rd); clear hr5 ho4 hb4; have HB4 := Lib.hid (HB1.out.trans (hb4'.mono hs1)); clear hb4'; have hs4 := HB4.out.size)
    | (at_builtin; refine wp_copy64 rfl (.tmp 24) (.tmp 25) rfl w4 rfl w.heap.size A2 n2 c2 ns rfl HN2.out (HR2.out.below HB4.out) hs4 (by omega) ?_; intro A6 c6 w6 ho6 hb6; have HO6 := Lib.hid ho6; clear ho6; have HB6 := Lib.hid hb6; clear hb6))
  have hs46 := HB6.out.size
  refine (put_c _ _ _ bs HN.out _ _ _ ns HN2.out HW.out w6.heap.size _ (((HR5.out.below HB6.out).more hs46).bytes bs) HO6.out.rd (Nat.le_refl _) (by omega)).mono ?_
  rintro e w7 ⟨A7, n7, c7, rfl, ho7, hb7⟩
  have HO7 := Lib.hid ho7; clear ho7
  have HB7 := Lib.hid (HB6.out.trans (hb7.mono hs46)); clear hb7
  have hs47 := HB7.out.size
  have hs7 := Nat.le_trans hs4 hs47
  have HBW7 := Lib.hid (HB4.out.trans (HB7.out.mono hs4))
  clear HB6 HO6
  go_wp2_with (at_builtin; refine wp_copy8 rfl (.tmp 30) (.tmp 31) rfl w7 rfl w.heap.size A1 n1 c1 ts rfl HN1.out (HR1.out.below HBW7.out) hs7 (by omega) ?_; intro A8 c8 w8 ho8 hb8)
  have HO8 := Lib.hid ho8; clear ho8
  have hs78 := hb8.size
  have HB8 := Lib.hid (HB7.out.trans (hb8.mono hs47))
  have HO7' := Lib.hid (HO7.out.below hb8 (Nat.le_refl _))
  clear hb8
  refine (text_c _ _ _ bs HN.out _ _ _ ts HN1.out w8.heap.size _ (((HR5.out.below HB8.out).more HB8.out.size).bytes bs) HO8.out.rd (Nat.le_refl _) (by omega)).mono ?_
  intro e w9 h9
  obtain ⟨A9, n9, c9, rfl, hn9, hr9, hb9'⟩ := flatT h9
  have HO7'' := Lib.hid (HO7'.out.below hb9' (Nat.le_refl _))
  have HB9 := Lib.hid (HB8.out.trans (hb9'.mono HB8.out.size))
  clear h9 hb9' HO7 HO7' HB8 HO8
  have HN9 := Lib.hid hn9; clear hn9
  have HR9 := Lib.hid hr9; clear hr9
  have HBW9 := Lib.hid (HB4.out.trans (HB9.out.mono hs4))
  have hs9 := HBW9.out.size
  go_upto_region 6 with (fail)
  go_cut [11, 12] (fun s11 s12 wq => ∃ (A10 : Option Addr) (n10 c10 : Nat), s11 = .slice A10 n10 c10 ∧ s12 = .int .i64 (tE ts) ∧ n10 = (tR bs ts).length ∧ Rd wq wq.heap.size A10 ((tR bs ts).map B8) ∧ Below w9.heap.size w9 wq)
  case first =>
    go_wp2_with fail
    refine (text_r _ _ _ bs HN.out _ _ _ ts HN1.out w.heap.size _ (HR.out.below HBW9.out) (HR1.out.below HBW9.out) hs9 (by omega)).mono ?_
    intro e w10 h10
    obtain ⟨A10, n10, c10, rfl, hn10, hr10, hb10⟩ := flatT h10
    have HN10 := Lib.hid hn10; clear hn10 h10
    have HR10 := Lib.hid hr10; clear hr10
    have HB10 := Lib.hid hb10; clear hb10
    go_wp2
    go_meet
    case rel => exact ⟨A10, n10, c10, rfl, rfl, HN10.out, HR10.out, HB10.out⟩
  case rest =>
    obtain ⟨A10, n10, c10, rfl, rfl, hn10, hr10, hb10⟩ := hcut
    have hs910 := hb10.size
    have HR9' := Lib.hid ((HR9.out.below hb10).more hs910)
    have HR7' := Lib.hid ((HO7''.out.rd.below hb10).more hs910)
    have HN7' := Lib.hid HO7''.out.1
    have HB10 := Lib.hid (HB9.out.trans (hb10.mono HB9.out.size))
    clear hb10 HO7'' HR9
    have HN10 := Lib.hid hn10; clear hn10
    have HR10 := Lib.hid hr10; clear hr10
    have HBW10 := Lib.hid (HB4.out.trans (HB10.out.mono hs4))
    have hs10 := HBW10.out.size
    have hs410 := HB10.out.size
    have HR5' := Lib.hid ((HR5.out.below HB10.out).more hs410)
    obtain ⟨A11, hs11, hr11⟩ := run_upto Try.underlying23 size8 A5 n c4 (n + 1) ((n : Int) + 1) .i64 (by omega) hc4
    obtain ⟨b, o, rfl, hbb, hcell⟩ := (hr11 wc _ _ HR5'.out) (by simp)
    have hce : wc.cell? ⟨b, o + n, none⟩ = some (.int .u8 7) := hcell n (B8 7) (by rw [HN.out]; simp)
    clear hr11 hcell
    obtain ⟨S1, hS1⟩ : ∃ S1, S1 = str (bs ++ ns.flatMap form) := ⟨_, rfl⟩
    obtain ⟨S2, hS2⟩ : ∃ S2, S2 = str (tR bs ts) := ⟨_, rfl⟩
    obtain ⟨S3, hS3⟩ : ∃ S3, S3 = str bs := ⟨_, rfl⟩
    have hk : ∀ W', Below wc.heap.size wc W' → (convert 23 9 (.slice A7 n7 c7)).run Try.prog W' = .ok (.string S1) W' ∧ (convert 23 9 (.slice A9 n9 c9)).run Try.prog W' = .ok (.string S2) W' ∧
        (convert 23 9 (.slice A10 n10 c10)).run Try.prog W' = .ok (.string S2) W' ∧ (convert 23 9 (.slice A5 n c4)).run Try.prog W' = .ok (.string S3) W' ∧
        (convert 23 9 (.slice A n c)).run Try.prog W' = .ok (.string S3) W' ∧ W'.cell? ⟨b, o + n, none⟩ = some (.int .u8 7) := by
      intro W' h
      rw [hS1, hS2, hS3]
      exact ⟨str8' c7 (HR7'.out.below h) HN7'.out, str8' c9 (HR9'.out.below h) HN9.out, str8' c10 (HR10.out.below h) HN10.out, str8' c4 ((HR5'.out.below h).bytes bs) HN.out, str8' c ((HR.out.below HBW10.out).below (h.mono hs10)) HN.out, (h.cell hbb).trans hce⟩
    have HK := Lib.hid hk
    have HS1 := Lib.hid hS1
    have h1 := HK.out wc.drew ((Below.refl _ _).drew)
    have hwr : IntKind.i64.wrap ((n : Int) + 1) = (n : Int) + 1 := IntWalk.i64_in _ (by omega)
    have hn0 : (0 : Int) ≤ (n : Int) := by omega
    have hn1' : (n : Int) < (n : Int) + 1 := by omega
    have hbp : n + 9 * n2 ≤ big := by omega
    have key : ∀ W', Below wc.heap.size wc W' → Calls Try.prog 15 #[.slice A n c, .slice A2 n2 c2] W' fun e w12 => ∃ A12 n12 c12, e = .returned (.slice A12 n12 c12) ∧ (convert 23 9 (.slice A12 n12 c12)).run Try.prog w12 = .ok (.string S1) w12 ∧ Below wc.heap.size wc w12 := by
      intro W' h
      refine (put_r _ _ _ bs HN.out _ _ _ ns HN2.out HW.out w.heap.size _ (HR.out.below (HBW10.out.trans (h.mono hs10))) (HR2.out.below (HBW10.out.trans (h.mono hs10))) (HBW10.out.trans (h.mono hs10)).size hbp).mono ?_
      rintro e w12 ⟨A12, n12, c12, rfl, ho12, hb12⟩
      exact ⟨A12, n12, c12, rfl, by rw [HS1.out]; exact str8' c12 ho12.rd ho12.1, h.trans (hb12.mono h.size)⟩
    have KEY := Lib.hid key
    have HBD : Hid (Below wc.heap.size wc wc.drew) := (Below.refl _ _).drew
    clear key hk hS1 hS2 hS3 hce hb9 h47 h471 h472 HB1 HO3 HB3 HB4 HB7 HB9 HB10 HBW7 HBW9 HR5 hs1 hs13 hc4 hs5 hs4 hs46 hs47 hs7 hs78 hs9 hs910 hs410 hbb hbp
    clear HR HN HR1 HN1 HR2 HN2 HW HS1 HR7' HR9' HR10 HR5' HN7' HN9 HN10
    go_wp2_with fail
    refine wp_region_held_drew (S := fun W' => Below wc.heap.size wc W') (by kernel_rfl) HBD.out (fun hHeld => ?_)
    refine take_in (i := 0) (oi := ⟨_, _, _, _, _, _⟩) (v := ?_) rfl (by kernel_rfl) (by kernel_rfl) (by kernel_rfl) (fun _ _ _ h => h) (by rfl) ?_ HBD.out ?_
    rotate_left
    · intro W hW; have hq := HK.out W hW; go_simp; with_reducible rfl
    simp only [Act.put, List.setIfInBounds_toArray, List.set_cons_zero, List.set_cons_succ]
    refine take_in (i := 1) (oi := ⟨_, _, _, _, _, _⟩) (v := ?_) rfl (by kernel_rfl) (by kernel_rfl) (by kernel_rfl) (fun _ _ _ h => h) (by rfl) ?_ HBD.out ?_
    rotate_left
    · intro W hW; have hq := HK.out W hW; go_simp; with_reducible rfl
    simp only [Act.put, List.setIfInBounds_toArray, List.set_cons_zero, List.set_cons_succ]
    refine take_in (i := 2) (oi := ⟨_, _, _, _, _, _⟩) (v := ?_) rfl (by kernel_rfl) (by kernel_rfl) (by kernel_rfl) (fun _ _ _ h => h) (by rfl) ?_ HBD.out ?_
    rotate_left
    · intro W hW; have hq := HK.out W hW; go_simp; with_reducible rfl
    simp only [Act.put, List.setIfInBounds_toArray, List.set_cons_zero, List.set_cons_succ]
    refine take_in (i := 3) (oi := ⟨_, _, _, _, _, _⟩) (v := ?_) rfl (by kernel_rfl) (by kernel_rfl) (by kernel_rfl) (fun _ _ _ h => h) (by rfl) ?_ HBD.out ?_
    rotate_left
    · intro W hW; have hq := HK.out W hW; go_simp; with_reducible rfl
    simp only [Act.put, List.setIfInBounds_toArray, List.set_cons_zero, List.set_cons_succ]
    refine wpAnyH_ready (rs := [4]) (by kernel_rfl) (by simp) ?_
    refine AllReadyH.cons (o := ⟨_, _, _, _, _, _⟩) rfl (fun K hK => ?_) AllReadyH.nil
    go_simp
    refine (KEY.out _ HBD.out).mono ?_
    rintro e w12 ⟨A12, n12, c12, rfl, hcv12, hb12⟩
    have HB12 := Lib.hid hb12; clear hb12 h1
    have h2 := HK.out w12 HB12.out
    refine hK.out _ _ HB12.out (fun _ => ?_)
    clear hK K
    refine switch HB12.out _ _ _ _ rfl ?_
    refine take_in (i := 5) (oi := ⟨_, _, _, _, _, _⟩) (v := ?_) rfl (by kernel_rfl) (by kernel_rfl) (by kernel_rfl) (fun _ _ _ h => h) (by rfl) ?_ rfl ?_
    rotate_left
    · intro W hW; subst hW; go_simp; with_reducible rfl
    simp only [Act.put, List.setIfInBounds_toArray, List.set_cons_zero, List.set_cons_succ]
    refine take_in (i := 6) (oi := ⟨_, _, _, _, _, _⟩) (v := ?_) rfl (by kernel_rfl) (by kernel_rfl) (by kernel_rfl) (fun _ _ _ h => h) (by rfl) ?_ rfl ?_
    rotate_left
    · intro W hW; subst hW; go_simp; with_reducible rfl
    simp only [Act.put, List.setIfInBounds_toArray, List.set_cons_zero, List.set_cons_succ]
    refine take_in (i := 7) (oi := ⟨_, _, _, _, _, _⟩) (v := ?_) rfl (by kernel_rfl) (by kernel_rfl) (by kernel_rfl) (fun _ _ _ h => h) (by rfl) ?_ rfl ?_
    rotate_left
    · intro W hW; subst hW; go_simp; with_reducible rfl
    simp only [Act.put, List.setIfInBounds_toArray, List.set_cons_zero, List.set_cons_succ]
    refine take_in (i := 8) (oi := ⟨_, _, _, _, _, _⟩) (v := ?_) rfl (by kernel_rfl) (by kernel_rfl) (by kernel_rfl) (fun _ _ _ h => h) (by rfl) ?_ rfl ?_
    rotate_left
    · intro W hW; subst hW; go_simp; with_reducible rfl
    simp only [Act.put, List.setIfInBounds_toArray, List.set_cons_zero, List.set_cons_succ]
    refine take_in (i := 9) (oi := ⟨_, _, _, _, _, _⟩) (v := ?_) rfl (by kernel_rfl) (by kernel_rfl) (by kernel_rfl) (fun _ _ _ h => h) (by rfl) ?_ rfl ?_
    rotate_left
    · intro W hW; subst hW; go_simp; with_reducible rfl
    simp only [Act.put, List.setIfInBounds_toArray, List.set_cons_zero, List.set_cons_succ]
    refine take_in (i := 10) (oi := ⟨_, _, _, _, _, _⟩) (v := ?_) rfl (by kernel_rfl) (by kernel_rfl) (by kernel_rfl) (fun _ _ _ h => h) (by rfl) ?_ rfl ?_
    rotate_left
    · intro W hW; subst hW; go_simp; with_reducible rfl
    simp only [Act.put, List.setIfInBounds_toArray, List.set_cons_zero, List.set_cons_succ]
    refine take_in (i := 11) (oi := ⟨_, _, _, _, _, _⟩) (v := ?_) rfl (by kernel_rfl) (by kernel_rfl) (by kernel_rfl) (fun _ _ _ h => h) (by rfl) ?_ rfl ?_
    rotate_left
    · intro W hW; subst hW; go_simp; with_reducible rfl
    simp only [Act.put, List.setIfInBounds_toArray, List.set_cons_zero, List.set_cons_succ]
    refine take_in (i := 12) (oi := ⟨_, _, _, _, _, _⟩) (v := ?_) rfl (by kernel_rfl) (by kernel_rfl) (by kernel_rfl) (fun _ _ _ h => h) (by rfl) ?_ rfl ?_
    rotate_left
    · intro W hW; subst hW; go_simp; with_reducible rfl
    simp only [Act.put, List.setIfInBounds_toArray, List.set_cons_zero, List.set_cons_succ]
    refine take_in (i := 13) (oi := ⟨_, _, _, _, _, _⟩) (v := ?_) rfl (by kernel_rfl) (by kernel_rfl) (by kernel_rfl) (fun _ _ _ h => h) (by rfl) ?_ rfl ?_
    rotate_left
    · intro W hW; subst hW; go_simp; with_reducible rfl
    simp only [Act.put, List.setIfInBounds_toArray, List.set_cons_zero, List.set_cons_succ]
    refine take_in (i := 14) (oi := ⟨_, _, _, _, _, _⟩) (v := ?_) rfl (by kernel_rfl) (by kernel_rfl) (by kernel_rfl) (fun _ _ _ h => h) (by rfl) ?_ rfl ?_
    rotate_left
    · intro W hW; subst hW; go_simp; with_reducible rfl
    simp only [Act.put, List.setIfInBounds_toArray, List.set_cons_zero, List.set_cons_succ]
    refine take_in (i := 15) (oi := ⟨_, _, _, _, _, _⟩) (v := ?_) rfl (by kernel_rfl) (by kernel_rfl) (by kernel_rfl) (fun _ _ _ h => h) (by rfl) ?_ rfl ?_
    rotate_left
    · intro W hW; subst hW; go_simp; with_reducible rfl
    simp only [Act.put, List.setIfInBounds_toArray, List.set_cons_zero, List.set_cons_succ]
    refine take_in (i := 16) (oi := ⟨_, _, _, _, _, _⟩) (v := ?_) rfl (by kernel_rfl) (by kernel_rfl) (by kernel_rfl) (fun _ _ _ h => h) (by rfl) ?_ rfl ?_
    rotate_left
    · intro W hW; subst hW; go_simp; with_reducible rfl
    simp only [Act.put, List.setIfInBounds_toArray, List.set_cons_zero, List.set_cons_succ]
    refine take_in (i := 17) (oi := ⟨_, _, _, _, _, _⟩) (v := ?_) rfl (by kernel_rfl) (by kernel_rfl) (by kernel_rfl) (fun _ _ _ h => h) (by rfl) ?_ rfl ?_
    rotate_left
    · intro W hW; subst hW; go_simp; with_reducible rfl
    simp only [Act.put, List.setIfInBounds_toArray, List.set_cons_zero, List.set_cons_succ]
    refine take_in (i := 18) (oi := ⟨_, _, _, _, _, _⟩) (v := ?_) rfl (by kernel_rfl) (by kernel_rfl) (by kernel_rfl) (fun _ _ _ h => h) (by rfl) ?_ rfl ?_
    rotate_left
    · intro W hW; subst hW; go_simp; with_reducible rfl
    simp only [Act.put, List.setIfInBounds_toArray, List.set_cons_zero, List.set_cons_succ]
    refine take_in (i := 19) (oi := ⟨_, _, _, _, _, _⟩) (v := ?_) rfl (by kernel_rfl) (by kernel_rfl) (by kernel_rfl) (fun _ _ _ h => h) (by rfl) ?_ rfl ?_
    rotate_left
    · intro W hW; subst hW; go_simp; with_reducible rfl
    simp only [Act.put, List.setIfInBounds_toArray, List.set_cons_zero, List.set_cons_succ]
    refine take_in (i := 20) (oi := ⟨_, _, _, _, _, _⟩) (v := ?_) rfl (by kernel_rfl) (by kernel_rfl) (by kernel_rfl) (fun _ _ _ h => h) (by rfl) ?_ rfl ?_
    rotate_left
    · intro W hW; subst hW; go_simp; with_reducible rfl
    simp only [Act.put, List.setIfInBounds_toArray, List.set_cons_zero, List.set_cons_succ]
    refine take_in (i := 21) (oi := ⟨_, _, _, _, _, _⟩) (v := ?_) rfl (by kernel_rfl) (by kernel_rfl) (by kernel_rfl) (fun _ _ _ h => h) (by rfl) ?_ rfl ?_
    rotate_left
    · intro W hW; subst hW; go_simp; with_reducible rfl
    simp only [Act.put, List.setIfInBounds_toArray, List.set_cons_zero, List.set_cons_succ]
    refine take_in (i := 22) (oi := ⟨_, _, _, _, _, _⟩) (v := ?_) rfl (by kernel_rfl) (by kernel_rfl) (by kernel_rfl) (fun _ _ _ h => h) (by rfl) ?_ rfl ?_
    rotate_left
    · intro W hW; subst hW; go_simp; with_reducible rfl
    simp only [Act.put, List.setIfInBounds_toArray, List.set_cons_zero, List.set_cons_succ]
    refine take_in (i := 23) (oi := ⟨_, _, _, _, _, _⟩) (v := ?_) rfl (by kernel_rfl) (by kernel_rfl) (by kernel_rfl) (fun _ _ _ h => h) (by rfl) ?_ rfl ?_
    rotate_left
    · intro W hW; subst hW; go_simp; with_reducible rfl
    simp only [Act.put, List.setIfInBounds_toArray, List.set_cons_zero, List.set_cons_succ]
    refine take_in (i := 24) (oi := ⟨_, _, _, _, _, _⟩) (v := ?_) rfl (by kernel_rfl) (by kernel_rfl) (by kernel_rfl) (fun _ _ _ h => h) (by rfl) ?_ rfl ?_
    rotate_left
    · intro W hW; subst hW; go_simp; with_reducible rfl
    simp only [Act.put, List.setIfInBounds_toArray, List.set_cons_zero, List.set_cons_succ]
    refine take_in (i := 25) (oi := ⟨_, _, _, _, _, _⟩) (v := ?_) rfl (by kernel_rfl) (by kernel_rfl) (by kernel_rfl) (fun _ _ _ h => h) (by rfl) ?_ rfl ?_
    rotate_left
    · intro W hW; subst hW; go_simp; with_reducible rfl
    simp only [Act.put, List.setIfInBounds_toArray, List.set_cons_zero, List.set_cons_succ]
    refine take_in (i := 26) (oi := ⟨_, _, _, _, _, _⟩) (v := ?_) rfl (by kernel_rfl) (by kernel_rfl) (by kernel_rfl) (fun _ _ _ h => h) (by rfl) ?_ rfl ?_
    rotate_left
    · intro W hW; subst hW; go_simp; with_reducible rfl
    simp only [Act.put, List.setIfInBounds_toArray, List.set_cons_zero, List.set_cons_succ]
    refine take_in (i := 27) (oi := ⟨_, _, _, _, _, _⟩) (v := ?_) rfl (by kernel_rfl) (by kernel_rfl) (by kernel_rfl) (fun _ _ _ h => h) (by rfl) ?_ rfl ?_
    rotate_left
    · intro W hW; subst hW; go_simp; with_reducible rfl
    simp only [Act.put, List.setIfInBounds_toArray, List.set_cons_zero, List.set_cons_succ]
    refine take_in (i := 28) (oi := ⟨_, _, _, _, _, _⟩) (v := ?_) rfl (by kernel_rfl) (by kernel_rfl) (by kernel_rfl) (fun _ _ _ h => h) (by rfl) ?_ rfl ?_
    rotate_left
    · intro W hW; subst hW; go_simp; with_reducible rfl
    simp only [Act.put, List.setIfInBounds_toArray, List.set_cons_zero, List.set_cons_succ]
    refine take_in (i := 29) (oi := ⟨_, _, _, _, _, _⟩) (v := ?_) rfl (by kernel_rfl) (by kernel_rfl) (by kernel_rfl) (fun _ _ _ h => h) (by rfl) ?_ rfl ?_
    rotate_left
    · intro W hW; subst hW; go_simp; with_reducible rfl
    simp only [Act.put, List.setIfInBounds_toArray, List.set_cons_zero, List.set_cons_succ]
    refine take_in (i := 30) (oi := ⟨_, _, _, _, _, _⟩) (v := ?_) rfl (by kernel_rfl) (by kernel_rfl) (by kernel_rfl) (fun _ _ _ h => h) (by rfl) ?_ rfl ?_
    rotate_left
    · intro W hW; subst hW; go_simp; with_reducible rfl
    simp only [Act.put, List.setIfInBounds_toArray, List.set_cons_zero, List.set_cons_succ]
    refine take_in (i := 31) (oi := ⟨_, _, _, _, _, _⟩) (v := ?_) rfl (by kernel_rfl) (by kernel_rfl) (by kernel_rfl) (fun _ _ _ h => h) (by rfl) ?_ rfl ?_
    rotate_left
    · intro W hW; subst hW; go_simp; with_reducible rfl
    simp only [Act.put, List.setIfInBounds_toArray, List.set_cons_zero, List.set_cons_succ]
    refine take_in (i := 32) (oi := ⟨_, _, _, _, _, _⟩) (v := ?_) rfl (by kernel_rfl) (by kernel_rfl) (by kernel_rfl) (fun _ _ _ h => h) (by rfl) ?_ rfl ?_
    rotate_left
    · intro W hW; subst hW; go_simp; with_reducible rfl
    simp only [Act.put, List.setIfInBounds_toArray, List.set_cons_zero, List.set_cons_succ]
    refine take_in (i := 33) (oi := ⟨_, _, _, _, _, _⟩) (v := ?_) rfl (by kernel_rfl) (by kernel_rfl) (by kernel_rfl) (fun _ _ _ h => h) (by rfl) ?_ rfl ?_
    rotate_left
    · intro W hW; subst hW; go_simp; with_reducible rfl
    simp only [Act.put, List.setIfInBounds_toArray, List.set_cons_zero, List.set_cons_succ]
    refine take_in (i := 34) (oi := ⟨_, _, _, _, _, _⟩) (v := ?_) rfl (by kernel_rfl) (by kernel_rfl) (by kernel_rfl) (fun _ _ _ h => h) (by rfl) ?_ rfl ?_
    rotate_left
    · intro W hW; subst hW; go_simp; with_reducible rfl
    simp only [Act.put, List.setIfInBounds_toArray, List.set_cons_zero, List.set_cons_succ]
    refine take_in (i := 35) (oi := ⟨_, _, _, _, _, _⟩) (v := ?_) rfl (by kernel_rfl) (by kernel_rfl) (by kernel_rfl) (fun _ _ _ h => h) (by rfl) ?_ rfl ?_
    rotate_left
    · intro W hW; subst hW; go_simp; with_reducible rfl
    simp only [Act.put, List.setIfInBounds_toArray, List.set_cons_zero, List.set_cons_succ]
    refine take_in (i := 36) (oi := ⟨_, _, _, _, _, _⟩) (v := ?_) rfl (by kernel_rfl) (by kernel_rfl) (by kernel_rfl) (fun _ _ _ h => h) (by rfl) ?_ rfl ?_
    rotate_left
    · intro W hW; subst hW; go_simp; with_reducible rfl
    simp only [Act.put, List.setIfInBounds_toArray, List.set_cons_zero, List.set_cons_succ]
    refine take_in (i := 37) (oi := ⟨_, _, _, _, _, _⟩) (v := ?_) rfl (by kernel_rfl) (by kernel_rfl) (by kernel_rfl) (fun _ _ _ h => h) (by rfl) ?_ rfl ?_
    rotate_left
    · intro W hW; subst hW; go_simp; with_reducible rfl
    simp only [Act.put, List.setIfInBounds_toArray, List.set_cons_zero, List.set_cons_succ]
    refine take_in (i := 38) (oi := ⟨_, _, _, _, _, _⟩) (v := ?_) rfl (by kernel_rfl) (by kernel_rfl) (by kernel_rfl) (fun _ _ _ h => h) (by rfl) ?_ rfl ?_
    rotate_left
    · intro W hW; subst hW; go_simp; with_reducible rfl
    simp only [Act.put, List.setIfInBounds_toArray, List.set_cons_zero, List.set_cons_succ]
    refine wpAnyH_done (by kernel_rfl) ?_ _
    go_wp2
    go_ret
    exact ⟨rfl, HBW10.out.trans (HB12.out.mono hs10)⟩
end Go.Proofs.Ytlfolpbgekchjaa.wirePuts
