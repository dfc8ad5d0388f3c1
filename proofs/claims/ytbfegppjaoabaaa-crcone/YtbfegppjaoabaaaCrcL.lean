/- What bits.Len32 answers: a contract by a walk; its table is looked up by a law. -/
import Derived.Test.YtbfegppjaoabaaaCrcC
import Derived.Laws.MathBits
import Derived.Deep.DeepCutAuto
namespace Go.Proofs.Ytbfegppjaoabaaa
open Go.RowKit

/-- one operation that only yields -/
theorem wp_val {P : Program} {w : World} {ops : Array Oper} {rest : List Oper} {o : Oper} {a : Act} {Q : Exit → Act → World → Prop} (hgd : o.guard = none) (v : Value) (hv : (execOp a.eval o).run P w = .ok (.value v) w)
    (h : wpList P ops Q rest (a.put o.dst v) w) : wpList P ops Q (o :: rest) a w := by
  refine wpList_plain hgd fun K hK => ?_
  unfold Oper.wp
  rw [hv]
  exact hK _ _ h

theorem wp_tab {w : World} {ops : Array Oper} {rest : List Oper} {o : Oper} {a : Act} {Q : Exit → Act → World → Prop} (hgd : o.guard = none) (T : ByteArray) (x : Operand) (ho : o.op = .index 9 (.const (.string T)) x) (z : Nat) (hz : z < 256) (hx : a.eval x = .int .u8 (z : Int))
    (hT : ∀ i : Fin 256, (T.data.toList[i.val]?).map UInt8.toNat = some (Go.bitLen i.val)) (h : wpList Try.prog ops Q rest (a.put o.dst (.int .u8 (Go.bitLen z : Int))) w) : wpList Try.prog ops Q (o :: rest) a w := by
  refine wp_val hgd _ ?_ h
  have h1 := hT ⟨z, hz⟩
  have h2 : z < T.size := by
    rcases Nat.lt_or_ge z T.data.toList.length with h2 | h2
    · exact h2
    · rw [List.getElem?_eq_none h2] at h1; cases h1
  have h3 : (T[z]'h2).toNat = Go.bitLen z := by
    rw [List.getElem?_eq_getElem (show z < T.data.toList.length from h2)] at h1
    have h5 : (T.data[z]'h2).toNat = Go.bitLen z := by simpa using h1
    exact h5
  have h4 := run_index_string (P := Try.prog) w 9 T .u8 (z : Int) Try.underlying9
  rw [dif_pos ⟨by omega, by omega⟩] at h4
  unfold execOp
  have hc : a.eval (.const (.string T)) = .string T := rfl
  simp only [ho, hx, hc, Sem.run_bind, h4, Result.andThen_ok, Sem.run_pure]
  rw [← h3]
  rfl

set_option maxRecDepth 100000 in
theorem len_c (m : Nat) (hm : m < 2 ^ 32) (w : World) : Calls Try.prog 21 #[.int .u32 (m : Int)] w fun e w' => e = .returned (.int .i64 (Go.bitLen m : Int)) ∧ w = w' := by
  go_enter Try.func21, Try.ntmps21
  go_upto_if 4 with (fail)
  rename_i Q' K hK
  have hK' : ∀ (y j : Nat) (v0 v3 v4 v5 v6 : Value), v0 = .int .u32 (y : Int) → y < 65536 → j ≤ 16 → (y = m ∧ j = 0 ∨ y = m / 65536 ∧ 65536 ≤ m ∧ j = 16) → K { tmps := #[v0, undef, .int .i64 (j : Int), v3, v4, v5, v6, undef, undef, undef, undef, undef, undef, undef, undef, undef, undef, undef, undef], defers := [] } w := by
    intro y j v0 v3 v4 v5 v6 hv0 hy hj hyj
    subst hv0
    refine hK _ _ ?_
    clear hK
    have hb : Go.bitLen m = j + Go.bitLen y := by
      rcases hyj with ⟨rfl, rfl⟩ | ⟨rfl, h, rfl⟩
      · omega
      · have := bitLen_shift m 16 (by omega)
        simpa using this
    have HYJ := Lib.hid hb
    clear hyj hb
    go_upto_if 8 with (fail)
    rename_i K2 hK2
    have hK2' : ∀ (z i : Nat) (v8 u9 u10 u11 u12 : Value), z < 256 → i ≤ 24 → Go.bitLen m = i + Go.bitLen z → K2 { tmps := #[.int .u32 (z : Int), undef, .int .i64 (i : Int), v3, v4, v5, v6, .int .u32 (y : Int), v8, u9, u10, u11, u12, undef, undef, undef, undef, undef, undef], defers := [] } w := by
      intro z i v8 u9 u10 u11 u12 hz hi hzi
      refine hK2 _ _ ?_
      clear hK2
      go_upto_region 7 with (fail)
      refine wp_region_list ?_
      refine wp_val rfl (.int .i64 (i : Int)) rfl ?_
      refine wp_val rfl (.int .u32 (z : Int)) rfl ?_
      refine wp_val rfl (.int .u8 (z : Int)) ?_ ?_
      · go_simp
        exact IntWalk.u8_in _ (by omega)
      refine wp_tab rfl _ (.tmp 15) rfl z hz rfl (by decide +kernel) ?_
      have hb8 := bitLen_le8 z hz
      generalize Go.bitLen z = q at hzi hb8 ⊢
      simp only [Act.put, List.setIfInBounds_toArray, List.set_cons_zero, List.set_cons_succ]
      refine wp_val rfl (.int .i64 (q : Int)) ?_ ?_
      · go_simp
        exact IntWalk.i64_in _ (by omega)
      refine wp_val rfl (.int .i64 ((i : Int) + (q : Int))) ?_ ?_
      · go_simp
        exact IntWalk.i64_in _ (by omega)
      refine wp_val rfl (.int .i64 ((i : Int) + (q : Int))) rfl ?_
      refine wpList_nil ?_
      simp only [Act.put, List.setIfInBounds_toArray, List.set_cons_zero, List.set_cons_succ]
      go_wp2
      go_ret
      exact ⟨ret_int (by rw [hzi]; omega), rfl⟩
    clear hK2
    have HK2 := Lib.hid hK2'
    clear hK2'
    clear_value Q'
    by_cases h1 : (256 : Int) ≤ (y : Int)
    · go_wp2
      have h8 : Go.bitLen y = 8 + Go.bitLen (y / 256) := by
        have := bitLen_shift y 8 (by omega)
        simpa using this
      refine HK2.out (y / 256) (j + 8) _ _ _ _ _ ?_ ?_ ?_
      · omega
      · omega
      · rw [HYJ.out, h8]
        omega
    · go_wp2
      refine HK2.out y j _ _ _ _ _ ?_ ?_ ?_
      · omega
      · omega
      · exact HYJ.out
  clear hK
  have HK := Lib.hid hK'
  clear hK'
  clear_value Q'
  by_cases h1 : (65536 : Int) ≤ (m : Int)
  · have H1 := Lib.hid h1
    have HM := Lib.hid hm
    rw [decide_eq_true h1]
    clear h1 hm
    go_wp2
    have h1 := H1.out
    have hm := HM.out
    refine HK.out (m / 65536) 16 _ _ _ _ _ ?_ ?_ ?_ ?_
    · exact congrArg (Value.int IntKind.u32) (by omega)
    · omega
    · omega
    · exact Or.inr ⟨rfl, by omega, rfl⟩
  · have H1 := Lib.hid h1
    rw [decide_eq_false h1]
    clear h1
    go_wp2
    have h1 := H1.out
    refine HK.out m 0 _ _ _ _ _ rfl ?_ ?_ ?_
    · omega
    · omega
    · exact Or.inl ⟨rfl, rfl⟩
end Go.Proofs.Ytbfegppjaoabaaa
