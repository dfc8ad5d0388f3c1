/- Contracts and words on which the claims of this seat stand, part 47: FoSs. -/
import Derived.Test.YtfblnomkafimhaaGreatG46
set_option linter.unusedSimpArgs false
set_option linter.unusedVariables false
namespace Go.Proofs.YtfblnomkafimhaaGreat.Fow
set_option maxRecDepth 20000
open Go.RowKit
open Chg Vw Cl Bk Lg Fo Clw Bkw
open Chgw (hat hbe vw ret_bool ret_i64 Vx)
open Rg (bal)

/-- all views of which something is known, as Seen finds them -/
def seenAll (s : St) : List (Nat × Nat) := s.held :: (s.books.map (·.1) ++ (s.cells.map (·.1) ++ s.ints.map (·.1)))
theorem map_keys {α β : Type} {l : List ((Nat × Nat) × α)} {m : List ((Nat × Nat) × β)} (hl : l.length = m.length) (h : ∀ (i : Nat) a b, l[i]? = some a → m[i]? = some b → a.1 = b.1) : l.map (·.1) = m.map (·.1) := keys_two l m hl h
theorem rs_viewF (w : World) (a d : Nat) (g : Nat) (hg : g = w.heap.size) : Rg.Rs KV (w.alloc (.cells #[.int .i64 (a : Int), .int .i64 (d : Int)] 26)) (w.alloc (.cells #[.int .i64 (a : Int), .int .i64 (d : Int)] 26)).heap.size (some ⟨g, 0, none⟩) [(a, d)] := by
  rw [World.size_alloc]
  rw [← hg]
  exact one_vF w (a, d) g hg
theorem listed_as {P : Program} {md : Region.Mode} {ops : Array Oper} {Q : Exit → Act → World → Prop} {S : World → Prop} {fuel : Nat} {l1 l2 : Array Bool} {a : Act} {w : World} (h : l1 = l2) (k : wpAnyH P md ops Q S fuel l2 a w) : wpAnyH P md ops Q S fuel l1 a w := by rw [h]; exact k
set_option maxHeartbeats 16000000 in
theorem seen_of (s : St) (b c i : Sl) (w : World) (h : Sto w s b c i) (hw : WfS s) (Q R : List (Nat × Nat) → Prop)
    (hsort : ∀ (gz : Nat) (A : Option Addr) (n c' : Nat) (W : World), w.heap.size ≤ gz → Rg.OwnG KV W w.heap.size A n c' (seenAll s) → W.heap[gz]? = some (.cells #[.slice A n c'] 45) → Calls Tryz.prog 61 #[.iface 45 (.slice A n c'), .func (.func 62) #[] #[.pointer (some ⟨gz, 0, none⟩)]] W fun e W' => e = .returned (.tuple #[]) ∧ ∃ L', Q L' ∧ Rg.OwnG KV W' w.heap.size A n c' L' ∧ W'.heap[gz]? = some (.cells #[.slice A n c'] 45) ∧ Below w.heap.size W W')
    (hcomp : ∀ (A : Option Addr) (n c' : Nat) (L' : List (Nat × Nat)) (W : World), Q L' → Rg.OwnG KV W w.heap.size A n c' L' → w.heap.size ≤ W.heap.size → Calls Tryz.prog 64 #[.slice A n c'] W fun e W' => ∃ A2 n2 c2 m, e = .returned (.slice A2 n2 c2) ∧ R m ∧ Sv W' A2 n2 c2 m ∧ Below w.heap.size W W') :
    Calls Tryz.prog 25 #[stv s b c i] w fun e w' => ∃ A n c' m, e = .returned (.slice A n c') ∧ R m ∧ Sv w' A n c' m ∧ Below w.heap.size w w' := by
  have HSO := Lib.hid hsort; have HCO := Lib.hid hcomp
  have HSB := Lib.hid (fun W => shelf_B s b c i W); have HSC := Lib.hid (fun W => shelf_C s b c i W); have HSI := Lib.hid (fun W => shelf_I s b c i W)
  have HVB : Hid (∀ W, Below w.heap.size w W → Calls Tryz.prog 58 #[shvB b] W (Rg.RetOwnG KV W W.heap.size (s.books.map (·.1)))) := Lib.hid (fun W hW => by
    obtain ⟨xs, h1, _, _, h4, h5⟩ := (h.all hW).1
    rw [← map_keys h5.1 (fun j a b ha hb => (h5.2 j a b ha hb).1)]
    exact views_B b xs (by rw [h1, h5.1]) (by rw [h1]; exact sd_len hw.sb hw.ab) W h4)
  have HVC : Hid (∀ W, Below w.heap.size w W → Calls Tryz.prog 59 #[shvC c] W (Rg.RetOwnG KV W W.heap.size (s.cells.map (·.1)))) := Lib.hid (fun W hW => by
    obtain ⟨xs, h1, _, _, h4, h5⟩ := (h.all hW).2.1
    rw [← map_keys h5.1 (fun j a b ha hb => (h5.2 j a b ha hb).1)]
    exact views_C c xs (by rw [h1, h5.1]) (by rw [h1]; exact sd_len hw.sc hw.ac) W h4)
  have HVI : Hid (∀ W, Below w.heap.size w W → Calls Tryz.prog 60 #[shvI i] W (Rg.RetOwnG KV W W.heap.size (s.ints.map (·.1)))) := Lib.hid (fun W hW => by
    have h5 := (h.all hW).2.2
    exact views_I i s.ints h5.1 (by rw [h5.1]; exact sd_len hw.si hw.ai) W h5.2.2.2)
  have HL1 : Hid ((s.books.map (·.1)).length ≤ 4096) := Lib.hid (by rw [List.length_map]; exact sd_len hw.sb hw.ab)
  have HL2 : Hid ((s.cells.map (·.1)).length ≤ 4096) := Lib.hid (by rw [List.length_map]; exact sd_len hw.sc hw.ac)
  have HL3 : Hid ((s.ints.map (·.1)).length ≤ 4096) := Lib.hid (by rw [List.length_map]; exact sd_len hw.si hw.ai)
  have HALL : Hid ([s.held] ++ (s.books.map (·.1) ++ (s.cells.map (·.1) ++ (s.ints.map (·.1) ++ []))) = seenAll s) := Lib.hid (by unfold seenAll; simp)
  generalize seenAll s = LL at HSO HALL
  generalize s.books.map (·.1) = l1 at HVB HL1 HALL
  generalize s.cells.map (·.1) = l2 at HVC HL2 HALL
  generalize s.ints.map (·.1) = l3 at HVI HL3 HALL
  have HHD : Hid (∃ a d : Nat, s.held = (a, d)) := Lib.hid ⟨s.held.1, s.held.2, rfl⟩
  obtain ⟨hda, hdd, hhd⟩ := HHD.out
  clear HHD h hw hsort hcomp
  have HPOST : Hid (∀ A n c' m W, R m → Sv W A n c' m → Below w.heap.size w W → (fun e w' => ∃ A n c' m, e = Ending.returned (.slice A n c') ∧ R m ∧ Sv w' A n c' m ∧ Below w.heap.size w w') (.returned (.slice A n c')) W) := Lib.hid (fun A n c' m W h1 h2 h3 => ⟨A, n, c', m, rfl, h1, h2, h3⟩)
  generalize (fun (e : Ending) (w' : World) => ∃ A n c' m, e = Ending.returned (.slice A n c') ∧ R m ∧ Sv w' A n c' m ∧ Below w.heap.size w w') = PP at HPOST ⊢
  unfold shvB vofB at HSB HVB
  unfold shvC vofC at HSC HVC
  unfold shvI vofI at HSI HVI
  unfold stv at HSB HSC HSI ⊢
  rw [hhd] at HSB HSC HSI HALL ⊢
  simp only at HSB HSC HSI ⊢
  clear hhd
  generalize hz1 : (hda : Int) = hd1 at HSB HSC HSI ⊢
  generalize hz2 : (hdd : Int) = hd2 at HSB HSC HSI ⊢
  have HZ1 := Lib.hid hz1; have HZ2 := Lib.hid hz2; clear hz1 hz2
  generalize s.inc = sinc at HSB HSC HSI ⊢
  generalize s.last = slast at HSB HSC HSI ⊢
  go_enter Tryz.func25, Tryz.ntmps25
  go_upto_region 1 with (fail)
  have HX := Lib.hid (show (w.alloc (.cells #[.slice b.a b.n b.c, .slice c.a c.n c.c, .slice i.a i.n i.c, .int .i64 hd1, .int .i64 hd2, .int .i64 sinc, .int .i64 slast] 28)).heap[w.heap.size]? = some (.cells #[.slice b.a b.n b.c, .slice c.a c.n c.c, .slice i.a i.n i.c, .int .i64 hd1, .int .i64 hd2, .int .i64 sinc, .int .i64 slast] 28) from hat _ _ _ rfl)
  have HB := Lib.hid (bal (Below.refl w.heap.size w) (Nat.le_refl _) (.cells #[.slice b.a b.n b.c, .slice c.a c.n c.c, .slice i.a i.n i.c, .int .i64 hd1, .int .i64 hd2, .int .i64 sinc, .int .i64 slast] 28))
  generalize w.alloc (.cells #[.slice b.a b.n b.c, .slice c.a c.n c.c, .slice i.a i.n i.c, .int .i64 hd1, .int .i64 hd2, .int .i64 sinc, .int .i64 slast] 28) = w1 at HX HB ⊢
  generalize hgx : w.heap.size = gx at HX ⊢
  have HGE := Lib.hid hgx; clear hgx
  have HQ : Hid (∀ W, Below w1.heap.size w1 W → W.cell? ⟨gx, 0, none⟩ = some (.slice b.a b.n b.c) ∧ W.cell? ⟨gx, 1, none⟩ = some (.slice c.a c.n c.c) ∧ W.cell? ⟨gx, 2, none⟩ = some (.slice i.a i.n i.c) ∧ W.cell? ⟨gx, 3, none⟩ = some (.int .i64 hd1) ∧ W.cell? ⟨gx, 4, none⟩ = some (.int .i64 hd2) ∧ W.cell? ⟨gx, 5, none⟩ = some (.int .i64 sinc) ∧ W.cell? ⟨gx, 6, none⟩ = some (.int .i64 slast)) := Lib.hid (fun W hW => by
    have h1 := (hW.block _ (Array.getElem?_eq_some_iff.1 HX.out).1).trans HX.out
    refine ⟨?_, ?_, ?_, ?_, ?_, ?_, ?_⟩ <;> (rw [cell_of_row _ _ _ _ _ _ h1]; rfl))
  clear HX
  go_cut [3] (fun s3 wq => ∃ (gz : Nat) (A : Option Addr) (n c' : Nat), s3 = .pointer (some ⟨gz, 0, none⟩) ∧ w1.heap.size ≤ gz ∧ wq.heap[gz]? = some (.cells #[.slice A n c'] 45) ∧ Rg.OwnG KV wq w1.heap.size A n c' LL ∧ Below w1.heap.size w1 wq)
  case first =>
    clear HSO HCO HPOST
    refine wp_region_held_drew (S := fun W' => Below w1.heap.size w1 W') (by kernel_rfl) (Below.refl _ _).drew (fun hHeld => ?_)
    generalize w1.drew = w5 at hHeld ⊢
    have HC : Hid (Below w1.heap.size w1 w5) := hHeld
    clear hHeld
    refine take_in (i := 0) (oi := ⟨_, _, _, _, _, _⟩) (v := ?_) rfl (by kernel_rfl) (by kernel_rfl) (by kernel_rfl) (fun _ _ _ h => h) (by rfl) ?_ HC.out ?_
    rotate_left
    · intro W hW; obtain ⟨q0, q1, q2, q3, q4, q5, q6⟩ := HQ.out W hW; go_simp; with_reducible rfl
    simp only [Act.put, List.setIfInBounds_toArray, List.set_cons_zero, List.set_cons_succ]
    refine take_in (i := 1) (oi := ⟨_, _, _, _, _, _⟩) (v := ?_) rfl (by kernel_rfl) (by kernel_rfl) (by kernel_rfl) (fun _ _ _ h => h) (by rfl) ?_ HC.out ?_
    rotate_left
    · intro W hW; obtain ⟨q0, q1, q2, q3, q4, q5, q6⟩ := HQ.out W hW; go_simp; with_reducible rfl
    simp only [Act.put, List.setIfInBounds_toArray, List.set_cons_zero, List.set_cons_succ]
    refine take_in (i := 3) (oi := ⟨_, _, _, _, _, _⟩) (v := ?_) rfl (by kernel_rfl) (by kernel_rfl) (by kernel_rfl) (fun _ _ _ h => h) (by rfl) ?_ HC.out ?_
    rotate_left
    · intro W hW; obtain ⟨q0, q1, q2, q3, q4, q5, q6⟩ := HQ.out W hW; go_simp; with_reducible rfl
    simp only [Act.put, List.setIfInBounds_toArray, List.set_cons_zero, List.set_cons_succ]
    refine take_in (i := 6) (oi := ⟨_, _, _, _, _, _⟩) (v := ?_) rfl (by kernel_rfl) (by kernel_rfl) (by kernel_rfl) (fun _ _ _ h => h) (by rfl) ?_ HC.out ?_
    rotate_left
    · intro W hW; obtain ⟨q0, q1, q2, q3, q4, q5, q6⟩ := HQ.out W hW; go_simp; with_reducible rfl
    simp only [Act.put, List.setIfInBounds_toArray, List.set_cons_zero, List.set_cons_succ]
    refine take_in (i := 9) (oi := ⟨_, _, _, _, _, _⟩) (v := ?_) rfl (by kernel_rfl) (by kernel_rfl) (by kernel_rfl) (fun _ _ _ h => h) (by rfl) ?_ HC.out ?_
    rotate_left
    · intro W hW; obtain ⟨q0, q1, q2, q3, q4, q5, q6⟩ := HQ.out W hW; go_simp; with_reducible rfl
    simp only [Act.put, List.setIfInBounds_toArray, List.set_cons_zero, List.set_cons_succ]
    clear HQ
    refine (fun (k2_4_5_7_8_10_11_12_13_14 : Hid (?Tk2_4_5_7_8_10_11_12_13_14 : Prop)) => ?mk2_4_5_7_8_10_11_12_13_14) (Lib.hid ?pk2_4_5_7_8_10_11_12_13_14)
    case mk2_4_5_7_8_10_11_12_13_14 =>
     refine (fun (k2_4_5_7_8_10_11_12_13 : Hid (?Tk2_4_5_7_8_10_11_12_13 : Prop)) => ?mk2_4_5_7_8_10_11_12_13) (Lib.hid ?pk2_4_5_7_8_10_11_12_13)
     case mk2_4_5_7_8_10_11_12_13 =>
      refine (fun (k2_4_5_7_8_10_11_12_14 : Hid (?Tk2_4_5_7_8_10_11_12_14 : Prop)) => ?mk2_4_5_7_8_10_11_12_14) (Lib.hid ?pk2_4_5_7_8_10_11_12_14)
      case mk2_4_5_7_8_10_11_12_14 =>
       refine (fun (k2_4_5_7_8_10_11_12 : Hid (?Tk2_4_5_7_8_10_11_12 : Prop)) => ?mk2_4_5_7_8_10_11_12) (Lib.hid ?pk2_4_5_7_8_10_11_12)
       case mk2_4_5_7_8_10_11_12 =>
        refine (fun (k2_4_5_7_8_10_11_14 : Hid (?Tk2_4_5_7_8_10_11_14 : Prop)) => ?mk2_4_5_7_8_10_11_14) (Lib.hid ?pk2_4_5_7_8_10_11_14)
        case mk2_4_5_7_8_10_11_14 =>
         refine (fun (k2_4_5_7_8_10_11 : Hid (?Tk2_4_5_7_8_10_11 : Prop)) => ?mk2_4_5_7_8_10_11) (Lib.hid ?pk2_4_5_7_8_10_11)
         case mk2_4_5_7_8_10_11 =>
          refine (fun (k2_4_5_7_8_10_14 : Hid (?Tk2_4_5_7_8_10_14 : Prop)) => ?mk2_4_5_7_8_10_14) (Lib.hid ?pk2_4_5_7_8_10_14)
          case mk2_4_5_7_8_10_14 =>
           refine (fun (k2_4_5_7_8_10 : Hid (?Tk2_4_5_7_8_10 : Prop)) => ?mk2_4_5_7_8_10) (Lib.hid ?pk2_4_5_7_8_10)
           case mk2_4_5_7_8_10 =>
            refine (fun (k2_4_5_7_8_14 : Hid (?Tk2_4_5_7_8_14 : Prop)) => ?mk2_4_5_7_8_14) (Lib.hid ?pk2_4_5_7_8_14)
            case mk2_4_5_7_8_14 =>
             refine (fun (k2_4_5_7_8 : Hid (?Tk2_4_5_7_8 : Prop)) => ?mk2_4_5_7_8) (Lib.hid ?pk2_4_5_7_8)
             case mk2_4_5_7_8 =>
              refine (fun (k2_4_5_7_14 : Hid (?Tk2_4_5_7_14 : Prop)) => ?mk2_4_5_7_14) (Lib.hid ?pk2_4_5_7_14)
              case mk2_4_5_7_14 =>
               refine (fun (k2_4_5_7 : Hid (?Tk2_4_5_7 : Prop)) => ?mk2_4_5_7) (Lib.hid ?pk2_4_5_7)
               case mk2_4_5_7 =>
                refine (fun (k2_4_5_14 : Hid (?Tk2_4_5_14 : Prop)) => ?mk2_4_5_14) (Lib.hid ?pk2_4_5_14)
                case mk2_4_5_14 =>
                 refine (fun (k2_4_5 : Hid (?Tk2_4_5 : Prop)) => ?mk2_4_5) (Lib.hid ?pk2_4_5)
                 case mk2_4_5 =>
                  refine (fun (k2_4_14 : Hid (?Tk2_4_14 : Prop)) => ?mk2_4_14) (Lib.hid ?pk2_4_14)
                  case mk2_4_14 =>
                   refine (fun (k2_4 : Hid (?Tk2_4 : Prop)) => ?mk2_4) (Lib.hid ?pk2_4)
                   case mk2_4 =>
                    refine (fun (k2_14 : Hid (?Tk2_14 : Prop)) => ?mk2_14) (Lib.hid ?pk2_14)
                    case mk2_14 =>
                     refine (fun (k2 : Hid (?Tk2 : Prop)) => ?mk2) (Lib.hid ?pk2)
                     case mk2 =>
                      refine (fun (k4_5_7_8_10_11_14 : Hid (?Tk4_5_7_8_10_11_14 : Prop)) => ?mk4_5_7_8_10_11_14) (Lib.hid ?pk4_5_7_8_10_11_14)
                      case mk4_5_7_8_10_11_14 =>
                       refine (fun (k4_5_7_8_10_11 : Hid (?Tk4_5_7_8_10_11 : Prop)) => ?mk4_5_7_8_10_11) (Lib.hid ?pk4_5_7_8_10_11)
                       case mk4_5_7_8_10_11 =>
                        refine (fun (k4_5_7_8_10_14 : Hid (?Tk4_5_7_8_10_14 : Prop)) => ?mk4_5_7_8_10_14) (Lib.hid ?pk4_5_7_8_10_14)
                        case mk4_5_7_8_10_14 =>
                         refine (fun (k4_5_7_8_10 : Hid (?Tk4_5_7_8_10 : Prop)) => ?mk4_5_7_8_10) (Lib.hid ?pk4_5_7_8_10)
                         case mk4_5_7_8_10 =>
                          refine (fun (k4_5_7_8_14 : Hid (?Tk4_5_7_8_14 : Prop)) => ?mk4_5_7_8_14) (Lib.hid ?pk4_5_7_8_14)
                          case mk4_5_7_8_14 =>
                           refine (fun (k4_5_7_8 : Hid (?Tk4_5_7_8 : Prop)) => ?mk4_5_7_8) (Lib.hid ?pk4_5_7_8)
                           case mk4_5_7_8 =>
                            refine (fun (k4_5_7_14 : Hid (?Tk4_5_7_14 : Prop)) => ?mk4_5_7_14) (Lib.hid ?pk4_5_7_14)
                            case mk4_5_7_14 =>
                             refine (fun (k4_5_7 : Hid (?Tk4_5_7 : Prop)) => ?mk4_5_7) (Lib.hid ?pk4_5_7)
                             case mk4_5_7 =>
                              refine (fun (k4_5_14 : Hid (?Tk4_5_14 : Prop)) => ?mk4_5_14) (Lib.hid ?pk4_5_14)
                              case mk4_5_14 =>
                               refine (fun (k4_5 : Hid (?Tk4_5 : Prop)) => ?mk4_5) (Lib.hid ?pk4_5)
                               case mk4_5 =>
                                refine (fun (k4_14 : Hid (?Tk4_14 : Prop)) => ?mk4_14) (Lib.hid ?pk4_14)
                                case mk4_14 =>
                                 refine (fun (k4 : Hid (?Tk4 : Prop)) => ?mk4) (Lib.hid ?pk4)
                                 case mk4 =>
                                  refine (fun (k14 : Hid (?Tk14 : Prop)) => ?mk14) (Lib.hid ?pk14)
                                  case mk14 =>
                                   refine wpAnyH_ready (rs := [2, 4, 14]) (by kernel_rfl) (by simp) ?_
                                   refine AllReadyH.cons (o := ⟨_, _, _, _, _, _⟩) rfl (fun K hK => ?_) (AllReadyH.cons (o := ⟨_, _, _, _, _, _⟩) rfl (fun K hK => ?_) (AllReadyH.cons (o := ⟨_, _, _, _, _, _⟩) rfl (fun K hK => ?_) AllReadyH.nil))
                                   · go_simp
                                     have HA : Hid (Rg.Rs KV (w5.alloc (.cells #[.int .i64 hd1, .int .i64 hd2] 26)) (w5.alloc (.cells #[.int .i64 hd1, .int .i64 hd2] 26)).heap.size (some ⟨w5.heap.size, 0, none⟩) [(hda, hdd)]) := Lib.hid (by have h := rs_viewF w5 hda hdd w5.heap.size rfl; rwa [HZ1.out, HZ2.out] at h)
                                     have hb_ := bal (Below.refl w5.heap.size w5) (Nat.le_refl _) (.cells #[.int .i64 hd1, .int .i64 hd2] 26)
                                     replace HC := Lib.hid (HC.out.trans (hb_.mono HC.out.size)); clear hb_
                                     refine hK.out _ _ HC.out (fun hS_ => ?_)
                                     clear hK K hS_
                                     generalize w5.alloc (.cells #[.int .i64 hd1, .int .i64 hd2] 26) = x1 at HC HA ⊢
                                     generalize w5.heap.size = ga at HA ⊢
                                     try simp only [Act.put, List.setIfInBounds_toArray, List.set_cons_zero, List.set_cons_succ]
                                     refine listed_as (l2 := #[true, true, true, true, false, false, true, false, false, true, false, false, false, false, false, false]) (by kernel_rfl) ?_
                                     revert HA
                                     revert HC
                                     revert ga
                                     revert x1
                                     exact k2.out
                                   · go_simp
                                     refine (HSB.out w5).mono ?_
                                     rintro e x1 ⟨rfl, hb_⟩
                                     replace HC := Lib.hid (HC.out.trans (hb_.mono HC.out.size)); clear hb_
                                     refine hK.out _ _ HC.out (fun hS_ => ?_)
                                     clear hK K hS_
                                     try simp only [Act.put, List.setIfInBounds_toArray, List.set_cons_zero, List.set_cons_succ]
                                     refine listed_as (l2 := #[true, true, false, true, true, false, true, false, false, true, false, false, false, false, false, false]) (by kernel_rfl) ?_
                                     revert HC
                                     revert x1
                                     exact k4.out
                                   · go_simp
                                     have HZ := Lib.hid (show (w5.alloc (.cells #[.slice none 0 0] 45)).heap[w5.heap.size]? = some (.cells #[.slice none 0 0] 45) from hat _ _ _ rfl)
                                     have HZN := Lib.hid (show w1.heap.size ≤ w5.heap.size from HC.out.size)
                                     have hb_ := bal (Below.refl w5.heap.size w5) (Nat.le_refl _) (.cells #[.slice none 0 0] 45)
                                     replace HC := Lib.hid (HC.out.trans (hb_.mono HC.out.size)); clear hb_
                                     refine hK.out _ _ HC.out (fun hS_ => ?_)
                                     clear hK K hS_
                                     generalize w5.alloc (.cells #[.slice none 0 0] 45) = x1 at HC HZ ⊢
                                     generalize w5.heap.size = gz at HZ HZN ⊢
                                     try simp only [Act.put, List.setIfInBounds_toArray, List.set_cons_zero, List.set_cons_succ]
                                     refine listed_as (l2 := #[true, true, false, true, false, false, true, false, false, true, false, false, false, false, true, false]) (by kernel_rfl) ?_
                                     revert HZN
                                     revert HZ
                                     revert HC
                                     revert gz
                                     revert x1
                                     exact k14.out
                                  case pk14 =>
                                   intro w5 gz HC HZ HZN
                                   refine wpAnyH_ready (rs := [2, 4]) (by kernel_rfl) (by simp) ?_
                                   refine AllReadyH.cons (o := ⟨_, _, _, _, _, _⟩) rfl (fun K hK => ?_) (AllReadyH.cons (o := ⟨_, _, _, _, _, _⟩) rfl (fun K hK => ?_) AllReadyH.nil)
                                   · go_simp
                                     have HA : Hid (Rg.Rs KV (w5.alloc (.cells #[.int .i64 hd1, .int .i64 hd2] 26)) (w5.alloc (.cells #[.int .i64 hd1, .int .i64 hd2] 26)).heap.size (some ⟨w5.heap.size, 0, none⟩) [(hda, hdd)]) := Lib.hid (by have h := rs_viewF w5 hda hdd w5.heap.size rfl; rwa [HZ1.out, HZ2.out] at h)
                                     have hb_ := bal (Below.refl w5.heap.size w5) (Nat.le_refl _) (.cells #[.int .i64 hd1, .int .i64 hd2] 26)
                                     replace HZ := Lib.hid ((hb_.block _ (Array.getElem?_eq_some_iff.1 HZ.out).1).trans HZ.out)
                                     replace HC := Lib.hid (HC.out.trans (hb_.mono HC.out.size)); clear hb_
                                     refine hK.out _ _ HC.out (fun hS_ => ?_)
                                     clear hK K hS_
                                     generalize w5.alloc (.cells #[.int .i64 hd1, .int .i64 hd2] 26) = x1 at HC HZ HA ⊢
                                     generalize w5.heap.size = ga at HA ⊢
                                     try simp only [Act.put, List.setIfInBounds_toArray, List.set_cons_zero, List.set_cons_succ]
                                     refine listed_as (l2 := #[true, true, true, true, false, false, true, false, false, true, false, false, false, false, true, false]) (by kernel_rfl) ?_
                                     revert HZN
                                     revert HZ
                                     revert HA
                                     revert HC
                                     revert gz
                                     revert ga
                                     revert x1
                                     exact k2_14.out
                                   · go_simp
                                     refine (HSB.out w5).mono ?_
                                     rintro e x1 ⟨rfl, hb_⟩
                                     replace HZ := Lib.hid ((hb_.block _ (Array.getElem?_eq_some_iff.1 HZ.out).1).trans HZ.out)
                                     replace HC := Lib.hid (HC.out.trans (hb_.mono HC.out.size)); clear hb_
                                     refine hK.out _ _ HC.out (fun hS_ => ?_)
                                     clear hK K hS_
                                     try simp only [Act.put, List.setIfInBounds_toArray, List.set_cons_zero, List.set_cons_succ]
                                     refine listed_as (l2 := #[true, true, false, true, true, false, true, false, false, true, false, false, false, false, true, false]) (by kernel_rfl) ?_
                                     revert HZN
                                     revert HZ
                                     revert HC
                                     revert gz
                                     revert x1
                                     exact k4_14.out
                                 case pk4 =>
                                  intro w5 HC
                                  refine wpAnyH_ready (rs := [2, 5, 14]) (by kernel_rfl) (by simp) ?_
                                  refine AllReadyH.cons (o := ⟨_, _, _, _, _, _⟩) rfl (fun K hK => ?_) (AllReadyH.cons (o := ⟨_, _, _, _, _, _⟩) rfl (fun K hK => ?_) (AllReadyH.cons (o := ⟨_, _, _, _, _, _⟩) rfl (fun K hK => ?_) AllReadyH.nil))
                                  · go_simp
                                    have HA : Hid (Rg.Rs KV (w5.alloc (.cells #[.int .i64 hd1, .int .i64 hd2] 26)) (w5.alloc (.cells #[.int .i64 hd1, .int .i64 hd2] 26)).heap.size (some ⟨w5.heap.size, 0, none⟩) [(hda, hdd)]) := Lib.hid (by have h := rs_viewF w5 hda hdd w5.heap.size rfl; rwa [HZ1.out, HZ2.out] at h)
                                    have hb_ := bal (Below.refl w5.heap.size w5) (Nat.le_refl _) (.cells #[.int .i64 hd1, .int .i64 hd2] 26)
                                    replace HC := Lib.hid (HC.out.trans (hb_.mono HC.out.size)); clear hb_
                                    refine hK.out _ _ HC.out (fun hS_ => ?_)
                                    clear hK K hS_
                                    generalize w5.alloc (.cells #[.int .i64 hd1, .int .i64 hd2] 26) = x1 at HC HA ⊢
                                    generalize w5.heap.size = ga at HA ⊢
                                    try simp only [Act.put, List.setIfInBounds_toArray, List.set_cons_zero, List.set_cons_succ]
                                    refine listed_as (l2 := #[true, true, true, true, true, false, true, false, false, true, false, false, false, false, false, false]) (by kernel_rfl) ?_
                                    revert HA
                                    revert HC
                                    revert ga
                                    revert x1
                                    exact k2_4.out
                                  · go_simp
                                    refine (HVB.out w5 (HB.out.trans (HC.out.mono HB.out.size))).mono ?_
                                    rintro e x1 ⟨A1, n1, c1, rfl, ho_, hb_⟩
                                    have H1 := Lib.hid (ho_.base HC.out.size); clear ho_
                                    replace HC := Lib.hid (HC.out.trans (hb_.mono HC.out.size)); clear hb_
                                    refine hK.out _ _ HC.out (fun hS_ => ?_)
                                    clear hK K hS_
                                    try simp only [Act.put, List.setIfInBounds_toArray, List.set_cons_zero, List.set_cons_succ]
                                    refine listed_as (l2 := #[true, true, false, true, true, true, true, false, false, true, false, false, false, false, false, false]) (by kernel_rfl) ?_
                                    revert H1
                                    revert HC
                                    revert c1
                                    revert n1
                                    revert A1
                                    revert x1
                                    exact k4_5.out
                                  · go_simp
                                    have HZ := Lib.hid (show (w5.alloc (.cells #[.slice none 0 0] 45)).heap[w5.heap.size]? = some (.cells #[.slice none 0 0] 45) from hat _ _ _ rfl)
                                    have HZN := Lib.hid (show w1.heap.size ≤ w5.heap.size from HC.out.size)
                                    have hb_ := bal (Below.refl w5.heap.size w5) (Nat.le_refl _) (.cells #[.slice none 0 0] 45)
                                    replace HC := Lib.hid (HC.out.trans (hb_.mono HC.out.size)); clear hb_
                                    refine hK.out _ _ HC.out (fun hS_ => ?_)
                                    clear hK K hS_
                                    generalize w5.alloc (.cells #[.slice none 0 0] 45) = x1 at HC HZ ⊢
                                    generalize w5.heap.size = gz at HZ HZN ⊢
                                    try simp only [Act.put, List.setIfInBounds_toArray, List.set_cons_zero, List.set_cons_succ]
                                    refine listed_as (l2 := #[true, true, false, true, true, false, true, false, false, true, false, false, false, false, true, false]) (by kernel_rfl) ?_
                                    revert HZN
                                    revert HZ
                                    revert HC
                                    revert gz
                                    revert x1
                                    exact k4_14.out
                                case pk4_14 =>
                                 intro w5 gz HC HZ HZN
                                 refine wpAnyH_ready (rs := [2, 5]) (by kernel_rfl) (by simp) ?_
                                 refine AllReadyH.cons (o := ⟨_, _, _, _, _, _⟩) rfl (fun K hK => ?_) (AllReadyH.cons (o := ⟨_, _, _, _, _, _⟩) rfl (fun K hK => ?_) AllReadyH.nil)
                                 · go_simp
                                   have HA : Hid (Rg.Rs KV (w5.alloc (.cells #[.int .i64 hd1, .int .i64 hd2] 26)) (w5.alloc (.cells #[.int .i64 hd1, .int .i64 hd2] 26)).heap.size (some ⟨w5.heap.size, 0, none⟩) [(hda, hdd)]) := Lib.hid (by have h := rs_viewF w5 hda hdd w5.heap.size rfl; rwa [HZ1.out, HZ2.out] at h)
                                   have hb_ := bal (Below.refl w5.heap.size w5) (Nat.le_refl _) (.cells #[.int .i64 hd1, .int .i64 hd2] 26)
                                   replace HZ := Lib.hid ((hb_.block _ (Array.getElem?_eq_some_iff.1 HZ.out).1).trans HZ.out)
                                   replace HC := Lib.hid (HC.out.trans (hb_.mono HC.out.size)); clear hb_
                                   refine hK.out _ _ HC.out (fun hS_ => ?_)
                                   clear hK K hS_
                                   generalize w5.alloc (.cells #[.int .i64 hd1, .int .i64 hd2] 26) = x1 at HC HZ HA ⊢
                                   generalize w5.heap.size = ga at HA ⊢
                                   try simp only [Act.put, List.setIfInBounds_toArray, List.set_cons_zero, List.set_cons_succ]
                                   refine listed_as (l2 := #[true, true, true, true, true, false, true, false, false, true, false, false, false, false, true, false]) (by kernel_rfl) ?_
                                   revert HZN
                                   revert HZ
                                   revert HA
                                   revert HC
                                   revert gz
                                   revert ga
                                   revert x1
                                   exact k2_4_14.out
                                 · go_simp
                                   refine (HVB.out w5 (HB.out.trans (HC.out.mono HB.out.size))).mono ?_
                                   rintro e x1 ⟨A1, n1, c1, rfl, ho_, hb_⟩
                                   have H1 := Lib.hid (ho_.base HC.out.size); clear ho_
                                   replace HZ := Lib.hid ((hb_.block _ (Array.getElem?_eq_some_iff.1 HZ.out).1).trans HZ.out)
                                   replace HC := Lib.hid (HC.out.trans (hb_.mono HC.out.size)); clear hb_
                                   refine hK.out _ _ HC.out (fun hS_ => ?_)
                                   clear hK K hS_
                                   try simp only [Act.put, List.setIfInBounds_toArray, List.set_cons_zero, List.set_cons_succ]
                                   refine listed_as (l2 := #[true, true, false, true, true, true, true, false, false, true, false, false, false, false, true, false]) (by kernel_rfl) ?_
                                   revert HZN
                                   revert HZ
                                   revert H1
                                   revert HC
                                   revert gz
                                   revert c1
                                   revert n1
                                   revert A1
                                   revert x1
                                   exact k4_5_14.out
                               case pk4_5 =>
                                intro w5 A1 n1 c1 HC H1
                                refine wpAnyH_ready (rs := [2, 7, 14]) (by kernel_rfl) (by simp) ?_
                                refine AllReadyH.cons (o := ⟨_, _, _, _, _, _⟩) rfl (fun K hK => ?_) (AllReadyH.cons (o := ⟨_, _, _, _, _, _⟩) rfl (fun K hK => ?_) (AllReadyH.cons (o := ⟨_, _, _, _, _, _⟩) rfl (fun K hK => ?_) AllReadyH.nil))
                                · go_simp
                                  have HA : Hid (Rg.Rs KV (w5.alloc (.cells #[.int .i64 hd1, .int .i64 hd2] 26)) (w5.alloc (.cells #[.int .i64 hd1, .int .i64 hd2] 26)).heap.size (some ⟨w5.heap.size, 0, none⟩) [(hda, hdd)]) := Lib.hid (by have h := rs_viewF w5 hda hdd w5.heap.size rfl; rwa [HZ1.out, HZ2.out] at h)
                                  have hb_ := bal (Below.refl w5.heap.size w5) (Nat.le_refl _) (.cells #[.int .i64 hd1, .int .i64 hd2] 26)
                                  replace H1 := Lib.hid (H1.out.below hb_ (Nat.le_refl _))
                                  replace HC := Lib.hid (HC.out.trans (hb_.mono HC.out.size)); clear hb_
                                  refine hK.out _ _ HC.out (fun hS_ => ?_)
                                  clear hK K hS_
                                  generalize w5.alloc (.cells #[.int .i64 hd1, .int .i64 hd2] 26) = x1 at HC H1 HA ⊢
                                  generalize w5.heap.size = ga at HA ⊢
                                  try simp only [Act.put, List.setIfInBounds_toArray, List.set_cons_zero, List.set_cons_succ]
                                  refine listed_as (l2 := #[true, true, true, true, true, true, true, false, false, true, false, false, false, false, false, false]) (by kernel_rfl) ?_
                                  revert H1
                                  revert HA
                                  revert HC
                                  revert c1
                                  revert n1
                                  revert A1
                                  revert ga
                                  revert x1
                                  exact k2_4_5.out
                                · go_simp
                                  refine (HSC.out w5).mono ?_
                                  rintro e x1 ⟨rfl, hb_⟩
                                  replace H1 := Lib.hid (H1.out.below hb_ (Nat.le_refl _))
                                  replace HC := Lib.hid (HC.out.trans (hb_.mono HC.out.size)); clear hb_
                                  refine hK.out _ _ HC.out (fun hS_ => ?_)
                                  clear hK K hS_
                                  try simp only [Act.put, List.setIfInBounds_toArray, List.set_cons_zero, List.set_cons_succ]
                                  refine listed_as (l2 := #[true, true, false, true, true, true, true, true, false, true, false, false, false, false, false, false]) (by kernel_rfl) ?_
                                  revert H1
                                  revert HC
                                  revert c1
                                  revert n1
                                  revert A1
                                  revert x1
                                  exact k4_5_7.out
                                · go_simp
                                  have HZ := Lib.hid (show (w5.alloc (.cells #[.slice none 0 0] 45)).heap[w5.heap.size]? = some (.cells #[.slice none 0 0] 45) from hat _ _ _ rfl)
                                  have HZN := Lib.hid (show w1.heap.size ≤ w5.heap.size from HC.out.size)
                                  have hb_ := bal (Below.refl w5.heap.size w5) (Nat.le_refl _) (.cells #[.slice none 0 0] 45)
                                  replace H1 := Lib.hid (H1.out.below hb_ (Nat.le_refl _))
                                  replace HC := Lib.hid (HC.out.trans (hb_.mono HC.out.size)); clear hb_
                                  refine hK.out _ _ HC.out (fun hS_ => ?_)
                                  clear hK K hS_
                                  generalize w5.alloc (.cells #[.slice none 0 0] 45) = x1 at HC H1 HZ ⊢
                                  generalize w5.heap.size = gz at HZ HZN ⊢
                                  try simp only [Act.put, List.setIfInBounds_toArray, List.set_cons_zero, List.set_cons_succ]
                                  refine listed_as (l2 := #[true, true, false, true, true, true, true, false, false, true, false, false, false, false, true, false]) (by kernel_rfl) ?_
                                  revert HZN
                                  revert HZ
                                  revert H1
                                  revert HC
                                  revert gz
                                  revert c1
                                  revert n1
                                  revert A1
                                  revert x1
                                  exact k4_5_14.out
                              case pk4_5_14 =>
                               intro w5 A1 n1 c1 gz HC H1 HZ HZN
                               refine wpAnyH_ready (rs := [2, 7]) (by kernel_rfl) (by simp) ?_
                               refine AllReadyH.cons (o := ⟨_, _, _, _, _, _⟩) rfl (fun K hK => ?_) (AllReadyH.cons (o := ⟨_, _, _, _, _, _⟩) rfl (fun K hK => ?_) AllReadyH.nil)
                               · go_simp
                                 have HA : Hid (Rg.Rs KV (w5.alloc (.cells #[.int .i64 hd1, .int .i64 hd2] 26)) (w5.alloc (.cells #[.int .i64 hd1, .int .i64 hd2] 26)).heap.size (some ⟨w5.heap.size, 0, none⟩) [(hda, hdd)]) := Lib.hid (by have h := rs_viewF w5 hda hdd w5.heap.size rfl; rwa [HZ1.out, HZ2.out] at h)
                                 have hb_ := bal (Below.refl w5.heap.size w5) (Nat.le_refl _) (.cells #[.int .i64 hd1, .int .i64 hd2] 26)
                                 replace H1 := Lib.hid (H1.out.below hb_ (Nat.le_refl _))
                                 replace HZ := Lib.hid ((hb_.block _ (Array.getElem?_eq_some_iff.1 HZ.out).1).trans HZ.out)
                                 replace HC := Lib.hid (HC.out.trans (hb_.mono HC.out.size)); clear hb_
                                 refine hK.out _ _ HC.out (fun hS_ => ?_)
                                 clear hK K hS_
                                 generalize w5.alloc (.cells #[.int .i64 hd1, .int .i64 hd2] 26) = x1 at HC H1 HZ HA ⊢
                                 generalize w5.heap.size = ga at HA ⊢
                                 try simp only [Act.put, List.setIfInBounds_toArray, List.set_cons_zero, List.set_cons_succ]
                                 refine listed_as (l2 := #[true, true, true, true, true, true, true, false, false, true, false, false, false, false, true, false]) (by kernel_rfl) ?_
                                 revert HZN
                                 revert HZ
                                 revert H1
                                 revert HA
                                 revert HC
                                 revert gz
                                 revert c1
                                 revert n1
                                 revert A1
                                 revert ga
                                 revert x1
                                 exact k2_4_5_14.out
                               · go_simp
                                 refine (HSC.out w5).mono ?_
                                 rintro e x1 ⟨rfl, hb_⟩
                                 replace H1 := Lib.hid (H1.out.below hb_ (Nat.le_refl _))
                                 replace HZ := Lib.hid ((hb_.block _ (Array.getElem?_eq_some_iff.1 HZ.out).1).trans HZ.out)
                                 replace HC := Lib.hid (HC.out.trans (hb_.mono HC.out.size)); clear hb_
                                 refine hK.out _ _ HC.out (fun hS_ => ?_)
                                 clear hK K hS_
                                 try simp only [Act.put, List.setIfInBounds_toArray, List.set_cons_zero, List.set_cons_succ]
                                 refine listed_as (l2 := #[true, true, false, true, true, true, true, true, false, true, false, false, false, false, true, false]) (by kernel_rfl) ?_
                                 revert HZN
                                 revert HZ
                                 revert H1
                                 revert HC
                                 revert gz
                                 revert c1
                                 revert n1
                                 revert A1
                                 revert x1
                                 exact k4_5_7_14.out
                             case pk4_5_7 =>
                              intro w5 A1 n1 c1 HC H1
                              refine wpAnyH_ready (rs := [2, 8, 14]) (by kernel_rfl) (by simp) ?_
                              refine AllReadyH.cons (o := ⟨_, _, _, _, _, _⟩) rfl (fun K hK => ?_) (AllReadyH.cons (o := ⟨_, _, _, _, _, _⟩) rfl (fun K hK => ?_) (AllReadyH.cons (o := ⟨_, _, _, _, _, _⟩) rfl (fun K hK => ?_) AllReadyH.nil))
                              · go_simp
                                have HA : Hid (Rg.Rs KV (w5.alloc (.cells #[.int .i64 hd1, .int .i64 hd2] 26)) (w5.alloc (.cells #[.int .i64 hd1, .int .i64 hd2] 26)).heap.size (some ⟨w5.heap.size, 0, none⟩) [(hda, hdd)]) := Lib.hid (by have h := rs_viewF w5 hda hdd w5.heap.size rfl; rwa [HZ1.out, HZ2.out] at h)
                                have hb_ := bal (Below.refl w5.heap.size w5) (Nat.le_refl _) (.cells #[.int .i64 hd1, .int .i64 hd2] 26)
                                replace H1 := Lib.hid (H1.out.below hb_ (Nat.le_refl _))
                                replace HC := Lib.hid (HC.out.trans (hb_.mono HC.out.size)); clear hb_
                                refine hK.out _ _ HC.out (fun hS_ => ?_)
                                clear hK K hS_
                                generalize w5.alloc (.cells #[.int .i64 hd1, .int .i64 hd2] 26) = x1 at HC H1 HA ⊢
                                generalize w5.heap.size = ga at HA ⊢
                                try simp only [Act.put, List.setIfInBounds_toArray, List.set_cons_zero, List.set_cons_succ]
                                refine listed_as (l2 := #[true, true, true, true, true, true, true, true, false, true, false, false, false, false, false, false]) (by kernel_rfl) ?_
                                revert H1
                                revert HA
                                revert HC
                                revert c1
                                revert n1
                                revert A1
                                revert ga
                                revert x1
                                exact k2_4_5_7.out
                              · go_simp
                                refine (HVC.out w5 (HB.out.trans (HC.out.mono HB.out.size))).mono ?_
                                rintro e x1 ⟨A2, n2, c2, rfl, ho_, hb_⟩
                                have H2 := Lib.hid (ho_.base HC.out.size); clear ho_
                                replace H1 := Lib.hid (H1.out.below hb_ (Nat.le_refl _))
                                replace HC := Lib.hid (HC.out.trans (hb_.mono HC.out.size)); clear hb_
                                refine hK.out _ _ HC.out (fun hS_ => ?_)
                                clear hK K hS_
                                try simp only [Act.put, List.setIfInBounds_toArray, List.set_cons_zero, List.set_cons_succ]
                                refine listed_as (l2 := #[true, true, false, true, true, true, true, true, true, true, false, false, false, false, false, false]) (by kernel_rfl) ?_
                                revert H2
                                revert H1
                                revert HC
                                revert c2
                                revert n2
                                revert A2
                                revert c1
                                revert n1
                                revert A1
                                revert x1
                                exact k4_5_7_8.out
                              · go_simp
                                have HZ := Lib.hid (show (w5.alloc (.cells #[.slice none 0 0] 45)).heap[w5.heap.size]? = some (.cells #[.slice none 0 0] 45) from hat _ _ _ rfl)
                                have HZN := Lib.hid (show w1.heap.size ≤ w5.heap.size from HC.out.size)
                                have hb_ := bal (Below.refl w5.heap.size w5) (Nat.le_refl _) (.cells #[.slice none 0 0] 45)
                                replace H1 := Lib.hid (H1.out.below hb_ (Nat.le_refl _))
                                replace HC := Lib.hid (HC.out.trans (hb_.mono HC.out.size)); clear hb_
                                refine hK.out _ _ HC.out (fun hS_ => ?_)
                                clear hK K hS_
                                generalize w5.alloc (.cells #[.slice none 0 0] 45) = x1 at HC H1 HZ ⊢
                                generalize w5.heap.size = gz at HZ HZN ⊢
                                try simp only [Act.put, List.setIfInBounds_toArray, List.set_cons_zero, List.set_cons_succ]
                                refine listed_as (l2 := #[true, true, false, true, true, true, true, true, false, true, false, false, false, false, true, false]) (by kernel_rfl) ?_
                                revert HZN
                                revert HZ
                                revert H1
                                revert HC
                                revert gz
                                revert c1
                                revert n1
                                revert A1
                                revert x1
                                exact k4_5_7_14.out
                            case pk4_5_7_14 =>
                             intro w5 A1 n1 c1 gz HC H1 HZ HZN
                             refine wpAnyH_ready (rs := [2, 8]) (by kernel_rfl) (by simp) ?_
                             refine AllReadyH.cons (o := ⟨_, _, _, _, _, _⟩) rfl (fun K hK => ?_) (AllReadyH.cons (o := ⟨_, _, _, _, _, _⟩) rfl (fun K hK => ?_) AllReadyH.nil)
                             · go_simp
                               have HA : Hid (Rg.Rs KV (w5.alloc (.cells #[.int .i64 hd1, .int .i64 hd2] 26)) (w5.alloc (.cells #[.int .i64 hd1, .int .i64 hd2] 26)).heap.size (some ⟨w5.heap.size, 0, none⟩) [(hda, hdd)]) := Lib.hid (by have h := rs_viewF w5 hda hdd w5.heap.size rfl; rwa [HZ1.out, HZ2.out] at h)
                               have hb_ := bal (Below.refl w5.heap.size w5) (Nat.le_refl _) (.cells #[.int .i64 hd1, .int .i64 hd2] 26)
                               replace H1 := Lib.hid (H1.out.below hb_ (Nat.le_refl _))
                               replace HZ := Lib.hid ((hb_.block _ (Array.getElem?_eq_some_iff.1 HZ.out).1).trans HZ.out)
                               replace HC := Lib.hid (HC.out.trans (hb_.mono HC.out.size)); clear hb_
                               refine hK.out _ _ HC.out (fun hS_ => ?_)
                               clear hK K hS_
                               generalize w5.alloc (.cells #[.int .i64 hd1, .int .i64 hd2] 26) = x1 at HC H1 HZ HA ⊢
                               generalize w5.heap.size = ga at HA ⊢
                               try simp only [Act.put, List.setIfInBounds_toArray, List.set_cons_zero, List.set_cons_succ]
                               refine listed_as (l2 := #[true, true, true, true, true, true, true, true, false, true, false, false, false, false, true, false]) (by kernel_rfl) ?_
                               revert HZN
                               revert HZ
                               revert H1
                               revert HA
                               revert HC
                               revert gz
                               revert c1
                               revert n1
                               revert A1
                               revert ga
                               revert x1
                               exact k2_4_5_7_14.out
                             · go_simp
                               refine (HVC.out w5 (HB.out.trans (HC.out.mono HB.out.size))).mono ?_
                               rintro e x1 ⟨A2, n2, c2, rfl, ho_, hb_⟩
                               have H2 := Lib.hid (ho_.base HC.out.size); clear ho_
                               replace H1 := Lib.hid (H1.out.below hb_ (Nat.le_refl _))
                               replace HZ := Lib.hid ((hb_.block _ (Array.getElem?_eq_some_iff.1 HZ.out).1).trans HZ.out)
                               replace HC := Lib.hid (HC.out.trans (hb_.mono HC.out.size)); clear hb_
                               refine hK.out _ _ HC.out (fun hS_ => ?_)
                               clear hK K hS_
                               try simp only [Act.put, List.setIfInBounds_toArray, List.set_cons_zero, List.set_cons_succ]
                               refine listed_as (l2 := #[true, true, false, true, true, true, true, true, true, true, false, false, false, false, true, false]) (by kernel_rfl) ?_
                               revert HZN
                               revert HZ
                               revert H2
                               revert H1
                               revert HC
                               revert gz
                               revert c2
                               revert n2
                               revert A2
                               revert c1
                               revert n1
                               revert A1
                               revert x1
                               exact k4_5_7_8_14.out
                           case pk4_5_7_8 =>
                            intro w5 A1 n1 c1 A2 n2 c2 HC H1 H2
                            refine wpAnyH_ready (rs := [2, 10, 14]) (by kernel_rfl) (by simp) ?_
                            refine AllReadyH.cons (o := ⟨_, _, _, _, _, _⟩) rfl (fun K hK => ?_) (AllReadyH.cons (o := ⟨_, _, _, _, _, _⟩) rfl (fun K hK => ?_) (AllReadyH.cons (o := ⟨_, _, _, _, _, _⟩) rfl (fun K hK => ?_) AllReadyH.nil))
                            · go_simp
                              have HA : Hid (Rg.Rs KV (w5.alloc (.cells #[.int .i64 hd1, .int .i64 hd2] 26)) (w5.alloc (.cells #[.int .i64 hd1, .int .i64 hd2] 26)).heap.size (some ⟨w5.heap.size, 0, none⟩) [(hda, hdd)]) := Lib.hid (by have h := rs_viewF w5 hda hdd w5.heap.size rfl; rwa [HZ1.out, HZ2.out] at h)
                              have hb_ := bal (Below.refl w5.heap.size w5) (Nat.le_refl _) (.cells #[.int .i64 hd1, .int .i64 hd2] 26)
                              replace H1 := Lib.hid (H1.out.below hb_ (Nat.le_refl _))
                              replace H2 := Lib.hid (H2.out.below hb_ (Nat.le_refl _))
                              replace HC := Lib.hid (HC.out.trans (hb_.mono HC.out.size)); clear hb_
                              refine hK.out _ _ HC.out (fun hS_ => ?_)
                              clear hK K hS_
                              generalize w5.alloc (.cells #[.int .i64 hd1, .int .i64 hd2] 26) = x1 at HC H1 H2 HA ⊢
                              generalize w5.heap.size = ga at HA ⊢
                              try simp only [Act.put, List.setIfInBounds_toArray, List.set_cons_zero, List.set_cons_succ]
                              refine listed_as (l2 := #[true, true, true, true, true, true, true, true, true, true, false, false, false, false, false, false]) (by kernel_rfl) ?_
                              revert H2
                              revert H1
                              revert HA
                              revert HC
                              revert c2
                              revert n2
                              revert A2
                              revert c1
                              revert n1
                              revert A1
                              revert ga
                              revert x1
                              exact k2_4_5_7_8.out
                            · go_simp
                              refine (HSI.out w5).mono ?_
                              rintro e x1 ⟨rfl, hb_⟩
                              replace H1 := Lib.hid (H1.out.below hb_ (Nat.le_refl _))
                              replace H2 := Lib.hid (H2.out.below hb_ (Nat.le_refl _))
                              replace HC := Lib.hid (HC.out.trans (hb_.mono HC.out.size)); clear hb_
                              refine hK.out _ _ HC.out (fun hS_ => ?_)
                              clear hK K hS_
                              try simp only [Act.put, List.setIfInBounds_toArray, List.set_cons_zero, List.set_cons_succ]
                              refine listed_as (l2 := #[true, true, false, true, true, true, true, true, true, true, true, false, false, false, false, false]) (by kernel_rfl) ?_
                              revert H2
                              revert H1
                              revert HC
                              revert c2
                              revert n2
                              revert A2
                              revert c1
                              revert n1
                              revert A1
                              revert x1
                              exact k4_5_7_8_10.out
                            · go_simp
                              have HZ := Lib.hid (show (w5.alloc (.cells #[.slice none 0 0] 45)).heap[w5.heap.size]? = some (.cells #[.slice none 0 0] 45) from hat _ _ _ rfl)
                              have HZN := Lib.hid (show w1.heap.size ≤ w5.heap.size from HC.out.size)
                              have hb_ := bal (Below.refl w5.heap.size w5) (Nat.le_refl _) (.cells #[.slice none 0 0] 45)
                              replace H1 := Lib.hid (H1.out.below hb_ (Nat.le_refl _))
                              replace H2 := Lib.hid (H2.out.below hb_ (Nat.le_refl _))
                              replace HC := Lib.hid (HC.out.trans (hb_.mono HC.out.size)); clear hb_
                              refine hK.out _ _ HC.out (fun hS_ => ?_)
                              clear hK K hS_
                              generalize w5.alloc (.cells #[.slice none 0 0] 45) = x1 at HC H1 H2 HZ ⊢
                              generalize w5.heap.size = gz at HZ HZN ⊢
                              try simp only [Act.put, List.setIfInBounds_toArray, List.set_cons_zero, List.set_cons_succ]
                              refine listed_as (l2 := #[true, true, false, true, true, true, true, true, true, true, false, false, false, false, true, false]) (by kernel_rfl) ?_
                              revert HZN
                              revert HZ
                              revert H2
                              revert H1
                              revert HC
                              revert gz
                              revert c2
                              revert n2
                              revert A2
                              revert c1
                              revert n1
                              revert A1
                              revert x1
                              exact k4_5_7_8_14.out
                          case pk4_5_7_8_14 =>
                           intro w5 A1 n1 c1 A2 n2 c2 gz HC H1 H2 HZ HZN
                           refine wpAnyH_ready (rs := [2, 10]) (by kernel_rfl) (by simp) ?_
                           refine AllReadyH.cons (o := ⟨_, _, _, _, _, _⟩) rfl (fun K hK => ?_) (AllReadyH.cons (o := ⟨_, _, _, _, _, _⟩) rfl (fun K hK => ?_) AllReadyH.nil)
                           · go_simp
                             have HA : Hid (Rg.Rs KV (w5.alloc (.cells #[.int .i64 hd1, .int .i64 hd2] 26)) (w5.alloc (.cells #[.int .i64 hd1, .int .i64 hd2] 26)).heap.size (some ⟨w5.heap.size, 0, none⟩) [(hda, hdd)]) := Lib.hid (by have h := rs_viewF w5 hda hdd w5.heap.size rfl; rwa [HZ1.out, HZ2.out] at h)
                             have hb_ := bal (Below.refl w5.heap.size w5) (Nat.le_refl _) (.cells #[.int .i64 hd1, .int .i64 hd2] 26)
                             replace H1 := Lib.hid (H1.out.below hb_ (Nat.le_refl _))
                             replace H2 := Lib.hid (H2.out.below hb_ (Nat.le_refl _))
                             replace HZ := Lib.hid ((hb_.block _ (Array.getElem?_eq_some_iff.1 HZ.out).1).trans HZ.out)
                             replace HC := Lib.hid (HC.out.trans (hb_.mono HC.out.size)); clear hb_
                             refine hK.out _ _ HC.out (fun hS_ => ?_)
                             clear hK K hS_
                             generalize w5.alloc (.cells #[.int .i64 hd1, .int .i64 hd2] 26) = x1 at HC H1 H2 HZ HA ⊢
                             generalize w5.heap.size = ga at HA ⊢
                             try simp only [Act.put, List.setIfInBounds_toArray, List.set_cons_zero, List.set_cons_succ]
                             refine listed_as (l2 := #[true, true, true, true, true, true, true, true, true, true, false, false, false, false, true, false]) (by kernel_rfl) ?_
                             revert HZN
                             revert HZ
                             revert H2
                             revert H1
                             revert HA
                             revert HC
                             revert gz
                             revert c2
                             revert n2
                             revert A2
                             revert c1
                             revert n1
                             revert A1
                             revert ga
                             revert x1
                             exact k2_4_5_7_8_14.out
                           · go_simp
                             refine (HSI.out w5).mono ?_
                             rintro e x1 ⟨rfl, hb_⟩
                             replace H1 := Lib.hid (H1.out.below hb_ (Nat.le_refl _))
                             replace H2 := Lib.hid (H2.out.below hb_ (Nat.le_refl _))
                             replace HZ := Lib.hid ((hb_.block _ (Array.getElem?_eq_some_iff.1 HZ.out).1).trans HZ.out)
                             replace HC := Lib.hid (HC.out.trans (hb_.mono HC.out.size)); clear hb_
                             refine hK.out _ _ HC.out (fun hS_ => ?_)
                             clear hK K hS_
                             try simp only [Act.put, List.setIfInBounds_toArray, List.set_cons_zero, List.set_cons_succ]
                             refine listed_as (l2 := #[true, true, false, true, true, true, true, true, true, true, true, false, false, false, true, false]) (by kernel_rfl) ?_
                             revert HZN
                             revert HZ
                             revert H2
                             revert H1
                             revert HC
                             revert gz
                             revert c2
                             revert n2
                             revert A2
                             revert c1
                             revert n1
                             revert A1
                             revert x1
                             exact k4_5_7_8_10_14.out
                         case pk4_5_7_8_10 =>
                          intro w5 A1 n1 c1 A2 n2 c2 HC H1 H2
                          refine wpAnyH_ready (rs := [2, 11, 14]) (by kernel_rfl) (by simp) ?_
                          refine AllReadyH.cons (o := ⟨_, _, _, _, _, _⟩) rfl (fun K hK => ?_) (AllReadyH.cons (o := ⟨_, _, _, _, _, _⟩) rfl (fun K hK => ?_) (AllReadyH.cons (o := ⟨_, _, _, _, _, _⟩) rfl (fun K hK => ?_) AllReadyH.nil))
                          · go_simp
                            have HA : Hid (Rg.Rs KV (w5.alloc (.cells #[.int .i64 hd1, .int .i64 hd2] 26)) (w5.alloc (.cells #[.int .i64 hd1, .int .i64 hd2] 26)).heap.size (some ⟨w5.heap.size, 0, none⟩) [(hda, hdd)]) := Lib.hid (by have h := rs_viewF w5 hda hdd w5.heap.size rfl; rwa [HZ1.out, HZ2.out] at h)
                            have hb_ := bal (Below.refl w5.heap.size w5) (Nat.le_refl _) (.cells #[.int .i64 hd1, .int .i64 hd2] 26)
                            replace H1 := Lib.hid (H1.out.below hb_ (Nat.le_refl _))
                            replace H2 := Lib.hid (H2.out.below hb_ (Nat.le_refl _))
                            replace HC := Lib.hid (HC.out.trans (hb_.mono HC.out.size)); clear hb_
                            refine hK.out _ _ HC.out (fun hS_ => ?_)
                            clear hK K hS_
                            generalize w5.alloc (.cells #[.int .i64 hd1, .int .i64 hd2] 26) = x1 at HC H1 H2 HA ⊢
                            generalize w5.heap.size = ga at HA ⊢
                            try simp only [Act.put, List.setIfInBounds_toArray, List.set_cons_zero, List.set_cons_succ]
                            refine listed_as (l2 := #[true, true, true, true, true, true, true, true, true, true, true, false, false, false, false, false]) (by kernel_rfl) ?_
                            revert H2
                            revert H1
                            revert HA
                            revert HC
                            revert c2
                            revert n2
                            revert A2
                            revert c1
                            revert n1
                            revert A1
                            revert ga
                            revert x1
                            exact k2_4_5_7_8_10.out
                          · go_simp
                            refine (HVI.out w5 (HB.out.trans (HC.out.mono HB.out.size))).mono ?_
                            rintro e x1 ⟨A3, n3, c3, rfl, ho_, hb_⟩
                            have H3 := Lib.hid (ho_.base HC.out.size); clear ho_
                            replace H1 := Lib.hid (H1.out.below hb_ (Nat.le_refl _))
                            replace H2 := Lib.hid (H2.out.below hb_ (Nat.le_refl _))
                            replace HC := Lib.hid (HC.out.trans (hb_.mono HC.out.size)); clear hb_
                            refine hK.out _ _ HC.out (fun hS_ => ?_)
                            clear hK K hS_
                            try simp only [Act.put, List.setIfInBounds_toArray, List.set_cons_zero, List.set_cons_succ]
                            refine listed_as (l2 := #[true, true, false, true, true, true, true, true, true, true, true, true, false, false, false, false]) (by kernel_rfl) ?_
                            revert H3
                            revert H2
                            revert H1
                            revert HC
                            revert c3
                            revert n3
                            revert A3
                            revert c2
                            revert n2
                            revert A2
                            revert c1
                            revert n1
                            revert A1
                            revert x1
                            exact k4_5_7_8_10_11.out
                          · go_simp
                            have HZ := Lib.hid (show (w5.alloc (.cells #[.slice none 0 0] 45)).heap[w5.heap.size]? = some (.cells #[.slice none 0 0] 45) from hat _ _ _ rfl)
                            have HZN := Lib.hid (show w1.heap.size ≤ w5.heap.size from HC.out.size)
                            have hb_ := bal (Below.refl w5.heap.size w5) (Nat.le_refl _) (.cells #[.slice none 0 0] 45)
                            replace H1 := Lib.hid (H1.out.below hb_ (Nat.le_refl _))
                            replace H2 := Lib.hid (H2.out.below hb_ (Nat.le_refl _))
                            replace HC := Lib.hid (HC.out.trans (hb_.mono HC.out.size)); clear hb_
                            refine hK.out _ _ HC.out (fun hS_ => ?_)
                            clear hK K hS_
                            generalize w5.alloc (.cells #[.slice none 0 0] 45) = x1 at HC H1 H2 HZ ⊢
                            generalize w5.heap.size = gz at HZ HZN ⊢
                            try simp only [Act.put, List.setIfInBounds_toArray, List.set_cons_zero, List.set_cons_succ]
                            refine listed_as (l2 := #[true, true, false, true, true, true, true, true, true, true, true, false, false, false, true, false]) (by kernel_rfl) ?_
                            revert HZN
                            revert HZ
                            revert H2
                            revert H1
                            revert HC
                            revert gz
                            revert c2
                            revert n2
                            revert A2
                            revert c1
                            revert n1
                            revert A1
                            revert x1
                            exact k4_5_7_8_10_14.out
                        case pk4_5_7_8_10_14 =>
                         intro w5 A1 n1 c1 A2 n2 c2 gz HC H1 H2 HZ HZN
                         refine wpAnyH_ready (rs := [2, 11]) (by kernel_rfl) (by simp) ?_
                         refine AllReadyH.cons (o := ⟨_, _, _, _, _, _⟩) rfl (fun K hK => ?_) (AllReadyH.cons (o := ⟨_, _, _, _, _, _⟩) rfl (fun K hK => ?_) AllReadyH.nil)
                         · go_simp
                           have HA : Hid (Rg.Rs KV (w5.alloc (.cells #[.int .i64 hd1, .int .i64 hd2] 26)) (w5.alloc (.cells #[.int .i64 hd1, .int .i64 hd2] 26)).heap.size (some ⟨w5.heap.size, 0, none⟩) [(hda, hdd)]) := Lib.hid (by have h := rs_viewF w5 hda hdd w5.heap.size rfl; rwa [HZ1.out, HZ2.out] at h)
                           have hb_ := bal (Below.refl w5.heap.size w5) (Nat.le_refl _) (.cells #[.int .i64 hd1, .int .i64 hd2] 26)
                           replace H1 := Lib.hid (H1.out.below hb_ (Nat.le_refl _))
                           replace H2 := Lib.hid (H2.out.below hb_ (Nat.le_refl _))
                           replace HZ := Lib.hid ((hb_.block _ (Array.getElem?_eq_some_iff.1 HZ.out).1).trans HZ.out)
                           replace HC := Lib.hid (HC.out.trans (hb_.mono HC.out.size)); clear hb_
                           refine hK.out _ _ HC.out (fun hS_ => ?_)
                           clear hK K hS_
                           generalize w5.alloc (.cells #[.int .i64 hd1, .int .i64 hd2] 26) = x1 at HC H1 H2 HZ HA ⊢
                           generalize w5.heap.size = ga at HA ⊢
                           try simp only [Act.put, List.setIfInBounds_toArray, List.set_cons_zero, List.set_cons_succ]
                           refine listed_as (l2 := #[true, true, true, true, true, true, true, true, true, true, true, false, false, false, true, false]) (by kernel_rfl) ?_
                           revert HZN
                           revert HZ
                           revert H2
                           revert H1
                           revert HA
                           revert HC
                           revert gz
                           revert c2
                           revert n2
                           revert A2
                           revert c1
                           revert n1
                           revert A1
                           revert ga
                           revert x1
                           exact k2_4_5_7_8_10_14.out
                         · go_simp
                           refine (HVI.out w5 (HB.out.trans (HC.out.mono HB.out.size))).mono ?_
                           rintro e x1 ⟨A3, n3, c3, rfl, ho_, hb_⟩
                           have H3 := Lib.hid (ho_.base HC.out.size); clear ho_
                           replace H1 := Lib.hid (H1.out.below hb_ (Nat.le_refl _))
                           replace H2 := Lib.hid (H2.out.below hb_ (Nat.le_refl _))
                           replace HZ := Lib.hid ((hb_.block _ (Array.getElem?_eq_some_iff.1 HZ.out).1).trans HZ.out)
                           replace HC := Lib.hid (HC.out.trans (hb_.mono HC.out.size)); clear hb_
                           refine hK.out _ _ HC.out (fun hS_ => ?_)
                           clear hK K hS_
                           try simp only [Act.put, List.setIfInBounds_toArray, List.set_cons_zero, List.set_cons_succ]
                           refine listed_as (l2 := #[true, true, false, true, true, true, true, true, true, true, true, true, false, false, true, false]) (by kernel_rfl) ?_
                           revert HZN
                           revert HZ
                           revert H3
                           revert H2
                           revert H1
                           revert HC
                           revert gz
                           revert c3
                           revert n3
                           revert A3
                           revert c2
                           revert n2
                           revert A2
                           revert c1
                           revert n1
                           revert A1
                           revert x1
                           exact k4_5_7_8_10_11_14.out
                       case pk4_5_7_8_10_11 =>
                        intro w5 A1 n1 c1 A2 n2 c2 A3 n3 c3 HC H1 H2 H3
                        refine wpAnyH_ready (rs := [2, 14]) (by kernel_rfl) (by simp) ?_
                        refine AllReadyH.cons (o := ⟨_, _, _, _, _, _⟩) rfl (fun K hK => ?_) (AllReadyH.cons (o := ⟨_, _, _, _, _, _⟩) rfl (fun K hK => ?_) AllReadyH.nil)
                        · go_simp
                          have HA : Hid (Rg.Rs KV (w5.alloc (.cells #[.int .i64 hd1, .int .i64 hd2] 26)) (w5.alloc (.cells #[.int .i64 hd1, .int .i64 hd2] 26)).heap.size (some ⟨w5.heap.size, 0, none⟩) [(hda, hdd)]) := Lib.hid (by have h := rs_viewF w5 hda hdd w5.heap.size rfl; rwa [HZ1.out, HZ2.out] at h)
                          have hb_ := bal (Below.refl w5.heap.size w5) (Nat.le_refl _) (.cells #[.int .i64 hd1, .int .i64 hd2] 26)
                          replace H1 := Lib.hid (H1.out.below hb_ (Nat.le_refl _))
                          replace H2 := Lib.hid (H2.out.below hb_ (Nat.le_refl _))
                          replace H3 := Lib.hid (H3.out.below hb_ (Nat.le_refl _))
                          replace HC := Lib.hid (HC.out.trans (hb_.mono HC.out.size)); clear hb_
                          refine hK.out _ _ HC.out (fun hS_ => ?_)
                          clear hK K hS_
                          generalize w5.alloc (.cells #[.int .i64 hd1, .int .i64 hd2] 26) = x1 at HC H1 H2 H3 HA ⊢
                          generalize w5.heap.size = ga at HA ⊢
                          try simp only [Act.put, List.setIfInBounds_toArray, List.set_cons_zero, List.set_cons_succ]
                          refine listed_as (l2 := #[true, true, true, true, true, true, true, true, true, true, true, true, false, false, false, false]) (by kernel_rfl) ?_
                          revert H3
                          revert H2
                          revert H1
                          revert HA
                          revert HC
                          revert c3
                          revert n3
                          revert A3
                          revert c2
                          revert n2
                          revert A2
                          revert c1
                          revert n1
                          revert A1
                          revert ga
                          revert x1
                          exact k2_4_5_7_8_10_11.out
                        · go_simp
                          have HZ := Lib.hid (show (w5.alloc (.cells #[.slice none 0 0] 45)).heap[w5.heap.size]? = some (.cells #[.slice none 0 0] 45) from hat _ _ _ rfl)
                          have HZN := Lib.hid (show w1.heap.size ≤ w5.heap.size from HC.out.size)
                          have hb_ := bal (Below.refl w5.heap.size w5) (Nat.le_refl _) (.cells #[.slice none 0 0] 45)
                          replace H1 := Lib.hid (H1.out.below hb_ (Nat.le_refl _))
                          replace H2 := Lib.hid (H2.out.below hb_ (Nat.le_refl _))
                          replace H3 := Lib.hid (H3.out.below hb_ (Nat.le_refl _))
                          replace HC := Lib.hid (HC.out.trans (hb_.mono HC.out.size)); clear hb_
                          refine hK.out _ _ HC.out (fun hS_ => ?_)
                          clear hK K hS_
                          generalize w5.alloc (.cells #[.slice none 0 0] 45) = x1 at HC H1 H2 H3 HZ ⊢
                          generalize w5.heap.size = gz at HZ HZN ⊢
                          try simp only [Act.put, List.setIfInBounds_toArray, List.set_cons_zero, List.set_cons_succ]
                          refine listed_as (l2 := #[true, true, false, true, true, true, true, true, true, true, true, true, false, false, true, false]) (by kernel_rfl) ?_
                          revert HZN
                          revert HZ
                          revert H3
                          revert H2
                          revert H1
                          revert HC
                          revert gz
                          revert c3
                          revert n3
                          revert A3
                          revert c2
                          revert n2
                          revert A2
                          revert c1
                          revert n1
                          revert A1
                          revert x1
                          exact k4_5_7_8_10_11_14.out
                      case pk4_5_7_8_10_11_14 =>
                       intro w5 A1 n1 c1 A2 n2 c2 A3 n3 c3 gz HC H1 H2 H3 HZ HZN
                       refine wpAnyH_ready (rs := [2]) (by kernel_rfl) (by simp) ?_
                       refine AllReadyH.cons (o := ⟨_, _, _, _, _, _⟩) rfl (fun K hK => ?_) AllReadyH.nil
                       go_simp
                       have HA : Hid (Rg.Rs KV (w5.alloc (.cells #[.int .i64 hd1, .int .i64 hd2] 26)) (w5.alloc (.cells #[.int .i64 hd1, .int .i64 hd2] 26)).heap.size (some ⟨w5.heap.size, 0, none⟩) [(hda, hdd)]) := Lib.hid (by have h := rs_viewF w5 hda hdd w5.heap.size rfl; rwa [HZ1.out, HZ2.out] at h)
                       have hb_ := bal (Below.refl w5.heap.size w5) (Nat.le_refl _) (.cells #[.int .i64 hd1, .int .i64 hd2] 26)
                       replace H1 := Lib.hid (H1.out.below hb_ (Nat.le_refl _))
                       replace H2 := Lib.hid (H2.out.below hb_ (Nat.le_refl _))
                       replace H3 := Lib.hid (H3.out.below hb_ (Nat.le_refl _))
                       replace HZ := Lib.hid ((hb_.block _ (Array.getElem?_eq_some_iff.1 HZ.out).1).trans HZ.out)
                       replace HC := Lib.hid (HC.out.trans (hb_.mono HC.out.size)); clear hb_
                       refine hK.out _ _ HC.out (fun hS_ => ?_)
                       clear hK K hS_
                       generalize w5.alloc (.cells #[.int .i64 hd1, .int .i64 hd2] 26) = x1 at HC H1 H2 H3 HZ HA ⊢
                       generalize w5.heap.size = ga at HA ⊢
                       try simp only [Act.put, List.setIfInBounds_toArray, List.set_cons_zero, List.set_cons_succ]
                       refine listed_as (l2 := #[true, true, true, true, true, true, true, true, true, true, true, true, false, false, true, false]) (by kernel_rfl) ?_
                       revert HZN
                       revert HZ
                       revert H3
                       revert H2
                       revert H1
                       revert HA
                       revert HC
                       revert gz
                       revert c3
                       revert n3
                       revert A3
                       revert c2
                       revert n2
                       revert A2
                       revert c1
                       revert n1
                       revert A1
                       revert ga
                       revert x1
                       exact k2_4_5_7_8_10_11_14.out
                     case pk2 =>
                      intro w5 ga HC HA
                      refine wpAnyH_ready (rs := [4, 14]) (by kernel_rfl) (by simp) ?_
                      refine AllReadyH.cons (o := ⟨_, _, _, _, _, _⟩) rfl (fun K hK => ?_) (AllReadyH.cons (o := ⟨_, _, _, _, _, _⟩) rfl (fun K hK => ?_) AllReadyH.nil)
                      · go_simp
                        refine (HSB.out w5).mono ?_
                        rintro e x1 ⟨rfl, hb_⟩
                        replace HA := Lib.hid ((HA.out.below hb_).more hb_.size)
                        replace HC := Lib.hid (HC.out.trans (hb_.mono HC.out.size)); clear hb_
                        refine hK.out _ _ HC.out (fun hS_ => ?_)
                        clear hK K hS_
                        try simp only [Act.put, List.setIfInBounds_toArray, List.set_cons_zero, List.set_cons_succ]
                        refine listed_as (l2 := #[true, true, true, true, true, false, true, false, false, true, false, false, false, false, false, false]) (by kernel_rfl) ?_
                        revert HA
                        revert HC
                        revert ga
                        revert x1
                        exact k2_4.out
                      · go_simp
                        have HZ := Lib.hid (show (w5.alloc (.cells #[.slice none 0 0] 45)).heap[w5.heap.size]? = some (.cells #[.slice none 0 0] 45) from hat _ _ _ rfl)
                        have HZN := Lib.hid (show w1.heap.size ≤ w5.heap.size from HC.out.size)
                        have hb_ := bal (Below.refl w5.heap.size w5) (Nat.le_refl _) (.cells #[.slice none 0 0] 45)
                        replace HA := Lib.hid ((HA.out.below hb_).more hb_.size)
                        replace HC := Lib.hid (HC.out.trans (hb_.mono HC.out.size)); clear hb_
                        refine hK.out _ _ HC.out (fun hS_ => ?_)
                        clear hK K hS_
                        generalize w5.alloc (.cells #[.slice none 0 0] 45) = x1 at HC HA HZ ⊢
                        generalize w5.heap.size = gz at HZ HZN ⊢
                        try simp only [Act.put, List.setIfInBounds_toArray, List.set_cons_zero, List.set_cons_succ]
                        refine listed_as (l2 := #[true, true, true, true, false, false, true, false, false, true, false, false, false, false, true, false]) (by kernel_rfl) ?_
                        revert HZN
                        revert HZ
                        revert HA
                        revert HC
                        revert gz
                        revert ga
                        revert x1
                        exact k2_14.out
                    case pk2_14 =>
                     intro w5 ga gz HC HA HZ HZN
                     refine wpAnyH_ready (rs := [4]) (by kernel_rfl) (by simp) ?_
                     refine AllReadyH.cons (o := ⟨_, _, _, _, _, _⟩) rfl (fun K hK => ?_) AllReadyH.nil
                     go_simp
                     refine (HSB.out w5).mono ?_
                     rintro e x1 ⟨rfl, hb_⟩
                     replace HA := Lib.hid ((HA.out.below hb_).more hb_.size)
                     replace HZ := Lib.hid ((hb_.block _ (Array.getElem?_eq_some_iff.1 HZ.out).1).trans HZ.out)
                     replace HC := Lib.hid (HC.out.trans (hb_.mono HC.out.size)); clear hb_
                     refine hK.out _ _ HC.out (fun hS_ => ?_)
                     clear hK K hS_
                     try simp only [Act.put, List.setIfInBounds_toArray, List.set_cons_zero, List.set_cons_succ]
                     refine listed_as (l2 := #[true, true, true, true, true, false, true, false, false, true, false, false, false, false, true, false]) (by kernel_rfl) ?_
                     revert HZN
                     revert HZ
                     revert HA
                     revert HC
                     revert gz
                     revert ga
                     revert x1
                     exact k2_4_14.out
                   case pk2_4 =>
                    intro w5 ga HC HA
                    refine wpAnyH_ready (rs := [5, 14]) (by kernel_rfl) (by simp) ?_
                    refine AllReadyH.cons (o := ⟨_, _, _, _, _, _⟩) rfl (fun K hK => ?_) (AllReadyH.cons (o := ⟨_, _, _, _, _, _⟩) rfl (fun K hK => ?_) AllReadyH.nil)
                    · go_simp
                      refine (HVB.out w5 (HB.out.trans (HC.out.mono HB.out.size))).mono ?_
                      rintro e x1 ⟨A1, n1, c1, rfl, ho_, hb_⟩
                      have H1 := Lib.hid (ho_.base HC.out.size); clear ho_
                      replace HA := Lib.hid ((HA.out.below hb_).more hb_.size)
                      replace HC := Lib.hid (HC.out.trans (hb_.mono HC.out.size)); clear hb_
                      refine hK.out _ _ HC.out (fun hS_ => ?_)
                      clear hK K hS_
                      try simp only [Act.put, List.setIfInBounds_toArray, List.set_cons_zero, List.set_cons_succ]
                      refine listed_as (l2 := #[true, true, true, true, true, true, true, false, false, true, false, false, false, false, false, false]) (by kernel_rfl) ?_
                      revert H1
                      revert HA
                      revert HC
                      revert c1
                      revert n1
                      revert A1
                      revert ga
                      revert x1
                      exact k2_4_5.out
                    · go_simp
                      have HZ := Lib.hid (show (w5.alloc (.cells #[.slice none 0 0] 45)).heap[w5.heap.size]? = some (.cells #[.slice none 0 0] 45) from hat _ _ _ rfl)
                      have HZN := Lib.hid (show w1.heap.size ≤ w5.heap.size from HC.out.size)
                      have hb_ := bal (Below.refl w5.heap.size w5) (Nat.le_refl _) (.cells #[.slice none 0 0] 45)
                      replace HA := Lib.hid ((HA.out.below hb_).more hb_.size)
                      replace HC := Lib.hid (HC.out.trans (hb_.mono HC.out.size)); clear hb_
                      refine hK.out _ _ HC.out (fun hS_ => ?_)
                      clear hK K hS_
                      generalize w5.alloc (.cells #[.slice none 0 0] 45) = x1 at HC HA HZ ⊢
                      generalize w5.heap.size = gz at HZ HZN ⊢
                      try simp only [Act.put, List.setIfInBounds_toArray, List.set_cons_zero, List.set_cons_succ]
                      refine listed_as (l2 := #[true, true, true, true, true, false, true, false, false, true, false, false, false, false, true, false]) (by kernel_rfl) ?_
                      revert HZN
                      revert HZ
                      revert HA
                      revert HC
                      revert gz
                      revert ga
                      revert x1
                      exact k2_4_14.out
                  case pk2_4_14 =>
                   intro w5 ga gz HC HA HZ HZN
                   refine wpAnyH_ready (rs := [5]) (by kernel_rfl) (by simp) ?_
                   refine AllReadyH.cons (o := ⟨_, _, _, _, _, _⟩) rfl (fun K hK => ?_) AllReadyH.nil
                   go_simp
                   refine (HVB.out w5 (HB.out.trans (HC.out.mono HB.out.size))).mono ?_
                   rintro e x1 ⟨A1, n1, c1, rfl, ho_, hb_⟩
                   have H1 := Lib.hid (ho_.base HC.out.size); clear ho_
                   replace HA := Lib.hid ((HA.out.below hb_).more hb_.size)
                   replace HZ := Lib.hid ((hb_.block _ (Array.getElem?_eq_some_iff.1 HZ.out).1).trans HZ.out)
                   replace HC := Lib.hid (HC.out.trans (hb_.mono HC.out.size)); clear hb_
                   refine hK.out _ _ HC.out (fun hS_ => ?_)
                   clear hK K hS_
                   try simp only [Act.put, List.setIfInBounds_toArray, List.set_cons_zero, List.set_cons_succ]
                   refine listed_as (l2 := #[true, true, true, true, true, true, true, false, false, true, false, false, false, false, true, false]) (by kernel_rfl) ?_
                   revert HZN
                   revert HZ
                   revert H1
                   revert HA
                   revert HC
                   revert gz
                   revert c1
                   revert n1
                   revert A1
                   revert ga
                   revert x1
                   exact k2_4_5_14.out
                 case pk2_4_5 =>
                  intro w5 ga A1 n1 c1 HC HA H1
                  refine wpAnyH_ready (rs := [7, 14]) (by kernel_rfl) (by simp) ?_
                  refine AllReadyH.cons (o := ⟨_, _, _, _, _, _⟩) rfl (fun K hK => ?_) (AllReadyH.cons (o := ⟨_, _, _, _, _, _⟩) rfl (fun K hK => ?_) AllReadyH.nil)
                  · go_simp
                    refine (HSC.out w5).mono ?_
                    rintro e x1 ⟨rfl, hb_⟩
                    replace HA := Lib.hid ((HA.out.below hb_).more hb_.size)
                    replace H1 := Lib.hid (H1.out.below hb_ (Nat.le_refl _))
                    replace HC := Lib.hid (HC.out.trans (hb_.mono HC.out.size)); clear hb_
                    refine hK.out _ _ HC.out (fun hS_ => ?_)
                    clear hK K hS_
                    try simp only [Act.put, List.setIfInBounds_toArray, List.set_cons_zero, List.set_cons_succ]
                    refine listed_as (l2 := #[true, true, true, true, true, true, true, true, false, true, false, false, false, false, false, false]) (by kernel_rfl) ?_
                    revert H1
                    revert HA
                    revert HC
                    revert c1
                    revert n1
                    revert A1
                    revert ga
                    revert x1
                    exact k2_4_5_7.out
                  · go_simp
                    have HZ := Lib.hid (show (w5.alloc (.cells #[.slice none 0 0] 45)).heap[w5.heap.size]? = some (.cells #[.slice none 0 0] 45) from hat _ _ _ rfl)
                    have HZN := Lib.hid (show w1.heap.size ≤ w5.heap.size from HC.out.size)
                    have hb_ := bal (Below.refl w5.heap.size w5) (Nat.le_refl _) (.cells #[.slice none 0 0] 45)
                    replace HA := Lib.hid ((HA.out.below hb_).more hb_.size)
                    replace H1 := Lib.hid (H1.out.below hb_ (Nat.le_refl _))
                    replace HC := Lib.hid (HC.out.trans (hb_.mono HC.out.size)); clear hb_
                    refine hK.out _ _ HC.out (fun hS_ => ?_)
                    clear hK K hS_
                    generalize w5.alloc (.cells #[.slice none 0 0] 45) = x1 at HC HA H1 HZ ⊢
                    generalize w5.heap.size = gz at HZ HZN ⊢
                    try simp only [Act.put, List.setIfInBounds_toArray, List.set_cons_zero, List.set_cons_succ]
                    refine listed_as (l2 := #[true, true, true, true, true, true, true, false, false, true, false, false, false, false, true, false]) (by kernel_rfl) ?_
                    revert HZN
                    revert HZ
                    revert H1
                    revert HA
                    revert HC
                    revert gz
                    revert c1
                    revert n1
                    revert A1
                    revert ga
                    revert x1
                    exact k2_4_5_14.out
                case pk2_4_5_14 =>
                 intro w5 ga A1 n1 c1 gz HC HA H1 HZ HZN
                 refine wpAnyH_ready (rs := [7]) (by kernel_rfl) (by simp) ?_
                 refine AllReadyH.cons (o := ⟨_, _, _, _, _, _⟩) rfl (fun K hK => ?_) AllReadyH.nil
                 go_simp
                 refine (HSC.out w5).mono ?_
                 rintro e x1 ⟨rfl, hb_⟩
                 replace HA := Lib.hid ((HA.out.below hb_).more hb_.size)
                 replace H1 := Lib.hid (H1.out.below hb_ (Nat.le_refl _))
                 replace HZ := Lib.hid ((hb_.block _ (Array.getElem?_eq_some_iff.1 HZ.out).1).trans HZ.out)
                 replace HC := Lib.hid (HC.out.trans (hb_.mono HC.out.size)); clear hb_
                 refine hK.out _ _ HC.out (fun hS_ => ?_)
                 clear hK K hS_
                 try simp only [Act.put, List.setIfInBounds_toArray, List.set_cons_zero, List.set_cons_succ]
                 refine listed_as (l2 := #[true, true, true, true, true, true, true, true, false, true, false, false, false, false, true, false]) (by kernel_rfl) ?_
                 revert HZN
                 revert HZ
                 revert H1
                 revert HA
                 revert HC
                 revert gz
                 revert c1
                 revert n1
                 revert A1
                 revert ga
                 revert x1
                 exact k2_4_5_7_14.out
               case pk2_4_5_7 =>
                intro w5 ga A1 n1 c1 HC HA H1
                refine wpAnyH_ready (rs := [8, 14]) (by kernel_rfl) (by simp) ?_
                refine AllReadyH.cons (o := ⟨_, _, _, _, _, _⟩) rfl (fun K hK => ?_) (AllReadyH.cons (o := ⟨_, _, _, _, _, _⟩) rfl (fun K hK => ?_) AllReadyH.nil)
                · go_simp
                  refine (HVC.out w5 (HB.out.trans (HC.out.mono HB.out.size))).mono ?_
                  rintro e x1 ⟨A2, n2, c2, rfl, ho_, hb_⟩
                  have H2 := Lib.hid (ho_.base HC.out.size); clear ho_
                  replace HA := Lib.hid ((HA.out.below hb_).more hb_.size)
                  replace H1 := Lib.hid (H1.out.below hb_ (Nat.le_refl _))
                  replace HC := Lib.hid (HC.out.trans (hb_.mono HC.out.size)); clear hb_
                  refine hK.out _ _ HC.out (fun hS_ => ?_)
                  clear hK K hS_
                  try simp only [Act.put, List.setIfInBounds_toArray, List.set_cons_zero, List.set_cons_succ]
                  refine listed_as (l2 := #[true, true, true, true, true, true, true, true, true, true, false, false, false, false, false, false]) (by kernel_rfl) ?_
                  revert H2
                  revert H1
                  revert HA
                  revert HC
                  revert c2
                  revert n2
                  revert A2
                  revert c1
                  revert n1
                  revert A1
                  revert ga
                  revert x1
                  exact k2_4_5_7_8.out
                · go_simp
                  have HZ := Lib.hid (show (w5.alloc (.cells #[.slice none 0 0] 45)).heap[w5.heap.size]? = some (.cells #[.slice none 0 0] 45) from hat _ _ _ rfl)
                  have HZN := Lib.hid (show w1.heap.size ≤ w5.heap.size from HC.out.size)
                  have hb_ := bal (Below.refl w5.heap.size w5) (Nat.le_refl _) (.cells #[.slice none 0 0] 45)
                  replace HA := Lib.hid ((HA.out.below hb_).more hb_.size)
                  replace H1 := Lib.hid (H1.out.below hb_ (Nat.le_refl _))
                  replace HC := Lib.hid (HC.out.trans (hb_.mono HC.out.size)); clear hb_
                  refine hK.out _ _ HC.out (fun hS_ => ?_)
                  clear hK K hS_
                  generalize w5.alloc (.cells #[.slice none 0 0] 45) = x1 at HC HA H1 HZ ⊢
                  generalize w5.heap.size = gz at HZ HZN ⊢
                  try simp only [Act.put, List.setIfInBounds_toArray, List.set_cons_zero, List.set_cons_succ]
                  refine listed_as (l2 := #[true, true, true, true, true, true, true, true, false, true, false, false, false, false, true, false]) (by kernel_rfl) ?_
                  revert HZN
                  revert HZ
                  revert H1
                  revert HA
                  revert HC
                  revert gz
                  revert c1
                  revert n1
                  revert A1
                  revert ga
                  revert x1
                  exact k2_4_5_7_14.out
              case pk2_4_5_7_14 =>
               intro w5 ga A1 n1 c1 gz HC HA H1 HZ HZN
               refine wpAnyH_ready (rs := [8]) (by kernel_rfl) (by simp) ?_
               refine AllReadyH.cons (o := ⟨_, _, _, _, _, _⟩) rfl (fun K hK => ?_) AllReadyH.nil
               go_simp
               refine (HVC.out w5 (HB.out.trans (HC.out.mono HB.out.size))).mono ?_
               rintro e x1 ⟨A2, n2, c2, rfl, ho_, hb_⟩
               have H2 := Lib.hid (ho_.base HC.out.size); clear ho_
               replace HA := Lib.hid ((HA.out.below hb_).more hb_.size)
               replace H1 := Lib.hid (H1.out.below hb_ (Nat.le_refl _))
               replace HZ := Lib.hid ((hb_.block _ (Array.getElem?_eq_some_iff.1 HZ.out).1).trans HZ.out)
               replace HC := Lib.hid (HC.out.trans (hb_.mono HC.out.size)); clear hb_
               refine hK.out _ _ HC.out (fun hS_ => ?_)
               clear hK K hS_
               try simp only [Act.put, List.setIfInBounds_toArray, List.set_cons_zero, List.set_cons_succ]
               refine listed_as (l2 := #[true, true, true, true, true, true, true, true, true, true, false, false, false, false, true, false]) (by kernel_rfl) ?_
               revert HZN
               revert HZ
               revert H2
               revert H1
               revert HA
               revert HC
               revert gz
               revert c2
               revert n2
               revert A2
               revert c1
               revert n1
               revert A1
               revert ga
               revert x1
               exact k2_4_5_7_8_14.out
             case pk2_4_5_7_8 =>
              intro w5 ga A1 n1 c1 A2 n2 c2 HC HA H1 H2
              refine wpAnyH_ready (rs := [10, 14]) (by kernel_rfl) (by simp) ?_
              refine AllReadyH.cons (o := ⟨_, _, _, _, _, _⟩) rfl (fun K hK => ?_) (AllReadyH.cons (o := ⟨_, _, _, _, _, _⟩) rfl (fun K hK => ?_) AllReadyH.nil)
              · go_simp
                refine (HSI.out w5).mono ?_
                rintro e x1 ⟨rfl, hb_⟩
                replace HA := Lib.hid ((HA.out.below hb_).more hb_.size)
                replace H1 := Lib.hid (H1.out.below hb_ (Nat.le_refl _))
                replace H2 := Lib.hid (H2.out.below hb_ (Nat.le_refl _))
                replace HC := Lib.hid (HC.out.trans (hb_.mono HC.out.size)); clear hb_
                refine hK.out _ _ HC.out (fun hS_ => ?_)
                clear hK K hS_
                try simp only [Act.put, List.setIfInBounds_toArray, List.set_cons_zero, List.set_cons_succ]
                refine listed_as (l2 := #[true, true, true, true, true, true, true, true, true, true, true, false, false, false, false, false]) (by kernel_rfl) ?_
                revert H2
                revert H1
                revert HA
                revert HC
                revert c2
                revert n2
                revert A2
                revert c1
                revert n1
                revert A1
                revert ga
                revert x1
                exact k2_4_5_7_8_10.out
              · go_simp
                have HZ := Lib.hid (show (w5.alloc (.cells #[.slice none 0 0] 45)).heap[w5.heap.size]? = some (.cells #[.slice none 0 0] 45) from hat _ _ _ rfl)
                have HZN := Lib.hid (show w1.heap.size ≤ w5.heap.size from HC.out.size)
                have hb_ := bal (Below.refl w5.heap.size w5) (Nat.le_refl _) (.cells #[.slice none 0 0] 45)
                replace HA := Lib.hid ((HA.out.below hb_).more hb_.size)
                replace H1 := Lib.hid (H1.out.below hb_ (Nat.le_refl _))
                replace H2 := Lib.hid (H2.out.below hb_ (Nat.le_refl _))
                replace HC := Lib.hid (HC.out.trans (hb_.mono HC.out.size)); clear hb_
                refine hK.out _ _ HC.out (fun hS_ => ?_)
                clear hK K hS_
                generalize w5.alloc (.cells #[.slice none 0 0] 45) = x1 at HC HA H1 H2 HZ ⊢
                generalize w5.heap.size = gz at HZ HZN ⊢
                try simp only [Act.put, List.setIfInBounds_toArray, List.set_cons_zero, List.set_cons_succ]
                refine listed_as (l2 := #[true, true, true, true, true, true, true, true, true, true, false, false, false, false, true, false]) (by kernel_rfl) ?_
                revert HZN
                revert HZ
                revert H2
                revert H1
                revert HA
                revert HC
                revert gz
                revert c2
                revert n2
                revert A2
                revert c1
                revert n1
                revert A1
                revert ga
                revert x1
                exact k2_4_5_7_8_14.out
            case pk2_4_5_7_8_14 =>
             intro w5 ga A1 n1 c1 A2 n2 c2 gz HC HA H1 H2 HZ HZN
             refine wpAnyH_ready (rs := [10]) (by kernel_rfl) (by simp) ?_
             refine AllReadyH.cons (o := ⟨_, _, _, _, _, _⟩) rfl (fun K hK => ?_) AllReadyH.nil
             go_simp
             refine (HSI.out w5).mono ?_
             rintro e x1 ⟨rfl, hb_⟩
             replace HA := Lib.hid ((HA.out.below hb_).more hb_.size)
             replace H1 := Lib.hid (H1.out.below hb_ (Nat.le_refl _))
             replace H2 := Lib.hid (H2.out.below hb_ (Nat.le_refl _))
             replace HZ := Lib.hid ((hb_.block _ (Array.getElem?_eq_some_iff.1 HZ.out).1).trans HZ.out)
             replace HC := Lib.hid (HC.out.trans (hb_.mono HC.out.size)); clear hb_
             refine hK.out _ _ HC.out (fun hS_ => ?_)
             clear hK K hS_
             try simp only [Act.put, List.setIfInBounds_toArray, List.set_cons_zero, List.set_cons_succ]
             refine listed_as (l2 := #[true, true, true, true, true, true, true, true, true, true, true, false, false, false, true, false]) (by kernel_rfl) ?_
             revert HZN
             revert HZ
             revert H2
             revert H1
             revert HA
             revert HC
             revert gz
             revert c2
             revert n2
             revert A2
             revert c1
             revert n1
             revert A1
             revert ga
             revert x1
             exact k2_4_5_7_8_10_14.out
           case pk2_4_5_7_8_10 =>
            intro w5 ga A1 n1 c1 A2 n2 c2 HC HA H1 H2
            refine wpAnyH_ready (rs := [11, 14]) (by kernel_rfl) (by simp) ?_
            refine AllReadyH.cons (o := ⟨_, _, _, _, _, _⟩) rfl (fun K hK => ?_) (AllReadyH.cons (o := ⟨_, _, _, _, _, _⟩) rfl (fun K hK => ?_) AllReadyH.nil)
            · go_simp
              refine (HVI.out w5 (HB.out.trans (HC.out.mono HB.out.size))).mono ?_
              rintro e x1 ⟨A3, n3, c3, rfl, ho_, hb_⟩
              have H3 := Lib.hid (ho_.base HC.out.size); clear ho_
              replace HA := Lib.hid ((HA.out.below hb_).more hb_.size)
              replace H1 := Lib.hid (H1.out.below hb_ (Nat.le_refl _))
              replace H2 := Lib.hid (H2.out.below hb_ (Nat.le_refl _))
              replace HC := Lib.hid (HC.out.trans (hb_.mono HC.out.size)); clear hb_
              refine hK.out _ _ HC.out (fun hS_ => ?_)
              clear hK K hS_
              try simp only [Act.put, List.setIfInBounds_toArray, List.set_cons_zero, List.set_cons_succ]
              refine listed_as (l2 := #[true, true, true, true, true, true, true, true, true, true, true, true, false, false, false, false]) (by kernel_rfl) ?_
              revert H3
              revert H2
              revert H1
              revert HA
              revert HC
              revert c3
              revert n3
              revert A3
              revert c2
              revert n2
              revert A2
              revert c1
              revert n1
              revert A1
              revert ga
              revert x1
              exact k2_4_5_7_8_10_11.out
            · go_simp
              have HZ := Lib.hid (show (w5.alloc (.cells #[.slice none 0 0] 45)).heap[w5.heap.size]? = some (.cells #[.slice none 0 0] 45) from hat _ _ _ rfl)
              have HZN := Lib.hid (show w1.heap.size ≤ w5.heap.size from HC.out.size)
              have hb_ := bal (Below.refl w5.heap.size w5) (Nat.le_refl _) (.cells #[.slice none 0 0] 45)
              replace HA := Lib.hid ((HA.out.below hb_).more hb_.size)
              replace H1 := Lib.hid (H1.out.below hb_ (Nat.le_refl _))
              replace H2 := Lib.hid (H2.out.below hb_ (Nat.le_refl _))
              replace HC := Lib.hid (HC.out.trans (hb_.mono HC.out.size)); clear hb_
              refine hK.out _ _ HC.out (fun hS_ => ?_)
              clear hK K hS_
              generalize w5.alloc (.cells #[.slice none 0 0] 45) = x1 at HC HA H1 H2 HZ ⊢
              generalize w5.heap.size = gz at HZ HZN ⊢
              try simp only [Act.put, List.setIfInBounds_toArray, List.set_cons_zero, List.set_cons_succ]
              refine listed_as (l2 := #[true, true, true, true, true, true, true, true, true, true, true, false, false, false, true, false]) (by kernel_rfl) ?_
              revert HZN
              revert HZ
              revert H2
              revert H1
              revert HA
              revert HC
              revert gz
              revert c2
              revert n2
              revert A2
              revert c1
              revert n1
              revert A1
              revert ga
              revert x1
              exact k2_4_5_7_8_10_14.out
          case pk2_4_5_7_8_10_14 =>
           intro w5 ga A1 n1 c1 A2 n2 c2 gz HC HA H1 H2 HZ HZN
           refine wpAnyH_ready (rs := [11]) (by kernel_rfl) (by simp) ?_
           refine AllReadyH.cons (o := ⟨_, _, _, _, _, _⟩) rfl (fun K hK => ?_) AllReadyH.nil
           go_simp
           refine (HVI.out w5 (HB.out.trans (HC.out.mono HB.out.size))).mono ?_
           rintro e x1 ⟨A3, n3, c3, rfl, ho_, hb_⟩
           have H3 := Lib.hid (ho_.base HC.out.size); clear ho_
           replace HA := Lib.hid ((HA.out.below hb_).more hb_.size)
           replace H1 := Lib.hid (H1.out.below hb_ (Nat.le_refl _))
           replace H2 := Lib.hid (H2.out.below hb_ (Nat.le_refl _))
           replace HZ := Lib.hid ((hb_.block _ (Array.getElem?_eq_some_iff.1 HZ.out).1).trans HZ.out)
           replace HC := Lib.hid (HC.out.trans (hb_.mono HC.out.size)); clear hb_
           refine hK.out _ _ HC.out (fun hS_ => ?_)
           clear hK K hS_
           try simp only [Act.put, List.setIfInBounds_toArray, List.set_cons_zero, List.set_cons_succ]
           refine listed_as (l2 := #[true, true, true, true, true, true, true, true, true, true, true, true, false, false, true, false]) (by kernel_rfl) ?_
           revert HZN
           revert HZ
           revert H3
           revert H2
           revert H1
           revert HA
           revert HC
           revert gz
           revert c3
           revert n3
           revert A3
           revert c2
           revert n2
           revert A2
           revert c1
           revert n1
           revert A1
           revert ga
           revert x1
           exact k2_4_5_7_8_10_11_14.out
         case pk2_4_5_7_8_10_11 =>
          intro w5 ga A1 n1 c1 A2 n2 c2 A3 n3 c3 HC HA H1 H2 H3
          refine wpAnyH_ready (rs := [12, 14]) (by kernel_rfl) (by simp) ?_
          refine AllReadyH.cons (o := ⟨_, _, _, _, _, _⟩) rfl (fun K hK => ?_) (AllReadyH.cons (o := ⟨_, _, _, _, _, _⟩) rfl (fun K hK => ?_) AllReadyH.nil)
          · go_simp
            have HP := Lib.hid (show (w5.alloc (.cells #[.slice (some ⟨ga, 0, none⟩) 1 1, .slice A1 n1 c1, .slice A2 n2 c2, .slice A3 n3 c3] 45)).heap[w5.heap.size]? = some (.cells #[.slice (some ⟨ga, 0, none⟩) 1 1, .slice A1 n1 c1, .slice A2 n2 c2, .slice A3 n3 c3] 45) from hat _ _ _ rfl)
            have hb_ := bal (Below.refl w5.heap.size w5) (Nat.le_refl _) (.cells #[.slice (some ⟨ga, 0, none⟩) 1 1, .slice A1 n1 c1, .slice A2 n2 c2, .slice A3 n3 c3] 45)
            replace HA := Lib.hid ((HA.out.below hb_).more hb_.size)
            replace H1 := Lib.hid (H1.out.below hb_ (Nat.le_refl _))
            replace H2 := Lib.hid (H2.out.below hb_ (Nat.le_refl _))
            replace H3 := Lib.hid (H3.out.below hb_ (Nat.le_refl _))
            replace HC := Lib.hid (HC.out.trans (hb_.mono HC.out.size)); clear hb_
            refine hK.out _ _ HC.out (fun hS_ => ?_)
            clear hK K hS_
            generalize w5.alloc (.cells #[.slice (some ⟨ga, 0, none⟩) 1 1, .slice A1 n1 c1, .slice A2 n2 c2, .slice A3 n3 c3] 45) = x1 at HC HA H1 H2 H3 HP ⊢
            generalize w5.heap.size = gp at HP ⊢
            try simp only [Act.put, List.setIfInBounds_toArray, List.set_cons_zero, List.set_cons_succ]
            refine listed_as (l2 := #[true, true, true, true, true, true, true, true, true, true, true, true, true, false, false, false]) (by kernel_rfl) ?_
            revert HP
            revert H3
            revert H2
            revert H1
            revert HA
            revert HC
            revert gp
            revert c3
            revert n3
            revert A3
            revert c2
            revert n2
            revert A2
            revert c1
            revert n1
            revert A1
            revert ga
            revert x1
            exact k2_4_5_7_8_10_11_12.out
          · go_simp
            have HZ := Lib.hid (show (w5.alloc (.cells #[.slice none 0 0] 45)).heap[w5.heap.size]? = some (.cells #[.slice none 0 0] 45) from hat _ _ _ rfl)
            have HZN := Lib.hid (show w1.heap.size ≤ w5.heap.size from HC.out.size)
            have hb_ := bal (Below.refl w5.heap.size w5) (Nat.le_refl _) (.cells #[.slice none 0 0] 45)
            replace HA := Lib.hid ((HA.out.below hb_).more hb_.size)
            replace H1 := Lib.hid (H1.out.below hb_ (Nat.le_refl _))
            replace H2 := Lib.hid (H2.out.below hb_ (Nat.le_refl _))
            replace H3 := Lib.hid (H3.out.below hb_ (Nat.le_refl _))
            replace HC := Lib.hid (HC.out.trans (hb_.mono HC.out.size)); clear hb_
            refine hK.out _ _ HC.out (fun hS_ => ?_)
            clear hK K hS_
            generalize w5.alloc (.cells #[.slice none 0 0] 45) = x1 at HC HA H1 H2 H3 HZ ⊢
            generalize w5.heap.size = gz at HZ HZN ⊢
            try simp only [Act.put, List.setIfInBounds_toArray, List.set_cons_zero, List.set_cons_succ]
            refine listed_as (l2 := #[true, true, true, true, true, true, true, true, true, true, true, true, false, false, true, false]) (by kernel_rfl) ?_
            revert HZN
            revert HZ
            revert H3
            revert H2
            revert H1
            revert HA
            revert HC
            revert gz
            revert c3
            revert n3
            revert A3
            revert c2
            revert n2
            revert A2
            revert c1
            revert n1
            revert A1
            revert ga
            revert x1
            exact k2_4_5_7_8_10_11_14.out
        case pk2_4_5_7_8_10_11_14 =>
         intro w5 ga A1 n1 c1 A2 n2 c2 A3 n3 c3 gz HC HA H1 H2 H3 HZ HZN
         refine wpAnyH_ready (rs := [12]) (by kernel_rfl) (by simp) ?_
         refine AllReadyH.cons (o := ⟨_, _, _, _, _, _⟩) rfl (fun K hK => ?_) AllReadyH.nil
         go_simp
         have HP := Lib.hid (show (w5.alloc (.cells #[.slice (some ⟨ga, 0, none⟩) 1 1, .slice A1 n1 c1, .slice A2 n2 c2, .slice A3 n3 c3] 45)).heap[w5.heap.size]? = some (.cells #[.slice (some ⟨ga, 0, none⟩) 1 1, .slice A1 n1 c1, .slice A2 n2 c2, .slice A3 n3 c3] 45) from hat _ _ _ rfl)
         have hb_ := bal (Below.refl w5.heap.size w5) (Nat.le_refl _) (.cells #[.slice (some ⟨ga, 0, none⟩) 1 1, .slice A1 n1 c1, .slice A2 n2 c2, .slice A3 n3 c3] 45)
         replace HA := Lib.hid ((HA.out.below hb_).more hb_.size)
         replace H1 := Lib.hid (H1.out.below hb_ (Nat.le_refl _))
         replace H2 := Lib.hid (H2.out.below hb_ (Nat.le_refl _))
         replace H3 := Lib.hid (H3.out.below hb_ (Nat.le_refl _))
         replace HZ := Lib.hid ((hb_.block _ (Array.getElem?_eq_some_iff.1 HZ.out).1).trans HZ.out)
         replace HC := Lib.hid (HC.out.trans (hb_.mono HC.out.size)); clear hb_
         refine hK.out _ _ HC.out (fun hS_ => ?_)
         clear hK K hS_
         generalize w5.alloc (.cells #[.slice (some ⟨ga, 0, none⟩) 1 1, .slice A1 n1 c1, .slice A2 n2 c2, .slice A3 n3 c3] 45) = x1 at HC HA H1 H2 H3 HZ HP ⊢
         generalize w5.heap.size = gp at HP ⊢
         try simp only [Act.put, List.setIfInBounds_toArray, List.set_cons_zero, List.set_cons_succ]
         refine listed_as (l2 := #[true, true, true, true, true, true, true, true, true, true, true, true, true, false, true, false]) (by kernel_rfl) ?_
         revert HZN
         revert HP
         revert HZ
         revert H3
         revert H2
         revert H1
         revert HA
         revert HC
         revert gp
         revert gz
         revert c3
         revert n3
         revert A3
         revert c2
         revert n2
         revert A2
         revert c1
         revert n1
         revert A1
         revert ga
         revert x1
         exact k2_4_5_7_8_10_11_12_14.out
       case pk2_4_5_7_8_10_11_12 =>
        intro w5 ga A1 n1 c1 A2 n2 c2 A3 n3 c3 gp HC HA H1 H2 H3 HP
        refine wpAnyH_ready (rs := [13, 14]) (by kernel_rfl) (by simp) ?_
        refine AllReadyH.cons (o := ⟨_, _, _, _, _, _⟩) rfl (fun K hK => ?_) (AllReadyH.cons (o := ⟨_, _, _, _, _, _⟩) rfl (fun K hK => ?_) AllReadyH.nil)
        · go_simp
          have hpt : Pts w5 gp [(⟨some ⟨ga, 0, none⟩, 1, 1⟩, [(hda, hdd)]), (⟨A1, n1, c1⟩, l1), (⟨A2, n2, c2⟩, l2), (⟨A3, n3, c3⟩, l3)] := ⟨HP.out, fun p hp => by
            simp only [List.mem_cons, List.not_mem_nil, or_false] at hp
            rcases hp with rfl | rfl | rfl | rfl
            · exact ⟨rfl, by show 1 ≤ 4097; omega, HA.out⟩
            · exact ⟨H1.out.1, by have := H1.out.1; have := HL1.out; show n1 ≤ 4097; omega, H1.out.rs⟩
            · exact ⟨H2.out.1, by have := H2.out.1; have := HL2.out; show n2 ≤ 4097; omega, H2.out.rs⟩
            · exact ⟨H3.out.1, by have := H3.out.1; have := HL3.out; show n3 ≤ 4097; omega, H3.out.rs⟩⟩
          refine (concat_v gp _ 4 4 rfl (Nat.le_refl _) w5 hpt).mono ?_
          clear hpt
          rintro e x1 ⟨AR, nR, cR, rfl, ho_, hb_⟩
          have HR : Hid (Rg.OwnG KV x1 w1.heap.size AR nR cR LL) := Lib.hid (by have h := ho_.base HC.out.size; rw [← HALL.out]; exact h)
          clear ho_
          replace HC := Lib.hid (HC.out.trans (hb_.mono HC.out.size)); clear hb_ HA H1 H2 H3 HP
          refine hK.out _ _ HC.out (fun hS_ => ?_)
          clear hK K hS_
          try simp only [Act.put, List.setIfInBounds_toArray, List.set_cons_zero, List.set_cons_succ]
          refine listed_as (l2 := #[true, true, true, true, true, true, true, true, true, true, true, true, true, true, false, false]) (by kernel_rfl) ?_
          revert HR
          revert HC
          revert cR
          revert nR
          revert AR
          revert gp
          revert c3
          revert n3
          revert A3
          revert c2
          revert n2
          revert A2
          revert c1
          revert n1
          revert A1
          revert ga
          revert x1
          exact k2_4_5_7_8_10_11_12_13.out
        · go_simp
          have HZ := Lib.hid (show (w5.alloc (.cells #[.slice none 0 0] 45)).heap[w5.heap.size]? = some (.cells #[.slice none 0 0] 45) from hat _ _ _ rfl)
          have HZN := Lib.hid (show w1.heap.size ≤ w5.heap.size from HC.out.size)
          have hb_ := bal (Below.refl w5.heap.size w5) (Nat.le_refl _) (.cells #[.slice none 0 0] 45)
          replace HA := Lib.hid ((HA.out.below hb_).more hb_.size)
          replace H1 := Lib.hid (H1.out.below hb_ (Nat.le_refl _))
          replace H2 := Lib.hid (H2.out.below hb_ (Nat.le_refl _))
          replace H3 := Lib.hid (H3.out.below hb_ (Nat.le_refl _))
          replace HP := Lib.hid ((hb_.block _ (Array.getElem?_eq_some_iff.1 HP.out).1).trans HP.out)
          replace HC := Lib.hid (HC.out.trans (hb_.mono HC.out.size)); clear hb_
          refine hK.out _ _ HC.out (fun hS_ => ?_)
          clear hK K hS_
          generalize w5.alloc (.cells #[.slice none 0 0] 45) = x1 at HC HA H1 H2 H3 HP HZ ⊢
          generalize w5.heap.size = gz at HZ HZN ⊢
          try simp only [Act.put, List.setIfInBounds_toArray, List.set_cons_zero, List.set_cons_succ]
          refine listed_as (l2 := #[true, true, true, true, true, true, true, true, true, true, true, true, true, false, true, false]) (by kernel_rfl) ?_
          revert HZN
          revert HP
          revert HZ
          revert H3
          revert H2
          revert H1
          revert HA
          revert HC
          revert gp
          revert gz
          revert c3
          revert n3
          revert A3
          revert c2
          revert n2
          revert A2
          revert c1
          revert n1
          revert A1
          revert ga
          revert x1
          exact k2_4_5_7_8_10_11_12_14.out
      case pk2_4_5_7_8_10_11_12_14 =>
       intro w5 ga A1 n1 c1 A2 n2 c2 A3 n3 c3 gz gp HC HA H1 H2 H3 HZ HP HZN
       refine wpAnyH_ready (rs := [13]) (by kernel_rfl) (by simp) ?_
       refine AllReadyH.cons (o := ⟨_, _, _, _, _, _⟩) rfl (fun K hK => ?_) AllReadyH.nil
       go_simp
       have hpt : Pts w5 gp [(⟨some ⟨ga, 0, none⟩, 1, 1⟩, [(hda, hdd)]), (⟨A1, n1, c1⟩, l1), (⟨A2, n2, c2⟩, l2), (⟨A3, n3, c3⟩, l3)] := ⟨HP.out, fun p hp => by
         simp only [List.mem_cons, List.not_mem_nil, or_false] at hp
         rcases hp with rfl | rfl | rfl | rfl
         · exact ⟨rfl, by show 1 ≤ 4097; omega, HA.out⟩
         · exact ⟨H1.out.1, by have := H1.out.1; have := HL1.out; show n1 ≤ 4097; omega, H1.out.rs⟩
         · exact ⟨H2.out.1, by have := H2.out.1; have := HL2.out; show n2 ≤ 4097; omega, H2.out.rs⟩
         · exact ⟨H3.out.1, by have := H3.out.1; have := HL3.out; show n3 ≤ 4097; omega, H3.out.rs⟩⟩
       refine (concat_v gp _ 4 4 rfl (Nat.le_refl _) w5 hpt).mono ?_
       clear hpt
       rintro e x1 ⟨AR, nR, cR, rfl, ho_, hb_⟩
       have HR : Hid (Rg.OwnG KV x1 w1.heap.size AR nR cR LL) := Lib.hid (by have h := ho_.base HC.out.size; rw [← HALL.out]; exact h)
       clear ho_
       replace HZ := Lib.hid ((hb_.block _ (Array.getElem?_eq_some_iff.1 HZ.out).1).trans HZ.out)
       replace HC := Lib.hid (HC.out.trans (hb_.mono HC.out.size)); clear hb_ HA H1 H2 H3 HP
       refine hK.out _ _ HC.out (fun hS_ => ?_)
       clear hK K hS_
       try simp only [Act.put, List.setIfInBounds_toArray, List.set_cons_zero, List.set_cons_succ]
       refine listed_as (l2 := #[true, true, true, true, true, true, true, true, true, true, true, true, true, true, true, false]) (by kernel_rfl) ?_
       revert HZN
       revert HR
       revert HZ
       revert HC
       revert cR
       revert nR
       revert AR
       revert gp
       revert gz
       revert c3
       revert n3
       revert A3
       revert c2
       revert n2
       revert A2
       revert c1
       revert n1
       revert A1
       revert ga
       revert x1
       exact k2_4_5_7_8_10_11_12_13_14.out
     case pk2_4_5_7_8_10_11_12_13 =>
      intro w5 ga A1 n1 c1 A2 n2 c2 A3 n3 c3 gp AR nR cR HC HR
      refine wpAnyH_ready (rs := [14]) (by kernel_rfl) (by simp) ?_
      refine AllReadyH.cons (o := ⟨_, _, _, _, _, _⟩) rfl (fun K hK => ?_) AllReadyH.nil
      go_simp
      have HZ := Lib.hid (show (w5.alloc (.cells #[.slice none 0 0] 45)).heap[w5.heap.size]? = some (.cells #[.slice none 0 0] 45) from hat _ _ _ rfl)
      have HZN := Lib.hid (show w1.heap.size ≤ w5.heap.size from HC.out.size)
      have hb_ := bal (Below.refl w5.heap.size w5) (Nat.le_refl _) (.cells #[.slice none 0 0] 45)
      replace HR := Lib.hid (HR.out.below hb_ (Nat.le_refl _))
      replace HC := Lib.hid (HC.out.trans (hb_.mono HC.out.size)); clear hb_
      refine hK.out _ _ HC.out (fun hS_ => ?_)
      clear hK K hS_
      generalize w5.alloc (.cells #[.slice none 0 0] 45) = x1 at HC HR HZ ⊢
      generalize w5.heap.size = gz at HZ HZN ⊢
      try simp only [Act.put, List.setIfInBounds_toArray, List.set_cons_zero, List.set_cons_succ]
      refine listed_as (l2 := #[true, true, true, true, true, true, true, true, true, true, true, true, true, true, true, false]) (by kernel_rfl) ?_
      revert HZN
      revert HR
      revert HZ
      revert HC
      revert cR
      revert nR
      revert AR
      revert gp
      revert gz
      revert c3
      revert n3
      revert A3
      revert c2
      revert n2
      revert A2
      revert c1
      revert n1
      revert A1
      revert ga
      revert x1
      exact k2_4_5_7_8_10_11_12_13_14.out
    case pk2_4_5_7_8_10_11_12_13_14 =>
     intro w5 ga A1 n1 c1 A2 n2 c2 A3 n3 c3 gz gp AR nR cR HC HZ HR HZN
     refine wpAnyH_ready (rs := [15]) (by kernel_rfl) (by simp) ?_
     refine AllReadyH.cons (o := ⟨_, _, _, _, _, _⟩) rfl (fun K hK => ?_) AllReadyH.nil
     have z0 : w5.cell? ⟨gz, 0, none⟩ = some (.slice none 0 0) := by rw [cell_of_row _ _ _ _ _ _ HZ.out]; rfl
     have f0 := frozen_of_row w5 gz 0 _ _ HZ.out
     go_simp
     have HZ9 := Lib.hid (show (w5.setCell ⟨gz, 0, none⟩ (.slice AR nR cR)).heap[gz]? = some (.cells #[.slice AR nR cR] 45) from heap_setCell_same _ _ _ _ _ _ HZ.out)
     have HR9 := Lib.hid (show Rg.OwnG KV (w5.setCell ⟨gz, 0, none⟩ (.slice AR nR cR)) w1.heap.size AR nR cR LL from ⟨HR.out.1, row_store HZ.out HR.out.2 (by decide) _⟩)
     have HC9 := Lib.hid (HC.out.setCell (p := ⟨gz, 0, none⟩) HZN.out (.slice AR nR cR))
     refine hK.out _ _ HC9.out (fun hS_ => ?_)
     clear hK K hS_ z0 f0
     refine wpAnyH_done (by kernel_rfl) ?_ _
     go_wp2
     go_meet
     case rel => exact ⟨gz, AR, nR, cR, rfl, HZN.out, HZ9.out, HR9.out, HC9.out⟩
  case rest =>
    obtain ⟨gz, A, n, c', rfl, hgz, hz, ho, hbc⟩ := hcut
    have HBN := Lib.hid HB.out.size
    have HZ := Lib.hid hz; have HO := Lib.hid (ho.base HBN.out); have HB := Lib.hid (HB.out.trans (hbc.mono HB.out.size))
    have HGZ := Lib.hid (Nat.le_trans HBN.out hgz)
    clear hgz hz ho hbc HSB HSC HSI HVB HVC HVI HL1 HL2 HL3 HALL HQ HBN
    have z0 : wc.cell? ⟨gz, 0, none⟩ = some (.slice A n c') := by rw [cell_of_row _ _ _ _ _ _ HZ.out]; rfl
    go_upto_region 3 with (refine (HSO.out gz A n c' wc HGZ.out HO.out HZ.out).mono ?_; rintro e w6 ⟨rfl, L', hq, ho6, hz6, hb6⟩)
    have HO6 := Lib.hid ho6; have HZ6 := Lib.hid hz6; have HB6 := Lib.hid (HB.out.trans hb6); have HQ6 := Lib.hid hq
    clear ho6 hz6 hb6 hq z0 HSO HO HZ
    have z0 : w6.cell? ⟨gz, 0, none⟩ = some (.slice A n c') := by rw [cell_of_row _ _ _ _ _ _ HZ6.out]; rfl
    go_wp2_with fail
    refine (HCO.out A n c' L' w6 HQ6.out HO6.out HB6.out.size).mono ?_
    rintro e w7 ⟨A2, n2, c2, m, rfl, hm, hs, hb7⟩
    have HM := Lib.hid hm; have HS := Lib.hid hs; have HB7 := Lib.hid (HB6.out.trans hb7)
    clear hm hs hb7 z0 HCO
    go_wp2
    try go_ret
    exact HPOST.out A2 n2 c2 m w7 HM.out HS.out HB7.out
end Go.Proofs.YtfblnomkafimhaaGreat.Fow
