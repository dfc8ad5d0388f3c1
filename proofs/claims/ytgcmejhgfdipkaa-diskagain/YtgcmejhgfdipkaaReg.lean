/- A region that draws its order, walked in the text's order: what only reads is taken first; behind the last thing that changes the world nothing more depends on the order. -/
import Derived.Test.YtgcmejhgfdipkaaChecked
import Derived.WalkKit
import Derived.Deep.RegionHeld3
namespace Go.Proofs.Ytgcmejhgfdipkaa
section
variable {P : Program} {ops : Array Oper} {Q : Exit → Act → World → Prop} {md : Region.Mode}
/-- the next operation in the text's order: it yields in every world that meets S -/
theorem take_in {S : World → Prop} {i : Nat} {oi : Oper} {v : Value} {fuel : Nat} {listed : Array Bool} {a : Act} {w : World} (hi : ops[i]? = some oi) (hs : Region.noSelect ops = true) (hf : Region.free md ops listed i = true)
    (hr : (Region.ready md ops listed).contains i = true) (hQ : ∀ c a w, Q (.panic c) (a.put oi.dst v) w → Q (.panic c) a w) (hw : Region.wanted oi (yielded ops a.tmps) = true) (hy : ∀ W, S W → (execOp a.eval oi).run P W = .ok (.value v) W) (hS : S w)
    (h : wpAnyH P md ops Q S fuel (listed.setIfInBounds i true) (a.put oi.dst v) w) : wpAnyH P md ops Q S (fuel + 1) listed a w :=
  wpAnyH_take hi hs hf hr hQ (Or.inl ⟨hw, hy⟩) hS h
/-- the next operation in the text's order, where its guard says no -/
theorem skip_in {S : World → Prop} {i : Nat} {oi : Oper} {fuel : Nat} {listed : Array Bool} {a : Act} {w : World} (hi : ops[i]? = some oi) (hs : Region.noSelect ops = true) (hf : Region.free md ops listed i = true)
    (hr : (Region.ready md ops listed).contains i = true) (hQ : ∀ c a w, Q (.panic c) (a.put oi.dst undef) w → Q (.panic c) a w) (hw : Region.wanted oi (yielded ops a.tmps) = false) (hS : S w)
    (h : wpAnyH P md ops Q S fuel (listed.setIfInBounds i true) (a.put oi.dst undef) w) : wpAnyH P md ops Q S (fuel + 1) listed a w :=
  wpAnyH_take hi hs hf hr hQ (Or.inr ⟨hw, rfl⟩) hS h
/-- where nothing more changes the world -/
theorem switch {S : World → Prop} {w0 : World} (h0 : S w0) : ∀ (fuel : Nat) (listed : Array Bool) (a : Act) (w : World), w = w0 → wpAnyH P md ops Q (fun W => W = w0) fuel listed a w → wpAnyH P md ops Q S fuel listed a w
  | 0, _, _, _, _, h => h
  | fuel + 1, _, _, _, _, h => ⟨h.1, fun i hi => wpOp_mono (fun a' w' h' => ⟨by rw [h'.1]; exact h0, switch h0 fuel _ a' w' h'.1 h'.2⟩) (h.2 i hi)⟩
/-- from here on a narrower condition is kept -/
theorem tighten {S S' : World → Prop} (h0 : ∀ W, S' W → S W) : ∀ (fuel : Nat) (listed : Array Bool) (a : Act) (w : World), wpAnyH P md ops Q S' fuel listed a w → wpAnyH P md ops Q S fuel listed a w
  | 0, _, _, _, h => h
  | fuel + 1, _, _, _, h => ⟨h.1, fun i hi => wpOp_mono (fun a' w' h' => ⟨h0 _ h'.1, tighten h0 fuel _ a' w' h'.2⟩) (h.2 i hi)⟩
end
end Go.Proofs.Ytgcmejhgfdipkaa
