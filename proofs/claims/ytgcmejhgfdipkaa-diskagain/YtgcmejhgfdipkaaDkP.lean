/- Layer 8, plain: a disk's state and what is done with it (no program here). -/
import Derived.Test.YtgcmejhgfdipkaaChecked
namespace Dk

structure D where
  data : List UInt8
  safe : Int
  room : Int
  fuse : Int
  off : Bool
/-- what holds of every disk -/
def Iv (d : D) : Prop := 0 ≤ d.safe ∧ d.safe ≤ d.data.length ∧ d.data.length ≤ 60000 ∧ 0 ≤ d.room ∧ d.room ≤ 60000 ∧ -1 ≤ d.fuse ∧ d.fuse ≤ 9223372036854775807
def clampR (r : Int) : Int := if 60000 < r then 60000 else if r < 0 then 0 else r
def clampF (n : Int) : Int := if n < 0 then -1 else n
def limit (d : D) (r : Int) : D := { d with room := clampR r }
def fuseD (d : D) (n : Int) : D := { d with fuse := clampF n }
def newD (r : Int) : D := limit ⟨[], 0, 0, -1, false⟩ r
def syncD (d : D) : D := if d.off then d else { d with safe := d.data.length }
def appE (d : D) (b : List UInt8) : Int := if d.off then 82 else if 0 < b.length ∧ d.room - d.data.length < b.length then 81 else if 0 ≤ d.fuse ∧ d.fuse < b.length then 82 else 0
def appD (d : D) (b : List UInt8) : D :=
  if d.off then d else if 0 < b.length ∧ d.room - d.data.length < b.length then d
  else if 0 ≤ d.fuse ∧ d.fuse < b.length then { d with data := d.data ++ b.take d.fuse.toNat, fuse := 0, off := true }
  else { d with data := d.data ++ b, fuse := if 0 ≤ d.fuse then d.fuse - b.length else d.fuse }
def crashD (d : D) (keep : Int) : D := ⟨d.data.take (d.safe.toNat + keep.toNat), (d.data.take (d.safe.toNat + keep.toNat)).length, d.room, -1, false⟩
def cutD (d : D) (n : Int) : D := if d.off then d else { d with data := d.data.take n.toNat, safe := if ((d.data.take n.toNat).length : Int) < d.safe then (d.data.take n.toNat).length else d.safe }

theorem clampR_le (r : Int) : 0 ≤ clampR r ∧ clampR r ≤ 60000 := by unfold clampR; split <;> (try split) <;> omega
theorem iv_limit (d : D) (r : Int) (h : Iv d) : Iv (limit d r) := by
  have := clampR_le r
  unfold Iv limit at *
  simp only
  omega
theorem iv_fuse (d : D) (n : Int) (hn : n ≤ 9223372036854775807) (h : Iv d) : Iv (fuseD d n) := by
  unfold Iv fuseD clampF at *
  simp only
  split <;> omega
theorem iv_new (r : Int) : Iv (newD r) := iv_limit _ r (by unfold Iv; simp)
theorem iv_sync (d : D) (h : Iv d) : Iv (syncD d) := by
  unfold syncD
  split
  · exact h
  · unfold Iv at *; simp only; omega
theorem iv_app (d : D) (b : List UInt8) (h : Iv d) : Iv (appD d b) := by
  unfold appD
  split
  · exact h
  split
  · exact h
  rename_i h1 h2
  split
  · rename_i h3
    unfold Iv at *
    simp only [List.length_append, List.length_take]
    omega
  · unfold Iv at *
    simp only [List.length_append]
    split <;> omega
theorem iv_crash (d : D) (k : Int) (h : Iv d) : Iv (crashD d k) := by
  unfold crashD Iv at *
  simp only [List.length_take]
  omega
theorem iv_cut (d : D) (k : Int) (h : Iv d) : Iv (cutD d k) := by
  unfold cutD
  split
  · exact h
  · unfold Iv at *
    simp only [List.length_take]
    split <;> omega
end Dk
