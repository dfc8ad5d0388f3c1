/- Contracts and words on which the claims of this seat stand, part 3: CrcC CrcD CrcE CrcF CrcL CrcT CrcA CrcR CrcQ. -/
import Derived.Test.YtfblnomkafimhaaGreatG01
import Derived.Laws.BitsAllLaws
import Derived.Laws.MathBits
import Derived.Deep.DeepCutAuto
import Derived.RegionTactic
import Derived.BigRegion
set_option linter.unusedSimpArgs false
set_option linter.unusedVariables false
namespace Go.Proofs.YtfblnomkafimhaaGreat
set_option maxRecDepth 20000
open Go.RowKit
open Crc

/-- one of the parts: a slice, and the bytes that it reads as -/
structure Part where
  a : Option Addr
  n : Nat
  c : Nat
  bs : List UInt8
def Part.v (p : Part) : Value := .slice p.a p.n p.c
def Parts (w : World) (B : Nat) (A : Option Addr) (ps : List Part) : Prop := Rd w B A (ps.map Part.v) ∧ ∀ p ∈ ps, p.n = p.bs.length ∧ p.n ≤ big ∧ Rd w B p.a (p.bs.map B8)
def Part.all (ps : List Part) : List UInt8 := ps.flatMap Part.bs
end Go.Proofs.YtfblnomkafimhaaGreat

namespace Go.Proofs.YtfblnomkafimhaaGreat
set_option maxRecDepth 20000
open Go.RowKit
open Crc

end Go.Proofs.YtfblnomkafimhaaGreat

namespace Go.Proofs.YtfblnomkafimhaaGreat
set_option maxRecDepth 20000
open Go.RowKit
open Crc

end Go.Proofs.YtfblnomkafimhaaGreat

namespace Go.Proofs.YtfblnomkafimhaaGreat
set_option maxRecDepth 20000
open Go.RowKit
open Crc

def oE (o : Option (List UInt8)) : Int := if o.isSome then 0 else 31
def oB (o : Option (List UInt8)) : List UInt8 := o.getD []
/-- the bytes of a frame and the error's number, whichever way it ends -/
def RetOpen (w : World) (o : Option (List UInt8)) (e : Ending) (w' : World) : Prop :=
  ∃ A n c, e = .returned (.tuple #[.slice A n c, .int .i64 (oE o)]) ∧ n = (oB o).length ∧ n ≤ c ∧ Rd w' w'.heap.size A ((oB o).map B8) ∧ Below w.heap.size w w'

end Go.Proofs.YtfblnomkafimhaaGreat

namespace Go.Proofs.YtfblnomkafimhaaGreat
set_option maxRecDepth 20000
open Go.RowKit

end Go.Proofs.YtfblnomkafimhaaGreat

namespace Go.Proofs.YtfblnomkafimhaaGreat
set_option maxRecDepth 20000
open Go.RowKit
open Crc

/-- what Burst answers -/
def burstF (bs : List UInt8) (at_ : Int) (mask : Nat) : List UInt8 := if at_ < 0 ∨ 8 * (bs.length : Int) - (Go.bitLen mask : Int) < at_ then bs else turns bs at_.toNat mask (Go.bitLen mask)

end Go.Proofs.YtfblnomkafimhaaGreat

namespace Go.Proofs.YtfblnomkafimhaaGreat
set_option maxRecDepth 20000
open Go.RowKit
open Crc

end Go.Proofs.YtfblnomkafimhaaGreat

namespace Go.Proofs.YtfblnomkafimhaaGreat
set_option maxRecDepth 20000
open Go.RowKit
open Crc

end Go.Proofs.YtfblnomkafimhaaGreat

namespace Go.Proofs.YtfblnomkafimhaaGreat
set_option maxRecDepth 20000
open Go.RowKit
open Crc

end Go.Proofs.YtfblnomkafimhaaGreat
