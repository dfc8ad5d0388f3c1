/- What the document's Crash and Append of layer 8 answer: contracts by walks. -/
import Derived.Test.YtllpdkkkmgglpaaDkR
namespace Go.Proofs.Ytllpdkkkmgglpaa.Dkw
open Go.RowKit
open Dk

end Go.Proofs.Ytllpdkkkmgglpaa.Dkw
