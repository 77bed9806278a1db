/- Texts of one proof, one behind the other: Written1. -/
import Derived.Test.YtfhbpfgbnfcdaaaB01
import Derived.ProofKit
import Derived.Deep.Strs
import Derived.Deep.Slices
import Derived.Lib.SmallJoins
import Derived.Deep.DeepCutAuto
import Derived.Deep.CutBlock
import Derived.Deep.AppendLies
import Derived.Deep.RegionLaw
/- Walks: a formula as the yardstick writes it. -/
namespace Go.Proofs.Ytfhbpfgbnfcdaaa
open Go.RowKit

theorem ofL_toList (l : List UInt8) : (ofL l).data.toList = l := rfl
end Go.Proofs.Ytfhbpfgbnfcdaaa
