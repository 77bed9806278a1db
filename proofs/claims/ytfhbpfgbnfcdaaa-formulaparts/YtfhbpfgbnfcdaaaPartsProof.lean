/- For every two formulas and every name FormulaParts answers true, and leaves its arguments as they were: Names, Parts and Put answer what the yardstick does. No condition. -/
import Derived.Test.YtfhbpfgbnfcdaaaRows
import Derived.Test.YtfhbpfgbnfcdaaaB01
import Derived.ProofKit
import Derived.Deep.Strs
import Derived.Deep.Slices
import Derived.Lib.SmallJoins
import Derived.Test.YtfhbpfgbnfcdaaaB02
import Derived.OpenShut
import Derived.ShutString
import Derived.ChangeOld
namespace Go.Proofs.Ytfhbpfgbnfcdaaa
open Go.ChangeShapes Go.WideShapes Go.ChangeAt Go.RowKit
open Go.ChangeMaps (open_string shut_string)

theorem Try.own : ownKnob Try.prog.godebug = none := by kernel_rfl
theorem Try.laidOut : laidOutB Try.prog = true := by kernel_rfl

end Go.Proofs.Ytfhbpfgbnfcdaaa
