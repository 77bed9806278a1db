/- For every formula and every list of texts TruthValues answers true, and leaves its arguments as they were: Value, Rows and Valid say what the yardstick says of every row, and the same faults. No condition. -/
import Derived.Test.YtfhbpfgbnfcdaaaRows
import Derived.Test.YtfhbpfgbnfcdaaaB01
import Derived.ProofKit
import Derived.Deep.Strs
import Derived.Deep.Slices
import Derived.Lib.SmallJoins
import Derived.Maps.OwnSet
import Derived.Maps.OwnOps
import Derived.Laws.BitsLemmas
import Derived.Deep.RegionHeld3
import Derived.Deep.DeepCutAuto
import Derived.Deep.CutBlock
import Derived.Deep.AppendLies
import Derived.Deep.RegionLaw
import Derived.Shelf.Sort.Plain
import Derived.Shelf.Slices.CompactS
import Derived.Shelf.Slices.In.SortNone
import Derived.Test.YtfhbpfgbnfcdaaaProg
import Derived.Sort.OwnSorted
import Derived.Sort.Walk0
import Derived.Deep.AppendSrc
import Derived.Laws.EntriesVeiled
import Derived.OpenShut
import Derived.ShutString
import Derived.ChangeOld
namespace Go.Proofs.Ytfhbpfgbnfcdaaa
open Go.ChangeShapes Go.WideShapes Go.ChangeAt Go.RowKit

theorem Try.own : ownKnob Try.prog.godebug = none := by kernel_rfl
theorem Try.laidOut : laidOutB Try.prog = true := by kernel_rfl

end Go.Proofs.Ytfhbpfgbnfcdaaa
