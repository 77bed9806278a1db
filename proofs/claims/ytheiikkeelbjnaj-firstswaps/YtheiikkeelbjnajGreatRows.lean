/-
  NARROWER THAN 'FOR EVERY INPUT', by the rows' own cells (each row's printed sentence says how): FirstPuts: loops · FirstSwaps: loops · MeaningValues: loops · MeaningPrenex: loops · MeaningSkolem: loops.
  DERIVED. THE GIVEN ROWS OF THIS SEAT. 5 by the template 'for every input the law returns true; each argument reads behind the call as it read before'; 0 by the template 'total and deterministic' (their statements: YtheiikkeelbjnajGreatTotals.lean).
  GIVEN WITH THE SEED: the statements are not yours to turn. If you find one false, say at which input.
  Laid BY PROGRAM, IN A SANDBOX (cutbox-rows.mjs): the forced cells as the released guide's own fill.sh prints them over the translation 7ae459c48caca5ea… (all of the seat's roots in one cut). By AI agents, Wed Nov 11 2026. No macro, syntax, notation, axiom, sorry.
-/
import Derived.Test.YtheiikkeelbjnajGreatChecked
import GoSem.Claim
import GoSem.ClaimJoined
import GoSem.ClaimMapViews
import Derived.JoinedTies
import Derived.KernelRfl
namespace Go.Proofs.YtheiikkeelbjnajGreat
/- THE CELL 'sum', in the pinned program and in every row, IS THE sha256 OF THE DUMP (.gsa) THAT YtheiikkeelbjnajGreatProg.lean LOADS. Nothing in Lean hashes anything: it is a label: what it is worth is what the hold of that sum in a sandbox is worth. -/
noncomputable def Tryz.pinned : Pinned := { name := "ytheiikkeelbjnajgreat", sum := "7ae459c48caca5eaf33b912f5bb99715d9eb709b5d078b4046ec7784176a7613", checked := Tryz.checked }
namespace Rows
def none {H : Type} : Left H := { results := [], args := [] }

/-- 'sequentlaw.FirstPuts': WHATEVER THE INPUT: true; the input reads as it did. -/
def firstPutsSpec : ChangeSpec := { name := "firstPuts", fn := fun _ => fun
  | [d1, d2, d3] => { results := [.lit (.bool true)], args := [d1, d2, d3] }
  | _ => none }
def firstPutsRow : OpenClaim := { program := "ytheiikkeelbjnajgreat", sum := "7ae459c48caca5eaf33b912f5bb99715d9eb709b5d078b4046ec7784176a7613", func := "sequent/sequentlaw.FirstPuts", spec := "firstPuts", inPlace := ["internal/abi.NoEscape"], unfollowed := true, recurses := true, loops := true, apart := false }
def FirstPutsSaid : Prop := firstPutsRow.holds Tryz.pinned (OpenSpec.ofChange firstPutsSpec)

/-- ITS FALSE NEIGHBOUR: 'it returns false'. Refute it at one input. -/
def firstPutsWrong : ChangeSpec := { name := "firstPuts", fn := fun _ => fun
  | [d1, d2, d3] => { results := [.lit (.bool false)], args := [d1, d2, d3] }
  | _ => none }
def FirstPutsWrongFalsely : Prop := firstPutsRow.holds Tryz.pinned (OpenSpec.ofChange firstPutsWrong)

/-- 'sequentlaw.FirstSwaps': WHATEVER THE INPUT: true; the input reads as it did. -/
def firstSwapsSpec : ChangeSpec := { name := "firstSwaps", fn := fun _ => fun
  | [d1, d2, d3] => { results := [.lit (.bool true)], args := [d1, d2, d3] }
  | _ => none }
def firstSwapsRow : OpenClaim := { program := "ytheiikkeelbjnajgreat", sum := "7ae459c48caca5eaf33b912f5bb99715d9eb709b5d078b4046ec7784176a7613", func := "sequent/sequentlaw.FirstSwaps", spec := "firstSwaps", inPlace := ["internal/abi.NoEscape"], unfollowed := true, recurses := true, loops := true, apart := false }
def FirstSwapsSaid : Prop := firstSwapsRow.holds Tryz.pinned (OpenSpec.ofChange firstSwapsSpec)

/-- ITS FALSE NEIGHBOUR: 'it returns false'. Refute it at one input. -/
def firstSwapsWrong : ChangeSpec := { name := "firstSwaps", fn := fun _ => fun
  | [d1, d2, d3] => { results := [.lit (.bool false)], args := [d1, d2, d3] }
  | _ => none }
def FirstSwapsWrongFalsely : Prop := firstSwapsRow.holds Tryz.pinned (OpenSpec.ofChange firstSwapsWrong)

/-- 'sequentlaw.MeaningValues': WHATEVER THE INPUT: true; the input reads as it did. -/
def meaningValuesSpec : ChangeSpec := { name := "meaningValues", fn := fun _ => fun
  | [d1, d2, d3, d4] => { results := [.lit (.bool true)], args := [d1, d2, d3, d4] }
  | _ => none }
def meaningValuesRow : OpenClaim := { program := "ytheiikkeelbjnajgreat", sum := "7ae459c48caca5eaf33b912f5bb99715d9eb709b5d078b4046ec7784176a7613", func := "sequent/sequentlaw.MeaningValues", spec := "meaningValues", unfollowed := true, recurses := true, loops := true, apart := false }
def MeaningValuesSaid : Prop := meaningValuesRow.holds Tryz.pinned (OpenSpec.ofChange meaningValuesSpec)

/-- ITS FALSE NEIGHBOUR: 'it returns false'. Refute it at one input. -/
def meaningValuesWrong : ChangeSpec := { name := "meaningValues", fn := fun _ => fun
  | [d1, d2, d3, d4] => { results := [.lit (.bool false)], args := [d1, d2, d3, d4] }
  | _ => none }
def MeaningValuesWrongFalsely : Prop := meaningValuesRow.holds Tryz.pinned (OpenSpec.ofChange meaningValuesWrong)

/-- 'sequentlaw.MeaningPrenex': WHATEVER THE INPUT: true; the input reads as it did. -/
def meaningPrenexSpec : ChangeSpec := { name := "meaningPrenex", fn := fun _ => fun
  | [d1, d2, d3, d4] => { results := [.lit (.bool true)], args := [d1, d2, d3, d4] }
  | _ => none }
def meaningPrenexRow : OpenClaim := { program := "ytheiikkeelbjnajgreat", sum := "7ae459c48caca5eaf33b912f5bb99715d9eb709b5d078b4046ec7784176a7613", func := "sequent/sequentlaw.MeaningPrenex", spec := "meaningPrenex", unfollowed := true, recurses := true, loops := true, apart := false }
def MeaningPrenexSaid : Prop := meaningPrenexRow.holds Tryz.pinned (OpenSpec.ofChange meaningPrenexSpec)

/-- ITS FALSE NEIGHBOUR: 'it returns false'. Refute it at one input. -/
def meaningPrenexWrong : ChangeSpec := { name := "meaningPrenex", fn := fun _ => fun
  | [d1, d2, d3, d4] => { results := [.lit (.bool false)], args := [d1, d2, d3, d4] }
  | _ => none }
def MeaningPrenexWrongFalsely : Prop := meaningPrenexRow.holds Tryz.pinned (OpenSpec.ofChange meaningPrenexWrong)

/-- 'sequentlaw.MeaningSkolem': WHATEVER THE INPUT: true; the input reads as it did. -/
def meaningSkolemSpec : ChangeSpec := { name := "meaningSkolem", fn := fun _ => fun
  | [d1, d2] => { results := [.lit (.bool true)], args := [d1, d2] }
  | _ => none }
def meaningSkolemRow : OpenClaim := { program := "ytheiikkeelbjnajgreat", sum := "7ae459c48caca5eaf33b912f5bb99715d9eb709b5d078b4046ec7784176a7613", func := "sequent/sequentlaw.MeaningSkolem", spec := "meaningSkolem", unfollowed := true, recurses := true, loops := true, apart := false }
def MeaningSkolemSaid : Prop := meaningSkolemRow.holds Tryz.pinned (OpenSpec.ofChange meaningSkolemSpec)

/-- ITS FALSE NEIGHBOUR: 'it returns false'. Refute it at one input. -/
def meaningSkolemWrong : ChangeSpec := { name := "meaningSkolem", fn := fun _ => fun
  | [d1, d2] => { results := [.lit (.bool false)], args := [d1, d2] }
  | _ => none }
def MeaningSkolemWrongFalsely : Prop := meaningSkolemRow.holds Tryz.pinned (OpenSpec.ofChange meaningSkolemWrong)

/- THE SECOND FORM. 'bulk': how many values and letters a reading holds, each counted each time it is reached (what is shared counts as often as it is met; a slice's spare places count too). A statement '..UptoSaid' is the law's where the arguments, and the package variables that the reading takes, are together of bulk at most 1048576: NARROWER than '..Said'. Prove '..Said' where nothing that the law and all that it calls make is longer than what came in: it says more and counts as full. Else prove '..UptoSaid'. A law counts once. -/
mutual
def uptoBulk {H : Type} : DataW H → Nat
  | .lit (.string bytes) => bytes.length + 1
  | .lit _ => 1
  | .nil => 1
  | .ptr d => uptoBulk d + 1
  | .slice elems spare => uptoBulkAll elems + uptoBulkAll spare + 1
  | .agg parts => uptoBulkAll parts + 1
  | .iface _ d => uptoBulk d + 1
  | .map entries => uptoBulkEntries entries + 1
  | .held _ => 1
def uptoBulkAll {H : Type} : List (DataW H) → Nat
  | [] => 0
  | d :: r => uptoBulk d + uptoBulkAll r
def uptoBulkEntries {H : Type} : List (Lit × DataW H) → Nat
  | [] => 0
  | x :: r => uptoBulkEntry x + uptoBulkEntries r
def uptoBulkEntry {H : Type} : Lit × DataW H → Nat
  | (.string bytes, d) => bytes.length + uptoBulk d + 1
  | (_, d) => uptoBulk d + 1
 end
def uptoSmall : (H : Type) → List (DataW H) → Bool := fun _ ds => decide (uptoBulkAll ds ≤ 1048576)
def OpenSpec.upto (s : _root_.Go.ChangeSpec) : _root_.Go.OpenSpec := { _root_.Go.OpenSpec.ofChange s with cond := some uptoSmall }

/-- 'sequentlaw.FirstPuts', WHERE WHAT IT READS IS OF BULK AT MOST 1048576: true; the input reads as it did. -/
def firstPutsUptoRow : OpenClaim := { program := "ytheiikkeelbjnajgreat", sum := "7ae459c48caca5eaf33b912f5bb99715d9eb709b5d078b4046ec7784176a7613", func := "sequent/sequentlaw.FirstPuts", spec := "firstPuts", inPlace := ["internal/abi.NoEscape"], unfollowed := true, recurses := true, loops := true, apart := false, narrowed := true }
def FirstPutsUptoSaid : Prop := firstPutsUptoRow.holds Tryz.pinned (OpenSpec.upto firstPutsSpec)

/-- 'sequentlaw.FirstSwaps', WHERE WHAT IT READS IS OF BULK AT MOST 1048576: true; the input reads as it did. -/
def firstSwapsUptoRow : OpenClaim := { program := "ytheiikkeelbjnajgreat", sum := "7ae459c48caca5eaf33b912f5bb99715d9eb709b5d078b4046ec7784176a7613", func := "sequent/sequentlaw.FirstSwaps", spec := "firstSwaps", inPlace := ["internal/abi.NoEscape"], unfollowed := true, recurses := true, loops := true, apart := false, narrowed := true }
def FirstSwapsUptoSaid : Prop := firstSwapsUptoRow.holds Tryz.pinned (OpenSpec.upto firstSwapsSpec)

/-- 'sequentlaw.MeaningValues', WHERE WHAT IT READS IS OF BULK AT MOST 1048576: true; the input reads as it did. -/
def meaningValuesUptoRow : OpenClaim := { program := "ytheiikkeelbjnajgreat", sum := "7ae459c48caca5eaf33b912f5bb99715d9eb709b5d078b4046ec7784176a7613", func := "sequent/sequentlaw.MeaningValues", spec := "meaningValues", unfollowed := true, recurses := true, loops := true, apart := false, narrowed := true }
def MeaningValuesUptoSaid : Prop := meaningValuesUptoRow.holds Tryz.pinned (OpenSpec.upto meaningValuesSpec)

/-- 'sequentlaw.MeaningPrenex', WHERE WHAT IT READS IS OF BULK AT MOST 1048576: true; the input reads as it did. -/
def meaningPrenexUptoRow : OpenClaim := { program := "ytheiikkeelbjnajgreat", sum := "7ae459c48caca5eaf33b912f5bb99715d9eb709b5d078b4046ec7784176a7613", func := "sequent/sequentlaw.MeaningPrenex", spec := "meaningPrenex", unfollowed := true, recurses := true, loops := true, apart := false, narrowed := true }
def MeaningPrenexUptoSaid : Prop := meaningPrenexUptoRow.holds Tryz.pinned (OpenSpec.upto meaningPrenexSpec)

/-- 'sequentlaw.MeaningSkolem', WHERE WHAT IT READS IS OF BULK AT MOST 1048576: true; the input reads as it did. -/
def meaningSkolemUptoRow : OpenClaim := { program := "ytheiikkeelbjnajgreat", sum := "7ae459c48caca5eaf33b912f5bb99715d9eb709b5d078b4046ec7784176a7613", func := "sequent/sequentlaw.MeaningSkolem", spec := "meaningSkolem", unfollowed := true, recurses := true, loops := true, apart := false, narrowed := true }
def MeaningSkolemUptoSaid : Prop := meaningSkolemUptoRow.holds Tryz.pinned (OpenSpec.upto meaningSkolemSpec)

end Rows
end Go.Proofs.YtheiikkeelbjnajGreat
