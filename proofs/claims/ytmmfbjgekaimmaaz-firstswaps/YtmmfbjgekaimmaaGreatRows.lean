/-
  NARROWER THAN 'FOR EVERY INPUT', by the rows' own cells (each row's printed sentence says how): FirstChecks: loops · FirstPuts: loops · FirstSwaps: loops · MeaningValues: loops.
  DERIVED. THE GIVEN ROWS OF THIS SEAT. 4 by the template 'for every input the law returns true; each argument reads behind the call as it read before'; 0 by the template 'total and deterministic' (their statements: YtmmfbjgekaimmaaGreatTotals.lean).
  GIVEN WITH THE SEED: the statements are not yours to turn. If you find one false, say at which input.
  Laid BY PROGRAM, IN A SANDBOX (cutbox-rows.mjs): the forced cells as the released guide's own fill.sh prints them over the translation 164cc4f8871b2707… (all of the seat's roots in one cut). By AI agents, Wed Nov 11 2026. No macro, syntax, notation, axiom, sorry.
-/
import Derived.Test.YtmmfbjgekaimmaaGreatChecked
import GoSem.Claim
import GoSem.ClaimJoined
import GoSem.ClaimMapViews
import Derived.JoinedTies
import Derived.KernelRfl
namespace Go.Proofs.YtmmfbjgekaimmaaGreat
/- THE CELL 'sum', in the pinned program and in every row, IS THE sha256 OF THE DUMP (.gsa) THAT YtmmfbjgekaimmaaGreatProg.lean LOADS. Nothing in Lean hashes anything: it is a label: what it is worth is what the hold of that sum in a sandbox is worth. -/
noncomputable def Tryz.pinned : Pinned := { name := "ytmmfbjgekaimmaagreat", sum := "164cc4f8871b270713094b3e8d6ab575b09ea51cec1d70c6a339b73c72244338", checked := Tryz.checked }
namespace Rows
def none {H : Type} : Left H := { results := [], args := [] }

/-- 'sequentlaw.FirstChecks': WHATEVER THE INPUT: true; the input reads as it did. -/
def firstChecksSpec : ChangeSpec := { name := "firstChecks", fn := fun _ => fun
  | [d1, d2] => { results := [.lit (.bool true)], args := [d1, d2] }
  | _ => none }
def firstChecksRow : OpenClaim := { program := "ytmmfbjgekaimmaagreat", sum := "164cc4f8871b270713094b3e8d6ab575b09ea51cec1d70c6a339b73c72244338", func := "sequent/sequentlaw.FirstChecks", spec := "firstChecks", inPlace := ["internal/abi.NoEscape"], unfollowed := true, recurses := true, loops := true, apart := false }
def FirstChecksSaid : Prop := firstChecksRow.holds Tryz.pinned (OpenSpec.ofChange firstChecksSpec)

/-- ITS FALSE NEIGHBOUR: 'it returns false'. Refute it at one input. -/
def firstChecksWrong : ChangeSpec := { name := "firstChecks", fn := fun _ => fun
  | [d1, d2] => { results := [.lit (.bool false)], args := [d1, d2] }
  | _ => none }
def FirstChecksWrongFalsely : Prop := firstChecksRow.holds Tryz.pinned (OpenSpec.ofChange firstChecksWrong)

/-- 'sequentlaw.FirstPuts': WHATEVER THE INPUT: true; the input reads as it did. -/
def firstPutsSpec : ChangeSpec := { name := "firstPuts", fn := fun _ => fun
  | [d1, d2, d3] => { results := [.lit (.bool true)], args := [d1, d2, d3] }
  | _ => none }
def firstPutsRow : OpenClaim := { program := "ytmmfbjgekaimmaagreat", sum := "164cc4f8871b270713094b3e8d6ab575b09ea51cec1d70c6a339b73c72244338", func := "sequent/sequentlaw.FirstPuts", spec := "firstPuts", inPlace := ["internal/abi.NoEscape"], unfollowed := true, recurses := true, loops := true, apart := false }
def FirstPutsSaid : Prop := firstPutsRow.holds Tryz.pinned (OpenSpec.ofChange firstPutsSpec)

/-- ITS FALSE NEIGHBOUR: 'it returns false'. Refute it at one input. -/
def firstPutsWrong : ChangeSpec := { name := "firstPuts", fn := fun _ => fun
  | [d1, d2, d3] => { results := [.lit (.bool false)], args := [d1, d2, d3] }
  | _ => none }
def FirstPutsWrongFalsely : Prop := firstPutsRow.holds Tryz.pinned (OpenSpec.ofChange firstPutsWrong)

/-- 'sequentlaw.FirstSwaps': WHATEVER THE INPUT: true; the input reads as it did. -/
def firstSwapsSpec : ChangeSpec := { name := "firstSwaps", fn := fun _ => fun
  | [d1, d2, d3] => { results := [.lit (.bool true)], args := [d1, d2, d3] }
  | _ => none }
def firstSwapsRow : OpenClaim := { program := "ytmmfbjgekaimmaagreat", sum := "164cc4f8871b270713094b3e8d6ab575b09ea51cec1d70c6a339b73c72244338", func := "sequent/sequentlaw.FirstSwaps", spec := "firstSwaps", inPlace := ["internal/abi.NoEscape"], unfollowed := true, recurses := true, loops := true, apart := false }
def FirstSwapsSaid : Prop := firstSwapsRow.holds Tryz.pinned (OpenSpec.ofChange firstSwapsSpec)

/-- ITS FALSE NEIGHBOUR: 'it returns false'. Refute it at one input. -/
def firstSwapsWrong : ChangeSpec := { name := "firstSwaps", fn := fun _ => fun
  | [d1, d2, d3] => { results := [.lit (.bool false)], args := [d1, d2, d3] }
  | _ => none }
def FirstSwapsWrongFalsely : Prop := firstSwapsRow.holds Tryz.pinned (OpenSpec.ofChange firstSwapsWrong)

/-- 'sequentlaw.MeaningValues': WHATEVER THE INPUT: true; the input reads as it did. -/
def meaningValuesSpec : ChangeSpec := { name := "meaningValues", fn := fun _ => fun
  | [d1, d2, d3, d4] => { results := [.lit (.bool true)], args := [d1, d2, d3, d4] }
  | _ => none }
def meaningValuesRow : OpenClaim := { program := "ytmmfbjgekaimmaagreat", sum := "164cc4f8871b270713094b3e8d6ab575b09ea51cec1d70c6a339b73c72244338", func := "sequent/sequentlaw.MeaningValues", spec := "meaningValues", unfollowed := true, recurses := true, loops := true, apart := false }
def MeaningValuesSaid : Prop := meaningValuesRow.holds Tryz.pinned (OpenSpec.ofChange meaningValuesSpec)

/-- ITS FALSE NEIGHBOUR: 'it returns false'. Refute it at one input. -/
def meaningValuesWrong : ChangeSpec := { name := "meaningValues", fn := fun _ => fun
  | [d1, d2, d3, d4] => { results := [.lit (.bool false)], args := [d1, d2, d3, d4] }
  | _ => none }
def MeaningValuesWrongFalsely : Prop := meaningValuesRow.holds Tryz.pinned (OpenSpec.ofChange meaningValuesWrong)

/- THE SECOND FORM. 'bulk': how many values and letters a reading holds, each counted each time it is reached (what is shared counts as often as it is met; a slice's spare places count too). A statement '..UptoSaid' is the law's where the arguments, and the package variables that the reading takes, are together of bulk at most 1048576: NARROWER than '..Said'. Prove '..Said' where nothing that the law and all that it calls make is longer than what came in: it says more and counts as full. Else prove '..UptoSaid'. A law counts once. -/
mutual
def uptoBulk {H : Type} : DataW H → Nat
  | .lit (.string bytes) => bytes.length + 1
  | .lit _ => 1
  | .nil => 1
  | .ptr d => uptoBulk d + 1
  | .slice elems spare => uptoBulkAll elems + uptoBulkAll spare + 1
  | .agg parts => uptoBulkAll parts + 1
  | .iface _ d => uptoBulk d + 1
  | .map entries => uptoBulkEntries entries + 1
  | .held _ => 1
def uptoBulkAll {H : Type} : List (DataW H) → Nat
  | [] => 0
  | d :: r => uptoBulk d + uptoBulkAll r
def uptoBulkEntries {H : Type} : List (Lit × DataW H) → Nat
  | [] => 0
  | x :: r => uptoBulkEntry x + uptoBulkEntries r
def uptoBulkEntry {H : Type} : Lit × DataW H → Nat
  | (.string bytes, d) => bytes.length + uptoBulk d + 1
  | (_, d) => uptoBulk d + 1
 end
def uptoSmall : (H : Type) → List (DataW H) → Bool := fun _ ds => decide (uptoBulkAll ds ≤ 1048576)
def OpenSpec.upto (s : _root_.Go.ChangeSpec) : _root_.Go.OpenSpec := { _root_.Go.OpenSpec.ofChange s with cond := some uptoSmall }

/-- 'sequentlaw.FirstChecks', WHERE WHAT IT READS IS OF BULK AT MOST 1048576: true; the input reads as it did. -/
def firstChecksUptoRow : OpenClaim := { program := "ytmmfbjgekaimmaagreat", sum := "164cc4f8871b270713094b3e8d6ab575b09ea51cec1d70c6a339b73c72244338", func := "sequent/sequentlaw.FirstChecks", spec := "firstChecks", inPlace := ["internal/abi.NoEscape"], unfollowed := true, recurses := true, loops := true, apart := false, narrowed := true }
def FirstChecksUptoSaid : Prop := firstChecksUptoRow.holds Tryz.pinned (OpenSpec.upto firstChecksSpec)

/-- 'sequentlaw.FirstPuts', WHERE WHAT IT READS IS OF BULK AT MOST 1048576: true; the input reads as it did. -/
def firstPutsUptoRow : OpenClaim := { program := "ytmmfbjgekaimmaagreat", sum := "164cc4f8871b270713094b3e8d6ab575b09ea51cec1d70c6a339b73c72244338", func := "sequent/sequentlaw.FirstPuts", spec := "firstPuts", inPlace := ["internal/abi.NoEscape"], unfollowed := true, recurses := true, loops := true, apart := false, narrowed := true }
def FirstPutsUptoSaid : Prop := firstPutsUptoRow.holds Tryz.pinned (OpenSpec.upto firstPutsSpec)

/-- 'sequentlaw.FirstSwaps', WHERE WHAT IT READS IS OF BULK AT MOST 1048576: true; the input reads as it did. -/
def firstSwapsUptoRow : OpenClaim := { program := "ytmmfbjgekaimmaagreat", sum := "164cc4f8871b270713094b3e8d6ab575b09ea51cec1d70c6a339b73c72244338", func := "sequent/sequentlaw.FirstSwaps", spec := "firstSwaps", inPlace := ["internal/abi.NoEscape"], unfollowed := true, recurses := true, loops := true, apart := false, narrowed := true }
def FirstSwapsUptoSaid : Prop := firstSwapsUptoRow.holds Tryz.pinned (OpenSpec.upto firstSwapsSpec)

/-- 'sequentlaw.MeaningValues', WHERE WHAT IT READS IS OF BULK AT MOST 1048576: true; the input reads as it did. -/
def meaningValuesUptoRow : OpenClaim := { program := "ytmmfbjgekaimmaagreat", sum := "164cc4f8871b270713094b3e8d6ab575b09ea51cec1d70c6a339b73c72244338", func := "sequent/sequentlaw.MeaningValues", spec := "meaningValues", unfollowed := true, recurses := true, loops := true, apart := false, narrowed := true }
def MeaningValuesUptoSaid : Prop := meaningValuesUptoRow.holds Tryz.pinned (OpenSpec.upto meaningValuesSpec)

end Rows
end Go.Proofs.YtmmfbjgekaimmaaGreat
