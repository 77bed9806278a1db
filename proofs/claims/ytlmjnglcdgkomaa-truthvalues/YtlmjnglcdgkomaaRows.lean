/-
  NARROWER THAN 'FOR EVERY INPUT', by the rows' own cells (each row's printed sentence says how): FormulaChecks: loops · FormulaParts: loops · FormulaBack: loops · FormulaSwaps: loops · TruthValues: loops.
  DERIVED. THE GIVEN ROWS OF THIS SEAT. 6 by the template 'for every input the law returns true; each argument reads behind the call as it read before'; 0 by the template 'total and deterministic' (their statements: YtlmjnglcdgkomaaTotals.lean).
  GIVEN WITH THE SEED: the statements are not yours to turn. If you find one false, say at which input.
  Laid BY PROGRAM, IN A SANDBOX (cutbox-rows.mjs): the forced cells as the released guide's own fill.sh prints them over the translation 26d4788fc2fde1b1… (all of the seat's roots in one cut). By AI agents, Wed Nov 11 2026. No macro, syntax, notation, axiom, sorry.
-/
import Derived.Test.YtlmjnglcdgkomaaChecked
import GoSem.Claim
import GoSem.ClaimJoined
import GoSem.ClaimMapViews
import Derived.JoinedTies
import Derived.KernelRfl
namespace Go.Proofs.Ytlmjnglcdgkomaa
/- THE CELL 'sum', in the pinned program and in every row, IS THE sha256 OF THE DUMP (.gsa) THAT YtlmjnglcdgkomaaProg.lean LOADS. Nothing in Lean hashes anything: it is a label: what it is worth is what the hold of that sum in a sandbox is worth. -/
noncomputable def Try.pinned : Pinned := { name := "ytlmjnglcdgkomaa", sum := "26d4788fc2fde1b1f02e1673467a2a7376f5455eded675cdd0850422b2b8d6b5", checked := Try.checked }
namespace Rows
def none {H : Type} : Left H := { results := [], args := [] }

/-- 'sequentlaw.FormulaChecks': WHATEVER THE INPUT: true; the input reads as it did. -/
def formulaChecksSpec : ChangeSpec := { name := "formulaChecks", fn := fun _ => fun
  | [d] => { results := [.lit (.bool true)], args := [d] }
  | _ => none }
def formulaChecksRow : OpenClaim := { program := "ytlmjnglcdgkomaa", sum := "26d4788fc2fde1b1f02e1673467a2a7376f5455eded675cdd0850422b2b8d6b5", func := "sequent/sequentlaw.FormulaChecks", spec := "formulaChecks", inPlace := ["internal/abi.NoEscape"], unfollowed := true, recurses := true, loops := true, apart := false }
def FormulaChecksSaid : Prop := formulaChecksRow.holds Try.pinned (OpenSpec.ofChange formulaChecksSpec)

/-- ITS FALSE NEIGHBOUR: 'it returns false'. Refute it at one input. -/
def formulaChecksWrong : ChangeSpec := { name := "formulaChecks", fn := fun _ => fun
  | [d] => { results := [.lit (.bool false)], args := [d] }
  | _ => none }
def FormulaChecksWrongFalsely : Prop := formulaChecksRow.holds Try.pinned (OpenSpec.ofChange formulaChecksWrong)

/-- 'sequentlaw.FormulaReads': WHATEVER THE INPUT: true; the input reads as it did. -/
def formulaReadsSpec : ChangeSpec := { name := "formulaReads", fn := fun _ => fun
  | [d] => { results := [.lit (.bool true)], args := [d] }
  | _ => none }
def formulaReadsRow : OpenClaim := { program := "ytlmjnglcdgkomaa", sum := "26d4788fc2fde1b1f02e1673467a2a7376f5455eded675cdd0850422b2b8d6b5", func := "sequent/sequentlaw.FormulaReads", spec := "formulaReads", inPlace := ["internal/abi.NoEscape"], unfollowed := true, recurses := true, apart := false }
def FormulaReadsSaid : Prop := formulaReadsRow.holds Try.pinned (OpenSpec.ofChange formulaReadsSpec)

/-- ITS FALSE NEIGHBOUR: 'it returns false'. Refute it at one input. -/
def formulaReadsWrong : ChangeSpec := { name := "formulaReads", fn := fun _ => fun
  | [d] => { results := [.lit (.bool false)], args := [d] }
  | _ => none }
def FormulaReadsWrongFalsely : Prop := formulaReadsRow.holds Try.pinned (OpenSpec.ofChange formulaReadsWrong)

/-- 'sequentlaw.FormulaParts': WHATEVER THE INPUT: true; the input reads as it did. -/
def formulaPartsSpec : ChangeSpec := { name := "formulaParts", fn := fun _ => fun
  | [d1, d2, d3] => { results := [.lit (.bool true)], args := [d1, d2, d3] }
  | _ => none }
def formulaPartsRow : OpenClaim := { program := "ytlmjnglcdgkomaa", sum := "26d4788fc2fde1b1f02e1673467a2a7376f5455eded675cdd0850422b2b8d6b5", func := "sequent/sequentlaw.FormulaParts", spec := "formulaParts", inPlace := ["internal/abi.NoEscape"], unfollowed := true, recurses := true, loops := true, apart := false }
def FormulaPartsSaid : Prop := formulaPartsRow.holds Try.pinned (OpenSpec.ofChange formulaPartsSpec)

/-- ITS FALSE NEIGHBOUR: 'it returns false'. Refute it at one input. -/
def formulaPartsWrong : ChangeSpec := { name := "formulaParts", fn := fun _ => fun
  | [d1, d2, d3] => { results := [.lit (.bool false)], args := [d1, d2, d3] }
  | _ => none }
def FormulaPartsWrongFalsely : Prop := formulaPartsRow.holds Try.pinned (OpenSpec.ofChange formulaPartsWrong)

/-- 'sequentlaw.FormulaBack': WHATEVER THE INPUT: true; the input reads as it did. -/
def formulaBackSpec : ChangeSpec := { name := "formulaBack", fn := fun _ => fun
  | [d1, d2] => { results := [.lit (.bool true)], args := [d1, d2] }
  | _ => none }
def formulaBackRow : OpenClaim := { program := "ytlmjnglcdgkomaa", sum := "26d4788fc2fde1b1f02e1673467a2a7376f5455eded675cdd0850422b2b8d6b5", func := "sequent/sequentlaw.FormulaBack", spec := "formulaBack", inPlace := ["internal/abi.NoEscape"], unfollowed := true, recurses := true, loops := true, apart := false }
def FormulaBackSaid : Prop := formulaBackRow.holds Try.pinned (OpenSpec.ofChange formulaBackSpec)

/-- ITS FALSE NEIGHBOUR: 'it returns false'. Refute it at one input. -/
def formulaBackWrong : ChangeSpec := { name := "formulaBack", fn := fun _ => fun
  | [d1, d2] => { results := [.lit (.bool false)], args := [d1, d2] }
  | _ => none }
def FormulaBackWrongFalsely : Prop := formulaBackRow.holds Try.pinned (OpenSpec.ofChange formulaBackWrong)

/-- 'sequentlaw.FormulaSwaps': WHATEVER THE INPUT: true; the input reads as it did. -/
def formulaSwapsSpec : ChangeSpec := { name := "formulaSwaps", fn := fun _ => fun
  | [d1, d2, d3] => { results := [.lit (.bool true)], args := [d1, d2, d3] }
  | _ => none }
def formulaSwapsRow : OpenClaim := { program := "ytlmjnglcdgkomaa", sum := "26d4788fc2fde1b1f02e1673467a2a7376f5455eded675cdd0850422b2b8d6b5", func := "sequent/sequentlaw.FormulaSwaps", spec := "formulaSwaps", inPlace := ["internal/abi.NoEscape"], unfollowed := true, recurses := true, loops := true, apart := false }
def FormulaSwapsSaid : Prop := formulaSwapsRow.holds Try.pinned (OpenSpec.ofChange formulaSwapsSpec)

/-- ITS FALSE NEIGHBOUR: 'it returns false'. Refute it at one input. -/
def formulaSwapsWrong : ChangeSpec := { name := "formulaSwaps", fn := fun _ => fun
  | [d1, d2, d3] => { results := [.lit (.bool false)], args := [d1, d2, d3] }
  | _ => none }
def FormulaSwapsWrongFalsely : Prop := formulaSwapsRow.holds Try.pinned (OpenSpec.ofChange formulaSwapsWrong)

/-- 'sequentlaw.TruthValues': WHATEVER THE INPUT: true; the input reads as it did. -/
def truthValuesSpec : ChangeSpec := { name := "truthValues", fn := fun _ => fun
  | [d1, d2] => { results := [.lit (.bool true)], args := [d1, d2] }
  | _ => none }
def truthValuesRow : OpenClaim := { program := "ytlmjnglcdgkomaa", sum := "26d4788fc2fde1b1f02e1673467a2a7376f5455eded675cdd0850422b2b8d6b5", func := "sequent/sequentlaw.TruthValues", spec := "truthValues", unfollowed := true, recurses := true, loops := true, apart := false }
def TruthValuesSaid : Prop := truthValuesRow.holds Try.pinned (OpenSpec.ofChange truthValuesSpec)

/-- ITS FALSE NEIGHBOUR: 'it returns false'. Refute it at one input. -/
def truthValuesWrong : ChangeSpec := { name := "truthValues", fn := fun _ => fun
  | [d1, d2] => { results := [.lit (.bool false)], args := [d1, d2] }
  | _ => none }
def TruthValuesWrongFalsely : Prop := truthValuesRow.holds Try.pinned (OpenSpec.ofChange truthValuesWrong)

/- THE SECOND FORM. 'bulk': how many values and letters a reading holds, each counted each time it is reached (what is shared counts as often as it is met; a slice's spare places count too). A statement '..UptoSaid' is the law's where the arguments, and the package variables that the reading takes, are together of bulk at most 1048576: NARROWER than '..Said'. Prove '..Said' where nothing that the law and all that it calls make is longer than what came in: it says more and counts as full. Else prove '..UptoSaid'. A law counts once. -/
mutual
def uptoBulk {H : Type} : DataW H → Nat
  | .lit (.string bytes) => bytes.length + 1
  | .lit _ => 1
  | .nil => 1
  | .ptr d => uptoBulk d + 1
  | .slice elems spare => uptoBulkAll elems + uptoBulkAll spare + 1
  | .agg parts => uptoBulkAll parts + 1
  | .iface _ d => uptoBulk d + 1
  | .map entries => uptoBulkEntries entries + 1
  | .held _ => 1
def uptoBulkAll {H : Type} : List (DataW H) → Nat
  | [] => 0
  | d :: r => uptoBulk d + uptoBulkAll r
def uptoBulkEntries {H : Type} : List (Lit × DataW H) → Nat
  | [] => 0
  | x :: r => uptoBulkEntry x + uptoBulkEntries r
def uptoBulkEntry {H : Type} : Lit × DataW H → Nat
  | (.string bytes, d) => bytes.length + uptoBulk d + 1
  | (_, d) => uptoBulk d + 1
 end
def uptoSmall : (H : Type) → List (DataW H) → Bool := fun _ ds => decide (uptoBulkAll ds ≤ 1048576)
def OpenSpec.upto (s : _root_.Go.ChangeSpec) : _root_.Go.OpenSpec := { _root_.Go.OpenSpec.ofChange s with cond := some uptoSmall }

/-- 'sequentlaw.FormulaChecks', WHERE WHAT IT READS IS OF BULK AT MOST 1048576: true; the input reads as it did. -/
def formulaChecksUptoRow : OpenClaim := { program := "ytlmjnglcdgkomaa", sum := "26d4788fc2fde1b1f02e1673467a2a7376f5455eded675cdd0850422b2b8d6b5", func := "sequent/sequentlaw.FormulaChecks", spec := "formulaChecks", inPlace := ["internal/abi.NoEscape"], unfollowed := true, recurses := true, loops := true, apart := false, narrowed := true }
def FormulaChecksUptoSaid : Prop := formulaChecksUptoRow.holds Try.pinned (OpenSpec.upto formulaChecksSpec)

/-- 'sequentlaw.FormulaReads', WHERE WHAT IT READS IS OF BULK AT MOST 1048576: true; the input reads as it did. -/
def formulaReadsUptoRow : OpenClaim := { program := "ytlmjnglcdgkomaa", sum := "26d4788fc2fde1b1f02e1673467a2a7376f5455eded675cdd0850422b2b8d6b5", func := "sequent/sequentlaw.FormulaReads", spec := "formulaReads", inPlace := ["internal/abi.NoEscape"], unfollowed := true, recurses := true, apart := false, narrowed := true }
def FormulaReadsUptoSaid : Prop := formulaReadsUptoRow.holds Try.pinned (OpenSpec.upto formulaReadsSpec)

/-- 'sequentlaw.FormulaParts', WHERE WHAT IT READS IS OF BULK AT MOST 1048576: true; the input reads as it did. -/
def formulaPartsUptoRow : OpenClaim := { program := "ytlmjnglcdgkomaa", sum := "26d4788fc2fde1b1f02e1673467a2a7376f5455eded675cdd0850422b2b8d6b5", func := "sequent/sequentlaw.FormulaParts", spec := "formulaParts", inPlace := ["internal/abi.NoEscape"], unfollowed := true, recurses := true, loops := true, apart := false, narrowed := true }
def FormulaPartsUptoSaid : Prop := formulaPartsUptoRow.holds Try.pinned (OpenSpec.upto formulaPartsSpec)

/-- 'sequentlaw.FormulaBack', WHERE WHAT IT READS IS OF BULK AT MOST 1048576: true; the input reads as it did. -/
def formulaBackUptoRow : OpenClaim := { program := "ytlmjnglcdgkomaa", sum := "26d4788fc2fde1b1f02e1673467a2a7376f5455eded675cdd0850422b2b8d6b5", func := "sequent/sequentlaw.FormulaBack", spec := "formulaBack", inPlace := ["internal/abi.NoEscape"], unfollowed := true, recurses := true, loops := true, apart := false, narrowed := true }
def FormulaBackUptoSaid : Prop := formulaBackUptoRow.holds Try.pinned (OpenSpec.upto formulaBackSpec)

/-- 'sequentlaw.FormulaSwaps', WHERE WHAT IT READS IS OF BULK AT MOST 1048576: true; the input reads as it did. -/
def formulaSwapsUptoRow : OpenClaim := { program := "ytlmjnglcdgkomaa", sum := "26d4788fc2fde1b1f02e1673467a2a7376f5455eded675cdd0850422b2b8d6b5", func := "sequent/sequentlaw.FormulaSwaps", spec := "formulaSwaps", inPlace := ["internal/abi.NoEscape"], unfollowed := true, recurses := true, loops := true, apart := false, narrowed := true }
def FormulaSwapsUptoSaid : Prop := formulaSwapsUptoRow.holds Try.pinned (OpenSpec.upto formulaSwapsSpec)

/-- 'sequentlaw.TruthValues', WHERE WHAT IT READS IS OF BULK AT MOST 1048576: true; the input reads as it did. -/
def truthValuesUptoRow : OpenClaim := { program := "ytlmjnglcdgkomaa", sum := "26d4788fc2fde1b1f02e1673467a2a7376f5455eded675cdd0850422b2b8d6b5", func := "sequent/sequentlaw.TruthValues", spec := "truthValues", unfollowed := true, recurses := true, loops := true, apart := false, narrowed := true }
def TruthValuesUptoSaid : Prop := truthValuesUptoRow.holds Try.pinned (OpenSpec.upto truthValuesSpec)

end Rows
end Go.Proofs.Ytlmjnglcdgkomaa
