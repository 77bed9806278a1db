/-
  NARROWER THAN 'FOR EVERY INPUT', by the rows' own cells (each row's printed sentence says how): MeaningPuts: loops · UnifyRobinson: loops · UnifyMatches: loops · UnifyFactors: loops.
  DERIVED. THE GIVEN ROWS OF THIS SEAT. 4 by the template 'for every input the law returns true; each argument reads behind the call as it read before'; 0 by the template 'total and deterministic' (their statements: YtblodnpfckflaakGreatTotals.lean).
  GIVEN WITH THE SEED: the statements are not yours to turn. If you find one false, say at which input.
  Laid BY PROGRAM, IN A SANDBOX (cutbox-rows.mjs): the forced cells as the released guide's own fill.sh prints them over the translation faf47e15607086e0… (all of the seat's roots in one cut). By AI agents, Wed Nov 11 2026. No macro, syntax, notation, axiom, sorry.
-/
import Derived.Test.YtblodnpfckflaakGreatChecked
import GoSem.Claim
import GoSem.ClaimJoined
import GoSem.ClaimMapViews
import Derived.JoinedTies
import Derived.KernelRfl
namespace Go.Proofs.YtblodnpfckflaakGreat
/- THE CELL 'sum', in the pinned program and in every row, IS THE sha256 OF THE DUMP (.gsa) THAT YtblodnpfckflaakGreatProg.lean LOADS. Nothing in Lean hashes anything: it is a label: what it is worth is what the hold of that sum in a sandbox is worth. -/
noncomputable def Tryz.pinned : Pinned := { name := "ytblodnpfckflaakgreat", sum := "faf47e15607086e0a393491af72ecba727e5ac5531bf1c88fa383e24bb914ca8", checked := Tryz.checked }
namespace Rows
def none {H : Type} : Left H := { results := [], args := [] }

/-- 'sequentlaw.MeaningPuts': WHATEVER THE INPUT: true; the input reads as it did. -/
def meaningPutsSpec : ChangeSpec := { name := "meaningPuts", fn := fun _ => fun
  | [d1, d2, d3, d4, d5, d6] => { results := [.lit (.bool true)], args := [d1, d2, d3, d4, d5, d6] }
  | _ => none }
def meaningPutsRow : OpenClaim := { program := "ytblodnpfckflaakgreat", sum := "faf47e15607086e0a393491af72ecba727e5ac5531bf1c88fa383e24bb914ca8", func := "sequent/sequentlaw.MeaningPuts", spec := "meaningPuts", unfollowed := true, recurses := true, loops := true, plainKeys := false, apart := false }
def MeaningPutsSaid : Prop := meaningPutsRow.holds Tryz.pinned (OpenSpec.ofChange meaningPutsSpec)

/-- ITS FALSE NEIGHBOUR: 'it returns false'. Refute it at one input. -/
def meaningPutsWrong : ChangeSpec := { name := "meaningPuts", fn := fun _ => fun
  | [d1, d2, d3, d4, d5, d6] => { results := [.lit (.bool false)], args := [d1, d2, d3, d4, d5, d6] }
  | _ => none }
def MeaningPutsWrongFalsely : Prop := meaningPutsRow.holds Tryz.pinned (OpenSpec.ofChange meaningPutsWrong)

/-- 'sequentlaw.UnifyRobinson': WHATEVER THE INPUT: true; the input reads as it did. -/
def unifyRobinsonSpec : ChangeSpec := { name := "unifyRobinson", fn := fun _ => fun
  | [d1, d2] => { results := [.lit (.bool true)], args := [d1, d2] }
  | _ => none }
def unifyRobinsonRow : OpenClaim := { program := "ytblodnpfckflaakgreat", sum := "faf47e15607086e0a393491af72ecba727e5ac5531bf1c88fa383e24bb914ca8", func := "sequent/sequentlaw.UnifyRobinson", spec := "unifyRobinson", inPlace := ["internal/bytealg.abigen_runtime_cmpstring"], unfollowed := true, recurses := true, loops := true, plainKeys := false, apart := false }
def UnifyRobinsonSaid : Prop := unifyRobinsonRow.holds Tryz.pinned (OpenSpec.ofChange unifyRobinsonSpec)

/-- ITS FALSE NEIGHBOUR: 'it returns false'. Refute it at one input. -/
def unifyRobinsonWrong : ChangeSpec := { name := "unifyRobinson", fn := fun _ => fun
  | [d1, d2] => { results := [.lit (.bool false)], args := [d1, d2] }
  | _ => none }
def UnifyRobinsonWrongFalsely : Prop := unifyRobinsonRow.holds Tryz.pinned (OpenSpec.ofChange unifyRobinsonWrong)

/-- 'sequentlaw.UnifyMatches': WHATEVER THE INPUT: true; the input reads as it did. -/
def unifyMatchesSpec : ChangeSpec := { name := "unifyMatches", fn := fun _ => fun
  | [d1, d2] => { results := [.lit (.bool true)], args := [d1, d2] }
  | _ => none }
def unifyMatchesRow : OpenClaim := { program := "ytblodnpfckflaakgreat", sum := "faf47e15607086e0a393491af72ecba727e5ac5531bf1c88fa383e24bb914ca8", func := "sequent/sequentlaw.UnifyMatches", spec := "unifyMatches", inPlace := ["internal/bytealg.abigen_runtime_cmpstring"], unfollowed := true, recurses := true, loops := true, plainKeys := false, apart := false }
def UnifyMatchesSaid : Prop := unifyMatchesRow.holds Tryz.pinned (OpenSpec.ofChange unifyMatchesSpec)

/-- ITS FALSE NEIGHBOUR: 'it returns false'. Refute it at one input. -/
def unifyMatchesWrong : ChangeSpec := { name := "unifyMatches", fn := fun _ => fun
  | [d1, d2] => { results := [.lit (.bool false)], args := [d1, d2] }
  | _ => none }
def UnifyMatchesWrongFalsely : Prop := unifyMatchesRow.holds Tryz.pinned (OpenSpec.ofChange unifyMatchesWrong)

/-- 'sequentlaw.UnifyFactors': WHATEVER THE INPUT: true; the input reads as it did. -/
def unifyFactorsSpec : ChangeSpec := { name := "unifyFactors", fn := fun _ => fun
  | [d1, d2, d3] => { results := [.lit (.bool true)], args := [d1, d2, d3] }
  | _ => none }
def unifyFactorsRow : OpenClaim := { program := "ytblodnpfckflaakgreat", sum := "faf47e15607086e0a393491af72ecba727e5ac5531bf1c88fa383e24bb914ca8", func := "sequent/sequentlaw.UnifyFactors", spec := "unifyFactors", inPlace := ["internal/bytealg.abigen_runtime_cmpstring"], unfollowed := true, recurses := true, loops := true, plainKeys := false, apart := false }
def UnifyFactorsSaid : Prop := unifyFactorsRow.holds Tryz.pinned (OpenSpec.ofChange unifyFactorsSpec)

/-- ITS FALSE NEIGHBOUR: 'it returns false'. Refute it at one input. -/
def unifyFactorsWrong : ChangeSpec := { name := "unifyFactors", fn := fun _ => fun
  | [d1, d2, d3] => { results := [.lit (.bool false)], args := [d1, d2, d3] }
  | _ => none }
def UnifyFactorsWrongFalsely : Prop := unifyFactorsRow.holds Tryz.pinned (OpenSpec.ofChange unifyFactorsWrong)

/- THE SECOND FORM. 'bulk': how many values and letters a reading holds, each counted each time it is reached (what is shared counts as often as it is met; a slice's spare places count too). A statement '..UptoSaid' is the law's where the arguments, and the package variables that the reading takes, are together of bulk at most 1048576: NARROWER than '..Said'. Prove '..Said' where nothing that the law and all that it calls make is longer than what came in: it says more and counts as full. Else prove '..UptoSaid'. A law counts once. -/
mutual
def uptoBulk {H : Type} : DataW H → Nat
  | .lit (.string bytes) => bytes.length + 1
  | .lit _ => 1
  | .nil => 1
  | .ptr d => uptoBulk d + 1
  | .slice elems spare => uptoBulkAll elems + uptoBulkAll spare + 1
  | .agg parts => uptoBulkAll parts + 1
  | .iface _ d => uptoBulk d + 1
  | .map entries => uptoBulkEntries entries + 1
  | .held _ => 1
def uptoBulkAll {H : Type} : List (DataW H) → Nat
  | [] => 0
  | d :: r => uptoBulk d + uptoBulkAll r
def uptoBulkEntries {H : Type} : List (Lit × DataW H) → Nat
  | [] => 0
  | x :: r => uptoBulkEntry x + uptoBulkEntries r
def uptoBulkEntry {H : Type} : Lit × DataW H → Nat
  | (.string bytes, d) => bytes.length + uptoBulk d + 1
  | (_, d) => uptoBulk d + 1
 end
def uptoSmall : (H : Type) → List (DataW H) → Bool := fun _ ds => decide (uptoBulkAll ds ≤ 1048576)
def OpenSpec.upto (s : _root_.Go.ChangeSpec) : _root_.Go.OpenSpec := { _root_.Go.OpenSpec.ofChange s with cond := some uptoSmall }

/-- 'sequentlaw.MeaningPuts', WHERE WHAT IT READS IS OF BULK AT MOST 1048576: true; the input reads as it did. -/
def meaningPutsUptoRow : OpenClaim := { program := "ytblodnpfckflaakgreat", sum := "faf47e15607086e0a393491af72ecba727e5ac5531bf1c88fa383e24bb914ca8", func := "sequent/sequentlaw.MeaningPuts", spec := "meaningPuts", unfollowed := true, recurses := true, loops := true, plainKeys := false, apart := false, narrowed := true }
def MeaningPutsUptoSaid : Prop := meaningPutsUptoRow.holds Tryz.pinned (OpenSpec.upto meaningPutsSpec)

/-- 'sequentlaw.UnifyRobinson', WHERE WHAT IT READS IS OF BULK AT MOST 1048576: true; the input reads as it did. -/
def unifyRobinsonUptoRow : OpenClaim := { program := "ytblodnpfckflaakgreat", sum := "faf47e15607086e0a393491af72ecba727e5ac5531bf1c88fa383e24bb914ca8", func := "sequent/sequentlaw.UnifyRobinson", spec := "unifyRobinson", inPlace := ["internal/bytealg.abigen_runtime_cmpstring"], unfollowed := true, recurses := true, loops := true, plainKeys := false, apart := false, narrowed := true }
def UnifyRobinsonUptoSaid : Prop := unifyRobinsonUptoRow.holds Tryz.pinned (OpenSpec.upto unifyRobinsonSpec)

/-- 'sequentlaw.UnifyMatches', WHERE WHAT IT READS IS OF BULK AT MOST 1048576: true; the input reads as it did. -/
def unifyMatchesUptoRow : OpenClaim := { program := "ytblodnpfckflaakgreat", sum := "faf47e15607086e0a393491af72ecba727e5ac5531bf1c88fa383e24bb914ca8", func := "sequent/sequentlaw.UnifyMatches", spec := "unifyMatches", inPlace := ["internal/bytealg.abigen_runtime_cmpstring"], unfollowed := true, recurses := true, loops := true, plainKeys := false, apart := false, narrowed := true }
def UnifyMatchesUptoSaid : Prop := unifyMatchesUptoRow.holds Tryz.pinned (OpenSpec.upto unifyMatchesSpec)

/-- 'sequentlaw.UnifyFactors', WHERE WHAT IT READS IS OF BULK AT MOST 1048576: true; the input reads as it did. -/
def unifyFactorsUptoRow : OpenClaim := { program := "ytblodnpfckflaakgreat", sum := "faf47e15607086e0a393491af72ecba727e5ac5531bf1c88fa383e24bb914ca8", func := "sequent/sequentlaw.UnifyFactors", spec := "unifyFactors", inPlace := ["internal/bytealg.abigen_runtime_cmpstring"], unfollowed := true, recurses := true, loops := true, plainKeys := false, apart := false, narrowed := true }
def UnifyFactorsUptoSaid : Prop := unifyFactorsUptoRow.holds Tryz.pinned (OpenSpec.upto unifyFactorsSpec)

end Rows
end Go.Proofs.YtblodnpfckflaakGreat
