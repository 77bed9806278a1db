/-
  NARROWER THAN 'FOR EVERY INPUT', by the rows' own cells (each row's printed sentence says how): ClassicProves: loops · ClassicCuts: loops · KripkeForces: loops · KripkeProves: loops.
  DERIVED. THE GIVEN ROWS OF THIS SEAT. 4 by the template 'for every input the law returns true; each argument reads behind the call as it read before'; 0 by the template 'total and deterministic' (their statements: YtbmedfokpgghiacGreatTotals.lean).
  GIVEN WITH THE SEED: the statements are not yours to turn. If you find one false, say at which input.
  Laid BY PROGRAM, IN A SANDBOX (cutbox-rows.mjs): the forced cells as the released guide's own fill.sh prints them over the translation 64c7e7e7b968b3c4… (all of the seat's roots in one cut). By AI agents, Wed Nov 11 2026. No macro, syntax, notation, axiom, sorry.
-/
import Derived.Test.YtbmedfokpgghiacGreatChecked
import GoSem.Claim
import GoSem.ClaimJoined
import GoSem.ClaimMapViews
import Derived.JoinedTies
import Derived.KernelRfl
namespace Go.Proofs.YtbmedfokpgghiacGreat
/- THE CELL 'sum', in the pinned program and in every row, IS THE sha256 OF THE DUMP (.gsa) THAT YtbmedfokpgghiacGreatProg.lean LOADS. Nothing in Lean hashes anything: it is a label: what it is worth is what the hold of that sum in a sandbox is worth. -/
noncomputable def Tryz.pinned : Pinned := { name := "ytbmedfokpgghiacgreat", sum := "64c7e7e7b968b3c4bcad786ef43a67ab10c10e2e6199271062b23f1f8185203f", checked := Tryz.checked }
namespace Rows
def none {H : Type} : Left H := { results := [], args := [] }

/-- 'sequentlaw.ClassicProves': WHATEVER THE INPUT: true; the input reads as it did. -/
def classicProvesSpec : ChangeSpec := { name := "classicProves", fn := fun _ => fun
  | [d] => { results := [.lit (.bool true)], args := [d] }
  | _ => none }
def classicProvesRow : OpenClaim := { program := "ytbmedfokpgghiacgreat", sum := "64c7e7e7b968b3c4bcad786ef43a67ab10c10e2e6199271062b23f1f8185203f", func := "sequent/sequentlaw.ClassicProves", spec := "classicProves", unfollowed := true, recurses := true, loops := true, plainKeys := false, apart := false }
def ClassicProvesSaid : Prop := classicProvesRow.holds Tryz.pinned (OpenSpec.ofChange classicProvesSpec)

/-- ITS FALSE NEIGHBOUR: 'it returns false'. Refute it at one input. -/
def classicProvesWrong : ChangeSpec := { name := "classicProves", fn := fun _ => fun
  | [d] => { results := [.lit (.bool false)], args := [d] }
  | _ => none }
def ClassicProvesWrongFalsely : Prop := classicProvesRow.holds Tryz.pinned (OpenSpec.ofChange classicProvesWrong)

/-- 'sequentlaw.ClassicCuts': WHATEVER THE INPUT: true; the input reads as it did. -/
def classicCutsSpec : ChangeSpec := { name := "classicCuts", fn := fun _ => fun
  | [d1, d2] => { results := [.lit (.bool true)], args := [d1, d2] }
  | _ => none }
def classicCutsRow : OpenClaim := { program := "ytbmedfokpgghiacgreat", sum := "64c7e7e7b968b3c4bcad786ef43a67ab10c10e2e6199271062b23f1f8185203f", func := "sequent/sequentlaw.ClassicCuts", spec := "classicCuts", unfollowed := true, recurses := true, loops := true, plainKeys := false, apart := false }
def ClassicCutsSaid : Prop := classicCutsRow.holds Tryz.pinned (OpenSpec.ofChange classicCutsSpec)

/-- ITS FALSE NEIGHBOUR: 'it returns false'. Refute it at one input. -/
def classicCutsWrong : ChangeSpec := { name := "classicCuts", fn := fun _ => fun
  | [d1, d2] => { results := [.lit (.bool false)], args := [d1, d2] }
  | _ => none }
def ClassicCutsWrongFalsely : Prop := classicCutsRow.holds Tryz.pinned (OpenSpec.ofChange classicCutsWrong)

/-- 'sequentlaw.KripkeForces': WHATEVER THE INPUT: true; the input reads as it did. -/
def kripkeForcesSpec : ChangeSpec := { name := "kripkeForces", fn := fun _ => fun
  | [d1, d2] => { results := [.lit (.bool true)], args := [d1, d2] }
  | _ => none }
def kripkeForcesRow : OpenClaim := { program := "ytbmedfokpgghiacgreat", sum := "64c7e7e7b968b3c4bcad786ef43a67ab10c10e2e6199271062b23f1f8185203f", func := "sequent/sequentlaw.KripkeForces", spec := "kripkeForces", unfollowed := true, recurses := true, loops := true, plainKeys := false, apart := false }
def KripkeForcesSaid : Prop := kripkeForcesRow.holds Tryz.pinned (OpenSpec.ofChange kripkeForcesSpec)

/-- ITS FALSE NEIGHBOUR: 'it returns false'. Refute it at one input. -/
def kripkeForcesWrong : ChangeSpec := { name := "kripkeForces", fn := fun _ => fun
  | [d1, d2] => { results := [.lit (.bool false)], args := [d1, d2] }
  | _ => none }
def KripkeForcesWrongFalsely : Prop := kripkeForcesRow.holds Tryz.pinned (OpenSpec.ofChange kripkeForcesWrong)

/-- 'sequentlaw.KripkeProves': WHATEVER THE INPUT: true; the input reads as it did. -/
def kripkeProvesSpec : ChangeSpec := { name := "kripkeProves", fn := fun _ => fun
  | [d] => { results := [.lit (.bool true)], args := [d] }
  | _ => none }
def kripkeProvesRow : OpenClaim := { program := "ytbmedfokpgghiacgreat", sum := "64c7e7e7b968b3c4bcad786ef43a67ab10c10e2e6199271062b23f1f8185203f", func := "sequent/sequentlaw.KripkeProves", spec := "kripkeProves", unfollowed := true, recurses := true, loops := true, plainKeys := false, apart := false }
def KripkeProvesSaid : Prop := kripkeProvesRow.holds Tryz.pinned (OpenSpec.ofChange kripkeProvesSpec)

/-- ITS FALSE NEIGHBOUR: 'it returns false'. Refute it at one input. -/
def kripkeProvesWrong : ChangeSpec := { name := "kripkeProves", fn := fun _ => fun
  | [d] => { results := [.lit (.bool false)], args := [d] }
  | _ => none }
def KripkeProvesWrongFalsely : Prop := kripkeProvesRow.holds Tryz.pinned (OpenSpec.ofChange kripkeProvesWrong)

/- THE SECOND FORM. 'bulk': how many values and letters a reading holds, each counted each time it is reached (what is shared counts as often as it is met; a slice's spare places count too). A statement '..UptoSaid' is the law's where the arguments, and the package variables that the reading takes, are together of bulk at most 1048576: NARROWER than '..Said'. Prove '..Said' where nothing that the law and all that it calls make is longer than what came in: it says more and counts as full. Else prove '..UptoSaid'. A law counts once. -/
mutual
def uptoBulk {H : Type} : DataW H → Nat
  | .lit (.string bytes) => bytes.length + 1
  | .lit _ => 1
  | .nil => 1
  | .ptr d => uptoBulk d + 1
  | .slice elems spare => uptoBulkAll elems + uptoBulkAll spare + 1
  | .agg parts => uptoBulkAll parts + 1
  | .iface _ d => uptoBulk d + 1
  | .map entries => uptoBulkEntries entries + 1
  | .held _ => 1
def uptoBulkAll {H : Type} : List (DataW H) → Nat
  | [] => 0
  | d :: r => uptoBulk d + uptoBulkAll r
def uptoBulkEntries {H : Type} : List (Lit × DataW H) → Nat
  | [] => 0
  | x :: r => uptoBulkEntry x + uptoBulkEntries r
def uptoBulkEntry {H : Type} : Lit × DataW H → Nat
  | (.string bytes, d) => bytes.length + uptoBulk d + 1
  | (_, d) => uptoBulk d + 1
 end
def uptoSmall : (H : Type) → List (DataW H) → Bool := fun _ ds => decide (uptoBulkAll ds ≤ 1048576)
def OpenSpec.upto (s : _root_.Go.ChangeSpec) : _root_.Go.OpenSpec := { _root_.Go.OpenSpec.ofChange s with cond := some uptoSmall }

/-- 'sequentlaw.ClassicProves', WHERE WHAT IT READS IS OF BULK AT MOST 1048576: true; the input reads as it did. -/
def classicProvesUptoRow : OpenClaim := { program := "ytbmedfokpgghiacgreat", sum := "64c7e7e7b968b3c4bcad786ef43a67ab10c10e2e6199271062b23f1f8185203f", func := "sequent/sequentlaw.ClassicProves", spec := "classicProves", unfollowed := true, recurses := true, loops := true, plainKeys := false, apart := false, narrowed := true }
def ClassicProvesUptoSaid : Prop := classicProvesUptoRow.holds Tryz.pinned (OpenSpec.upto classicProvesSpec)

/-- 'sequentlaw.ClassicCuts', WHERE WHAT IT READS IS OF BULK AT MOST 1048576: true; the input reads as it did. -/
def classicCutsUptoRow : OpenClaim := { program := "ytbmedfokpgghiacgreat", sum := "64c7e7e7b968b3c4bcad786ef43a67ab10c10e2e6199271062b23f1f8185203f", func := "sequent/sequentlaw.ClassicCuts", spec := "classicCuts", unfollowed := true, recurses := true, loops := true, plainKeys := false, apart := false, narrowed := true }
def ClassicCutsUptoSaid : Prop := classicCutsUptoRow.holds Tryz.pinned (OpenSpec.upto classicCutsSpec)

/-- 'sequentlaw.KripkeForces', WHERE WHAT IT READS IS OF BULK AT MOST 1048576: true; the input reads as it did. -/
def kripkeForcesUptoRow : OpenClaim := { program := "ytbmedfokpgghiacgreat", sum := "64c7e7e7b968b3c4bcad786ef43a67ab10c10e2e6199271062b23f1f8185203f", func := "sequent/sequentlaw.KripkeForces", spec := "kripkeForces", unfollowed := true, recurses := true, loops := true, plainKeys := false, apart := false, narrowed := true }
def KripkeForcesUptoSaid : Prop := kripkeForcesUptoRow.holds Tryz.pinned (OpenSpec.upto kripkeForcesSpec)

/-- 'sequentlaw.KripkeProves', WHERE WHAT IT READS IS OF BULK AT MOST 1048576: true; the input reads as it did. -/
def kripkeProvesUptoRow : OpenClaim := { program := "ytbmedfokpgghiacgreat", sum := "64c7e7e7b968b3c4bcad786ef43a67ab10c10e2e6199271062b23f1f8185203f", func := "sequent/sequentlaw.KripkeProves", spec := "kripkeProves", unfollowed := true, recurses := true, loops := true, plainKeys := false, apart := false, narrowed := true }
def KripkeProvesUptoSaid : Prop := kripkeProvesUptoRow.holds Tryz.pinned (OpenSpec.upto kripkeProvesSpec)

end Rows
end Go.Proofs.YtbmedfokpgghiacGreat
