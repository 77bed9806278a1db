/-
  NARROWER THAN 'FOR EVERY INPUT', by the rows' own cells (each row's printed sentence says how): CutParts: loops · BetweenCraig: loops · BetweenProjects: loops · BetweenBeth: loops · BetweenJoint: loops.
  DERIVED. THE GIVEN ROWS OF THIS SEAT. 5 by the template 'for every input the law returns true; each argument reads behind the call as it read before'; 0 by the template 'total and deterministic' (their statements: YtffkoiemnchdgaeTotals.lean).
  GIVEN WITH THE SEED: the statements are not yours to turn. If you find one false, say at which input.
  Laid BY PROGRAM, IN A SANDBOX (cutbox-rows.mjs): the forced cells as the released guide's own fill.sh prints them over the translation a29e3aa321680fd6… (all of the seat's roots in one cut). By AI agents, Wed Nov 11 2026. No macro, syntax, notation, axiom, sorry.
-/
import Derived.Test.YtffkoiemnchdgaeChecked
import GoSem.Claim
import GoSem.ClaimJoined
import GoSem.ClaimMapViews
import Derived.JoinedTies
import Derived.KernelRfl
namespace Go.Proofs.Ytffkoiemnchdgae
/- THE CELL 'sum', in the pinned program and in every row, IS THE sha256 OF THE DUMP (.gsa) THAT YtffkoiemnchdgaeProg.lean LOADS. Nothing in Lean hashes anything: it is a label: what it is worth is what the hold of that sum in a sandbox is worth. -/
noncomputable def Try.pinned : Pinned := { name := "ytffkoiemnchdgae", sum := "a29e3aa321680fd683d4f63fcd8e5b0dc6798a7eeeac5017ba594507931ca0d9", checked := Try.checked }
namespace Rows
def none {H : Type} : Left H := { results := [], args := [] }

/-- 'sequentlaw.CutParts': WHATEVER THE INPUT: true; the input reads as it did. -/
def cutPartsSpec : ChangeSpec := { name := "cutParts", fn := fun _ => fun
  | [d1, d2] => { results := [.lit (.bool true)], args := [d1, d2] }
  | _ => none }
def cutPartsRow : OpenClaim := { program := "ytffkoiemnchdgae", sum := "a29e3aa321680fd683d4f63fcd8e5b0dc6798a7eeeac5017ba594507931ca0d9", func := "sequent/sequentlaw.CutParts", spec := "cutParts", unfollowed := true, recurses := true, loops := true, apart := false }
def CutPartsSaid : Prop := cutPartsRow.holds Try.pinned (OpenSpec.ofChange cutPartsSpec)

/-- ITS FALSE NEIGHBOUR: 'it returns false'. Refute it at one input. -/
def cutPartsWrong : ChangeSpec := { name := "cutParts", fn := fun _ => fun
  | [d1, d2] => { results := [.lit (.bool false)], args := [d1, d2] }
  | _ => none }
def CutPartsWrongFalsely : Prop := cutPartsRow.holds Try.pinned (OpenSpec.ofChange cutPartsWrong)

/-- 'sequentlaw.BetweenCraig': WHATEVER THE INPUT: true; the input reads as it did. -/
def betweenCraigSpec : ChangeSpec := { name := "betweenCraig", fn := fun _ => fun
  | [d1, d2] => { results := [.lit (.bool true)], args := [d1, d2] }
  | _ => none }
def betweenCraigRow : OpenClaim := { program := "ytffkoiemnchdgae", sum := "a29e3aa321680fd683d4f63fcd8e5b0dc6798a7eeeac5017ba594507931ca0d9", func := "sequent/sequentlaw.BetweenCraig", spec := "betweenCraig", unfollowed := true, recurses := true, loops := true, apart := false }
def BetweenCraigSaid : Prop := betweenCraigRow.holds Try.pinned (OpenSpec.ofChange betweenCraigSpec)

/-- ITS FALSE NEIGHBOUR: 'it returns false'. Refute it at one input. -/
def betweenCraigWrong : ChangeSpec := { name := "betweenCraig", fn := fun _ => fun
  | [d1, d2] => { results := [.lit (.bool false)], args := [d1, d2] }
  | _ => none }
def BetweenCraigWrongFalsely : Prop := betweenCraigRow.holds Try.pinned (OpenSpec.ofChange betweenCraigWrong)

/-- 'sequentlaw.BetweenProjects': WHATEVER THE INPUT: true; the input reads as it did. -/
def betweenProjectsSpec : ChangeSpec := { name := "betweenProjects", fn := fun _ => fun
  | [d1, d2] => { results := [.lit (.bool true)], args := [d1, d2] }
  | _ => none }
def betweenProjectsRow : OpenClaim := { program := "ytffkoiemnchdgae", sum := "a29e3aa321680fd683d4f63fcd8e5b0dc6798a7eeeac5017ba594507931ca0d9", func := "sequent/sequentlaw.BetweenProjects", spec := "betweenProjects", unfollowed := true, recurses := true, loops := true, apart := false }
def BetweenProjectsSaid : Prop := betweenProjectsRow.holds Try.pinned (OpenSpec.ofChange betweenProjectsSpec)

/-- ITS FALSE NEIGHBOUR: 'it returns false'. Refute it at one input. -/
def betweenProjectsWrong : ChangeSpec := { name := "betweenProjects", fn := fun _ => fun
  | [d1, d2] => { results := [.lit (.bool false)], args := [d1, d2] }
  | _ => none }
def BetweenProjectsWrongFalsely : Prop := betweenProjectsRow.holds Try.pinned (OpenSpec.ofChange betweenProjectsWrong)

/-- 'sequentlaw.BetweenBeth': WHATEVER THE INPUT: true; the input reads as it did. -/
def betweenBethSpec : ChangeSpec := { name := "betweenBeth", fn := fun _ => fun
  | [d1, d2] => { results := [.lit (.bool true)], args := [d1, d2] }
  | _ => none }
def betweenBethRow : OpenClaim := { program := "ytffkoiemnchdgae", sum := "a29e3aa321680fd683d4f63fcd8e5b0dc6798a7eeeac5017ba594507931ca0d9", func := "sequent/sequentlaw.BetweenBeth", spec := "betweenBeth", unfollowed := true, recurses := true, loops := true, apart := false }
def BetweenBethSaid : Prop := betweenBethRow.holds Try.pinned (OpenSpec.ofChange betweenBethSpec)

/-- ITS FALSE NEIGHBOUR: 'it returns false'. Refute it at one input. -/
def betweenBethWrong : ChangeSpec := { name := "betweenBeth", fn := fun _ => fun
  | [d1, d2] => { results := [.lit (.bool false)], args := [d1, d2] }
  | _ => none }
def BetweenBethWrongFalsely : Prop := betweenBethRow.holds Try.pinned (OpenSpec.ofChange betweenBethWrong)

/-- 'sequentlaw.BetweenJoint': WHATEVER THE INPUT: true; the input reads as it did. -/
def betweenJointSpec : ChangeSpec := { name := "betweenJoint", fn := fun _ => fun
  | [d1, d2] => { results := [.lit (.bool true)], args := [d1, d2] }
  | _ => none }
def betweenJointRow : OpenClaim := { program := "ytffkoiemnchdgae", sum := "a29e3aa321680fd683d4f63fcd8e5b0dc6798a7eeeac5017ba594507931ca0d9", func := "sequent/sequentlaw.BetweenJoint", spec := "betweenJoint", unfollowed := true, recurses := true, loops := true, apart := false }
def BetweenJointSaid : Prop := betweenJointRow.holds Try.pinned (OpenSpec.ofChange betweenJointSpec)

/-- ITS FALSE NEIGHBOUR: 'it returns false'. Refute it at one input. -/
def betweenJointWrong : ChangeSpec := { name := "betweenJoint", fn := fun _ => fun
  | [d1, d2] => { results := [.lit (.bool false)], args := [d1, d2] }
  | _ => none }
def BetweenJointWrongFalsely : Prop := betweenJointRow.holds Try.pinned (OpenSpec.ofChange betweenJointWrong)

/- THE SECOND FORM. 'bulk': how many values and letters a reading holds, each counted each time it is reached (what is shared counts as often as it is met; a slice's spare places count too). A statement '..UptoSaid' is the law's where the arguments, and the package variables that the reading takes, are together of bulk at most 1048576: NARROWER than '..Said'. Prove '..Said' where nothing that the law and all that it calls make is longer than what came in: it says more and counts as full. Else prove '..UptoSaid'. A law counts once. -/
mutual
def uptoBulk {H : Type} : DataW H → Nat
  | .lit (.string bytes) => bytes.length + 1
  | .lit _ => 1
  | .nil => 1
  | .ptr d => uptoBulk d + 1
  | .slice elems spare => uptoBulkAll elems + uptoBulkAll spare + 1
  | .agg parts => uptoBulkAll parts + 1
  | .iface _ d => uptoBulk d + 1
  | .map entries => uptoBulkEntries entries + 1
  | .held _ => 1
def uptoBulkAll {H : Type} : List (DataW H) → Nat
  | [] => 0
  | d :: r => uptoBulk d + uptoBulkAll r
def uptoBulkEntries {H : Type} : List (Lit × DataW H) → Nat
  | [] => 0
  | x :: r => uptoBulkEntry x + uptoBulkEntries r
def uptoBulkEntry {H : Type} : Lit × DataW H → Nat
  | (.string bytes, d) => bytes.length + uptoBulk d + 1
  | (_, d) => uptoBulk d + 1
 end
def uptoSmall : (H : Type) → List (DataW H) → Bool := fun _ ds => decide (uptoBulkAll ds ≤ 1048576)
def OpenSpec.upto (s : _root_.Go.ChangeSpec) : _root_.Go.OpenSpec := { _root_.Go.OpenSpec.ofChange s with cond := some uptoSmall }

/-- 'sequentlaw.CutParts', WHERE WHAT IT READS IS OF BULK AT MOST 1048576: true; the input reads as it did. -/
def cutPartsUptoRow : OpenClaim := { program := "ytffkoiemnchdgae", sum := "a29e3aa321680fd683d4f63fcd8e5b0dc6798a7eeeac5017ba594507931ca0d9", func := "sequent/sequentlaw.CutParts", spec := "cutParts", unfollowed := true, recurses := true, loops := true, apart := false, narrowed := true }
def CutPartsUptoSaid : Prop := cutPartsUptoRow.holds Try.pinned (OpenSpec.upto cutPartsSpec)

/-- 'sequentlaw.BetweenCraig', WHERE WHAT IT READS IS OF BULK AT MOST 1048576: true; the input reads as it did. -/
def betweenCraigUptoRow : OpenClaim := { program := "ytffkoiemnchdgae", sum := "a29e3aa321680fd683d4f63fcd8e5b0dc6798a7eeeac5017ba594507931ca0d9", func := "sequent/sequentlaw.BetweenCraig", spec := "betweenCraig", unfollowed := true, recurses := true, loops := true, apart := false, narrowed := true }
def BetweenCraigUptoSaid : Prop := betweenCraigUptoRow.holds Try.pinned (OpenSpec.upto betweenCraigSpec)

/-- 'sequentlaw.BetweenProjects', WHERE WHAT IT READS IS OF BULK AT MOST 1048576: true; the input reads as it did. -/
def betweenProjectsUptoRow : OpenClaim := { program := "ytffkoiemnchdgae", sum := "a29e3aa321680fd683d4f63fcd8e5b0dc6798a7eeeac5017ba594507931ca0d9", func := "sequent/sequentlaw.BetweenProjects", spec := "betweenProjects", unfollowed := true, recurses := true, loops := true, apart := false, narrowed := true }
def BetweenProjectsUptoSaid : Prop := betweenProjectsUptoRow.holds Try.pinned (OpenSpec.upto betweenProjectsSpec)

/-- 'sequentlaw.BetweenBeth', WHERE WHAT IT READS IS OF BULK AT MOST 1048576: true; the input reads as it did. -/
def betweenBethUptoRow : OpenClaim := { program := "ytffkoiemnchdgae", sum := "a29e3aa321680fd683d4f63fcd8e5b0dc6798a7eeeac5017ba594507931ca0d9", func := "sequent/sequentlaw.BetweenBeth", spec := "betweenBeth", unfollowed := true, recurses := true, loops := true, apart := false, narrowed := true }
def BetweenBethUptoSaid : Prop := betweenBethUptoRow.holds Try.pinned (OpenSpec.upto betweenBethSpec)

/-- 'sequentlaw.BetweenJoint', WHERE WHAT IT READS IS OF BULK AT MOST 1048576: true; the input reads as it did. -/
def betweenJointUptoRow : OpenClaim := { program := "ytffkoiemnchdgae", sum := "a29e3aa321680fd683d4f63fcd8e5b0dc6798a7eeeac5017ba594507931ca0d9", func := "sequent/sequentlaw.BetweenJoint", spec := "betweenJoint", unfollowed := true, recurses := true, loops := true, apart := false, narrowed := true }
def BetweenJointUptoSaid : Prop := betweenJointUptoRow.holds Try.pinned (OpenSpec.upto betweenJointSpec)

end Rows
end Go.Proofs.Ytffkoiemnchdgae
