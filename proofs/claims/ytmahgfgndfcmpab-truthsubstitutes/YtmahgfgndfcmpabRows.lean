/-
  NARROWER THAN 'FOR EVERY INPUT', by the rows' own cells (each row's printed sentence says how): TruthMade: loops · TruthSubstitutes: loops · TruthMorgan: loops · CalculusSound: loops.
  DERIVED. THE GIVEN ROWS OF THIS SEAT. 5 by the template 'for every input the law returns true; each argument reads behind the call as it read before'; 0 by the template 'total and deterministic' (their statements: YtmahgfgndfcmpabTotals.lean).
  GIVEN WITH THE SEED: the statements are not yours to turn. If you find one false, say at which input.
  Laid BY PROGRAM, IN A SANDBOX (cutbox-rows.mjs): the forced cells as the released guide's own fill.sh prints them over the translation 5fb872a7f0272b87… (all of the seat's roots in one cut). By AI agents, Wed Nov 11 2026. No macro, syntax, notation, axiom, sorry.
-/
import Derived.Test.YtmahgfgndfcmpabChecked
import GoSem.Claim
import GoSem.ClaimJoined
import GoSem.ClaimMapViews
import Derived.JoinedTies
import Derived.KernelRfl
namespace Go.Proofs.Ytmahgfgndfcmpab
/- THE CELL 'sum', in the pinned program and in every row, IS THE sha256 OF THE DUMP (.gsa) THAT YtmahgfgndfcmpabProg.lean LOADS. Nothing in Lean hashes anything: it is a label: what it is worth is what the hold of that sum in a sandbox is worth. -/
noncomputable def Try.pinned : Pinned := { name := "ytmahgfgndfcmpab", sum := "5fb872a7f0272b87fed6455fb7d8981ac5e5ab0f91ffcabc63ad51740151e00f", checked := Try.checked }
namespace Rows
def none {H : Type} : Left H := { results := [], args := [] }

/-- 'sequentlaw.TruthPost': WHATEVER THE INPUT: true; the input reads as it did. -/
def truthPostSpec : ChangeSpec := { name := "truthPost", fn := fun _ => fun
  | [d] => { results := [.lit (.bool true)], args := [d] }
  | _ => none }
def truthPostRow : OpenClaim := { program := "ytmahgfgndfcmpab", sum := "5fb872a7f0272b87fed6455fb7d8981ac5e5ab0f91ffcabc63ad51740151e00f", func := "sequent/sequentlaw.TruthPost", spec := "truthPost", unfollowed := true, recurses := true, apart := false }
def TruthPostSaid : Prop := truthPostRow.holds Try.pinned (OpenSpec.ofChange truthPostSpec)

/-- ITS FALSE NEIGHBOUR: 'it returns false'. Refute it at one input. -/
def truthPostWrong : ChangeSpec := { name := "truthPost", fn := fun _ => fun
  | [d] => { results := [.lit (.bool false)], args := [d] }
  | _ => none }
def TruthPostWrongFalsely : Prop := truthPostRow.holds Try.pinned (OpenSpec.ofChange truthPostWrong)

/-- 'sequentlaw.TruthMade': WHATEVER THE INPUT: true; the input reads as it did. -/
def truthMadeSpec : ChangeSpec := { name := "truthMade", fn := fun _ => fun
  | [d1, d2] => { results := [.lit (.bool true)], args := [d1, d2] }
  | _ => none }
def truthMadeRow : OpenClaim := { program := "ytmahgfgndfcmpab", sum := "5fb872a7f0272b87fed6455fb7d8981ac5e5ab0f91ffcabc63ad51740151e00f", func := "sequent/sequentlaw.TruthMade", spec := "truthMade", unfollowed := true, recurses := true, loops := true, apart := false }
def TruthMadeSaid : Prop := truthMadeRow.holds Try.pinned (OpenSpec.ofChange truthMadeSpec)

/-- ITS FALSE NEIGHBOUR: 'it returns false'. Refute it at one input. -/
def truthMadeWrong : ChangeSpec := { name := "truthMade", fn := fun _ => fun
  | [d1, d2] => { results := [.lit (.bool false)], args := [d1, d2] }
  | _ => none }
def TruthMadeWrongFalsely : Prop := truthMadeRow.holds Try.pinned (OpenSpec.ofChange truthMadeWrong)

/-- 'sequentlaw.TruthSubstitutes': WHATEVER THE INPUT: true; the input reads as it did. -/
def truthSubstitutesSpec : ChangeSpec := { name := "truthSubstitutes", fn := fun _ => fun
  | [d1, d2, d3, d4] => { results := [.lit (.bool true)], args := [d1, d2, d3, d4] }
  | _ => none }
def truthSubstitutesRow : OpenClaim := { program := "ytmahgfgndfcmpab", sum := "5fb872a7f0272b87fed6455fb7d8981ac5e5ab0f91ffcabc63ad51740151e00f", func := "sequent/sequentlaw.TruthSubstitutes", spec := "truthSubstitutes", unfollowed := true, recurses := true, loops := true, apart := false }
def TruthSubstitutesSaid : Prop := truthSubstitutesRow.holds Try.pinned (OpenSpec.ofChange truthSubstitutesSpec)

/-- ITS FALSE NEIGHBOUR: 'it returns false'. Refute it at one input. -/
def truthSubstitutesWrong : ChangeSpec := { name := "truthSubstitutes", fn := fun _ => fun
  | [d1, d2, d3, d4] => { results := [.lit (.bool false)], args := [d1, d2, d3, d4] }
  | _ => none }
def TruthSubstitutesWrongFalsely : Prop := truthSubstitutesRow.holds Try.pinned (OpenSpec.ofChange truthSubstitutesWrong)

/-- 'sequentlaw.TruthMorgan': WHATEVER THE INPUT: true; the input reads as it did. -/
def truthMorganSpec : ChangeSpec := { name := "truthMorgan", fn := fun _ => fun
  | [d1, d2] => { results := [.lit (.bool true)], args := [d1, d2] }
  | _ => none }
def truthMorganRow : OpenClaim := { program := "ytmahgfgndfcmpab", sum := "5fb872a7f0272b87fed6455fb7d8981ac5e5ab0f91ffcabc63ad51740151e00f", func := "sequent/sequentlaw.TruthMorgan", spec := "truthMorgan", unfollowed := true, recurses := true, loops := true, apart := false }
def TruthMorganSaid : Prop := truthMorganRow.holds Try.pinned (OpenSpec.ofChange truthMorganSpec)

/-- ITS FALSE NEIGHBOUR: 'it returns false'. Refute it at one input. -/
def truthMorganWrong : ChangeSpec := { name := "truthMorgan", fn := fun _ => fun
  | [d1, d2] => { results := [.lit (.bool false)], args := [d1, d2] }
  | _ => none }
def TruthMorganWrongFalsely : Prop := truthMorganRow.holds Try.pinned (OpenSpec.ofChange truthMorganWrong)

/-- 'sequentlaw.CalculusSound': WHATEVER THE INPUT: true; the input reads as it did. -/
def calculusSoundSpec : ChangeSpec := { name := "calculusSound", fn := fun _ => fun
  | [d1, d2] => { results := [.lit (.bool true)], args := [d1, d2] }
  | _ => none }
def calculusSoundRow : OpenClaim := { program := "ytmahgfgndfcmpab", sum := "5fb872a7f0272b87fed6455fb7d8981ac5e5ab0f91ffcabc63ad51740151e00f", func := "sequent/sequentlaw.CalculusSound", spec := "calculusSound", unfollowed := true, recurses := true, loops := true, apart := false }
def CalculusSoundSaid : Prop := calculusSoundRow.holds Try.pinned (OpenSpec.ofChange calculusSoundSpec)

/-- ITS FALSE NEIGHBOUR: 'it returns false'. Refute it at one input. -/
def calculusSoundWrong : ChangeSpec := { name := "calculusSound", fn := fun _ => fun
  | [d1, d2] => { results := [.lit (.bool false)], args := [d1, d2] }
  | _ => none }
def CalculusSoundWrongFalsely : Prop := calculusSoundRow.holds Try.pinned (OpenSpec.ofChange calculusSoundWrong)

/- THE SECOND FORM. 'bulk': how many values and letters a reading holds, each counted each time it is reached (what is shared counts as often as it is met; a slice's spare places count too). A statement '..UptoSaid' is the law's where the arguments, and the package variables that the reading takes, are together of bulk at most 1048576: NARROWER than '..Said'. Prove '..Said' where nothing that the law and all that it calls make is longer than what came in: it says more and counts as full. Else prove '..UptoSaid'. A law counts once. -/
mutual
def uptoBulk {H : Type} : DataW H → Nat
  | .lit (.string bytes) => bytes.length + 1
  | .lit _ => 1
  | .nil => 1
  | .ptr d => uptoBulk d + 1
  | .slice elems spare => uptoBulkAll elems + uptoBulkAll spare + 1
  | .agg parts => uptoBulkAll parts + 1
  | .iface _ d => uptoBulk d + 1
  | .map entries => uptoBulkEntries entries + 1
  | .held _ => 1
def uptoBulkAll {H : Type} : List (DataW H) → Nat
  | [] => 0
  | d :: r => uptoBulk d + uptoBulkAll r
def uptoBulkEntries {H : Type} : List (Lit × DataW H) → Nat
  | [] => 0
  | x :: r => uptoBulkEntry x + uptoBulkEntries r
def uptoBulkEntry {H : Type} : Lit × DataW H → Nat
  | (.string bytes, d) => bytes.length + uptoBulk d + 1
  | (_, d) => uptoBulk d + 1
 end
def uptoSmall : (H : Type) → List (DataW H) → Bool := fun _ ds => decide (uptoBulkAll ds ≤ 1048576)
def OpenSpec.upto (s : _root_.Go.ChangeSpec) : _root_.Go.OpenSpec := { _root_.Go.OpenSpec.ofChange s with cond := some uptoSmall }

/-- 'sequentlaw.TruthPost', WHERE WHAT IT READS IS OF BULK AT MOST 1048576: true; the input reads as it did. -/
def truthPostUptoRow : OpenClaim := { program := "ytmahgfgndfcmpab", sum := "5fb872a7f0272b87fed6455fb7d8981ac5e5ab0f91ffcabc63ad51740151e00f", func := "sequent/sequentlaw.TruthPost", spec := "truthPost", unfollowed := true, recurses := true, apart := false, narrowed := true }
def TruthPostUptoSaid : Prop := truthPostUptoRow.holds Try.pinned (OpenSpec.upto truthPostSpec)

/-- 'sequentlaw.TruthMade', WHERE WHAT IT READS IS OF BULK AT MOST 1048576: true; the input reads as it did. -/
def truthMadeUptoRow : OpenClaim := { program := "ytmahgfgndfcmpab", sum := "5fb872a7f0272b87fed6455fb7d8981ac5e5ab0f91ffcabc63ad51740151e00f", func := "sequent/sequentlaw.TruthMade", spec := "truthMade", unfollowed := true, recurses := true, loops := true, apart := false, narrowed := true }
def TruthMadeUptoSaid : Prop := truthMadeUptoRow.holds Try.pinned (OpenSpec.upto truthMadeSpec)

/-- 'sequentlaw.TruthSubstitutes', WHERE WHAT IT READS IS OF BULK AT MOST 1048576: true; the input reads as it did. -/
def truthSubstitutesUptoRow : OpenClaim := { program := "ytmahgfgndfcmpab", sum := "5fb872a7f0272b87fed6455fb7d8981ac5e5ab0f91ffcabc63ad51740151e00f", func := "sequent/sequentlaw.TruthSubstitutes", spec := "truthSubstitutes", unfollowed := true, recurses := true, loops := true, apart := false, narrowed := true }
def TruthSubstitutesUptoSaid : Prop := truthSubstitutesUptoRow.holds Try.pinned (OpenSpec.upto truthSubstitutesSpec)

/-- 'sequentlaw.TruthMorgan', WHERE WHAT IT READS IS OF BULK AT MOST 1048576: true; the input reads as it did. -/
def truthMorganUptoRow : OpenClaim := { program := "ytmahgfgndfcmpab", sum := "5fb872a7f0272b87fed6455fb7d8981ac5e5ab0f91ffcabc63ad51740151e00f", func := "sequent/sequentlaw.TruthMorgan", spec := "truthMorgan", unfollowed := true, recurses := true, loops := true, apart := false, narrowed := true }
def TruthMorganUptoSaid : Prop := truthMorganUptoRow.holds Try.pinned (OpenSpec.upto truthMorganSpec)

/-- 'sequentlaw.CalculusSound', WHERE WHAT IT READS IS OF BULK AT MOST 1048576: true; the input reads as it did. -/
def calculusSoundUptoRow : OpenClaim := { program := "ytmahgfgndfcmpab", sum := "5fb872a7f0272b87fed6455fb7d8981ac5e5ab0f91ffcabc63ad51740151e00f", func := "sequent/sequentlaw.CalculusSound", spec := "calculusSound", unfollowed := true, recurses := true, loops := true, apart := false, narrowed := true }
def CalculusSoundUptoSaid : Prop := calculusSoundUptoRow.holds Try.pinned (OpenSpec.upto calculusSoundSpec)

end Rows
end Go.Proofs.Ytmahgfgndfcmpab
