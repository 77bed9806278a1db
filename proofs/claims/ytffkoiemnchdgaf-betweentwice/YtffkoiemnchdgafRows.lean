/-
  NARROWER THAN 'FOR EVERY INPUT', by the rows' own cells (each row's printed sentence says how): BetweenTwice: loops · LambdaTypes: loops · LambdaNormal: loops · LambdaChurch: loops · LambdaKeeps: loops.
  DERIVED. THE GIVEN ROWS OF THIS SEAT. 5 by the template 'for every input the law returns true; each argument reads behind the call as it read before'; 0 by the template 'total and deterministic' (their statements: YtffkoiemnchdgafTotals.lean).
  GIVEN WITH THE SEED: the statements are not yours to turn. If you find one false, say at which input.
  Laid BY PROGRAM, IN A SANDBOX (cutbox-rows.mjs): the forced cells as the released guide's own fill.sh prints them over the translation 999d55482c4df7c5… (all of the seat's roots in one cut). By AI agents, Wed Nov 11 2026. No macro, syntax, notation, axiom, sorry.
-/
import Derived.Test.YtffkoiemnchdgafChecked
import GoSem.Claim
import GoSem.ClaimJoined
import GoSem.ClaimMapViews
import Derived.JoinedTies
import Derived.KernelRfl
namespace Go.Proofs.Ytffkoiemnchdgaf
/- THE CELL 'sum', in the pinned program and in every row, IS THE sha256 OF THE DUMP (.gsa) THAT YtffkoiemnchdgafProg.lean LOADS. Nothing in Lean hashes anything: it is a label: what it is worth is what the hold of that sum in a sandbox is worth. -/
noncomputable def Try.pinned : Pinned := { name := "ytffkoiemnchdgaf", sum := "999d55482c4df7c51c308f071fe5ca56523efeed5f55b358b96e33b14f4f5757", checked := Try.checked }
namespace Rows
def none {H : Type} : Left H := { results := [], args := [] }

/-- 'sequentlaw.BetweenTwice': WHATEVER THE INPUT: true; the input reads as it did. -/
def betweenTwiceSpec : ChangeSpec := { name := "betweenTwice", fn := fun _ => fun
  | [d1, d2, d3] => { results := [.lit (.bool true)], args := [d1, d2, d3] }
  | _ => none }
def betweenTwiceRow : OpenClaim := { program := "ytffkoiemnchdgaf", sum := "999d55482c4df7c51c308f071fe5ca56523efeed5f55b358b96e33b14f4f5757", func := "sequent/sequentlaw.BetweenTwice", spec := "betweenTwice", unfollowed := true, recurses := true, loops := true, plainKeys := false, apart := false }
def BetweenTwiceSaid : Prop := betweenTwiceRow.holds Try.pinned (OpenSpec.ofChange betweenTwiceSpec)

/-- ITS FALSE NEIGHBOUR: 'it returns false'. Refute it at one input. -/
def betweenTwiceWrong : ChangeSpec := { name := "betweenTwice", fn := fun _ => fun
  | [d1, d2, d3] => { results := [.lit (.bool false)], args := [d1, d2, d3] }
  | _ => none }
def BetweenTwiceWrongFalsely : Prop := betweenTwiceRow.holds Try.pinned (OpenSpec.ofChange betweenTwiceWrong)

/-- 'sequentlaw.LambdaTypes': WHATEVER THE INPUT: true; the input reads as it did. -/
def lambdaTypesSpec : ChangeSpec := { name := "lambdaTypes", fn := fun _ => fun
  | [d1, d2] => { results := [.lit (.bool true)], args := [d1, d2] }
  | _ => none }
def lambdaTypesRow : OpenClaim := { program := "ytffkoiemnchdgaf", sum := "999d55482c4df7c51c308f071fe5ca56523efeed5f55b358b96e33b14f4f5757", func := "sequent/sequentlaw.LambdaTypes", spec := "lambdaTypes", unfollowed := true, recurses := true, loops := true, plainKeys := false, apart := false }
def LambdaTypesSaid : Prop := lambdaTypesRow.holds Try.pinned (OpenSpec.ofChange lambdaTypesSpec)

/-- ITS FALSE NEIGHBOUR: 'it returns false'. Refute it at one input. -/
def lambdaTypesWrong : ChangeSpec := { name := "lambdaTypes", fn := fun _ => fun
  | [d1, d2] => { results := [.lit (.bool false)], args := [d1, d2] }
  | _ => none }
def LambdaTypesWrongFalsely : Prop := lambdaTypesRow.holds Try.pinned (OpenSpec.ofChange lambdaTypesWrong)

/-- 'sequentlaw.LambdaNormal': WHATEVER THE INPUT: true; the input reads as it did. -/
def lambdaNormalSpec : ChangeSpec := { name := "lambdaNormal", fn := fun _ => fun
  | [d1, d2] => { results := [.lit (.bool true)], args := [d1, d2] }
  | _ => none }
def lambdaNormalRow : OpenClaim := { program := "ytffkoiemnchdgaf", sum := "999d55482c4df7c51c308f071fe5ca56523efeed5f55b358b96e33b14f4f5757", func := "sequent/sequentlaw.LambdaNormal", spec := "lambdaNormal", unfollowed := true, recurses := true, loops := true, plainKeys := false, apart := false }
def LambdaNormalSaid : Prop := lambdaNormalRow.holds Try.pinned (OpenSpec.ofChange lambdaNormalSpec)

/-- ITS FALSE NEIGHBOUR: 'it returns false'. Refute it at one input. -/
def lambdaNormalWrong : ChangeSpec := { name := "lambdaNormal", fn := fun _ => fun
  | [d1, d2] => { results := [.lit (.bool false)], args := [d1, d2] }
  | _ => none }
def LambdaNormalWrongFalsely : Prop := lambdaNormalRow.holds Try.pinned (OpenSpec.ofChange lambdaNormalWrong)

/-- 'sequentlaw.LambdaChurch': WHATEVER THE INPUT: true; the input reads as it did. -/
def lambdaChurchSpec : ChangeSpec := { name := "lambdaChurch", fn := fun _ => fun
  | [d1, d2, d3] => { results := [.lit (.bool true)], args := [d1, d2, d3] }
  | _ => none }
def lambdaChurchRow : OpenClaim := { program := "ytffkoiemnchdgaf", sum := "999d55482c4df7c51c308f071fe5ca56523efeed5f55b358b96e33b14f4f5757", func := "sequent/sequentlaw.LambdaChurch", spec := "lambdaChurch", unfollowed := true, recurses := true, loops := true, plainKeys := false, apart := false }
def LambdaChurchSaid : Prop := lambdaChurchRow.holds Try.pinned (OpenSpec.ofChange lambdaChurchSpec)

/-- ITS FALSE NEIGHBOUR: 'it returns false'. Refute it at one input. -/
def lambdaChurchWrong : ChangeSpec := { name := "lambdaChurch", fn := fun _ => fun
  | [d1, d2, d3] => { results := [.lit (.bool false)], args := [d1, d2, d3] }
  | _ => none }
def LambdaChurchWrongFalsely : Prop := lambdaChurchRow.holds Try.pinned (OpenSpec.ofChange lambdaChurchWrong)

/-- 'sequentlaw.LambdaKeeps': WHATEVER THE INPUT: true; the input reads as it did. -/
def lambdaKeepsSpec : ChangeSpec := { name := "lambdaKeeps", fn := fun _ => fun
  | [d1, d2, d3, d4] => { results := [.lit (.bool true)], args := [d1, d2, d3, d4] }
  | _ => none }
def lambdaKeepsRow : OpenClaim := { program := "ytffkoiemnchdgaf", sum := "999d55482c4df7c51c308f071fe5ca56523efeed5f55b358b96e33b14f4f5757", func := "sequent/sequentlaw.LambdaKeeps", spec := "lambdaKeeps", unfollowed := true, recurses := true, loops := true, plainKeys := false, apart := false }
def LambdaKeepsSaid : Prop := lambdaKeepsRow.holds Try.pinned (OpenSpec.ofChange lambdaKeepsSpec)

/-- ITS FALSE NEIGHBOUR: 'it returns false'. Refute it at one input. -/
def lambdaKeepsWrong : ChangeSpec := { name := "lambdaKeeps", fn := fun _ => fun
  | [d1, d2, d3, d4] => { results := [.lit (.bool false)], args := [d1, d2, d3, d4] }
  | _ => none }
def LambdaKeepsWrongFalsely : Prop := lambdaKeepsRow.holds Try.pinned (OpenSpec.ofChange lambdaKeepsWrong)

/- THE SECOND FORM. 'bulk': how many values and letters a reading holds, each counted each time it is reached (what is shared counts as often as it is met; a slice's spare places count too). A statement '..UptoSaid' is the law's where the arguments, and the package variables that the reading takes, are together of bulk at most 1048576: NARROWER than '..Said'. Prove '..Said' where nothing that the law and all that it calls make is longer than what came in: it says more and counts as full. Else prove '..UptoSaid'. A law counts once. -/
mutual
def uptoBulk {H : Type} : DataW H → Nat
  | .lit (.string bytes) => bytes.length + 1
  | .lit _ => 1
  | .nil => 1
  | .ptr d => uptoBulk d + 1
  | .slice elems spare => uptoBulkAll elems + uptoBulkAll spare + 1
  | .agg parts => uptoBulkAll parts + 1
  | .iface _ d => uptoBulk d + 1
  | .map entries => uptoBulkEntries entries + 1
  | .held _ => 1
def uptoBulkAll {H : Type} : List (DataW H) → Nat
  | [] => 0
  | d :: r => uptoBulk d + uptoBulkAll r
def uptoBulkEntries {H : Type} : List (Lit × DataW H) → Nat
  | [] => 0
  | x :: r => uptoBulkEntry x + uptoBulkEntries r
def uptoBulkEntry {H : Type} : Lit × DataW H → Nat
  | (.string bytes, d) => bytes.length + uptoBulk d + 1
  | (_, d) => uptoBulk d + 1
 end
def uptoSmall : (H : Type) → List (DataW H) → Bool := fun _ ds => decide (uptoBulkAll ds ≤ 1048576)
def OpenSpec.upto (s : _root_.Go.ChangeSpec) : _root_.Go.OpenSpec := { _root_.Go.OpenSpec.ofChange s with cond := some uptoSmall }

/-- 'sequentlaw.BetweenTwice', WHERE WHAT IT READS IS OF BULK AT MOST 1048576: true; the input reads as it did. -/
def betweenTwiceUptoRow : OpenClaim := { program := "ytffkoiemnchdgaf", sum := "999d55482c4df7c51c308f071fe5ca56523efeed5f55b358b96e33b14f4f5757", func := "sequent/sequentlaw.BetweenTwice", spec := "betweenTwice", unfollowed := true, recurses := true, loops := true, plainKeys := false, apart := false, narrowed := true }
def BetweenTwiceUptoSaid : Prop := betweenTwiceUptoRow.holds Try.pinned (OpenSpec.upto betweenTwiceSpec)

/-- 'sequentlaw.LambdaTypes', WHERE WHAT IT READS IS OF BULK AT MOST 1048576: true; the input reads as it did. -/
def lambdaTypesUptoRow : OpenClaim := { program := "ytffkoiemnchdgaf", sum := "999d55482c4df7c51c308f071fe5ca56523efeed5f55b358b96e33b14f4f5757", func := "sequent/sequentlaw.LambdaTypes", spec := "lambdaTypes", unfollowed := true, recurses := true, loops := true, plainKeys := false, apart := false, narrowed := true }
def LambdaTypesUptoSaid : Prop := lambdaTypesUptoRow.holds Try.pinned (OpenSpec.upto lambdaTypesSpec)

/-- 'sequentlaw.LambdaNormal', WHERE WHAT IT READS IS OF BULK AT MOST 1048576: true; the input reads as it did. -/
def lambdaNormalUptoRow : OpenClaim := { program := "ytffkoiemnchdgaf", sum := "999d55482c4df7c51c308f071fe5ca56523efeed5f55b358b96e33b14f4f5757", func := "sequent/sequentlaw.LambdaNormal", spec := "lambdaNormal", unfollowed := true, recurses := true, loops := true, plainKeys := false, apart := false, narrowed := true }
def LambdaNormalUptoSaid : Prop := lambdaNormalUptoRow.holds Try.pinned (OpenSpec.upto lambdaNormalSpec)

/-- 'sequentlaw.LambdaChurch', WHERE WHAT IT READS IS OF BULK AT MOST 1048576: true; the input reads as it did. -/
def lambdaChurchUptoRow : OpenClaim := { program := "ytffkoiemnchdgaf", sum := "999d55482c4df7c51c308f071fe5ca56523efeed5f55b358b96e33b14f4f5757", func := "sequent/sequentlaw.LambdaChurch", spec := "lambdaChurch", unfollowed := true, recurses := true, loops := true, plainKeys := false, apart := false, narrowed := true }
def LambdaChurchUptoSaid : Prop := lambdaChurchUptoRow.holds Try.pinned (OpenSpec.upto lambdaChurchSpec)

/-- 'sequentlaw.LambdaKeeps', WHERE WHAT IT READS IS OF BULK AT MOST 1048576: true; the input reads as it did. -/
def lambdaKeepsUptoRow : OpenClaim := { program := "ytffkoiemnchdgaf", sum := "999d55482c4df7c51c308f071fe5ca56523efeed5f55b358b96e33b14f4f5757", func := "sequent/sequentlaw.LambdaKeeps", spec := "lambdaKeeps", unfollowed := true, recurses := true, loops := true, plainKeys := false, apart := false, narrowed := true }
def LambdaKeepsUptoSaid : Prop := lambdaKeepsUptoRow.holds Try.pinned (OpenSpec.upto lambdaKeepsSpec)

end Rows
end Go.Proofs.Ytffkoiemnchdgaf
