/-
  NARROWER THAN 'FOR EVERY INPUT', by the rows' own cells (each row's printed sentence says how): KripkeGlivenko: loops · KripkeModus: loops · KripkeNegative: loops · KripkeGenerated: loops · CutMeasures: loops · CutGentzen: loops.
  DERIVED. THE GIVEN ROWS OF THIS SEAT. 6 by the template 'for every input the law returns true; each argument reads behind the call as it read before'; 0 by the template 'total and deterministic' (their statements: YtffkoiemnchdgadGreatTotals.lean).
  GIVEN WITH THE SEED: the statements are not yours to turn. If you find one false, say at which input.
  Laid BY PROGRAM, IN A SANDBOX (cutbox-rows.mjs): the forced cells as the released guide's own fill.sh prints them over the translation 1fe27eaf5ceab4b8… (all of the seat's roots in one cut). By AI agents, Wed Nov 11 2026. No macro, syntax, notation, axiom, sorry.
-/
import Derived.Test.YtffkoiemnchdgadGreatChecked
import GoSem.Claim
import GoSem.ClaimJoined
import GoSem.ClaimMapViews
import Derived.JoinedTies
import Derived.KernelRfl
namespace Go.Proofs.YtffkoiemnchdgadGreat
/- THE CELL 'sum', in the pinned program and in every row, IS THE sha256 OF THE DUMP (.gsa) THAT YtffkoiemnchdgadGreatProg.lean LOADS. Nothing in Lean hashes anything: it is a label: what it is worth is what the hold of that sum in a sandbox is worth. -/
noncomputable def Tryz.pinned : Pinned := { name := "ytffkoiemnchdgadgreat", sum := "1fe27eaf5ceab4b81b8096727891db5337c9e84da03ae644c25f939e9f238ed8", checked := Tryz.checked }
namespace Rows
def none {H : Type} : Left H := { results := [], args := [] }

/-- 'sequentlaw.KripkeGlivenko': WHATEVER THE INPUT: true; the input reads as it did. -/
def kripkeGlivenkoSpec : ChangeSpec := { name := "kripkeGlivenko", fn := fun _ => fun
  | [d1, d2] => { results := [.lit (.bool true)], args := [d1, d2] }
  | _ => none }
def kripkeGlivenkoRow : OpenClaim := { program := "ytffkoiemnchdgadgreat", sum := "1fe27eaf5ceab4b81b8096727891db5337c9e84da03ae644c25f939e9f238ed8", func := "sequent/sequentlaw.KripkeGlivenko", spec := "kripkeGlivenko", unfollowed := true, recurses := true, loops := true, plainKeys := false, apart := false }
def KripkeGlivenkoSaid : Prop := kripkeGlivenkoRow.holds Tryz.pinned (OpenSpec.ofChange kripkeGlivenkoSpec)

/-- ITS FALSE NEIGHBOUR: 'it returns false'. Refute it at one input. -/
def kripkeGlivenkoWrong : ChangeSpec := { name := "kripkeGlivenko", fn := fun _ => fun
  | [d1, d2] => { results := [.lit (.bool false)], args := [d1, d2] }
  | _ => none }
def KripkeGlivenkoWrongFalsely : Prop := kripkeGlivenkoRow.holds Tryz.pinned (OpenSpec.ofChange kripkeGlivenkoWrong)

/-- 'sequentlaw.KripkeModus': WHATEVER THE INPUT: true; the input reads as it did. -/
def kripkeModusSpec : ChangeSpec := { name := "kripkeModus", fn := fun _ => fun
  | [d1, d2, d3] => { results := [.lit (.bool true)], args := [d1, d2, d3] }
  | _ => none }
def kripkeModusRow : OpenClaim := { program := "ytffkoiemnchdgadgreat", sum := "1fe27eaf5ceab4b81b8096727891db5337c9e84da03ae644c25f939e9f238ed8", func := "sequent/sequentlaw.KripkeModus", spec := "kripkeModus", unfollowed := true, recurses := true, loops := true, plainKeys := false, apart := false }
def KripkeModusSaid : Prop := kripkeModusRow.holds Tryz.pinned (OpenSpec.ofChange kripkeModusSpec)

/-- ITS FALSE NEIGHBOUR: 'it returns false'. Refute it at one input. -/
def kripkeModusWrong : ChangeSpec := { name := "kripkeModus", fn := fun _ => fun
  | [d1, d2, d3] => { results := [.lit (.bool false)], args := [d1, d2, d3] }
  | _ => none }
def KripkeModusWrongFalsely : Prop := kripkeModusRow.holds Tryz.pinned (OpenSpec.ofChange kripkeModusWrong)

/-- 'sequentlaw.KripkeNegative': WHATEVER THE INPUT: true; the input reads as it did. -/
def kripkeNegativeSpec : ChangeSpec := { name := "kripkeNegative", fn := fun _ => fun
  | [d] => { results := [.lit (.bool true)], args := [d] }
  | _ => none }
def kripkeNegativeRow : OpenClaim := { program := "ytffkoiemnchdgadgreat", sum := "1fe27eaf5ceab4b81b8096727891db5337c9e84da03ae644c25f939e9f238ed8", func := "sequent/sequentlaw.KripkeNegative", spec := "kripkeNegative", unfollowed := true, recurses := true, loops := true, plainKeys := false, apart := false }
def KripkeNegativeSaid : Prop := kripkeNegativeRow.holds Tryz.pinned (OpenSpec.ofChange kripkeNegativeSpec)

/-- ITS FALSE NEIGHBOUR: 'it returns false'. Refute it at one input. -/
def kripkeNegativeWrong : ChangeSpec := { name := "kripkeNegative", fn := fun _ => fun
  | [d] => { results := [.lit (.bool false)], args := [d] }
  | _ => none }
def KripkeNegativeWrongFalsely : Prop := kripkeNegativeRow.holds Tryz.pinned (OpenSpec.ofChange kripkeNegativeWrong)

/-- 'sequentlaw.KripkeGenerated': WHATEVER THE INPUT: true; the input reads as it did. -/
def kripkeGeneratedSpec : ChangeSpec := { name := "kripkeGenerated", fn := fun _ => fun
  | [d1, d2, d3] => { results := [.lit (.bool true)], args := [d1, d2, d3] }
  | _ => none }
def kripkeGeneratedRow : OpenClaim := { program := "ytffkoiemnchdgadgreat", sum := "1fe27eaf5ceab4b81b8096727891db5337c9e84da03ae644c25f939e9f238ed8", func := "sequent/sequentlaw.KripkeGenerated", spec := "kripkeGenerated", unfollowed := true, recurses := true, loops := true, plainKeys := false, apart := false }
def KripkeGeneratedSaid : Prop := kripkeGeneratedRow.holds Tryz.pinned (OpenSpec.ofChange kripkeGeneratedSpec)

/-- ITS FALSE NEIGHBOUR: 'it returns false'. Refute it at one input. -/
def kripkeGeneratedWrong : ChangeSpec := { name := "kripkeGenerated", fn := fun _ => fun
  | [d1, d2, d3] => { results := [.lit (.bool false)], args := [d1, d2, d3] }
  | _ => none }
def KripkeGeneratedWrongFalsely : Prop := kripkeGeneratedRow.holds Tryz.pinned (OpenSpec.ofChange kripkeGeneratedWrong)

/-- 'sequentlaw.CutMeasures': WHATEVER THE INPUT: true; the input reads as it did. -/
def cutMeasuresSpec : ChangeSpec := { name := "cutMeasures", fn := fun _ => fun
  | [d1, d2] => { results := [.lit (.bool true)], args := [d1, d2] }
  | _ => none }
def cutMeasuresRow : OpenClaim := { program := "ytffkoiemnchdgadgreat", sum := "1fe27eaf5ceab4b81b8096727891db5337c9e84da03ae644c25f939e9f238ed8", func := "sequent/sequentlaw.CutMeasures", spec := "cutMeasures", unfollowed := true, recurses := true, loops := true, plainKeys := false, apart := false }
def CutMeasuresSaid : Prop := cutMeasuresRow.holds Tryz.pinned (OpenSpec.ofChange cutMeasuresSpec)

/-- ITS FALSE NEIGHBOUR: 'it returns false'. Refute it at one input. -/
def cutMeasuresWrong : ChangeSpec := { name := "cutMeasures", fn := fun _ => fun
  | [d1, d2] => { results := [.lit (.bool false)], args := [d1, d2] }
  | _ => none }
def CutMeasuresWrongFalsely : Prop := cutMeasuresRow.holds Tryz.pinned (OpenSpec.ofChange cutMeasuresWrong)

/-- 'sequentlaw.CutGentzen': WHATEVER THE INPUT: true; the input reads as it did. -/
def cutGentzenSpec : ChangeSpec := { name := "cutGentzen", fn := fun _ => fun
  | [d1, d2] => { results := [.lit (.bool true)], args := [d1, d2] }
  | _ => none }
def cutGentzenRow : OpenClaim := { program := "ytffkoiemnchdgadgreat", sum := "1fe27eaf5ceab4b81b8096727891db5337c9e84da03ae644c25f939e9f238ed8", func := "sequent/sequentlaw.CutGentzen", spec := "cutGentzen", unfollowed := true, recurses := true, loops := true, plainKeys := false, apart := false }
def CutGentzenSaid : Prop := cutGentzenRow.holds Tryz.pinned (OpenSpec.ofChange cutGentzenSpec)

/-- ITS FALSE NEIGHBOUR: 'it returns false'. Refute it at one input. -/
def cutGentzenWrong : ChangeSpec := { name := "cutGentzen", fn := fun _ => fun
  | [d1, d2] => { results := [.lit (.bool false)], args := [d1, d2] }
  | _ => none }
def CutGentzenWrongFalsely : Prop := cutGentzenRow.holds Tryz.pinned (OpenSpec.ofChange cutGentzenWrong)

/- THE SECOND FORM. 'bulk': how many values and letters a reading holds, each counted each time it is reached (what is shared counts as often as it is met; a slice's spare places count too). A statement '..UptoSaid' is the law's where the arguments, and the package variables that the reading takes, are together of bulk at most 1048576: NARROWER than '..Said'. Prove '..Said' where nothing that the law and all that it calls make is longer than what came in: it says more and counts as full. Else prove '..UptoSaid'. A law counts once. -/
mutual
def uptoBulk {H : Type} : DataW H → Nat
  | .lit (.string bytes) => bytes.length + 1
  | .lit _ => 1
  | .nil => 1
  | .ptr d => uptoBulk d + 1
  | .slice elems spare => uptoBulkAll elems + uptoBulkAll spare + 1
  | .agg parts => uptoBulkAll parts + 1
  | .iface _ d => uptoBulk d + 1
  | .map entries => uptoBulkEntries entries + 1
  | .held _ => 1
def uptoBulkAll {H : Type} : List (DataW H) → Nat
  | [] => 0
  | d :: r => uptoBulk d + uptoBulkAll r
def uptoBulkEntries {H : Type} : List (Lit × DataW H) → Nat
  | [] => 0
  | x :: r => uptoBulkEntry x + uptoBulkEntries r
def uptoBulkEntry {H : Type} : Lit × DataW H → Nat
  | (.string bytes, d) => bytes.length + uptoBulk d + 1
  | (_, d) => uptoBulk d + 1
 end
def uptoSmall : (H : Type) → List (DataW H) → Bool := fun _ ds => decide (uptoBulkAll ds ≤ 1048576)
def OpenSpec.upto (s : _root_.Go.ChangeSpec) : _root_.Go.OpenSpec := { _root_.Go.OpenSpec.ofChange s with cond := some uptoSmall }

/-- 'sequentlaw.KripkeGlivenko', WHERE WHAT IT READS IS OF BULK AT MOST 1048576: true; the input reads as it did. -/
def kripkeGlivenkoUptoRow : OpenClaim := { program := "ytffkoiemnchdgadgreat", sum := "1fe27eaf5ceab4b81b8096727891db5337c9e84da03ae644c25f939e9f238ed8", func := "sequent/sequentlaw.KripkeGlivenko", spec := "kripkeGlivenko", unfollowed := true, recurses := true, loops := true, plainKeys := false, apart := false, narrowed := true }
def KripkeGlivenkoUptoSaid : Prop := kripkeGlivenkoUptoRow.holds Tryz.pinned (OpenSpec.upto kripkeGlivenkoSpec)

/-- 'sequentlaw.KripkeModus', WHERE WHAT IT READS IS OF BULK AT MOST 1048576: true; the input reads as it did. -/
def kripkeModusUptoRow : OpenClaim := { program := "ytffkoiemnchdgadgreat", sum := "1fe27eaf5ceab4b81b8096727891db5337c9e84da03ae644c25f939e9f238ed8", func := "sequent/sequentlaw.KripkeModus", spec := "kripkeModus", unfollowed := true, recurses := true, loops := true, plainKeys := false, apart := false, narrowed := true }
def KripkeModusUptoSaid : Prop := kripkeModusUptoRow.holds Tryz.pinned (OpenSpec.upto kripkeModusSpec)

/-- 'sequentlaw.KripkeNegative', WHERE WHAT IT READS IS OF BULK AT MOST 1048576: true; the input reads as it did. -/
def kripkeNegativeUptoRow : OpenClaim := { program := "ytffkoiemnchdgadgreat", sum := "1fe27eaf5ceab4b81b8096727891db5337c9e84da03ae644c25f939e9f238ed8", func := "sequent/sequentlaw.KripkeNegative", spec := "kripkeNegative", unfollowed := true, recurses := true, loops := true, plainKeys := false, apart := false, narrowed := true }
def KripkeNegativeUptoSaid : Prop := kripkeNegativeUptoRow.holds Tryz.pinned (OpenSpec.upto kripkeNegativeSpec)

/-- 'sequentlaw.KripkeGenerated', WHERE WHAT IT READS IS OF BULK AT MOST 1048576: true; the input reads as it did. -/
def kripkeGeneratedUptoRow : OpenClaim := { program := "ytffkoiemnchdgadgreat", sum := "1fe27eaf5ceab4b81b8096727891db5337c9e84da03ae644c25f939e9f238ed8", func := "sequent/sequentlaw.KripkeGenerated", spec := "kripkeGenerated", unfollowed := true, recurses := true, loops := true, plainKeys := false, apart := false, narrowed := true }
def KripkeGeneratedUptoSaid : Prop := kripkeGeneratedUptoRow.holds Tryz.pinned (OpenSpec.upto kripkeGeneratedSpec)

/-- 'sequentlaw.CutMeasures', WHERE WHAT IT READS IS OF BULK AT MOST 1048576: true; the input reads as it did. -/
def cutMeasuresUptoRow : OpenClaim := { program := "ytffkoiemnchdgadgreat", sum := "1fe27eaf5ceab4b81b8096727891db5337c9e84da03ae644c25f939e9f238ed8", func := "sequent/sequentlaw.CutMeasures", spec := "cutMeasures", unfollowed := true, recurses := true, loops := true, plainKeys := false, apart := false, narrowed := true }
def CutMeasuresUptoSaid : Prop := cutMeasuresUptoRow.holds Tryz.pinned (OpenSpec.upto cutMeasuresSpec)

/-- 'sequentlaw.CutGentzen', WHERE WHAT IT READS IS OF BULK AT MOST 1048576: true; the input reads as it did. -/
def cutGentzenUptoRow : OpenClaim := { program := "ytffkoiemnchdgadgreat", sum := "1fe27eaf5ceab4b81b8096727891db5337c9e84da03ae644c25f939e9f238ed8", func := "sequent/sequentlaw.CutGentzen", spec := "cutGentzen", unfollowed := true, recurses := true, loops := true, plainKeys := false, apart := false, narrowed := true }
def CutGentzenUptoSaid : Prop := cutGentzenUptoRow.holds Tryz.pinned (OpenSpec.upto cutGentzenSpec)

end Rows
end Go.Proofs.YtffkoiemnchdgadGreat
