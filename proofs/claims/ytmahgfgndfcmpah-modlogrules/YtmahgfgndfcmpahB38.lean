/- Texts of one proof, one behind the other: MLM. -/
import Derived.Test.YtmahgfgndfcmpahB37
import Derived.Test.YtmahgfgndfcmpahB09
/- The law ModlogChain, walked. -/
namespace Go.Proofs.Ytmahgfgndfcmpah
open Go.RowKit Go.Sort

open Classical in
/-- Whether a formula is true at all worlds of all of a logic's models. -/
noncomputable def vB (f : Fm) (i : Nat) : Bool := decide (ValidM i f)
theorem vB_iff {f : Fm} {i : Nat} : vB f i = true ↔ ValidM i f := by simp [vB]
noncomputable def isA (f : Fm) (n : Nat) : Array Value := ((List.range 9).map fun i => Value.bool (decide (1 ≤ i ∧ i < n) && vB f i)).toArray
end Go.Proofs.Ytmahgfgndfcmpah
