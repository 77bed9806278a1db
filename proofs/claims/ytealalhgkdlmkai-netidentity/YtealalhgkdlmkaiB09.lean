/- Texts of one proof, one behind the other: FreeB. -/
import Derived.Test.YtealalhgkdlmkaiB02
/- A region that draws its order, in which one operation x writes: all others that are not plain come ahead of it; the last one waits for all. -/
namespace Go.Proofs.Ytealalhgkdlmkai
open Go.RowKit

/-- A plain operation: whatever the world is, it gives c. -/
def StepEB (P : Program) (ops : Array Oper) (Q : Exit → Act → World → Prop) (m : Nat) (E : Nat → Option Value) (a0 : Act) (o : Oper) (c : Value) : Prop :=
  ∀ a w, OldSlots ⟨ops.toList.take m⟩ a0 a → (∀ j, waits .any o j = true → ∀ o' d cj, ops[j]? = some o' → o'.dst = some d → E j = some cj → a.tmps[d]? = some cj) → ∀ K : Act → World → Prop, Hid (K (a.put o.dst c) w) → if Region.wanted o (yielded ops a.tmps) = true then Oper.wp P o a w K Q else K (a.put o.dst undef) w
end Go.Proofs.Ytealalhgkdlmkai
