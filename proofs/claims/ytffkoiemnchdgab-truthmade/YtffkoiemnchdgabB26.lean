/- Texts of one proof, one behind the other: Parts5. -/
import Derived.Test.YtffkoiemnchdgabB22
import Derived.Test.YtffkoiemnchdgabB18
import Derived.Test.YtffkoiemnchdgabB10
import Derived.Deep.DeepCutAuto
import Derived.Test.YtffkoiemnchdgabB15
/- Walks: FormulaParts, its two copies. -/
namespace Go.Proofs.Ytffkoiemnchdgab
open Go.RowKit

/-- A fault is laid into its block. -/
theorem flt_set {w w6 : World} {R : Nat} {x0 x1 : Value} (hR : w.heap.size ≤ R) (B : Below w.heap.size w w6) (q : w6.heap[R]? = some (.cells #[x0, x1] 25 (0, 0))) (c a : Int) :
    ((w6.setCell ⟨R, 0, none⟩ (.int .i64 c)).setCell ⟨R, 1, none⟩ (.int .i64 a)).heap[R]? = some (.cells #[.int .i64 c, .int .i64 a] 25 (0, 0)) ∧ Below w.heap.size w ((w6.setCell ⟨R, 0, none⟩ (.int .i64 c)).setCell ⟨R, 1, none⟩ (.int .i64 a)) ∧ ∀ b, b ≠ R → ((w6.setCell ⟨R, 0, none⟩ (.int .i64 c)).setCell ⟨R, 1, none⟩ (.int .i64 a)).heap[b]? = w6.heap[b]? :=
  ⟨set2 q _ _, (B.setCell (by simpa using hR) _).setCell (by simpa using hR) _, fun b hb => by rw [Below.heap_setCell _ _ _ _ (by simpa using hb), Below.heap_setCell _ _ _ _ (by simpa using hb)]⟩

end Go.Proofs.Ytffkoiemnchdgab
