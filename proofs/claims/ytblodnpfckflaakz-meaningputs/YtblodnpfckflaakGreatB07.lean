/- Texts of one proof, one behind the other: Count1. -/
import Derived.Test.YtblodnpfckflaakGreatB01
import Derived.Test.YtblodnpfckflaakGreatB04
/- Walks: how many nodes there are. -/
namespace Go.Proofs.YtblodnpfckflaakGreat
open Go.RowKit

theorem blk1 {w : World} {b : Nat} {c0 : Value} {T : TypeId} (h : w.heap[b]? = some (.cells #[c0] T (0, 0))) : w.cell? ⟨b, 0, none⟩ = some c0 ∧ w.frozen? ⟨b, 0, none⟩ = false := ⟨blk_cell h 0, blk_fz h 0⟩
theorem set1 {w : World} {b : Nat} {c0 : Value} {T : TypeId} (h : w.heap[b]? = some (.cells #[c0] T (0, 0))) (v : Value) : (w.setCell ⟨b, 0, none⟩ v).heap[b]? = some (.cells #[v] T (0, 0)) := by
  simp [World.setCell, Array.getElem?_modify, h]

/-! With a formula of s nodes for a name. -/
end Go.Proofs.YtblodnpfckflaakGreat
