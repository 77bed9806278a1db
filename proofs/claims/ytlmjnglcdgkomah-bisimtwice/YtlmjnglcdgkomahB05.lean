/- Texts of one proof, one behind the other: Walk8. -/
import Derived.Test.YtlmjnglcdgkomahB01
/- Walks: a whole reading; Parse. -/
namespace Go.Proofs.Ytlmjnglcdgkomah
open Go.RowKit

/-- What a call leaves that was handed a new block of its own. -/
theorem Kept.past {w w' : World} {o : Obj} (h : Kept (· ≠ w.heap.size) (w.alloc o) w') : Kept (fun _ => True) w w' :=
  ⟨h.os, h.tape, h.output, by have := h.size; simp at this; omega, fun k hk _ => (h.block k (by simp; omega) (by omega)).trans (Below.heap_alloc _ _ _ hk)⟩

end Go.Proofs.Ytlmjnglcdgkomah
