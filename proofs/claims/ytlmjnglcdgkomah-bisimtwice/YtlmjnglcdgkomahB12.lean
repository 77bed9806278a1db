/- Texts of one proof, one behind the other: ME3, ME4. -/
import Derived.Test.YtlmjnglcdgkomahB07
import Derived.Test.YtlmjnglcdgkomahB08
import Derived.Test.YtlmjnglcdgkomahB04
import Derived.Deep.QuietTactic
import Derived.BigQuiet
/- Walks: frames; which worlds are such, by what they see. -/
namespace Go.Proofs.Ytlmjnglcdgkomah
open Go.RowKit

/-- Of each world what it sees, in memory. -/
def FR (w : World) (g N : Nat) (R : Nat → Nat → Bool) : Prop := ∀ u, u < N → w.cell? ⟨g, u, none⟩ = some (.int .u64 (bm N (R u) : Nat))
theorem FR.up {w w' : World} {g N : Nat} {R : Nat → Nat → Bool} (h : FR w g N R) (hb : Below w.heap.size w w') : FR w' g N R := fun u hu => (hb.cell (lt_of_cell (h u hu))).trans (h u hu)
end Go.Proofs.Ytlmjnglcdgkomah
/- Walks: where a formula is true. -/
namespace Go.Proofs.Ytlmjnglcdgkomah
open Go.RowKit

theorem blk_secE (w : World) (o o' : Obj) : ((w.alloc o).alloc o').heap[w.heap.size + 1]? = some o' := by
  have := blk_new (w.alloc o) o'
  rwa [show (w.alloc o).heap.size = w.heap.size + 1 by simp] at this
theorem set_cellE {w : World} {g j : Nat} {C : Array Value} {T : TypeId} (h : w.heap[g]? = some (.cells C T (0, 0))) (u : Value) : (w.setCell ⟨g, j, none⟩ u).heap[g]? = some (.cells (C.setIfInBounds j u) T (0, 0)) := by
  simp [World.setCell, Array.getElem?_modify, h]
end Go.Proofs.Ytlmjnglcdgkomah
