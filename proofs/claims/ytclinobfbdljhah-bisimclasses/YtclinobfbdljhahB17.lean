/- Texts of one proof, one behind the other: ME4, MS1. -/
import Derived.Test.YtclinobfbdljhahB14
import Derived.Test.YtclinobfbdljhahB13
import Derived.Deep.QuietTactic
import Derived.BigQuiet
import Derived.Test.YtclinobfbdljhahB06
/- Walks: where a formula is true. -/
namespace Go.Proofs.Ytclinobfbdljhah
open Go.RowKit

/-- The worlds below N that u sees, as a list. -/
def seeR (N : Nat) (R : Nat → Nat → Bool) (u : Nat) : List Nat := (List.range N).filter (R u)
theorem blk_secE (w : World) (o o' : Obj) : ((w.alloc o).alloc o').heap[w.heap.size + 1]? = some o' := by
  have := blk_new (w.alloc o) o'
  rwa [show (w.alloc o).heap.size = w.heap.size + 1 by simp] at this
theorem set_cellE {w : World} {g j : Nat} {C : Array Value} {T : TypeId} (h : w.heap[g]? = some (.cells C T (0, 0))) (u : Value) : (w.setCell ⟨g, j, none⟩ u).heap[g]? = some (.cells (C.setIfInBounds j u) T (0, 0)) := by
  simp [World.setCell, Array.getElem?_modify, h]
end Go.Proofs.Ytclinobfbdljhah
/- Six formulas and six shapes, plain. -/
namespace Go.Proofs.Ytclinobfbdljhah

theorem mem_seeR {N : Nat} {R : Nat → Nat → Bool} {u v : Nat} : v ∈ seeR N R u ↔ v < N ∧ R u v = true := by
  rw [seeR, List.mem_filter, List.mem_range]
end Go.Proofs.Ytclinobfbdljhah
