/- Texts of one proof, one behind the other: ME4, NT2. -/
import Derived.Test.YtpiaeapgjljjhaaGreatB01
import Derived.Laws.BitsLemmas
import Derived.Deep.LoopGhost
import Derived.Test.YtpiaeapgjljjhaaGreatB04
import Derived.Deep.QuietTactic
import Derived.BigQuiet
/- Walks: where a formula is true. -/
namespace Go.Proofs.YtpiaeapgjljjhaaGreat
open Go.RowKit

theorem blk_secE (w : World) (o o' : Obj) : ((w.alloc o).alloc o').heap[w.heap.size + 1]? = some o' := by
  have := blk_new (w.alloc o) o'
  rwa [show (w.alloc o).heap.size = w.heap.size + 1 by simp] at this
end Go.Proofs.YtpiaeapgjljjhaaGreat
/- Linear formulas in memory. -/
namespace Go.Proofs.YtpiaeapgjljjhaaGreat
open Go.RowKit

theorem blk4L {w : World} {b : Nat} {c0 c1 c2 c3 : Value} {T : TypeId} (h : w.heap[b]? = some (.cells #[c0, c1, c2, c3] T (0, 0))) : w.cell? ⟨b, 0, none⟩ = some c0 ∧ w.cell? ⟨b, 1, none⟩ = some c1 ∧ w.cell? ⟨b, 2, none⟩ = some c2 ∧ w.cell? ⟨b, 3, none⟩ = some c3 :=
  ⟨blk_cell h 0, blk_cell h 1, blk_cell h 2, blk_cell h 3⟩
end Go.Proofs.YtpiaeapgjljjhaaGreat
