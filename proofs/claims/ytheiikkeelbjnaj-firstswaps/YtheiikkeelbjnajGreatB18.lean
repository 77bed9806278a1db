/- Texts of one proof, one behind the other: NI5. -/
import Derived.Test.YtheiikkeelbjnajGreatB07
import Derived.Test.YtheiikkeelbjnajGreatB12
import Derived.Test.YtheiikkeelbjnajGreatB10
import Derived.Shelf.Strings.OnBuilder
import Derived.Shelf.Slices.Equal
import Derived.Shelf.Slices.Empties2
import Derived.Test.YtheiikkeelbjnajGreatProg
import Derived.Deep.OwnRows
import Derived.Laws.BitsLemmas
import Derived.Deep.RegionHeld3
import Derived.Deep.RegionLaw
import Derived.Test.YtheiikkeelbjnajGreatB01
import Derived.Test.YtheiikkeelbjnajGreatB05
import Derived.RegionTactic
import Derived.Maps.OwnOps
import Derived.BigRegion
import Derived.Deep.Upon
/- Linear formulas in memory of their own: for a copy that is made. -/
namespace Go.Proofs.YtheiikkeelbjnajGreat
open Go.RowKit Go.Sort

theorem blk4N {w : World} {b : Nat} {c0 c1 c2 c3 : Value} {T : TypeId} (h : w.heap[b]? = some (.cells #[c0, c1, c2, c3] T (0, 0))) : w.cell? ⟨b, 0, none⟩ = some c0 ∧ w.cell? ⟨b, 1, none⟩ = some c1 ∧ w.cell? ⟨b, 2, none⟩ = some c2 ∧ w.cell? ⟨b, 3, none⟩ = some c3 ∧ w.frozen? ⟨b, 0, none⟩ = false ∧ w.frozen? ⟨b, 1, none⟩ = false ∧ w.frozen? ⟨b, 2, none⟩ = false ∧ w.frozen? ⟨b, 3, none⟩ = false :=
  ⟨blk_cell h 0, blk_cell h 1, blk_cell h 2, blk_cell h 3, blk_fz h 0, blk_fz h 1, blk_fz h 2, blk_fz h 3⟩
end Go.Proofs.YtheiikkeelbjnajGreat
