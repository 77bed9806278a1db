/- Texts of one proof, one behind the other: TV1. -/
import Derived.Test.YtffkoiemnchdgafB22
import Derived.Test.YtffkoiemnchdgafB25
import Derived.Test.YtffkoiemnchdgafB23
import Derived.Test.YtffkoiemnchdgafB13
/- Walks: TruthValues, of a formula that is not plain. -/
namespace Go.Proofs.Ytffkoiemnchdgaf
open Go.RowKit Go.Sort

/-- A formula alone in a list. -/
theorem FL.alone {w : World} {b : Nat} {f : Fm} {c0 c1 c2 : Value} {T : TypeId} (hb : w.heap[b]? = some (.cells #[c0, c1, c2] T (0, 0))) (hr : Rep w (fun _ => True) f (.agg #[c0, c1, c2])) : FL w (.slice (some ⟨b, 0, none⟩) 1 1) [f] := by
  obtain ⟨g0, g1, g2, -⟩ := blk3 hb; (exact ⟨some ⟨b, 0, none⟩, 1, rfl, by simp, by simp [maxLen], fun _ => ⟨b, 0, rfl, Reps.cons.2 ⟨⟨c0, c1, c2, g0, g1, g2, hr⟩, Reps.nil⟩⟩⟩)
end Go.Proofs.Ytffkoiemnchdgaf
