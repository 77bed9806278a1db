/- Texts of one proof, one behind the other: MEA. -/
import Derived.Test.YtblodnpfckflaakB01
import Derived.Laws.BitsLemmas
import Derived.Deep.LoopGhost
import Derived.Test.YtblodnpfckflaakB04
import Derived.Deep.QuietTactic
import Derived.BigQuiet
import Derived.Test.YtblodnpfckflaakB17
import Derived.Test.YtblodnpfckflaakB11
import Derived.Test.YtblodnpfckflaakB12
import Derived.Test.YtblodnpfckflaakB06
import Derived.Deep.RegionLaw
import Derived.Test.YtblodnpfckflaakB10
import Derived.RegionTactic
import Derived.Laws.EntriesVeiled
/- Calls of Eval in the laws: facts; an example of the document. -/
namespace Go.Proofs.Ytblodnpfckflaak
open Go.RowKit

def kNf (A : Nat) : Value → World → Prop := fun v w => ∃ b, v = .pointer (some ⟨b, 0, none⟩) ∧ A ≤ b ∧ w.heap[b]? = some (.cells #[.int .i64 0, .int .i64 0] 39 (0, 0))
theorem kNf_stays (A : Nat) : Stays (kNf A) := fun _ _ _ ⟨b, e, h1, h2⟩ hb => ⟨b, e, h1, below_keep hb h2⟩
theorem rowE2 (l : List Value) (h0 : l.length = 2) : ∃ x0 x1, l = [x0, x1] := by
  obtain ⟨x0, l1, e0, h1⟩ := cons_lenM h0; obtain ⟨x1, l2, e1, h2⟩ := cons_lenM h1; have e2 : l2 = [] := List.length_eq_zero_iff.1 h2; subst e2 e1 e0; exact ⟨x0, x1, rfl⟩
end Go.Proofs.Ytblodnpfckflaak
