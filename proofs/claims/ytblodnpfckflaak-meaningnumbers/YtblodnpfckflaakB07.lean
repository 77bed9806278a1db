/- Texts of one proof, one behind the other: Walk0. -/
import Derived.Test.YtblodnpfckflaakB04
import Derived.Test.YtblodnpfckflaakB01
import Derived.Deep.DeepCutAuto
import Derived.Deep.CutBlock
import Derived.Deep.AppendLies
/- Walks: a formula's nodes in a list. -/
namespace Go.Proofs.Ytblodnpfckflaak
open Go.RowKit

theorem owns_up {w w' : World} {B size n : Nat} {e : TypeId} {v : Value} {xs : List Value} (h : w.ownsRow B e size v n xs) (hb : Below w.heap.size w w') : w'.ownsRow B e size v n xs := by
  obtain ⟨h1, h2⟩ := h; refine ⟨h1, ?_⟩
  rcases h2 with h2 | ⟨g, cap, cur, hv, hg, hh, r⟩
  · exact Or.inl h2
  · exact Or.inr ⟨g, cap, cur, hv, hg, below_keep hb hh, r⟩

end Go.Proofs.Ytblodnpfckflaak
