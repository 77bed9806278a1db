/- Texts of one proof, one behind the other: BW9. -/
import Derived.Test.YtblodnpfckflaakB10
import Derived.Test.YtblodnpfckflaakB12
import Derived.Test.YtblodnpfckflaakB05
import Derived.Test.YtblodnpfckflaakB04
import Derived.Test.YtblodnpfckflaakB06
import Derived.Test.YtblodnpfckflaakB01
import Derived.Deep.RegionLaw
/- Walks: what a formula says of names (projected). -/
namespace Go.Proofs.Ytblodnpfckflaak
open Go.RowKit Go.Sort

theorem KS.move {B : Nat} {w w' : World} {ad : Option Addr} {cy : Nat} {L : List (List UInt8)} (h : KS B w ad cy L) (hb : ∀ b, (Value.slice ad L.length cy).ownBlock = some b → w'.heap[b]? = w.heap[b]?) : KS B w' ad cy L := by
  rcases h.2 with ⟨h1, h2⟩ | ⟨g, cap, cur, h1, h2, h3, h4⟩
  · exact ⟨h.1, Or.inl ⟨h1, h2⟩⟩
  · refine ⟨h.1, Or.inr ⟨g, cap, cur, h1, h2, ?_, h4⟩⟩
    (rw [hb g (by rw [h1]; rfl)]; exact h3)

end Go.Proofs.Ytblodnpfckflaak
