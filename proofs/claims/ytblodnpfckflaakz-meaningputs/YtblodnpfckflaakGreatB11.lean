/- Texts of one proof, one behind the other: Tr5. -/
import Derived.Test.YtblodnpfckflaakGreatB08
import Derived.Test.YtblodnpfckflaakGreatB07
import Derived.Laws.BitsLemmas
import Derived.Deep.RegionHeld3
/- Walks: column. -/
namespace Go.Proofs.YtblodnpfckflaakGreat
open Go.RowKit Go.Maps Go.WideMaps

/-- A list of bools in memory. -/
def BL (w : World) (v : Value) (l : List Bool) : Prop := ∃ ad cap, v = .slice ad l.length cap ∧ l.length ≤ cap ∧ cap ≤ maxLen ∧ (l ≠ [] → ∃ g off, ad = some ⟨g, off, none⟩ ∧ ∀ (j : Nat) (b : Bool), l[j]? = some b → w.cell? ⟨g, off + j, none⟩ = some (.bool b))
theorem BL.up {w w' : World} {v : Value} {l : List Bool} (h : BL w v l) (hb : Below w.heap.size w w') : BL w' v l := by
  obtain ⟨ad, cap, h1, h2, h3, h4⟩ := h; (refine ⟨ad, cap, h1, h2, h3, fun hne => ?_⟩); obtain ⟨g, off, h5, h6⟩ := h4 hne
  exact ⟨g, off, h5, fun j t ht => by
    have := h6 j t ht; rw [hb.cell (p := ⟨g, off + j, none⟩) (lt_of_cell this)]
    exact this⟩
end Go.Proofs.YtblodnpfckflaakGreat
