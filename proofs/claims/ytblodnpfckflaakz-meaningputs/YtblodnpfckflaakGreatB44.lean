/- Texts of one proof, one behind the other: RM2, RM3. -/
import Derived.Test.YtblodnpfckflaakGreatB40
import Derived.Test.YtblodnpfckflaakGreatB16
import Derived.Test.YtblodnpfckflaakGreatB18
import Derived.Test.YtblodnpfckflaakGreatB09
import Derived.Test.YtblodnpfckflaakGreatB13
import Derived.Test.YtblodnpfckflaakGreatB17
import Derived.Shelf.Strings.OnBuilder
import Derived.Shelf.Slices.Equal
import Derived.Shelf.Slices.Empties2
import Derived.Test.YtblodnpfckflaakGreatProg
import Derived.Test.YtblodnpfckflaakGreatB11
import Derived.Test.YtblodnpfckflaakGreatB06
import Derived.Test.YtblodnpfckflaakGreatB01
import Derived.Test.YtblodnpfckflaakGreatB10
import Derived.RegionTactic
import Derived.Test.YtblodnpfckflaakGreatB08
import Derived.Deep.RegionHeld3
import Derived.Test.YtblodnpfckflaakGreatB05
import Derived.Test.YtblodnpfckflaakGreatB04
import Derived.Deep.Upon
/- Structures that are made: functions and predicates in rows of one's own. -/
namespace Go.Proofs.YtblodnpfckflaakGreat
open Go.RowKit Go.Sort

def encN (x : Int) : Value := .int .i64 x
theorem IL.own {B : Nat} {w : World} {ad : Option Addr} {cp : Nat} {l : List Int} (h : w.ownsRow B 3 1 (.slice ad l.length cp) l.length (l.map encN)) : IL w (.slice ad l.length cp) l := by
  obtain ⟨h1, h2⟩ := rowM_caps h; (refine ⟨ad, cp, rfl, h1, h2, fun hne => ?_⟩); obtain ⟨g, rfl, hc⟩ := rowM_cells h (List.length_pos_iff.2 hne); (exact ⟨g, 0, rfl, fun j x hx => hc j _ (by rw [List.getElem?_map, hx]; rfl)⟩)
end Go.Proofs.YtblodnpfckflaakGreat
/- Walks: renumbered: a structure whose things are shifted. (gen/rm3.py) -/
namespace Go.Proofs.YtblodnpfckflaakGreat
open Go.RowKit Go.Sort

/-- What renumbered asks of the lists. -/
def FnsOk (N : Nat) (l : List FnD) : Prop := ∀ f ∈ l, ∃ m : Nat, m ≤ 3 ∧ f.ar = (m : Int) ∧ f.tab.length = N ^ m ∧ ∀ x ∈ f.tab, 0 ≤ x ∧ x < (N : Int)
end Go.Proofs.YtblodnpfckflaakGreat
