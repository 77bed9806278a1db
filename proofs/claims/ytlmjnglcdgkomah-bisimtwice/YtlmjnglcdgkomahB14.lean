/- Texts of one proof, one behind the other: CM1. -/
import Derived.Test.YtlmjnglcdgkomahB11
import Derived.Test.YtlmjnglcdgkomahB04
import Derived.Test.YtlmjnglcdgkomahB08
import Derived.Laws.BitsLemmas
import Derived.Deep.RegionHeld3
import Derived.Test.YtlmjnglcdgkomahB10
import Derived.Deep.RegionLaw
import Derived.Deep.DeepCutAuto
import Derived.Laws.EntriesVeiled
/- Proofs as data, and what the checker says of them. -/
namespace Go.Proofs.Ytlmjnglcdgkomah

instance : BEq Fm := ⟨sameB⟩
instance : LawfulBEq Fm where
  eq_of_beq := fun {a b} h => sameB_eq a b h
  rfl := fun {a} => sameB_refl a
instance : DecidableEq Fm := fun a b => if h : (a == b) = true then isTrue (eq_of_beq h) else isFalse fun e => h (by rw [e]; exact sameB_refl b)

/-! What is proved is true. -/
end Go.Proofs.Ytlmjnglcdgkomah
