/- Texts of one proof, one behind the other: CH5. -/
import Derived.Test.YtffkoiemnchdgaeB35
import Derived.Test.YtffkoiemnchdgaeB15
import Derived.Test.YtffkoiemnchdgaeB14
import Derived.Test.YtffkoiemnchdgaeB11
/- Walks: calculusBegun. -/
namespace Go.Proofs.Ytffkoiemnchdgae
open Go.RowKit
theorem mid_no : (look false midO 1 0 0).1 = (0, 0) := by decide +kernel
theorem mid_small : SmallP midO := SmallP.mk (by decide) (by decide) (by decide) fun k hk => by
  simp only [List.mem_cons, List.not_mem_nil, or_false] at hk; subst hk; (refine SmallP.mk (by decide) (by decide) (by decide) fun k hk => ?_); simp only [List.mem_cons, List.not_mem_nil, or_false] at hk; subst hk; (exact SmallP.mk (by decide) (by decide) (by decide) fun k hk => by cases hk)

end Go.Proofs.Ytffkoiemnchdgae
