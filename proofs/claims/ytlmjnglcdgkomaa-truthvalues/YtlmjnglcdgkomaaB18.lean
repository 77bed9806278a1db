/- Texts of one proof, one behind the other: PartsIn1. -/
import Derived.Test.YtlmjnglcdgkomaaB12
import Derived.Test.YtlmjnglcdgkomaaB08
import Derived.Test.YtlmjnglcdgkomaaB10
import Derived.Deep.RegionLaw
import Derived.Deep.DeepCutAuto
import Derived.Test.YtlmjnglcdgkomaaB11
import Derived.Test.YtlmjnglcdgkomaaB13
/- Walks: the parts of a formula, as the yardstick tells them. -/
namespace Go.Proofs.Ytlmjnglcdgkomaa
open Go.RowKit

theorem walk_all (f : Fm) (h : f.size ≤ 20000) : walkL f 100000 = allN f := by
  (rw [walkL_take, List.take_of_length_le (by rw [allN_len]; omega)])

end Go.Proofs.Ytlmjnglcdgkomaa
