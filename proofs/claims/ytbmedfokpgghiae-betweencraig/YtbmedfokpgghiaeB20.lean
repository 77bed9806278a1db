/- Texts of one proof, one behind the other: PartsIn1. -/
import Derived.Test.YtbmedfokpgghiaeB15
import Derived.Test.YtbmedfokpgghiaeB13
import Derived.Deep.DeepCutAuto
import Derived.Test.YtbmedfokpgghiaeB12
import Derived.Test.YtbmedfokpgghiaeB16
/- Walks: the parts of a formula, as the yardstick tells them. -/
namespace Go.Proofs.Ytbmedfokpgghiae
open Go.RowKit

theorem walk_all (f : Fm) (h : f.size ≤ 20000) : walkL f 100000 = allN f := by
  (rw [walkL_take, List.take_of_length_le (by rw [allN_len]; omega)])

end Go.Proofs.Ytbmedfokpgghiae
