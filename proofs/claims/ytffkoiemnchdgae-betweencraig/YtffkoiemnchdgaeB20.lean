/- Texts of one proof, one behind the other: PartsIn1. -/
import Derived.Test.YtffkoiemnchdgaeB15
import Derived.Test.YtffkoiemnchdgaeB13
import Derived.Deep.DeepCutAuto
import Derived.Test.YtffkoiemnchdgaeB12
import Derived.Test.YtffkoiemnchdgaeB16
/- Walks: the parts of a formula, as the yardstick tells them. -/
namespace Go.Proofs.Ytffkoiemnchdgae
open Go.RowKit

theorem walk_all (f : Fm) (h : f.size ≤ 20000) : walkL f 100000 = allN f := by
  (rw [walkL_take, List.take_of_length_le (by rw [allN_len]; omega)])

end Go.Proofs.Ytffkoiemnchdgae
