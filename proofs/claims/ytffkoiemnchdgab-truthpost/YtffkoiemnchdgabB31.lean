/- Texts of one proof, one behind the other: TY2. -/
import Derived.Test.YtffkoiemnchdgabB27
/- Walks: the yardstick's HasText, True, Row. -/
namespace Go.Proofs.Ytffkoiemnchdgab
open Go.RowKit Go.Sort

/-! The yardstick's row. -/
theorem half_bit (r i : Nat) : (r / 2 ^ i % 2 = 1) ↔ r.testBit i = true := by
  rw [Nat.testBit_eq_decide_div_mod_eq]; simp

end Go.Proofs.Ytffkoiemnchdgab
