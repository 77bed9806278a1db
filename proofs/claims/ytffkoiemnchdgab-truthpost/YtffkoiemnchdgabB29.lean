/- Texts of one proof, one behind the other: TY4. -/
import Derived.Test.YtffkoiemnchdgabB27
import Derived.Test.YtffkoiemnchdgabB11
import Derived.Deep.RegionLaw
import Derived.Test.YtffkoiemnchdgabB07
import Derived.Test.YtffkoiemnchdgabB20
/- Walks: the yardstick's PlainFault. -/
namespace Go.Proofs.Ytffkoiemnchdgab
open Go.RowKit Go.Sort

set_option maxHeartbeats 1000000 in
theorem mkF_any (c a : Int) (w : World) : Calls Try.prog 16 #[.int .i64 c, .int .i64 a] w fun e w' => e = .returned (.agg #[.int .i64 c, .int .i64 a]) ∧ Below w.heap.size w w' := by
  have B := below_more (Below.refl _ w) (.cells #[.int .i64 c, .int .i64 a] 25 (0, 0))
  go_enter Try.func16, Try.ntmps16
  go_wp2_with fail; (exact bodyPost_ret (v := .agg #[.int .i64 c, .int .i64 a]) (by simp [results, Try.results16, go_sem]) rfl ⟨rfl, B⟩)

end Go.Proofs.Ytffkoiemnchdgab
