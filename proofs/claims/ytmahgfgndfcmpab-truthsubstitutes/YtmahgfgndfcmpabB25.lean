/- Texts of one proof, one behind the other: Tr10. -/
import Derived.Test.YtmahgfgndfcmpabB21
/- Walks: isNoName, IndexFunc over texts, Value. -/
namespace Go.Proofs.Ytmahgfgndfcmpab
open Go.RowKit Go.Sort

theorem fault_code (a b : Int) (w : World) : (Instr.field 25 (.agg #[.int .i64 a, .int .i64 b]) 0).run Try.prog w = .ok (.int .i64 a) w := by kernel_rfl

end Go.Proofs.Ytmahgfgndfcmpab
