/- Texts of one proof, one behind the other: Swaps1. -/
import Derived.Test.YtlmjnglcdgkomacB12
import Derived.Test.YtlmjnglcdgkomacB09
import Derived.Test.YtlmjnglcdgkomacB11
import Derived.Test.YtlmjnglcdgkomacB10
import Derived.Deep.RegionLaw
import Derived.Shelf.Sort.Plain
import Derived.Shelf.Slices.CompactS
import Derived.Shelf.Slices.In.SortNone
import Derived.Test.YtlmjnglcdgkomacProg
import Derived.Sort.OwnSorted
import Derived.Test.YtlmjnglcdgkomacB08
import Derived.Test.YtlmjnglcdgkomacB03
/- Walks: what FormulaSwaps calls. -/
namespace Go.Proofs.Ytlmjnglcdgkomac
open Go.RowKit

set_option maxHeartbeats 1000000 in
theorem named_any (n : ByteArray) (w : World) :
    Calls Try.prog 23 #[.string n] w fun e w' => e = .returned (.agg #[.int .i64 1, .string n, .slice none 0 0]) ∧ Below w.heap.size w w' := by
  have B := (Below.refl w.heap.size w).alloc (Nat.le_refl _)
  go_enter Try.func23, Try.ntmps23
  go_wp2_with fail; (exact bodyPost_ret (v := .agg #[.int .i64 1, .string n, .slice none 0 0]) (by simp [results, Try.results23, go_sem]) rfl ⟨rfl, B _⟩)

theorem code_zero {f : Fm} (h : f.code.1 = 0) : f.code = (0, 0) := by
  rcases hx : chk f 0 with s | ⟨c, a⟩
  · simp only [Fm.code, hx]
  · have := chk_code f 0 c a hx
    simp only [Fm.code, hx] at h; exact absurd h this
theorem code_chk {f : Fm} (h : f.code = (0, 0)) : ∃ s, chk f 0 = .ok s := by
  rcases hx : chk f 0 with s | ⟨c, a⟩
  · exact ⟨s, rfl⟩
  · have := chk_code f 0 c a hx
    simp only [Fm.code, hx] at h; exact absurd (Prod.mk.inj h).1 this

end Go.Proofs.Ytlmjnglcdgkomac
