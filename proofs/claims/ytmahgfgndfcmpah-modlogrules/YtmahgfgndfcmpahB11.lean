/- Texts of one proof, one behind the other: Read1. -/
import Derived.Test.YtmahgfgndfcmpahB08
/- Walks: the yardstick's Read. -/
namespace Go.Proofs.Ytmahgfgndfcmpah
open Go.RowKit

set_option maxHeartbeats 1000000 in
theorem fault_any (c a : Int) (w : World) :
    Calls Try.prog 24 #[.int .i64 c, .int .i64 a] w fun e w' => e = .returned (.agg #[.int .i64 c, .int .i64 a]) ∧ Below w.heap.size w w' := by
  go_enter Try.func24, Try.ntmps24
  go_wp2; (refine bodyPost_ret (v := .agg #[.int .i64 c, .int .i64 a]) (by simp [results, Try.results24, go_sem]) rfl ⟨rfl, (Below.refl _ _).alloc (Nat.le_refl _) _⟩)

theorem Rep.up' {w w' : World} {ok : Nat → Prop} {f : Fm} {v : Value} (h : Rep w ok f v) (hb : Below w.heap.size w w') : Rep w' ok f v :=
  h.move fun b hb1 hb2 => ⟨hb.block b hb1, hb2⟩
end Go.Proofs.Ytmahgfgndfcmpah
