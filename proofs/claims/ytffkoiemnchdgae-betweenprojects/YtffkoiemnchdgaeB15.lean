/- Texts of one proof, one behind the other: Read1. -/
import Derived.Test.YtffkoiemnchdgaeB11
/- Walks: the yardstick's Read. -/
namespace Go.Proofs.Ytffkoiemnchdgae
open Go.RowKit

set_option maxHeartbeats 1000000 in
theorem fault_any (c a : Int) (w : World) :
    Calls Try.prog 19 #[.int .i64 c, .int .i64 a] w fun e w' => e = .returned (.agg #[.int .i64 c, .int .i64 a]) ∧ Below w.heap.size w w' := by
  go_enter Try.func19, Try.ntmps19
  go_wp2; (refine bodyPost_ret (v := .agg #[.int .i64 c, .int .i64 a]) (by simp [results, Try.results19, go_sem]) rfl ⟨rfl, (Below.refl _ _).alloc (Nat.le_refl _) _⟩)

set_option maxHeartbeats 1000000 in
theorem none_any (k : Int) (n : ByteArray) (ks : List Fm) (v : Value) (w : World) (hrep : Rep w (fun _ => True) (.mk k n ks) v) :
    Calls Try.prog 20 #[v] w fun e w' => e = .returned (.bool (decide (k = 0) && decide (n.data.toList = []) && decide (ks = []))) ∧ Below w.heap.size w w' := by
  obtain ⟨sl, cap, rfl, hx1, hx2, hx3, hx4⟩ := Rep.def.1 hrep; clear hx4
  go_enter Try.func20, Try.ntmps20
  go_wp2
  all_goals
    go_ret; refine ⟨ret_bool ?_, (Below.refl _ _).alloc (Nat.le_refl _) _⟩
    simp_all [ByteArray.toList_eq]
  rw [Bool.eq_iff_iff]; simp [List.length_eq_zero_iff]

end Go.Proofs.Ytffkoiemnchdgae
