/- Texts of one proof, one behind the other: Walk9. -/
import Derived.Test.YtffkoiemnchdgaaB12
import Derived.RegionTactic
/- Walks: Parse. -/
namespace Go.Proofs.Ytffkoiemnchdgaa
open Go.RowKit

set_option maxHeartbeats 1000000 in
theorem parse_long (t : ByteArray) (h1 : 20000 < t.size) (h2 : t.size ≤ maxLen) (w : World) :
    Calls Try.prog 17 #[.string t] w fun e w' => e = .returned (.tuple #[.agg #[.int .i64 0, .string ⟨#[]⟩, .slice none 0 0], .agg #[.int .i64 2, .int .i64 0]]) ∧ Below w.heap.size w w' := by
  unfold maxLen at h2; (have h3 : (20000 : Int) < (t.size : Int) := by omega)
  go_enter Try.func17, Try.ntmps17
  go_wp2; (refine bodyPost_ret (v := .tuple #[.agg #[.int .i64 0, .string ⟨#[]⟩, .slice none 0 0], .agg #[.int .i64 2, .int .i64 0]]) (by simp [results, Try.results17, go_sem]) rfl ⟨rfl, ?_⟩); (exact (((Below.refl _ _).alloc (Nat.le_refl _) _).alloc (by simp) _).alloc (by simp; omega) _)

theorem parse1_in (cap : Array Value) (w : World) : (callFunc 48 cap).run Try.prog w = .ok (.enter 48 cap) w := by
  simp [go_sem]

theorem heap_drew (w : World) : w.drew.heap = w.heap := rfl

/-- The blocks that Parse makes first. -/
theorem three {w : World} {o0 o1 o2 o3 : Obj} : ((((w.alloc o0).alloc o1).alloc o2).alloc o3).heap[w.heap.size]? = some o0 ∧ ((((w.alloc o0).alloc o1).alloc o2).alloc o3).heap[w.heap.size + 1]? = some o1 ∧ ((((w.alloc o0).alloc o1).alloc o2).alloc o3).heap[w.heap.size + 2]? = some o2 ∧ ((((w.alloc o0).alloc o1).alloc o2).alloc o3).heap[w.heap.size + 3]? = some o3 := by
  (have e1 : (w.alloc o0).heap.size = w.heap.size + 1 := by simp); (have e2 : ((w.alloc o0).alloc o1).heap.size = w.heap.size + 2 := by simp); (have e3 : (((w.alloc o0).alloc o1).alloc o2).heap.size = w.heap.size + 3 := by simp); refine ⟨?_, ?_, ?_, ?_⟩
  · rw [Below.heap_alloc _ _ _ (by omega), Below.heap_alloc _ _ _ (by omega), Below.heap_alloc _ _ _ (by omega)]; exact blk_new _ _
  · rw [Below.heap_alloc _ _ _ (by omega), Below.heap_alloc _ _ _ (by omega), ← e1]; exact blk_new _ _
  · rw [Below.heap_alloc _ _ _ (by omega), ← e2]; exact blk_new _ _
  · rw [← e3]; exact blk_new _ _

set_option maxHeartbeats 1000000 in
theorem parse_ok (t : ByteArray) (ht : t.size ≤ 20000) (w : World) (x : Res) (hx : Ev (mThen · t.data.toList) x) (f : Fm) (ho : outOf t.size x = .ok f) :
    Calls Try.prog 17 #[.string t] w fun e w' => ∃ v, e = .returned (.tuple #[v, .agg #[.int .i64 0, .int .i64 0]]) ∧ Rep w' (w.heap.size ≤ ·) f v ∧ Below w.heap.size w w' := by
  (have h3 : (t.size : Int) ≤ 20000 := by omega); (have hmf : ∀ (fn : Fn) (first cap : Array Value) (w : World), (Instr.makeFunc fn first cap).run Try.prog w = .ok (.func fn first cap) w := fun _ _ _ _ => rfl)
  go_enter Try.func17, Try.ntmps17
  go_wp2_with (first
    | (go_at_call 41
       (refine (caught_ok 48 _ _ (fun w1 => ∃ k nm ks sl cap, f = .mk k nm ks ∧ w1.heap[w.heap.size + 1]? = some (.cells #[.int .i64 k, .string nm, .slice sl ks.length cap] 24 (0, 0)) ∧ w1.heap[w.heap.size + 1 + 1]? = some (.cells #[.int .i64 0, .int .i64 0] 29 (0, 0)) ∧ Rep w1 (w.heap.size + 4 ≤ ·) f (.agg #[.int .i64 k, .string nm, .slice sl ks.length cap]) ∧ Kept (fun k => k < w.heap.size) w w1) (parse1_in _) ?_).mono ?_)
       · refine (parse1_ok w.heap.size (w.heap.size + 1) t ht _ three.1 three.2.1 x hx f ho).mono ?_
         rintro e w1 ⟨rfl, hk, k, nm, ks, sl, cap, rfl, q1, hrep⟩; (refine ⟨rfl, (hk.block _ (by simp) (by simp; omega)).trans (blk_new _ _), k, nm, ks, sl, cap, rfl, q1, ?_, ?_, ?_⟩)
         · exact (hk.block _ (by simp) (by simp)).trans three.2.2.1
         · exact hrep.move fun b _ hb2 => ⟨rfl, by simp at hb2; omega⟩
         · exact ((((((Kept.refl _ w).alloc _).alloc _).alloc _).alloc _)).trans (hk.mono (fun k _ h => by omega))
       rintro e w2 ⟨rfl, w1, ⟨k, nm, ks, sl, cap, rfl, q1, q2, hrep, hk⟩, hk2⟩; have z1 := lt_of_block q1; have z2 := lt_of_block q2; (have q3 := (hk2.block _ z1 (by simp)).trans q1); (have q4 := (hk2.block _ z2 (by simp)).trans q2); obtain ⟨g1, g2, g3, g4, g5, g6⟩ := blk3 q3
       obtain ⟨k1, k2, k3, k4⟩ := blk2 q4)
    | fail)
  go_region
  all_goals go_wp2
  have hsz := hk.size; have hsz2 := hk2.size; have y2 := set2 q4 (.int .i64 0) (.int .i64 0); have y1 := q3; (rw [← Below.heap_setCell _ ⟨w.heap.size + 1 + 1, 0, none⟩ (.int .i64 0) _ (by simp), ← Below.heap_setCell _ ⟨w.heap.size + 1 + 1, 1, none⟩ (.int .i64 0) _ (by simp)] at y1); have x1 := set3 y1 (.int .i64 k) (.string nm) (.slice sl ks.length cap); have x2 := y2; (rw [← Below.heap_setCell _ ⟨w.heap.size + 1, 0, none⟩ (.int .i64 k) _ (by simp), ← Below.heap_setCell _ ⟨w.heap.size + 1, 1, none⟩ (.string nm) _ (by simp), ← Below.heap_setCell _ ⟨w.heap.size + 1, 2, none⟩ (.slice sl ks.length cap) _ (by simp)] at x2); have f2 := set2 x2 (.int .i64 0) (.int .i64 0); have f1 := x1; (rw [← Below.heap_setCell _ ⟨w.heap.size + 1 + 1, 0, none⟩ (.int .i64 0) _ (by simp), ← Below.heap_setCell _ ⟨w.heap.size + 1 + 1, 1, none⟩ (.int .i64 0) _ (by simp)] at f1); (have b1 : Below w.heap.size w w2 := (hk.trans (hk2.mono (fun k _ h => by simp; omega))).below (Nat.le_refl _) (fun _ h => h)); (have b2 := (((((((b1.setCell (p := ⟨w.heap.size + 1 + 1, 0, none⟩) (by simp; omega) (.int .i64 0)).setCell (p := ⟨w.heap.size + 1 + 1, 1, none⟩) (by simp; omega) (.int .i64 0)).setCell (p := ⟨w.heap.size + 1, 0, none⟩) (by simp) (.int .i64 k)).setCell (p := ⟨w.heap.size + 1, 1, none⟩) (by simp) (.string nm)).setCell (p := ⟨w.heap.size + 1, 2, none⟩) (by simp) (.slice sl ks.length cap)).setCell (p := ⟨w.heap.size + 1 + 1, 0, none⟩) (by simp; omega) (.int .i64 0)).setCell (p := ⟨w.heap.size + 1 + 1, 1, none⟩) (by simp; omega) (.int .i64 0)).drew)
  have r1 : Rep (((((((w2.setCell ⟨w.heap.size + 1 + 1, 0, none⟩ (.int .i64 0)).setCell ⟨w.heap.size + 1 + 1, 1, none⟩ (.int .i64 0)).setCell ⟨w.heap.size + 1, 0, none⟩ (.int .i64 k)).setCell ⟨w.heap.size + 1, 1, none⟩ (.string nm)).setCell ⟨w.heap.size + 1, 2, none⟩ (.slice sl ks.length cap)).setCell ⟨w.heap.size + 1 + 1, 0, none⟩ (.int .i64 0)).setCell ⟨w.heap.size + 1 + 1, 1, none⟩ (.int .i64 0)).drew (w.heap.size ≤ ·) (.mk k nm ks) (.agg #[.int .i64 k, .string nm, .slice sl ks.length cap]) := by
    (refine hrep.move fun b hb1 hb2 => ⟨?_, by omega⟩); (rw [heap_drew, Below.heap_setCell _ _ _ _ (by simp; omega), Below.heap_setCell _ _ _ _ (by simp; omega), Below.heap_setCell _ _ _ _ (by simp; omega), Below.heap_setCell _ _ _ _ (by simp; omega), Below.heap_setCell _ _ _ _ (by simp; omega), Below.heap_setCell _ _ _ _ (by simp; omega), Below.heap_setCell _ _ _ _ (by simp; omega)]); (exact hk2.block b hb1 (by simp; omega))
  generalize World.setCell _ _ _ = F at f1 f2 b2 r1 ⊢; clear g1 g2 g3 g4 g5 g6 k1 k2 k3 k4; obtain ⟨g1, g2, g3, -⟩ := blk3 f1; obtain ⟨k1, k2, -⟩ := blk2 f2; (exact bodyPost_ret (v := .tuple #[.agg #[.int .i64 k, .string nm, .slice sl ks.length cap], .agg #[.int .i64 0, .int .i64 0]]) (by simp [results, Try.results17, go_sem, g1, g2, g3, k1, k2]) rfl ⟨_, rfl, r1, b2⟩)

set_option maxHeartbeats 1000000 in
theorem parse_bad (t : ByteArray) (ht : t.size ≤ 20000) (w : World) (x : Res) (hx : Ev (mThen · t.data.toList) x) (code : Int) (at_ : Nat) (ho : outOf t.size x = .fault code at_) :
    Calls Try.prog 17 #[.string t] w fun e w' => e = .returned (.tuple #[.agg #[.int .i64 0, .string ⟨#[]⟩, .slice none 0 0], .agg #[.int .i64 code, .int .i64 at_]]) ∧ Below w.heap.size w w' := by
  (have h3 : (t.size : Int) ≤ 20000 := by omega); (have hmf : ∀ (fn : Fn) (first cap : Array Value) (w : World), (Instr.makeFunc fn first cap).run Try.prog w = .ok (.func fn first cap) w := fun _ _ _ _ => rfl)
  go_enter Try.func17, Try.ntmps17
  go_wp2_with (first
    | (go_at_call 41
       (refine (caught_bad 48 _ _ (fun w1 => w1.heap[w.heap.size + 1]? = some (.cells #[.int .i64 0, .string ⟨#[]⟩, .slice none 0 0] 24 (0, 0)) ∧ w1.heap[w.heap.size + 1 + 1]? = some (.cells #[.int .i64 0, .int .i64 0] 29 (0, 0)) ∧ Kept (fun k => k < w.heap.size) w w1) code at_ (parse1_in _) ?_).mono ?_)
       · refine (parse1_bad w.heap.size (w.heap.size + 1) t ht _ three.1 three.2.1 x hx code at_ ho).mono ?_
         rintro e w1 ⟨rfl, hk⟩; (refine ⟨rfl, (hk.block _ (by simp) trivial).trans (blk_new _ _), ?_, ?_, ?_⟩)
         · exact (hk.block _ (by simp <;> omega) trivial).trans three.2.1
         · exact (hk.block _ (by simp) trivial).trans three.2.2.1
         · exact ((((((Kept.refl _ w).alloc _).alloc _).alloc _).alloc _)).trans (hk.mono (fun _ _ _ => trivial))
       rintro e w2 ⟨rfl, w1, ⟨q1, q2, hk⟩, hk2⟩; have z1 := lt_of_block q1; have z2 := lt_of_block q2; (have q3 := (hk2.block _ z1 (by simp <;> omega)).trans q1); (have q4 := (hk2.block _ z2 (by simp)).trans q2); obtain ⟨g1, g2, g3, g4, g5, g6⟩ := blk3 q3
       obtain ⟨k1, k2, k3, k4⟩ := blk2 q4)
    | fail)
  go_region
  all_goals go_wp2
  have hsz := hk.size; have hsz2 := hk2.size; have y2 := set2 q4 (.int .i64 code) (.int .i64 at_); have y1 := q3; (rw [← Below.heap_setCell _ ⟨w.heap.size + 1 + 1, 0, none⟩ (.int .i64 code) _ (by simp), ← Below.heap_setCell _ ⟨w.heap.size + 1 + 1, 1, none⟩ (.int .i64 at_) _ (by simp)] at y1); have x1 := set3 y1 (.int .i64 0) (.string ⟨#[]⟩) (.slice none 0 0); have x2 := y2; (rw [← Below.heap_setCell _ ⟨w.heap.size + 1, 0, none⟩ (.int .i64 0) _ (by simp), ← Below.heap_setCell _ ⟨w.heap.size + 1, 1, none⟩ (.string ⟨#[]⟩) _ (by simp), ← Below.heap_setCell _ ⟨w.heap.size + 1, 2, none⟩ (.slice none 0 0) _ (by simp)] at x2); have f2 := set2 x2 (.int .i64 code) (.int .i64 at_); have f1 := x1; (rw [← Below.heap_setCell _ ⟨w.heap.size + 1 + 1, 0, none⟩ (.int .i64 code) _ (by simp), ← Below.heap_setCell _ ⟨w.heap.size + 1 + 1, 1, none⟩ (.int .i64 at_) _ (by simp)] at f1); (have b1 : Below w.heap.size w w2 := (hk.trans (hk2.mono (fun k _ h => by simp; omega))).below (Nat.le_refl _) (fun _ h => h)); (have b2 := (((((((b1.setCell (p := ⟨w.heap.size + 1 + 1, 0, none⟩) (by simp <;> omega) (.int .i64 code)).setCell (p := ⟨w.heap.size + 1 + 1, 1, none⟩) (by simp <;> omega) (.int .i64 at_)).setCell (p := ⟨w.heap.size + 1, 0, none⟩) (by simp) (.int .i64 0)).setCell (p := ⟨w.heap.size + 1, 1, none⟩) (by simp) (.string ⟨#[]⟩)).setCell (p := ⟨w.heap.size + 1, 2, none⟩) (by simp) (.slice none 0 0)).setCell (p := ⟨w.heap.size + 1 + 1, 0, none⟩) (by simp <;> omega) (.int .i64 code)).setCell (p := ⟨w.heap.size + 1 + 1, 1, none⟩) (by simp <;> omega) (.int .i64 at_)).drew); generalize World.setCell _ _ _ = F at f1 f2 b2 ⊢; clear g1 g2 g3 g4 g5 g6 k1 k2 k3 k4; obtain ⟨g1, g2, g3, -⟩ := blk3 f1; obtain ⟨k1, k2, -⟩ := blk2 f2; (exact bodyPost_ret (v := .tuple #[.agg #[.int .i64 0, .string ⟨#[]⟩, .slice none 0 0], .agg #[.int .i64 code, .int .i64 at_]]) (by simp [results, Try.results17, go_sem, g1, g2, g3, k1, k2]) rfl ⟨rfl, b2⟩)
end Go.Proofs.Ytffkoiemnchdgaa
