/- Texts of one proof, one behind the other: Law1. -/
import Derived.Test.YtffkoiemnchdgaaB23
import Derived.Test.YtffkoiemnchdgaaB06
/- Walks: what the laws lean on. -/
namespace Go.Proofs.Ytffkoiemnchdgaa
open Go.RowKit

theorem parse_back (f : Fm) (s : Nat) (hc : chk f 0 = .ok s) (w : World) :
    Calls Try.prog 17 #[.string ⟨(pr 0 f).toArray⟩] w fun e w' => ∃ v, e = .returned (.tuple #[v, .agg #[.int .i64 0, .int .i64 0]]) ∧ Rep w' (w.heap.size ≤ ·) f v ∧ Below w.heap.size w w' := by
  have hf := fine_of_chk f 0 s hc; have hs := chk_size hc; have hl := pr_len 200 f 0 hs hf; have hsz : (⟨(pr 0 f).toArray⟩ : ByteArray).size = (pr 0 f).length := rfl; (refine parse_ok ⟨(pr 0 f).toArray⟩ (by omega) w (.ok f []) (read_back hf) f ?_); (have h2 : ¬ 200 < f.size := by omega); simp [outOf, skipB, h2]

/-- The document's example. -/
def f0 : Fm := .mk 7 e0 [.mk 7 e0 [nmF [112], nmF [113]], .mk 5 e0 [nmF [112], .mk 4 e0 [.mk 2 e0 []]]]
theorem f0_fine : Fine f0 := fine_two 7 _ _ (by simp) (fine_two 7 _ _ (by simp) (fine_name (by decide)) (fine_name (by decide))) (fine_two 5 _ _ (by simp) (fine_name (by decide)) (fine_one 4 _ (by simp) (fine_leaf 2 (by simp))))
theorem f0_size : f0.size = 8 := by simp [f0, nmF, Fm.size, Fm.sizes]
theorem f0_pr : pr 0 f0 = [40, 112, 32, 45, 62, 32, 113, 41, 32, 45, 62, 32, 112, 32, 38, 32, 126, 49] := by
  simp [f0, nmF, pr, brk, bindI, sign1, sign2, leftB, rightB, leafS]
theorem f0_chk : chk f0 0 = .ok 8 := by
  (have := chk_fine f0 0 f0_fine (by rw [f0_size]; omega))
  rwa [f0_size] at this

set_option maxHeartbeats 1000000 in
theorem begun_any (w : World) : Calls Try.prog 9 #[] w fun e w' => e = .returned (.bool true) ∧ Below w.heap.size w w' := by
  have hp := parse_back f0 8 f0_chk; rw [f0_pr] at hp; (have hq := fun v w h => print_ok f0 v w h 8 f0_chk); rw [f0_pr] at hq; obtain ⟨k, n, ks, hf0⟩ : ∃ k n ks, f0 = .mk k n ks := ⟨_, _, _, rfl⟩; rw [hf0] at hp hq; have HP : Hid (∀ w, Calls Try.prog 17 _ w _) := hp; have HQ : Hid (∀ v w, _ → Calls Try.prog 13 #[v] w _) := hq; clear hp hq hf0
  go_enter Try.func9, Try.ntmps9
  go_wp2_with (first
    | (go_at_call 17
       refine (HP.out _).mono ?_; rintro e w1 ⟨v, rfl, hrep, hb1⟩
       obtain ⟨sl, cap, rfl⟩ := slice_shape hrep)
    | (go_at_call 13
       (refine (HQ.out _ _ (hrep.move fun b hb _ => ⟨by rw [Below.heap_alloc _ _ _ (by simp; omega), Below.heap_alloc _ _ _ hb], trivial⟩)).mono ?_); rintro e w2 ⟨rfl, hb2⟩; have z1 := hb1.size; have z2 := hb2.size; simp at z2
       have q1 : w2.heap[w1.heap.size + 1]? = some (.cells #[.int .i64 0, .int .i64 0] 29 (0, 0)) := by
         (rw [hb2.block _ (by simp)]); have := blk_new (w1.alloc (.cells #[.int .i64 k, .string n, .slice sl ks.length cap] 24 (0, 0))) (.cells #[.int .i64 0, .int .i64 0] 29 (0, 0)); simpa using this
       obtain ⟨k1, k2, k3, k4⟩ := blk2 q1
       have d3 : w1.heap.size + 1 < w2.heap.size := by omega)
    | fail)
  go_ret; (exact ⟨rfl, (((hb1.alloc z1 _).alloc (by simp; omega) _).trans (hb2.mono (by simp; omega))).alloc (by omega) _⟩)
end Go.Proofs.Ytffkoiemnchdgaa
