/- Texts of one proof, one behind the other: Print4. -/
import Derived.Test.YtffkoiemnchdgaaB20
/- Walks: Print. -/
namespace Go.Proofs.Ytffkoiemnchdgaa
open Go.RowKit

set_option maxHeartbeats 1000000 in
theorem print_bad (f : Fm) (v : Value) (w : World) (hrep : Rep w (fun _ => True) f v) (c : Int) (a : Nat) (hc : chk f 0 = .bad c a) :
    Calls Try.prog 13 #[v] w fun e w' => e = .returned (.tuple #[.string ⟨#[]⟩, .agg #[.int .i64 c, .int .i64 a]]) ∧ Below w.heap.size w w' := by
  (have hck := fun (w : World) h => check_any f v w h); (have hcode : f.code = (c, (a : Int)) := by simp only [Fm.code, hc]); rw [hcode] at hck; have hne := chk_code f 0 c a hc; (have hne' : (c != 0) = true := by simpa using hne); (have hne2 : (c == 0) = false := by simpa using hne); obtain ⟨k, n, ks⟩ := f; obtain ⟨sl, cap, rfl⟩ := slice_shape hrep; (have HC : Hid (∀ w, Rep w (fun _ => True) (.mk k n ks) (.agg #[.int .i64 k, .string n, .slice sl ks.length cap]) → Calls Try.prog 12 #[.agg #[.int .i64 k, .string n, .slice sl ks.length cap]] w fun e w' => e = .returned (.agg #[.int .i64 c, .int .i64 a]) ∧ Below w.heap.size w w') := hck); clear hck hcode hc
  go_enter Try.func13, Try.ntmps13
  go_wp2_with (first
    | (go_at_call 12
       (refine (HC.out _ (hrep.move fun b hb _ => ⟨by rw [Below.heap_alloc _ _ _ (by simp; omega), Below.heap_alloc _ _ _ hb], trivial⟩)).mono ?_); rintro e w1 ⟨rfl, hb1⟩; have z1 := hb1.size; simp at z1
       have q1 : w1.heap[w.heap.size + 1]? = some (.cells #[.int .i64 0, .int .i64 0] 29 (0, 0)) := by
         (rw [hb1.block _ (by simp)]); have := blk_new (w.alloc (.cells #[.int .i64 k, .string n, .slice sl ks.length cap] 24 (0, 0))) (.cells #[.int .i64 0, .int .i64 0] 29 (0, 0)); simpa using this
       obtain ⟨k1, k2, k3, k4⟩ := blk2 q1; (have d1 : ¬ w.heap.size + 1 = w1.heap.size := by omega); (have d2 : ¬ w1.heap.size = w.heap.size + 1 := by omega)
       have d3 : w.heap.size + 1 < w1.heap.size := by omega)
    | fail)
  go_region
  all_goals go_wp2
  have f2 := set2 q1 (.int .i64 c) (.int .i64 a); (have b1 : Below w.heap.size w w1 := ((((Below.refl _ w).alloc (Nat.le_refl _) _).alloc (by simp) _).trans (hb1.mono (by simp; omega)))); (have b2 := (b1.setCell (p := ⟨w.heap.size + 1, 0, none⟩) (by simp) (.int .i64 c)).setCell (p := ⟨w.heap.size + 1, 1, none⟩) (by simp) (.int .i64 a)); (have hsz : ((w1.setCell ⟨w.heap.size + 1, 0, none⟩ (.int .i64 c)).setCell ⟨w.heap.size + 1, 1, none⟩ (.int .i64 a)).heap.size = w1.heap.size := by simp [World.setCell]); generalize World.setCell _ _ _ = F at f2 b2 hsz ⊢; clear k1 k2 k3 k4; obtain ⟨k1, k2, -⟩ := blk2 f2; (have d4 : w.heap.size + 1 < F.heap.size := by omega); (exact bodyPost_ret (v := .tuple #[.string ⟨#[]⟩, .agg #[.int .i64 c, .int .i64 a]]) (by simp [results, Try.results13, go_sem, k1, k2, d4]) rfl ⟨rfl, (b2.alloc (by omega) _).drew⟩)

theorem chk_size {f : Fm} {s : Nat} (h : chk f 0 = .ok s) : f.size ≤ 200 := by have := chk_le f 0 s h (by omega); omega

set_option maxHeartbeats 1000000 in
theorem print_ok (f : Fm) (v : Value) (w : World) (hrep : Rep w (fun _ => True) f v) (s : Nat) (hc : chk f 0 = .ok s) :
    Calls Try.prog 13 #[v] w fun e w' => e = .returned (.tuple #[.string ⟨(pr 0 f).toArray⟩, .agg #[.int .i64 0, .int .i64 0]]) ∧ Below w.heap.size w w' := by
  (have hck := fun (w : World) h => check_any f v w h); (have hcode : f.code = (0, 0) := by simp only [Fm.code, hc]); rw [hcode] at hck; have hfine := fine_of_chk f 0 s hc; have hsz := chk_size hc; have hlen := pr_len 200 f 0 hsz hfine; (have hwr := fun (B b : Nat) (w : World) h1 h2 h3 => writes_all (f.size + 1) B b [] 0 f v w (Nat.lt_succ_self _) hfine h1 h2 (by simp; omega) h3); obtain ⟨k, n, ks⟩ := f; obtain ⟨sl, cap, rfl⟩ := slice_shape hrep; (have HC : Hid (∀ w, Rep w (fun _ => True) (.mk k n ks) (.agg #[.int .i64 k, .string n, .slice sl ks.length cap]) → Calls Try.prog 12 #[.agg #[.int .i64 k, .string n, .slice sl ks.length cap]] w fun e w' => e = .returned (.agg #[.int .i64 0, .int .i64 0]) ∧ Below w.heap.size w w') := hck); have HW : Hid (∀ (B b : Nat) (w : World), WR B b [] w → B ≤ w.heap.size → Rep w (· < B) (.mk k n ks) (.agg #[.int .i64 k, .string n, .slice sl ks.length cap]) → Calls Try.prog 44 #[.pointer (some ⟨b, 0, none⟩), .agg #[.int .i64 k, .string n, .slice sl ks.length cap], .int .i64 0] w (WPo B b [] (pr 0 (.mk k n ks)) w)) := hwr; (have HN : Hid (pr 0 (.mk k n ks) ≠ []) := by intro h; rw [h] at hlen; simp at hlen); clear hck hcode hc hlen hwr hfine hsz; generalize pr 0 (.mk k n ks) = out at *
  go_enter Try.func13, Try.ntmps13
  go_wp2_with (first
    | (go_at_call 12
       (refine (HC.out _ (hrep.move fun b hb _ => ⟨by rw [Below.heap_alloc _ _ _ (by simp; omega), Below.heap_alloc _ _ _ hb], trivial⟩)).mono ?_); rintro e w1 ⟨rfl, hb1⟩; have z1 := hb1.size; simp at z1
       have q1 : w1.heap[w.heap.size + 1]? = some (.cells #[.int .i64 0, .int .i64 0] 29 (0, 0)) := by
         (rw [hb1.block _ (by simp)]); have := blk_new (w.alloc (.cells #[.int .i64 k, .string n, .slice sl ks.length cap] 24 (0, 0))) (.cells #[.int .i64 0, .int .i64 0] 29 (0, 0)); simpa using this
       have q0 : w1.heap[w.heap.size]? = some (.cells #[.int .i64 k, .string n, .slice sl ks.length cap] 24 (0, 0)) := by
         (rw [hb1.block _ (by simp; omega), Below.heap_alloc _ _ _ (by simp)]); exact blk_new _ _
       (have b1 : Below w.heap.size w w1 := ((((Below.refl _ w).alloc (Nat.le_refl _) _).alloc (by simp) _).trans (hb1.mono (by simp; omega)))); obtain ⟨g1, g2, g3, g4, g5, g6⟩ := blk3 q0; (have d0 : w.heap.size < w1.heap.size := by omega)
       have d3 : w.heap.size + 1 < w1.heap.size := by omega)
    | (go_at_call 44
       (refine (HW.out (w1.heap.size + 1) (w1.heap.size + 1) _ ?_ (by simp) ?_).mono ?_)
       · refine Or.inl ⟨Nat.le_refl _, .slice none 0 0, ?_, ⟨rfl, Or.inl ⟨rfl, rfl⟩⟩, by simp [Value.ownBlock]⟩
         have := blk_new (w1.alloc (.cells #[.int .i64 0, .int .i64 0] 29 (0, 0))) (.cells #[.pointer none, .slice none 0 0] 76 (0, 0)); simpa using this
       · exact hrep.move fun b hb _ => ⟨by rw [Below.heap_alloc _ _ _ (by simp; omega), Below.heap_alloc _ _ _ (by omega)]; exact b1.block b hb, by omega⟩
       rintro e w2 ⟨rfl, hw2, hb2, hk2⟩)
    | (go_at_call 45
       refine (string_any (w1.heap.size + 1) (w1.heap.size + 1) out _ hw2 HN.out).mono ?_; rintro e w3 ⟨rfl, hb3⟩
       have q3 : w3.heap[w.heap.size + 1]? = some (.cells #[.int .i64 0, .int .i64 0] 29 (0, 0)) := by
         (rw [hb3.block _ (by omega), hb2.block _ (by omega), Below.heap_alloc _ _ _ (by simp; omega), Below.heap_alloc _ _ _ (by omega)]); exact q1
       obtain ⟨k1, k2, k3, k4⟩ := blk2 q3)
    | fail)
  have z2 := hb2.size; have z3 := hb3.size; simp at z2; have f2 := set2 q3 (.int .i64 0) (.int .i64 0); (have bb : Below w.heap.size w w3 := (((b1.alloc (by omega) _).alloc (by simp; omega) _).trans (hb2.mono (by omega))).trans (hb3.mono (by omega))); (have b2 := (bb.setCell (p := ⟨w.heap.size + 1, 0, none⟩) (by simp) (.int .i64 0)).setCell (p := ⟨w.heap.size + 1, 1, none⟩) (by simp) (.int .i64 0)); generalize World.setCell _ _ _ = F at f2 b2 ⊢; clear k1 k2 k3 k4; obtain ⟨k1, k2, -⟩ := blk2 f2; (exact bodyPost_ret (v := .tuple #[.string ⟨out.toArray⟩, .agg #[.int .i64 0, .int .i64 0]]) (by simp [results, Try.results13, go_sem, k1, k2]) rfl ⟨rfl, b2⟩)
end Go.Proofs.Ytffkoiemnchdgaa
