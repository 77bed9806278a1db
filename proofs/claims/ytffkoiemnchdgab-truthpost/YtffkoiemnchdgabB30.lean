/- Texts of one proof, one behind the other: Tr9. -/
import Derived.Test.YtffkoiemnchdgabB27
/- Walks: Valid, of what can be gone through. -/
namespace Go.Proofs.Ytffkoiemnchdgab
open Go.RowKit Go.Sort

theorem colL_len (f : Fm) (l : List (List UInt8)) : (colL f l).length = 2 ^ l.length := by simp [colL]

set_option maxHeartbeats 2000000 in
theorem valid_yes (f : Fm) (h : f.ncode.1 = 0) (v : Value) (w : World) (hrep : Rep w (fun _ => True) f v) :
    Calls Try.prog 24 #[v] w fun e w' => ∃ x, e = .returned (.tuple #[.bool (decide (false ∉ colL f (nmsU f))), x, .agg #[.int .i64 0, .int .i64 0]]) ∧ TL w' x (if false ∈ colL f (nmsU f) then rowN ((colL f (nmsU f)).idxOf false) (nmsU f) 0 else []) ∧ Below w.heap.size w w' := by
  (have hck := fun v (w : World) h' => np_yes f h v w h'); (have hco := fun v u (w : World) h1 h2 => column_own f h v u w h1 h2); obtain ⟨-, h6, -⟩ := ncode_ok h; have hcl := colL_len f (nmsU f)
  have hc64 : (colL f (nmsU f)).length ≤ 64 := by
    rw [hcl]; exact (shl_row _ h6).2.2
  generalize nmsU f = U at *; generalize colL f U = C at *; (have hix := fun v (w : World) h => index_bool C (by omega) false v w h); (have htr := fun (r : Nat) (hr : r ≤ 64) u (w : World) hu => trueIn_any r (by omega) U (by omega) u w hu); obtain ⟨k, n, ks⟩ := f; obtain ⟨sl, cap, rfl⟩ := slice_shape hrep; have HC : Hid (∀ v w, _ → Calls Try.prog 45 #[v] w _) := hck; (have HD : Hid (∀ v u w, Rep w (fun _ => True) (.mk k n ks) v → TL w u U → Calls Try.prog 43 #[v, u] w _) := hco); clear hck hco h hcl; by_cases hm : false ∈ C
  · have hj : fIdx C false = ((C.idxOf false : Nat) : Int) := if_pos hm
    (have hjl : C.idxOf false ≤ 64 := by have := List.idxOf_le_length (a := false) (l := C); omega); rw [hj] at hix; (have HT : Hid (∀ u w, SL w u U → Calls Try.prog 47 #[.int .i64 ((C.idxOf false : Nat)), u] w _) := fun u w hu => htr (C.idxOf false) hjl u w hu); (rw [if_pos hm, decide_eq_false (fun h => h hm)]); generalize C.idxOf false = r at *; generalize rowN r U 0 = R at *; have HI : Hid (∀ v w, BL w v C → Calls Try.prog 46 #[v, .bool false] w _) := hix; (have hrI : (r : Int) ≤ 64 := by omega); clear hix htr hm hj
    go_enter Try.func24, Try.ntmps24
    go_wp2_with (first
      | (go_at_call 45
         refine (HC.out _ _ ((hrep.more _).more _)).mono ?_; rintro e w1 ⟨x, rfl, htl, hb1⟩; have HTL : Hid (TL w1 x U) := htl; obtain ⟨adU, cpU, rfl, -⟩ := htl; have z1 := hb1.size; simp at z1; have q0 := below_keep hb1 (alloc_keep (blk_new w _) _); have q1 := below_keep hb1 (blk_new (w.alloc _) _); (rw [show (w.alloc _).heap.size = w.heap.size + 1 by simp] at q1); have B1 := below_join (below_more (below_more (Below.refl _ w) _) _) hb1; obtain ⟨a0, a1, a2, -⟩ := blk3 q0; have y0 : w.heap.size < w1.heap.size := lt_of_block q0
         have y1 : w.heap.size + 1 < w1.heap.size := lt_of_block q1)
      | (go_at_call 43
         refine (HD.out _ _ _ ((hrep.up B1).more _) (HTL.out.up ((Below.refl _ _).alloc (Nat.le_refl _) _))).mono ?_; rintro e w2 ⟨x, rfl, hbl, hb2⟩; have HBL : Hid (BL w2 x C) := hbl; obtain ⟨adC, cpC, rfl, -⟩ := hbl; have r1 := below_keep hb2 (alloc_keep q1 _); have B2 := below_join (below_more B1 _) hb2; have HT2 : Hid (TL w2 (.slice adU U.length cpU) U) := (HTL.out.up ((Below.refl _ _).alloc (Nat.le_refl _) _)).up hb2
         have l1 := lt_of_block r1)
      | (go_at_call 46
         refine (HI.out _ _ HBL.out).mono ?_; rintro e w3 ⟨rfl, hw3⟩; have hw4 := hw3.symm
         subst hw4)
      | (go_at_call 47
         refine (HT.out _ _ HT2.out.sl).mono ?_; rintro e w3 ⟨x, rfl, htl, hb3⟩; have HTR : Hid (TL w3 x R) := htl; obtain ⟨adR, cpR, rfl, -⟩ := htl; have s1 := below_keep hb3 r1; have B3 := below_join B2 hb3
         obtain ⟨k1, k2, k3, k4⟩ := blk2 s1)
      | fail)
    have f2 := set2 s1 (.int .i64 0) (.int .i64 0); (have b2 := (B3.setCell (p := ⟨w.heap.size + 1, 0, none⟩) (by simp) (.int .i64 0)).setCell (p := ⟨w.heap.size + 1, 1, none⟩) (by simp) (.int .i64 0)); have TF := HTR.out.set2 s1 (.int .i64 0) (.int .i64 0); generalize World.setCell _ _ _ = F at f2 b2 TF ⊢; clear k1 k2 k3 k4; obtain ⟨k1, k2, -⟩ := blk2 f2; (exact bodyPost_ret (v := .tuple #[.bool false, .slice adR R.length cpR, .agg #[.int .i64 0, .int .i64 0]]) (by simp [results, Try.results24, go_sem, k1, k2]) rfl ⟨_, rfl, TF, b2⟩)
  · have hj : fIdx C false = -1 := if_neg hm
    rw [hj] at hix; rw [if_neg hm, decide_eq_true hm]; have HI : Hid (∀ v w, BL w v C → Calls Try.prog 46 #[v, .bool false] w _) := hix; clear hix htr hm hj
    go_enter Try.func24, Try.ntmps24
    go_wp2_with (first
      | (go_at_call 45
         refine (HC.out _ _ ((hrep.more _).more _)).mono ?_; rintro e w1 ⟨x, rfl, htl, hb1⟩; have HTL : Hid (TL w1 x U) := htl; obtain ⟨adU, cpU, rfl, -⟩ := htl; have z1 := hb1.size; simp at z1; have q0 := below_keep hb1 (alloc_keep (blk_new w _) _); have q1 := below_keep hb1 (blk_new (w.alloc _) _); (rw [show (w.alloc _).heap.size = w.heap.size + 1 by simp] at q1); have B1 := below_join (below_more (below_more (Below.refl _ w) _) _) hb1; obtain ⟨a0, a1, a2, -⟩ := blk3 q0; have y0 : w.heap.size < w1.heap.size := lt_of_block q0
         have y1 : w.heap.size + 1 < w1.heap.size := lt_of_block q1)
      | (go_at_call 43
         refine (HD.out _ _ _ ((hrep.up B1).more _) (HTL.out.up ((Below.refl _ _).alloc (Nat.le_refl _) _))).mono ?_; rintro e w2 ⟨x, rfl, hbl, hb2⟩; have HBL : Hid (BL w2 x C) := hbl; obtain ⟨adC, cpC, rfl, -⟩ := hbl; have r1 := below_keep hb2 (alloc_keep q1 _); have B2 := below_join (below_more B1 _) hb2
         have l1 := lt_of_block r1)
      | (go_at_call 46
         refine (HI.out _ _ HBL.out).mono ?_; rintro e w3 ⟨rfl, hw3⟩; have hw4 := hw3.symm; subst hw4
         obtain ⟨k1, k2, k3, k4⟩ := blk2 r1)
      | fail)
    have f2 := set2 r1 (.int .i64 0) (.int .i64 0); (have b2 := (B2.setCell (p := ⟨w.heap.size + 1, 0, none⟩) (by simp) (.int .i64 0)).setCell (p := ⟨w.heap.size + 1, 1, none⟩) (by simp) (.int .i64 0)); generalize World.setCell _ _ _ = F at f2 b2 ⊢; clear k1 k2 k3 k4; obtain ⟨k1, k2, -⟩ := blk2 f2; (exact bodyPost_ret (v := .tuple #[.bool true, .slice none 0 0, .agg #[.int .i64 0, .int .i64 0]]) (by simp [results, Try.results24, go_sem, k1, k2]) rfl ⟨_, rfl, TL.nil, b2⟩)
end Go.Proofs.Ytffkoiemnchdgab
