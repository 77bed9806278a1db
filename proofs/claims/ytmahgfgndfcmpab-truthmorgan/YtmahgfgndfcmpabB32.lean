/- Texts of one proof, one behind the other: Tr11. -/
import Derived.Test.YtmahgfgndfcmpabB29
/- Walks: Value. -/
namespace Go.Proofs.Ytmahgfgndfcmpab
open Go.RowKit Go.Sort

/-- What Value says of its arguments. -/
def vcode (f : Fm) (l : List (List UInt8)) : Int × Int := if f.pcode.1 = 0 then (if 1000 < l.length then (2, 0) else if l.any (fun t => !isNm t) then (8, ((l.findIdx (fun t => !isNm t) : Nat) : Int)) else (0, 0)) else f.pcode

set_option maxHeartbeats 2000000 in
theorem value_bad (f : Fm) (l : List (List UInt8)) (v u : Value) (w : World) (hrep : Rep w (fun _ => True) f v) (hu : SL w u l) (c a : Int) (hc : c ≠ 0) (hcf : f.pcode = (c, a)) :
    Calls Try.prog 26 #[v, u] w fun e w' => e = .returned (.tuple #[.bool false, .agg #[.int .i64 c, .int .i64 a]]) ∧ Below w.heap.size w w' := by
  (have hck := fun v (w : World) h => plainFault_any f v w h); rw [hcf] at hck; (have hne' : (c != 0) = true := by simpa using hc); obtain ⟨k, n, ks⟩ := f; obtain ⟨sl, cap, rfl⟩ := slice_shape hrep; have HC : Hid (∀ v w, _ → Calls Try.prog 40 #[v] w _) := hck; have HU : Hid (SL w u l) := hu; obtain ⟨adL, cpL, rfl, hl1, hl2, -⟩ := hu; clear hck hcf
  go_enter Try.func26, Try.ntmps26
  go_wp2_with (first
    | (go_at_call 40
       refine (HC.out _ _ ((hrep.more _).more _)).mono ?_; rintro e w1 ⟨rfl, hb1⟩; have z1 := hb1.size; simp at z1; have q0 := below_keep hb1 (alloc_keep (blk_new w _) _); have q1 := below_keep hb1 (blk_new (w.alloc _) _); (rw [show (w.alloc _).heap.size = w.heap.size + 1 by simp] at q1); have B1 := below_join (below_more (below_more (Below.refl _ w) _) _) hb1; obtain ⟨k1, k2, k3, k4⟩ := blk2 q1; obtain ⟨a0, a1, a2, -⟩ := blk3 q0; have y0 : w.heap.size < w1.heap.size := lt_of_block q0; (have d1 : ¬ w.heap.size + 1 = w1.heap.size := by omega); (have d2 : ¬ w1.heap.size = w.heap.size + 1 := by omega)
       have d3 : w.heap.size + 1 < w1.heap.size := by omega)
    | fail)
  go_region
  all_goals go_wp2
  have f2 := set2 q1 (.int .i64 c) (.int .i64 a); (have b2 := (B1.setCell (p := ⟨w.heap.size + 1, 0, none⟩) (by simp) (.int .i64 c)).setCell (p := ⟨w.heap.size + 1, 1, none⟩) (by simp) (.int .i64 a)); (have hsz : ((w1.setCell ⟨w.heap.size + 1, 0, none⟩ (.int .i64 c)).setCell ⟨w.heap.size + 1, 1, none⟩ (.int .i64 a)).heap.size = w1.heap.size := by simp [World.setCell]); generalize World.setCell _ _ _ = F at f2 b2 hsz ⊢; clear k1 k2 k3 k4; obtain ⟨k1, k2, -⟩ := blk2 f2; (have d4 : w.heap.size + 1 < F.heap.size := by omega); (exact bodyPost_ret (v := .tuple #[.bool false, .agg #[.int .i64 c, .int .i64 a]]) (by simp [results, Try.results26, go_sem, k1, k2, d4]) rfl ⟨rfl, (b2.alloc (by omega) _).drew⟩)

set_option maxHeartbeats 2000000 in
theorem value_many (f : Fm) (l : List (List UInt8)) (v u : Value) (w : World) (hrep : Rep w (fun _ => True) f v) (hu : SL w u l) (hcf : f.pcode = (0, 0)) (hl : 1000 < l.length) :
    Calls Try.prog 26 #[v, u] w fun e w' => e = .returned (.tuple #[.bool false, .agg #[.int .i64 2, .int .i64 0]]) ∧ Below w.heap.size w w' := by
  (have hck := fun v (w : World) h => plainFault_any f v w h); rw [hcf] at hck; (have hlI : (1000 : Int) < (l.length : Int) := by omega); obtain ⟨k, n, ks⟩ := f; obtain ⟨sl, cap, rfl⟩ := slice_shape hrep; have HC : Hid (∀ v w, _ → Calls Try.prog 40 #[v] w _) := hck; have HU : Hid (SL w u l) := hu; obtain ⟨adL, cpL, rfl, hl1, hl2, -⟩ := hu; clear hck hcf
  go_enter Try.func26, Try.ntmps26
  go_wp2_with (first
    | (go_at_call 40
       refine (HC.out _ _ ((hrep.more _).more _)).mono ?_; rintro e w1 ⟨rfl, hb1⟩; have z1 := hb1.size; simp at z1; have q0 := below_keep hb1 (alloc_keep (blk_new w _) _); have q1 := below_keep hb1 (blk_new (w.alloc _) _); (rw [show (w.alloc _).heap.size = w.heap.size + 1 by simp] at q1); have B1 := below_join (below_more (below_more (Below.refl _ w) _) _) hb1; obtain ⟨k1, k2, k3, k4⟩ := blk2 q1; obtain ⟨a0, a1, a2, -⟩ := blk3 q0; have y0 : w.heap.size < w1.heap.size := lt_of_block q0; (have d1 : ¬ w.heap.size + 1 = w1.heap.size := by omega); (have d2 : ¬ w1.heap.size = w.heap.size + 1 := by omega)
       have d3 : w.heap.size + 1 < w1.heap.size := by omega)
    | fail)
  have f2 := set2 q1 (.int .i64 2) (.int .i64 0); (have b2 := (B1.setCell (p := ⟨w.heap.size + 1, 0, none⟩) (by simp) (.int .i64 2)).setCell (p := ⟨w.heap.size + 1, 1, none⟩) (by simp) (.int .i64 0)); (have hsz : ((w1.setCell ⟨w.heap.size + 1, 0, none⟩ (.int .i64 2)).setCell ⟨w.heap.size + 1, 1, none⟩ (.int .i64 0)).heap.size = w1.heap.size := by simp [World.setCell]); generalize World.setCell _ _ _ = F at f2 b2 hsz ⊢; clear k1 k2 k3 k4; obtain ⟨k1, k2, -⟩ := blk2 f2; (have d4 : w.heap.size + 1 < F.heap.size := by omega); (exact bodyPost_ret (v := .tuple #[.bool false, .agg #[.int .i64 2, .int .i64 0]]) (by simp [results, Try.results26, go_sem, k1, k2, d4]) rfl ⟨rfl, b2.alloc (by omega) _⟩)

set_option maxHeartbeats 2000000 in
theorem value_name (f : Fm) (l : List (List UInt8)) (v u : Value) (w : World) (hrep : Rep w (fun _ => True) f v) (hu : SL w u l) (hcf : f.pcode = (0, 0)) (hl : l.length ≤ 1000) (hmx : ∀ t ∈ l, t.length ≤ maxLen) (i : Nat) (hi : fIdxP (fun t => !isNm t) l = ((i : Nat) : Int)) :
    Calls Try.prog 26 #[v, u] w fun e w' => e = .returned (.tuple #[.bool false, .agg #[.int .i64 8, .int .i64 (i : Nat)]]) ∧ Below w.heap.size w w' := by
  (have hck := fun v (w : World) h => plainFault_any f v w h); rw [hcf] at hck; (have hix := fun v (w : World) h => idxFunc_str predNoName l hmx v w h trivial); rw [hi] at hix; have HI : Hid (∀ v w, SL w v l → Calls Try.prog 48 #[v, .func (.func 49) #[] #[]] w _) := hix; (have hlI : (l.length : Int) ≤ 1000 := by omega); clear hix hi; obtain ⟨k, n, ks⟩ := f; obtain ⟨sl, cap, rfl⟩ := slice_shape hrep; have HC : Hid (∀ v w, _ → Calls Try.prog 40 #[v] w _) := hck; have HU : Hid (SL w u l) := hu; obtain ⟨adL, cpL, rfl, hl1, hl2, -⟩ := hu; clear hck hcf
  go_enter Try.func26, Try.ntmps26
  go_wp2_with (first
    | (go_at_call 40
       refine (HC.out _ _ ((hrep.more _).more _)).mono ?_; rintro e w1 ⟨rfl, hb1⟩; have z1 := hb1.size; simp at z1; have q0 := below_keep hb1 (alloc_keep (blk_new w _) _); have q1 := below_keep hb1 (blk_new (w.alloc _) _); (rw [show (w.alloc _).heap.size = w.heap.size + 1 by simp] at q1); have B1 := below_join (below_more (below_more (Below.refl _ w) _) _) hb1; obtain ⟨k1, k2, k3, k4⟩ := blk2 q1; obtain ⟨a0, a1, a2, -⟩ := blk3 q0; have y0 : w.heap.size < w1.heap.size := lt_of_block q0; (have d1 : ¬ w.heap.size + 1 = w1.heap.size := by omega); (have d2 : ¬ w1.heap.size = w.heap.size + 1 := by omega)
       have d3 : w.heap.size + 1 < w1.heap.size := by omega)
    | (go_at_call 48
       refine (HI.out _ _ ((HU.out.up B1).up ((Below.refl _ _).alloc (Nat.le_refl _) _))).mono ?_; rintro e w2 ⟨rfl, hb2⟩; have r1 := below_keep hb2 (alloc_keep q1 _); have r0 := below_keep hb2 (alloc_keep q0 _); have B2 := below_join (below_more B1 _) hb2; have l1 := lt_of_block r1; have l0 := lt_of_block r0; clear k1 k2 k3 k4 a0 a1 a2; obtain ⟨a0, a1, a2, -⟩ := blk3 r0
       obtain ⟨k1, k2, k3, k4⟩ := blk2 r1)
    | fail)
  have f2 := set2 r1 (.int .i64 8) (.int .i64 (i : Nat)); (have b2 := (B2.setCell (p := ⟨w.heap.size + 1, 0, none⟩) (by simp) (.int .i64 8)).setCell (p := ⟨w.heap.size + 1, 1, none⟩) (by simp) (.int .i64 (i : Nat))); (have hsz : ((w2.setCell ⟨w.heap.size + 1, 0, none⟩ (.int .i64 8)).setCell ⟨w.heap.size + 1, 1, none⟩ (.int .i64 (i : Nat))).heap.size = w2.heap.size := by simp [World.setCell]); generalize World.setCell _ _ _ = F at f2 b2 hsz ⊢; clear k1 k2 k3 k4; obtain ⟨k1, k2, -⟩ := blk2 f2; (exact bodyPost_ret (v := .tuple #[.bool false, .agg #[.int .i64 8, .int .i64 (i : Nat)]]) (by simp [results, Try.results26, go_sem, k1, k2]) rfl ⟨rfl, b2⟩)

set_option maxHeartbeats 2000000 in
theorem value_yes (f : Fm) (l : List (List UInt8)) (v u : Value) (w : World) (hrep : Rep w (fun _ => True) f v) (hu : SL w u l) (hcf : f.pcode = (0, 0)) (hl : l.length ≤ 1000) (hmx : ∀ t ∈ l, t.length ≤ maxLen) (hi : l.any (fun t => !isNm t) = false) :
    Calls Try.prog 26 #[v, u] w fun e w' => e = .returned (.tuple #[.bool (tv (fun t => decide (t ∈ l)) f), .agg #[.int .i64 0, .int .i64 0]]) ∧ Below w.heap.size w w' := by
  (have hck := fun v (w : World) h => plainFault_any f v w h); rw [hcf] at hck; (have hix := fun v (w : World) h => idxFunc_str predNoName l hmx v w h trivial); (have hi1 : fIdxP (fun t => !isNm t) l = -1 := by unfold fIdxP; rw [hi]; rfl); rw [hi1] at hix
  have hsm : ∀ t ∈ l, t.length ≤ 8 := fun t ht => by
    have := List.any_eq_false.1 hi t ht; (have := isNm_bd (l := t) (by simpa using this)); omega
  (obtain ⟨⟨s, hs⟩, hpl, -⟩ := pcode_ok (f := f) (by rw [hcf])); (have htr := fun cb v (w : World) h o => isTrue_any (asksV cb l) f v w (fine_of_chk f 0 s hs) hpl h o); (generalize tv (fun t => decide (t ∈ l)) f = bb at *); have HI : Hid (∀ v w, SL w v l → Calls Try.prog 48 #[v, .func (.func 49) #[] #[]] w _) := hix; (have HPl : Hid (∀ v w, SL w v l → Calls Try.prog 50 #[v] w _) := fun v w h => placesOf_any l hl hsm v w h); (have HTr : Hid (∀ cb v w, Rep w (fun _ => True) f v → OkV cb l w → Calls Try.prog 52 _ w _) := htr); (have hmf : ∀ (fn : Fn) (first cap : Array Value) (w : World), (Instr.makeFunc fn first cap).run Try.prog w = .ok (.func fn first cap) w := fun _ _ _ _ => rfl); (have hlI : (l.length : Int) ≤ 1000 := by omega); clear hix hi hi1 htr hsm hs; obtain ⟨k, n, ks⟩ := f; obtain ⟨sl, cap, rfl⟩ := slice_shape hrep; have HC : Hid (∀ v w, _ → Calls Try.prog 40 #[v] w _) := hck; have HU : Hid (SL w u l) := hu; obtain ⟨adL, cpL, rfl, hl1, hl2, -⟩ := hu; clear hck hcf
  go_enter Try.func26, Try.ntmps26
  go_wp2_with (first
    | (go_at_call 40
       refine (HC.out _ _ ((hrep.more _).more _)).mono ?_; rintro e w1 ⟨rfl, hb1⟩; have z1 := hb1.size; simp at z1; have q0 := below_keep hb1 (alloc_keep (blk_new w _) _); have q1 := below_keep hb1 (blk_new (w.alloc _) _); (rw [show (w.alloc _).heap.size = w.heap.size + 1 by simp] at q1); have B1 := below_join (below_more (below_more (Below.refl _ w) _) _) hb1; obtain ⟨k1, k2, k3, k4⟩ := blk2 q1; obtain ⟨a0, a1, a2, -⟩ := blk3 q0; have y0 : w.heap.size < w1.heap.size := lt_of_block q0; (have d1 : ¬ w.heap.size + 1 = w1.heap.size := by omega); (have d2 : ¬ w1.heap.size = w.heap.size + 1 := by omega)
       have d3 : w.heap.size + 1 < w1.heap.size := by omega)
    | (go_at_call 48
       refine (HI.out _ _ ((HU.out.up B1).up ((Below.refl _ _).alloc (Nat.le_refl _) _))).mono ?_; rintro e w2 ⟨rfl, hb2⟩; have r1 := below_keep hb2 (alloc_keep q1 _); have r0 := below_keep hb2 (alloc_keep q0 _); have B2 := below_join (below_more B1 _) hb2; have l1 := lt_of_block r1; have l0 := lt_of_block r0; clear k1 k2 k3 k4 a0 a1 a2; obtain ⟨a0, a1, a2, -⟩ := blk3 r0
       obtain ⟨k1, k2, k3, k4⟩ := blk2 r1)
    | (go_at_call 50
       refine (HPl.out _ _ (HU.out.up B2)).mono ?_; rintro e w3 ⟨rfl, hpm, hb3⟩; have HPM : Hid (PM w3 w2.heap.size l) := hpm; have s1 := below_keep hb3 r1; have s0 := below_keep hb3 r0; have B3 := below_join B2 hb3; have m1 := lt_of_block s1; have m0 := lt_of_block s0; clear k1 k2 k3 k4 a0 a1 a2 hpm; obtain ⟨a0, a1, a2, -⟩ := blk3 s0
       obtain ⟨k1, k2, k3, k4⟩ := blk2 s1)
    | (go_at_call 52
       refine (HTr.out w3.heap.size _ _ (hrep.up (below_more B3 _)) ⟨w2.heap.size, blk_new _ _, HPM.out.up ((Below.refl _ _).alloc (Nat.le_refl _) _)⟩).mono ?_; rintro e w4 ⟨rfl, hb4⟩; have t1 := below_keep hb4 (alloc_keep s1 _); have B4 := below_join (below_more B3 _) hb4; have n1 := lt_of_block t1; clear k1 k2 k3 k4 a0 a1 a2
       obtain ⟨k1, k2, k3, k4⟩ := blk2 t1)
    | fail)
  have f2 := set2 t1 (.int .i64 0) (.int .i64 0); (have b2 := (B4.setCell (p := ⟨w.heap.size + 1, 0, none⟩) (by simp) (.int .i64 0)).setCell (p := ⟨w.heap.size + 1, 1, none⟩) (by simp) (.int .i64 0)); (have hsz : ((w4.setCell ⟨w.heap.size + 1, 0, none⟩ (.int .i64 0)).setCell ⟨w.heap.size + 1, 1, none⟩ (.int .i64 0)).heap.size = w4.heap.size := by simp [World.setCell]); generalize World.setCell _ _ _ = F at f2 b2 hsz ⊢; clear k1 k2 k3 k4; obtain ⟨k1, k2, -⟩ := blk2 f2; (exact bodyPost_ret (v := .tuple #[.bool bb, .agg #[.int .i64 0, .int .i64 0]]) (by simp [results, Try.results26, go_sem, k1, k2]) rfl ⟨rfl, b2⟩)

theorem value_any (f : Fm) (l : List (List UInt8)) (hmx : ∀ t ∈ l, t.length ≤ maxLen) (v u : Value) (w : World) (hrep : Rep w (fun _ => True) f v) (hu : SL w u l) :
    Calls Try.prog 26 #[v, u] w fun e w' => e = .returned (.tuple #[.bool (decide ((vcode f l).1 = 0) && tv (fun t => decide (t ∈ l)) f), .agg #[.int .i64 (vcode f l).1, .int .i64 (vcode f l).2]]) ∧ Below w.heap.size w w' := by
  unfold vcode; by_cases hp : f.pcode.1 = 0
  · have hp' := (pcode_ok hp).2.2
    rw [if_pos hp]; by_cases hl : 1000 < l.length
    · rw [if_pos hl]
      exact value_many f l v u w hrep hu hp' hl
    · rw [if_neg hl]
      rcases hi : l.any (fun t => !isNm t) with _ | _
      · simp only [Bool.false_eq_true, if_false]
        (exact value_yes f l v u w hrep hu hp' (by omega) hmx hi)
      · simp only [if_true]
        (exact value_name f l v u w hrep hu hp' (by omega) hmx _ (if_pos hi))
  · rw [if_neg hp]
    have := value_bad f l v u w hrep hu f.pcode.1 f.pcode.2 hp rfl; rw [decide_eq_false hp]; exact this
end Go.Proofs.Ytmahgfgndfcmpab
