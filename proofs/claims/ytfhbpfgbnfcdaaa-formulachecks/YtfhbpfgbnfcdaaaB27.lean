/- Texts of one proof, one behind the other: Checks1. -/
import Derived.Test.YtfhbpfgbnfcdaaaB26
/- Walks: FormulaChecks. -/
namespace Go.Proofs.Ytfhbpfgbnfcdaaa
open Go.RowKit

set_option maxHeartbeats 4000000 in
theorem checks_bad (f : Fm) (v : Value) (w : World) (hrep : Rep w (fun _ => True) f v) (c : Int) (a : Nat) (hc : chk f 0 = .bad c a) :
    Calls Try.prog 3 #[v] w fun e w' => e = .returned (.bool true) ∧ Below w.heap.size w w' := by
  (have hck := fun v (w : World) h => check_any f v w h); (have hrf := fun v (w : World) h => rfault_any f v w h); (have hcode : f.code = (c, (a : Int)) := by simp only [Fm.code, hc]); rw [hcode] at hck hrf; (have hpr := fun v w h => print_bad f v w h c a hc); (have hva := fun v w h => vast2_any f v w h); (have how := fun v w hs h => own_any f v w hs h); (have hsa := fun v u w h1 h2 => same_self f v u w h1 h2); (have hne' : (c != 0) = true := by simpa using chk_code f 0 c a hc); obtain ⟨k, n, ks⟩ := f; obtain ⟨sl, cap, rfl⟩ := slice_shape hrep; have H1 : Hid (∀ v w, _ → Calls Try.prog 12 #[v] w _) := hck; have H2 : Hid (∀ v w, _ → Calls Try.prog 14 #[v] w _) := hrf; have H3 : Hid (∀ v w, _ → Calls Try.prog 13 #[v] w _) := hpr; have H4 : Hid (∀ v w, _ → Calls Try.prog 10 _ w _) := hva; have H5 : Hid (∀ v w, _ → _ → Calls Try.prog 11 _ w _) := how; have H6 : Hid (∀ v u w, _ → _ → Calls Try.prog 15 #[v, u] w _) := hsa; clear hck hrf hpr hva how hsa hcode hc
  go_enter Try.func3, Try.ntmps3
  go_wp2_with (first
    | (go_at_call 9
       refine (begun_any _).mono ?_; rintro e w1 ⟨rfl, hb1⟩; have q1 := below_keep hb1 (blk_new _ _); have B1 := below_join ((Below.refl _ w).alloc (Nat.le_refl _) _) hb1; have R1 := hrep.up B1
       obtain ⟨a1, a2, a3, -⟩ := blk3 q1)
    | (go_at_call 10
       refine (H4.out _ _ R1).mono ?_; rintro e w2 ⟨⟨bb, rfl, hsl⟩, hb2⟩; have B2 := below_join B1 hb2; have q2 := below_keep hb2 q1; have R2 := R1.up hb2; have HSl : Hid (bb = false → Slim (.mk k n ks)) := hsl; clear hsl a1 a2 a3; obtain ⟨b1, b2, b3, -⟩ := blk3 q2
       cases bb)
    | (go_at_call 11
       (refine (H5.out _ _ (by simpa using HSl.out) R2).mono ?_); rintro e w3 ⟨u, rfl, hrep3, hb3⟩; obtain ⟨sl3, cap3, rfl⟩ := slice_shape hrep3; have B3 := below_join B2 hb3; have q3 := below_keep hb3 q2; have R3 := R2.up hb3
       clear b1 b2 b3)
    | (go_at_call 12
       refine (H1.out _ _ (hrep3.all.more _)).mono ?_; rintro e w4 ⟨rfl, hb4⟩; have B4 := below_join (below_more B3 _) hb4; have q4 := below_keep hb4 (alloc_keep q3 _); have x4 := below_keep hb4 (blk_new _ _); have R4 := (R3.more _).up hb4; have X4 := (hrep3.all.more _).up hb4; have z4 := lt_of_block x4
       obtain ⟨c1, c2, c3, -⟩ := blk3 x4)
    | (go_at_call 13
       refine (H3.out _ _ (X4.more _)).mono ?_; rintro e w5 ⟨rfl, hb5⟩; have B5 := below_join (below_more B4 _) hb5; have q5 := below_keep hb5 (alloc_keep q4 _); have x5 := below_keep hb5 (alloc_keep x4 _); have y5 := below_keep hb5 (blk_new _ _); have R5 := (R4.more _).up hb5; have X5 := (X4.more _).up hb5; have z5 := lt_of_block q5
       obtain ⟨b1, b2, b3, -⟩ := blk3 q5)
    | (go_at_call 14
       refine (H2.out _ _ (R5.more _)).mono ?_; rintro e w6 ⟨rfl, hb6⟩; have B6 := below_join (below_more B5 _) hb6; have q6 := below_keep hb6 (alloc_keep q5 _); have x6 := below_keep hb6 (alloc_keep x5 _); have y6 := below_keep hb6 (alloc_keep y5 _); have y7 := below_keep hb6 (blk_new _ _); have R6 := (R5.more _).up hb6; have X6 := (X5.more _).up hb6; have z6 := lt_of_block q6; have z7 := lt_of_block x6; have z8 := lt_of_block y6; have z9 := lt_of_block y7; clear b1 b2 b3 c1 c2 c3; obtain ⟨b1, b2, b3, -⟩ := blk3 q6; obtain ⟨c1, c2, c3, -⟩ := blk3 x6; obtain ⟨d1, d2, -⟩ := blk2 y6
       obtain ⟨i1, i2, -⟩ := blk2 y7)
    | (go_at_call 15
       refine (H6.out _ _ _ (X6.more _) (R6.more _)).mono ?_; rintro e w7 ⟨rfl, hb7⟩; have B7 := below_join (below_more B6 _) hb7; have j7 := below_keep hb7 (blk_new _ _)
       obtain ⟨j1, j2, -⟩ := blk2 j7)
    | fail)
  · go_ret
    exact ⟨rfl, B7⟩
  · go_ret
    exact ⟨rfl, B2⟩

set_option maxHeartbeats 4000000 in
theorem checks_ok (f : Fm) (v : Value) (w : World) (hrep : Rep w (fun _ => True) f v) (s : Nat) (hc : chk f 0 = .ok s) :
    Calls Try.prog 3 #[v] w fun e w' => e = .returned (.bool true) ∧ Below w.heap.size w w' := by
  (have hck := fun v (w : World) h => check_any f v w h); (have hrf := fun v (w : World) h => rfault_any f v w h); (have hcode : f.code = (0, 0) := by simp only [Fm.code, hc]); rw [hcode] at hck hrf; (have hpr := fun v w h => print_ok f v w h s hc); have hwr := written_any f s hc; (have hva := fun v w h => vast2_any f v w h); (have how := fun v w hs h => own_any f v w hs h); (have hsa := fun v u w h1 h2 => same_self f v u w h1 h2); obtain ⟨k, n, ks⟩ := f; obtain ⟨sl, cap, rfl⟩ := slice_shape hrep; have H1 : Hid (∀ v w, _ → Calls Try.prog 12 #[v] w _) := hck; have H2 : Hid (∀ v w, _ → Calls Try.prog 14 #[v] w _) := hrf; have H3 : Hid (∀ v w, _ → Calls Try.prog 13 #[v] w _) := hpr; have H4 : Hid (∀ v w, _ → Calls Try.prog 10 _ w _) := hva; have H5 : Hid (∀ v w, _ → _ → Calls Try.prog 11 _ w _) := how; have H6 : Hid (∀ v u w, _ → _ → Calls Try.prog 15 #[v, u] w _) := hsa; (have H7 : Hid (∀ v w, _ → Calls Try.prog 16 #[v] w fun e w' => e = .returned (.string ⟨(pr 0 (.mk k n ks)).toArray⟩) ∧ Below w.heap.size w w') := hwr); clear hck hrf hpr hva how hsa hcode hc hwr; generalize pr 0 (.mk k n ks) = out at *
  go_enter Try.func3, Try.ntmps3
  go_wp2_with (first
    | (go_at_call 9
       refine (begun_any _).mono ?_; rintro e w1 ⟨rfl, hb1⟩; have q1 := below_keep hb1 (blk_new _ _); have B1 := below_join ((Below.refl _ w).alloc (Nat.le_refl _) _) hb1; have R1 := hrep.up B1
       obtain ⟨a1, a2, a3, -⟩ := blk3 q1)
    | (go_at_call 10
       refine (H4.out _ _ R1).mono ?_; rintro e w2 ⟨⟨bb, rfl, hsl⟩, hb2⟩; have B2 := below_join B1 hb2; have q2 := below_keep hb2 q1; have R2 := R1.up hb2; have HSl : Hid (bb = false → Slim (.mk k n ks)) := hsl; clear hsl a1 a2 a3; obtain ⟨b1, b2, b3, -⟩ := blk3 q2
       cases bb)
    | (go_at_call 11
       (refine (H5.out _ _ (by simpa using HSl.out) R2).mono ?_); rintro e w3 ⟨u, rfl, hrep3, hb3⟩; obtain ⟨sl3, cap3, rfl⟩ := slice_shape hrep3; have B3 := below_join B2 hb3; have q3 := below_keep hb3 q2; have R3 := R2.up hb3
       clear b1 b2 b3)
    | (go_at_call 12
       refine (H1.out _ _ (hrep3.all.more _)).mono ?_; rintro e w4 ⟨rfl, hb4⟩; have B4 := below_join (below_more B3 _) hb4; have q4 := below_keep hb4 (alloc_keep q3 _); have x4 := below_keep hb4 (blk_new _ _); have R4 := (R3.more _).up hb4; have X4 := (hrep3.all.more _).up hb4; have z4 := lt_of_block x4
       obtain ⟨c1, c2, c3, -⟩ := blk3 x4)
    | (go_at_call 13
       refine (H3.out _ _ (X4.more _)).mono ?_; rintro e w5 ⟨rfl, hb5⟩; have B5 := below_join (below_more B4 _) hb5; have q5 := below_keep hb5 (alloc_keep q4 _); have x5 := below_keep hb5 (alloc_keep x4 _); have y5 := below_keep hb5 (blk_new _ _); have R5 := (R4.more _).up hb5; have X5 := (X4.more _).up hb5; have z5 := lt_of_block q5
       obtain ⟨b1, b2, b3, -⟩ := blk3 q5)
    | (go_at_call 14
       refine (H2.out _ _ (R5.more _)).mono ?_; rintro e w6 ⟨rfl, hb6⟩; have B6 := below_join (below_more B5 _) hb6; have q6 := below_keep hb6 (alloc_keep q5 _); have x6 := below_keep hb6 (alloc_keep x5 _); have y6 := below_keep hb6 (alloc_keep y5 _); have y7 := below_keep hb6 (blk_new _ _); have R6 := (R5.more _).up hb6; have X6 := (X5.more _).up hb6; have z6 := lt_of_block q6; have z7 := lt_of_block x6; have z8 := lt_of_block y6; have z9 := lt_of_block y7; clear b1 b2 b3 c1 c2 c3; obtain ⟨b1, b2, b3, -⟩ := blk3 q6; obtain ⟨c1, c2, c3, -⟩ := blk3 x6; obtain ⟨d1, d2, -⟩ := blk2 y6
       obtain ⟨i1, i2, -⟩ := blk2 y7)
    | (go_at_call 15
       refine (H6.out _ _ _ (X6.more _) (R6.more _)).mono ?_; rintro e w7 ⟨rfl, hb7⟩; have B7 := below_join (below_more B6 _) hb7; have j7 := below_keep hb7 (blk_new _ _); have q7 := below_keep hb7 (alloc_keep q6 _); have R7 := (R6.more _).up hb7; clear b1 b2 b3; obtain ⟨b1, b2, b3, -⟩ := blk3 q7
       obtain ⟨j1, j2, -⟩ := blk2 j7)
    | (go_at_call 16
       refine (H7.out _ _ R7).mono ?_; rintro e w8 ⟨rfl, hb8⟩
       have B8 := below_join B7 hb8)
    | fail)
  · go_ret
    exact ⟨rfl, B8⟩
  · go_ret
    exact ⟨rfl, B2⟩

theorem checks_any (f : Fm) (v : Value) (w : World) (hrep : Rep w (fun _ => True) f v) :
    Calls Try.prog 3 #[v] w fun e w' => e = .returned (.bool true) ∧ Below w.heap.size w w' := by
  rcases hc : chk f 0 with s | ⟨c, a⟩
  · exact checks_ok f v w hrep s hc
  · exact checks_bad f v w hrep c a hc
end Go.Proofs.Ytfhbpfgbnfcdaaa
