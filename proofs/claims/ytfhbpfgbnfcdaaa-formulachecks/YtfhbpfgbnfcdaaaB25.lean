/- Texts of one proof, one behind the other: Written2. -/
import Derived.Test.YtfhbpfgbnfcdaaaB24
/- Walks: a formula as the yardstick writes it, kind by kind. -/
namespace Go.Proofs.Ytfhbpfgbnfcdaaa
open Go.RowKit

set_option maxHeartbeats 1000000 in
theorem wr_name (n : ByteArray) (v : Value) (w : World) (hrep : Rep w (fun _ => True) (.mk 1 n []) v) :
    Calls Try.prog 16 #[v] w fun e w' => e = .returned (.string n) ∧ Below w.heap.size w w' := by
  obtain ⟨sl, cap, rfl⟩ := slice_shape hrep; clear hrep; have B := (Below.refl w.heap.size w).alloc (Nat.le_refl _)
  go_enter Try.func16, Try.ntmps16
  go_wp2_with fail; go_ret; exact ⟨rfl, B _⟩

set_option maxHeartbeats 1000000 in
theorem wr_leaf2 (n : ByteArray) (v : Value) (w : World) (hrep : Rep w (fun _ => True) (.mk 2 n []) v) :
    Calls Try.prog 16 #[v] w fun e w' => e = .returned (.string ⟨#[49]⟩) ∧ Below w.heap.size w w' := by
  obtain ⟨sl, cap, rfl⟩ := slice_shape hrep; clear hrep; have B := (Below.refl w.heap.size w).alloc (Nat.le_refl _)
  go_enter Try.func16, Try.ntmps16
  go_wp2_with fail; go_ret; exact ⟨rfl, B _⟩

set_option maxHeartbeats 1000000 in
theorem wr_leaf3 (n : ByteArray) (v : Value) (w : World) (hrep : Rep w (fun _ => True) (.mk 3 n []) v) :
    Calls Try.prog 16 #[v] w fun e w' => e = .returned (.string ⟨#[48]⟩) ∧ Below w.heap.size w w' := by
  obtain ⟨sl, cap, rfl⟩ := slice_shape hrep; clear hrep; have B := (Below.refl w.heap.size w).alloc (Nat.le_refl _)
  go_enter Try.func16, Try.ntmps16
  go_wp2_with fail; go_ret; exact ⟨rfl, B _⟩

set_option maxHeartbeats 1000000 in
theorem wr_un4 (g : Fm) (S : ByteArray) (hS : S.size ≤ 20000) (v : Value) (w : World) (hrep : Rep w (fun _ => True) (.mk 4 e0 [g]) v)
    (hi : ∀ v w, Rep w (fun _ => True) (.mk 4 e0 [g]) v → Calls Try.prog 47 #[v, .int .i64 0, .string ⟨#[126]⟩, .string ⟨#[]⟩] w fun e w' => e = .returned (.string S) ∧ Below w.heap.size w w') :
    Calls Try.prog 16 #[v] w fun e w' => e = .returned (.string (⟨#[126]⟩ ++ S)) ∧ Below w.heap.size w w' := by
  have HI : Hid (∀ v w, _ → Calls Try.prog 47 _ w _) := hi; obtain ⟨sl, cap, rfl⟩ := slice_shape hrep; have R := hrep.more (.cells #[.int .i64 4, .string e0, .slice sl [g].length cap] 24 (0, 0)); have HR : Hid (Rep _ _ _ _) := R; have B := (Below.refl w.heap.size w).alloc (Nat.le_refl _); clear hi hrep R
  go_enter Try.func16, Try.ntmps16
  go_wp2_with (first
    | (go_at_call 47
       refine (HI.out _ _ HR.out).mono ?_; rintro e w1 ⟨rfl, hb1⟩
       have B1 := below_join (B _) hb1)
    | fail)
  go_ret; exact ⟨rfl, B1⟩

set_option maxHeartbeats 1000000 in
theorem wr_un8 (g : Fm) (S : ByteArray) (hS : S.size ≤ 20000) (v : Value) (w : World) (hrep : Rep w (fun _ => True) (.mk 8 e0 [g]) v)
    (hi : ∀ v w, Rep w (fun _ => True) (.mk 8 e0 [g]) v → Calls Try.prog 47 #[v, .int .i64 0, .string ⟨#[91, 93]⟩, .string ⟨#[]⟩] w fun e w' => e = .returned (.string S) ∧ Below w.heap.size w w') :
    Calls Try.prog 16 #[v] w fun e w' => e = .returned (.string (⟨#[91, 93]⟩ ++ S)) ∧ Below w.heap.size w w' := by
  have HI : Hid (∀ v w, _ → Calls Try.prog 47 _ w _) := hi; obtain ⟨sl, cap, rfl⟩ := slice_shape hrep; have R := hrep.more (.cells #[.int .i64 8, .string e0, .slice sl [g].length cap] 24 (0, 0)); have HR : Hid (Rep _ _ _ _) := R; have B := (Below.refl w.heap.size w).alloc (Nat.le_refl _); clear hi hrep R
  go_enter Try.func16, Try.ntmps16
  go_wp2_with (first
    | (go_at_call 47
       refine (HI.out _ _ HR.out).mono ?_; rintro e w1 ⟨rfl, hb1⟩
       have B1 := below_join (B _) hb1)
    | fail)
  go_ret; exact ⟨rfl, B1⟩

set_option maxHeartbeats 1000000 in
theorem wr_un9 (g : Fm) (S : ByteArray) (hS : S.size ≤ 20000) (v : Value) (w : World) (hrep : Rep w (fun _ => True) (.mk 9 e0 [g]) v)
    (hi : ∀ v w, Rep w (fun _ => True) (.mk 9 e0 [g]) v → Calls Try.prog 47 #[v, .int .i64 0, .string ⟨#[60, 62]⟩, .string ⟨#[]⟩] w fun e w' => e = .returned (.string S) ∧ Below w.heap.size w w') :
    Calls Try.prog 16 #[v] w fun e w' => e = .returned (.string (⟨#[60, 62]⟩ ++ S)) ∧ Below w.heap.size w w' := by
  have HI : Hid (∀ v w, _ → Calls Try.prog 47 _ w _) := hi; obtain ⟨sl, cap, rfl⟩ := slice_shape hrep; have R := hrep.more (.cells #[.int .i64 9, .string e0, .slice sl [g].length cap] 24 (0, 0)); have HR : Hid (Rep _ _ _ _) := R; have B := (Below.refl w.heap.size w).alloc (Nat.le_refl _); clear hi hrep R
  go_enter Try.func16, Try.ntmps16
  go_wp2_with (first
    | (go_at_call 47
       refine (HI.out _ _ HR.out).mono ?_; rintro e w1 ⟨rfl, hb1⟩
       have B1 := below_join (B _) hb1)
    | fail)
  go_ret; exact ⟨rfl, B1⟩

set_option maxHeartbeats 2000000 in
theorem wr_two5 (g h : Fm) (S T : ByteArray) (hS : S.size ≤ 20000) (hT : T.size ≤ 20000) (v : Value) (w : World) (hrep : Rep w (fun _ => True) (.mk 5 e0 [g, h]) v)
    (hi : ∀ v w, Rep w (fun _ => True) (.mk 5 e0 [g, h]) v → Calls Try.prog 47 #[v, .int .i64 0, .string ⟨#[]⟩, .string (⟨#[32, 38, 32]⟩ ++ ⟨#[97]⟩)] w fun e w' => e = .returned (.string S) ∧ Below w.heap.size w w')
    (hj : ∀ v w, Rep w (fun _ => True) (.mk 5 e0 [g, h]) v → Calls Try.prog 47 #[v, .int .i64 1, .string (⟨#[97]⟩ ++ ⟨#[32, 38, 32]⟩), .string ⟨#[]⟩] w fun e w' => e = .returned (.string T) ∧ Below w.heap.size w w') :
    Calls Try.prog 16 #[v] w fun e w' => e = .returned (.string (S ++ ⟨#[32, 38, 32]⟩ ++ T)) ∧ Below w.heap.size w w' := by
  have HI : Hid (∀ v w, _ → Calls Try.prog 47 _ w _) := hi; have HJ : Hid (∀ v w, _ → Calls Try.prog 47 _ w _) := hj; obtain ⟨sl, cap, rfl⟩ := slice_shape hrep; have R := hrep.more (.cells #[.int .i64 5, .string e0, .slice sl [g, h].length cap] 24 (0, 0)); have HR : Hid (Rep _ _ _ _) := R; have B := (Below.refl w.heap.size w).alloc (Nat.le_refl _); clear hi hj hrep R
  go_enter Try.func16, Try.ntmps16
  go_wp2_with fail; have q0 := blk_new w (.cells #[.int .i64 5, .string e0, .slice sl 2 cap] 24 (0, 0)); have B0 := B (.cells #[.int .i64 5, .string e0, .slice sl 2 cap] 24 (0, 0)); (have HR0 : Hid (Rep (w.alloc (.cells #[.int .i64 5, .string e0, .slice sl 2 cap] 24 (0, 0))) (fun _ => True) (.mk 5 e0 [g, h]) (.agg #[.int .i64 5, .string e0, .slice sl 2 cap])) := HR.out); clear HR B; generalize w.alloc (.cells #[.int .i64 5, .string e0, .slice sl 2 cap] 24 (0, 0)) = w0 at *; obtain ⟨c0, c1, c2, -⟩ := blk3 q0; have z0 := lt_of_block q0; (have hA : ¬ 9223372036854775807 < S.size + 3 := by omega); (have hB : ¬ 9223372036854775807 < S.size + 3 + T.size := by omega)
  go_region_held3 (fun w' => w'.cell? ⟨w.heap.size, 0, none⟩ = some (.int .i64 5) ∧ w'.cell? ⟨w.heap.size, 1, none⟩ = some (.string e0) ∧ w'.cell? ⟨w.heap.size, 2, none⟩ = some (.slice sl 2 cap)) (go_keep)
    (first
     | (go_at_call 47
        have R2 := R1.out; refine (HJ.out _ _ R2).mono ?_; rintro e w2 ⟨rfl, hb2⟩; have q2 := below_keep hb2 q1; have B2 := below_join B1 hb2
        obtain ⟨d3, d4, d5, -⟩ := blk3 q2)
     | (go_at_call 47
        refine (HI.out _ _ (HR0.out.up (Below.refl _ _).drew)).mono ?_; rintro e w1 ⟨rfl, hb1⟩; have hb1' : Below w0.heap.size w0 w1 := (Below.refl _ w0).drew.trans hb1; clear hb1; have q1 := below_keep hb1' q0; have R1 : Hid (Rep _ _ _ _) := HR0.out.up hb1'; have B1 := below_join B0 hb1'; have z1 := lt_of_block q1
        obtain ⟨d0, d1, d2, -⟩ := blk3 q1)
     | fail)
  go_wp2_with fail; go_ret; exact ⟨rfl, B2⟩

set_option maxHeartbeats 2000000 in
theorem wr_two6 (g h : Fm) (S T : ByteArray) (hS : S.size ≤ 20000) (hT : T.size ≤ 20000) (v : Value) (w : World) (hrep : Rep w (fun _ => True) (.mk 6 e0 [g, h]) v)
    (hi : ∀ v w, Rep w (fun _ => True) (.mk 6 e0 [g, h]) v → Calls Try.prog 47 #[v, .int .i64 0, .string ⟨#[]⟩, .string (⟨#[32, 124, 32]⟩ ++ ⟨#[97]⟩)] w fun e w' => e = .returned (.string S) ∧ Below w.heap.size w w')
    (hj : ∀ v w, Rep w (fun _ => True) (.mk 6 e0 [g, h]) v → Calls Try.prog 47 #[v, .int .i64 1, .string (⟨#[97]⟩ ++ ⟨#[32, 124, 32]⟩), .string ⟨#[]⟩] w fun e w' => e = .returned (.string T) ∧ Below w.heap.size w w') :
    Calls Try.prog 16 #[v] w fun e w' => e = .returned (.string (S ++ ⟨#[32, 124, 32]⟩ ++ T)) ∧ Below w.heap.size w w' := by
  have HI : Hid (∀ v w, _ → Calls Try.prog 47 _ w _) := hi; have HJ : Hid (∀ v w, _ → Calls Try.prog 47 _ w _) := hj; obtain ⟨sl, cap, rfl⟩ := slice_shape hrep; have R := hrep.more (.cells #[.int .i64 6, .string e0, .slice sl [g, h].length cap] 24 (0, 0)); have HR : Hid (Rep _ _ _ _) := R; have B := (Below.refl w.heap.size w).alloc (Nat.le_refl _); clear hi hj hrep R
  go_enter Try.func16, Try.ntmps16
  go_wp2_with fail; have q0 := blk_new w (.cells #[.int .i64 6, .string e0, .slice sl 2 cap] 24 (0, 0)); have B0 := B (.cells #[.int .i64 6, .string e0, .slice sl 2 cap] 24 (0, 0)); (have HR0 : Hid (Rep (w.alloc (.cells #[.int .i64 6, .string e0, .slice sl 2 cap] 24 (0, 0))) (fun _ => True) (.mk 6 e0 [g, h]) (.agg #[.int .i64 6, .string e0, .slice sl 2 cap])) := HR.out); clear HR B; generalize w.alloc (.cells #[.int .i64 6, .string e0, .slice sl 2 cap] 24 (0, 0)) = w0 at *; obtain ⟨c0, c1, c2, -⟩ := blk3 q0; have z0 := lt_of_block q0; (have hA : ¬ 9223372036854775807 < S.size + 3 := by omega); (have hB : ¬ 9223372036854775807 < S.size + 3 + T.size := by omega)
  go_region_held3 (fun w' => w'.cell? ⟨w.heap.size, 0, none⟩ = some (.int .i64 6) ∧ w'.cell? ⟨w.heap.size, 1, none⟩ = some (.string e0) ∧ w'.cell? ⟨w.heap.size, 2, none⟩ = some (.slice sl 2 cap)) (go_keep)
    (first
     | (go_at_call 47
        have R2 := R1.out; refine (HJ.out _ _ R2).mono ?_; rintro e w2 ⟨rfl, hb2⟩; have q2 := below_keep hb2 q1; have B2 := below_join B1 hb2
        obtain ⟨d3, d4, d5, -⟩ := blk3 q2)
     | (go_at_call 47
        refine (HI.out _ _ (HR0.out.up (Below.refl _ _).drew)).mono ?_; rintro e w1 ⟨rfl, hb1⟩; have hb1' : Below w0.heap.size w0 w1 := (Below.refl _ w0).drew.trans hb1; clear hb1; have q1 := below_keep hb1' q0; have R1 : Hid (Rep _ _ _ _) := HR0.out.up hb1'; have B1 := below_join B0 hb1'; have z1 := lt_of_block q1
        obtain ⟨d0, d1, d2, -⟩ := blk3 q1)
     | fail)
  go_wp2_with fail; go_ret; exact ⟨rfl, B2⟩

set_option maxHeartbeats 2000000 in
theorem wr_two7 (g h : Fm) (S T : ByteArray) (hS : S.size ≤ 20000) (hT : T.size ≤ 20000) (v : Value) (w : World) (hrep : Rep w (fun _ => True) (.mk 7 e0 [g, h]) v)
    (hi : ∀ v w, Rep w (fun _ => True) (.mk 7 e0 [g, h]) v → Calls Try.prog 47 #[v, .int .i64 0, .string ⟨#[]⟩, .string (⟨#[32, 45, 62, 32]⟩ ++ ⟨#[97]⟩)] w fun e w' => e = .returned (.string S) ∧ Below w.heap.size w w')
    (hj : ∀ v w, Rep w (fun _ => True) (.mk 7 e0 [g, h]) v → Calls Try.prog 47 #[v, .int .i64 1, .string (⟨#[97]⟩ ++ ⟨#[32, 45, 62, 32]⟩), .string ⟨#[]⟩] w fun e w' => e = .returned (.string T) ∧ Below w.heap.size w w') :
    Calls Try.prog 16 #[v] w fun e w' => e = .returned (.string (S ++ ⟨#[32, 45, 62, 32]⟩ ++ T)) ∧ Below w.heap.size w w' := by
  have HI : Hid (∀ v w, _ → Calls Try.prog 47 _ w _) := hi; have HJ : Hid (∀ v w, _ → Calls Try.prog 47 _ w _) := hj; obtain ⟨sl, cap, rfl⟩ := slice_shape hrep; have R := hrep.more (.cells #[.int .i64 7, .string e0, .slice sl [g, h].length cap] 24 (0, 0)); have HR : Hid (Rep _ _ _ _) := R; have B := (Below.refl w.heap.size w).alloc (Nat.le_refl _); clear hi hj hrep R
  go_enter Try.func16, Try.ntmps16
  go_wp2_with fail; have q0 := blk_new w (.cells #[.int .i64 7, .string e0, .slice sl 2 cap] 24 (0, 0)); have B0 := B (.cells #[.int .i64 7, .string e0, .slice sl 2 cap] 24 (0, 0)); (have HR0 : Hid (Rep (w.alloc (.cells #[.int .i64 7, .string e0, .slice sl 2 cap] 24 (0, 0))) (fun _ => True) (.mk 7 e0 [g, h]) (.agg #[.int .i64 7, .string e0, .slice sl 2 cap])) := HR.out); clear HR B; generalize w.alloc (.cells #[.int .i64 7, .string e0, .slice sl 2 cap] 24 (0, 0)) = w0 at *; obtain ⟨c0, c1, c2, -⟩ := blk3 q0; have z0 := lt_of_block q0; (have hA : ¬ 9223372036854775807 < S.size + 4 := by omega); (have hB : ¬ 9223372036854775807 < S.size + 4 + T.size := by omega)
  go_region_held3 (fun w' => w'.cell? ⟨w.heap.size, 0, none⟩ = some (.int .i64 7) ∧ w'.cell? ⟨w.heap.size, 1, none⟩ = some (.string e0) ∧ w'.cell? ⟨w.heap.size, 2, none⟩ = some (.slice sl 2 cap)) (go_keep)
    (first
     | (go_at_call 47
        have R2 := R1.out; refine (HJ.out _ _ R2).mono ?_; rintro e w2 ⟨rfl, hb2⟩; have q2 := below_keep hb2 q1; have B2 := below_join B1 hb2
        obtain ⟨d3, d4, d5, -⟩ := blk3 q2)
     | (go_at_call 47
        refine (HI.out _ _ (HR0.out.up (Below.refl _ _).drew)).mono ?_; rintro e w1 ⟨rfl, hb1⟩; have hb1' : Below w0.heap.size w0 w1 := (Below.refl _ w0).drew.trans hb1; clear hb1; have q1 := below_keep hb1' q0; have R1 : Hid (Rep _ _ _ _) := HR0.out.up hb1'; have B1 := below_join B0 hb1'; have z1 := lt_of_block q1
        obtain ⟨d0, d1, d2, -⟩ := blk3 q1)
     | fail)
  go_wp2_with fail; go_ret; exact ⟨rfl, B2⟩
end Go.Proofs.Ytfhbpfgbnfcdaaa
