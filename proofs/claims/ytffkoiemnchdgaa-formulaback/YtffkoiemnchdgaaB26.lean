/- Texts of one proof, one behind the other: Back2. -/
import Derived.Test.YtffkoiemnchdgaaB25
/- Walks: FormulaBack, its other ways. -/
namespace Go.Proofs.Ytffkoiemnchdgaa
open Go.RowKit

set_option maxHeartbeats 4000000 in
theorem back_ok_bad (f : Fm) (c' a' : Int) (hc' : c' ≠ 0) (s : Nat) (hcf : chk f 0 = .ok s) (v : Value) (t : ByteArray) (w : World) (hrep : Rep w (fun _ => True) f v)
    (hp : ∀ w, Calls Try.prog 17 #[.string t] w fun e w' => e = .returned (.tuple #[.agg #[.int .i64 0, .string ⟨#[]⟩, .slice none 0 0], .agg #[.int .i64 c', .int .i64 a']]) ∧ Below w.heap.size w w') :
    Calls Try.prog 6 #[v, .string t] w fun e w' => e = .returned (.bool true) ∧ Below w.heap.size w w' := by
  (have HP : Hid (∀ w, Calls Try.prog 17 #[.string t] w fun e w' => e = .returned (.tuple #[.agg #[.int .i64 0, .string ⟨#[]⟩, .slice none 0 0], .agg #[.int .i64 c', .int .i64 a']]) ∧ Below w.heap.size w w') := hp); (have HF1 := fun v w h => print_ok f v w h s hcf); have HF2 := parse_back f s hcf; (have hvast := fun w h => vast_any f v w h); (have hsame := fun (u : Value) (w : World) h1 h2 => same_self f v u w h1 h2); obtain ⟨k, n, ks⟩ := f; obtain ⟨sl, cap, rfl⟩ := slice_shape hrep; have H1 : Hid (∀ v w, _ → Calls Try.prog 13 #[v] w _) := HF1; have H2 : Hid (∀ w, Calls Try.prog 17 _ w _) := HF2; have H5 : Hid (∀ w, _ → Calls Try.prog 10 _ w _) := hvast; have H6 : Hid (∀ u w, _ → _ → Calls Try.prog 15 #[_, u] w _) := hsame; (have hn1 : (c' != 0) = true := by simpa using hc'); (have hn2 : (c' == 0) = false := by simpa using hc'); clear HF1 HF2 hvast hsame hp hcf hc'; generalize pr 0 (.mk k n ks) = o1 at *
  go_enter Try.func6, Try.ntmps6
  go_wp2_with (first
    | (go_at_call 9
       refine (begun_any _).mono ?_; rintro e w1 ⟨rfl, hb1⟩; have q1 := below_keep hb1 (blk_new _ _); have B1 := below_join ((Below.refl _ w).alloc (Nat.le_refl _) _) hb1; have R1 := hrep.up B1
       obtain ⟨a1, a2, a3, -⟩ := blk3 q1)
    | (go_at_call 10
       refine (H5.out _ R1).mono ?_; rintro e w2 ⟨⟨bb, rfl⟩, hb2⟩; have B2 := below_join B1 hb2; have q2 := below_keep hb2 q1; have R2 := R1.up hb2; obtain ⟨b1, b2, b3, -⟩ := blk3 q2; clear a1 a2 a3
       cases bb)
    | (go_at_call_of 13 (Value.agg #[Value.int .i64 k, Value.string n, Value.slice sl ks.length cap])
       refine (H1.out _ _ R2).mono ?_; rintro e w3 ⟨rfl, hb3⟩; have B3 := below_join B2 hb3; have q3 := below_keep hb3 q2; have R3 := R2.up hb3
       clear b1 b2 b3)
    | (go_at_call_of 17 (Value.string ⟨o1.toArray⟩)
       refine (H2.out _).mono ?_; rintro e w4 ⟨v4, rfl, hrep4, hb4⟩; obtain ⟨sl4, cap4, rfl⟩ := slice_shape hrep4; have B4 := below_join (below_more B3 _) hb4; have q4 := below_keep hb4 (alloc_keep q3 _); have e4 := below_keep hb4 (blk_new _ _); have R4 := (R3.more _).up hb4; obtain ⟨b1, b2, b3, -⟩ := blk3 q4
       have z4 := lt_of_block q4)
    | (go_at_call_of 15 (Value.agg #[Value.int .i64 k, Value.string n, Value.slice sl ks.length cap])
       refine (H6.out _ _ ((R4.more _).more _) ((hrep4.all.more _).more _)).mono ?_; rintro e w5 ⟨rfl, hb5⟩; have B5 := below_join (below_more (below_more B4 _) _) hb5; have e5 := below_keep hb5 (alloc_keep (alloc_keep e4 _) _)
       clear b1 b2 b3)
    | (go_at_call_of 17 (Value.string t)
       refine (HP.out _).mono ?_; rintro e w6 ⟨rfl, hb6⟩; have B6 := below_join B5 hb6; have e6 := below_keep hb6 e5; obtain ⟨i1, i2, i3, i4⟩ := blk2 e6; have z6 := lt_of_block e6
       have BY := below_more ((B6.setCell (p := ⟨w3.heap.size, 0, none⟩) B3.size (.int .i64 c')).setCell (p := ⟨w3.heap.size, 1, none⟩) B3.size (.int .i64 a')) (.cells #[.int .i64 0, .string ⟨#[]⟩, .slice none 0 0] 24 (0, 0)))
    | fail)
  · go_ret
    exact ⟨rfl, BY⟩
  · go_ret
    exact ⟨rfl, B2⟩
set_option maxHeartbeats 4000000 in
theorem back_bad_ok (f g : Fm) (c : Int) (a s' : Nat) (hcf : chk f 0 = .bad c a) (hcg : chk g 0 = .ok s') (v : Value) (t : ByteArray) (w : World) (hrep : Rep w (fun _ => True) f v)
    (hp : ∀ w, Calls Try.prog 17 #[.string t] w fun e w' => ∃ v, e = .returned (.tuple #[v, .agg #[.int .i64 0, .int .i64 0]]) ∧ Rep w' (w.heap.size ≤ ·) g v ∧ Below w.heap.size w w') :
    Calls Try.prog 6 #[v, .string t] w fun e w' => e = .returned (.bool true) ∧ Below w.heap.size w w' := by
  (have HP : Hid (∀ w, Calls Try.prog 17 #[.string t] w fun e w' => ∃ v, e = .returned (.tuple #[v, .agg #[.int .i64 0, .int .i64 0]]) ∧ Rep w' (w.heap.size ≤ ·) g v ∧ Below w.heap.size w w') := hp); (have HF1 := fun v w h => print_bad f v w h c a hcf); have hne := chk_code f 0 c a hcf; (have hne1 : (c != 0) = true := by simpa using hne); (have hne2 : (c == 0) = false := by simpa using hne); (have HG1 := fun v w h => print_ok g v w h s' hcg); have HG2 := parse_back g s' hcg; (have hvast := fun w h => vast_any f v w h); (have hsame2 := fun (v u : Value) (w : World) h1 h2 => same_self g v u w h1 h2); obtain ⟨k, n, ks⟩ := f; obtain ⟨k', n', ks'⟩ := g; obtain ⟨sl, cap, rfl⟩ := slice_shape hrep; have H1 : Hid (∀ v w, _ → Calls Try.prog 13 #[v] w _) := HF1; have H3 : Hid (∀ v w, _ → Calls Try.prog 13 #[v] w _) := HG1; have H4 : Hid (∀ w, Calls Try.prog 17 _ w _) := HG2; have H5 : Hid (∀ w, _ → Calls Try.prog 10 _ w _) := hvast; have H7 : Hid (∀ v u w, _ → _ → Calls Try.prog 15 #[v, u] w _) := hsame2; clear HF1 HG1 HG2 hvast hsame2 hp hcf hcg hne; generalize pr 0 (.mk k' n' ks') = o2 at *
  go_enter Try.func6, Try.ntmps6
  go_wp2_with (first
    | (go_at_call 9
       refine (begun_any _).mono ?_; rintro e w1 ⟨rfl, hb1⟩; have q1 := below_keep hb1 (blk_new _ _); have B1 := below_join ((Below.refl _ w).alloc (Nat.le_refl _) _) hb1; have R1 := hrep.up B1
       obtain ⟨a1, a2, a3, -⟩ := blk3 q1)
    | (go_at_call 10
       refine (H5.out _ R1).mono ?_; rintro e w2 ⟨⟨bb, rfl⟩, hb2⟩; have B2 := below_join B1 hb2; have q2 := below_keep hb2 q1; have R2 := R1.up hb2; obtain ⟨b1, b2, b3, -⟩ := blk3 q2; clear a1 a2 a3
       cases bb)
    | (go_at_call_of 13 (Value.agg #[Value.int .i64 k, Value.string n, Value.slice sl ks.length cap])
       refine (H1.out _ _ R2).mono ?_; rintro e w3 ⟨rfl, hb3⟩; have B3 := below_join B2 hb3; have q3 := below_keep hb3 q2; have R3 := R2.up hb3
       clear b1 b2 b3)
    | (go_at_call_of 17 (Value.string t)
       refine (HP.out _).mono ?_; rintro e w6 ⟨v6, rfl, hrep6, hb6⟩; obtain ⟨sl6, cap6, rfl⟩ := slice_shape hrep6; have B6 := below_join (below_more B3 _) hb6; have e6 := below_keep hb6 (blk_new _ _); obtain ⟨i1, i2, i3, i4⟩ := blk2 e6; have z6 := lt_of_block e6; have BY := below_more ((B6.setCell (p := ⟨w3.heap.size, 0, none⟩) B3.size (.int .i64 0)).setCell (p := ⟨w3.heap.size, 1, none⟩) B3.size (.int .i64 0)) (.cells #[.int .i64 k', .string n', .slice sl6 ks'.length cap6] 24 (0, 0))
       have R6 : Rep (((w6.setCell ⟨w3.heap.size, 0, none⟩ (.int .i64 0)).setCell ⟨w3.heap.size, 1, none⟩ (.int .i64 0)).alloc (.cells #[.int .i64 k', .string n', .slice sl6 ks'.length cap6] 24 (0, 0))) (fun _ => True) (.mk k' n' ks') (.agg #[.int .i64 k', .string n', .slice sl6 ks'.length cap6]) :=
         hrep6.move fun b hb1 hb2 => ⟨by simp at hb2; rw [Below.heap_alloc _ _ _ (by simpa [World.setCell] using hb1), Below.heap_setCell _ _ _ _ (by simp; omega), Below.heap_setCell _ _ _ _ (by simp; omega)], trivial⟩
       have p6 := blk_new ((w6.setCell ⟨w3.heap.size, 0, none⟩ (.int .i64 0)).setCell ⟨w3.heap.size, 1, none⟩ (.int .i64 0)) (.cells #[.int .i64 k', .string n', .slice sl6 ks'.length cap6] 24 (0, 0))
       rw [show ((w6.setCell ⟨w3.heap.size, 0, none⟩ (.int .i64 0)).setCell ⟨w3.heap.size, 1, none⟩ (.int .i64 0)).heap.size = w6.heap.size by simp [World.setCell]] at p6)
    | (go_at_call 13
       refine (H3.out _ _ R6).mono ?_; rintro e w7 ⟨rfl, hb7⟩; have B7 := below_join BY hb7; have p7 := below_keep hb7 p6
       have R7 := R6.up hb7)
    | (go_at_call_of 17 (Value.string ⟨o2.toArray⟩)
       refine (H4.out _).mono ?_; rintro e w8 ⟨v8, rfl, hrep8, hb8⟩; obtain ⟨sl8, cap8, rfl⟩ := slice_shape hrep8; have B8 := below_join (below_more B7 _) hb8; have p8 := below_keep hb8 (alloc_keep p7 _); have f8 := below_keep hb8 (blk_new _ _); have R8 := (R7.more _).up hb8; obtain ⟨b1, b2, b3, -⟩ := blk3 p8; obtain ⟨k1, k2, -⟩ := blk2 f8; have z8 := lt_of_block p8
       have y8 := lt_of_block f8)
    | (go_at_call 15
       refine (H7.out _ _ _ ((R8.more _).more _) ((hrep8.all.more _).more _)).mono ?_; rintro e w9 ⟨rfl, hb9⟩
       have B9 := below_join (below_more (below_more B8 _) _) hb9)
    | fail)
  · go_ret
    exact ⟨rfl, B9⟩
  · go_ret
    exact ⟨rfl, B2⟩
set_option maxHeartbeats 4000000 in
theorem back_bad_bad (f : Fm) (c' a' : Int) (hc' : c' ≠ 0) (c : Int) (a : Nat) (hcf : chk f 0 = .bad c a) (v : Value) (t : ByteArray) (w : World) (hrep : Rep w (fun _ => True) f v)
    (hp : ∀ w, Calls Try.prog 17 #[.string t] w fun e w' => e = .returned (.tuple #[.agg #[.int .i64 0, .string ⟨#[]⟩, .slice none 0 0], .agg #[.int .i64 c', .int .i64 a']]) ∧ Below w.heap.size w w') :
    Calls Try.prog 6 #[v, .string t] w fun e w' => e = .returned (.bool true) ∧ Below w.heap.size w w' := by
  (have HP : Hid (∀ w, Calls Try.prog 17 #[.string t] w fun e w' => e = .returned (.tuple #[.agg #[.int .i64 0, .string ⟨#[]⟩, .slice none 0 0], .agg #[.int .i64 c', .int .i64 a']]) ∧ Below w.heap.size w w') := hp); (have HF1 := fun v w h => print_bad f v w h c a hcf); have hne := chk_code f 0 c a hcf; (have hne1 : (c != 0) = true := by simpa using hne); (have hne2 : (c == 0) = false := by simpa using hne); (have hvast := fun w h => vast_any f v w h); obtain ⟨k, n, ks⟩ := f; obtain ⟨sl, cap, rfl⟩ := slice_shape hrep; have H1 : Hid (∀ v w, _ → Calls Try.prog 13 #[v] w _) := HF1; have H5 : Hid (∀ w, _ → Calls Try.prog 10 _ w _) := hvast; (have hn1 : (c' != 0) = true := by simpa using hc'); (have hn2 : (c' == 0) = false := by simpa using hc'); clear HF1 hvast hp hcf hc' hne
  go_enter Try.func6, Try.ntmps6
  go_wp2_with (first
    | (go_at_call 9
       refine (begun_any _).mono ?_; rintro e w1 ⟨rfl, hb1⟩; have q1 := below_keep hb1 (blk_new _ _); have B1 := below_join ((Below.refl _ w).alloc (Nat.le_refl _) _) hb1; have R1 := hrep.up B1
       obtain ⟨a1, a2, a3, -⟩ := blk3 q1)
    | (go_at_call 10
       refine (H5.out _ R1).mono ?_; rintro e w2 ⟨⟨bb, rfl⟩, hb2⟩; have B2 := below_join B1 hb2; have q2 := below_keep hb2 q1; have R2 := R1.up hb2; obtain ⟨b1, b2, b3, -⟩ := blk3 q2; clear a1 a2 a3
       cases bb)
    | (go_at_call_of 13 (Value.agg #[Value.int .i64 k, Value.string n, Value.slice sl ks.length cap])
       refine (H1.out _ _ R2).mono ?_; rintro e w3 ⟨rfl, hb3⟩; have B3 := below_join B2 hb3; have q3 := below_keep hb3 q2; have R3 := R2.up hb3
       clear b1 b2 b3)
    | (go_at_call_of 17 (Value.string t)
       refine (HP.out _).mono ?_; rintro e w6 ⟨rfl, hb6⟩; have B6 := below_join (below_more B3 _) hb6; have e6 := below_keep hb6 (blk_new _ _); obtain ⟨i1, i2, i3, i4⟩ := blk2 e6; have z6 := lt_of_block e6
       have BY := below_more ((B6.setCell (p := ⟨w3.heap.size, 0, none⟩) B3.size (.int .i64 c')).setCell (p := ⟨w3.heap.size, 1, none⟩) B3.size (.int .i64 a')) (.cells #[.int .i64 0, .string ⟨#[]⟩, .slice none 0 0] 24 (0, 0)))
    | fail)
  · go_ret
    exact ⟨rfl, BY⟩
  · go_ret
    exact ⟨rfl, B2⟩

theorem back_any (f : Fm) (v : Value) (t : ByteArray) (ht : t.size ≤ maxLen) (w : World) (hrep : Rep w (fun _ => True) f v) :
    Calls Try.prog 6 #[v, .string t] w fun e w' => e = .returned (.bool true) ∧ Below w.heap.size w w' := by
  rcases hcf : chk f 0 with s | ⟨c, a⟩
  · rcases parse_cases t ht with ⟨c', a', hc', hp⟩ | ⟨g, s', hcg, hp⟩
    · exact back_ok_bad f c' a' hc' s hcf v t w hrep hp
    · exact back_ok_ok f g s s' hcf hcg v t w hrep hp
  · rcases parse_cases t ht with ⟨c', a', hc', hp⟩ | ⟨g, s', hcg, hp⟩
    · exact back_bad_bad f c' a' hc' c a hcf v t w hrep hp
    · exact back_bad_ok f g c a s' hcf hcg v t w hrep hp
end Go.Proofs.Ytffkoiemnchdgaa
