/- Texts of one proof, one behind the other: Reads1. -/
import Derived.Test.YtffkoiemnchdgaaB16
/- Walks: FormulaReads. -/
namespace Go.Proofs.Ytffkoiemnchdgaa
open Go.RowKit

theorem read_ok (t : ByteArray) (ht : t.size ≤ 20000) (w : World) (x : Res) (hx : Ev (mThen · t.data.toList) x) (f : Fm) (ho : outOf t.size x = .ok f) :
    Calls Try.prog 18 #[.string t] w fun e w' => ∃ v, e = .returned (.tuple #[v, .agg #[.int .i64 0, .int .i64 0]]) ∧ Rep w' (w.heap.size ≤ ·) f v ∧ Below w.heap.size w w' := by
  cases x with
  | bad r => cases ho
  | ok g r =>
    rw [outOf] at ho
    split at ho
    · rename_i h1
      split at ho
      · cases ho
      · rename_i h2
        obtain rfl := Out.ok.inj ho; exact read_fine t ht w g r hx h1 h2
    · cases ho

theorem read_bad (t : ByteArray) (ht : t.size ≤ 20000) (w : World) (x : Res) (hx : Ev (mThen · t.data.toList) x) (code : Int) (at_ : Nat) (ho : outOf t.size x = .fault code at_) :
    Calls Try.prog 18 #[.string t] w fun e w' => e = .returned (.tuple #[.agg #[.int .i64 0, .string ⟨#[]⟩, .slice none 0 0], .agg #[.int .i64 code, .int .i64 at_]]) ∧ Below w.heap.size w w' := by
  cases x with
  | bad r =>
    rw [outOf] at ho
    cases ho
    exact read_bad1 t ht w r hx
  | ok g r =>
    rw [outOf] at ho
    split at ho
    · rename_i h1
      split at ho
      · rename_i h2
        cases ho
        exact read_bad3 t ht w g r hx h1 h2
      · cases ho
    · rename_i h1
      cases ho
      exact read_bad2 t ht w g r hx h1

theorem outOf_code {n : Nat} {x : Res} {code : Int} {a : Nat} (h : outOf n x = .fault code a) : code ≠ 0 := by
  cases x with
  | bad r => rw [outOf] at h; cases h; decide
  | ok g r =>
    rw [outOf] at h
    split at h
    · split at h
      · cases h; decide
      · cases h
    · cases h; decide

set_option maxHeartbeats 2000000 in
theorem reads_bad (t : ByteArray) (code : Int) (at_ : Nat) (hc : code ≠ 0) (w : World)
    (hp : ∀ w, Calls Try.prog 17 #[.string t] w fun e w' => e = .returned (.tuple #[.agg #[.int .i64 0, .string ⟨#[]⟩, .slice none 0 0], .agg #[.int .i64 code, .int .i64 at_]]) ∧ Below w.heap.size w w')
    (hr : ∀ w, Calls Try.prog 18 #[.string t] w fun e w' => e = .returned (.tuple #[.agg #[.int .i64 0, .string ⟨#[]⟩, .slice none 0 0], .agg #[.int .i64 code, .int .i64 at_]]) ∧ Below w.heap.size w w') :
    Calls Try.prog 4 #[.string t] w fun e w' => e = .returned (.bool true) ∧ Below w.heap.size w w' := by
  have HP : Hid (∀ w, Calls Try.prog 17 #[.string t] w _) := hp; have HR : Hid (∀ w, Calls Try.prog 18 #[.string t] w _) := hr; (have hn1 : (code != 0) = true := by simpa using hc); clear hp hr
  go_enter Try.func4, Try.ntmps4
  go_wp2_with (first
    | (go_at_call 17
       refine (HP.out _).mono ?_; rintro e w1 ⟨rfl, hb1⟩
       have B1 := below_join (Below.refl _ w) hb1)
    | (go_at_call 9
       refine (begun_any _).mono ?_; rintro e w2 ⟨rfl, hb2⟩; have q1 := below_keep hb2 (alloc_keep (blk_new w1 _) _); have q2 := below_keep hb2 (blk_new (w1.alloc _) _); (rw [show (w1.alloc _).heap.size = w1.heap.size + 1 by simp] at q2)
       have B2 := below_join (below_more (below_more B1 _) _) hb2)
    | (go_at_call 18
       refine (HR.out _).mono ?_; rintro e w3 ⟨rfl, hb3⟩; have p1 := below_keep hb3 q1; have p2 := below_keep hb3 q2; obtain ⟨k1, k2, k3, -⟩ := blk3 p1; obtain ⟨g1, g2, -⟩ := blk2 p2; have z1 := lt_of_block p1; have z2 := lt_of_block p2
       have B3 := below_join B2 hb3)
    | (go_at_call 19
       (refine (none_any 0 ⟨#[]⟩ [] _ _ (Rep.leaf (by decide))).mono ?_); rintro e w4 ⟨rfl, hb4⟩
       have B4 := below_join (below_more (below_more B3 _) _) hb4)
    | fail)
  go_ret; exact ⟨rfl, B4⟩

set_option maxHeartbeats 2000000 in
theorem reads_ok (t : ByteArray) (f : Fm) (w : World)
    (hp : ∀ w, Calls Try.prog 17 #[.string t] w fun e w' => ∃ v, e = .returned (.tuple #[v, .agg #[.int .i64 0, .int .i64 0]]) ∧ Rep w' (w.heap.size ≤ ·) f v ∧ Below w.heap.size w w')
    (hr : ∀ w, Calls Try.prog 18 #[.string t] w fun e w' => ∃ v, e = .returned (.tuple #[v, .agg #[.int .i64 0, .int .i64 0]]) ∧ Rep w' (w.heap.size ≤ ·) f v ∧ Below w.heap.size w w') :
    Calls Try.prog 4 #[.string t] w fun e w' => e = .returned (.bool true) ∧ Below w.heap.size w w' := by
  (have hsame := fun (v u : Value) (w : World) h1 h2 => same_self f v u w h1 h2); obtain ⟨k, n, ks⟩ := f; have HP : Hid (∀ w, Calls Try.prog 17 #[.string t] w _) := hp; have HR : Hid (∀ w, Calls Try.prog 18 #[.string t] w _) := hr; have HS : Hid (∀ v u w, _ → _ → Calls Try.prog 15 #[v, u] w _) := hsame; clear hp hr hsame
  go_enter Try.func4, Try.ntmps4
  go_wp2_with (first
    | (go_at_call 17
       refine (HP.out _).mono ?_; rintro e w1 ⟨v1, rfl, hrep1, hb1⟩; obtain ⟨sl1, cap1, rfl⟩ := slice_shape hrep1
       have B1 := below_join (Below.refl _ w) hb1)
    | (go_at_call 9
       refine (begun_any _).mono ?_; rintro e w2 ⟨rfl, hb2⟩; have q1 := below_keep hb2 (alloc_keep (blk_new w1 _) _); have q2 := below_keep hb2 (blk_new (w1.alloc _) _); (rw [show (w1.alloc _).heap.size = w1.heap.size + 1 by simp] at q2); have R2 := ((hrep1.all.more _).more _).up hb2
       have B2 := below_join (below_more (below_more B1 _) _) hb2)
    | (go_at_call 18
       refine (HR.out _).mono ?_; rintro e w3 ⟨v3, rfl, hrep3, hb3⟩; obtain ⟨sl3, cap3, rfl⟩ := slice_shape hrep3; have p1 := below_keep hb3 q1; have p2 := below_keep hb3 q2; have R3 := R2.up hb3; obtain ⟨k1, k2, k3, -⟩ := blk3 p1; obtain ⟨g1, g2, -⟩ := blk2 p2; have z1 := lt_of_block p1; have z2 := lt_of_block p2
       have B3 := below_join B2 hb3)
    | (go_at_call 15
       refine (HS.out _ _ _ ((R3.more _).more _) ((hrep3.all.more _).more _)).mono ?_; rintro e w4 ⟨rfl, hb4⟩
       have B4 := below_join (below_more (below_more B3 _) _) hb4)
    | fail)
  go_ret; exact ⟨rfl, B4⟩

theorem reads_any (t : ByteArray) (ht : t.size ≤ maxLen) (w : World) :
    Calls Try.prog 4 #[.string t] w fun e w' => e = .returned (.bool true) ∧ Below w.heap.size w w' := by
  by_cases hl : 20000 < t.size
  · exact reads_bad t 2 0 (by decide) w (fun w => parse_long t hl ht w) (fun w => read_long t hl ht w)
  · obtain ⟨x, hx, -⟩ := (tot_all t.data.toList.length).2 t.data.toList (Nat.le_refl _)
    rcases ho : outOf t.size x with g | ⟨c, a⟩
    · exact reads_ok t g w (fun w => parse_ok t (by omega) w x hx g ho) (fun w => read_ok t (by omega) w x hx g ho)
    · exact reads_bad t c a (outOf_code ho) w (fun w => parse_bad t (by omega) w x hx c a ho) (fun w => read_bad t (by omega) w x hx c a ho)
end Go.Proofs.Ytffkoiemnchdgaa
