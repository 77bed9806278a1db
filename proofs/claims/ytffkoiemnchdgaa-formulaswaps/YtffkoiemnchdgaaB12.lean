/- Texts of one proof, one behind the other: Walk9, Check1. -/
import Derived.Test.YtffkoiemnchdgaaB11
import Derived.RegionTactic
import Derived.Test.YtffkoiemnchdgaaB05
/- Walks: Parse. -/
namespace Go.Proofs.Ytffkoiemnchdgaa
open Go.RowKit

theorem parse1_in (cap : Array Value) (w : World) : (callFunc 48 cap).run Try.prog w = .ok (.enter 48 cap) w := by
  simp [go_sem]

theorem heap_drew (w : World) : w.drew.heap = w.heap := rfl

/-- The blocks that Parse makes first. -/
theorem three {w : World} {o0 o1 o2 o3 : Obj} : ((((w.alloc o0).alloc o1).alloc o2).alloc o3).heap[w.heap.size]? = some o0 ∧ ((((w.alloc o0).alloc o1).alloc o2).alloc o3).heap[w.heap.size + 1]? = some o1 ∧ ((((w.alloc o0).alloc o1).alloc o2).alloc o3).heap[w.heap.size + 2]? = some o2 ∧ ((((w.alloc o0).alloc o1).alloc o2).alloc o3).heap[w.heap.size + 3]? = some o3 := by
  (have e1 : (w.alloc o0).heap.size = w.heap.size + 1 := by simp); (have e2 : ((w.alloc o0).alloc o1).heap.size = w.heap.size + 2 := by simp); (have e3 : (((w.alloc o0).alloc o1).alloc o2).heap.size = w.heap.size + 3 := by simp); refine ⟨?_, ?_, ?_, ?_⟩
  · rw [Below.heap_alloc _ _ _ (by omega), Below.heap_alloc _ _ _ (by omega), Below.heap_alloc _ _ _ (by omega)]; exact blk_new _ _
  · rw [Below.heap_alloc _ _ _ (by omega), Below.heap_alloc _ _ _ (by omega), ← e1]; exact blk_new _ _
  · rw [Below.heap_alloc _ _ _ (by omega), ← e2]; exact blk_new _ _
  · rw [← e3]; exact blk_new _ _

set_option maxHeartbeats 1000000 in
theorem parse_ok (t : ByteArray) (ht : t.size ≤ 20000) (w : World) (x : Res) (hx : Ev (mThen · t.data.toList) x) (f : Fm) (ho : outOf t.size x = .ok f) :
    Calls Try.prog 17 #[.string t] w fun e w' => ∃ v, e = .returned (.tuple #[v, .agg #[.int .i64 0, .int .i64 0]]) ∧ Rep w' (w.heap.size ≤ ·) f v ∧ Below w.heap.size w w' := by
  (have h3 : (t.size : Int) ≤ 20000 := by omega); (have hmf : ∀ (fn : Fn) (first cap : Array Value) (w : World), (Instr.makeFunc fn first cap).run Try.prog w = .ok (.func fn first cap) w := fun _ _ _ _ => rfl)
  go_enter Try.func17, Try.ntmps17
  go_wp2_with (first
    | (go_at_call 41
       (refine (caught_ok 48 _ _ (fun w1 => ∃ k nm ks sl cap, f = .mk k nm ks ∧ w1.heap[w.heap.size + 1]? = some (.cells #[.int .i64 k, .string nm, .slice sl ks.length cap] 24 (0, 0)) ∧ w1.heap[w.heap.size + 1 + 1]? = some (.cells #[.int .i64 0, .int .i64 0] 29 (0, 0)) ∧ Rep w1 (w.heap.size + 4 ≤ ·) f (.agg #[.int .i64 k, .string nm, .slice sl ks.length cap]) ∧ Kept (fun k => k < w.heap.size) w w1) (parse1_in _) ?_).mono ?_)
       · refine (parse1_ok w.heap.size (w.heap.size + 1) t ht _ three.1 three.2.1 x hx f ho).mono ?_
         rintro e w1 ⟨rfl, hk, k, nm, ks, sl, cap, rfl, q1, hrep⟩; (refine ⟨rfl, (hk.block _ (by simp) (by simp; omega)).trans (blk_new _ _), k, nm, ks, sl, cap, rfl, q1, ?_, ?_, ?_⟩)
         · exact (hk.block _ (by simp) (by simp)).trans three.2.2.1
         · exact hrep.move fun b _ hb2 => ⟨rfl, by simp at hb2; omega⟩
         · exact ((((((Kept.refl _ w).alloc _).alloc _).alloc _).alloc _)).trans (hk.mono (fun k _ h => by omega))
       rintro e w2 ⟨rfl, w1, ⟨k, nm, ks, sl, cap, rfl, q1, q2, hrep, hk⟩, hk2⟩; have z1 := lt_of_block q1; have z2 := lt_of_block q2; (have q3 := (hk2.block _ z1 (by simp)).trans q1); (have q4 := (hk2.block _ z2 (by simp)).trans q2); obtain ⟨g1, g2, g3, g4, g5, g6⟩ := blk3 q3
       obtain ⟨k1, k2, k3, k4⟩ := blk2 q4)
    | fail)
  go_region
  all_goals go_wp2
  have hsz := hk.size; have hsz2 := hk2.size; have y2 := set2 q4 (.int .i64 0) (.int .i64 0); have y1 := q3; (rw [← Below.heap_setCell _ ⟨w.heap.size + 1 + 1, 0, none⟩ (.int .i64 0) _ (by simp), ← Below.heap_setCell _ ⟨w.heap.size + 1 + 1, 1, none⟩ (.int .i64 0) _ (by simp)] at y1); have x1 := set3 y1 (.int .i64 k) (.string nm) (.slice sl ks.length cap); have x2 := y2; (rw [← Below.heap_setCell _ ⟨w.heap.size + 1, 0, none⟩ (.int .i64 k) _ (by simp), ← Below.heap_setCell _ ⟨w.heap.size + 1, 1, none⟩ (.string nm) _ (by simp), ← Below.heap_setCell _ ⟨w.heap.size + 1, 2, none⟩ (.slice sl ks.length cap) _ (by simp)] at x2); have f2 := set2 x2 (.int .i64 0) (.int .i64 0); have f1 := x1; (rw [← Below.heap_setCell _ ⟨w.heap.size + 1 + 1, 0, none⟩ (.int .i64 0) _ (by simp), ← Below.heap_setCell _ ⟨w.heap.size + 1 + 1, 1, none⟩ (.int .i64 0) _ (by simp)] at f1); (have b1 : Below w.heap.size w w2 := (hk.trans (hk2.mono (fun k _ h => by simp; omega))).below (Nat.le_refl _) (fun _ h => h)); (have b2 := (((((((b1.setCell (p := ⟨w.heap.size + 1 + 1, 0, none⟩) (by simp; omega) (.int .i64 0)).setCell (p := ⟨w.heap.size + 1 + 1, 1, none⟩) (by simp; omega) (.int .i64 0)).setCell (p := ⟨w.heap.size + 1, 0, none⟩) (by simp) (.int .i64 k)).setCell (p := ⟨w.heap.size + 1, 1, none⟩) (by simp) (.string nm)).setCell (p := ⟨w.heap.size + 1, 2, none⟩) (by simp) (.slice sl ks.length cap)).setCell (p := ⟨w.heap.size + 1 + 1, 0, none⟩) (by simp; omega) (.int .i64 0)).setCell (p := ⟨w.heap.size + 1 + 1, 1, none⟩) (by simp; omega) (.int .i64 0)).drew)
  have r1 : Rep (((((((w2.setCell ⟨w.heap.size + 1 + 1, 0, none⟩ (.int .i64 0)).setCell ⟨w.heap.size + 1 + 1, 1, none⟩ (.int .i64 0)).setCell ⟨w.heap.size + 1, 0, none⟩ (.int .i64 k)).setCell ⟨w.heap.size + 1, 1, none⟩ (.string nm)).setCell ⟨w.heap.size + 1, 2, none⟩ (.slice sl ks.length cap)).setCell ⟨w.heap.size + 1 + 1, 0, none⟩ (.int .i64 0)).setCell ⟨w.heap.size + 1 + 1, 1, none⟩ (.int .i64 0)).drew (w.heap.size ≤ ·) (.mk k nm ks) (.agg #[.int .i64 k, .string nm, .slice sl ks.length cap]) := by
    (refine hrep.move fun b hb1 hb2 => ⟨?_, by omega⟩); (rw [heap_drew, Below.heap_setCell _ _ _ _ (by simp; omega), Below.heap_setCell _ _ _ _ (by simp; omega), Below.heap_setCell _ _ _ _ (by simp; omega), Below.heap_setCell _ _ _ _ (by simp; omega), Below.heap_setCell _ _ _ _ (by simp; omega), Below.heap_setCell _ _ _ _ (by simp; omega), Below.heap_setCell _ _ _ _ (by simp; omega)]); (exact hk2.block b hb1 (by simp; omega))
  generalize World.setCell _ _ _ = F at f1 f2 b2 r1 ⊢; clear g1 g2 g3 g4 g5 g6 k1 k2 k3 k4; obtain ⟨g1, g2, g3, -⟩ := blk3 f1; obtain ⟨k1, k2, -⟩ := blk2 f2; (exact bodyPost_ret (v := .tuple #[.agg #[.int .i64 k, .string nm, .slice sl ks.length cap], .agg #[.int .i64 0, .int .i64 0]]) (by simp [results, Try.results17, go_sem, g1, g2, g3, k1, k2]) rfl ⟨_, rfl, r1, b2⟩)

end Go.Proofs.Ytffkoiemnchdgaa
/- Walks: Check's small steps. -/
namespace Go.Proofs.Ytffkoiemnchdgaa
open Go.RowKit

theorem tup_ib {a a' : Int} {b b' : Bool} (h : a = a') (k : b = b') : Ending.returned (.tuple #[.int .i64 a, .bool b]) = .returned (.tuple #[.int .i64 a', .bool b']) := by rw [h, k]

set_option maxHeartbeats 1000000 in
theorem kidsOf_any (k : Int) (w : World) :
    Calls Try.prog 103 #[.int .i64 k] w fun e w' => e = .returned (.tuple #[.int .i64 (kidsN k), .bool (kindB k)]) ∧ w' = w := by
  go_enter Try.func103, Try.ntmps103
  go_wp2
  all_goals
    go_ret2; refine ⟨tup_ib ?_ ?_, rfl⟩
  all_goals
    simp only [beq_iff_eq, beq_eq_false_iff_ne, ne_eq] at *
    first
      | (subst_vars; decide)
      | (unfold kidsN; rw [if_neg (by omega), if_neg (by omega)])
      | (unfold kindB; simp; omega)

set_option maxHeartbeats 1000000 in
theorem node_kind (k at_ : Int) (n : ByteArray) (sl : Option Addr) (len cap : Nat) (w : World) (h : kindB k = false) :
    Calls Try.prog 79 #[.agg #[.int .i64 k, .string n, .slice sl len cap], .int .i64 at_] w fun e w' => e = .panicked (stopC 4 at_) ∧ Below w.heap.size w w' := by
  go_enter Try.func79, Try.ntmps79
  go_wp2_with (first
    | (go_at_call 103; refine (kidsOf_any k _).mono ?_; rintro e w1 ⟨rfl, rfl⟩)
    | (go_at_call 78; refine (stop_any _ _ _).mono ?_; rintro e w4 ⟨rfl, rfl⟩)
    | fail)
  exact ⟨rfl, rfl, (Below.refl _ _).alloc (Nat.le_refl _) _⟩

set_option maxHeartbeats 1000000 in
theorem node_size (k at_ : Int) (n : ByteArray) (sl : Option Addr) (len cap : Nat) (w : World) (h : kindB k = true) (h2 : (len : Int) ≠ kidsN k) :
    Calls Try.prog 79 #[.agg #[.int .i64 k, .string n, .slice sl len cap], .int .i64 at_] w fun e w' => e = .panicked (stopC 9 at_) ∧ Below w.heap.size w w' := by
  go_enter Try.func79, Try.ntmps79
  go_wp2_with (first
    | (go_at_call 103; refine (kidsOf_any k _).mono ?_; rintro e w1 ⟨rfl, rfl⟩)
    | (go_at_call 78; refine (stop_any _ _ _).mono ?_; rintro e w4 ⟨rfl, rfl⟩)
    | fail)
  exact ⟨rfl, rfl, (Below.refl _ _).alloc (Nat.le_refl _) _⟩

set_option maxHeartbeats 1000000 in
theorem node_name (k at_ : Int) (n : ByteArray) (hn : n.size ≤ maxLen) (sl : Option Addr) (len cap : Nat) (w : World) (h : kindB k = true) (h2 : (len : Int) = kidsN k) (h3 : nameB k n = true) :
    Calls Try.prog 79 #[.agg #[.int .i64 k, .string n, .slice sl len cap], .int .i64 at_] w fun e w' => e = .panicked (stopC 8 at_) ∧ Below w.heap.size w w' := by
  have hin := isName_any n hn; by_cases hk : k = 1
  · subst hk
    (have h4 : isNm n.data.toList = false := by simpa [nameB] using h3); rw [h4] at hin
    go_enter Try.func79, Try.ntmps79
    go_wp2_with (first
      | (go_at_call 103; refine (kidsOf_any 1 _).mono ?_; rintro e w1 ⟨rfl, rfl⟩)
      | (go_at_call 60; refine (hin _).mono ?_; rintro e w1 ⟨rfl, rfl⟩)
      | (go_at_call 78; refine (stop_any _ _ _).mono ?_; rintro e w4 ⟨rfl, rfl⟩)
      | fail)
    exact ⟨rfl, rfl, (Below.refl _ _).alloc (Nat.le_refl _) _⟩
  · have h4 : n.toList.isEmpty = false := by rw [ByteArray.toList_eq]; simpa [nameB, hk] using h3
    (have hk1 : (k == 1) = false := by simpa using hk); (have hk2 : (k != 1) = true := by simpa using hk)
    go_enter Try.func79, Try.ntmps79
    go_wp2_with (first
      | (go_at_call 103; refine (kidsOf_any k _).mono ?_; rintro e w1 ⟨rfl, rfl⟩)
      | (go_at_call 78; refine (stop_any _ _ _).mono ?_; rintro e w4 ⟨rfl, rfl⟩)
      | fail)
    exact ⟨rfl, rfl, (Below.refl _ _).alloc (Nat.le_refl _) _⟩

set_option maxHeartbeats 1000000 in
theorem node_fine (k at_ : Int) (n : ByteArray) (hn : n.size ≤ maxLen) (sl : Option Addr) (len cap : Nat) (w : World) (h : kindB k = true) (h2 : (len : Int) = kidsN k) (h3 : nameB k n = false) :
    Calls Try.prog 79 #[.agg #[.int .i64 k, .string n, .slice sl len cap], .int .i64 at_] w fun e w' => e = .returned (.tuple #[]) ∧ Below w.heap.size w w' := by
  have hin := isName_any n hn; by_cases hk : k = 1
  · subst hk
    (have h4 : isNm n.data.toList = true := by simpa [nameB] using h3); rw [h4] at hin
    go_enter Try.func79, Try.ntmps79
    go_wp2_with (first
      | (go_at_call 103; refine (kidsOf_any 1 _).mono ?_; rintro e w1 ⟨rfl, rfl⟩)
      | (go_at_call 60; refine (hin _).mono ?_; rintro e w1 ⟨rfl, rfl⟩)
      | fail)
    go_end0
    exact ⟨rfl, (Below.refl _ _).alloc (Nat.le_refl _) _⟩
  · have h4 : n.toList = [] := by rw [ByteArray.toList_eq]; simpa [nameB, hk] using h3
    (have hk1 : (k == 1) = false := by simpa using hk)
    go_enter Try.func79, Try.ntmps79
    go_wp2_with (first
      | (go_at_call 103; refine (kidsOf_any k _).mono ?_; rintro e w1 ⟨rfl, rfl⟩)
      | fail)
    go_end0
    exact ⟨rfl, (Below.refl _ _).alloc (Nat.le_refl _) _⟩

theorem nodeF_some {k : Int} {n : ByteArray} {len : Nat} {c : Int} (h : nodeF k n len = some c) (at_ : Int) (hn : n.size ≤ maxLen) (sl : Option Addr) (cap : Nat) (w : World) :
    Calls Try.prog 79 #[.agg #[.int .i64 k, .string n, .slice sl len cap], .int .i64 at_] w fun e w' => e = .panicked (stopC c at_) ∧ Below w.heap.size w w' := by
  unfold nodeF at h
  split at h
  · rename_i h1; cases h; exact node_kind k at_ n sl len cap w h1
  · rename_i h1
    (have h1 : kindB k = true := by simpa using h1)
    split at h
    · rename_i h2; cases h; exact node_size k at_ n sl len cap w h1 h2
    · rename_i h2
      (have h2 : (len : Int) = kidsN k := by simpa using h2)
      split at h
      · rename_i h3; cases h; exact node_name k at_ n hn sl len cap w h1 h2 h3
      · cases h

theorem nodeF_none {k : Int} {n : ByteArray} {len : Nat} (h : nodeF k n len = none) (at_ : Int) (hn : n.size ≤ maxLen) (sl : Option Addr) (cap : Nat) (w : World) :
    Calls Try.prog 79 #[.agg #[.int .i64 k, .string n, .slice sl len cap], .int .i64 at_] w fun e w' => e = .returned (.tuple #[]) ∧ Below w.heap.size w w' := by
  unfold nodeF at h
  split at h
  · cases h
  · rename_i h1
    (have h1 : kindB k = true := by simpa using h1)
    split at h
    · cases h
    · rename_i h2
      (have h2 : (len : Int) = kidsN k := by simpa using h2)
      split at h
      · cases h
      · rename_i h3
        (exact node_fine k at_ n hn sl len cap w h1 h2 (by simpa using h3))
end Go.Proofs.Ytffkoiemnchdgaa
