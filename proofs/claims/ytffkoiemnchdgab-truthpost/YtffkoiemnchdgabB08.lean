/- Texts of one proof, one behind the other: Check1. -/
import Derived.Test.YtffkoiemnchdgabB06
import Derived.RegionTactic
import Derived.Test.YtffkoiemnchdgabB05
/- Walks: Check's small steps. -/
namespace Go.Proofs.Ytffkoiemnchdgab
open Go.RowKit

theorem tup_ib {a a' : Int} {b b' : Bool} (h : a = a') (k : b = b') : Ending.returned (.tuple #[.int .i64 a, .bool b]) = .returned (.tuple #[.int .i64 a', .bool b']) := by rw [h, k]

set_option maxHeartbeats 1000000 in
theorem kidsOf_any (k : Int) (w : World) :
    Calls Try.prog 124 #[.int .i64 k] w fun e w' => e = .returned (.tuple #[.int .i64 (kidsN k), .bool (kindB k)]) ∧ w' = w := by
  go_enter Try.func124, Try.ntmps124
  go_wp2
  all_goals
    go_ret2; refine ⟨tup_ib ?_ ?_, rfl⟩
  all_goals
    simp only [beq_iff_eq, beq_eq_false_iff_ne, ne_eq] at *
    first
      | (subst_vars; decide)
      | (unfold kidsN; rw [if_neg (by omega), if_neg (by omega)])
      | (unfold kindB; simp; omega)

set_option maxHeartbeats 1000000 in
theorem node_kind (k at_ : Int) (n : ByteArray) (sl : Option Addr) (len cap : Nat) (w : World) (h : kindB k = false) :
    Calls Try.prog 90 #[.agg #[.int .i64 k, .string n, .slice sl len cap], .int .i64 at_] w fun e w' => e = .panicked (stopC 4 at_) ∧ Below w.heap.size w w' := by
  go_enter Try.func90, Try.ntmps90
  go_wp2_with (first
    | (go_at_call 124; refine (kidsOf_any k _).mono ?_; rintro e w1 ⟨rfl, rfl⟩)
    | (go_at_call 89; refine (stop_any _ _ _).mono ?_; rintro e w4 ⟨rfl, rfl⟩)
    | fail)
  exact ⟨rfl, rfl, (Below.refl _ _).alloc (Nat.le_refl _) _⟩

set_option maxHeartbeats 1000000 in
theorem node_size (k at_ : Int) (n : ByteArray) (sl : Option Addr) (len cap : Nat) (w : World) (h : kindB k = true) (h2 : (len : Int) ≠ kidsN k) :
    Calls Try.prog 90 #[.agg #[.int .i64 k, .string n, .slice sl len cap], .int .i64 at_] w fun e w' => e = .panicked (stopC 9 at_) ∧ Below w.heap.size w w' := by
  go_enter Try.func90, Try.ntmps90
  go_wp2_with (first
    | (go_at_call 124; refine (kidsOf_any k _).mono ?_; rintro e w1 ⟨rfl, rfl⟩)
    | (go_at_call 89; refine (stop_any _ _ _).mono ?_; rintro e w4 ⟨rfl, rfl⟩)
    | fail)
  exact ⟨rfl, rfl, (Below.refl _ _).alloc (Nat.le_refl _) _⟩

set_option maxHeartbeats 1000000 in
theorem node_name (k at_ : Int) (n : ByteArray) (hn : n.size ≤ maxLen) (sl : Option Addr) (len cap : Nat) (w : World) (h : kindB k = true) (h2 : (len : Int) = kidsN k) (h3 : nameB k n = true) :
    Calls Try.prog 90 #[.agg #[.int .i64 k, .string n, .slice sl len cap], .int .i64 at_] w fun e w' => e = .panicked (stopC 8 at_) ∧ Below w.heap.size w w' := by
  have hin := isName_any n hn; by_cases hk : k = 1
  · subst hk
    (have h4 : isNm n.data.toList = false := by simpa [nameB] using h3); rw [h4] at hin
    go_enter Try.func90, Try.ntmps90
    go_wp2_with (first
      | (go_at_call 124; refine (kidsOf_any 1 _).mono ?_; rintro e w1 ⟨rfl, rfl⟩)
      | (go_at_call 125; refine (hin _).mono ?_; rintro e w1 ⟨rfl, rfl⟩)
      | (go_at_call 89; refine (stop_any _ _ _).mono ?_; rintro e w4 ⟨rfl, rfl⟩)
      | fail)
    exact ⟨rfl, rfl, (Below.refl _ _).alloc (Nat.le_refl _) _⟩
  · have h4 : n.toList.isEmpty = false := by rw [ByteArray.toList_eq]; simpa [nameB, hk] using h3
    (have hk1 : (k == 1) = false := by simpa using hk); (have hk2 : (k != 1) = true := by simpa using hk)
    go_enter Try.func90, Try.ntmps90
    go_wp2_with (first
      | (go_at_call 124; refine (kidsOf_any k _).mono ?_; rintro e w1 ⟨rfl, rfl⟩)
      | (go_at_call 89; refine (stop_any _ _ _).mono ?_; rintro e w4 ⟨rfl, rfl⟩)
      | fail)
    exact ⟨rfl, rfl, (Below.refl _ _).alloc (Nat.le_refl _) _⟩

set_option maxHeartbeats 1000000 in
theorem node_fine (k at_ : Int) (n : ByteArray) (hn : n.size ≤ maxLen) (sl : Option Addr) (len cap : Nat) (w : World) (h : kindB k = true) (h2 : (len : Int) = kidsN k) (h3 : nameB k n = false) :
    Calls Try.prog 90 #[.agg #[.int .i64 k, .string n, .slice sl len cap], .int .i64 at_] w fun e w' => e = .returned (.tuple #[]) ∧ Below w.heap.size w w' := by
  have hin := isName_any n hn; by_cases hk : k = 1
  · subst hk
    (have h4 : isNm n.data.toList = true := by simpa [nameB] using h3); rw [h4] at hin
    go_enter Try.func90, Try.ntmps90
    go_wp2_with (first
      | (go_at_call 124; refine (kidsOf_any 1 _).mono ?_; rintro e w1 ⟨rfl, rfl⟩)
      | (go_at_call 125; refine (hin _).mono ?_; rintro e w1 ⟨rfl, rfl⟩)
      | fail)
    go_end0
    exact ⟨rfl, (Below.refl _ _).alloc (Nat.le_refl _) _⟩
  · have h4 : n.toList = [] := by rw [ByteArray.toList_eq]; simpa [nameB, hk] using h3
    (have hk1 : (k == 1) = false := by simpa using hk)
    go_enter Try.func90, Try.ntmps90
    go_wp2_with (first
      | (go_at_call 124; refine (kidsOf_any k _).mono ?_; rintro e w1 ⟨rfl, rfl⟩)
      | fail)
    go_end0
    exact ⟨rfl, (Below.refl _ _).alloc (Nat.le_refl _) _⟩

theorem nodeF_some {k : Int} {n : ByteArray} {len : Nat} {c : Int} (h : nodeF k n len = some c) (at_ : Int) (hn : n.size ≤ maxLen) (sl : Option Addr) (cap : Nat) (w : World) :
    Calls Try.prog 90 #[.agg #[.int .i64 k, .string n, .slice sl len cap], .int .i64 at_] w fun e w' => e = .panicked (stopC c at_) ∧ Below w.heap.size w w' := by
  unfold nodeF at h
  split at h
  · rename_i h1; cases h; exact node_kind k at_ n sl len cap w h1
  · rename_i h1
    (have h1 : kindB k = true := by simpa using h1)
    split at h
    · rename_i h2; cases h; exact node_size k at_ n sl len cap w h1 h2
    · rename_i h2
      (have h2 : (len : Int) = kidsN k := by simpa using h2)
      split at h
      · rename_i h3; cases h; exact node_name k at_ n hn sl len cap w h1 h2 h3
      · cases h

theorem nodeF_none {k : Int} {n : ByteArray} {len : Nat} (h : nodeF k n len = none) (at_ : Int) (hn : n.size ≤ maxLen) (sl : Option Addr) (cap : Nat) (w : World) :
    Calls Try.prog 90 #[.agg #[.int .i64 k, .string n, .slice sl len cap], .int .i64 at_] w fun e w' => e = .returned (.tuple #[]) ∧ Below w.heap.size w w' := by
  unfold nodeF at h
  split at h
  · cases h
  · rename_i h1
    (have h1 : kindB k = true := by simpa using h1)
    split at h
    · cases h
    · rename_i h2
      (have h2 : (len : Int) = kidsN k := by simpa using h2)
      split at h
      · cases h
      · rename_i h3
        (exact node_fine k at_ n hn sl len cap w h1 h2 (by simpa using h3))
end Go.Proofs.Ytffkoiemnchdgab
