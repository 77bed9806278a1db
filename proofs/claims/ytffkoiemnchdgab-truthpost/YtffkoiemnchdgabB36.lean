/- Texts of one proof, one behind the other: TP1. -/
import Derived.Test.YtffkoiemnchdgabB35
/- Post's theorem, plain: of two values. -/
namespace Go.Proofs.Ytffkoiemnchdgab

/-! Rows as numbers. -/
def idx : Nat → (Nat → Bool) → Nat
  | 0, _ => 0
  | n + 1, v => idx n v + if v n then 2 ^ n else 0

theorem idx_lt : ∀ (n : Nat) (v : Nat → Bool), idx n v < 2 ^ n
  | 0, v => by simp [idx]
  | n + 1, v => by
    have := idx_lt n v; rw [idx, Nat.pow_succ]
    split <;> omega
theorem idx_bit : ∀ (n : Nat) (v : Nat → Bool) (i : Nat), i < n → (idx n v).testBit i = v i
  | 0, v, i, h => absurd h (Nat.not_lt_zero _)
  | n + 1, v, i, h => by
    have hl := idx_lt n v; rw [idx]; by_cases e : i = n
    · subst e
      cases hv : v i
      · simp only [Bool.false_eq_true, if_false, Nat.add_zero]
        exact Nat.testBit_lt_two_pow hl
      · simp only [if_true]
        rw [Nat.add_comm, Nat.testBit_two_pow_add_eq, Nat.testBit_lt_two_pow hl]; rfl
    · have hi : i < n := by omega
      cases v n
      · simp only [Bool.false_eq_true, if_false, Nat.add_zero]
        exact idx_bit n v i hi
      · simp only [if_true]
        rw [Nat.add_comm, Nat.testBit_two_pow_add_gt hi]; exact idx_bit n v i hi
theorem bits_ext {n a b : Nat} (ha : a < 2 ^ n) (hb : b < 2 ^ n) (h : ∀ i, i < n → a.testBit i = b.testBit i) : a = b := by
  apply Nat.eq_of_testBit_eq; intro i; by_cases hi : i < n
  · exact h i hi
  · have hp : 2 ^ n ≤ 2 ^ i := Nat.pow_le_pow_right (by omega) (by omega)
    (rw [Nat.testBit_lt_two_pow (by omega), Nat.testBit_lt_two_pow (by omega)])
theorem idx_of {n k : Nat} (h : k < 2 ^ n) : idx n k.testBit = k := bits_ext (idx_lt _ _) h fun i hi => idx_bit n _ i hi
theorem idx_congr {n : Nat} {v u : Nat → Bool} (h : ∀ i, i < n → v i = u i) : idx n v = idx n u := bits_ext (idx_lt _ _) (idx_lt _ _) fun i hi => by rw [idx_bit n v i hi, idx_bit n u i hi, h i hi]
theorem idx_none {n : Nat} {v : Nat → Bool} (h : ∀ i, i < n → v i = false) : idx n v = 0 := bits_ext (idx_lt _ _) (Nat.two_pow_pos n) fun i hi => by rw [idx_bit n v i hi, h i hi]; simp
theorem idx_not : ∀ (n : Nat) (v : Nat → Bool), idx n (fun i => !v i) + idx n v = 2 ^ n - 1
  | 0, v => by simp [idx]
  | n + 1, v => by
    have := idx_not n v; have hp := Nat.two_pow_pos n; rw [idx, idx, Nat.pow_succ]
    cases v n <;> simp <;> omega

/-- What a table tells of values. -/
def Tb.at (t : Tb) (v : Nat → Bool) : Bool := t.bits.getD (idx t.n v) false
theorem Tb.at_congr (t : Tb) {v u : Nat → Bool} (h : ∀ i, i < t.n → v i = u i) : t.at v = t.at u := by
  unfold Tb.at; rw [idx_congr h]

/-- A table of functions of two values, each a number below 16. -/
def putT (t : Tb) (a : Nat → Nat) : Nat := idx 4 fun r => t.at fun i => (a i).testBit r
inductive Gen (ts : List Tb) : Nat → Prop
  | x : Gen ts 10
  | y : Gen ts 12
  | app (t : Tb) (ht : t ∈ ts) (a : Nat → Nat) (h : ∀ i, i < t.n → Gen ts (a i)) : Gen ts (putT t a)

theorem Gen.lt {ts : List Tb} {f : Nat} (h : Gen ts f) : f < 16 := by
  cases h with
  | x => decide
  | y => decide
  | app t ht a h => exact idx_lt 4 _
theorem putT_bit (t : Tb) (a : Nat → Nat) {r : Nat} (hr : r < 4) : (putT t a).testBit r = t.at fun i => (a i).testBit r := idx_bit 4 _ r hr
theorem Gen.of {ts : List Tb} {t : Tb} (ht : t ∈ ts) (a : Nat → Nat) (h : ∀ i, i < t.n → Gen ts (a i)) {f : Nat} (hf : f < 16) (hv : ∀ r, r < 4 → f.testBit r = t.at fun i => (a i).testBit r) : Gen ts f := by
  (have : f = putT t a := bits_ext (n := 4) hf (idx_lt 4 _) fun r hr => by rw [hv r hr, putT_bit t a hr]); rw [this]; exact Gen.app t ht a h

/-! What all tables keep is kept. -/
theorem gen_zero {ts : List Tb} (h : ∀ t ∈ ts, cls0 t.bits = true) {f : Nat} (hg : Gen ts f) : f.testBit 0 = false := by
  induction hg with
  | x => decide
  | y => decide
  | app t ht a _ ih =>
    (rw [putT_bit t a (by decide)]); have := h t ht; unfold cls0 at this; unfold Tb.at; rw [idx_none ih]; simpa using this
theorem gen_one {ts : List Tb} (hok : ∀ t ∈ ts, t.Ok) (h : ∀ t ∈ ts, cls1 t.bits = true) {f : Nat} (hg : Gen ts f) : f.testBit 3 = true := by
  induction hg with
  | x => decide
  | y => decide
  | app t ht a _ ih =>
    (rw [putT_bit t a (by decide)]); have := h t ht; unfold cls1 at this; unfold Tb.at; (have h0 := idx_not t.n fun i => (a i).testBit 3); (rw [idx_none (fun i hi => by rw [ih i hi]; rfl), Nat.zero_add] at h0); rw [h0, ← (hok t ht).2]; exact this
theorem cls2_at {t : Tb} (hok : t.Ok) (h : cls2 t.bits = true) (v : Nat → Bool) : t.at (fun i => !v i) = !t.at v := by
  unfold cls2 at h; rw [List.all_eq_true] at h; have h0 := idx_not t.n v; have hl := idx_lt t.n v; (have := h (idx t.n v) (List.mem_range.2 (by rw [hok.2]; exact hl))); unfold Tb.at; (rw [hok.2, show 2 ^ t.n - 1 - idx t.n v = idx t.n (fun i => !v i) by omega] at this)
  revert this
  cases t.bits.getD (idx t.n v) false <;> cases t.bits.getD (idx t.n fun i => !v i) false <;> simp
theorem gen_dual {ts : List Tb} (hok : ∀ t ∈ ts, t.Ok) (h : ∀ t ∈ ts, cls2 t.bits = true) {f : Nat} (hg : Gen ts f) : f.testBit 3 = !f.testBit 0 := by
  induction hg with
  | x => decide
  | y => decide
  | app t ht a _ ih =>
    (rw [putT_bit t a (by decide), putT_bit t a (by decide), ← cls2_at (hok t ht) (h t ht)]); (exact t.at_congr fun i hi => ih i hi)

/-- The first j values of u, the others of v. -/
def mix (u v : Nat → Bool) (j i : Nat) : Bool := if i < j then u i else v i
theorem cls3_at {t : Tb} (hok : t.Ok) (h : cls3 t.n t.bits = true) (v u : Nat → Bool) (hvu : ∀ i, i < t.n → v i = true → u i = true) (hv : t.at v = true) : t.at u = true := by
  unfold cls3 at h; rw [List.all_eq_true] at h
  have key : ∀ j, j ≤ t.n → t.at (mix u v j) = true := by
    intro j
    induction j with
    | zero => exact fun _ => by rw [← hv]; exact t.at_congr fun i _ => by simp [mix]
    | succ j ih =>
      intro hj; (have h1 := ih (by omega)); by_cases e : v j = u j
      · rw [← h1]
        (refine t.at_congr fun i _ => ?_); unfold mix; by_cases hij : i < j
        · rw [if_pos hij, if_pos (by omega)]
        · by_cases hi : i = j
          · subst hi; rw [if_pos (by omega), if_neg hij, e]
          · rw [if_neg (by omega), if_neg hij]
      · have hvj : v j = false := by
          cases hb : v j
          · rfl
          · exact absurd (hb.trans (hvu j (by omega) hb).symm) e
        have huj : u j = true := by
          cases hb : u j
          · exact absurd (hvj.trans hb.symm) e
          · rfl
        (have h2 := h (idx t.n (mix u v j)) (List.mem_range.2 (by rw [hok.2]; exact idx_lt _ _))); rw [List.all_eq_true] at h2; (have h3 := h2 j (List.mem_range.2 (by omega)))
        have h4 : idx t.n (mix u v j) ||| 2 ^ j = idx t.n (mix u v (j + 1)) := by
          (refine bits_ext (Nat.or_lt_two_pow (idx_lt _ _) (Nat.pow_lt_pow_right (by omega) (by omega))) (idx_lt _ _) fun i hi => ?_); rw [Nat.testBit_or, idx_bit _ _ i hi, idx_bit _ _ i hi, Nat.testBit_two_pow]; unfold mix; by_cases hij : i < j
          · rw [if_pos hij, if_pos (by omega), decide_eq_false (by omega), Bool.or_false]
          · by_cases hi2 : i = j
            · subst hi2; rw [if_neg hij, if_pos (by omega), huj, decide_eq_true rfl, Bool.or_true]
            · rw [if_neg hij, if_neg (by omega), decide_eq_false (by omega), Bool.or_false]
        unfold Tb.at at h1 ⊢; rw [h4, h1] at h3; simpa using h3
  rw [← key t.n (Nat.le_refl _)]; (exact t.at_congr fun i hi => by unfold mix; rw [if_pos hi])
theorem gen_rise {ts : List Tb} (hok : ∀ t ∈ ts, t.Ok) (h : ∀ t ∈ ts, cls3 t.n t.bits = true) {f : Nat} (hg : Gen ts f) : f.testBit 0 = true → f.testBit 3 = true := by
  induction hg with
  | x => decide
  | y => decide
  | app t ht a _ ih =>
    (rw [putT_bit t a (by decide), putT_bit t a (by decide)]); exact cls3_at (hok t ht) (h t ht) _ _ ih

/-- A sum of values. -/
def affN (l : List Bool) (v : Nat → Bool) : Nat → Bool
  | 0 => l.getD 0 false
  | i + 1 => affN l v i ^^ ((l.getD (2 ^ i) false ^^ l.getD 0 false) && v i)
theorem sumTo_aff (l : List Bool) (v : Nat → Bool) : ∀ (k r : Nat), (∀ i, i < k → r.testBit i = v i) → sumTo l r k = affN l v k
  | 0, r, _ => rfl
  | k + 1, r, h => by
    (rw [sumTo, affN, sumTo_aff l v k r fun i hi => h i (by omega), h k (by omega)])
    cases l.getD (2 ^ k) false <;> cases l.getD 0 false <;> cases v k <;> cases affN l v k <;> rfl
theorem cls4_at {t : Tb} (hok : t.Ok) : cls4 t.n t.bits = true ↔ ∀ v, t.at v = affN t.bits v t.n := by
  unfold cls4; rw [List.all_eq_true]
  constructor
  · intro h v
    (have := h (idx t.n v) (List.mem_range.2 (by rw [hok.2]; exact idx_lt _ _))); (rw [sumTo_aff t.bits v t.n (idx t.n v) fun i hi => idx_bit _ _ i hi] at this); unfold Tb.at
    revert this
    cases affN t.bits v t.n <;> cases t.bits.getD (idx t.n v) false <;> simp
  · intro h r hr
    (have hr' : r < 2 ^ t.n := by rw [← hok.2]; exact List.mem_range.1 hr); have := h r.testBit; unfold Tb.at at this; rw [idx_of hr'] at this; (rw [this, sumTo_aff t.bits r.testBit t.n r fun i _ => rfl])
    simp
theorem aff_four (l : List Bool) (a b c d : Nat → Bool) : ∀ n, (∀ i, i < n → (a i ^^ b i ^^ c i ^^ d i) = false) → (affN l a n ^^ affN l b n ^^ affN l c n ^^ affN l d n) = false
  | 0, _ => by simp [affN]
  | n + 1, h => by
    (have h1 := aff_four l a b c d n fun i hi => h i (by omega)); (have h2 := h n (by omega)); rw [affN, affN, affN, affN]
    revert h1 h2
    cases affN l a n <;> cases affN l b n <;> cases affN l c n <;> cases affN l d n <;> cases a n <;> cases b n <;> cases c n <;> cases d n <;> cases (l.getD (2 ^ n) false ^^ l.getD 0 false) <;> decide
theorem gen_sum {ts : List Tb} (hok : ∀ t ∈ ts, t.Ok) (h : ∀ t ∈ ts, cls4 t.n t.bits = true) {f : Nat} (hg : Gen ts f) : (f.testBit 0 ^^ f.testBit 1 ^^ f.testBit 2 ^^ f.testBit 3) = false := by
  induction hg with
  | x => decide
  | y => decide
  | app t ht a _ ih =>
    have := (cls4_at (hok t ht)).1 (h t ht); (rw [putT_bit t a (by decide), putT_bit t a (by decide), putT_bit t a (by decide), putT_bit t a (by decide), this, this, this, this]); exact aff_four t.bits _ _ _ _ t.n ih

/-- What all tables keep, some function does not: not all are made. -/
theorem post_no {ts : List Tb} (hok : ∀ t ∈ ts, t.Ok) {i : Nat} (hi : i < 5) (h : allC ts i = true) : ¬ ∀ f, f < 16 → Gen ts f := by
  intro hg
  have hall : ∀ t ∈ ts, clsT i t = true := fun t ht => by
    unfold allC at h; rw [Bool.not_eq_true', List.any_eq_false] at h; simpa using h t ht
  rcases (by omega : i = 0 ∨ i = 1 ∨ i = 2 ∨ i = 3 ∨ i = 4) with rfl | rfl | rfl | rfl | rfl
  · exact absurd (gen_zero hall (hg 1 (by decide))) (by decide)
  · exact absurd (gen_one hok hall (hg 0 (by decide))) (by decide)
  · exact absurd (gen_dual hok hall (hg 0 (by decide))) (by decide)
  · exact absurd (gen_rise hok hall (hg 1 (by decide)) (by decide)) (by decide)
  · exact absurd (gen_sum hok hall (hg 8 (by decide))) (by decide)
end Go.Proofs.Ytffkoiemnchdgab
