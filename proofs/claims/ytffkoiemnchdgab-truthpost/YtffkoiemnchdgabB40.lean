/- Texts of one proof, one behind the other: TP4. -/
import Derived.Test.YtffkoiemnchdgabB39
/- What Makes reaches, plain. -/
namespace Go.Proofs.Ytffkoiemnchdgab
open Go.RowKit

/-- The j-th of the arguments that k stands for. -/
def dig (k j : Nat) : Nat := k / 2 ^ (4 * j) % 16
def digs (n k : Nat) : List Nat := (List.range n).map (dig k)
theorem dig_lt (k j : Nat) : dig k j < 16 := Nat.mod_lt _ (by decide)
theorem digs_len (n k : Nat) : (digs n k).length = n := by simp [digs]
theorem digs_get {n k j : Nat} (h : j < n) : (digs n k)[j]? = some (dig k j) := by
  unfold digs; rw [List.getElem?_map, List.getElem?_range h]; rfl

/-- Each list of arguments is stood for. -/
theorem digs_of : ∀ (a : List Nat), (∀ x ∈ a, x < 16) → ∃ k, k < 2 ^ (4 * a.length) ∧ digs a.length k = a
  | [], _ => ⟨0, by decide, rfl⟩
  | x :: a, h => by
    (obtain ⟨k, hk, hd⟩ := digs_of a fun y hy => h y (List.mem_cons_of_mem _ hy)); have hx := h x List.mem_cons_self
    have hp : 2 ^ (4 * (a.length + 1)) = 16 * 2 ^ (4 * a.length) := by
      (rw [show 4 * (a.length + 1) = 4 * a.length + 4 by omega, Nat.pow_add]); omega
    refine ⟨k * 16 + x, ?_, ?_⟩
    · rw [List.length_cons, hp]
      omega
    · unfold digs at hd ⊢
      rw [List.length_cons, List.range_succ_eq_map, List.map_cons, List.map_map]
      congr 1
      · unfold dig
        simp only [Nat.mul_zero, Nat.pow_zero, Nat.div_one]; omega
      · rw [← hd]
        simp only [List.length_map, List.length_range]; (refine List.map_congr_left fun j _ => ?_); show dig (k * 16 + x) (j + 1) = dig k j; unfold dig; (rw [show 4 * (j + 1) = 4 + 4 * j by omega, Nat.pow_add, ← Nat.div_div_eq_div_mul])
        have : (k * 16 + x) / 2 ^ 4 = k := by
          rw [show (2 : Nat) ^ 4 = 16 from rfl]; omega
        rw [this]

def closedT (t : Tb) (S : Nat → Bool) : Prop := ∀ k, k < 2 ^ (4 * t.n) → (∀ j, j < t.n → S (dig k j) = true) → S (putT t (argN (digs t.n k))) = true
def miss (S : Nat → Bool) : Nat := ((List.range 16).filter fun i => !S i).length
def addS (S : Nat → Bool) (f i : Nat) : Bool := S i || decide (i = f)

theorem filter_le {p q : Nat → Bool} (h : ∀ i, p i = true → q i = true) : ∀ l : List Nat, (l.filter p).length ≤ (l.filter q).length
  | [] => Nat.le_refl _
  | i :: l => by
    have ih := filter_le h l; rw [List.filter_cons, List.filter_cons]
    cases hp : p i
    · rw [if_neg (by decide)]
      split
      · rw [List.length_cons]; omega
      · exact ih
    · rw [if_pos rfl, if_pos (h i hp)]
      simp only [List.length_cons]; omega
theorem filter_lt {p q : Nat → Bool} (h : ∀ i, p i = true → q i = true) {f : Nat} (hq : q f = true) (hp : p f = false) : ∀ l : List Nat, f ∈ l → (l.filter p).length < (l.filter q).length
  | [], hf => by cases hf
  | i :: l, hf => by
    rw [List.filter_cons, List.filter_cons]; by_cases e : i = f
    · subst e
      (rw [if_neg (by rw [hp]; decide), if_pos hq, List.length_cons]); have := filter_le h l; omega
    · have hf' : f ∈ l := by
        rcases List.mem_cons.1 hf with h1 | h1
        · exact absurd h1.symm e
        · exact h1
      have ih := filter_lt h hq hp l hf'
      cases hpi : p i
      · rw [if_neg (by decide)]
        split
        · rw [List.length_cons]; omega
        · exact ih
      · rw [if_pos rfl, if_pos (h i hpi)]
        simp only [List.length_cons]; omega
theorem miss_add {S : Nat → Bool} {f : Nat} (hf : f < 16) (h : S f = false) : miss (addS S f) < miss S := by
  unfold miss; (refine filter_lt (fun i hi => ?_) (f := f) (by rw [h]; rfl) (by simp [addS]) _ (List.mem_range.2 hf)); unfold addS at hi
  cases hs : S i
  · rfl
  · rw [hs] at hi; simp at hi

/-- What is closed has all that is made. -/
theorem gen_in {ts : List Tb} {S : Nat → Bool} (hx : S 10 = true) (hy : S 12 = true) (hc : ∀ t ∈ ts, closedT t S) {f : Nat} (h : Gen ts f) : S f = true := by
  induction h with
  | x => exact hx
  | y => exact hy
  | app t ht a hg ih =>
    obtain ⟨k, hk, hd⟩ := digs_of ((List.range t.n).map a) fun x hx => by
      obtain ⟨j, hj, rfl⟩ := List.mem_map.1 hx; exact (hg j (List.mem_range.1 hj)).lt
    simp only [List.length_map, List.length_range] at hk hd
    have hdj : ∀ j, j < t.n → dig k j = a j := fun j hj => by
      (have := congrArg (fun l => l[j]?) hd); simp only [digs_get hj, List.getElem?_map, List.getElem?_range hj, Option.map_some] at this; exact Option.some.inj this
    (have := hc t ht k hk fun j hj => by rw [hdj j hj]; exact ih j hj)
    have e : putT t (argN (digs t.n k)) = putT t a := by
      unfold putT; (refine idx_congr fun r _ => t.at_congr fun i hi => ?_); unfold argN; rw [List.getD_eq_getElem?_getD, digs_get hi, Option.getD_some, hdj i hi]
    rwa [e] at this

/-- All sixteen bools of an array. -/
def Is (w : World) (b : Nat) (S : Nat → Bool) : Prop := ∃ A : Array Value, w.heap[b]? = some (.cells A 74 (0, 0)) ∧ ∀ i, i < 16 → A[i]? = some (.bool (S i))
theorem Is.cell {w : World} {b : Nat} {S : Nat → Bool} (h : Is w b S) {i : Nat} (hi : i < 16) : w.cell? ⟨b, i, none⟩ = some (.bool (S i)) := by
  obtain ⟨A, h1, h2⟩ := h; rw [blk_cell h1, h2 i hi]
theorem Is.frozen {w : World} {b : Nat} {S : Nat → Bool} (h : Is w b S) (i : Nat) : w.frozen? ⟨b, i, none⟩ = false := by
  obtain ⟨A, h1, -⟩ := h; exact blk_fz h1 i
theorem Is.lt {w : World} {b : Nat} {S : Nat → Bool} (h : Is w b S) : b < w.heap.size := by
  obtain ⟨A, h1, -⟩ := h; exact lt_of_block h1
theorem Is.keep {w w' : World} {b : Nat} {S : Nat → Bool} (h : Is w b S) (hb : w'.heap[b]? = w.heap[b]?) : Is w' b S := by
  obtain ⟨A, h1, h2⟩ := h; exact ⟨A, hb.trans h1, h2⟩
theorem Is.put {w : World} {b : Nat} {S : Nat → Bool} (h : Is w b S) {f : Nat} (hf : f < 16) : Is (w.setCell ⟨b, f, none⟩ (.bool true)) b (addS S f) := by
  obtain ⟨A, h1, h2⟩ := h; (refine ⟨A.setIfInBounds f (.bool true), set_cell h1 _, fun i hi => ?_⟩); unfold addS; by_cases e : i = f
  · subst e
    rw [Array.getElem?_setIfInBounds_self_of_lt (by
      have := h2 i hi
      rcases Nat.lt_or_ge i A.size with h' | h'
      · exact h'
      · rw [Array.getElem?_eq_none h'] at this; cases this)]
    simp
  · rw [Array.getElem?_setIfInBounds_ne (Ne.symm e), h2 i hi]
    simp [e]

theorem shl_arg (N : Nat) (h : N ≤ 4) : wrap64 ((2 : Int) ^ (4 * N)) = ((2 ^ (4 * N) : Nat) : Int) ∧ 2 ^ (4 * N) ≤ 65536 := by
  rcases (by omega : N = 0 ∨ N = 1 ∨ N = 2 ∨ N = 3 ∨ N = 4) with rfl | rfl | rfl | rfl | rfl <;> exact ⟨by unfold wrap64; decide, by decide⟩
theorem dig_bits (k j : Nat) (hk : k ≤ 65536) : bits BinOp.and IntKind.i64 ((k : Int) / 2 ^ (4 * j)) 15 = ((dig k j : Nat) : Int) := by
  have hd : ((k : Int) / 2 ^ (4 * j)) = ((k / 2 ^ (4 * j) : Nat) : Int) := by
    rw [Int.natCast_ediv]; simp
  have hle : k / 2 ^ (4 * j) ≤ 65536 := Nat.le_trans (Nat.div_le_self _ _) hk; (have e : (2 : Nat) ^ 62 = 4611686018427387904 := by decide); rw [hd]; (have h := (bits_nat .i64 62 (by decide) wraps_i64 (k / 2 ^ (4 * j)) 15 (by omega) (by decide)).1); have h' : bits BinOp.and IntKind.i64 ((k / 2 ^ (4 * j) : Nat) : Int) 15 = (((k / 2 ^ (4 * j)) &&& 15 : Nat) : Int) := h; rw [h', show (15 : Nat) = 2 ^ 4 - 1 from rfl, Nat.and_two_pow_sub_one_eq_mod]; rfl
end Go.Proofs.Ytffkoiemnchdgab
