/- Texts of one proof, one behind the other: ME4, MS1. -/
import Derived.Test.YtmahgfgndfcmpahB12
import Derived.Test.YtmahgfgndfcmpahB10
import Derived.Deep.QuietTactic
import Derived.BigQuiet
import Derived.Test.YtmahgfgndfcmpahB07
/- Walks: where a formula is true. -/
namespace Go.Proofs.Ytmahgfgndfcmpah
open Go.RowKit

/-- The worlds below N that u sees, as a list. -/
def seeR (N : Nat) (R : Nat → Nat → Bool) (u : Nat) : List Nat := (List.range N).filter (R u)
theorem kid_size {k : Int} {n : ByteArray} {ks : List Fm} {i : Nat} {f : Fm} (h : ks[i]? = some f) : f.size < (Fm.mk k n ks).size := by
  have hs : ∀ l : List Fm, f ∈ l → f.size ≤ Fm.sizes l := by
    intro l
    induction l with
    | nil => intro h; cases h
    | cons a tl ih =>
      intro h; rw [Fm.sizes]
      rcases List.mem_cons.1 h with rfl | h
      · omega
      · have := ih h; omega
  have := hs ks (List.mem_of_getElem? h); rw [Fm.size]; omega
theorem blk_secE (w : World) (o o' : Obj) : ((w.alloc o).alloc o').heap[w.heap.size + 1]? = some o' := by
  have := blk_new (w.alloc o) o'
  rwa [show (w.alloc o).heap.size = w.heap.size + 1 by simp] at this
end Go.Proofs.Ytmahgfgndfcmpah
/- Six formulas and six shapes, plain. -/
namespace Go.Proofs.Ytmahgfgndfcmpah

/-- All that P has Q has, below N. -/
def subB (N : Nat) (P Q : Nat → Bool) : Bool := decide (∀ i, i < N → P i = true → Q i = true)
def sh0 (N : Nat) (R : Nat → Nat → Bool) : Bool := (List.range N).all fun u => R u u
def sh1 (N : Nat) (R : Nat → Nat → Bool) : Bool := (List.range N).all fun u => (seeR N R u).all fun v => subB N (R v) (R u)
def sh2 (N : Nat) (R : Nat → Nat → Bool) : Bool := (List.range N).all fun u => (seeR N R u).all fun v => R v u
def sh3 (N : Nat) (R : Nat → Nat → Bool) : Bool := (List.range N).all fun u => (seeR N R u).all fun v => subB N (R u) (R v)
def sh4 (N : Nat) (R : Nat → Nat → Bool) : Bool := (List.range N).all fun u => !(seeR N R u).isEmpty
def sh5 (N : Nat) (R : Nat → Nat → Bool) : Bool := sh1 N R && (List.range N).all fun u => !R u u
theorem mem_seeR {N : Nat} {R : Nat → Nat → Bool} {u v : Nat} : v ∈ seeR N R u ↔ v < N ∧ R u v = true := by
  rw [seeR, List.mem_filter, List.mem_range]
section
variable {N : Nat} {R : Nat → Nat → Bool}
theorem sh0_iff : sh0 N R = true ↔ ∀ u, u < N → R u u = true := by
  rw [sh0, List.all_eq_true]; simp only [List.mem_range]
theorem sh1_iff : sh1 N R = true ↔ ∀ u v x, u < N → v < N → x < N → R u v = true → R v x = true → R u x = true := by
  rw [sh1, List.all_eq_true]; simp only [List.mem_range, List.all_eq_true, mem_seeR, subB, decide_eq_true_iff]; (exact ⟨fun h u v x h1 h2 h3 h4 h5 => h u h1 v ⟨h2, h4⟩ x h3 h5, fun h u h1 v h2 x h3 h4 => h u v x h1 h2.1 h3 h2.2 h4⟩)
theorem sh2_iff : sh2 N R = true ↔ ∀ u v, u < N → v < N → R u v = true → R v u = true := by
  rw [sh2, List.all_eq_true]; simp only [List.mem_range, List.all_eq_true, mem_seeR]; (exact ⟨fun h u v h1 h2 h3 => h u h1 v ⟨h2, h3⟩, fun h u h1 v h2 => h u v h1 h2.1 h2.2⟩)
theorem sh3_iff : sh3 N R = true ↔ ∀ u v x, u < N → v < N → x < N → R u v = true → R u x = true → R v x = true := by
  rw [sh3, List.all_eq_true]; simp only [List.mem_range, List.all_eq_true, mem_seeR, subB, decide_eq_true_iff]; (exact ⟨fun h u v x h1 h2 h3 h4 h5 => h u h1 v ⟨h2, h4⟩ x h3 h5, fun h u h1 v h2 x h3 h4 => h u v x h1 h2.1 h3 h2.2 h4⟩)
theorem sh4_iff : sh4 N R = true ↔ ∀ u, u < N → ∃ v, v < N ∧ R u v = true := by
  rw [sh4, List.all_eq_true]; simp only [List.mem_range]; (refine forall_congr' fun u => forall_congr' fun _ => ?_)
  constructor
  · intro h
    cases hs : seeR N R u with
    | nil => rw [hs] at h; simp at h
    | cons v l => exact ⟨v, mem_seeR.1 (by rw [hs]; simp)⟩
  · rintro ⟨v, hv⟩
    have := mem_seeR.2 hv
    cases hs : seeR N R u with
    | nil => rw [hs] at this; cases this
    | cons v l => rfl
theorem sh5_iff : sh5 N R = true ↔ sh1 N R = true ∧ ∀ u, u < N → R u u = false := by
  rw [sh5, Bool.and_eq_true, List.all_eq_true]; simp only [List.mem_range, Bool.not_eq_true']
end
/-- The name p, and the six formulas. -/
def nPm : ByteArray := ⟨#[112]⟩
def fPm : Fm := .mk 1 nPm []
def bx (f : Fm) : Fm := .mk 8 ⟨#[]⟩ [f]
def di (f : Fm) : Fm := .mk 9 ⟨#[]⟩ [f]
def im (f g : Fm) : Fm := .mk 7 ⟨#[]⟩ [f, g]
def six : List Fm := [im (bx fPm) fPm, im (bx fPm) (bx (bx fPm)), im fPm (bx (di fPm)), im (di fPm) (bx (di fPm)), im (bx fPm) (di fPm), im (bx (im (bx fPm) fPm)) (bx fPm)]
theorem mtv_fPm (S : Nat → List Nat) (V : Nat → Bool) : mtv S (fun u _ => V u) fPm = V := by
  funext u
  rw [fPm, mtv, mtvs]; rfl
/-- True at all worlds, whatever p is. -/
def Val (N : Nat) (R : Nat → Nat → Bool) (f : Fm) : Prop := ∀ V : Nat → Bool, ∀ u, u < N → mtv (seeR N R) (fun u _ => V u) f u = true
section
variable {N : Nat} {R : Nat → Nat → Bool}
theorem bx_at {V : Nat → Bool} {f : Fm} {u : Nat} : mtv (seeR N R) (fun u _ => V u) (bx f) u = true ↔ ∀ v, v < N → R u v = true → mtv (seeR N R) (fun u _ => V u) f v = true := by
  rw [bx, mtv_box, List.all_eq_true]; simp only [mem_seeR, and_imp]
theorem di_at {V : Nat → Bool} {f : Fm} {u : Nat} : mtv (seeR N R) (fun u _ => V u) (di f) u = true ↔ ∃ v, v < N ∧ R u v = true ∧ mtv (seeR N R) (fun u _ => V u) f v = true := by
  rw [di, mtv_dia, List.any_eq_true]; simp only [mem_seeR, and_assoc]
theorem im_at {V : Nat → Bool} {f g : Fm} {u : Nat} : mtv (seeR N R) (fun u _ => V u) (im f g) u = true ↔ (mtv (seeR N R) (fun u _ => V u) f u = true → mtv (seeR N R) (fun u _ => V u) g u = true) := by
  rw [im, mtv_then]; (show (!mtv (seeR N R) (fun u _ => V u) f u || mtv (seeR N R) (fun u _ => V u) g u) = true ↔ _); (generalize mtv (seeR N R) (fun u _ => V u) f u = x); (generalize mtv (seeR N R) (fun u _ => V u) g u = y)
  cases x <;> cases y <;> simp
theorem p_at {V : Nat → Bool} {u : Nat} : mtv (seeR N R) (fun u _ => V u) fPm u = true ↔ V u = true := by rw [mtv_fPm]
theorem val0 : Val N R (im (bx fPm) fPm) ↔ sh0 N R = true := by
  rw [sh0_iff]
  constructor
  · intro h u hu
    have := h (R u) u hu; rw [im_at, bx_at, p_at] at this; (exact this fun v _ hv => p_at.2 hv)
  · intro h V u hu
    rw [im_at, bx_at]; (exact fun h1 => h1 u hu (h u hu))
theorem val1 : Val N R (im (bx fPm) (bx (bx fPm))) ↔ sh1 N R = true := by
  rw [sh1_iff]
  constructor
  · intro h u v x hu hv hx h1 h2
    have := h (R u) u hu; rw [im_at, bx_at, bx_at] at this; (have := this (fun v _ hv => p_at.2 hv) v hv h1); rw [bx_at] at this; exact p_at.1 (this x hx h2)
  · intro h V u hu
    rw [im_at, bx_at, bx_at]; intro h1 v hv h2; rw [bx_at]; (exact fun x hx h3 => h1 x hx (h u v x hu hv hx h2 h3))
theorem val2 : Val N R (im fPm (bx (di fPm))) ↔ sh2 N R = true := by
  rw [sh2_iff]
  constructor
  · intro h u v hu hv h1
    (have := h (fun y => y == u) u hu); rw [im_at, bx_at, p_at] at this; (have := this (by simp) v hv h1); rw [di_at] at this; obtain ⟨x, hx, h2, h3⟩ := this; rw [p_at] at h3; (have : x = u := by simpa using h3); rw [← this]; rw [this] at h2 ⊢; exact h2
  · intro h V u hu
    rw [im_at, bx_at]; intro h1 v hv h2; rw [di_at]; exact ⟨u, hu, h u v hu hv h2, h1⟩
theorem val3 : Val N R (im (di fPm) (bx (di fPm))) ↔ sh3 N R = true := by
  rw [sh3_iff]
  constructor
  · intro h u v x hu hv hx h1 h2
    (have := h (fun y => y == x) u hu); rw [im_at, bx_at, di_at] at this; (have := this ⟨x, hx, h2, p_at.2 (by simp)⟩ v hv h1); rw [di_at] at this; obtain ⟨y, hy, h3, h4⟩ := this; rw [p_at] at h4; (have : y = x := by simpa using h4); rw [← this]; exact h3
  · intro h V u hu
    rw [im_at, bx_at, di_at]; rintro ⟨x, hx, h1, h2⟩ v hv h3; rw [di_at]; exact ⟨x, hx, h u v x hu hv hx h3 h1, h2⟩
theorem val4 : Val N R (im (bx fPm) (di fPm)) ↔ sh4 N R = true := by
  rw [sh4_iff]
  constructor
  · intro h u hu
    (have := h (fun _ => true) u hu); rw [im_at, bx_at, di_at] at this; (obtain ⟨v, hv, h1, -⟩ := this fun v _ _ => p_at.2 rfl); exact ⟨v, hv, h1⟩
  · intro h V u hu
    rw [im_at, bx_at, di_at]; intro h1; obtain ⟨v, hv, h2⟩ := h u hu; exact ⟨v, hv, h2, h1 v hv h2⟩
theorem val5 : Val N R (im (bx (im (bx fPm) fPm)) (bx fPm)) ↔ sh5 N R = true := by
  rw [sh5_iff, sh1_iff]
  constructor
  · intro h
    (refine ⟨fun u v x hu hv hx h1 h2 => ?_, fun u hu => ?_⟩)
    · cases hux : R u x with
      | true => rfl
      | false =>
        (have := h (fun y => !(y == v) && !(y == x)) u hu); rw [im_at, bx_at, bx_at] at this
        have := this (fun y hy h3 => by
          rw [im_at, p_at, bx_at]; intro h4; (have e2 : y ≠ x := fun e => by rw [e, hux] at h3; cases h3); by_cases e1 : y = v
          · have := h4 x hx (by rw [e1]; exact h2)
            rw [p_at] at this; simp at this
          · simp [e1, e2]) v hv h1
        rw [p_at] at this; simp at this
    · cases huu : R u u with
      | false => rfl
      | true =>
        (have := h (fun y => !(y == u)) u hu); rw [im_at, bx_at, bx_at] at this
        have := this (fun y hy h3 => by
          rw [im_at, p_at, bx_at]; intro h4; by_cases e1 : y = u
          · have := h4 u hu (by rw [e1]; exact huu)
            rw [p_at] at this; simp at this
          · simp [e1]) u hu huu
        rw [p_at] at this; simp at this
  · rintro ⟨ht, hi⟩ V u hu
    rw [im_at, bx_at, bx_at]; intro h
    have key : ∀ (n v : Nat), (seeR N R v).length < n → v < N → R u v = true → V v = true := by
      intro n
      induction n with
      | zero => intro v h; exact absurd h (Nat.not_lt_zero _)
      | succ n ih =>
        intro v hn hv h1; have h2 := h v hv h1; rw [im_at, p_at, bx_at] at h2; (refine h2 fun x hx h3 => p_at.2 (ih x ?_ hx (ht u v x hu hv hx h1 h3)))
        have hs : (seeR N R x).length < (seeR N R v).length := by
          have e : seeR N R x = (seeR N R v).filter (R x) := by
            rw [seeR, seeR, List.filter_filter]; (refine List.filter_congr fun y hy => ?_); rw [List.mem_range] at hy
            cases hxy : R x y with
            | false => rfl
            | true => rw [ht v x y hv hx hy h3 hxy]; rfl
          rw [e]
          rcases Nat.lt_or_ge ((seeR N R v).filter (R x)).length (seeR N R v).length with h4 | h4
          · exact h4
          · have h5 := List.length_filter_le (R x) (seeR N R v)
            (have h6 : (seeR N R v).filter (R x) = seeR N R v := List.filter_sublist.eq_of_length (by omega)); (have h7 : x ∈ (seeR N R v).filter (R x) := by rw [h6]; exact mem_seeR.2 ⟨hx, h3⟩); have := (List.mem_filter.1 h7).2; rw [hi x hx] at this
            cases this
        omega
    (exact fun v hv h1 => p_at.2 (key _ v (Nat.lt_succ_self _) hv h1))
end
end Go.Proofs.Ytmahgfgndfcmpah
