/- Texts of one proof, one behind the other: TV0. -/
import Derived.Test.YtlmjnglcdgkomaaB23
import Derived.Test.YtlmjnglcdgkomaaB12
/- The plain mathematics of TruthValues: a row as a list of names, and as digits. -/
namespace Go.Proofs.Ytlmjnglcdgkomaa
open Go.Sort

theorem tv_congr (p q : List UInt8 → Bool) : ∀ (m : Nat) (f : Fm), f.size ≤ m → Fine f → (∀ t ∈ nmsT f, p t = q t) → tv p f = tv q f
  | 0, .mk k n ks, h, _, _ => by rw [Fm.size] at h; omega
  | m + 1, f, h, hf, hpq => by
    rcases hf.forms with ⟨n, rfl, hn⟩ | rfl | rfl | ⟨k, g, hk, rfl, hg⟩ | ⟨k, g, g', hk, rfl, hg, hg'⟩
    · rw [tv_name, tv_name]
      (exact hpq _ (by unfold nmsT; rw [allN_leaf]; simp [nmsOf]))
    · rw [tv_true, tv_true]
    · rw [tv_false, tv_false]
    · rw [size_one] at h
      have hsub : ∀ t ∈ nmsT g, t ∈ nmsT (.mk k ⟨#[]⟩ [g]) := fun t ht => by
        unfold nmsT at *; rw [allN_one, nmsOf]
        split
        · rw [List.map_cons]; exact List.mem_cons_of_mem _ ht
        · exact ht
      (have ih := tv_congr p q m g (by omega) hg fun t ht => hpq t (hsub t ht)); rw [tv, tvs, tvs, tv, tvs, tvs, ih]
      rcases hk with rfl | rfl | rfl <;> rfl
    · rw [size_two] at h
      have hsub : ∀ t, t ∈ nmsT g ∨ t ∈ nmsT g' → t ∈ nmsT (.mk k ⟨#[]⟩ [g, g']) := fun t ht => by
        unfold nmsT at *; rw [allN_two, nmsOf]
        have : t ∈ (nmsOf (allN g ++ allN g')).map (·.data.toList) := by
          rw [nmsOf_append, List.map_append, List.mem_append]; exact ht
        split
        · rw [List.map_cons]; exact List.mem_cons_of_mem _ this
        · exact this
      (have ih := tv_congr p q m g (by omega) hg fun t ht => hpq t (hsub t (Or.inl ht))); (have ih' := tv_congr p q m g' (by omega) hg' fun t ht => hpq t (hsub t (Or.inr ht))); rw [tv, tvs, tvs, tvs, tv, tvs, tvs, tvs, ih, ih']
      rcases hk with rfl | rfl | rfl <;> rfl

theorem rowN_mem (r : Nat) : ∀ (l : List (List UInt8)) (i : Nat) (t : List UInt8), t ∈ rowN r l i ↔ ∃ j, l[j]? = some t ∧ r.testBit (i + j) = true
  | [], i, t => by simp [rowN]
  | s :: l, i, t => by
    rw [rowN]; have ih := rowN_mem r l (i + 1) t
    have hsp : (∃ j, (s :: l)[j]? = some t ∧ r.testBit (i + j) = true) ↔ (s = t ∧ r.testBit i = true) ∨ ∃ j, l[j]? = some t ∧ r.testBit (i + 1 + j) = true := by
      constructor
      · rintro ⟨j, h1, h2⟩
        cases j with
        | zero => simp at h1; exact Or.inl ⟨h1, by simpa using h2⟩
        | succ j => exact Or.inr ⟨j, by simpa using h1, by rw [show i + 1 + j = i + (j + 1) by omega]; exact h2⟩
      · rintro (⟨h1, h2⟩ | ⟨j, h1, h2⟩)
        · exact ⟨0, by simp [h1], by simpa using h2⟩
        · exact ⟨j + 1, by simpa using h1, by rw [show i + (j + 1) = i + 1 + j by omega]; exact h2⟩
    rw [hsp]
    split
    · rename_i hb
      rw [List.mem_cons, ih]
      constructor
      · rintro (h | h)
        · exact Or.inl ⟨h.symm, hb⟩
        · exact Or.inr h
      · rintro (⟨h, -⟩ | h)
        · exact Or.inl h.symm
        · exact Or.inr h
    · rename_i hb
      rw [ih]
      constructor
      · exact Or.inr
      · rintro (⟨-, h⟩ | h)
        · exact absurd h hb
        · exact h

/-- A name of the list is true in a row just where its digit is 1. -/
theorem row_digit {l : List (List UInt8)} (hn : l.Nodup) (r : Nat) {t : List UInt8} (ht : t ∈ l) : decide (t ∈ rowN r l 0) = colP r l t := by
  obtain ⟨i, hi, hit⟩ := List.getElem_of_mem ht; (have hg : l[i]? = some t := by rw [List.getElem?_eq_getElem hi, hit]); have hix := idxOf_of_get hn hg; unfold colP; rw [if_pos ht, hix]
  rcases hb : r.testBit i with _ | _
  · refine decide_eq_false fun h => ?_
    obtain ⟨j, h1, h2⟩ := (rowN_mem r l 0 t).1 h; have := idxOf_of_get hn h1; rw [Nat.zero_add] at h2; (have hji : j = i := by omega); rw [hji, hb] at h2
    cases h2
  · exact decide_eq_true ((rowN_mem r l 0 t).2 ⟨i, hg, by rw [Nat.zero_add]; exact hb⟩)

theorem tv_row {f : Fm} (hf : Fine f) (l : List (List UInt8)) (hn : l.Nodup) (hl : ∀ t ∈ nmsT f, t ∈ l) (r : Nat) : tv (fun t => decide (t ∈ rowN r l 0)) f = tv (colP r l) f :=
  tv_congr _ _ f.size f (Nat.le_refl _) hf fun t ht => row_digit hn r (hl t ht)

theorem colL_get (f : Fm) (l : List (List UInt8)) (r : Nat) (hr : r < 2 ^ l.length) : (colL f l)[r]? = some (tv (colP r l) f) := by
  unfold colL; rw [List.getElem?_map, List.getElem?_range hr]; rfl

theorem fIdx_snoc (l : List Bool) (x : Bool) : fIdx (l ++ [x]) false = if fIdx l false < 0 ∧ x = false then (l.length : Int) else fIdx l false := by
  unfold fIdx; by_cases hm : false ∈ l
  · rw [if_pos hm, if_pos (List.mem_append_left _ hm), List.idxOf_append, if_pos hm, if_neg (by omega)]
  · rw [if_neg hm]
    cases x
    · rw [if_pos (by simp), List.idxOf_append, if_neg hm]
      simp
    · rw [if_neg (by simp [hm])]
      simp
end Go.Proofs.Ytlmjnglcdgkomaa
