/- Texts of one proof, one behind the other: Math13. -/
import Derived.Test.YtlmjnglcdgkomaaB12
/- Names, rising, each once: such a list is told by what is in it. -/
namespace Go.Proofs.Ytlmjnglcdgkomaa
open Go.Sort

abbrev Rising (l : List (List UInt8)) : Prop := l.Pairwise (· < ·)

theorem lt_irr (a : List UInt8) : ¬ a < a := List.lt_irrefl a
theorem lt_asy {a b : List UInt8} (h : a < b) : ¬ b < a := fun k => lt_irr a (List.lt_trans h k)
theorem lt_tot (a b : List UInt8) : a < b ∨ a = b ∨ b < a := by
  rcases Classical.em (a < b) with h | h
  · exact Or.inl h
  · rcases Classical.em (b < a) with k | k
    · exact Or.inr (Or.inr k)
    · exact Or.inr (Or.inl (List.le_antisymm (List.not_lt.1 k) (List.not_lt.1 h)))

theorem rising_ext : ∀ {l m : List (List UInt8)}, Rising l → Rising m → (∀ t, t ∈ l ↔ t ∈ m) → l = m
  | [], [], _, _, _ => rfl
  | [], b :: m, _, _, h => absurd ((h b).2 (List.mem_cons_self ..)) (by simp)
  | a :: l, [], _, _, h => absurd ((h a).1 (List.mem_cons_self ..)) (by simp)
  | a :: l, b :: m, hl, hm, h => by
    obtain ⟨hl1, hl2⟩ := List.pairwise_cons.1 hl; obtain ⟨hm1, hm2⟩ := List.pairwise_cons.1 hm
    have hab : a = b := by
      rcases List.mem_cons.1 ((h a).1 (List.mem_cons_self ..)) with e | e
      · exact e
      · rcases List.mem_cons.1 ((h b).2 (List.mem_cons_self ..)) with k | k
        · exact k.symm
        · exact absurd (hl1 b k) (lt_asy (hm1 a e))
    subst hab
    congr 1
    (refine rising_ext hl2 hm2 fun t => ⟨fun ht => ?_, fun ht => ?_⟩)
    · rcases List.mem_cons.1 ((h t).1 (List.mem_cons_of_mem _ ht)) with e | e
      · subst e; exact absurd (hl1 t ht) (lt_irr t)
      · exact e
    · rcases List.mem_cons.1 ((h t).2 (List.mem_cons_of_mem _ ht)) with e | e
      · subst e; exact absurd (hm1 t ht) (lt_irr t)
      · exact e

theorem nmsU_rising (f : Fm) : Rising (nmsU f) := by
  unfold nmsU
  have hs : (srt (nmsT f)).Pairwise (fun a b => decide (a ≤ b) = true) :=
    List.pairwise_mergeSort (fun a b c h1 h2 => by
      simp only [decide_eq_true_eq] at *
      exact List.le_trans h1 h2) (fun a b => by
      simp only [Bool.or_eq_true, decide_eq_true_eq]
      exact List.le_total a b) _
  generalize srt (nmsT f) = zs at *
  have hle : ∀ i j, i ≤ j → j < zs.length → zs.toArray[i]! ≤ zs.toArray[j]! := by
    intro i j hij hj; (rw [getElem!_pos _ i (by simp; omega), getElem!_pos _ j (by simpa using hj)]); simp only [List.getElem_toArray]
    rcases Nat.lt_or_ge i j with h | h
    · have := List.pairwise_iff_getElem.1 hs i j (by omega) hj h
      simpa using this
    · obtain rfl : i = j := by omega
      exact List.le_refl _
  unfold Lib.compact Lib.compactUpTo; rw [Rising, List.pairwise_map]; refine List.Pairwise.imp_of_mem ?_ ((List.pairwise_lt_range (n := zs.length)).filter _); intro i j hi hj hij; have hj1 := List.mem_range.1 (List.mem_filter.1 hj).1
  have hk : zs.toArray[j]! ≠ zs.toArray[j - 1]! := by
    have := (List.mem_filter.1 hj).2; simp only [Lib.keeps, decide_eq_true_eq] at this
    rcases this with h | h
    · omega
    · exact h
  (have h1 := hle i (j - 1) (by omega) (by omega)); (have h2 := hle (j - 1) j (by omega) hj1)
  rcases lt_tot zs.toArray[i]! zs.toArray[j]! with h | h | h
  · exact h
  · rw [h] at h1
    exact absurd (List.le_antisymm h1 h2) hk
  · exact absurd (hle i j (by omega) hj1) (List.not_le.2 h)

/-- A name at its place. -/
theorem rising_ins {l : List (List UInt8)} {t : List UInt8} {a : Nat} (hl : Rising l) (h1 : ∀ (j : Nat) (x : List UInt8), j < a → l[j]? = some x → x < t) (h2 : ∀ x, l[a]? = some x → ¬ x < t) (hn : t ∉ l) : Rising (l.take a ++ t :: l.drop a) := by
  have hd : ∀ x ∈ l.drop a, t < x := by
    intro x hx; obtain ⟨j, hj, rfl⟩ := List.getElem_of_mem hx; rw [List.length_drop] at hj; rw [List.getElem_drop]; (have hge : ¬ l[a]'(by omega) < t := h2 _ (List.getElem?_eq_getElem (by omega)))
    have hta : t < l[a]'(by omega) := by
      rcases lt_tot t (l[a]'(by omega)) with h | h | h
      · exact h
      · exact absurd (h ▸ List.getElem_mem (by omega)) hn
      · exact absurd h hge
    rcases Nat.eq_zero_or_pos j with e | e
    · subst e; simpa using hta
    · exact List.lt_trans hta (List.pairwise_iff_getElem.1 hl a (a + j) (by omega) (by omega) (by omega))
  rw [Rising, List.pairwise_append]; refine ⟨hl.sublist (List.take_sublist _ _), List.pairwise_cons.2 ⟨hd, hl.sublist (List.drop_sublist _ _)⟩, ?_⟩; intro x hx y hy; obtain ⟨j, hj, rfl⟩ := List.getElem_of_mem hx; rw [List.length_take] at hj; (have hxt : (l.take a)[j]'(by rw [List.length_take]; exact hj) < t := h1 j _ (by omega) (by rw [List.getElem_take]; exact List.getElem?_eq_getElem (by omega)))
  rcases List.mem_cons.1 hy with e | e
  · subst e; exact hxt
  · exact List.lt_trans hxt (hd y e)
end Go.Proofs.Ytlmjnglcdgkomaa
