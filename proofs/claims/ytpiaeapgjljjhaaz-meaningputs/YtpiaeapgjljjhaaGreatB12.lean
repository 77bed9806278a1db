/- Texts of one proof, one behind the other: Open2. -/
import Derived.Test.YtpiaeapgjljjhaaGreatB06
import Derived.Test.YtpiaeapgjljjhaaGreatB08
/- A list of texts that came in, as data. -/
namespace Go.Proofs.YtpiaeapgjljjhaaGreat
open Go.RowKit Go.Deep

section
variable {H : Type} {enc : TypeId × Value → H} {W : World} {spare : Nat → Bool} {held : Bool}

theorem sl_of_trod (fuel : Nat) (cs : List Value) (x : DataW H × List MemPlace) (h : DataW.trod enc Tryz.prog W 0 spare held fuel 34 cs = some x) :
    ∃ v l, cs = [v] ∧ SL W v l ∧ ∀ t ∈ l, t.length ≤ maxLen := by
  rcases open_strs Tryz.underlying34 Tryz.underlying9 cells9 h with ⟨rfl, -⟩ | ⟨a, len, cap, m, Sx, rfl, -, hl, hm, hmm, -, hc⟩
  · exact ⟨_, [], rfl, ⟨none, 0, rfl, by simp, by simp, fun h => absurd rfl h⟩, fun t h => by cases h⟩
  · have hlm : len ≤ m := by rw [hmm]; split <;> omega
    obtain ⟨b, off, spot⟩ := a; (refine ⟨_, (List.range len).map fun i => (Sx i).data.toList, rfl, ⟨some ⟨b, off, spot⟩, cap, by simp, by simpa using hl, hm, fun hne => ?_⟩, fun t ht => ?_⟩)
    · have h0 : 0 < len := by
        rcases Nat.eq_zero_or_pos len with h | h
        · subst h; simp at hne
        · exact h
      have hsp : spot = none := by
        (have := (hc 0 (by omega)).1); simp [Addr.add] at this; simpa using World.cell?_spot this
      subst hsp; (refine ⟨b, off, rfl, fun j t ht => ?_⟩)
      have hj : j < len := by
        rcases Nat.lt_or_ge j len with h | h
        · exact h
        · rw [List.getElem?_eq_none (by simpa using h)] at ht; cases ht
      rw [List.getElem?_map, List.getElem?_range hj] at ht; (have := (hc j (by omega)).1); rw [add_none] at this; rw [this]; simp at ht; subst ht; rfl
    · obtain ⟨i, hi, rfl⟩ := List.mem_map.1 ht
      (have := (hc i (by have := List.mem_range.1 hi; omega)).2); have e : (Sx i).data.toList.length = (Sx i).size := Array.length_toList; omega
end
end Go.Proofs.YtpiaeapgjljjhaaGreat
