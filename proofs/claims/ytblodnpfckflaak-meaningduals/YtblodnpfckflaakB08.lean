/- Texts of one proof, one behind the other: Tr3, Open2. -/
import Derived.Test.YtblodnpfckflaakB01
import Derived.Test.YtblodnpfckflaakB04
import Derived.Maps.OwnSet
import Derived.Maps.OwnOps
/- Walks: plainFault; names' places in a map; what is asked of them. -/
namespace Go.Proofs.Ytblodnpfckflaak
open Go.RowKit Go.Maps Go.WideMaps

/-! A list of texts in memory, wherever it begins. -/
def SL (w : World) (v : Value) (l : List (List UInt8)) : Prop := ∃ ad cap, v = .slice ad l.length cap ∧ l.length ≤ cap ∧ cap ≤ maxLen ∧ (l ≠ [] → ∃ g off, ad = some ⟨g, off, none⟩ ∧ ∀ (j : Nat) (t : List UInt8), l[j]? = some t → w.cell? ⟨g, off + j, none⟩ = some (.string ⟨t.toArray⟩))
theorem SL.up {w w' : World} {v : Value} {l : List (List UInt8)} (h : SL w v l) (hb : Below w.heap.size w w') : SL w' v l := by
  obtain ⟨ad, cap, h1, h2, h3, h4⟩ := h; (refine ⟨ad, cap, h1, h2, h3, fun hne => ?_⟩); obtain ⟨g, off, h5, h6⟩ := h4 hne
  exact ⟨g, off, h5, fun j t ht => by
    have := h6 j t ht; rw [hb.cell (p := ⟨g, off + j, none⟩) (lt_of_cell this)]
    exact this⟩

theorem strKeyed : Keyed Try.prog 9 := string_keyed Try.underlying9
theorem zeroInt (w : World) : (zeroValue 3).run Try.prog w = .ok (.int .i64 0) w := by kernel_rfl
theorem keyStr (t : List UInt8) (h : t.length ≤ maxLen) : keyOf Try.prog 9 (.string ⟨t.toArray⟩) = some (.string t) :=
  keyOf_string_mk Try.underlying9 (s := ⟨t.toArray⟩) (by simpa [ByteArray.size] using h)

end Go.Proofs.Ytblodnpfckflaak
/- A list of texts that came in, as data. -/
namespace Go.Proofs.Ytblodnpfckflaak
open Go.RowKit Go.Deep

section
variable {H : Type} {enc : TypeId × Value → H} {W : World} {spare : Nat → Bool} {held : Bool}

theorem sl_of_trod (fuel : Nat) (cs : List Value) (x : DataW H × List MemPlace) (h : DataW.trod enc Try.prog W 0 spare held fuel 30 cs = some x) :
    ∃ v l, cs = [v] ∧ SL W v l ∧ ∀ t ∈ l, t.length ≤ maxLen := by
  rcases open_strs Try.underlying30 Try.underlying9 cells9 h with ⟨rfl, -⟩ | ⟨a, len, cap, m, Sx, rfl, -, hl, hm, hmm, -, hc⟩
  · exact ⟨_, [], rfl, ⟨none, 0, rfl, by simp, by simp, fun h => absurd rfl h⟩, fun t h => by cases h⟩
  · have hlm : len ≤ m := by rw [hmm]; split <;> omega
    obtain ⟨b, off, spot⟩ := a; (refine ⟨_, (List.range len).map fun i => (Sx i).data.toList, rfl, ⟨some ⟨b, off, spot⟩, cap, by simp, by simpa using hl, hm, fun hne => ?_⟩, fun t ht => ?_⟩)
    · have h0 : 0 < len := by
        rcases Nat.eq_zero_or_pos len with h | h
        · subst h; simp at hne
        · exact h
      have hsp : spot = none := by
        (have := (hc 0 (by omega)).1); simp [Addr.add] at this; simpa using World.cell?_spot this
      subst hsp; (refine ⟨b, off, rfl, fun j t ht => ?_⟩)
      have hj : j < len := by
        rcases Nat.lt_or_ge j len with h | h
        · exact h
        · rw [List.getElem?_eq_none (by simpa using h)] at ht; cases ht
      rw [List.getElem?_map, List.getElem?_range hj] at ht; (have := (hc j (by omega)).1); rw [add_none] at this; rw [this]; simp at ht; subst ht; rfl
    · obtain ⟨i, hi, rfl⟩ := List.mem_map.1 ht
      (have := (hc i (by have := List.mem_range.1 hi; omega)).2); have e : (Sx i).data.toList.length = (Sx i).size := Array.length_toList; omega
end
end Go.Proofs.Ytblodnpfckflaak
