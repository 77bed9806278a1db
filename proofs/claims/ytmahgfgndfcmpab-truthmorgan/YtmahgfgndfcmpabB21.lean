/- Texts of one proof, one behind the other: Parts1, Open2. -/
import Derived.Test.YtmahgfgndfcmpabB17
import Derived.Test.YtmahgfgndfcmpabB09
import Derived.Test.YtmahgfgndfcmpabB16
/- Walks: lists of texts and of formulas, as the yardstick compares them. -/
namespace Go.Proofs.Ytmahgfgndfcmpab
open Go.RowKit

set_option maxHeartbeats 1000000 in
theorem texts_same (l : List (List UInt8)) (v u : Value) (w : World) (h : TL w v l) (h' : TL w u l) :
    Calls Try.prog 38 #[v, u] w fun e w' => e = .returned (.bool true) ∧ Below w.heap.size w w' := by
  obtain ⟨ad, cap, rfl, h1, h2, h3⟩ := h; obtain ⟨ad', cap', rfl, h1', h2', h3'⟩ := h'; (have hlI : (l.length : Int) ≤ 9223372036854775807 := by unfold maxLen at h2; omega); have H3 : Hid (l ≠ [] → ∃ g, ad = some ⟨g, 0, none⟩ ∧ ∀ (j : Nat) (t : List UInt8), l[j]? = some t → w.cell? ⟨g, j, none⟩ = some (.string ⟨t.toArray⟩)) := h3; have H4 : Hid (l ≠ [] → ∃ g, ad' = some ⟨g, 0, none⟩ ∧ ∀ (j : Nat) (t : List UInt8), l[j]? = some t → w.cell? ⟨g, j, none⟩ = some (.string ⟨t.toArray⟩)) := h3'; clear h3 h3'
  go_enter Try.func38, Try.ntmps38
  go_wp2_with fail
  go_loopg [5] l.length (fun g c wr => ∃ i, i ≤ l.length ∧ g = l.length - i ∧ c = .int .i64 (i : Nat) ∧ Below w.heap.size w wr ∧ (∀ a : Addr, wr.cell? a = w.cell? a))
  case atStart => exact ⟨0, by omega, by omega, rfl, Below.refl _ _, fun _ => rfl⟩
  case round =>
    obtain ⟨i, hi, hg, rfl, hbr, hce⟩ := hrel; have HG : Hid (gk = l.length - i) := hg; have HCe : Hid (∀ a : Addr, wr.cell? a = w.cell? a) := hce; clear hg hce; by_cases hlt : i < l.length
    · obtain ⟨x, hx⟩ : ∃ x, l[i]? = some x := ⟨_, List.getElem?_eq_getElem hlt⟩
      (obtain ⟨g, rfl, hc⟩ := H3.out (fun e => by rw [e] at hlt; simp at hlt)); (obtain ⟨g', rfl, hc'⟩ := H4.out (fun e => by rw [e] at hlt; simp at hlt)); have g0 := (HCe.out _).trans (hc i x hx); have g1 := (HCe.out _).trans (hc' i x hx); (have hltI : (i : Int) < (l.length : Int) := by omega); (have hlc : (i : Int) < (cap : Int) := by omega); (have hlc' : (i : Int) < (cap' : Int) := by omega); clear hc hc' hx H3 H4; generalize (⟨x.toArray⟩ : ByteArray) = X at *; go_wp2_with fail
      go_quiet (fail)
      go_wp2_with fail
      go_roundg (l.length - (i + 1))
      case measure => have := HG.out; omega
      case rel => exact ⟨i + 1, by omega, rfl, by go_num, ⟨hbr.os, hbr.tape, hbr.output, hbr.size, hbr.block⟩, fun a => HCe.out a⟩
    · have hge : ¬ (i : Int) < (l.length : Int) := by omega
      clear H3 H4; go_wp2_with fail; go_ret; exact ⟨rfl, hbr⟩

/-- A list of formulas in memory. -/
def FL (w : World) (v : Value) (fs : List Fm) : Prop := ∃ ad cap, v = .slice ad fs.length cap ∧ fs.length ≤ cap ∧ cap ≤ maxLen ∧ (fs ≠ [] → ∃ b off, ad = some ⟨b, off, none⟩ ∧ Reps w (fun _ => True) b off fs)
end Go.Proofs.Ytmahgfgndfcmpab
/- A list of texts that came in, as data. -/
namespace Go.Proofs.Ytmahgfgndfcmpab
open Go.RowKit Go.Deep

section
variable {H : Type} {enc : TypeId × Value → H} {W : World} {spare : Nat → Bool} {held : Bool}

theorem sl_of_trod (fuel : Nat) (cs : List Value) (x : DataW H × List MemPlace) (h : DataW.trod enc Try.prog W 0 spare held fuel 38 cs = some x) :
    ∃ v l, cs = [v] ∧ SL W v l ∧ ∀ t ∈ l, t.length ≤ maxLen := by
  rcases open_strs Try.underlying38 Try.underlying9 cells9 h with ⟨rfl, -⟩ | ⟨a, len, cap, m, Sx, rfl, -, hl, hm, hmm, -, hc⟩
  · exact ⟨_, [], rfl, ⟨none, 0, rfl, by simp, by simp, fun h => absurd rfl h⟩, fun t h => by cases h⟩
  · have hlm : len ≤ m := by rw [hmm]; split <;> omega
    obtain ⟨b, off, spot⟩ := a; (refine ⟨_, (List.range len).map fun i => (Sx i).data.toList, rfl, ⟨some ⟨b, off, spot⟩, cap, by simp, by simpa using hl, hm, fun hne => ?_⟩, fun t ht => ?_⟩)
    · have h0 : 0 < len := by
        rcases Nat.eq_zero_or_pos len with h | h
        · subst h; simp at hne
        · exact h
      have hsp : spot = none := by
        (have := (hc 0 (by omega)).1); simp [Addr.add] at this; simpa using World.cell?_spot this
      subst hsp; (refine ⟨b, off, rfl, fun j t ht => ?_⟩)
      have hj : j < len := by
        rcases Nat.lt_or_ge j len with h | h
        · exact h
        · rw [List.getElem?_eq_none (by simpa using h)] at ht; cases ht
      rw [List.getElem?_map, List.getElem?_range hj] at ht; (have := (hc j (by omega)).1); rw [add_none] at this; rw [this]; simp at ht; subst ht; rfl
    · obtain ⟨i, hi, rfl⟩ := List.mem_map.1 ht
      (have := (hc i (by have := List.mem_range.1 hi; omega)).2); have e : (Sx i).data.toList.length = (Sx i).size := Array.length_toList; omega
end
end Go.Proofs.Ytmahgfgndfcmpab
