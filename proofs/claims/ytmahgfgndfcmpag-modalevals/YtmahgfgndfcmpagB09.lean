/- Texts of one proof, one behind the other: Parts1, Tr3, Tr4, Tr5, Open2. -/
import Derived.Test.YtmahgfgndfcmpagB04
import Derived.Test.YtmahgfgndfcmpagB01
import Derived.Maps.OwnSet
import Derived.Maps.OwnOps
import Derived.Laws.BitsLemmas
import Derived.Deep.RegionHeld3
/- Walks: lists of texts and of formulas, as the yardstick compares them. -/
namespace Go.Proofs.Ytmahgfgndfcmpag
open Go.RowKit

/-- A list of formulas in memory. -/
def FL (w : World) (v : Value) (fs : List Fm) : Prop := ∃ ad cap, v = .slice ad fs.length cap ∧ fs.length ≤ cap ∧ cap ≤ maxLen ∧ (fs ≠ [] → ∃ b off, ad = some ⟨b, off, none⟩ ∧ Reps w (fun _ => True) b off fs)
theorem FL.up {w w' : World} {v : Value} {fs : List Fm} (h : FL w v fs) (hb : Below w.heap.size w w') : FL w' v fs := by
  obtain ⟨ad, cap, h1, h2, h3, h4⟩ := h; (refine ⟨ad, cap, h1, h2, h3, fun hne => ?_⟩); obtain ⟨b, off, h5, h6⟩ := h4 hne; exact ⟨b, off, h5, h6.up hb⟩

end Go.Proofs.Ytmahgfgndfcmpag
/- Walks: plainFault; names' places in a map; what is asked of them. -/
namespace Go.Proofs.Ytmahgfgndfcmpag
open Go.RowKit Go.Maps Go.WideMaps

/-! A list of texts in memory, wherever it begins. -/
def SL (w : World) (v : Value) (l : List (List UInt8)) : Prop := ∃ ad cap, v = .slice ad l.length cap ∧ l.length ≤ cap ∧ cap ≤ maxLen ∧ (l ≠ [] → ∃ g off, ad = some ⟨g, off, none⟩ ∧ ∀ (j : Nat) (t : List UInt8), l[j]? = some t → w.cell? ⟨g, off + j, none⟩ = some (.string ⟨t.toArray⟩))
theorem SL.up {w w' : World} {v : Value} {l : List (List UInt8)} (h : SL w v l) (hb : Below w.heap.size w w') : SL w' v l := by
  obtain ⟨ad, cap, h1, h2, h3, h4⟩ := h; (refine ⟨ad, cap, h1, h2, h3, fun hne => ?_⟩); obtain ⟨g, off, h5, h6⟩ := h4 hne
  exact ⟨g, off, h5, fun j t ht => by
    have := h6 j t ht; rw [hb.cell (p := ⟨g, off + j, none⟩) (lt_of_cell this)]
    exact this⟩

theorem strKeyed : Keyed Try.prog 9 := string_keyed Try.underlying9
theorem zeroInt (w : World) : (zeroValue 3).run Try.prog w = .ok (.int .i64 0) w := by kernel_rfl
theorem keyStr (t : List UInt8) (h : t.length ≤ maxLen) : keyOf Try.prog 9 (.string ⟨t.toArray⟩) = some (.string t) :=
  keyOf_string_mk Try.underlying9 (s := ⟨t.toArray⟩) (by simpa [ByteArray.size] using h)

/-- Names' places, in a map. -/
def PM (w : World) (b : Nat) (l : List (List UInt8)) : Prop := ∃ (n : Nat) (D : DataW Unit), w.ownsMap Try.prog 9 (plainElem Try.prog 3) b n D ∧ n ≤ l.length ∧ (∀ s, s.length ≤ maxLen → Maps.has D (.string s) = decide (s ∈ l)) ∧ ∀ s, s ∈ l → ∃ i, l[i]? = some s ∧ ∀ z, D.atKey (.string s) z = .lit (.int .i64 (i : Nat))

theorem PM.nil {w : World} : PM (w.alloc (.map #[] 0)) w.heap.size [] :=
  ⟨0, .map [], World.ownsMap_made _ _ _ _, Nat.le_refl _, fun s _ => by simp [has_eq], fun s h => by cases h⟩

theorem PM.snoc {w' : World} {b : Nat} {l : List (List UInt8)} {t : List UInt8} {n : Nat} {D : DataW Unit} (hn : n ≤ l.length) (hD : IsMap D) (h1 : ∀ s, s.length ≤ maxLen → Maps.has D (.string s) = decide (s ∈ l)) (h2 : ∀ s, s ∈ l → ∃ i, l[i]? = some s ∧ ∀ z, D.atKey (.string s) z = .lit (.int .i64 (i : Nat)))
    (h : w'.ownsMap Try.prog 9 (plainElem Try.prog 3) b (n + 1) (D.put (.string t) (.lit (.int .i64 (l.length : Nat))))) : PM w' b (l ++ [t]) := by
  (have hk : WideAt.IsKeyLit (.string t) := by first | trivial | exact True.intro | simp [WideAt.IsKeyLit]); (refine ⟨n + 1, _, h, by simp; omega, fun s hs => ?_, fun s hs => ?_⟩)
  · by_cases e : s = t
    · subst e; rw [has_put_same hD hk]; simp
    · rw [has_put_other (fun h => e (by injection h)), h1 s hs]; simp [e]
  · by_cases e : s = t
    · subst e
      (exact ⟨l.length, by simp, fun z => atKey_put_same hD hk _ z⟩)
    · have hs' : s ∈ l := by simpa [e] using hs
      obtain ⟨i, hi, hz⟩ := h2 s hs'; (refine ⟨i, ?_, fun z => ?_⟩)
      · have hlt : i < l.length := by
          rcases Nat.lt_or_ge i l.length with h | h
          · exact h
          · rw [List.getElem?_eq_none h] at hi; cases hi
        rw [List.getElem?_append_left hlt]; exact hi
      · rw [atKey_put_other (fun h => e (by injection h))]; exact hz z

end Go.Proofs.Ytmahgfgndfcmpag
/- Walks: digits of a row; what Value and column ask of names. -/
namespace Go.Proofs.Ytmahgfgndfcmpag
open Go.RowKit Go.Maps Go.WideMaps

theorem PM.up {w w' : World} {b : Nat} {l : List (List UInt8)} (h : PM w b l) (hb : Below w.heap.size w w') : PM w' b l := by
  obtain ⟨n, D, hown, h1, h2, h3⟩ := h; refine ⟨n, D, ?_, h1, h2, h3⟩; obtain ⟨es, clock, he, r⟩ := hown; exact ⟨es, clock, below_keep hb he, r⟩

theorem idxOf_of_get {l : List (List UInt8)} (hn : l.Nodup) {i : Nat} {s : List UInt8} (h : l[i]? = some s) : l.idxOf s = i := by
  have hi : i < l.length := by
    rcases Nat.lt_or_ge i l.length with h' | h'
    · exact h'
    · rw [List.getElem?_eq_none h'] at h; cases h
  rw [List.getElem?_eq_getElem hi] at h; have := Option.some.inj h; subst this; exact hn.idxOf_getElem i hi

end Go.Proofs.Ytmahgfgndfcmpag
/- Walks: column. -/
namespace Go.Proofs.Ytmahgfgndfcmpag
open Go.RowKit Go.Maps Go.WideMaps

/-- A list of bools in memory. -/
def BL (w : World) (v : Value) (l : List Bool) : Prop := ∃ ad cap, v = .slice ad l.length cap ∧ l.length ≤ cap ∧ cap ≤ maxLen ∧ (l ≠ [] → ∃ g off, ad = some ⟨g, off, none⟩ ∧ ∀ (j : Nat) (b : Bool), l[j]? = some b → w.cell? ⟨g, off + j, none⟩ = some (.bool b))
theorem BL.up {w w' : World} {v : Value} {l : List Bool} (h : BL w v l) (hb : Below w.heap.size w w') : BL w' v l := by
  obtain ⟨ad, cap, h1, h2, h3, h4⟩ := h; (refine ⟨ad, cap, h1, h2, h3, fun hne => ?_⟩); obtain ⟨g, off, h5, h6⟩ := h4 hne
  exact ⟨g, off, h5, fun j t ht => by
    have := h6 j t ht; rw [hb.cell (p := ⟨g, off + j, none⟩) (lt_of_cell this)]
    exact this⟩
theorem BL.nil {w : World} : BL w (.slice none 0 0) [] := ⟨none, 0, rfl, by simp, by simp, fun h => absurd rfl h⟩

theorem infoBool : ∃ i, Try.prog.info? 4 = some i ∧ i.zero = some (.bool false) ∧ i.size = 1 ∧ i.bytes = 1 := by
  (obtain ⟨i, hi, h⟩ := Option.map_eq_some_iff.1 (show (Try.prog.info? 4).map (fun i => (i.zero, i.size, i.bytes)) = some (some (.bool false), 1, 1) by kernel_rfl)); simp only [Prod.mk.injEq] at h; exact ⟨i, hi, h.1, h.2.1, h.2.2⟩

theorem make_bools (M : Nat) (hM : M ≤ 1000) : ∃ C : Array Value, C.size = M ∧ ∀ w : World, (Instr.makeSlice 32 (.int .i64 (M : Nat)) (.int .i64 (M : Nat))).run Try.prog w = .ok (.slice (some ⟨w.heap.size, 0, none⟩) M M) (w.alloc (.cells C 4 (0, 0))) := by
  obtain ⟨i, hi, hz, hs, hb⟩ := infoBool; (refine ⟨madeCells (Value.bool false).cells (M * 1), by rw [size_madeCells]; omega, fun w => ?_⟩); (have := run_makeSlice (P := Try.prog) w 32 4 i _ Try.underlying32 hi hz .i64 .i64 (M : Int) (M : Int) (by omega) (Int.le_refl _) (by rw [hs]; simp; omega) (by rw [hb]; omega) (by omega)); rw [hs] at this; simpa using this

end Go.Proofs.Ytmahgfgndfcmpag
/- A list of texts that came in, as data. -/
namespace Go.Proofs.Ytmahgfgndfcmpag
open Go.RowKit Go.Deep

section
variable {H : Type} {enc : TypeId × Value → H} {W : World} {spare : Nat → Bool} {held : Bool}

theorem sl_of_trod (fuel : Nat) (cs : List Value) (x : DataW H × List MemPlace) (h : DataW.trod enc Try.prog W 0 spare held fuel 48 cs = some x) :
    ∃ v l, cs = [v] ∧ SL W v l ∧ ∀ t ∈ l, t.length ≤ maxLen := by
  rcases open_strs Try.underlying48 Try.underlying9 cells9 h with ⟨rfl, -⟩ | ⟨a, len, cap, m, Sx, rfl, -, hl, hm, hmm, -, hc⟩
  · exact ⟨_, [], rfl, ⟨none, 0, rfl, by simp, by simp, fun h => absurd rfl h⟩, fun t h => by cases h⟩
  · have hlm : len ≤ m := by rw [hmm]; split <;> omega
    obtain ⟨b, off, spot⟩ := a; (refine ⟨_, (List.range len).map fun i => (Sx i).data.toList, rfl, ⟨some ⟨b, off, spot⟩, cap, by simp, by simpa using hl, hm, fun hne => ?_⟩, fun t ht => ?_⟩)
    · have h0 : 0 < len := by
        rcases Nat.eq_zero_or_pos len with h | h
        · subst h; simp at hne
        · exact h
      have hsp : spot = none := by
        (have := (hc 0 (by omega)).1); simp [Addr.add] at this; simpa using World.cell?_spot this
      subst hsp; (refine ⟨b, off, rfl, fun j t ht => ?_⟩)
      have hj : j < len := by
        rcases Nat.lt_or_ge j len with h | h
        · exact h
        · rw [List.getElem?_eq_none (by simpa using h)] at ht; cases ht
      rw [List.getElem?_map, List.getElem?_range hj] at ht; (have := (hc j (by omega)).1); rw [add_none] at this; rw [this]; simp at ht; subst ht; rfl
    · obtain ⟨i, hi, rfl⟩ := List.mem_map.1 ht
      (have := (hc i (by have := List.mem_range.1 hi; omega)).2); have e : (Sx i).data.toList.length = (Sx i).size := Array.length_toList; omega
end
end Go.Proofs.Ytmahgfgndfcmpag
