/- Texts of one proof, one behind the other: MD5. -/
import Derived.Test.YtblodnpfckflaakB12
import Derived.Test.YtblodnpfckflaakB04
import Derived.Test.YtblodnpfckflaakB01
import Derived.Deep.AppendLies
/- Lists copied: an append behind nothing, whatever the elements; pairs and lists of texts of one's own. -/
namespace Go.Proofs.Ytblodnpfckflaak
open Go.RowKit Go.Sort

theorem rowM_caps {B : Nat} {w : World} {T : TypeId} {sz n cap : Nat} {ad : Option Addr} {cs : List Value} (h : w.ownsRow B T sz (.slice ad n cap) n cs) : n ≤ cap ∧ cap ≤ maxLen := by
  rcases h.2 with ⟨hv, h0⟩ | ⟨g, cap', cur, hv, -, -, h1, h2, -⟩
  · simp only [Value.slice.injEq] at hv
    (exact ⟨by omega, by rw [hv.2.2]; simp⟩)
  · simp only [Value.slice.injEq, true_and] at hv
    rw [hv.2]; exact ⟨h1, h2⟩
theorem rowM_cells {B : Nat} {w : World} {T : TypeId} {sz n cap : Nat} {ad : Option Addr} {cs : List Value} (h : w.ownsRow B T sz (.slice ad n cap) n cs) (hn : 0 < n) : ∃ g, ad = some ⟨g, 0, none⟩ ∧ ∀ j u, cs[j]? = some u → w.cell? ⟨g, 0 + j, none⟩ = some u := by
  rcases h.2 with ⟨hv, h0⟩ | ⟨g, cap', cur, hv, -, hh, h1, h2, h3, h4⟩
  · omega
  · simp only [Value.slice.injEq, true_and] at hv
    (refine ⟨g, hv.1, fun j u hj => ?_⟩); rw [Nat.zero_add, blk_cell hh]; rw [← h4, List.getElem?_take] at hj
    split at hj
    · simpa using hj
    · cases hj
/-- A row of one's own over a world that keeps its block. -/
theorem rowM_move {B : Nat} {w w' : World} {T : TypeId} {sz n : Nat} {v : Value} {cs : List Value} (h : w.ownsRow B T sz v n cs) (hk : ∀ g cur, v.ownBlock = some g → w.heap[g]? = some (.cells cur T (0, 0)) → w'.heap[g]? = w.heap[g]?) : w'.ownsRow B T sz v n cs := by
  refine ⟨h.1, ?_⟩
  rcases h.2 with h2 | ⟨g, cap, cur, hv, hg, hh, r⟩
  · exact Or.inl h2
  · exact Or.inr ⟨g, cap, cur, hv, hg, (hk g cur (by rw [hv]; rfl) hh).trans hh, r⟩
theorem rowM_up {B : Nat} {w w' : World} {T : TypeId} {sz n : Nat} {v : Value} {cs : List Value} (h : w.ownsRow B T sz v n cs) (hb : Below w.heap.size w w') : w'.ownsRow B T sz v n cs :=
  rowM_move h fun g _ _ hh => hb.block g (lt_of_block hh)
/-- Texts of one's own. -/
theorem SL.own {B : Nat} {w : World} {ad : Option Addr} {cp : Nat} {l : List (List UInt8)} (h : w.ownsRow B 9 1 (.slice ad l.length cp) l.length (l.map encStr)) : SL w (.slice ad l.length cp) l := by
  obtain ⟨h1, h2⟩ := rowM_caps h; (refine ⟨ad, cp, rfl, h1, h2, fun hne => ?_⟩); obtain ⟨g, rfl, hc⟩ := rowM_cells h (List.length_pos_iff.2 hne); (exact ⟨g, 0, rfl, fun j t hj => hc _ _ (by rw [List.getElem?_map, hj]; rfl)⟩)
end Go.Proofs.Ytblodnpfckflaak
