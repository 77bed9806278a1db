/- Texts of one proof, one behind the other: NamesIn1. -/
import Derived.Test.YtmahgfgndfcmpabB21
import Derived.Test.YtmahgfgndfcmpabB11
import Derived.Test.YtmahgfgndfcmpabB12
import Derived.Deep.RegionLaw
import Derived.Deep.DeepCutAuto
import Derived.Test.YtmahgfgndfcmpabB10
import Derived.Test.YtmahgfgndfcmpabB15
import Derived.Test.YtmahgfgndfcmpabB20
import Derived.Test.YtmahgfgndfcmpabB19
import Derived.Sort.Walk0
import Derived.Deep.AppendSrc
/- Walks: the names of a formula, as the yardstick tells them. -/
namespace Go.Proofs.Ytmahgfgndfcmpab
open Go.RowKit Go.Sort

/-- A list of texts that is being made. -/
def KS (B : Nat) (w : World) (ad : Option Addr) (cap : Nat) (l : List (List UInt8)) : Prop := w.ownsRow B 9 1 (.slice ad l.length cap) l.length (l.map encStr)
theorem KS.nil {B : Nat} {w : World} : KS B w none 0 [] := ⟨rfl, Or.inl ⟨rfl, rfl⟩⟩
theorem KS.cell {B : Nat} {w : World} {g cap : Nat} {l : List (List UInt8)} (h : KS B w (some ⟨g, 0, none⟩) cap l) (j : Nat) (t : List UInt8) (ht : l[j]? = some t) : w.cell? ⟨g, j, none⟩ = some (.string ⟨t.toArray⟩) := by
  (have := h.cells (g := g) rfl j (encStr t) (by rw [List.getElem?_map, ht]; rfl)); rw [add_none, Nat.zero_add] at this; exact this
theorem KS.list {B : Nat} {w : World} {ad : Option Addr} {cap : Nat} {l : List (List UInt8)} (h : KS B w ad cap l) : TL w (.slice ad l.length cap) l := by
  have h' := h
  rcases h'.2 with ⟨hv, h0⟩ | ⟨g, cap', cur, hv, hg, hh, h1, h2, -⟩
  · simp only [Value.slice.injEq] at hv
    (exact ⟨ad, cap, rfl, by omega, by rw [hv.2.2]; simp, fun hne => absurd (List.length_eq_zero_iff.1 h0) hne⟩)
  · simp only [Value.slice.injEq, true_and] at hv
    obtain ⟨rfl, rfl⟩ := hv; (exact ⟨_, cap, rfl, h1, h2, fun _ => ⟨g, rfl, fun j t ht => h.cell j t ht⟩⟩)
end Go.Proofs.Ytmahgfgndfcmpab
