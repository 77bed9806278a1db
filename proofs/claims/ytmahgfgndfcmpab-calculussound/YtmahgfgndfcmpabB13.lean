/- Texts of one proof, one behind the other: Fault1. -/
import Derived.Test.YtmahgfgndfcmpabB07
import Derived.Test.YtmahgfgndfcmpabB08
import Derived.Deep.RegionLaw
import Derived.Test.YtmahgfgndfcmpabB03
/- Walks: FormulaFault of the yardstick. -/
namespace Go.Proofs.Ytmahgfgndfcmpab
open Go.RowKit

theorem LR.reps {A : Nat} {w : World} {b : Nat} : ∀ {cs : List Value} {fs : List Fm} (off : Nat), LR A w cs fs → (∀ (j : Nat) (u : Value), cs[j]? = some u → w.cell? ⟨b, off + j, none⟩ = some u) → Reps w (fun _ => True) b off fs
  | [], [], _, _, _ => Reps.nil
  | c0 :: c1 :: c2 :: cs, f :: fs, off, h, hc => Reps.cons.2 ⟨⟨c0, c1, c2, hc 0 c0 rfl, hc 1 c1 rfl, hc 2 c2 rfl, h.1.all⟩, LR.reps (off + 3) h.2 fun j u hu => by
      (have := hc (j + 3) u (by simpa using hu))
      rwa [show off + (j + 3) = off + 3 + j by omega] at this⟩

/-- A list that a call has made, as kids are. -/
theorem LO.reps {A B : Nat} {w : World} {v : Value} {fs : List Fm} (h : LO A B w v fs) : ∃ g cap, v = .slice (some ⟨g, 0, none⟩) fs.length cap ∧ fs.length ≤ cap ∧ cap ≤ maxLen ∧ Reps w (fun _ => True) g 0 fs := by
  obtain ⟨g, cap, cs, rfl, hown, hlr⟩ := h
  rcases hown.2 with ⟨hv, h0⟩ | ⟨g', cp, cur, hv, hg, hh, h1, h2, -⟩
  · cases hv
  · simp only [Value.slice.injEq, true_and] at hv
    obtain ⟨-, rfl⟩ := hv; (refine ⟨g, cap, rfl, h1, h2, hlr.reps 0 fun j u hu => ?_⟩); have := hown.cells (g := g) rfl j u hu; rw [add_none] at this; exact this

end Go.Proofs.Ytmahgfgndfcmpab
