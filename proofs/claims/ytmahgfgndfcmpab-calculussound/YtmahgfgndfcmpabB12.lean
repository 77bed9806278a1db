/- Texts of one proof, one behind the other: With1. -/
import Derived.Test.YtmahgfgndfcmpabB07
import Derived.Test.YtmahgfgndfcmpabB08
import Derived.Deep.RegionLaw
import Derived.Deep.DeepCutAuto
import Derived.Test.YtmahgfgndfcmpabB09
/- Walks: a formula for a name, as the yardstick has it. -/
namespace Go.Proofs.Ytmahgfgndfcmpab
open Go.RowKit

/-- What has been made so far: a list whose formulas lie where P holds. -/
def KP (P : Nat → Prop) (B : Nat) (w : World) (ad : Option Addr) (cap : Nat) (fs : List Fm) : Prop := ∃ cs, w.ownsRow B 37 3 (.slice ad fs.length cap) fs.length cs ∧ LQ (fun b => P b ∧ (Value.slice ad fs.length cap).ownBlock ≠ some b) w cs fs

theorem KP.nil {P : Nat → Prop} {B : Nat} {w : World} : KP P B w none 0 [] := ⟨[], ⟨rfl, Or.inl ⟨rfl, rfl⟩⟩, trivial⟩
theorem KP.same {P : Nat → Prop} {B : Nat} {w w' : World} {ad : Option Addr} {cap : Nat} {fs : List Fm} (h : KP P B w ad cap fs) (hb : ∀ b, P b ∨ B ≤ b → b < w.heap.size → w'.heap[b]? = w.heap[b]?) : KP P B w' ad cap fs := by
  obtain ⟨cs, ⟨h1, h2⟩, h3⟩ := h; (refine ⟨cs, ⟨h1, ?_⟩, h3.move fun b hb1 hb2 => ⟨hb b (Or.inl hb2.1) hb1, hb2⟩⟩)
  rcases h2 with h2 | ⟨g, cap, cur, hv, hg, hh, r⟩
  · exact Or.inl h2
  · exact Or.inr ⟨g, cap, cur, hv, hg, (hb g (Or.inr hg) (lt_of_block hh)).trans hh, r⟩
theorem KP.up {P : Nat → Prop} {B : Nat} {w w' : World} {ad : Option Addr} {cap : Nat} {fs : List Fm} (h : KP P B w ad cap fs) (hb : Below w.heap.size w w') : KP P B w' ad cap fs := h.same fun b _ hb1 => hb.block b hb1

theorem KP.rep {P : Nat → Prop} {B : Nat} {w : World} {ad : Option Addr} {cap : Nat} {ks : List Fm} (h : KP P B w ad cap ks) (hPB : ∀ b, B ≤ b → P b) (k : Int) (n : ByteArray) (hn : n.size ≤ maxLen) : Rep w P (.mk k n ks) (.agg #[.int .i64 k, .string n, .slice ad ks.length cap]) := by
  obtain ⟨cs, hown, hlq⟩ := h
  rcases hown.2 with ⟨hv, h0⟩ | ⟨g, cp, cur, hv, hg, hh, h1, h2, -⟩
  · simp only [Value.slice.injEq] at hv
    obtain ⟨rfl, -, rfl⟩ := hv; (exact Rep.def.2 ⟨none, 0, rfl, hn, by omega, by simp, fun hne => absurd (List.length_eq_zero_iff.1 h0) hne⟩)
  · simp only [Value.slice.injEq, true_and] at hv
    obtain ⟨rfl, rfl⟩ := hv; (refine Rep.def.2 ⟨_, cap, rfl, hn, h1, h2, fun _ => ⟨g, 0, rfl, hPB g hg, ?_⟩⟩)
    exact (hlq.move (ok' := P) fun b _ hb => ⟨rfl, hb.1⟩).reps (b := g) 0 fun j u hu => by
      have := hown.cells (g := g) rfl j u hu; rw [add_none] at this; rw [Nat.zero_add] at this ⊢; exact this

end Go.Proofs.Ytmahgfgndfcmpab
