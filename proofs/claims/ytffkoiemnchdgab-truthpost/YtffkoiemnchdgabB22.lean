/- Texts of one proof, one behind the other: NamesIn1, Parts5. -/
import Derived.Test.YtffkoiemnchdgabB20
import Derived.Test.YtffkoiemnchdgabB11
import Derived.Deep.RegionLaw
import Derived.Deep.DeepCutAuto
import Derived.Test.YtffkoiemnchdgabB14
import Derived.Test.YtffkoiemnchdgabB07
import Derived.Test.YtffkoiemnchdgabB19
import Derived.Test.YtffkoiemnchdgabB18
import Derived.Sort.Walk0
import Derived.Deep.AppendSrc
/- Walks: the names of a formula, as the yardstick tells them. -/
namespace Go.Proofs.Ytffkoiemnchdgab
open Go.RowKit Go.Sort

/-- A list of texts that is being made. -/
def KS (B : Nat) (w : World) (ad : Option Addr) (cap : Nat) (l : List (List UInt8)) : Prop := w.ownsRow B 9 1 (.slice ad l.length cap) l.length (l.map encStr)
theorem KS.nil {B : Nat} {w : World} : KS B w none 0 [] := ⟨rfl, Or.inl ⟨rfl, rfl⟩⟩
theorem KS.cell {B : Nat} {w : World} {g cap : Nat} {l : List (List UInt8)} (h : KS B w (some ⟨g, 0, none⟩) cap l) (j : Nat) (t : List UInt8) (ht : l[j]? = some t) : w.cell? ⟨g, j, none⟩ = some (.string ⟨t.toArray⟩) := by
  (have := h.cells (g := g) rfl j (encStr t) (by rw [List.getElem?_map, ht]; rfl)); rw [add_none, Nat.zero_add] at this; exact this
theorem KS.list {B : Nat} {w : World} {ad : Option Addr} {cap : Nat} {l : List (List UInt8)} (h : KS B w ad cap l) : TL w (.slice ad l.length cap) l := by
  have h' := h
  rcases h'.2 with ⟨hv, h0⟩ | ⟨g, cap', cur, hv, hg, hh, h1, h2, -⟩
  · simp only [Value.slice.injEq] at hv
    (exact ⟨ad, cap, rfl, by omega, by rw [hv.2.2]; simp, fun hne => absurd (List.length_eq_zero_iff.1 h0) hne⟩)
  · simp only [Value.slice.injEq, true_and] at hv
    obtain ⟨rfl, rfl⟩ := hv; (exact ⟨_, cap, rfl, h1, h2, fun _ => ⟨g, rfl, fun j t ht => h.cell j t ht⟩⟩)
end Go.Proofs.Ytffkoiemnchdgab
/- Walks: FormulaParts, its two copies. -/
namespace Go.Proofs.Ytffkoiemnchdgab
open Go.RowKit

/-- A fault is laid into its block. -/
theorem flt_set {w w6 : World} {R : Nat} {x0 x1 : Value} (hR : w.heap.size ≤ R) (B : Below w.heap.size w w6) (q : w6.heap[R]? = some (.cells #[x0, x1] 25 (0, 0))) (c a : Int) :
    ((w6.setCell ⟨R, 0, none⟩ (.int .i64 c)).setCell ⟨R, 1, none⟩ (.int .i64 a)).heap[R]? = some (.cells #[.int .i64 c, .int .i64 a] 25 (0, 0)) ∧ Below w.heap.size w ((w6.setCell ⟨R, 0, none⟩ (.int .i64 c)).setCell ⟨R, 1, none⟩ (.int .i64 a)) ∧ ∀ b, b ≠ R → ((w6.setCell ⟨R, 0, none⟩ (.int .i64 c)).setCell ⟨R, 1, none⟩ (.int .i64 a)).heap[b]? = w6.heap[b]? :=
  ⟨set2 q _ _, (B.setCell (by simpa using hR) _).setCell (by simpa using hR) _, fun b hb => by rw [Below.heap_setCell _ _ _ _ (by simpa using hb), Below.heap_setCell _ _ _ _ (by simpa using hb)]⟩

end Go.Proofs.Ytffkoiemnchdgab
