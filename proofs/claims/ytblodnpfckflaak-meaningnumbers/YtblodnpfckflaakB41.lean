/- Texts of one proof, one behind the other: RM6. -/
import Derived.Test.YtblodnpfckflaakB40
/- The law MeaningNumbers. -/
namespace Go.Proofs.Ytblodnpfckflaak
open Go.RowKit Go.Sort

theorem numbers_textM (s : StD) (x : Ex) (names : List (List UInt8)) (vals : List Int) (t : Int) (v u nv xv : Value) (w : World) (hS : StR w s v) (hE : ERp w x u) (hN : SL w nv names) (hlen : ∀ t ∈ names, t.length ≤ maxLen) (hV : IL w xv vals) (_ : (Lit.int .i64 t).wf = true) :
    Calls Try.prog 4 #[v, u, nv, xv, .int .i64 t] w fun e w' => e = .returned (.bool true) ∧ Below w.heap.size w w' := by
  by_cases hst : (stcode s).1 = 0
  · obtain ⟨-, g1, -⟩ := st_ok hst
    (exact numbers_ok s s.n.toNat x names vals t v u nv xv w hS hE hN hV hlen hst (by omega))
  · exact numbers_bad s x t v u nv xv w hS hE hst
end Go.Proofs.Ytblodnpfckflaak
