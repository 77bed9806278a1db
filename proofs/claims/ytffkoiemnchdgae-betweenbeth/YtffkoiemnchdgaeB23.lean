/- Texts of one proof, one behind the other: TS1. -/
import Derived.Test.YtffkoiemnchdgaeB20
import Derived.Test.YtffkoiemnchdgaeB09
import Derived.Deep.DeepCutAuto
import Derived.Test.YtffkoiemnchdgaeB10
import Derived.Test.YtffkoiemnchdgaeB21
/- The plain mathematics of TruthSubstitutes: what is put for a name, and rows. -/
namespace Go.Proofs.Ytffkoiemnchdgae
open Go.Sort

/-- Each way for the names of a list to be true is a row. -/
theorem row_of : ∀ (n : Nat) (q : Nat → Bool), ∃ r, r < 2 ^ n ∧ ∀ i, i < n → r.testBit i = q i
  | 0, q => ⟨0, by simp, fun i h => absurd h (Nat.not_lt_zero _)⟩
  | n + 1, q => by
    obtain ⟨r, hr, hb⟩ := row_of n q
    cases hq : q n with
    | false =>
      (refine ⟨r, by rw [Nat.pow_succ]; omega, fun i hi => ?_⟩); by_cases h : i = n
      · subst h; rw [hq, Nat.testBit_lt_two_pow hr]
      · exact hb i (by omega)
    | true =>
      (refine ⟨2 ^ n + r, by rw [Nat.pow_succ]; omega, fun i hi => ?_⟩); by_cases h : i = n
      · subst h; rw [hq, Nat.testBit_two_pow_add_eq, Nat.testBit_lt_two_pow hr]; rfl
      · rw [Nat.testBit_two_pow_add_gt (by omega)]
        (exact hb i (by omega))

theorem row_with {l : List (List UInt8)} (hn : l.Nodup) (q : List UInt8 → Bool) : ∃ r, r < 2 ^ l.length ∧ ∀ t ∈ l, colP r l t = q t := by
  (obtain ⟨r, hr, hb⟩ := row_of l.length (fun i => q ((l[i]?).getD []))); (refine ⟨r, hr, fun t ht => ?_⟩); obtain ⟨i, hi, hit⟩ := List.getElem_of_mem ht; (have hg : l[i]? = some t := by rw [List.getElem?_eq_getElem hi, hit]); unfold colP; rw [if_pos ht, idxOf_of_get hn hg, hb i hi, hg]; rfl

end Go.Proofs.Ytffkoiemnchdgae
