/- Texts of one proof, one behind the other: Reads1. -/
import Derived.Test.YtfhbpfgbnfcdaaaB19
/- Walks: FormulaReads. -/
namespace Go.Proofs.Ytfhbpfgbnfcdaaa
open Go.RowKit

theorem read_ok (t : ByteArray) (ht : t.size ≤ 20000) (w : World) (x : Res) (hx : Ev (mThen · t.data.toList) x) (f : Fm) (ho : outOf t.size x = .ok f) :
    Calls Try.prog 18 #[.string t] w fun e w' => ∃ v, e = .returned (.tuple #[v, .agg #[.int .i64 0, .int .i64 0]]) ∧ Rep w' (w.heap.size ≤ ·) f v ∧ Below w.heap.size w w' := by
  cases x with
  | bad r => cases ho
  | ok g r =>
    rw [outOf] at ho
    split at ho
    · rename_i h1
      split at ho
      · cases ho
      · rename_i h2
        obtain rfl := Out.ok.inj ho; exact read_fine t ht w g r hx h1 h2
    · cases ho

theorem read_bad (t : ByteArray) (ht : t.size ≤ 20000) (w : World) (x : Res) (hx : Ev (mThen · t.data.toList) x) (code : Int) (at_ : Nat) (ho : outOf t.size x = .fault code at_) :
    Calls Try.prog 18 #[.string t] w fun e w' => e = .returned (.tuple #[.agg #[.int .i64 0, .string ⟨#[]⟩, .slice none 0 0], .agg #[.int .i64 code, .int .i64 at_]]) ∧ Below w.heap.size w w' := by
  cases x with
  | bad r =>
    rw [outOf] at ho
    cases ho
    exact read_bad1 t ht w r hx
  | ok g r =>
    rw [outOf] at ho
    split at ho
    · rename_i h1
      split at ho
      · rename_i h2
        cases ho
        exact read_bad3 t ht w g r hx h1 h2
      · cases ho
    · rename_i h1
      cases ho
      exact read_bad2 t ht w g r hx h1

theorem outOf_code {n : Nat} {x : Res} {code : Int} {a : Nat} (h : outOf n x = .fault code a) : code ≠ 0 := by
  cases x with
  | bad r => rw [outOf] at h; cases h; decide
  | ok g r =>
    rw [outOf] at h
    split at h
    · split at h
      · cases h; decide
      · cases h
    · cases h; decide

end Go.Proofs.Ytfhbpfgbnfcdaaa
