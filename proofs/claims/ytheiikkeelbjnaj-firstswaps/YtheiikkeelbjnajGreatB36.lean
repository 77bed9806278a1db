/- Texts of one proof, one behind the other: MP3. -/
import Derived.Test.YtheiikkeelbjnajGreatB30
/- Plain: what Value says of an expression with a word put. -/
namespace Go.Proofs.YtheiikkeelbjnajGreat
open Go.RowKit Go.Sort Go.Maps Go.WideMaps

theorem fvs_mem {x : Ex} {t : List UInt8} : t ∈ fvs x ↔ isNm t = true ∧ FrE t x := by
  unfold fvs; rw [compact_mem, show (t ∈ srt (fre (prE [] x)) ↔ t ∈ fre (prE [] x)) from List.mem_mergeSort, frE_fre]
  simp
theorem code_if {a b : Int × Int} {p : Prop} [Decidable p] (h : (if p then a else b).1 = 0) (ha : p → a.1 ≠ 0) : ¬ p ∧ b.1 = 0 := by
  split at h
  · exact absurd h (ha (by assumption))
  · exact ⟨by assumption, h⟩
end Go.Proofs.YtheiikkeelbjnajGreat
