/- Texts of one proof, one behind the other: TV1, TV2. -/
import Derived.Test.YtffkoiemnchdgaeB27
import Derived.Test.YtffkoiemnchdgaeB28
import Derived.Test.YtffkoiemnchdgaeB25
import Derived.Test.YtffkoiemnchdgaeB12
/- Walks: TruthValues, of a formula that is not plain. -/
namespace Go.Proofs.Ytffkoiemnchdgae
open Go.RowKit Go.Sort

/-- A formula alone in a list. -/
theorem FL.alone {w : World} {b : Nat} {f : Fm} {c0 c1 c2 : Value} {T : TypeId} (hb : w.heap[b]? = some (.cells #[c0, c1, c2] T (0, 0))) (hr : Rep w (fun _ => True) f (.agg #[c0, c1, c2])) : FL w (.slice (some ⟨b, 0, none⟩) 1 1) [f] := by
  obtain ⟨g0, g1, g2, -⟩ := blk3 hb; (exact ⟨some ⟨b, 0, none⟩, 1, rfl, by simp, by simp [maxLen], fun _ => ⟨b, 0, rfl, Reps.cons.2 ⟨⟨c0, c1, c2, g0, g1, g2, hr⟩, Reps.nil⟩⟩⟩)
end Go.Proofs.Ytffkoiemnchdgae
/- Walks: TruthValues: what lies in memory; its first loop. -/
namespace Go.Proofs.Ytffkoiemnchdgae
open Go.RowKit Go.Sort

/-- The first that is no name, as far as it has been looked. -/
def badTo (l : List (List UInt8)) (i : Nat) : Int × Int := if (l.take i).any (fun t => !isNm t) then (8, ((l.findIdx (fun t => !isNm t) : Nat) : Int)) else (0, 0)

theorem vcode_plain {f : Fm} (h : f.pcode = (0, 0)) (l : List (List UInt8)) (hl : l.length ≤ 1000) : vcode f l = badTo l l.length := by
  unfold vcode badTo; (rw [h, if_pos rfl, if_neg (by omega), List.take_length])
theorem badTo_next {l : List (List UInt8)} {i : Nat} {t : List UInt8} (ht : l[i]? = some t) (h : (l.take i).any (fun t => !isNm t) = false) : badTo l (i + 1) = if isNm t then (0, 0) else (8, ((i : Nat) : Int)) := by
  unfold badTo; rw [List.take_add_one, ht, List.any_append, h]
  rcases hn : isNm t with _ | _
  · have hf := findIdx_at (p := fun t => !isNm t) h ht (by simp [hn])
    simp [hn, hf]
  · simp [hn]
theorem badTo_stay {l : List (List UInt8)} {i : Nat} (h : (l.take i).any (fun t => !isNm t) = true) (_ : i ≤ l.length) : badTo l l.length = badTo l i := by
  unfold badTo; rw [h, List.take_length]
  have : l.any (fun t => !isNm t) = true := by
    rw [List.any_eq_true] at h ⊢; obtain ⟨x, hx, hp⟩ := h; exact ⟨x, List.mem_of_mem_take hx, hp⟩
  rw [this]
end Go.Proofs.Ytffkoiemnchdgae
