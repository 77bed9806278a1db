/- Texts of one proof, one behind the other: MA6. -/
import Derived.Test.YtmahgfgndfcmpagB16
/- What the yardstick asks of frames are the six shapes, plain. -/
namespace Go.Proofs.Ytmahgfgndfcmpag

section
variable {N : Nat} {R : Nat → Nat → Bool}
theorem dec_seeR {u v : Nat} (hv : v < N) : decide (v ∈ seeR N R u) = R u v := by
  rw [Bool.eq_iff_iff, decide_eq_true_iff, mem_seeR]; (exact ⟨fun h => h.2, fun h => ⟨hv, h⟩⟩)
theorem sub_seeR {u v : Nat} : ((seeR N R v).all fun y => decide (y ∈ seeR N R u)) = subB N (R v) (R u) := by
  rw [Bool.eq_iff_iff, List.all_eq_true, subB, decide_eq_true_iff]
  constructor
  · intro h y hy hr
    have := h y (mem_seeR.2 ⟨hy, hr⟩)
    rwa [dec_seeR hy] at this
  · intro h y hy
    obtain ⟨h1, h2⟩ := mem_seeR.1 hy; rw [dec_seeR h1]; exact h y h1 h2
theorem all_congrM {l : List Nat} {f g : Nat → Bool} (h : ∀ x ∈ l, f x = g x) : l.all f = l.all g := by
  rw [Bool.eq_iff_iff, List.all_eq_true, List.all_eq_true]; (exact ⟨fun h1 x hx => by rw [← h x hx]; exact h1 x hx, fun h1 x hx => by rw [h x hx]; exact h1 x hx⟩)
theorem a0_sh : a0S (seeR N R) N = sh0 N R := all_congrM fun _ hu => dec_seeR (List.mem_range.1 hu)
theorem a1_sh : a1S (seeR N R) N = sh1 N R := all_congrM fun _ _ => all_congrM fun _ _ => sub_seeR
theorem a2_sh : a2S (seeR N R) N = sh2 N R := all_congrM fun _ hu => all_congrM fun _ _ => dec_seeR (List.mem_range.1 hu)
theorem a3_sh : a3S (seeR N R) N = sh3 N R := all_congrM fun _ _ => all_congrM fun _ _ => sub_seeR
theorem a4_sh : a4S (seeR N R) N = sh4 N R := all_congrM fun u _ => by
  cases seeR N R u with
  | nil => rfl
  | cons a l => simp
theorem a5_sh : a5S (seeR N R) N = sh5 N R := by
  rw [sh5, ← a1_sh, a1S, a5S, Bool.eq_iff_iff, Bool.and_eq_true, List.all_eq_true, List.all_eq_true, List.all_eq_true]
  constructor
  · intro h
    (refine ⟨fun u hu => ((Bool.and_eq_true_iff).1 (h u hu)).2, fun u hu => ?_⟩); have := ((Bool.and_eq_true_iff).1 (h u hu)).1; rw [dec_seeR (List.mem_range.1 hu)] at this; exact this
  · intro h u hu
    rw [Bool.and_eq_true]; refine ⟨?_, h.1 u hu⟩; rw [dec_seeR (List.mem_range.1 hu)]; exact h.2 u hu
end
end Go.Proofs.Ytmahgfgndfcmpag
