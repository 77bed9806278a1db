/- Texts of one proof, one behind the other: SBF, SBI. -/
import Derived.Test.YtclinobfbdljhahB36
import Derived.Deep.QuietTactic
import Derived.BigQuiet
import Derived.Test.YtclinobfbdljhahB23
import Derived.Test.YtclinobfbdljhahB10
/- Walks: the document's example of chapter 11 (bisimBegun). -/
namespace Go.Proofs.Ytclinobfbdljhah
open Go.RowKit

theorem nmz_nil : nmz [] = [] := by
  (have h : srt ([] : List (List UInt8)) = [] := by simp [srt]); rw [nmz, h]; rfl
theorem begun_cls : clsK 2 (relB [((0 : Int), (1 : Int))]) (([[], []] : List (List (List UInt8))).map nmz) = [0, 1] := by
  (have h : (([[], []] : List (List (List UInt8))).map nmz) = [[], []] := by simp [nmz_nil]); rw [h]
  decide +kernel
theorem begun_md : mdcode 40 2000 ⟨((2 : Nat) : Int), [((0 : Int), (1 : Int))], [[], []]⟩ = (0, 0) := by decide +kernel
set_option maxRecDepth 10000 in
set_option maxHeartbeats 4000000 in
theorem bisimBegun_any (w : World) : Calls Try.prog 15 #[] w fun e w' => e = .returned (.bool true) ∧ Below w.heap.size w w' := by
  have HCl : Hid (∀ W v, MR W ⟨((2 : Nat) : Int), [((0 : Int), (1 : Int))], [[], []]⟩ v → Calls Try.prog 17 #[v] W fun e w' => ∃ ad cp, e = .returned (.tuple #[.slice ad 2 cp, .agg #[.int .i64 0, .int .i64 0]]) ∧ OwnN W.heap.size w' ad cp [0, 1] ∧ Below W.heap.size W w') := fun W v h => by
    have := Classes_ok 2 _ _ begun_md v W h; rw [begun_cls] at this; exact this
  obtain ⟨X, hX⟩ : ∃ X, X = (w.alloc (.cells #[.int .i64 0, .int .i64 1] 42 (0, 0))).alloc (.cells #[.slice none 0 0, .slice none 0 0] 80 (0, 0)) := ⟨_, rfl⟩; (have HB0 : Hid (Below w.heap.size w X) := by rw [hX]; exact below_more (below_more (Below.refl _ w) _) _)
  have HM : Hid (MR X ⟨((2 : Nat) : Int), [((0 : Int), (1 : Int))], [[], []]⟩ (.agg #[.int .i64 2, .slice (some ⟨w.heap.size, 0, none⟩) 1 1, .slice (some ⟨w.heap.size + 1, 0, none⟩) 2 2])) := by
    (have b1 : X.heap[w.heap.size]? = some (.cells #[.int .i64 0, .int .i64 1] 42 (0, 0)) := by rw [hX]; exact alloc_keep (blk_new _ _) _); (have b2 : X.heap[w.heap.size + 1]? = some (.cells #[.slice none 0 0, .slice none 0 0] 80 (0, 0)) := by rw [hX]; exact blk_secE _ _ _); (have hs : SL X (.slice none 0 0) [] := ⟨none, 0, rfl, Nat.le_refl _, by unfold maxLen; omega, fun h => absurd rfl h⟩); (refine ⟨some ⟨w.heap.size, 0, none⟩, 1, some ⟨w.heap.size + 1, 0, none⟩, 2, rfl, ⟨_, 1, rfl, Nat.le_refl _, by unfold maxLen; omega, fun _ => ⟨w.heap.size, 0, rfl, fun j x y hj => ?_⟩⟩, ⟨_, 2, rfl, Nat.le_refl _, by unfold maxLen; omega, fun _ => ⟨w.heap.size + 1, 0, rfl, fun j r hj => ?_⟩⟩, fun l hl t ht => ?_⟩)
    · cases j with
      | zero => cases hj; exact ⟨blk_cell b1 0, blk_cell b1 1⟩
      | succ j => simp at hj
    · match j with
      | 0 => cases hj; exact ⟨_, blk_cell b2 0, hs⟩
      | 1 => cases hj; exact ⟨_, blk_cell b2 1, hs⟩
      | j + 2 => simp at hj
    · simp at hl
      subst hl
      cases ht
  go_enter Try.func15, Try.ntmps15
  go_wp2_with fail; rw [← hX]; clear hX; refine (HCl.out X _ HM.out).mono ?_; rintro _ w1 ⟨ad, cp, rfl, ho, hb⟩; (obtain ⟨b, rfl, hc⟩ := rowM_cells ho (by decide)); have c0 : w1.cell? ⟨b, 0, none⟩ = some (.int .i64 0) := hc 0 _ rfl; have c1 : w1.cell? ⟨b, 1, none⟩ = some (.int .i64 1) := hc 1 _ rfl; obtain ⟨h1, h2⟩ := rowM_caps ho; (have hcp : (2 : Int) ≤ (cp : Int) := by simp at h1; omega); have zb := lt_of_cell c0; have HB1 : Hid (Below w.heap.size w w1) := below_join HB0.out hb; obtain ⟨ec, hec⟩ : ∃ ec : Int, ec = 0 := ⟨_, rfl⟩; clear ho hb hc h1 h2; go_wp2_with fail; go_ret; exact ⟨rfl, below_more HB1.out _⟩
end Go.Proofs.Ytclinobfbdljhah
/- The law BisimTwice: two copies of a model beside each other have the classes of one. -/
namespace Go.Proofs.Ytclinobfbdljhah
open Go.RowKit Go.Sort

theorem encP_app : ∀ (a b : List (Int × Int)), encP (a ++ b) = encP a ++ encP b
  | [], _ => rfl
  | (x, y) :: a, b => by
    show .int .i64 x :: .int .i64 y :: encP (a ++ b) = _; rw [encP_app a b]; rfl
end Go.Proofs.Ytclinobfbdljhah
