/- Texts of one proof, one behind the other: SBJ. -/
import Derived.Test.YtlmjnglcdgkomahB27
/- The law BisimTwice, whole. -/
namespace Go.Proofs.Ytlmjnglcdgkomah
open Go.RowKit

set_option maxRecDepth 10000 in
set_option maxHeartbeats 4000000 in
theorem btw_bad (m : Mdl) (h0 : (mdcode 40 2000 m).1 ≠ 0) (v : Value) (w : World) (hv : MR w m v) :
    Calls Try.prog 6 #[v] w fun e w' => e = .returned (.bool true) ∧ Below w.heap.size w w' := by
  (have HCl : Hid (∀ W, Below w.heap.size w W → Calls Try.prog 17 #[v] W fun e w' => e = .returned (.tuple #[.slice none 0 0, .agg #[.int .i64 (mdcode 40 2000 m).1, .int .i64 (mdcode 40 2000 m).2]]) ∧ Below W.heap.size W w') := fun W hb => Classes_bad m h0 v W (hv.up hb)); obtain ⟨ra, rc, ta, tc, rfl, -⟩ := hv; generalize mdcode 40 2000 m = md at *; obtain ⟨c, a⟩ := md; (have hcn : (c != 0) = true := by simpa using h0); obtain ⟨X, hX⟩ : ∃ X, X = w.alloc (.cells #[.int .i64 m.n, .slice ra m.rel.length rc, .slice ta m.tr.length tc] 30 (0, 0)) := ⟨_, rfl⟩; (have HB0 : Hid (Below w.heap.size w X) := by rw [hX]; exact below_more (Below.refl _ w) _); (have HM0 : Hid (X.heap[w.heap.size]? = some (.cells #[.int .i64 m.n, .slice ra m.rel.length rc, .slice ta m.tr.length tc] 30 (0, 0))) := by rw [hX]; exact blk_new _ _); clear h0
  go_enter Try.func6, Try.ntmps6
  go_wp2_with fail; rw [← hX]; clear hX; refine (bisimBegun_any X).mono ?_; rintro _ w1 ⟨rfl, hb1⟩; have HB1 : Hid (Below w.heap.size w w1) := below_join HB0.out hb1; have HM1 : Hid (w1.heap[w.heap.size]? = some _) := below_keep hb1 HM0.out; obtain ⟨k0, k1, k2, -⟩ := blk3 HM1.out; clear hb1; go_wp2_with fail; refine (HCl.out w1 HB1.out).mono ?_; rintro _ w2 ⟨rfl, hb2⟩; have HM2 : Hid (w2.heap[w.heap.size]? = some _) := below_keep hb2 HM1.out; obtain ⟨d0, d1, d2, -⟩ := blk3 HM2.out; have z2 := lt_of_block HM2.out; have HB2 : Hid (Below w.heap.size w w2) := below_join HB1.out hb2; clear hb2 k0 k1 k2; go_wp2_with fail; go_ret; exact ⟨rfl, below_more HB2.out _⟩
set_option maxRecDepth 10000 in
set_option maxHeartbeats 4000000 in
theorem btw_more (N : Nat) (rel : List (Int × Int)) (tr : List (List (List UInt8))) (h0 : mdcode 40 2000 ⟨(N : Int), rel, tr⟩ = (0, 0)) (hm : 20 < N ∨ (N ≤ 20 ∧ 1000 < rel.length)) (v : Value) (w : World) (hv : MR w ⟨(N : Int), rel, tr⟩ v) :
    Calls Try.prog 6 #[v] w fun e w' => e = .returned (.bool true) ∧ Below w.heap.size w w' := by
  (have HCl : Hid (∀ W, Below w.heap.size w W → Calls Try.prog 17 #[v] W fun e w' => ∃ ad cp, e = .returned (.tuple #[.slice ad N cp, .agg #[.int .i64 0, .int .i64 0]]) ∧ OwnN W.heap.size w' ad cp (clsK N (relB rel) (tr.map nmz)) ∧ Below W.heap.size W w') := fun W hb => Classes_ok N rel tr h0 v W (hv.up hb)); obtain ⟨ra, rc, ta, tc, rfl, -⟩ := hv; simp only at HCl ⊢; obtain ⟨X, hX⟩ : ∃ X, X = w.alloc (.cells #[.int .i64 (N : Nat), .slice ra rel.length rc, .slice ta tr.length tc] 30 (0, 0)) := ⟨_, rfl⟩; (have HB0 : Hid (Below w.heap.size w X) := by rw [hX]; exact below_more (Below.refl _ w) _); (have HM0 : Hid (X.heap[w.heap.size]? = some (.cells #[.int .i64 (N : Nat), .slice ra rel.length rc, .slice ta tr.length tc] 30 (0, 0))) := by rw [hX]; exact blk_new _ _); clear h0
  rcases hm with hm | ⟨hm, hr⟩
  · have hmI : (20 : Int) < (N : Int) := by omega
    go_enter Try.func6, Try.ntmps6
    go_wp2_with fail; rw [← hX]; clear hX; refine (bisimBegun_any X).mono ?_; rintro _ w1 ⟨rfl, hb1⟩; have HB1 : Hid (Below w.heap.size w w1) := below_join HB0.out hb1; have HM1 : Hid (w1.heap[w.heap.size]? = some _) := below_keep hb1 HM0.out; obtain ⟨k0, k1, k2, -⟩ := blk3 HM1.out; clear hb1; go_wp2_with fail; refine (HCl.out w1 HB1.out).mono ?_; rintro _ w2 ⟨ad2, cp2, rfl, -, hb2⟩; have HM2 : Hid (w2.heap[w.heap.size]? = some _) := below_keep hb2 HM1.out; obtain ⟨d0, d1, d2, -⟩ := blk3 HM2.out; have z2 := lt_of_block HM2.out; have HB2 : Hid (Below w.heap.size w w2) := below_join HB1.out hb2; clear hb2 k0 k1 k2; go_wp2_with fail; go_ret; exact ⟨rfl, below_more HB2.out _⟩
  · have hmI : ¬ (20 : Int) < (N : Int) := by omega
    (have hrI : (1000 : Int) < (rel.length : Int) := by omega)
    go_enter Try.func6, Try.ntmps6
    go_wp2_with fail; rw [← hX]; clear hX; refine (bisimBegun_any X).mono ?_; rintro _ w1 ⟨rfl, hb1⟩; have HB1 : Hid (Below w.heap.size w w1) := below_join HB0.out hb1; have HM1 : Hid (w1.heap[w.heap.size]? = some _) := below_keep hb1 HM0.out; obtain ⟨k0, k1, k2, -⟩ := blk3 HM1.out; clear hb1; go_wp2_with fail; refine (HCl.out w1 HB1.out).mono ?_; rintro _ w2 ⟨ad2, cp2, rfl, -, hb2⟩; have HM2 : Hid (w2.heap[w.heap.size]? = some _) := below_keep hb2 HM1.out; obtain ⟨d0, d1, d2, -⟩ := blk3 HM2.out; have z2 := lt_of_block HM2.out; have HB2 : Hid (Below w.heap.size w w2) := below_join HB1.out hb2; clear hb2 k0 k1 k2; go_wp2_with fail; go_ret; exact ⟨rfl, below_more HB2.out _⟩
theorem btw_law (m : Mdl) (v : Value) (w : World) (hv : MR w m v) :
    Calls Try.prog 6 #[v] w fun e w' => e = .returned (.bool true) ∧ Below w.heap.size w w' := by
  by_cases h0 : (mdcode 40 2000 m).1 = 0
  · obtain ⟨N, hN, -⟩ := mdcode_in h0
    have h2 := mdcode_twoS h0; obtain ⟨n, rel, tr⟩ := m; simp only at hN; subst hN; by_cases h20 : N ≤ 20
    · by_cases hr : rel.length ≤ 1000
      · exact btw_main N rel tr h2 h20 hr v w hv
      · exact btw_more N rel tr h2 (Or.inr ⟨h20, by omega⟩) v w hv
    · exact btw_more N rel tr h2 (Or.inl (by omega)) v w hv
  · exact btw_bad m h0 v w hv
end Go.Proofs.Ytlmjnglcdgkomah
