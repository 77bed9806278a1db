/- Texts of one proof, one behind the other: SN9. -/
import Derived.Test.YtblodnpfckflaakB34
/- Walks: meaning.Check. -/
namespace Go.Proofs.Ytblodnpfckflaak
open Go.RowKit Go.Sort Go.Maps Go.WideMaps

/-- What Check says of a structure. -/
def stcode (s : StD) : Int × Int := if 1 ≤ s.n ∧ s.n ≤ 8 ∧ s.funs.length ≤ 10 ∧ s.preds.length ≤ 10 then lscode s.n.toNat s else (2, 0)
set_option maxRecDepth 10000 in
set_option maxHeartbeats 8000000 in
theorem stCheck_any (s : StD) (v : Value) (w : World) (hS : StR w s v) :
    Calls Try.prog 17 #[v] w fun e w' => e = .returned (.agg #[.int .i64 (stcode s).1, .int .i64 (stcode s).2]) ∧ Below w.heap.size w w' := by
  have hS' := hS; obtain ⟨af, cf, ap, cp, rfl, hF, hP⟩ := hS; obtain ⟨W, hWe⟩ : ∃ W, (w.alloc (.cells #[.int .i64 s.n, .slice af s.funs.length cf, .slice ap s.preds.length cp] 25 (0, 0))).alloc (.cells #[.int .i64 0, .int .i64 0] 39 (0, 0)) = W := ⟨_, rfl⟩; (have hBW : Below w.heap.size w W := by rw [← hWe]; exact below_more (below_more (Below.refl _ _) _) _); (have hq0 : W.heap[w.heap.size]? = some (.cells #[.int .i64 s.n, .slice af s.funs.length cf, .slice ap s.preds.length cp] 25 (0, 0)) := by rw [← hWe]; exact alloc_keep (blk_new _ _) _)
  have hq1 : W.heap[w.heap.size + 1]? = some (.cells #[.int .i64 0, .int .i64 0] 39 (0, 0)) := by
    have := blk_new (w.alloc (.cells #[.int .i64 s.n, .slice af s.funs.length cf, .slice ap s.preds.length cp] 25 (0, 0))) (.cells #[.int .i64 0, .int .i64 0] 39 (0, 0)); rw [← hWe]; simpa using this
  have HBW : Hid (Below w.heap.size w W) := hBW; have HQ1 : Hid (W.heap[w.heap.size + 1]? = some (.cells #[.int .i64 0, .int .i64 0] 39 (0, 0))) := hq1; have hSW := hS'.up hBW; (have hfm : s.funs.length ≤ maxLen := by obtain ⟨_, _, e, h1, h2, _⟩ := hF; omega); (have hpm : s.preds.length ≤ maxLen := by obtain ⟨_, _, e, h1, h2, _⟩ := hP; omega); (have hfI : ((s.funs.length : Nat) : Int) ≤ 9223372036854775807 := by unfold maxLen at hfm; omega); (have hpI : ((s.preds.length : Nat) : Int) ≤ 9223372036854775807 := by unfold maxLen at hpm; omega); obtain ⟨a0, a1, a2, -⟩ := blk3 hq0; obtain ⟨k1, k2, k3, k4⟩ := blk2 hq1; have hs1 := lt_of_block hq0; have hs2 := lt_of_block hq1; by_cases hok : 1 ≤ s.n ∧ s.n ≤ 8 ∧ s.funs.length ≤ 10 ∧ s.preds.length ≤ 10
  case neg =>
    (have hE : stcode s = (2, 0) := by unfold stcode; rw [if_neg hok]); rw [hE]; clear hE hfm hpm hSW hS' hF hP hBW hq0 hq1; by_cases h1 : s.n < 1
    · clear hok
      go_enter Try.func17, Try.ntmps17
      go_wp2_with fail; have f2 := set2 HQ1.out (.int .i64 2) (.int .i64 0); (have b2 := (HBW.out.setCell (p := ⟨w.heap.size + 1, 0, none⟩) (by simp) (.int .i64 2)).setCell (p := ⟨w.heap.size + 1, 1, none⟩) (by simp) (.int .i64 0)); generalize World.setCell _ _ _ = F at f2 b2 ⊢; clear k1 k2 k3 k4; obtain ⟨k1, k2, -⟩ := blk2 f2; (exact bodyPost_ret (v := .agg #[.int .i64 2, .int .i64 0]) (by simp [results, Try.results17, go_sem, k1, k2]) rfl ⟨rfl, b2⟩)
    by_cases h8 : 8 < s.n
    · clear hok
      go_enter Try.func17, Try.ntmps17
      go_wp2_with fail; have f2 := set2 HQ1.out (.int .i64 2) (.int .i64 0); (have b2 := (HBW.out.setCell (p := ⟨w.heap.size + 1, 0, none⟩) (by simp) (.int .i64 2)).setCell (p := ⟨w.heap.size + 1, 1, none⟩) (by simp) (.int .i64 0)); generalize World.setCell _ _ _ = F at f2 b2 ⊢; clear k1 k2 k3 k4; obtain ⟨k1, k2, -⟩ := blk2 f2; (exact bodyPost_ret (v := .agg #[.int .i64 2, .int .i64 0]) (by simp [results, Try.results17, go_sem, k1, k2]) rfl ⟨rfl, b2⟩)
    by_cases hle : s.preds.length ≤ s.funs.length
    · have hle1 : (s.preds.length : Int) ≤ (s.funs.length : Int) := by omega
      (have hle2 : ¬ (s.funs.length : Int) < (s.preds.length : Int) := by omega); (have hmx : max (s.funs.length : Int) (s.preds.length : Int) = (s.funs.length : Int) := by omega); (have h10 : (10 : Int) < (s.funs.length : Int) := by omega); clear hok hle
      go_enter Try.func17, Try.ntmps17
      go_wp2_with fail; have f2 := set2 HQ1.out (.int .i64 2) (.int .i64 0); (have b2 := (HBW.out.setCell (p := ⟨w.heap.size + 1, 0, none⟩) (by simp) (.int .i64 2)).setCell (p := ⟨w.heap.size + 1, 1, none⟩) (by simp) (.int .i64 0)); generalize World.setCell _ _ _ = F at f2 b2 ⊢; clear k1 k2 k3 k4; obtain ⟨k1, k2, -⟩ := blk2 f2; (exact bodyPost_ret (v := .agg #[.int .i64 2, .int .i64 0]) (by simp [results, Try.results17, go_sem, k1, k2]) rfl ⟨rfl, b2⟩)
    · have hle1 : (s.funs.length : Int) < (s.preds.length : Int) := by omega
      (have hle2 : (s.funs.length : Int) ≤ (s.preds.length : Int) := by omega); (have hmx : max (s.funs.length : Int) (s.preds.length : Int) = (s.preds.length : Int) := by omega); (have h10 : (10 : Int) < (s.preds.length : Int) := by omega); clear hok hle
      go_enter Try.func17, Try.ntmps17
      go_wp2_with fail; have f2 := set2 HQ1.out (.int .i64 2) (.int .i64 0); (have b2 := (HBW.out.setCell (p := ⟨w.heap.size + 1, 0, none⟩) (by simp) (.int .i64 2)).setCell (p := ⟨w.heap.size + 1, 1, none⟩) (by simp) (.int .i64 0)); generalize World.setCell _ _ _ = F at f2 b2 ⊢; clear k1 k2 k3 k4; obtain ⟨k1, k2, -⟩ := blk2 f2; (exact bodyPost_ret (v := .agg #[.int .i64 2, .int .i64 0]) (by simp [results, Try.results17, go_sem, k1, k2]) rfl ⟨rfl, b2⟩)
  obtain ⟨o1, o2, o3, o4⟩ := hok; (have hE : stcode s = lscode s.n.toNat s := by unfold stcode; rw [if_pos ⟨o1, o2, o3, o4⟩])
  have HL : Hid (Calls Try.prog 31 #[.agg #[.int .i64 s.n, .slice af s.funs.length cf, .slice ap s.preds.length cp]] W fun e w' => e = .returned (.agg #[.int .i64 (stcode s).1, .int .i64 (stcode s).2]) ∧ Below W.heap.size W w') := by
    show Calls _ _ _ _ _; rw [hE]; (exact listsFault_any s.n.toNat (by omega) s (by omega) _ W hSW o3 o4)
  generalize stcode s = E at *; obtain ⟨cc, aa⟩ := E; (have h8 : ¬ 8 < s.n := by omega); (have h1 : ¬ s.n < 1 := by omega); (have hmxx : ¬ (10 : Int) < max (s.funs.length : Int) (s.preds.length : Int) := by omega); by_cases hle : s.preds.length ≤ s.funs.length
  · have hle1 : (s.preds.length : Int) ≤ (s.funs.length : Int) := by omega
    (have hle2 : ¬ (s.funs.length : Int) < (s.preds.length : Int) := by omega); (have hmx : max (s.funs.length : Int) (s.preds.length : Int) = (s.funs.length : Int) := by omega); (have h10 : ¬ (10 : Int) < (s.funs.length : Int) := by omega); clear hle hE hfm hpm hSW hS' hF hP hBW hq0 hq1 o3 o4 hmxx
    go_enter Try.func17, Try.ntmps17
    go_wp2_with (first
      | (go_at_call 31
         refine HL.out.mono ?_; rintro e w4 ⟨rfl, hb4⟩; have HB4 : Hid (Below w.heap.size w w4) := below_join HBW.out hb4; have HQ4 : Hid (w4.heap[w.heap.size + 1]? = some (.cells #[.int .i64 0, .int .i64 0] 39 (0, 0))) := below_keep hb4 HQ1.out; clear k1 k2 k3 k4 hb4
         obtain ⟨k1, k2, k3, k4⟩ := blk2 HQ4.out)
      | fail)
    have f2 := set2 HQ4.out (.int .i64 cc) (.int .i64 aa); (have b2 := (HB4.out.setCell (p := ⟨w.heap.size + 1, 0, none⟩) (by simp) (.int .i64 cc)).setCell (p := ⟨w.heap.size + 1, 1, none⟩) (by simp) (.int .i64 aa)); generalize World.setCell _ _ _ = F at f2 b2 ⊢; clear k1 k2 k3 k4; obtain ⟨k1, k2, -⟩ := blk2 f2; (exact bodyPost_ret (v := .agg #[.int .i64 cc, .int .i64 aa]) (by simp [results, Try.results17, go_sem, k1, k2]) rfl ⟨rfl, b2⟩)
  · have hle1 : (s.funs.length : Int) < (s.preds.length : Int) := by omega
    (have hle2 : (s.funs.length : Int) ≤ (s.preds.length : Int) := by omega); (have hmx : max (s.funs.length : Int) (s.preds.length : Int) = (s.preds.length : Int) := by omega); (have h10 : ¬ (10 : Int) < (s.preds.length : Int) := by omega); clear hle hE hfm hpm hSW hS' hF hP hBW hq0 hq1 o3 o4 hmxx
    go_enter Try.func17, Try.ntmps17
    go_wp2_with (first
      | (go_at_call 31
         refine HL.out.mono ?_; rintro e w4 ⟨rfl, hb4⟩; have HB4 : Hid (Below w.heap.size w w4) := below_join HBW.out hb4; have HQ4 : Hid (w4.heap[w.heap.size + 1]? = some (.cells #[.int .i64 0, .int .i64 0] 39 (0, 0))) := below_keep hb4 HQ1.out; clear k1 k2 k3 k4 hb4
         obtain ⟨k1, k2, k3, k4⟩ := blk2 HQ4.out)
      | fail)
    have f2 := set2 HQ4.out (.int .i64 cc) (.int .i64 aa); (have b2 := (HB4.out.setCell (p := ⟨w.heap.size + 1, 0, none⟩) (by simp) (.int .i64 cc)).setCell (p := ⟨w.heap.size + 1, 1, none⟩) (by simp) (.int .i64 aa)); generalize World.setCell _ _ _ = F at f2 b2 ⊢; clear k1 k2 k3 k4; obtain ⟨k1, k2, -⟩ := blk2 f2; (exact bodyPost_ret (v := .agg #[.int .i64 cc, .int .i64 aa]) (by simp [results, Try.results17, go_sem, k1, k2]) rfl ⟨rfl, b2⟩)
end Go.Proofs.Ytblodnpfckflaak
