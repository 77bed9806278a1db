/- Texts of one proof, one behind the other: MD2. -/
import Derived.Test.YtclinobfbdljhahB18
/- Walks: what the yardstick says of a model. -/
namespace Go.Proofs.Ytclinobfbdljhah
open Go.RowKit

theorem blk_secM (w : World) (o o' : Obj) : ((w.alloc o).alloc o').heap[w.heap.size + 1]? = some o' := by
  have := blk_new (w.alloc o) o'; simpa using this
theorem Below.drewM {B : Nat} {a w : World} (n : Nat) (h : Below B a w) : Below B a (w.drewN n) := ⟨h.os, h.tape, h.output, h.size, h.block⟩
set_option maxRecDepth 10000 in
set_option maxHeartbeats 8000000 in
theorem modelFault_any (W P : Int) (m : Mdl) (hW : 0 ≤ W ∧ W ≤ 100000) (hP : 0 ≤ P ∧ P ≤ 10000000) (v : Value) (w : World) (hv : MR w m v) :
    Calls Try.prog 19 #[v, .int .i64 W, .int .i64 P] w fun e w' => e = .returned (.agg #[.int .i64 (mdcode W P m).1, .int .i64 (mdcode W P m).2]) ∧ Below w.heap.size w w' := by
  obtain ⟨n, rel, tr⟩ := m; obtain ⟨ra, rc, ta, tc, rfl, hpl, hsl, hmx⟩ := hv; simp only at hpl hsl hmx ⊢; obtain ⟨ra', rc', e1, p1, p2, p3⟩ := hpl; simp only [Value.slice.injEq, true_and] at e1; obtain ⟨rfl, rfl⟩ := e1; obtain ⟨ta', tc', e2, s1, s2, s3⟩ := hsl; simp only [Value.slice.injEq, true_and] at e2; obtain ⟨rfl, rfl⟩ := e2; have HP3 : Hid (rel ≠ [] → ∃ b off, ra = some ⟨b, off, none⟩ ∧ ∀ (j : Nat) (x y : Int), rel[j]? = some (x, y) → w.cell? ⟨b, off + j * 2, none⟩ = some (.int .i64 x) ∧ w.cell? ⟨b, off + j * 2 + 1, none⟩ = some (.int .i64 y)) := p3; have HS3 : Hid (tr ≠ [] → ∃ b off, ta = some ⟨b, off, none⟩ ∧ ∀ (j : Nat) (r : List (List UInt8)), tr[j]? = some r → ∃ u, w.cell? ⟨b, off + j, none⟩ = some u ∧ SL w u r) := s3; have HMx : Hid (∀ l ∈ tr, ∀ t ∈ l, t.length ≤ maxLen) := hmx; (have hrcI : (rel.length : Int) ≤ (rc : Int) := by omega); (have htcI : (tr.length : Int) ≤ (tc : Int) := by omega); (have hrm : (rel.length : Int) ≤ 9223372036854775807 := by unfold maxLen at p2; omega); (have htm : (tr.length : Int) ≤ 9223372036854775807 := by unfold maxLen at s2; omega); obtain ⟨M, hM⟩ : ∃ M, M = mdcode W P ⟨n, rel, tr⟩ := ⟨_, rfl⟩; rw [← hM]; obtain ⟨W0, hW0⟩ : ∃ W0, W0 = (w.alloc (.cells #[.int .i64 n, .slice ra rel.length rc, .slice ta tr.length tc] 30 (0, 0))).alloc (.cells #[.int .i64 0, .int .i64 0] 32 (0, 0)) := ⟨_, rfl⟩; (have HB0 : Hid (Below w.heap.size w W0) := by rw [hW0]; exact below_more (below_more (Below.refl _ w) _) _); (have Q0 : Hid (W0.heap[w.heap.size]? = some (.cells #[.int .i64 n, .slice ra rel.length rc, .slice ta tr.length tc] 30 (0, 0))) := by rw [hW0]; exact alloc_keep (blk_new w _) _); (have Q1 : Hid (W0.heap[w.heap.size + 1]? = some (.cells #[.int .i64 0, .int .i64 0] 32 (0, 0))) := by rw [hW0]; exact blk_secM w _ _); have HWe : Hid ((w.alloc (.cells #[.int .i64 n, .slice ra rel.length rc, .slice ta tr.length tc] 30 (0, 0))).alloc (.cells #[.int .i64 0, .int .i64 0] 32 (0, 0)) = W0) := hW0.symm; have HBr : Hid (Below W0.heap.size W0 W0) := Below.refl _ _; obtain ⟨hWa, hWb⟩ := hW; obtain ⟨hPa, hPb⟩ := hP; clear p3 s3 hmx p1 p2 s1 s2 hW0
  go_enter Try.func19, Try.ntmps19
  go_upto_region 1 with fail
  rw [HWe.out]; clear HWe; obtain ⟨a0, a1, a2, -⟩ := blk3 Q0.out; by_cases h1 : n < 1
  · have HM : Hid (M = (2, 0)) := by rw [hM]; unfold mdcode; exact if_pos (Or.inl h1)
    clear hM; go_wp2_with fail; refine (mkF_any 2 0 _).mono ?_; rintro e w9 ⟨rfl, hb9⟩; have HB9 : Hid (Below W0.heap.size W0 w9) := below_join HBr.out hb9; have q9 := below_keep HB9.out Q1.out; clear hb9; obtain ⟨k1, k2, k3, k4⟩ := blk2 q9; have zq := lt_of_block q9; go_wp2_with fail; have f2 := set2 q9 (.int .i64 2) (.int .i64 0); (have b2 := ((below_join HB0.out HB9.out).setCell (p := ⟨w.heap.size + 1, 0, none⟩) (by simp) (.int .i64 2)).setCell (p := ⟨w.heap.size + 1, 1, none⟩) (by simp) (.int .i64 0)); generalize World.setCell _ _ _ = F at f2 b2 ⊢; clear k1 k2 k3 k4; obtain ⟨o1, o2, -⟩ := blk2 f2; (exact bodyPost_ret (v := .agg #[.int .i64 2, .int .i64 0]) (by simp [results, Try.results19, go_sem, o1, o2]) rfl ⟨by rw [HM.out], b2⟩)
  by_cases h2 : W < n
  · have HM : Hid (M = (2, 0)) := by rw [hM]; unfold mdcode; exact if_pos (Or.inr (Or.inl h2))
    clear hM; go_wp2_with fail; refine (mkF_any 2 0 _).mono ?_; rintro e w9 ⟨rfl, hb9⟩; have HB9 : Hid (Below W0.heap.size W0 w9) := below_join HBr.out hb9; have q9 := below_keep HB9.out Q1.out; clear hb9; obtain ⟨k1, k2, k3, k4⟩ := blk2 q9; have zq := lt_of_block q9; go_wp2_with fail; have f2 := set2 q9 (.int .i64 2) (.int .i64 0); (have b2 := ((below_join HB0.out HB9.out).setCell (p := ⟨w.heap.size + 1, 0, none⟩) (by simp) (.int .i64 2)).setCell (p := ⟨w.heap.size + 1, 1, none⟩) (by simp) (.int .i64 0)); generalize World.setCell _ _ _ = F at f2 b2 ⊢; clear k1 k2 k3 k4; obtain ⟨o1, o2, -⟩ := blk2 f2; (exact bodyPost_ret (v := .agg #[.int .i64 2, .int .i64 0]) (by simp [results, Try.results19, go_sem, o1, o2]) rfl ⟨by rw [HM.out], b2⟩)
  by_cases h3 : P < (rel.length : Int)
  · have HM : Hid (M = (2, 0)) := by rw [hM]; unfold mdcode; exact if_pos (Or.inr (Or.inr h3))
    clear hM; go_wp2_with fail; refine (mkF_any 2 0 _).mono ?_; rintro e w9 ⟨rfl, hb9⟩; have HB9 : Hid (Below W0.heap.size W0 w9) := below_join HBr.out hb9; have q9 := below_keep HB9.out Q1.out; clear hb9; obtain ⟨k1, k2, k3, k4⟩ := blk2 q9; have zq := lt_of_block q9; go_wp2_with fail; have f2 := set2 q9 (.int .i64 2) (.int .i64 0); (have b2 := ((below_join HB0.out HB9.out).setCell (p := ⟨w.heap.size + 1, 0, none⟩) (by simp) (.int .i64 2)).setCell (p := ⟨w.heap.size + 1, 1, none⟩) (by simp) (.int .i64 0)); generalize World.setCell _ _ _ = F at f2 b2 ⊢; clear k1 k2 k3 k4; obtain ⟨o1, o2, -⟩ := blk2 f2; (exact bodyPost_ret (v := .agg #[.int .i64 2, .int .i64 0]) (by simp [results, Try.results19, go_sem, o1, o2]) rfl ⟨by rw [HM.out], b2⟩)
  have hM1 : M = if (tr.length : Int) ≠ n then (9, 0) else if rel.any (pairBad n) then (3, ((rel.findIdx (pairBad n) : Nat) : Int)) else wfirst tr 0 := by
    rw [hM]; unfold mdcode; (exact if_neg (by rintro (h | h | h); exact h1 h; exact h2 h; exact h3 h))
  clear hM; by_cases h4 : (tr.length : Int) = n
  · rw [if_neg (fun e => e h4)] at hM1
    (have HM1 : Hid (M = if rel.any (pairBad n) then (3, ((rel.findIdx (pairBad n) : Nat) : Int)) else wfirst tr 0) := hM1); (have hnq : ((tr.length : Int) != n) = false := by simpa using h4); have HN4 : Hid ((tr.length : Int) = n) := h4; (have hn1 : 1 ≤ n := by omega); (have hnb : n ≤ 100000 := by omega); clear hM1 h4 h1; go_wp2_with fail
    go_loopg [7] rel.length (fun g c wr => ∃ i, i ≤ rel.length ∧ g = rel.length - i ∧ c = .int .i64 (i : Nat) ∧ Hid (Below W0.heap.size W0 wr) ∧ Hid ((rel.take i).any (pairBad n) = false))
    case atStart => exact ⟨0, by omega, by omega, rfl, Below.refl _ _, by show _ = _; rfl⟩
    case round =>
      obtain ⟨i, hi, hg, rfl, HBr, HNo⟩ := hrel; have HG : Hid (gk = rel.length - i) := hg; clear hg a0 a1 a2; obtain ⟨a0, a1, a2, -⟩ := blk3 (below_keep HBr.out Q0.out); by_cases hlt : i < rel.length
      · obtain ⟨⟨x, y⟩, hxy⟩ : ∃ f, rel[i]? = some f := ⟨_, List.getElem?_eq_getElem hlt⟩
        (obtain ⟨b, off, rfl, hc⟩ := HP3.out (fun e => by rw [e] at hlt; simp at hlt)); obtain ⟨g0, g1⟩ := hc i x y hxy; have HBw : Hid (Below w.heap.size w wr) := below_join HB0.out HBr.out; have c0 := (HBw.out.cell (lt_of_cell g0)).trans g0; have c1 := (HBw.out.cell (lt_of_cell g1)).trans g1; (have hltI : (i : Int) < (rel.length : Int) := by omega); (have hltc : (i : Int) < (rc : Int) := by omega)
        have HBad : Hid (pairBad n (x, y) = true → M = (3, ((i : Nat) : Int))) := fun hb => by
          obtain ⟨e1, e2⟩ := findIdx_first HNo.out hxy hb; rw [HM1.out, if_pos e2, e1]
        (have HOk : Hid (pairBad n (x, y) = false → (rel.take (i + 1)).any (pairBad n) = false) := fun hb => by rw [any_take HNo.out hxy, hb]); have HI : Hid (i < rel.length) := hlt; have HGx : Hid (w.cell? ⟨b, off + i * 2, none⟩ = some (.int .i64 x) ∧ w.cell? ⟨b, off + i * 2 + 1, none⟩ = some (.int .i64 y)) := ⟨g0, g1⟩; clear hc hxy g0 g1 hlt hi; go_wp2_with fail
        go_loopg [8] 2 (fun g c wz => ∃ k, k ≤ 2 ∧ g = 2 - k ∧ c = .int .i64 (k : Nat) ∧ Hid (Below W0.heap.size W0 wz) ∧ Hid ((1 ≤ k → ¬ x < 0 ∧ ¬ n ≤ x) ∧ (2 ≤ k → ¬ y < 0 ∧ ¬ n ≤ y)))
        case atStart => exact ⟨0, by omega, by omega, rfl, HBr, ⟨fun h => absurd h (by omega), fun h => absurd h (by omega)⟩⟩
        case round =>
          obtain ⟨k, hk, hgk, rfl, HBz, HXY⟩ := hrel; have HGk : Hid (gk = 2 - k) := hgk; have HBr9 : Hid (Below W0.heap.size W0 wr) := HBz; clear hgk a0 a1 a2 c0 c1; obtain ⟨a0, a1, a2, -⟩ := blk3 (below_keep HBz.out Q0.out); have HBy : Hid (Below w.heap.size w wr) := below_join HB0.out HBz.out; obtain ⟨gx0, gx1⟩ := HGx.out; have c0 := (HBy.out.cell (lt_of_cell gx0)).trans gx0; have c1 := (HBy.out.cell (lt_of_cell gx1)).trans gx1; clear gx0 gx1; (have hk3 : k = 0 ∨ k = 1 ∨ k = 2 := by omega)
          rcases hk3 with rfl | rfl | rfl
          · by_cases hx0 : x < 0
            · have HM : Hid (M = (3, ((i : Nat) : Int))) := HBad.out (by unfold pairBad; simp [hx0])
              have HBr : Hid (Below W0.heap.size W0 wr) := HBr9; clear HBad HOk; go_wp2_with fail
              go_quiet (fail)
              go_wp2_with fail; refine (mkF_any 3 (i : Nat) _).mono ?_; rintro e w9 ⟨rfl, hb9⟩; have HB9 : Hid (Below W0.heap.size W0 w9) := below_join (Below.drewM nq HBr.out) hb9; have q9 := below_keep HB9.out Q1.out; clear hb9; obtain ⟨k1, k2, k3, k4⟩ := blk2 q9; have zq := lt_of_block q9; go_wp2_with fail; have f2 := set2 q9 (.int .i64 3) (.int .i64 (i : Nat)); (have b2 := ((below_join HB0.out HB9.out).setCell (p := ⟨w.heap.size + 1, 0, none⟩) (by simp) (.int .i64 3)).setCell (p := ⟨w.heap.size + 1, 1, none⟩) (by simp) (.int .i64 (i : Nat))); generalize World.setCell _ _ _ = F at f2 b2 ⊢; clear k1 k2 k3 k4; obtain ⟨o1, o2, -⟩ := blk2 f2; (exact bodyPost_ret (v := .agg #[.int .i64 3, .int .i64 (i : Nat)]) (by simp [results, Try.results19, go_sem, o1, o2]) rfl ⟨by rw [HM.out], b2⟩)
            · by_cases hx1 : n ≤ x
              · have HM : Hid (M = (3, ((i : Nat) : Int))) := HBad.out (by unfold pairBad; simp [hx1])
                have HBr : Hid (Below W0.heap.size W0 wr) := HBr9; clear HBad HOk; go_wp2_with fail
                go_quiet (fail)
                go_wp2_with fail; refine (mkF_any 3 (i : Nat) _).mono ?_; rintro e w9 ⟨rfl, hb9⟩; have HB9 : Hid (Below W0.heap.size W0 w9) := below_join (Below.drewM nq HBr.out) hb9; have q9 := below_keep HB9.out Q1.out; clear hb9; obtain ⟨k1, k2, k3, k4⟩ := blk2 q9; have zq := lt_of_block q9; go_wp2_with fail; have f2 := set2 q9 (.int .i64 3) (.int .i64 (i : Nat)); (have b2 := ((below_join HB0.out HB9.out).setCell (p := ⟨w.heap.size + 1, 0, none⟩) (by simp) (.int .i64 3)).setCell (p := ⟨w.heap.size + 1, 1, none⟩) (by simp) (.int .i64 (i : Nat))); generalize World.setCell _ _ _ = F at f2 b2 ⊢; clear k1 k2 k3 k4; obtain ⟨o1, o2, -⟩ := blk2 f2; (exact bodyPost_ret (v := .agg #[.int .i64 3, .int .i64 (i : Nat)]) (by simp [results, Try.results19, go_sem, o1, o2]) rfl ⟨by rw [HM.out], b2⟩)
              · have HX1 : Hid (¬ x < 0 ∧ ¬ n ≤ x) := ⟨hx0, hx1⟩
                go_wp2_with fail
                go_quiet (fail)
                go_wp2_with fail
                go_roundg (2 - (0 + 1))
                case measure => have := HGk.out; omega
                case rel => exact ⟨0 + 1, by omega, rfl, by go_num, Below.drewM nq HBz.out, ⟨fun _ => HX1.out, fun h => absurd h (by omega)⟩⟩
          · have hxo := HXY.out.1 (by omega)
            have HXo : Hid (¬ x < 0 ∧ ¬ n ≤ x) := hxo; clear hxo; by_cases hy0 : y < 0
            · have HM : Hid (M = (3, ((i : Nat) : Int))) := HBad.out (by unfold pairBad; simp [hy0])
              have HBr : Hid (Below W0.heap.size W0 wr) := HBr9; clear HBad HOk; go_wp2_with fail
              go_quiet (fail)
              go_wp2_with fail; refine (mkF_any 3 (i : Nat) _).mono ?_; rintro e w9 ⟨rfl, hb9⟩; have HB9 : Hid (Below W0.heap.size W0 w9) := below_join (Below.drewM nq HBr.out) hb9; have q9 := below_keep HB9.out Q1.out; clear hb9; obtain ⟨k1, k2, k3, k4⟩ := blk2 q9; have zq := lt_of_block q9; go_wp2_with fail; have f2 := set2 q9 (.int .i64 3) (.int .i64 (i : Nat)); (have b2 := ((below_join HB0.out HB9.out).setCell (p := ⟨w.heap.size + 1, 0, none⟩) (by simp) (.int .i64 3)).setCell (p := ⟨w.heap.size + 1, 1, none⟩) (by simp) (.int .i64 (i : Nat))); generalize World.setCell _ _ _ = F at f2 b2 ⊢; clear k1 k2 k3 k4; obtain ⟨o1, o2, -⟩ := blk2 f2; (exact bodyPost_ret (v := .agg #[.int .i64 3, .int .i64 (i : Nat)]) (by simp [results, Try.results19, go_sem, o1, o2]) rfl ⟨by rw [HM.out], b2⟩)
            · by_cases hy1 : n ≤ y
              · have HM : Hid (M = (3, ((i : Nat) : Int))) := HBad.out (by unfold pairBad; simp [hy1])
                have HBr : Hid (Below W0.heap.size W0 wr) := HBr9; clear HBad HOk; go_wp2_with fail
                go_quiet (fail)
                go_wp2_with fail; refine (mkF_any 3 (i : Nat) _).mono ?_; rintro e w9 ⟨rfl, hb9⟩; have HB9 : Hid (Below W0.heap.size W0 w9) := below_join (Below.drewM nq HBr.out) hb9; have q9 := below_keep HB9.out Q1.out; clear hb9; obtain ⟨k1, k2, k3, k4⟩ := blk2 q9; have zq := lt_of_block q9; go_wp2_with fail; have f2 := set2 q9 (.int .i64 3) (.int .i64 (i : Nat)); (have b2 := ((below_join HB0.out HB9.out).setCell (p := ⟨w.heap.size + 1, 0, none⟩) (by simp) (.int .i64 3)).setCell (p := ⟨w.heap.size + 1, 1, none⟩) (by simp) (.int .i64 (i : Nat))); generalize World.setCell _ _ _ = F at f2 b2 ⊢; clear k1 k2 k3 k4; obtain ⟨o1, o2, -⟩ := blk2 f2; (exact bodyPost_ret (v := .agg #[.int .i64 3, .int .i64 (i : Nat)]) (by simp [results, Try.results19, go_sem, o1, o2]) rfl ⟨by rw [HM.out], b2⟩)
              · have HY1 : Hid (¬ y < 0 ∧ ¬ n ≤ y) := ⟨hy0, hy1⟩
                go_wp2_with fail
                go_quiet (fail)
                go_wp2_with fail
                go_roundg (2 - (1 + 1))
                case measure => have := HGk.out; omega
                case rel => exact ⟨1 + 1, by omega, rfl, by go_num, Below.drewM nq HBz.out, ⟨fun _ => HXo.out, fun _ => HY1.out⟩⟩
          · have hxo := HXY.out.1 (by omega)
            (have hyo := HXY.out.2 (by omega)); (have HOk2 : Hid ((rel.take (i + 1)).any (pairBad n) = false) := HOk.out (by unfold pairBad; simp [hxo.1, hxo.2, hyo.1, hyo.2])); clear hxo hyo HXY; go_wp2_with fail
            go_roundg (rel.length - (i + 1))
            case measure => have := HG.out; have := HI.out; omega
            case rel => exact ⟨i + 1, HI.out, rfl, by go_num, HBz, HOk2⟩
      · have hii : i = rel.length := by omega
        subst hii; (have hge : ¬ (rel.length : Int) < (rel.length : Int) := by omega); have hno := HNo.out; rw [List.take_length] at hno; (have HMw : Hid (M = wfirst (tr.drop 0) 0) := by show _ = _; rw [HM1.out, hno]; rfl); obtain ⟨Wa, hWa9⟩ : ∃ Wa, Wa = wr := ⟨_, rfl⟩; subst hWa9; have HBa : Hid (Below W0.heap.size W0 Wa) := HBr; clear hno hlt hi HNo HM1 HBr; go_wp2_with fail
        go_loopg [9] tr.length (fun g c wz => ∃ u, u ≤ tr.length ∧ g = tr.length - u ∧ c = .int .i64 (u : Nat) ∧ Hid (Below W0.heap.size W0 wz) ∧ Hid (M = wfirst (tr.drop u) u))
        case atStart => exact ⟨0, by omega, by omega, rfl, HBa, HMw⟩
        case round =>
          obtain ⟨u, hu, hg, rfl, HBu, HMu⟩ := hrel; have HGu : Hid (gk = tr.length - u) := hg; clear hg a0 a1 a2; obtain ⟨a0, a1, a2, -⟩ := blk3 (below_keep HBu.out Q0.out); by_cases hlt : u < tr.length
          · obtain ⟨l, hl⟩ : ∃ f, tr[u]? = some f := ⟨_, List.getElem?_eq_getElem hlt⟩
            (obtain ⟨b, off, rfl, hc⟩ := HS3.out (fun e => by rw [e] at hlt; simp at hlt)); obtain ⟨lv, g0, hlv⟩ := hc u l hl; have HBw : Hid (Below w.heap.size w wr) := below_join HB0.out HBu.out; have c0 := (HBw.out.cell (lt_of_cell g0)).trans g0; have HLv : Hid (SL w lv l) := hlv; obtain ⟨adl, cpl, rfl, l1, l2, l3⟩ := hlv; have HL3 : Hid (l ≠ [] → ∃ g off, adl = some ⟨g, off, none⟩ ∧ ∀ (j : Nat) (t : List UInt8), l[j]? = some t → w.cell? ⟨g, off + j, none⟩ = some (.string ⟨t.toArray⟩)) := l3; (have hltI : (u : Int) < (tr.length : Int) := by omega); (have hltn : (u : Int) < n := by have := HN4.out; omega); (have hltc : (u : Int) < (tc : Int) := by omega); have hmu := HMu.out; rw [wfirst_drop hl] at hmu; (have HMu2 : Hid (M = if wcode l = 0 then wfirst (tr.drop (u + 1)) (u + 1) else (wcode l, ((u : Nat) : Int))) := hmu); have HMl : Hid (∀ t ∈ l, t.length ≤ maxLen) := HMx.out l (List.mem_of_getElem? hl); have HI : Hid (u < tr.length) := hlt; (have hlI : (l.length : Int) ≤ 9223372036854775807 := by unfold maxLen at l2; omega); (have hlcI : (l.length : Int) ≤ (cpl : Int) := by omega); have HC0 : Hid (w.cell? ⟨b, off + u, none⟩ = some (.slice adl l.length cpl)) := g0; clear hc hl hmu HMu hlt hu l1 l2 l3 g0; by_cases h30 : 30 < l.length
            · have h30I : (30 : Int) < (l.length : Int) := by omega
              have HM : Hid (M = (2, ((u : Nat) : Int))) := by
                (have hw : wcode l = 2 := by unfold wcode; rw [if_pos h30]); have := HMu2.out; (rw [hw, if_neg (by decide)] at this); exact this
              have HBr : Hid (Below W0.heap.size W0 wr) := HBu; clear h30 HMu2; go_wp2_with fail; refine (mkF_any 2 (u : Nat) _).mono ?_; rintro e w9 ⟨rfl, hb9⟩; have HB9 : Hid (Below W0.heap.size W0 w9) := below_join HBr.out hb9; have q9 := below_keep HB9.out Q1.out; clear hb9; obtain ⟨k1, k2, k3, k4⟩ := blk2 q9; have zq := lt_of_block q9; go_wp2_with fail; have f2 := set2 q9 (.int .i64 2) (.int .i64 (u : Nat)); (have b2 := ((below_join HB0.out HB9.out).setCell (p := ⟨w.heap.size + 1, 0, none⟩) (by simp) (.int .i64 2)).setCell (p := ⟨w.heap.size + 1, 1, none⟩) (by simp) (.int .i64 (u : Nat))); generalize World.setCell _ _ _ = F at f2 b2 ⊢; clear k1 k2 k3 k4; obtain ⟨o1, o2, -⟩ := blk2 f2; (exact bodyPost_ret (v := .agg #[.int .i64 2, .int .i64 (u : Nat)]) (by simp [results, Try.results19, go_sem, o1, o2]) rfl ⟨by rw [HM.out], b2⟩)
            · have h30I : ¬ (30 : Int) < (l.length : Int) := by omega
              (have HW : Hid (wcode l = if l.any (fun t => !isNm t) then 8 else 0) := by show _ = _; unfold wcode; rw [if_neg h30]); clear h30; go_wp2_with fail
              go_loopg [10] l.length (fun g c wz => ∃ k, k ≤ l.length ∧ g = l.length - k ∧ c = .int .i64 (k : Nat) ∧ Hid (Below W0.heap.size W0 wz) ∧ Hid ((l.take k).any (fun t => !isNm t) = false))
              case atStart => exact ⟨0, by omega, by omega, rfl, HBu, by show _ = _; rfl⟩
              case round =>
                obtain ⟨k, hk, hgk, rfl, HBk, HNk⟩ := hrel; have HGk : Hid (gk = l.length - k) := hgk; clear hgk a0 a1 a2 c0; obtain ⟨a0, a1, a2, -⟩ := blk3 (below_keep HBk.out Q0.out); have HBx : Hid (Below w.heap.size w wr) := below_join HB0.out HBk.out; have c0 := (HBx.out.cell (lt_of_cell HC0.out)).trans HC0.out; by_cases hltk : k < l.length
                · obtain ⟨t, ht⟩ : ∃ f, l[k]? = some f := ⟨_, List.getElem?_eq_getElem hltk⟩
                  (obtain ⟨gl, offl, rfl, hcl⟩ := HL3.out (fun e => by rw [e] at hltk; simp at hltk)); have c5 := (HBx.out.cell (lt_of_cell (hcl k t ht))).trans (hcl k t ht); (have hltkI : (k : Int) < (l.length : Int) := by omega); (have hltkc : (k : Int) < (cpl : Int) := by omega); (have hIs := refName_any ⟨t.toArray⟩ (by simpa [ByteArray.size] using HMl.out t (List.mem_of_getElem? ht)) wr); have hnx := any_take HNk.out ht; (have HT9 : Hid (l.any (fun t => !isNm t) = false → True) := fun _ => trivial); (have HAny : Hid (isNm t = false → l.any (fun t => !isNm t) = true) := fun h => List.any_eq_true.2 ⟨t, List.mem_of_getElem? ht, by rw [h]; rfl⟩); have HIk : Hid (k < l.length) := hltk; clear hcl ht hltk hk HT9
                  cases hnm : isNm t
                  · have hnm' : isNm (⟨t.toArray⟩ : ByteArray).data.toList = false := hnm
                    rw [hnm'] at hIs; have HIs2 : Hid (Calls Try.prog 12 #[.string ⟨t.toArray⟩] wr _) := hIs
                    have HM : Hid (M = (8, ((u : Nat) : Int))) := by
                      (have hw : wcode l = 8 := by rw [HW.out, if_pos (HAny.out hnm)]); have := HMu2.out; (rw [hw, if_neg (by decide)] at this); exact this
                    have HBr : Hid (Below W0.heap.size W0 wr) := HBk; generalize (⟨t.toArray⟩ : ByteArray) = TT at *; clear hIs hnx hnm hnm' HAny HMu2; go_wp2_with fail; refine HIs2.out.mono ?_; rintro e w7 ⟨rfl, hw7⟩; have hw7' := hw7.symm; subst hw7'; go_wp2_with fail; refine (mkF_any 8 (u : Nat) _).mono ?_; rintro e w9 ⟨rfl, hb9⟩; have HB9 : Hid (Below W0.heap.size W0 w9) := below_join HBr.out hb9; have q9 := below_keep HB9.out Q1.out; clear hb9; obtain ⟨k1, k2, k3, k4⟩ := blk2 q9; have zq := lt_of_block q9; go_wp2_with fail; have f2 := set2 q9 (.int .i64 8) (.int .i64 (u : Nat)); (have b2 := ((below_join HB0.out HB9.out).setCell (p := ⟨w.heap.size + 1, 0, none⟩) (by simp) (.int .i64 8)).setCell (p := ⟨w.heap.size + 1, 1, none⟩) (by simp) (.int .i64 (u : Nat))); generalize World.setCell _ _ _ = F at f2 b2 ⊢; clear k1 k2 k3 k4; obtain ⟨o1, o2, -⟩ := blk2 f2; (exact bodyPost_ret (v := .agg #[.int .i64 8, .int .i64 (u : Nat)]) (by simp [results, Try.results19, go_sem, o1, o2]) rfl ⟨by rw [HM.out], b2⟩)
                  · have hnm' : isNm (⟨t.toArray⟩ : ByteArray).data.toList = true := hnm
                    rw [hnm'] at hIs; rw [hnm] at hnx; have HIs2 : Hid (Calls Try.prog 12 #[.string ⟨t.toArray⟩] wr _) := hIs; (have HNx : Hid ((l.take (k + 1)).any (fun t => !isNm t) = false) := hnx); generalize (⟨t.toArray⟩ : ByteArray) = TT at *; clear hIs hnx hnm hnm' HAny; go_wp2_with fail; refine HIs2.out.mono ?_; rintro e w7 ⟨rfl, hw7⟩; have hw7' := hw7.symm; subst hw7'; go_wp2_with fail
                    go_roundg (l.length - (k + 1))
                    case measure => have := HGk.out; have := HIk.out; omega
                    case rel => exact ⟨k + 1, HIk.out, rfl, by go_num, HBk, HNx⟩
                · have hkk : k = l.length := by omega
                  subst hkk; (have hgek : ¬ (l.length : Int) < (l.length : Int) := by omega); have hnk := HNk.out; rw [List.take_length] at hnk
                  have HMn : Hid (M = wfirst (tr.drop (u + 1)) (u + 1)) := by
                    (have hw : wcode l = 0 := by rw [HW.out, hnk]; rfl); have := HMu2.out; rw [hw, if_pos rfl] at this; exact this
                  clear hnk hltk hk HNk; go_wp2_with fail
                  go_roundg (tr.length - (u + 1))
                  case measure => have := HGu.out; have := HI.out; omega
                  case rel => exact ⟨u + 1, HI.out, rfl, by go_num, HBk, HMn⟩
          · have huu : u = tr.length := by omega
            subst huu; (have hgen : ¬ (tr.length : Int) < n := by have := HN4.out; omega)
            have HM : Hid (M = (0, 0)) := by
              have := HMu.out; rw [List.drop_length, wfirst] at this; exact this
            have q9 := below_keep HBu.out Q1.out; have B9 := below_join HB0.out HBu.out; have HB9 : Hid (Below w.heap.size w wr) := B9; clear hlt hu HMu; obtain ⟨k1, k2, k3, k4⟩ := blk2 q9; have zq := lt_of_block q9; go_wp2_with fail; have f2 := set2 q9 (.int .i64 0) (.int .i64 0); (have b2 := (B9.setCell (p := ⟨w.heap.size + 1, 0, none⟩) (by simp) (.int .i64 0)).setCell (p := ⟨w.heap.size + 1, 1, none⟩) (by simp) (.int .i64 0)); generalize World.setCell _ _ _ = F at f2 b2 ⊢; clear k1 k2 k3 k4; obtain ⟨o1, o2, -⟩ := blk2 f2; (exact bodyPost_ret (v := .agg #[.int .i64 0, .int .i64 0]) (by simp [results, Try.results19, go_sem, o1, o2]) rfl ⟨by rw [HM.out], b2⟩)
  · have HM : Hid (M = (9, 0)) := by rw [hM1]; exact if_pos h4
    (have hnq : ((tr.length : Int) != n) = true := by simpa using h4); clear hM1 h4; go_wp2_with fail; refine (mkF_any 9 0 _).mono ?_; rintro e w9 ⟨rfl, hb9⟩; have HB9 : Hid (Below W0.heap.size W0 w9) := below_join HBr.out hb9; have q9 := below_keep HB9.out Q1.out; clear hb9; obtain ⟨k1, k2, k3, k4⟩ := blk2 q9; have zq := lt_of_block q9; go_wp2_with fail; have f2 := set2 q9 (.int .i64 9) (.int .i64 0); (have b2 := ((below_join HB0.out HB9.out).setCell (p := ⟨w.heap.size + 1, 0, none⟩) (by simp) (.int .i64 9)).setCell (p := ⟨w.heap.size + 1, 1, none⟩) (by simp) (.int .i64 0)); generalize World.setCell _ _ _ = F at f2 b2 ⊢; clear k1 k2 k3 k4; obtain ⟨o1, o2, -⟩ := blk2 f2; (exact bodyPost_ret (v := .agg #[.int .i64 9, .int .i64 0]) (by simp [results, Try.results19, go_sem, o1, o2]) rfl ⟨by rw [HM.out], b2⟩)
end Go.Proofs.Ytclinobfbdljhah
