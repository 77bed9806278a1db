/- Texts of one proof, one behind the other: MD3, MD4. -/
import Derived.Test.YtclinobfbdljhahB21
import Derived.Test.YtclinobfbdljhahB18
import Derived.Test.YtclinobfbdljhahB16
import Derived.Test.YtclinobfbdljhahB09
import Derived.ChangeKeysEq
/- Walks: kripke.Check. -/
namespace Go.Proofs.Ytclinobfbdljhah
open Go.RowKit Go.Sort

set_option maxHeartbeats 1000000 in
theorem kNoName_any (s : ByteArray) (hs : s.size ≤ maxLen) (w : World) :
    Calls Try.prog 67 #[.string s] w fun e w' => e = .returned (.bool (!isNm s.data.toList)) ∧ Below w.heap.size w w' := by
  (have hck := fun v (w : World) h => check_any (.mk 1 s []) v w h); have hcn := code_name s; have HC : Hid (∀ v w, _ → Calls Try.prog 27 #[v] w _) := hck; (have HL : Hid (∀ w, Rep w (fun _ => True) (.mk 1 s []) (.agg #[.int .i64 1, .string s, .slice none 0 0])) := fun w => Rep.leaf hs); (have hfc := fun a b w => fault_code a b w); clear hck hs
  rcases hb : isNm s.data.toList with _ | _
  · have hcn' : (Fm.mk 1 s []).code = (8, 0) := by rw [hcn, hb]; rfl
    rw [hcn'] at HC; clear hcn'; clear hcn hb
    go_enter Try.func67, Try.ntmps67
    go_wp2_with (first
      | (go_at_call 27
         refine (HC.out _ _ (HL.out _)).mono ?_
         rintro e w1 ⟨rfl, hb1⟩)
      | fail)
    go_ret; exact ⟨rfl, hb1⟩
  · have hcn' : (Fm.mk 1 s []).code = (0, 0) := by rw [hcn, hb]; rfl
    rw [hcn'] at HC; clear hcn'; clear hcn hb
    go_enter Try.func67, Try.ntmps67
    go_wp2_with (first
      | (go_at_call 27
         refine (HC.out _ _ (HL.out _)).mono ?_
         rintro e w1 ⟨rfl, hb1⟩)
      | fail)
    go_ret; exact ⟨rfl, hb1⟩

theorem kNoName_in (cap : Array Value) (w : World) : (callFunc 67 cap).run Try.prog w = .ok (.enter 67 cap) w := by
  simp [go_sem]
theorem predKNoName : PredS 67 #[] (fun t => !isNm t) (fun _ => True) where
  up := fun _ _ => trivial
  ent := fun _ w => kNoName_in _ w
  call := fun t w _ ht => kNoName_any ⟨t.toArray⟩ (by simpa [ByteArray.size] using ht) w
theorem fIdxP_sign (p : List UInt8 → Bool) (l : List (List UInt8)) : (l.any p = true → 0 ≤ fIdxP p l) ∧ (l.any p = false → fIdxP p l = -1) := by
  unfold fIdxP; (exact ⟨fun h => by rw [if_pos h]; omega, fun h => by rw [h]; rfl⟩)
set_option maxHeartbeats 1000000 in
theorem contains_str (l : List (List UInt8)) (hmx : ∀ t ∈ l, t.length ≤ maxLen) (v : Value) (w : World) (hv : SL w v l) :
    Calls Try.prog 66 #[v, .func (.func 67) #[] #[]] w fun e w' => e = .returned (.bool (l.any fun t => !isNm t)) ∧ Below w.heap.size w w' := by
  have hix := idxFunc_str predKNoName l hmx v w hv trivial; (obtain ⟨s1, s2⟩ := fIdxP_sign (fun t => !isNm t) l); (generalize fIdxP (fun t => !isNm t) l = X at *); (generalize (l.any fun t => !isNm t) = A at *); obtain ⟨ad, cap, rfl, -⟩ := hv; have HI : Hid (Calls Try.prog 92 _ w _) := hix; clear hix hmx
  cases A
  · have hX := s2 rfl
    subst hX; clear s1 s2
    go_enter Try.func66, Try.ntmps66
    go_wp2_with fail; refine HI.out.mono ?_; rintro e w1 ⟨rfl, hb1⟩; go_wp2_with fail; go_ret; exact ⟨rfl, hb1⟩
  · have hX := s1 rfl
    clear s1 s2
    go_enter Try.func66, Try.ntmps66
    go_wp2_with fail; refine HI.out.mono ?_; rintro e w1 ⟨rfl, hb1⟩; go_wp2_with fail; go_ret; (exact ⟨by simp, hb1⟩)

/-- A model in a block of its own. -/
def OkM (bm : Nat) (n : Int) (w : World) : Prop := ∃ u v, w.heap[bm]? = some (.cells #[.int .i64 n, u, v] 30 (0, 0))
theorem isOut_in (cap : Array Value) (w : World) : (callFunc 64 cap).run Try.prog w = .ok (.enter 64 cap) w := by
  simp [go_sem]
set_option maxHeartbeats 1000000 in
theorem isOut_any (n x y : Int) (bm : Nat) (w : World) (h : OkM bm n w) :
    Calls Try.prog 64 #[.agg #[.int .i64 x, .int .i64 y], .pointer (some ⟨bm, 0, none⟩)] w fun e w' => e = .returned (.bool (pairBad n (x, y))) ∧ Below w.heap.size w w' := by
  obtain ⟨u, v, h⟩ := h; have HB : Hid (Below w.heap.size w (w.alloc (.cells #[.int .i64 x, .int .i64 y] 42 (0, 0)))) := below_more (Below.refl _ w) _; obtain ⟨a0, a1, a2, -⟩ := blk3 h; have z0 := lt_of_block h; (have z1 : ¬ w.heap.size = bm := by omega); (have z2 : ¬ bm = w.heap.size := by omega); clear h; by_cases h1 : min x y < 0
  · have hp : pairBad n (x, y) = true := by
      unfold pairBad; by_cases hx : x < 0
      · simp [hx]
      · have hy : y < 0 := by omega
        simp [hy]
    rw [hp]
    go_enter Try.func64, Try.ntmps64
    go_wp2_with fail; go_ret; exact ⟨rfl, HB.out⟩
  · by_cases h2 : n ≤ max x y
    · have hp : pairBad n (x, y) = true := by
        unfold pairBad; by_cases hx : n ≤ x
        · simp [hx]
        · have hy : n ≤ y := by omega
          simp [hy]
      rw [hp]
      go_enter Try.func64, Try.ntmps64
      go_wp2_with fail; go_ret; (exact ⟨by simp, HB.out⟩)
    · have hp : pairBad n (x, y) = false := by
        unfold pairBad; (have e1 : ¬ x < 0 := by omega); (have e2 : ¬ n ≤ x := by omega); (have e3 : ¬ y < 0 := by omega); (have e4 : ¬ n ≤ y := by omega); simp [e1, e2, e3, e4]
      rw [hp]
      go_enter Try.func64, Try.ntmps64
      go_wp2_with fail; go_ret; (exact ⟨by simp, HB.out⟩)
/-- Where a pair is none first, or -1. -/
def pIdx (n : Int) (rs : List (Int × Int)) : Int := if rs.any (pairBad n) then (rs.findIdx (pairBad n) : Nat) else -1
set_option maxHeartbeats 2000000 in
theorem idxPair_any (n : Int) (rs : List (Int × Int)) (bm : Nat) (v : Value) (w : World) (hv : PL w v rs) (hok : OkM bm n w) :
    Calls Try.prog 65 #[v, .func (.func 64) #[] #[.pointer (some ⟨bm, 0, none⟩)]] w fun e w' => e = .returned (.int .i64 (pIdx n rs)) ∧ Below w.heap.size w w' := by
  obtain ⟨ad, cap, rfl, h1, h2, h3⟩ := hv; (have hlI : (rs.length : Int) ≤ 9223372036854775807 := by unfold maxLen at h2; omega); have H3 : Hid (rs ≠ [] → ∃ b off, ad = some ⟨b, off, none⟩ ∧ ∀ (j : Nat) (x y : Int), rs[j]? = some (x, y) → w.cell? ⟨b, off + j * 2, none⟩ = some (.int .i64 x) ∧ w.cell? ⟨b, off + j * 2 + 1, none⟩ = some (.int .i64 y)) := h3; have HO : Hid (OkM bm n w) := hok; have hcf := isOut_in; (have hlc0 : (rs.length : Int) ≤ (cap : Int) := by omega); clear h3 hok h1 h2
  go_enter Try.func65, Try.ntmps65
  go_wp2_with fail
  go_loopg [8] rs.length (fun g c wr => ∃ i, i ≤ rs.length ∧ g = rs.length - i ∧ c = .int .i64 (i : Nat) ∧ Hid (Below w.heap.size w wr) ∧ Hid ((rs.take i).any (pairBad n) = false))
  case atStart => exact ⟨0, by omega, by omega, rfl, Below.refl _ _, by show _ = _; rfl⟩
  case round =>
    obtain ⟨i, hi, hg, rfl, HB, HN⟩ := hrel; have HG : Hid (gk = rs.length - i) := hg; clear hg; by_cases hlt : i < rs.length
    · obtain ⟨⟨x, y⟩, hxy⟩ : ∃ f, rs[i]? = some f := ⟨_, List.getElem?_eq_getElem hlt⟩
      (obtain ⟨b, off, rfl, hc⟩ := H3.out (fun e => by rw [e] at hlt; simp at hlt)); obtain ⟨g0, g1⟩ := hc i x y hxy; have c0 := (HB.out.cell (lt_of_cell g0)).trans g0; have c1 := (HB.out.cell (lt_of_cell g1)).trans g1; (have hltI : (i : Int) < (rs.length : Int) := by omega); (have hltc : (i : Int) < (cap : Int) := by omega); (have hcc := isOut_any n x y bm wr (by obtain ⟨u, v, h⟩ := HO.out; exact ⟨u, v, below_keep HB.out h⟩))
      have HXi : Hid (pairBad n (x, y) = true → pIdx n rs = ((i : Nat) : Int)) := fun hp => by
        obtain ⟨e1, e2⟩ := findIdx_first HN.out hxy hp; unfold pIdx; rw [if_pos e2, e1]
      (have HXn : Hid (pairBad n (x, y) = false → (rs.take (i + 1)).any (pairBad n) = false) := fun hp => by rw [any_take HN.out hxy, hp]); generalize pairBad n (x, y) = bb at *; have HCC : Hid (Calls Try.prog 64 _ wr _) := hcc; have HI : Hid (i < rs.length) := hlt; clear hc hxy hcc g0 g1 hlt hi; go_wp2_with fail; refine HCC.out.mono ?_; rintro e w1 ⟨rfl, hb1⟩; have HB1 : Hid (Below w.heap.size w w1) := below_join HB.out hb1; clear hb1 c0 c1
      cases bb
      · have HX' : Hid ((rs.take (i + 1)).any (pairBad n) = false) := HXn.out rfl
        clear HXn HXi; go_wp2_with fail
        go_roundg (rs.length - (i + 1))
        case measure => have := HG.out; have := HI.out; omega
        case rel => exact ⟨i + 1, HI.out, rfl, by go_num, HB1, HX'⟩
      · have HX' : Hid (pIdx n rs = ((i : Nat) : Int)) := HXi.out rfl
        clear HXn HXi; go_wp2_with fail; go_ret; (exact ⟨by rw [HX'.out]; rfl, HB1.out⟩)
    · have HT : Hid (pIdx n rs = -1) := by
        have := HN.out; (rw [List.take_of_length_le (by omega)] at this); show _ = _; unfold pIdx; rw [this]; rfl
      (have hge : ¬ (i : Int) < (rs.length : Int) := by omega); clear HN hlt hi; go_wp2_with fail; go_ret; (exact ⟨by rw [HT.out]; rfl, HB.out⟩)

set_option maxRecDepth 10000 in
set_option maxHeartbeats 8000000 in
theorem kCheck_any (m : Mdl) (v : Value) (w : World) (hv : MR w m v) :
    Calls Try.prog 38 #[v] w fun e w' => e = .returned (.agg #[.int .i64 (mdcode 40 2000 m).1, .int .i64 (mdcode 40 2000 m).2]) ∧ Below w.heap.size w w' := by
  obtain ⟨n, rel, tr⟩ := m; obtain ⟨ra, rc, ta, tc, rfl, hpl, hsl, hmx⟩ := hv; simp only at hpl hsl hmx ⊢; have HPl : Hid (PL w (.slice ra rel.length rc) rel) := hpl; obtain ⟨ra', rc', e1, p1, p2, p3⟩ := hpl; simp only [Value.slice.injEq, true_and] at e1; obtain ⟨rfl, rfl⟩ := e1; obtain ⟨ta', tc', e2, s1, s2, s3⟩ := hsl; simp only [Value.slice.injEq, true_and] at e2; obtain ⟨rfl, rfl⟩ := e2; have HS3 : Hid (tr ≠ [] → ∃ b off, ta = some ⟨b, off, none⟩ ∧ ∀ (j : Nat) (r : List (List UInt8)), tr[j]? = some r → ∃ u, w.cell? ⟨b, off + j, none⟩ = some u ∧ SL w u r) := s3; have HMx : Hid (∀ l ∈ tr, ∀ t ∈ l, t.length ≤ maxLen) := hmx; (have htcI : (tr.length : Int) ≤ (tc : Int) := by omega); (have hrm : (rel.length : Int) ≤ 9223372036854775807 := by unfold maxLen at p2; omega); (have htm : (tr.length : Int) ≤ 9223372036854775807 := by unfold maxLen at s2; omega); obtain ⟨M, hM⟩ : ∃ M, M = mdcode 40 2000 ⟨n, rel, tr⟩ := ⟨_, rfl⟩; rw [← hM]; obtain ⟨W0, hW0⟩ : ∃ W0, W0 = (w.alloc (.cells #[.int .i64 n, .slice ra rel.length rc, .slice ta tr.length tc] 30 (0, 0))).alloc (.cells #[.int .i64 0, .int .i64 0] 32 (0, 0)) := ⟨_, rfl⟩; (have HB0 : Hid (Below w.heap.size w W0) := by rw [hW0]; exact below_more (below_more (Below.refl _ w) _) _); (have Q0 : Hid (W0.heap[w.heap.size]? = some (.cells #[.int .i64 n, .slice ra rel.length rc, .slice ta tr.length tc] 30 (0, 0))) := by rw [hW0]; exact alloc_keep (blk_new w _) _); (have Q1 : Hid (W0.heap[w.heap.size + 1]? = some (.cells #[.int .i64 0, .int .i64 0] 32 (0, 0))) := by rw [hW0]; exact blk_secM w _ _); have HWe : Hid ((w.alloc (.cells #[.int .i64 n, .slice ra rel.length rc, .slice ta tr.length tc] 30 (0, 0))).alloc (.cells #[.int .i64 0, .int .i64 0] 32 (0, 0)) = W0) := hW0.symm; obtain ⟨wr, hwr⟩ : ∃ wr, wr = W0 := ⟨_, rfl⟩; (have HBr : Hid (Below W0.heap.size W0 wr) := by rw [hwr]; exact Below.refl _ _); have HWr : Hid (W0 = wr) := hwr.symm; clear p3 s3 hmx p1 p2 s1 s2 hW0 hwr
  go_enter Try.func38, Try.ntmps38
  go_upto_region 1 with fail
  rw [HWe.out, HWr.out]; clear HWe HWr; obtain ⟨a0, a1, a2, -⟩ := blk3 (below_keep HBr.out Q0.out); by_cases h1 : n < 1
  · have HM : Hid (M = (2, 0)) := by rw [hM]; unfold mdcode; exact if_pos (Or.inl h1)
    clear hM; have HB9 : Hid (Below W0.heap.size W0 wr) := HBr; have q9 := below_keep HBr.out Q1.out; obtain ⟨k1, k2, k3, k4⟩ := blk2 q9; have zq := lt_of_block q9; go_wp2_with fail; have f2 := set2 q9 (.int .i64 2) (.int .i64 0); (have b2 := ((below_join HB0.out HB9.out).setCell (p := ⟨w.heap.size + 1, 0, none⟩) (by simp) (.int .i64 2)).setCell (p := ⟨w.heap.size + 1, 1, none⟩) (by simp) (.int .i64 0)); generalize World.setCell _ _ _ = F at f2 b2 ⊢; clear k1 k2 k3 k4; obtain ⟨o1, o2, -⟩ := blk2 f2; (exact bodyPost_ret (v := .agg #[.int .i64 2, .int .i64 0]) (by simp [results, Try.results38, go_sem, o1, o2]) rfl ⟨by rw [HM.out], b2⟩)
  by_cases h2 : (40 : Int) < n
  · have HM : Hid (M = (2, 0)) := by rw [hM]; unfold mdcode; exact if_pos (Or.inr (Or.inl h2))
    clear hM; have HB9 : Hid (Below W0.heap.size W0 wr) := HBr; have q9 := below_keep HBr.out Q1.out; obtain ⟨k1, k2, k3, k4⟩ := blk2 q9; have zq := lt_of_block q9; go_wp2_with fail; have f2 := set2 q9 (.int .i64 2) (.int .i64 0); (have b2 := ((below_join HB0.out HB9.out).setCell (p := ⟨w.heap.size + 1, 0, none⟩) (by simp) (.int .i64 2)).setCell (p := ⟨w.heap.size + 1, 1, none⟩) (by simp) (.int .i64 0)); generalize World.setCell _ _ _ = F at f2 b2 ⊢; clear k1 k2 k3 k4; obtain ⟨o1, o2, -⟩ := blk2 f2; (exact bodyPost_ret (v := .agg #[.int .i64 2, .int .i64 0]) (by simp [results, Try.results38, go_sem, o1, o2]) rfl ⟨by rw [HM.out], b2⟩)
  by_cases h3 : (2000 : Int) < (rel.length : Int)
  · have HM : Hid (M = (2, 0)) := by rw [hM]; unfold mdcode; exact if_pos (Or.inr (Or.inr h3))
    clear hM; have HB9 : Hid (Below W0.heap.size W0 wr) := HBr; have q9 := below_keep HBr.out Q1.out; obtain ⟨k1, k2, k3, k4⟩ := blk2 q9; have zq := lt_of_block q9; go_wp2_with fail; have f2 := set2 q9 (.int .i64 2) (.int .i64 0); (have b2 := ((below_join HB0.out HB9.out).setCell (p := ⟨w.heap.size + 1, 0, none⟩) (by simp) (.int .i64 2)).setCell (p := ⟨w.heap.size + 1, 1, none⟩) (by simp) (.int .i64 0)); generalize World.setCell _ _ _ = F at f2 b2 ⊢; clear k1 k2 k3 k4; obtain ⟨o1, o2, -⟩ := blk2 f2; (exact bodyPost_ret (v := .agg #[.int .i64 2, .int .i64 0]) (by simp [results, Try.results38, go_sem, o1, o2]) rfl ⟨by rw [HM.out], b2⟩)
  have hM1 : M = if (tr.length : Int) ≠ n then (9, 0) else if rel.any (pairBad n) then (3, ((rel.findIdx (pairBad n) : Nat) : Int)) else wfirst tr 0 := by
    rw [hM]; unfold mdcode; (exact if_neg (by rintro (h | h | h); exact h1 h; exact h2 h; exact h3 h))
  clear hM; by_cases h4 : (tr.length : Int) = n
  · rw [if_neg (fun e => e h4)] at hM1
    (have HM1 : Hid (M = if rel.any (pairBad n) then (3, ((rel.findIdx (pairBad n) : Nat) : Int)) else wfirst tr 0) := hM1); (have hnq : ((tr.length : Int) != n) = false := by simpa using h4); (have HIx := fun W (hb : Below w.heap.size w W) (ho : OkM w.heap.size n W) => idxPair_any n rel w.heap.size (.slice ra rel.length rc) W (HPl.out.up hb) ho); (have HIx2 : Hid (∀ W, Below w.heap.size w W → OkM w.heap.size n W → Calls Try.prog 65 _ W fun e w' => e = .returned (.int .i64 (pIdx n rel)) ∧ Below W.heap.size W w') := HIx)
    have HP1 : Hid (rel.any (pairBad n) = true → 0 ≤ pIdx n rel ∧ M = (3, pIdx n rel)) := fun h => by
      (have e : pIdx n rel = ((rel.findIdx (pairBad n) : Nat) : Int) := by unfold pIdx; rw [if_pos h]); rw [HM1.out, if_pos h, e]; (exact ⟨by omega, rfl⟩)
    (have HP2 : Hid (rel.any (pairBad n) = false → pIdx n rel = -1 ∧ M = wfirst (tr.drop 0) 0) := fun h => ⟨by unfold pIdx; rw [h]; rfl, by rw [HM1.out, h]; rfl⟩); clear hM1 h4 HIx HM1; generalize pIdx n rel = X at *; generalize rel.any (pairBad n) = A at *; go_wp2_with fail; refine (HIx2.out _ (below_join HB0.out HBr.out) ⟨_, _, below_keep HBr.out Q0.out⟩).mono ?_; rintro e w5 ⟨rfl, hb5⟩; have HB5 : Hid (Below W0.heap.size W0 w5) := below_join HBr.out hb5; clear hb5 HBr a0 a1 a2 HIx2; obtain ⟨wr, hwr⟩ : ∃ wr, wr = w5 := ⟨_, rfl⟩; subst hwr; have HBr : Hid (Below W0.heap.size W0 wr) := HB5; obtain ⟨a0, a1, a2, -⟩ := blk3 (below_keep HBr.out Q0.out)
    cases A
    case true =>
      obtain ⟨hx, hm⟩ := HP1.out rfl; have HM : Hid (M = (3, X)) := hm; (have hxx : ¬ X < 0 := by omega); clear hm HP1 HP2; have HB9 : Hid (Below W0.heap.size W0 wr) := HBr; have q9 := below_keep HBr.out Q1.out; obtain ⟨k1, k2, k3, k4⟩ := blk2 q9; have zq := lt_of_block q9; go_wp2_with fail; have f2 := set2 q9 (.int .i64 3) (.int .i64 X); (have b2 := ((below_join HB0.out HB9.out).setCell (p := ⟨w.heap.size + 1, 0, none⟩) (by simp) (.int .i64 3)).setCell (p := ⟨w.heap.size + 1, 1, none⟩) (by simp) (.int .i64 X)); generalize World.setCell _ _ _ = F at f2 b2 ⊢; clear k1 k2 k3 k4; obtain ⟨o1, o2, -⟩ := blk2 f2; (exact bodyPost_ret (v := .agg #[.int .i64 3, .int .i64 X]) (by simp [results, Try.results38, go_sem, o1, o2]) rfl ⟨by rw [HM.out], b2⟩)
    case false =>
      obtain ⟨hx, hm⟩ := HP2.out rfl; subst hx; have HMw : Hid (M = wfirst (tr.drop 0) 0) := hm; obtain ⟨Wa, hWa⟩ : ∃ Wa, Wa = wr := ⟨_, rfl⟩; subst hWa; have HBa : Hid (Below W0.heap.size W0 Wa) := HBr; clear hm HP1 HP2 HBr HB5; go_wp2_with fail
      go_loopg [41] tr.length (fun g c wz => ∃ u, u ≤ tr.length ∧ g = tr.length - u ∧ c = .int .i64 (u : Nat) ∧ Hid (Below W0.heap.size W0 wz) ∧ Hid (M = wfirst (tr.drop u) u))
      case atStart => exact ⟨0, by omega, by omega, rfl, HBa, HMw⟩
      case round =>
        obtain ⟨u, hu, hg, rfl, HBr, HMu⟩ := hrel; have HGu : Hid (gk = tr.length - u) := hg; clear hg a0 a1 a2; by_cases hlt : u < tr.length
        · obtain ⟨l, hl⟩ : ∃ f, tr[u]? = some f := ⟨_, List.getElem?_eq_getElem hlt⟩
          (obtain ⟨b, off, rfl, hc⟩ := HS3.out (fun e => by rw [e] at hlt; simp at hlt)); obtain ⟨lv, g0, hlv⟩ := hc u l hl; have HBw : Hid (Below w.heap.size w wr) := below_join HB0.out HBr.out; have c0 := (HBw.out.cell (lt_of_cell g0)).trans g0; have HLv : Hid (SL wr lv l) := hlv.up HBw.out; obtain ⟨adl, cpl, rfl, l1, l2, l3⟩ := hlv; (have hltI : (u : Int) < (tr.length : Int) := by omega); (have hltc : (u : Int) < (tc : Int) := by omega); have hmu := HMu.out; rw [wfirst_drop hl] at hmu; (have HMu2 : Hid (M = if wcode l = 0 then wfirst (tr.drop (u + 1)) (u + 1) else (wcode l, ((u : Nat) : Int))) := hmu); have hcf := contains_str l (HMx.out l (List.mem_of_getElem? hl)) _ wr HLv.out; have HI : Hid (u < tr.length) := hlt; (have hlI : (l.length : Int) ≤ 9223372036854775807 := by unfold maxLen at l2; omega); clear hc hl hmu HMu hlt hu l1 l2 l3 g0; by_cases h30 : 30 < l.length
          · have h30I : (30 : Int) < (l.length : Int) := by omega
            have HM : Hid (M = (2, ((u : Nat) : Int))) := by
              (have hw : wcode l = 2 := by unfold wcode; rw [if_pos h30]); have := HMu2.out; (rw [hw, if_neg (by decide)] at this); exact this
            clear h30 HMu2 hcf; have HB9 : Hid (Below W0.heap.size W0 wr) := HBr; have q9 := below_keep HBr.out Q1.out; obtain ⟨k1, k2, k3, k4⟩ := blk2 q9; have zq := lt_of_block q9; go_wp2_with fail; have f2 := set2 q9 (.int .i64 2) (.int .i64 (u : Nat)); (have b2 := ((below_join HB0.out HB9.out).setCell (p := ⟨w.heap.size + 1, 0, none⟩) (by simp) (.int .i64 2)).setCell (p := ⟨w.heap.size + 1, 1, none⟩) (by simp) (.int .i64 (u : Nat))); generalize World.setCell _ _ _ = F at f2 b2 ⊢; clear k1 k2 k3 k4; obtain ⟨o1, o2, -⟩ := blk2 f2; (exact bodyPost_ret (v := .agg #[.int .i64 2, .int .i64 (u : Nat)]) (by simp [results, Try.results38, go_sem, o1, o2]) rfl ⟨by rw [HM.out], b2⟩)
          · have h30I : ¬ (30 : Int) < (l.length : Int) := by omega
            (have HW : Hid (wcode l = if l.any (fun t => !isNm t) then 8 else 0) := by show _ = _; unfold wcode; rw [if_neg h30]); (generalize (l.any fun t => !isNm t) = A at *); (have HCf : Hid (Calls Try.prog 66 _ wr fun e w' => e = .returned (.bool A) ∧ Below wr.heap.size wr w') := hcf); clear h30 hcf; go_wp2_with fail; refine HCf.out.mono ?_; rintro e w6 ⟨rfl, hb6⟩; have HB6 : Hid (Below W0.heap.size W0 w6) := below_join HBr.out hb6; clear hb6 HBr c0 HLv HBw HCf; obtain ⟨wr, hwr⟩ : ∃ wr, wr = w6 := ⟨_, rfl⟩; subst hwr; have HBr : Hid (Below W0.heap.size W0 wr) := HB6
            cases A
            case true =>
              have HM : Hid (M = (8, ((u : Nat) : Int))) := by
                (have hw : wcode l = 8 := by rw [HW.out]; rfl); have := HMu2.out; (rw [hw, if_neg (by decide)] at this); exact this
              clear HMu2 HW; have HB9 : Hid (Below W0.heap.size W0 wr) := HBr; have q9 := below_keep HBr.out Q1.out; obtain ⟨k1, k2, k3, k4⟩ := blk2 q9; have zq := lt_of_block q9; go_wp2_with fail; have f2 := set2 q9 (.int .i64 8) (.int .i64 (u : Nat)); (have b2 := ((below_join HB0.out HB9.out).setCell (p := ⟨w.heap.size + 1, 0, none⟩) (by simp) (.int .i64 8)).setCell (p := ⟨w.heap.size + 1, 1, none⟩) (by simp) (.int .i64 (u : Nat))); generalize World.setCell _ _ _ = F at f2 b2 ⊢; clear k1 k2 k3 k4; obtain ⟨o1, o2, -⟩ := blk2 f2; (exact bodyPost_ret (v := .agg #[.int .i64 8, .int .i64 (u : Nat)]) (by simp [results, Try.results38, go_sem, o1, o2]) rfl ⟨by rw [HM.out], b2⟩)
            case false =>
              have HMn : Hid (M = wfirst (tr.drop (u + 1)) (u + 1)) := by
                (have hw : wcode l = 0 := by rw [HW.out]; rfl); have := HMu2.out; rw [hw, if_pos rfl] at this; exact this
              clear HMu2 HW; go_wp2_with fail
              go_roundg (tr.length - (u + 1))
              case measure => have := HGu.out; have := HI.out; omega
              case rel => exact ⟨u + 1, HI.out, rfl, by go_num, HBr, HMn⟩
        · have huu : u = tr.length := by omega
          subst huu; (have hgen : ¬ (tr.length : Int) < (tr.length : Int) := by omega)
          have HM : Hid (M = (0, 0)) := by
            have := HMu.out; rw [List.drop_length, wfirst] at this; exact this
          clear hlt hu HMu; have HB9 : Hid (Below W0.heap.size W0 wr) := HBr; have q9 := below_keep HBr.out Q1.out; obtain ⟨k1, k2, k3, k4⟩ := blk2 q9; have zq := lt_of_block q9; go_wp2_with fail; have f2 := set2 q9 (.int .i64 0) (.int .i64 0); (have b2 := ((below_join HB0.out HB9.out).setCell (p := ⟨w.heap.size + 1, 0, none⟩) (by simp) (.int .i64 0)).setCell (p := ⟨w.heap.size + 1, 1, none⟩) (by simp) (.int .i64 0)); generalize World.setCell _ _ _ = F at f2 b2 ⊢; clear k1 k2 k3 k4; obtain ⟨o1, o2, -⟩ := blk2 f2; (exact bodyPost_ret (v := .agg #[.int .i64 0, .int .i64 0]) (by simp [results, Try.results38, go_sem, o1, o2]) rfl ⟨by rw [HM.out], b2⟩)
  · have HM : Hid (M = (9, 0)) := by rw [hM1]; exact if_pos h4
    (have hnq : ((tr.length : Int) != n) = true := by simpa using h4); clear hM1 h4; have HB9 : Hid (Below W0.heap.size W0 wr) := HBr; have q9 := below_keep HBr.out Q1.out; obtain ⟨k1, k2, k3, k4⟩ := blk2 q9; have zq := lt_of_block q9; go_wp2_with fail; have f2 := set2 q9 (.int .i64 9) (.int .i64 0); (have b2 := ((below_join HB0.out HB9.out).setCell (p := ⟨w.heap.size + 1, 0, none⟩) (by simp) (.int .i64 9)).setCell (p := ⟨w.heap.size + 1, 1, none⟩) (by simp) (.int .i64 0)); generalize World.setCell _ _ _ = F at f2 b2 ⊢; clear k1 k2 k3 k4; obtain ⟨o1, o2, -⟩ := blk2 f2; (exact bodyPost_ret (v := .agg #[.int .i64 9, .int .i64 0]) (by simp [results, Try.results38, go_sem, o1, o2]) rfl ⟨by rw [HM.out], b2⟩)
end Go.Proofs.Ytclinobfbdljhah
/- Walks: sameModel. -/
namespace Go.Proofs.Ytclinobfbdljhah
open Go.RowKit Go.Sort

theorem int_eqIn (d : Nat) (x y : Int) (w : World) : (Op.equalIn (d + 1) 3 (.int .i64 x) (.int .i64 y)).run Try.prog w = .ok (x == y) w := by
  simp [Op.equalIn, go_sem]
set_option maxRecDepth 100000 in
theorem pair_eq (x y : Int) (w : World) : (Op.equal 42 (.agg #[.int .i64 x, .int .i64 y]) (.agg #[.int .i64 x, .int .i64 y])).run Try.prog w = .ok true w := by
  (obtain ⟨i, hi⟩ := Option.isSome_iff_exists.1 (show (Try.prog.info? 3).isSome = true by kernel_rfl)); (have hc : Try.prog.cellsOf 3 = 1 := by kernel_rfl); have h9 := run_equalIn_array (P := Try.prog) w 9999 #[.int .i64 x, .int .i64 y] #[.int .i64 x, .int .i64 y] Try.underlying42 hi; rw [hc] at h9; refine h9.trans ?_; clear h9; obtain ⟨d, hd⟩ : ∃ d, d + 1 = 9999 := ⟨9998, rfl⟩; rw [← hd]; clear hd; simp [Op.eqItems, go_sem, List.range, List.range.loop, part, int_eqIn]
theorem pair_guard (p q : Operand) (xs ys : Array Value) (w : World) : (eqGuard .neq 42 p q (.agg xs) (.agg ys)).run Try.prog w = .ok () w := by
  (have : Try.prog.eqGuardType Try.prog.depth 42 = false := by kernel_rfl); simp [eqGuard, go_sem, this]
theorem pair_neq (x y : Int) (w : World) : (binOp .neq 42 (.agg #[.int .i64 x, .int .i64 y]) (.agg #[.int .i64 x, .int .i64 y])).run Try.prog w = .ok (.bool false) w := by
  simp [binOp, pair_eq]

set_option maxHeartbeats 2000000 in
/-- Two lists of texts with the same texts, wherever they lie. -/
theorem texts_sl (l : List (List UInt8)) (v u : Value) (w : World) (h : SL w v l) (h' : SL w u l) :
    Calls Try.prog 42 #[v, u] w fun e w' => e = .returned (.bool true) ∧ Below w.heap.size w w' := by
  obtain ⟨ad, cap, rfl, h1, h2, h3⟩ := h; obtain ⟨ad', cap', rfl, k1, k2, k3⟩ := h'; (have hlI : (l.length : Int) ≤ 9223372036854775807 := by unfold maxLen at h2; omega); (have hc1 : (l.length : Int) ≤ (cap : Int) := by omega); (have hc2 : (l.length : Int) ≤ (cap' : Int) := by omega); have H3 : Hid (l ≠ [] → ∃ g off, ad = some ⟨g, off, none⟩ ∧ ∀ (j : Nat) (t : List UInt8), l[j]? = some t → w.cell? ⟨g, off + j, none⟩ = some (.string ⟨t.toArray⟩)) := h3; have K3 : Hid (l ≠ [] → ∃ g off, ad' = some ⟨g, off, none⟩ ∧ ∀ (j : Nat) (t : List UInt8), l[j]? = some t → w.cell? ⟨g, off + j, none⟩ = some (.string ⟨t.toArray⟩)) := k3; clear h3 k3 h1 h2 k1 k2
  go_enter Try.func42, Try.ntmps42
  go_wp2_with fail
  go_loopg [5] l.length (fun g c wr => ∃ i, i ≤ l.length ∧ g = l.length - i ∧ c = .int .i64 (i : Nat) ∧ Hid (Below w.heap.size w wr))
  case atStart => exact ⟨0, by omega, by omega, rfl, Below.refl _ _⟩
  case round =>
    obtain ⟨i, hi, hg, rfl, HBt⟩ := hrel; have HG : Hid (gk = l.length - i) := hg; clear hg; by_cases hlt : i < l.length
    · obtain ⟨t, ht⟩ : ∃ x, l[i]? = some x := ⟨_, List.getElem?_eq_getElem hlt⟩
      (obtain ⟨g, off, rfl, hc⟩ := H3.out (fun e => by rw [e] at hlt; simp at hlt)); (obtain ⟨g', off', rfl, hc'⟩ := K3.out (fun e => by rw [e] at hlt; simp at hlt)); have g0 := (HBt.out.cell (lt_of_cell (hc i t ht))).trans (hc i t ht); have g1 := (HBt.out.cell (lt_of_cell (hc' i t ht))).trans (hc' i t ht); (have hltI : (i : Int) < (l.length : Int) := by omega); (have hl1 : (i : Int) < (cap : Int) := by omega); (have hl2 : (i : Int) < (cap' : Int) := by omega); have HI : Hid (i < l.length) := hlt; clear hc hc' ht hlt hi; go_wp2_with fail
      go_quiet (fail)
      go_wp2_with fail
      go_roundg (l.length - (i + 1))
      case measure => have := HG.out; have := HI.out; omega
      case rel => exact ⟨i + 1, HI.out, rfl, by go_num, Below.drewM nq HBt.out⟩
    · have hge : ¬ (i : Int) < (l.length : Int) := by omega
      clear hlt; go_wp2_with fail; go_ret; exact ⟨rfl, HBt.out⟩

set_option maxRecDepth 10000 in
set_option maxHeartbeats 4000000 in
theorem sameModel_any (m : Mdl) (v u : Value) (w : World) (hv : MR w m v) (hu : MR w m u) :
    Calls Try.prog 20 #[v, u] w fun e w' => e = .returned (.bool true) ∧ Below w.heap.size w w' := by
  obtain ⟨n, rel, tr⟩ := m; obtain ⟨ra, rc, ta, tc, rfl, hpl, hsl, -⟩ := hv; obtain ⟨rb, rd, tb, td, rfl, hpl2, hsl2, -⟩ := hu; simp only at hpl hsl hpl2 hsl2 ⊢; obtain ⟨ra', rc', e1, p1, p2, p3⟩ := hpl; simp only [Value.slice.injEq, true_and] at e1; obtain ⟨rfl, rfl⟩ := e1; obtain ⟨ta', tc', e2, s1, s2, s3⟩ := hsl; simp only [Value.slice.injEq, true_and] at e2; obtain ⟨rfl, rfl⟩ := e2; obtain ⟨rb', rd', e3, p4, p5, p6⟩ := hpl2; simp only [Value.slice.injEq, true_and] at e3; obtain ⟨rfl, rfl⟩ := e3; obtain ⟨tb', td', e4, s4, s5, s6⟩ := hsl2; simp only [Value.slice.injEq, true_and] at e4; obtain ⟨rfl, rfl⟩ := e4; have HPa : Hid (rel ≠ [] → ∃ b off, ra = some ⟨b, off, none⟩ ∧ ∀ (j : Nat) (x y : Int), rel[j]? = some (x, y) → w.cell? ⟨b, off + j * 2, none⟩ = some (.int .i64 x) ∧ w.cell? ⟨b, off + j * 2 + 1, none⟩ = some (.int .i64 y)) := p3; have HPb : Hid (rel ≠ [] → ∃ b off, rb = some ⟨b, off, none⟩ ∧ ∀ (j : Nat) (x y : Int), rel[j]? = some (x, y) → w.cell? ⟨b, off + j * 2, none⟩ = some (.int .i64 x) ∧ w.cell? ⟨b, off + j * 2 + 1, none⟩ = some (.int .i64 y)) := p6; have HSa : Hid (tr ≠ [] → ∃ b off, ta = some ⟨b, off, none⟩ ∧ ∀ (j : Nat) (r : List (List UInt8)), tr[j]? = some r → ∃ u, w.cell? ⟨b, off + j, none⟩ = some u ∧ SL w u r) := s3; have HSb : Hid (tr ≠ [] → ∃ b off, tb = some ⟨b, off, none⟩ ∧ ∀ (j : Nat) (r : List (List UInt8)), tr[j]? = some r → ∃ u, w.cell? ⟨b, off + j, none⟩ = some u ∧ SL w u r) := s6; (have hrm : (rel.length : Int) ≤ 9223372036854775807 := by unfold maxLen at p2; omega); (have htm : (tr.length : Int) ≤ 9223372036854775807 := by unfold maxLen at s2; omega); (have hq1 : (rel.length : Int) ≤ (rc : Int) := by omega); (have hq2 : (rel.length : Int) ≤ (rd : Int) := by omega); (have hq3 : (tr.length : Int) ≤ (tc : Int) := by omega); (have hq4 : (tr.length : Int) ≤ (td : Int) := by omega); obtain ⟨W0, hW0⟩ : ∃ W0, W0 = (w.alloc (.cells #[.int .i64 n, .slice ra rel.length rc, .slice ta tr.length tc] 30 (0, 0))).alloc (.cells #[.int .i64 n, .slice rb rel.length rd, .slice tb tr.length td] 30 (0, 0)) := ⟨_, rfl⟩; (have HB0 : Hid (Below w.heap.size w W0) := by rw [hW0]; exact below_more (below_more (Below.refl _ w) _) _); (have Q0 : Hid (W0.heap[w.heap.size]? = some (.cells #[.int .i64 n, .slice ra rel.length rc, .slice ta tr.length tc] 30 (0, 0))) := by rw [hW0]; exact alloc_keep (blk_new w _) _); (have Q1 : Hid (W0.heap[w.heap.size + 1]? = some (.cells #[.int .i64 n, .slice rb rel.length rd, .slice tb tr.length td] 30 (0, 0))) := by rw [hW0]; exact blk_secM w _ _); have HWe : Hid ((w.alloc (.cells #[.int .i64 n, .slice ra rel.length rc, .slice ta tr.length tc] 30 (0, 0))).alloc (.cells #[.int .i64 n, .slice rb rel.length rd, .slice tb tr.length td] 30 (0, 0)) = W0) := hW0.symm; clear p1 p2 p3 p4 p5 p6 s1 s2 s3 s4 s5 s6 hW0
  go_enter Try.func20, Try.ntmps20
  go_upto_region 1 with fail
  rw [HWe.out]; clear HWe; obtain ⟨a0, a1, a2, -⟩ := blk3 Q0.out; obtain ⟨b0, b1, b2, -⟩ := blk3 Q1.out; go_wp2_with fail
  go_loopg [5] rel.length (fun g c wr => ∃ i, i ≤ rel.length ∧ g = rel.length - i ∧ c = .int .i64 (i : Nat) ∧ Hid (Below W0.heap.size W0 wr))
  case atStart => exact ⟨0, by omega, by omega, rfl, Below.refl _ _⟩
  case round =>
    obtain ⟨i, hi, hg, rfl, HBr⟩ := hrel; have HG : Hid (gk = rel.length - i) := hg; clear hg a0 a1 a2 b0 b1 b2; obtain ⟨a0, a1, a2, -⟩ := blk3 (below_keep HBr.out Q0.out); obtain ⟨b0, b1, b2, -⟩ := blk3 (below_keep HBr.out Q1.out); have HBw : Hid (Below w.heap.size w wr) := below_join HB0.out HBr.out; by_cases hlt : i < rel.length
    · obtain ⟨⟨x, y⟩, hxy⟩ : ∃ f, rel[i]? = some f := ⟨_, List.getElem?_eq_getElem hlt⟩
      (obtain ⟨b, off, rfl, hc⟩ := HPa.out (fun e => by rw [e] at hlt; simp at hlt)); (obtain ⟨b', off', rfl, hc'⟩ := HPb.out (fun e => by rw [e] at hlt; simp at hlt)); obtain ⟨g0, g1⟩ := hc i x y hxy; obtain ⟨g2, g3⟩ := hc' i x y hxy; have c0 := (HBw.out.cell (lt_of_cell g0)).trans g0; have c1 := (HBw.out.cell (lt_of_cell g1)).trans g1; have c2 := (HBw.out.cell (lt_of_cell g2)).trans g2; have c3 := (HBw.out.cell (lt_of_cell g3)).trans g3; (have hltI : (i : Int) < (rel.length : Int) := by omega); (have hl1 : (i : Int) < (rc : Int) := by omega); (have hl2 : (i : Int) < (rd : Int) := by omega); have HI : Hid (i < rel.length) := hlt; have hpn := pair_neq x y; have hpg := pair_guard; clear hc hc' hxy g0 g1 g2 g3 hlt hi; go_wp2_with fail
      go_quiet (fail)
      go_wp2_with fail
      go_roundg (rel.length - (i + 1))
      case measure => have := HG.out; have := HI.out; omega
      case rel => exact ⟨i + 1, HI.out, rfl, by go_num, Below.drewM nq HBr.out⟩
    · have hge : ¬ (i : Int) < (rel.length : Int) := by omega
      obtain ⟨Wa, hWa⟩ : ∃ Wa, Wa = wr := ⟨_, rfl⟩; subst hWa; have HBa : Hid (Below W0.heap.size W0 Wa) := HBr; clear hlt hi HBr HBw; go_wp2_with fail
      go_loopg [6] tr.length (fun g c wr => ∃ i, i ≤ tr.length ∧ g = tr.length - i ∧ c = .int .i64 (i : Nat) ∧ Hid (Below W0.heap.size W0 wr))
      case atStart => exact ⟨0, by omega, by omega, rfl, HBa⟩
      case round =>
        obtain ⟨j, hj, hg, rfl, HBr⟩ := hrel; have HG2 : Hid (gk = tr.length - j) := hg; clear hg a0 a1 a2 b0 b1 b2; obtain ⟨a0, a1, a2, -⟩ := blk3 (below_keep HBr.out Q0.out); obtain ⟨b0, b1, b2, -⟩ := blk3 (below_keep HBr.out Q1.out); have HBw : Hid (Below w.heap.size w wr) := below_join HB0.out HBr.out; by_cases hlt : j < tr.length
        · obtain ⟨l, hl⟩ : ∃ f, tr[j]? = some f := ⟨_, List.getElem?_eq_getElem hlt⟩
          (obtain ⟨b, off, rfl, hc⟩ := HSa.out (fun e => by rw [e] at hlt; simp at hlt)); (obtain ⟨b', off', rfl, hc'⟩ := HSb.out (fun e => by rw [e] at hlt; simp at hlt)); obtain ⟨lv, g0, hlv⟩ := hc j l hl; obtain ⟨lu, g1, hlu⟩ := hc' j l hl; have c0 := (HBw.out.cell (lt_of_cell g0)).trans g0; have c1 := (HBw.out.cell (lt_of_cell g1)).trans g1; have htx := texts_sl l lv lu wr.drew ((hlv.up HBw.out).up (Below.refl _ _).drew) ((hlu.up HBw.out).up (Below.refl _ _).drew); obtain ⟨adv, cpv, rfl, -⟩ := hlv; obtain ⟨adu, cpu, rfl, -⟩ := hlu; (have HT : Hid (Calls Try.prog 42 _ wr.drew fun e w' => e = .returned (.bool true) ∧ Below wr.drew.heap.size wr.drew w') := htx); (have hltI : (j : Int) < (tr.length : Int) := by omega); (have hl1 : (j : Int) < (tc : Int) := by omega); (have hl2 : (j : Int) < (td : Int) := by omega); have HI : Hid (j < tr.length) := hlt; clear hc hc' hl g0 g1 hlt hj htx; go_wp2_with fail
          go_region_held3 (fun w' => w'.cell? ⟨w.heap.size, 2, none⟩ = some (.slice (some ⟨b, off, none⟩) tr.length tc) ∧ w'.cell? ⟨w.heap.size + 1, 2, none⟩ = some (.slice (some ⟨b', off', none⟩) tr.length td) ∧ w'.cell? ⟨b, off + j, none⟩ = some (.slice adv l.length cpv) ∧ w'.cell? ⟨b', off' + j, none⟩ = some (.slice adu l.length cpu)) (go_keep)
            (first
             | (go_at_call 42
                refine HT.out.mono ?_; rintro e w8 ⟨rfl, hb8⟩; have HB8 : Hid (Below wr.heap.size wr w8) := below_join (Below.refl _ _).drew hb8; have k0 := (HB8.out.cell (lt_of_cell a2)).trans a2; have k1 := (HB8.out.cell (lt_of_cell b2)).trans b2; have k2 := (HB8.out.cell (lt_of_cell c0)).trans c0; have k3 := (HB8.out.cell (lt_of_cell c1)).trans c1
                clear hb8)
             | fail)
          all_goals
            go_wp2_with fail
            go_roundg (tr.length - (j + 1))
            case measure => have := HG2.out; have := HI.out; omega
            case rel => exact ⟨j + 1, HI.out, rfl, by go_num, below_join HBr.out HB8.out⟩
        · have hge2 : ¬ (j : Int) < (tr.length : Int) := by omega
          clear hlt hj; go_wp2_with fail; go_ret; exact ⟨rfl, below_join HB0.out HBr.out⟩
end Go.Proofs.Ytclinobfbdljhah
