/- Texts of one proof, one behind the other: TM2. -/
import Derived.Test.YtffkoiemnchdgabB36
import Derived.Test.YtffkoiemnchdgabB29
/- Walks: firstUnfit, Made. -/
namespace Go.Proofs.Ytffkoiemnchdgab
open Go.RowKit Go.Sort

theorem badAt_of {l : List (List UInt8)} {i : Nat} {t : List UInt8} (h : l[i]? = some t) : badAt l i = (!isNm t || decide (t ∈ l.take i)) := by
  unfold badAt; rw [h]

set_option maxHeartbeats 2000000 in
theorem firstUnfit_any (l : List (List UInt8)) (hmx : ∀ t ∈ l, t.length ≤ maxLen) (v : Value) (w : World) (hv : SL w v l) :
    Calls Try.prog 41 #[v] w fun e w' => e = .returned (.int .i64 (unfit l)) ∧ Below w.heap.size w w' := by
  have HV : Hid (SL w v l) := hv; obtain ⟨ad, cap, rfl, h1, h2, h3⟩ := hv; (have hlI : (l.length : Int) ≤ 9223372036854775807 := by unfold maxLen at h2; omega); have H3 : Hid (l ≠ [] → ∃ g off, ad = some ⟨g, off, none⟩ ∧ ∀ (j : Nat) (t : List UInt8), l[j]? = some t → w.cell? ⟨g, off + j, none⟩ = some (.string ⟨t.toArray⟩)) := h3; have HMx : Hid (∀ t ∈ l, t.length ≤ maxLen) := hmx; clear h3 hmx
  go_enter Try.func41, Try.ntmps41
  go_wp2_with fail
  go_loopg [7] l.length (fun g c wr => ∃ i, i ≤ l.length ∧ g = l.length - i ∧ c = .int .i64 (i : Nat) ∧ Below w.heap.size w wr ∧ Hid (∀ j, j < i → badAt l j = false))
  case atStart => exact ⟨0, by omega, by omega, rfl, Below.refl _ _, fun j h => absurd h (Nat.not_lt_zero _)⟩
  case round =>
    obtain ⟨i, hi, hg, rfl, hbr, HN⟩ := hrel; have HG : Hid (gk = l.length - i) := hg; clear hg; by_cases hlt : i < l.length
    · obtain ⟨t, ht⟩ : ∃ x, l[i]? = some x := ⟨_, List.getElem?_eq_getElem hlt⟩
      (obtain ⟨g, off, rfl, hc⟩ := H3.out (fun e => by rw [e] at hlt; simp at hlt)); have g0 := (hbr.cell (p := ⟨g, off + i, none⟩) (lt_of_cell (hc i t ht))).trans (hc i t ht); (have hltI : (i : Int) < (l.length : Int) := by omega); (have hlc : (i : Int) < (cap : Int) := by omega); (have hlc2 : (i : Int) ≤ (cap : Int) := by omega); (have hno := fun w => isNoName_any ⟨t.toArray⟩ (by simpa [ByteArray.size] using HMx.out t (List.mem_of_getElem? ht)) w); (have hct := fun w h => containsS_any (l.take i) t (.slice (some ⟨g, off, none⟩) i cap) w h); have hba := badAt_of ht; (have HU1 : Hid (badAt l i = true → unfit l = ((i : Nat) : Int)) := fun h => unfit_at hlt HN.out h)
      have HU2 : Hid (badAt l i = false → ∀ j, j < i + 1 → badAt l j = false) := fun h j hj => by
        by_cases e : j = i
        · rw [e]; exact h
        · exact HN.out j (by omega)
      rw [show (⟨t.toArray⟩ : ByteArray).data.toList = t from rfl] at hno; generalize isNm t = b1 at *; generalize decide (t ∈ l.take i) = b2 at *; have HNo : Hid (∀ w, Calls Try.prog 49 _ w _) := hno; have HCt : Hid (∀ w, SL w (.slice (some ⟨g, off, none⟩) i cap) (l.take i) → Calls Try.prog 65 _ w _) := hct; have HT : Hid (SL wr (.slice (some ⟨g, off, none⟩) i cap) (l.take i)) := (HV.out.up hbr).take hi; generalize (⟨t.toArray⟩ : ByteArray) = T at *; generalize badAt l i = bb at *; have HBa : Hid (bb = (!b1 || b2)) := hba; clear hc ht H3 hno hct hba HV; go_wp2_with fail; refine (HNo.out _).mono ?_; rintro e w1 ⟨rfl, hb1⟩; have B1 := below_join hbr hb1
      cases b1
      · have HR : Hid (unfit l = ((i : Nat) : Int)) := HU1.out HBa.out
        clear HU1 HU2 HBa; go_wp2_with fail; go_ret; (exact ⟨by rw [HR.out]; rfl, B1⟩)
      · go_wp2_with fail
        (refine (HCt.out _ (by first | exact HT.out.up hb1 | (rw [Nat.add_zero]; exact HT.out.up hb1))).mono ?_); rintro e w2 ⟨rfl, rfl⟩
        cases b2
        · have HR : Hid (∀ j, j < i + 1 → badAt l j = false) := HU2.out HBa.out
          clear HU1 HU2 HBa; go_wp2_with fail
          go_roundg (l.length - (i + 1))
          case measure => have := HG.out; omega
          case rel => exact ⟨i + 1, by omega, rfl, by go_num, B1, HR⟩
        · have HR : Hid (unfit l = ((i : Nat) : Int)) := HU1.out HBa.out
          clear HU1 HU2 HBa; go_wp2_with fail; go_ret; (exact ⟨by rw [HR.out]; rfl, B1⟩)
    · have HR : Hid (unfit l = -1) := unfit_no fun j hj => HN.out j (by omega)
      (have hge : ¬ (i : Int) < (l.length : Int) := by omega); clear H3 HN; go_wp2_with fail; go_ret; (exact ⟨by rw [HR.out]; rfl, hbr⟩)

/-- Two results are laid into their blocks. -/
theorem res_two {w W : World} {R S : Nat} {x0 x1 y0 y1 : Value} {T U : TypeId} (hR : w.heap.size ≤ R) (hS : w.heap.size ≤ S) (hne : R ≠ S) (B : Below w.heap.size w W) (q : W.heap[R]? = some (.cells #[x0, x1] T (0, 0))) (r : W.heap[S]? = some (.cells #[y0, y1] U (0, 0))) (a b c d : Value) :
    ((((W.setCell ⟨R, 0, none⟩ a).setCell ⟨R, 1, none⟩ b).setCell ⟨S, 0, none⟩ c).setCell ⟨S, 1, none⟩ d).heap[R]? = some (.cells #[a, b] T (0, 0)) ∧ ((((W.setCell ⟨R, 0, none⟩ a).setCell ⟨R, 1, none⟩ b).setCell ⟨S, 0, none⟩ c).setCell ⟨S, 1, none⟩ d).heap[S]? = some (.cells #[c, d] U (0, 0)) ∧
    Below w.heap.size w ((((W.setCell ⟨R, 0, none⟩ a).setCell ⟨R, 1, none⟩ b).setCell ⟨S, 0, none⟩ c).setCell ⟨S, 1, none⟩ d) ∧ ((((W.setCell ⟨R, 0, none⟩ a).setCell ⟨R, 1, none⟩ b).setCell ⟨S, 0, none⟩ c).setCell ⟨S, 1, none⟩ d).heap.size = W.heap.size ∧ (∀ k, k ≠ R → k ≠ S → ((((W.setCell ⟨R, 0, none⟩ a).setCell ⟨R, 1, none⟩ b).setCell ⟨S, 0, none⟩ c).setCell ⟨S, 1, none⟩ d).heap[k]? = W.heap[k]?) := by
  (refine ⟨?_, ?_, (((B.setCell (by simpa using hR) _).setCell (by simpa using hR) _).setCell (by simpa using hS) _).setCell (by simpa using hS) _, by simp [World.setCell], fun k h1 h2 => ?_⟩)
  · rw [Below.heap_setCell _ _ _ _ (by simpa using hne), Below.heap_setCell _ _ _ _ (by simpa using hne)]
    exact set2 q _ _
  · refine set2 (x0 := y0) (x1 := y1) ?_ _ _
    (rw [Below.heap_setCell _ _ _ _ (by simpa using hne.symm), Below.heap_setCell _ _ _ _ (by simpa using hne.symm)]); exact r
  · rw [Below.heap_setCell _ _ _ _ (by simpa using h2), Below.heap_setCell _ _ _ _ (by simpa using h2), Below.heap_setCell _ _ _ _ (by simpa using h1), Below.heap_setCell _ _ _ _ (by simpa using h1)]

set_option maxHeartbeats 4000000 in
theorem made_bad (f : Fm) (l : List (List UInt8)) (v u : Value) (w : World) (hrep : Rep w (fun _ => True) f v) (hu : SL w u l) (c a : Int) (hc : c ≠ 0) (hcf : f.pcode = (c, a)) :
    Calls Try.prog 14 #[v, u] w fun e w' => e = .returned (.tuple #[.agg #[.int .i64 0, .slice none 0 0], .agg #[.int .i64 c, .int .i64 a]]) ∧ Below w.heap.size w w' := by
  (have hck := fun v (w : World) h => plainFault_any f v w h); rw [hcf] at hck; (have hne' : (c != 0) = true := by simpa using hc); obtain ⟨k, n, ks⟩ := f; obtain ⟨sl, cap, rfl⟩ := slice_shape hrep; have HC : Hid (∀ v w, _ → Calls Try.prog 40 #[v] w _) := hck; have HU : Hid (SL w u l) := hu; obtain ⟨ad, cp, rfl, -⟩ := hu; clear hck hcf hc HU
  go_enter Try.func14, Try.ntmps14
  go_wp2_with fail; refine (HC.out _ _ (((hrep.more _).more _).more _)).mono ?_; rintro e w1 ⟨rfl, hb1⟩; have q0 := below_keep hb1 (alloc_keep (alloc_keep (blk_new w _) _) _); have q1 := below_keep hb1 (alloc_keep (blk_sec w _ _) _); have q2 := below_keep hb1 (blk_sec (w.alloc _) _ _); (rw [show (w.alloc _).heap.size = w.heap.size + 1 by simp] at q2); have B1 := below_join (below_more (below_more (below_more (Below.refl _ w) _) _) _) hb1; have z2 := lt_of_block q2; (have d1 : ¬ w1.heap.size = w.heap.size + 1 := by omega); (have d2 : ¬ w1.heap.size = w.heap.size + 1 + 1 := by omega); (have d3 : ¬ w1.heap.size = w.heap.size := by omega); (have d4 : w.heap.size + 1 < w1.heap.size := by omega); (have d5 : w.heap.size + 1 + 1 < w1.heap.size := by omega); (have d6 : w.heap.size < w1.heap.size := by omega); obtain ⟨k1, k2, k3, k4⟩ := blk2 q1; obtain ⟨k5, k6, k7, k8⟩ := blk2 q2; go_wp2_with fail
  go_region
  all_goals go_wp2
  (obtain ⟨s1, s2, s3, s4, s5⟩ := res_two (R := w.heap.size + 1) (S := w.heap.size + 1 + 1) (by omega) (by omega) (by omega) B1 q1 q2 (.int .i64 0) (.slice none 0 0) (.int .i64 c) (.int .i64 a)); generalize World.setCell _ _ _ = F at s1 s2 s3 s4 s5 ⊢; clear k1 k2 k3 k4 k5 k6 k7 k8; obtain ⟨k1, k2, -⟩ := blk2 s1; obtain ⟨k5, k6, -⟩ := blk2 s2; (have d8 : w.heap.size + 1 < F.heap.size := by omega); (have d9 : w.heap.size + 1 + 1 < F.heap.size := by omega); (exact bodyPost_ret (v := .tuple #[.agg #[.int .i64 0, .slice none 0 0], .agg #[.int .i64 c, .int .i64 a]]) (by simp [results, Try.results14, go_sem, k1, k2, k5, k6, d8, d9]) rfl ⟨rfl, (s3.alloc (by omega) _).drew⟩)

set_option maxHeartbeats 4000000 in
theorem made_many (f : Fm) (l : List (List UInt8)) (v u : Value) (w : World) (hrep : Rep w (fun _ => True) f v) (hu : SL w u l) (hcf : f.pcode = (0, 0)) (hl : 4 < l.length) :
    Calls Try.prog 14 #[v, u] w fun e w' => e = .returned (.tuple #[.agg #[.int .i64 0, .slice none 0 0], .agg #[.int .i64 2, .int .i64 0]]) ∧ Below w.heap.size w w' := by
  (have hck := fun v (w : World) h => plainFault_any f v w h); rw [hcf] at hck; obtain ⟨k, n, ks⟩ := f; obtain ⟨sl, cap, rfl⟩ := slice_shape hrep; have HC : Hid (∀ v w, _ → Calls Try.prog 40 #[v] w _) := hck; have HU : Hid (SL w u l) := hu; obtain ⟨ad, cp, rfl, -⟩ := hu; (have hlI : (4 : Int) < (l.length : Int) := by omega); clear hck hcf HU
  go_enter Try.func14, Try.ntmps14
  go_wp2_with fail; refine (HC.out _ _ (((hrep.more _).more _).more _)).mono ?_; rintro e w1 ⟨rfl, hb1⟩; have q0 := below_keep hb1 (alloc_keep (alloc_keep (blk_new w _) _) _); have q1 := below_keep hb1 (alloc_keep (blk_sec w _ _) _); have q2 := below_keep hb1 (blk_sec (w.alloc _) _ _); (rw [show (w.alloc _).heap.size = w.heap.size + 1 by simp] at q2); have B1 := below_join (below_more (below_more (below_more (Below.refl _ w) _) _) _) hb1; have z2 := lt_of_block q2; (have d1 : ¬ w1.heap.size = w.heap.size + 1 := by omega); (have d2 : ¬ w1.heap.size = w.heap.size + 1 + 1 := by omega); (have d3 : ¬ w1.heap.size = w.heap.size := by omega); (have d4 : w.heap.size + 1 < w1.heap.size := by omega); (have d5 : w.heap.size + 1 + 1 < w1.heap.size := by omega); (have d6 : w.heap.size < w1.heap.size := by omega); obtain ⟨k1, k2, k3, k4⟩ := blk2 q1; obtain ⟨k5, k6, k7, k8⟩ := blk2 q2; go_wp2_with fail; (obtain ⟨s1, s2, s3, s4, s5⟩ := res_two (R := w.heap.size + 1) (S := w.heap.size + 1 + 1) (by omega) (by omega) (by omega) B1 q1 q2 (.int .i64 0) (.slice none 0 0) (.int .i64 2) (.int .i64 0)); generalize World.setCell _ _ _ = F at s1 s2 s3 s4 s5 ⊢; clear k1 k2 k3 k4 k5 k6 k7 k8; obtain ⟨k1, k2, -⟩ := blk2 s1; obtain ⟨k5, k6, -⟩ := blk2 s2; (have d8 : w.heap.size + 1 < F.heap.size := by omega); (have d9 : w.heap.size + 1 + 1 < F.heap.size := by omega); (exact bodyPost_ret (v := .tuple #[.agg #[.int .i64 0, .slice none 0 0], .agg #[.int .i64 2, .int .i64 0]]) (by simp [results, Try.results14, go_sem, k1, k2, k5, k6, d8, d9]) rfl ⟨rfl, s3.alloc (by omega) _⟩)

set_option maxHeartbeats 4000000 in
theorem made_unfit (f : Fm) (l : List (List UInt8)) (v u : Value) (w : World) (hrep : Rep w (fun _ => True) f v) (hu : SL w u l) (hmx : ∀ t ∈ l, t.length ≤ maxLen) (hcf : f.pcode = (0, 0)) (hl : l.length ≤ 4) (i : Int) (hi : 0 ≤ i) (hun : unfit l = i) :
    Calls Try.prog 14 #[v, u] w fun e w' => e = .returned (.tuple #[.agg #[.int .i64 0, .slice none 0 0], .agg #[.int .i64 8, .int .i64 i]]) ∧ Below w.heap.size w w' := by
  (have hck := fun v (w : World) h => plainFault_any f v w h); rw [hcf] at hck; (have hfu := fun v (w : World) h => firstUnfit_any l hmx v w h); rw [hun] at hfu; obtain ⟨k, n, ks⟩ := f; obtain ⟨sl, cap, rfl⟩ := slice_shape hrep; have HC : Hid (∀ v w, _ → Calls Try.prog 40 #[v] w _) := hck; have HU : Hid (SL w u l) := hu; obtain ⟨ad, cp, rfl, -⟩ := hu; (have hlI : ¬ (4 : Int) < (l.length : Int) := by omega); have HF : Hid (∀ v w, SL w v l → Calls Try.prog 41 #[v] w _) := hfu; clear hfu hmx; clear hck hcf hun
  go_enter Try.func14, Try.ntmps14
  go_wp2_with fail; refine (HC.out _ _ (((hrep.more _).more _).more _)).mono ?_; rintro e w1 ⟨rfl, hb1⟩; have q0 := below_keep hb1 (alloc_keep (alloc_keep (blk_new w _) _) _); have q1 := below_keep hb1 (alloc_keep (blk_sec w _ _) _); have q2 := below_keep hb1 (blk_sec (w.alloc _) _ _); (rw [show (w.alloc _).heap.size = w.heap.size + 1 by simp] at q2); have B1 := below_join (below_more (below_more (below_more (Below.refl _ w) _) _) _) hb1; have z2 := lt_of_block q2; go_wp2_with fail; refine (HF.out _ _ (HU.out.up (below_more B1 _))).mono ?_; rintro e w2 ⟨rfl, hb2⟩; have r0 := below_keep hb2 (alloc_keep q0 _); have r1 := below_keep hb2 (alloc_keep q1 _); have r2 := below_keep hb2 (alloc_keep q2 _); have B2 := below_join (below_more B1 _) hb2; have z3 := lt_of_block r2; clear q0 q1 q2; (have d1 : ¬ w2.heap.size = w.heap.size + 1 := by omega); (have d2 : ¬ w2.heap.size = w.heap.size + 1 + 1 := by omega); (have d3 : ¬ w2.heap.size = w.heap.size := by omega); (have d4 : w.heap.size + 1 < w2.heap.size := by omega); (have d5 : w.heap.size + 1 + 1 < w2.heap.size := by omega); (have d6 : w.heap.size < w2.heap.size := by omega); obtain ⟨k1, k2, k3, k4⟩ := blk2 r1; obtain ⟨k5, k6, k7, k8⟩ := blk2 r2; go_wp2_with fail; (obtain ⟨s1, s2, s3, s4, s5⟩ := res_two (R := w.heap.size + 1) (S := w.heap.size + 1 + 1) (by omega) (by omega) (by omega) B2 r1 r2 (.int .i64 0) (.slice none 0 0) (.int .i64 8) (.int .i64 i)); generalize World.setCell _ _ _ = F at s1 s2 s3 s4 s5 ⊢; clear k1 k2 k3 k4 k5 k6 k7 k8; obtain ⟨k1, k2, -⟩ := blk2 s1; obtain ⟨k5, k6, -⟩ := blk2 s2; (have d8 : w.heap.size + 1 < F.heap.size := by omega); (have d9 : w.heap.size + 1 + 1 < F.heap.size := by omega); (exact bodyPost_ret (v := .tuple #[.agg #[.int .i64 0, .slice none 0 0], .agg #[.int .i64 8, .int .i64 i]]) (by simp [results, Try.results14, go_sem, k1, k2, k5, k6]) rfl ⟨rfl, s3⟩)

set_option maxHeartbeats 4000000 in
theorem made_none (f : Fm) (l : List (List UInt8)) (v u : Value) (w : World) (hrep : Rep w (fun _ => True) f v) (hu : SL w u l) (hmx : ∀ t ∈ l, t.length ≤ maxLen) (hcf : f.pcode = (0, 0)) (hl : l.length ≤ 4) (hun : unfit l = -1) (ho : f.only l = false) :
    Calls Try.prog 14 #[v, u] w fun e w' => e = .returned (.tuple #[.agg #[.int .i64 0, .slice none 0 0], .agg #[.int .i64 6, .int .i64 0]]) ∧ Below w.heap.size w w' := by
  (have hck := fun v (w : World) h => plainFault_any f v w h); rw [hcf] at hck; (have hfu := fun v (w : World) h => firstUnfit_any l hmx v w h); (have hon := fun v u (w : World) h h' => hasOnly_any f l (by rw [hcf]) v u w h h'); rw [hun] at hfu; rw [ho] at hon; obtain ⟨k, n, ks⟩ := f; obtain ⟨sl, cap, rfl⟩ := slice_shape hrep; have HC : Hid (∀ v w, _ → Calls Try.prog 40 #[v] w _) := hck; have HU : Hid (SL w u l) := hu; obtain ⟨ad, cp, rfl, -⟩ := hu; (have hlI : ¬ (4 : Int) < (l.length : Int) := by omega); have HF : Hid (∀ v w, SL w v l → Calls Try.prog 41 #[v] w _) := hfu; clear hfu hmx; (have HO : Hid (∀ v u w, Rep w (fun _ => True) (.mk k n ks) v → SL w u l → Calls Try.prog 42 #[v, u] w _) := hon); clear hck hcf hun ho hon
  go_enter Try.func14, Try.ntmps14
  go_wp2_with fail; refine (HC.out _ _ (((hrep.more _).more _).more _)).mono ?_; rintro e w1 ⟨rfl, hb1⟩; have q0 := below_keep hb1 (alloc_keep (alloc_keep (blk_new w _) _) _); have q1 := below_keep hb1 (alloc_keep (blk_sec w _ _) _); have q2 := below_keep hb1 (blk_sec (w.alloc _) _ _); (rw [show (w.alloc _).heap.size = w.heap.size + 1 by simp] at q2); have B1 := below_join (below_more (below_more (below_more (Below.refl _ w) _) _) _) hb1; have z2 := lt_of_block q2; go_wp2_with fail; refine (HF.out _ _ (HU.out.up (below_more B1 _))).mono ?_; rintro e w2 ⟨rfl, hb2⟩; have r0 := below_keep hb2 (alloc_keep q0 _); have r1 := below_keep hb2 (alloc_keep q1 _); have r2 := below_keep hb2 (alloc_keep q2 _); have B2 := below_join (below_more B1 _) hb2; have z3 := lt_of_block r2; clear q0 q1 q2; obtain ⟨a0, a1, a2, -⟩ := blk3 r0; go_wp2_with fail; refine (HO.out _ _ _ (hrep.up B2) (HU.out.up B2)).mono ?_; rintro e w3 ⟨rfl, hb3⟩; have t1 := below_keep hb3 r1; have t2 := below_keep hb3 r2; have B3 := below_join B2 hb3; have z4 := lt_of_block t2; clear a0 a1 a2 r0 r1 r2; (have d1 : ¬ w3.heap.size = w.heap.size + 1 := by omega); (have d2 : ¬ w3.heap.size = w.heap.size + 1 + 1 := by omega); (have d3 : ¬ w3.heap.size = w.heap.size := by omega); (have d4 : w.heap.size + 1 < w3.heap.size := by omega); (have d5 : w.heap.size + 1 + 1 < w3.heap.size := by omega); (have d6 : w.heap.size < w3.heap.size := by omega); obtain ⟨k1, k2, k3, k4⟩ := blk2 t1; obtain ⟨k5, k6, k7, k8⟩ := blk2 t2; go_wp2_with fail; (obtain ⟨s1, s2, s3, s4, s5⟩ := res_two (R := w.heap.size + 1) (S := w.heap.size + 1 + 1) (by omega) (by omega) (by omega) B3 t1 t2 (.int .i64 0) (.slice none 0 0) (.int .i64 6) (.int .i64 0)); generalize World.setCell _ _ _ = F at s1 s2 s3 s4 s5 ⊢; clear k1 k2 k3 k4 k5 k6 k7 k8; obtain ⟨k1, k2, -⟩ := blk2 s1; obtain ⟨k5, k6, -⟩ := blk2 s2; (have d8 : w.heap.size + 1 < F.heap.size := by omega); (have d9 : w.heap.size + 1 + 1 < F.heap.size := by omega); (exact bodyPost_ret (v := .tuple #[.agg #[.int .i64 0, .slice none 0 0], .agg #[.int .i64 6, .int .i64 0]]) (by simp [results, Try.results14, go_sem, k1, k2, k5, k6]) rfl ⟨rfl, s3⟩)

theorem unfit_fit {l : List (List UInt8)} (h : unfit l = -1) : (∀ t ∈ l, isNm t = true) ∧ l.Nodup := by
  have hall : ∀ j, j < l.length → badAt l j = false := fun j hj => by
    unfold unfit at h
    cases hf : (List.range l.length).find? (badAt l) with
    | some i => rw [hf] at h; simp at h
    | none =>
      rw [List.find?_eq_none] at hf; have := hf j (List.mem_range.2 hj); simpa using this
  (refine ⟨fun t ht => ?_, ?_⟩)
  · obtain ⟨i, hi, hit⟩ := List.getElem_of_mem ht
    have := hall i hi; (rw [badAt_of (by rw [List.getElem?_eq_getElem hi, hit])] at this); simp only [Bool.or_eq_false_iff, Bool.not_eq_false'] at this; exact this.1
  · rw [List.Nodup, List.pairwise_iff_getElem]
    intro i j hi hj hij e; have := hall j hj; rw [badAt_of (List.getElem?_eq_getElem hj)] at this; simp only [Bool.or_eq_false_iff, decide_eq_false_iff_not] at this; (exact this.2 (by rw [← e]; exact List.mem_take_iff_getElem.2 ⟨i, by omega, rfl⟩))
theorem only_all {f : Fm} {l : List (List UInt8)} (h : f.only l = true) : ∀ t ∈ nmsT f, t ∈ l := fun t ht => by
  unfold Fm.only at h; rw [Bool.not_eq_true', List.any_eq_false] at h; have := h t ((nmsU_mem f t).2 ht); simpa using this

/-- A list of bools lies where no result is laid. -/
theorem BL.far {w w' : World} {v : Value} {l : List Bool} {R S : Nat} {x0 y0 y1 : Int} {T U : TypeId} (h : BL w v l) (_ : w'.heap.size = w.heap.size) (hk : ∀ k, k ≠ R → k ≠ S → w'.heap[k]? = w.heap[k]?) (hR : w.heap[R]? = some (.cells #[.int .i64 x0, .slice none 0 0] T (0, 0))) (hS : w.heap[S]? = some (.cells #[.int .i64 y0, .int .i64 y1] U (0, 0))) : BL w' v l := by
  obtain ⟨ad, cap, h1, h2, h3, h4⟩ := h; (refine ⟨ad, cap, h1, h2, h3, fun hne => ?_⟩); obtain ⟨g, off, h5, h6⟩ := h4 hne; (refine ⟨g, off, h5, fun j b hb => ?_⟩); have hg := h6 j b hb; (have n2 : g ≠ S := int2_no hS hg (fun c => by simp))
  have n1 : g ≠ R := by
    rintro rfl; rw [blk_cell hR] at hg
    rcases hj : off + j with _ | _ | m
    · rw [hj] at hg; simp at hg
    · rw [hj] at hg; simp at hg
    · rw [hj] at hg; simp at hg
  rw [← hg]; unfold World.cell?; rw [hk g n1 n2]

set_option maxHeartbeats 4000000 in
theorem made_fine (f : Fm) (l : List (List UInt8)) (v u : Value) (w : World) (hrep : Rep w (fun _ => True) f v) (hu : SL w u l) (hmx : ∀ t ∈ l, t.length ≤ maxLen) (hcf : f.pcode = (0, 0)) (hl : l.length ≤ 4) (hun : unfit l = -1) (ho : f.only l = true) :
    Calls Try.prog 14 #[v, u] w fun e w' => ∃ x, e = .returned (.tuple #[.agg #[.int .i64 (l.length : Nat), x], .agg #[.int .i64 0, .int .i64 0]]) ∧ BL w' x (colL f l) ∧ Below w.heap.size w w' := by
  (have hck := fun v (w : World) h => plainFault_any f v w h); rw [hcf] at hck; (have hfu := fun v (w : World) h => firstUnfit_any l hmx v w h); (have hon := fun v u (w : World) h h' => hasOnly_any f l (by rw [hcf]) v u w h h'); obtain ⟨hnm, hnd⟩ := unfit_fit hun; (obtain ⟨⟨s, hs⟩, hpl, -⟩ := pcode_ok (f := f) (by rw [hcf])); (have hco := fun v u (w : World) h h' => column_any f (fine_of_chk f 0 s hs) hpl l (by omega) hnd (fun t ht => by have := isNm_bd (hnm t ht); omega) v u w h h'); generalize colL f l = C at *; rw [hun] at hfu; rw [ho] at hon; obtain ⟨k, n, ks⟩ := f; obtain ⟨sl, cap, rfl⟩ := slice_shape hrep; have HC : Hid (∀ v w, _ → Calls Try.prog 40 #[v] w _) := hck; have HU : Hid (SL w u l) := hu; obtain ⟨ad, cp, rfl, -⟩ := hu; (have hlI : ¬ (4 : Int) < (l.length : Int) := by omega); have HF : Hid (∀ v w, SL w v l → Calls Try.prog 41 #[v] w _) := hfu; clear hfu hmx; (have HO : Hid (∀ v u w, Rep w (fun _ => True) (.mk k n ks) v → SL w u l → Calls Try.prog 42 #[v, u] w _) := hon); (have HCo : Hid (∀ v u w, Rep w (fun _ => True) (.mk k n ks) v → SL w u l → Calls Try.prog 43 #[v, u] w _) := hco); clear hck hcf hun ho hon hco hnm hnd hs hpl
  go_enter Try.func14, Try.ntmps14
  go_wp2_with fail; refine (HC.out _ _ (((hrep.more _).more _).more _)).mono ?_; rintro e w1 ⟨rfl, hb1⟩; have q0 := below_keep hb1 (alloc_keep (alloc_keep (blk_new w _) _) _); have q1 := below_keep hb1 (alloc_keep (blk_sec w _ _) _); have q2 := below_keep hb1 (blk_sec (w.alloc _) _ _); (rw [show (w.alloc _).heap.size = w.heap.size + 1 by simp] at q2); have B1 := below_join (below_more (below_more (below_more (Below.refl _ w) _) _) _) hb1; have z2 := lt_of_block q2; go_wp2_with fail; refine (HF.out _ _ (HU.out.up (below_more B1 _))).mono ?_; rintro e w2 ⟨rfl, hb2⟩; have r0 := below_keep hb2 (alloc_keep q0 _); have r1 := below_keep hb2 (alloc_keep q1 _); have r2 := below_keep hb2 (alloc_keep q2 _); have B2 := below_join (below_more B1 _) hb2; have z3 := lt_of_block r2; clear q0 q1 q2; obtain ⟨a0, a1, a2, -⟩ := blk3 r0; go_wp2_with fail; refine (HO.out _ _ _ (hrep.up B2) (HU.out.up B2)).mono ?_; rintro e w3 ⟨rfl, hb3⟩; have t0 := below_keep hb3 r0; have t1 := below_keep hb3 r1; have t2 := below_keep hb3 r2; have B3 := below_join B2 hb3; clear a0 a1 a2 r0 r1 r2; obtain ⟨a0, a1, a2, -⟩ := blk3 t0; go_wp2_with fail; refine (HCo.out _ _ _ (hrep.up B3) (HU.out.up B3)).mono ?_; rintro e w4 ⟨x, rfl, hbl, hb4⟩; have HBL : Hid (BL w4 x C) := hbl; obtain ⟨adx, cpx, rfl, -⟩ := hbl; have r1 := below_keep hb4 t1; have r2 := below_keep hb4 t2; have B4 := below_join B3 hb4; have z4 := lt_of_block r2; clear a0 a1 a2 t0 t1 t2; (have d1 : ¬ w4.heap.size = w.heap.size + 1 := by omega); (have d2 : ¬ w4.heap.size = w.heap.size + 1 + 1 := by omega); (have d3 : ¬ w4.heap.size = w.heap.size := by omega); (have d4 : w.heap.size + 1 < w4.heap.size := by omega); (have d5 : w.heap.size + 1 + 1 < w4.heap.size := by omega); (have d6 : w.heap.size < w4.heap.size := by omega); obtain ⟨k1, k2, k3, k4⟩ := blk2 r1; obtain ⟨k5, k6, k7, k8⟩ := blk2 r2; go_wp2_with fail; (obtain ⟨s1, s2, s3, s4, s5⟩ := res_two (R := w.heap.size + 1) (S := w.heap.size + 1 + 1) (by omega) (by omega) (by omega) B4 r1 r2 (.int .i64 (l.length : Nat)) (.slice adx C.length cpx) (.int .i64 0) (.int .i64 0)); generalize World.setCell _ _ _ = F at s1 s2 s3 s4 s5 ⊢; clear k1 k2 k3 k4 k5 k6 k7 k8; obtain ⟨k1, k2, -⟩ := blk2 s1; obtain ⟨k5, k6, -⟩ := blk2 s2; (have d8 : w.heap.size + 1 < F.heap.size := by omega); (have d9 : w.heap.size + 1 + 1 < F.heap.size := by omega); (exact bodyPost_ret (v := .tuple #[.agg #[.int .i64 (l.length : Nat), .slice adx C.length cpx], .agg #[.int .i64 0, .int .i64 0]]) (by simp [results, Try.results14, go_sem, k1, k2, k5, k6]) rfl ⟨_, rfl, HBL.out.far s4 (fun k h1 h2 => s5 k h1 h2) r1 r2, s3⟩)
end Go.Proofs.Ytffkoiemnchdgab
