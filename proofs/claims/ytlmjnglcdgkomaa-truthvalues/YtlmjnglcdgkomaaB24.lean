/- Texts of one proof, one behind the other: TY4. -/
import Derived.Test.YtlmjnglcdgkomaaB22
import Derived.Test.YtlmjnglcdgkomaaB13
import Derived.Test.YtlmjnglcdgkomaaB12
/- Walks: the yardstick's PlainFault. -/
namespace Go.Proofs.Ytlmjnglcdgkomaa
open Go.RowKit Go.Sort

def pfirst : List Fm → Int × Int
  | [] => (0, 0)
  | f :: fs => if f.pcode.1 = 0 then pfirst fs else f.pcode

theorem pfirst_drop {fs : List Fm} {i : Nat} {f : Fm} (h : fs[i]? = some f) : pfirst (fs.drop i) = if f.pcode.1 = 0 then pfirst (fs.drop (i + 1)) else f.pcode := by
  have hi : i < fs.length := by
    rcases Nat.lt_or_ge i fs.length with h' | h'
    · exact h'
    · rw [List.getElem?_eq_none h'] at h; cases h
  rw [List.drop_eq_getElem_cons hi, pfirst]; rw [List.getElem?_eq_getElem hi] at h; rw [Option.some.inj h]

theorem mIdx_drop {l : List Fm} {i : Nat} {f : Fm} (h : l[i]? = some f) (a : Nat) : mIdx (l.drop i) a = if isM f.kind then (a, true) else mIdx (l.drop (i + 1)) (a + 1) := by
  have hi : i < l.length := by
    rcases Nat.lt_or_ge i l.length with h' | h'
    · exact h'
    · rw [List.getElem?_eq_none h'] at h; cases h
  rw [List.drop_eq_getElem_cons hi, mIdx]; rw [List.getElem?_eq_getElem hi] at h; rw [Option.some.inj h]

set_option maxHeartbeats 1000000 in
theorem mkF_any (c a : Int) (w : World) : Calls Try.prog 28 #[.int .i64 c, .int .i64 a] w fun e w' => e = .returned (.agg #[.int .i64 c, .int .i64 a]) ∧ Below w.heap.size w w' := by
  have B := below_more (Below.refl _ w) (.cells #[.int .i64 c, .int .i64 a] 29 (0, 0))
  go_enter Try.func28, Try.ntmps28
  go_wp2_with fail; (exact bodyPost_ret (v := .agg #[.int .i64 c, .int .i64 a]) (by simp [results, Try.results28, go_sem]) rfl ⟨rfl, B⟩)

theorem walk300 (f : Fm) (h : f.size ≤ 200) : walkL f 300 = allN f := by
  (rw [walkL_take, List.take_of_length_le (by rw [allN_len]; omega)])

set_option maxHeartbeats 4000000 in
theorem plainR_any (fs : List Fm) (hl : fs.length ≤ 1000) (v : Value) (w : World) (hv : FL w v fs) :
    Calls Try.prog 37 #[v] w fun e w' => e = .returned (.agg #[.int .i64 (pfirst fs).1, .int .i64 (pfirst fs).2]) ∧ Below w.heap.size w w' := by
  obtain ⟨ad, cap, rfl, h1, h2, h3⟩ := hv; (have H3 : Hid (fs ≠ [] → ∃ b off, ad = some ⟨b, off, none⟩ ∧ Reps w (fun _ => True) b off fs) := h3); (have hlI : (fs.length : Int) ≤ 1000 := by omega); have HT : Hid (pfirst fs = pfirst (fs.drop 0)) := rfl; generalize pfirst fs = tc at *; have q0 := blk_new w (.cells #[.int .i64 0, .int .i64 0] 29 (0, 0)); have B0 := below_more (Below.refl _ w) (.cells #[.int .i64 0, .int .i64 0] 29 (0, 0)); clear h3
  go_enter Try.func37, Try.ntmps37
  go_wp2_with fail
  go_loopg [3] fs.length (fun gk c wr => ∃ i, i ≤ fs.length ∧ gk = fs.length - i ∧ c = .int .i64 (i : Nat) ∧ Below w.heap.size w wr ∧ wr.heap[w.heap.size]? = some (.cells #[.int .i64 0, .int .i64 0] 29 (0, 0)) ∧ Hid (tc = pfirst (fs.drop i)))
  case atStart => exact ⟨0, by omega, by omega, rfl, B0, q0, HT⟩
  case round =>
    obtain ⟨i, hi, hg, rfl, hbr, q1, HW⟩ := hrel; have HG : Hid (gk = fs.length - i) := hg; clear hg HT; have z1 := lt_of_block q1; by_cases hlt : i < fs.length
    · obtain ⟨⟨k2, n2, ks2⟩, hki⟩ : ∃ f, fs[i]? = some f := ⟨_, List.getElem?_eq_getElem hlt⟩
      (obtain ⟨b, off, rfl, hrs⟩ := H3.out (fun e => by rw [e] at hlt; simp at hlt)); obtain ⟨sl2, cap2, g0, g1, g2, hrep2⟩ := (hrs.up hbr).at i k2 n2 ks2 hki; (have hltI : (i : Int) < (fs.length : Int) := by omega); (have hlc : (i : Int) < (cap : Int) := by omega); have HDr := HW.out; rw [pfirst_drop hki] at HDr; (have hrf := fun v (w : World) h => rfault_any (.mk k2 n2 ks2) v w h); have zb := lt_of_cell g0; clear hki hrs H3 HW; by_cases hc : (Fm.mk k2 n2 ks2).code.1 = 0
      · obtain ⟨s, hs⟩ := code_split _ hc
        have hcz := code_zero hc; rw [hcz] at hrf; have hsz := chk_size hs; (have hwk := fun v (w : World) h => walk_any (.mk k2 n2 ks2) v 300 w (by omega) h); rw [walk300 _ hsz] at hwk
        have hpc : (Fm.mk k2 n2 ks2).pcode = if (mIdx (allN (.mk k2 n2 ks2)) 0).2 then ((4 : Int), (((mIdx (allN (.mk k2 n2 ks2)) 0).1 : Nat) : Int)) else (0, 0) := by
          unfold Fm.pcode; rw [if_pos hc, modal_idx]
        (have hnl : (allN (.mk k2 n2 ks2)).length ≤ 200 := by rw [allN_len]; exact hsz); rw [hpc] at HDr; have HD : Hid (tc = _) := HDr; have HR : Hid (∀ v w, _ → Calls Try.prog 14 #[v] w _) := hrf; have HWk : Hid (∀ v w, _ → Calls Try.prog 30 _ w _) := hwk; clear hrf hwk HDr hpc hs hsz hcz hc; generalize allN (.mk k2 n2 ks2) = nodes at *
        go_wp2_with (first
          | (go_at_call 14
             refine (HR.out _ _ hrep2).mono ?_; rintro e w2 ⟨rfl, hb2⟩; have q2 := below_keep hb2 q1; have z2 := lt_of_block q2; have e0 := (hb2.cell (p := ⟨b, off + i * 3, none⟩) zb).trans g0; have e1 := (hb2.cell (p := ⟨b, off + i * 3 + 1, none⟩) zb).trans g1; have e2 := (hb2.cell (p := ⟨b, off + i * 3 + 2, none⟩) zb).trans g2; have zb2 := lt_of_cell e0; simp only at zb2
             have B2 := below_join hbr hb2)
          | (go_at_call 30
             refine (HWk.out _ _ ((hrep2.up hb2).more _)).mono ?_; rintro e w3 ⟨x, rfl, hlo, hb3⟩; obtain ⟨g, cp, rfl, hc1, hc2, hrs⟩ := hlo.reps; (have HS : Hid (Reps w3 (fun _ => True) g 0 nodes) := hrs); have q3 := below_keep hb3 (alloc_keep q2 _); have z3 := lt_of_block q3; have B3 := below_join (below_more B2 _) hb3
             clear hlo hrs)
          | fail)
        (have hNI : (nodes.length : Int) ≤ 200 := by omega)
        go_loopg [6] nodes.length (fun gk c wz => ∃ j, j ≤ nodes.length ∧ gk = nodes.length - j ∧ c = .int .i64 (j : Nat) ∧ Below w3.heap.size w3 wz ∧ Hid (mIdx nodes 0 = mIdx (nodes.drop j) j))
        case atStart => exact ⟨0, by omega, by omega, rfl, Below.refl _ _, by show _ = _; rfl⟩
        case round =>
          obtain ⟨j, hj, hg2, rfl, hbz, HY⟩ := hrel; have HG2 : Hid (gk = nodes.length - j) := hg2; clear hg2 e0 e1 e2 g0 g1 g2; have q4 := below_keep hbz q3; have z4 := lt_of_block q4; have B4 := below_join B3 hbz; by_cases hjl : j < nodes.length
          · obtain ⟨⟨k3, n3, ks3⟩, hkj⟩ : ∃ f, nodes[j]? = some f := ⟨_, List.getElem?_eq_getElem hjl⟩
            obtain ⟨sl3, cap3, p0, p1, p2, -⟩ := (HS.out.up hbz).at j k3 n3 ks3 hkj; rw [Nat.zero_add] at p0 p1 p2; (have hjI : (j : Int) < (nodes.length : Int) := by omega); (have hjc : (j : Int) < (cp : Int) := by omega); have hY := HY.out; rw [mIdx_drop hkj] at hY; have hisM : isM (Fm.mk k3 n3 ks3).kind = (decide (k3 = 8) || decide (k3 = 9)) := rfl; rw [hisM] at hY; clear hkj HY hisM p1 p2; by_cases h8 : k3 = 8 ∨ k3 = 9
            · have hb : (decide (k3 = 8) || decide (k3 = 9)) = true := by simpa using h8
              rw [hb] at hY
              have HF : Hid (tc = (4, ((j : Nat) : Int))) := by
                show _ = _; rw [HD.out, hY]; rfl
              (have f2 := fun (w5 : World) (h : w5.heap[w.heap.size]? = some (.cells #[.int .i64 0, .int .i64 0] 29 (0, 0))) => set2 h (.int .i64 4) (.int .i64 (j : Nat))); (have HFm : Hid (∀ w, Calls Try.prog 28 #[.int .i64 4, .int .i64 (j : Nat)] w _) := fun w => mkF_any 4 (j : Nat) w); clear hY hb HD; (have h9 : k3 = 8 ∨ (¬ k3 = 8 ∧ k3 = 9) := by omega)
              rcases h9 with rfl | ⟨h8', rfl⟩
              all_goals
                go_wp2_with (first
                  | (go_at_call 28
                     refine (HFm.out _).mono ?_; rintro e w5 ⟨rfl, hb5⟩; have q5 := below_keep hb5 q4; have B5 := below_join B4 hb5
                     obtain ⟨k1, k2', k3', k4⟩ := blk2 q5)
                  | fail)
                have f3 := f2 _ q5; (have b2 := (B5.setCell (p := ⟨w.heap.size, 0, none⟩) (by simp) (.int .i64 4)).setCell (p := ⟨w.heap.size, 1, none⟩) (by simp) (.int .i64 (j : Nat))); generalize World.setCell _ _ _ = F at f3 b2 ⊢; clear k1 k2' k3' k4; obtain ⟨k1, k2', -⟩ := blk2 f3; (exact bodyPost_ret (v := .agg #[.int .i64 4, .int .i64 (j : Nat)]) (by simp [results, Try.results37, go_sem, k1, k2']) rfl ⟨by rw [HF.out], b2⟩)
            · have hb : (decide (k3 = 8) || decide (k3 = 9)) = false := by simpa using h8
              rw [hb] at hY; have HN : Hid (mIdx nodes 0 = mIdx (nodes.drop (j + 1)) (j + 1)) := hY; (have h8' : (k3 == 8) = false := by simp; omega); (have h9' : (k3 == 9) = false := by simp; omega); clear hY hb h8; go_wp2_with fail
              go_roundg (nodes.length - (j + 1))
              case measure => have := HG2.out; omega
              case rel => exact ⟨j + 1, by omega, rfl, by go_num, hbz, HN⟩
          · have HN : Hid (tc = pfirst (fs.drop (i + 1))) := by
              show _ = _; (rw [HD.out, HY.out, List.drop_of_length_le (by omega), mIdx]); rfl
            (have hge : ¬ (j : Int) < (nodes.length : Int) := by omega); clear HY HD; go_wp2_with fail
            go_roundg (fs.length - (i + 1))
            case measure => have := HG.out; omega
            case rel => exact ⟨i + 1, by omega, rfl, by go_num, B4, q4, HN⟩
      · have hpc : (Fm.mk k2 n2 ks2).pcode = (Fm.mk k2 n2 ks2).code := by unfold Fm.pcode; rw [if_neg hc]
        rw [hpc] at HDr; rw [if_neg hc] at HDr; have HD : Hid (tc = _) := HDr; generalize (Fm.mk k2 n2 ks2).code = cd at *; obtain ⟨c, a⟩ := cd; (have hne' : (c != 0) = true := by simpa using hc); have HR : Hid (∀ v w, _ → Calls Try.prog 14 #[v] w _) := hrf; clear hrf HDr hpc hc
        go_wp2_with (first
          | (go_at_call 14
             refine (HR.out _ _ hrep2).mono ?_; rintro e w2 ⟨rfl, hb2⟩; have q2 := below_keep hb2 q1; have z2 := lt_of_block q2; (have d1 : ¬ w.heap.size = w2.heap.size := by omega); (have d2 : ¬ w2.heap.size = w.heap.size := by omega); obtain ⟨k1, k2', k3', k4⟩ := blk2 q2
             have B2 := below_join hbr hb2)
          | fail)
        have f3 := set2 q2 (.int .i64 c) (.int .i64 a); (have b2 := (B2.setCell (p := ⟨w.heap.size, 0, none⟩) (by simp) (.int .i64 c)).setCell (p := ⟨w.heap.size, 1, none⟩) (by simp) (.int .i64 a)); (have hsz : ((w2.setCell ⟨w.heap.size, 0, none⟩ (.int .i64 c)).setCell ⟨w.heap.size, 1, none⟩ (.int .i64 a)).heap.size = w2.heap.size := by simp [World.setCell]); generalize World.setCell _ _ _ = F at f3 b2 hsz ⊢; clear k1 k2' k3' k4; obtain ⟨k1, k2', -⟩ := blk2 f3; (have d4 : w.heap.size < F.heap.size := by omega); (exact bodyPost_ret (v := .agg #[.int .i64 c, .int .i64 a]) (by simp [results, Try.results37, go_sem, k1, k2', d4]) rfl ⟨by rw [HD.out], b2.alloc (by omega) _⟩)
    · have HF : Hid (tc = (0, 0)) := by
        show _ = _; (rw [HW.out, List.drop_of_length_le (by omega), pfirst])
      (have hge : ¬ (i : Int) < (fs.length : Int) := by omega); have f2 := set2 q1 (.int .i64 0) (.int .i64 0); (have b2 := (hbr.setCell (p := ⟨w.heap.size, 0, none⟩) (by simp) (.int .i64 0)).setCell (p := ⟨w.heap.size, 1, none⟩) (by simp) (.int .i64 0)); obtain ⟨k1, k2, k3, k4⟩ := blk2 q1; clear HW H3; go_wp2_with fail; generalize World.setCell _ _ _ = F at f2 b2 ⊢; clear k1 k2 k3 k4; obtain ⟨k1, k2, -⟩ := blk2 f2; (exact bodyPost_ret (v := .agg #[.int .i64 0, .int .i64 0]) (by simp [results, Try.results37, go_sem, k1, k2]) rfl ⟨by rw [HF.out], b2⟩)
end Go.Proofs.Ytlmjnglcdgkomaa
