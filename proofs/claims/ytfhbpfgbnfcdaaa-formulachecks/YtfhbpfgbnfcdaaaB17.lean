/- Texts of one proof, one behind the other: Climb1. -/
import Derived.Test.YtfhbpfgbnfcdaaaB14
import Derived.Deep.DeepCutAuto
import Derived.Deep.CutBlock
/- Walks: reading by climbing, by what stands first. -/
namespace Go.Proofs.Ytfhbpfgbnfcdaaa
open Go.RowKit

theorem tok_len (l : List UInt8) : (tok l).1.length ≤ l.length + 2 := by
  unfold tok; simp only
  split
  · simp
  · split
    · rename_i k _; have := sg_len k; show (sg k).length ≤ _; omega
    · split
      · have := letters_length (skipB l); have := skipB_length l; show (letters (skipB l)).length ≤ _; omega
      · simp

set_option maxRecDepth 100000 in
set_option maxHeartbeats 16000000 in
theorem climb_step (t : ByteArray) (ht : t.size ≤ 40000) (m : Nat) (ih : Climbs t m) : Climbs t (m + 1) := by
  intro least a l w h1 h4 ha hm; (have htI : (t.size : Int) ≤ 40000 := by omega); (have h1I : (1 : Int) ≤ (least : Int) := by omega); (have h4I : (least : Int) ≤ 4 := by omega)
  go_enter Try.func50, Try.ntmps50
  go_upto_block 0 with (first
      | (go_at_call 51
         refine (token_any t ht a l ha _).mono ?_
         rintro e w1 ⟨i1, i2, rfl, hi1, hi2, hb1⟩)
      | fail)
  have qq0 : w1.heap[w.heap.size]? = some (.cells #[.int .i64 0, .string ⟨#[]⟩, .slice none 0 0] 24 (0, 0)) := below_keep hb1 (blk_new _ _); have B1 := below_join ((Below.refl _ w).alloc (Nat.le_refl _) _) hb1; (have zF : w.heap.size + 1 ≤ w1.heap.size := by have := hb1.size; simpa using this); (have dF : ¬ w.heap.size = w1.heap.size := by omega); (have dF' : ¬ w1.heap.size = w.heap.size := by omega); (have dL : w.heap.size < w1.heap.size := by omega)
  go_cut [1, 9] from 13 (fun v _ wc => (∃ (k : Int) (nm : ByteArray) (ks : List Fm) (sl : Option Addr) (cap a' : Nat) (l' : List UInt8), At t a' l' ∧ v = .int .i64 (a' : Nat) ∧ l'.length ≤ l.length ∧ Below w.heap.size w wc ∧ wc.heap[w.heap.size]? = some (.cells #[.int .i64 0, .string ⟨#[]⟩, .slice none 0 0] 24 (0, 0)) ∧ wc.heap[w1.heap.size]? = some (.cells #[.int .i64 k, .string nm, .slice sl ks.length cap] 24 (0, 0)) ∧ Rep wc (fun b => w.heap.size + 1 ≤ b ∧ b ≠ w1.heap.size) (.mk k nm ks) (.agg #[.int .i64 k, .string nm, .slice sl ks.length cap]) ∧ Hid (∀ x, LS least (.mk k nm ks) l' x → ∃ y, Ev (tgt least · l) y ∧ eqv y x)))
  case first =>
    rcases t126 : takeS [126] l with _ | q
    · rcases t91 : takeS [91, 93] l with _ | q
      · rcases t60 : takeS [60, 62] l with _ | q
        · rcases t40 : takeS [40] l with _ | q
          · rcases t49 : takeS [49] l with _ | q
            · rcases t48 : takeS [48] l with _ | q
              · rcases hnm : isNm (letters (skipB l)) with _ | _
                · have hno := tok_other hnm
                  have hev : Ev (mNot · l) (.bad (skipB l)) := by
                    have := ev_not7 t126 t91 t60 t40 t49 t48
                    rwa [mName_bad hnm] at this
                  (have n1 := tok_ne (k := 3) (by omega) t126); (have n2 := tok_ne (k := 1) (by omega) t91); (have n3 := tok_ne (k := 2) (by omega) t60); (have n4 := tok_ne (k := 6) (by omega) t40); (have n5 := tok_ne (k := 8) (by omega) t49); (have n6 := tok_ne (k := 9) (by omega) t48); simp only [sg, List.getD_cons_zero, List.getD_cons_succ] at n1 n2 n3 n4 n5 n6; rw [tok_at] at hi1; have htl : (tok l).1.length ≤ l.length + 2 := tok_len l; have hal := ha.len
                  have hin := refName_any ⟨(tok l).1.toArray⟩ (by
                    have : (⟨(tok l).1.toArray⟩ : ByteArray).size = (tok l).1.length := rfl
                    unfold maxLen; omega)
                  rw [show (⟨(tok l).1.toArray⟩ : ByteArray).data.toList = (tok l).1 from rfl, hno] at hin; have HEV : Hid (Ev (tgt least · l) (.bad (skipB l))) := ls_bad h1 h4 hev; have q4 := alloc_keep qq0 (.cells #[.int .i64 0, .string ⟨#[]⟩, .slice none 0 0] 24 (0, 0)); have B5 := below_more B1 (.cells #[.int .i64 0, .string ⟨#[]⟩, .slice none 0 0] 24 (0, 0)); obtain ⟨k1, k2, k3, k4, k5, k6⟩ := blk3 qq0; clear hev t126 t91 t60 t40 t49 t48 hnm hno htl hi2; generalize (tok l).1 = lt at *
                  go_wp2_with (first
                    | (go_at_call 27; refine (hin _).mono ?_; rintro e w4 ⟨rfl, rfl⟩)
                    | fail)
                  have f2 := set3 qq0 (.int .i64 0) (.string ⟨#[]⟩) (.slice none 0 0); (have b2 := ((B1.setCell (p := ⟨w.heap.size, 0, none⟩) (by simp) (.int .i64 0)).setCell (p := ⟨w.heap.size, 1, none⟩) (by simp) (.string ⟨#[]⟩)).setCell (p := ⟨w.heap.size, 2, none⟩) (by simp) (.slice none 0 0)); (have hsz : (((w1.setCell ⟨w.heap.size, 0, none⟩ (.int .i64 0)).setCell ⟨w.heap.size, 1, none⟩ (.string ⟨#[]⟩)).setCell ⟨w.heap.size, 2, none⟩ (.slice none 0 0)).heap.size = w1.heap.size := by simp [World.setCell]); generalize World.setCell _ _ _ = Y at f2 b2 hsz ⊢; clear k1 k2 k3 k4 k5 k6; obtain ⟨k1, k2, k3, -⟩ := blk3 f2; (have dz : w.heap.size < Y.heap.size := by omega); (exact bodyPost_ret (v := .tuple #[.agg #[.int .i64 0, .string ⟨#[]⟩, .slice none 0 0], .int .i64 0, .int .i64 i1]) (by simp [results, Try.results50, go_sem, k1, k2, k3, dz]) rfl ⟨b2.alloc (by omega) _, Or.inr ⟨_, .mk 0 e0 [], _, i1, HEV.out, rfl, hi1, Rep.leaf (by decide)⟩⟩)
                · have HTK := tok_name hnm
                  have hev : Ev (mNot · l) (.ok (nmF (letters (skipB l))) ((skipB l).drop (letters (skipB l)).length)) := by
                    have := ev_not7 t126 t91 t60 t40 t49 t48
                    rwa [mName_ok hnm] at this
                  (have n1 := tok_ne (k := 3) (by omega) t126); (have n2 := tok_ne (k := 1) (by omega) t91); (have n3 := tok_ne (k := 2) (by omega) t60); (have n4 := tok_ne (k := 6) (by omega) t40); (have n5 := tok_ne (k := 8) (by omega) t49); (have n6 := tok_ne (k := 9) (by omega) t48); have hsl := skipB_length l; have hlb := isNm_bd hnm
                  have hin := refName_any ⟨(letters (skipB l)).toArray⟩ (by
                    have : (⟨(letters (skipB l)).toArray⟩ : ByteArray).size = (letters (skipB l)).length := rfl
                    unfold maxLen; omega)
                  rw [show (⟨(letters (skipB l)).toArray⟩ : ByteArray).data.toList = letters (skipB l) from rfl, hnm] at hin; rw [HTK] at hi1 hi2 n1 n2 n3 n4 n5 n6 ⊢; (have HEV : Hid (∀ x, LS least (nmF (letters (skipB l))) ((skipB l).drop (letters (skipB l)).length) x → ∃ y, Ev (tgt least · l) y ∧ eqv y x) := fun x hx => ls_start h1 h4 hev rfl hx)
                  have HSZ : Hid ((⟨(letters (skipB l)).toArray⟩ : ByteArray).size ≤ maxLen) := by
                    have : (⟨(letters (skipB l)).toArray⟩ : ByteArray).size = (letters (skipB l)).length := rfl; show _ ≤ _; unfold maxLen; omega
                  (have HLN : Hid (((skipB l).drop (letters (skipB l)).length).length ≤ l.length) := by show _ ≤ _; rw [List.length_drop]; omega); simp only [sg, List.getD_cons_zero, List.getD_cons_succ] at n1 n2 n3 n4 n5 n6; clear HTK hev t126 t91 t60 t40 t49 t48 hnm hlb; generalize (skipB l).drop (letters (skipB l)).length = qn at *; unfold nmF at HEV; generalize letters (skipB l) = lt at *
                  go_wp2_with (first
                    | (go_at_call 27; refine (hin _).mono ?_; rintro e w4 ⟨rfl, rfl⟩)
                    | fail)
                  go_meet
                  case rel => exact ⟨1, ⟨lt.toArray⟩, [], none, 0, i2, qn, hi2, rfl, HLN.out, below_more B1 _, alloc_keep qq0 _, blk_new _ _, Rep.leaf HSZ.out, HEV⟩
              · have HTK : tok l = ([48], skipB l, q) := tok_sign (k := 9) (by omega) t48
                have hev : Ev (mNot · l) (.ok (.mk 3 e0 []) q) := ev_not6 t126 t91 t60 t40 t49  t48; (have HEV : Hid (∀ x, LS least (.mk 3 e0 []) q x → ∃ y, Ev (tgt least · l) y ∧ eqv y x) := fun x hx => ls_start h1 h4 hev rfl hx); have hql := takeS_len t48; simp at hql; rw [HTK] at hi1 hi2 ⊢; clear HTK hev t48 t126 t91 t60 t40 t49; go_wp2_with fail; go_meet
                case rel => exact ⟨3, e0, [], none, 0, i2, q, hi2, rfl, by omega, below_more B1 _, alloc_keep qq0 _, blk_new _ _, Rep.leaf (by decide), HEV⟩
            · have HTK : tok l = ([49], skipB l, q) := tok_sign (k := 8) (by omega) t49
              have hev : Ev (mNot · l) (.ok (.mk 2 e0 []) q) := ev_not5 t126 t91 t60 t40  t49; (have HEV : Hid (∀ x, LS least (.mk 2 e0 []) q x → ∃ y, Ev (tgt least · l) y ∧ eqv y x) := fun x hx => ls_start h1 h4 hev rfl hx); have hql := takeS_len t49; simp at hql; rw [HTK] at hi1 hi2 ⊢; clear HTK hev t49 t126 t91 t60 t40; go_wp2_with fail; go_meet
              case rel => exact ⟨2, e0, [], none, 0, i2, q, hi2, rfl, by omega, below_more B1 _, alloc_keep qq0 _, blk_new _ _, Rep.leaf (by decide), HEV⟩
          · have HTK : tok l = ([40], skipB l, q) := tok_sign (k := 6) (by omega) t40
            (have HOK : Hid (∀ g r, Ev (mThen · q) (.ok g r) → Ev (mNot · l) (Res.ok g r).shut) := fun g r h => ev_not4 t126 t91 t60 t40 h); (have HBAD : Hid (∀ r, Ev (mThen · q) (.bad r) → Ev (mNot · l) (.bad r)) := fun r h => ev_not4 t126 t91 t60 t40 h); have hql := takeS_len t40; simp at hql; rw [HTK] at hi1 hi2 ⊢; (have HIH : Hid (∀ w, Calls Try.prog 50 #[.string t, .int .i64 i2, .int .i64 ((1 : Nat) : Int)] w (CPost 1 t q w)) := fun w => ih 1 i2 q w (by omega) (by omega) hi2 (by omega)); clear HTK t126 t91 t60 t40
            go_wp2_with (first
              | (go_at_call 50
                 refine (HIH.out _).mono ?_; rintro e w5 ⟨hb5, ⟨⟨kg, ng, ksg⟩, rg, vg, a5, r5, hev5, rfl, hrep5, ha5, hs5, hl5⟩ | ⟨rg, ⟨kg, ng, ksg⟩, vg, a5, hev5, rfl, ha5, hrep5⟩⟩
                 all_goals (
                   obtain ⟨slg, capg, rfl⟩ := slice_shape hrep5; have q4 := below_keep hb5 (alloc_keep qq0 _); have q5 := below_keep hb5 (blk_new _ _); have B5 := below_join (below_more B1 _) hb5; have z5 := lt_of_block q4; have z6 := lt_of_block q5; have z7 := hb5.size; simp at z7; obtain ⟨k1, k2, k3, k4, k5, k6⟩ := blk3 q4
                   obtain ⟨g1, g2, g3, g4, g5, g6⟩ := blk3 q5)
                 case' inl => rcases t41 : takeS [41] r5 with _ | q2)
              | (go_at_call 51
                 refine (token_any t ht a5 r5 ha5 _).mono ?_; rintro e w6 ⟨j1, j2, rfl, hj1, hj2, hb6⟩; have q6 := below_keep hb6 (alloc_keep q4 _); have q7 := below_keep hb6 (alloc_keep q5 _); have q8 := below_keep hb6 (blk_new _ _); have B6 := below_join (below_more B5 _) hb6; have z8 := lt_of_block q6; have z9 := lt_of_block q7; have z10 := hb6.size; simp at z10; clear k1 k2 k3 k4 k5 k6 g1 g2 g3 g4 g5 g6; obtain ⟨k1, k2, k3, k4, k5, k6⟩ := blk3 q6; obtain ⟨g1, g2, g3, g4, g5, g6⟩ := blk3 q7; obtain ⟨p1, p2, p3, p4, p5, p6⟩ := blk3 q8
                 have hne41 : ((tok r5).1 == [41]) = false := tok_ne (k := 7) (by omega) t41)
              | (go_at_call 51
                 refine (token_any t ht a5 r5 ha5 _).mono ?_; rintro e w6 ⟨j1, j2, rfl, hj1, hj2, hb6⟩; (have HT2 : tok r5 = ([41], skipB r5, q2) := tok_sign (k := 7) (by omega) t41); rw [HT2] at hj1 hj2; simp only [HT2]; have q6 := below_keep hb6 (alloc_keep q4 _); have q7 := below_keep hb6 (alloc_keep q5 _); have q8 := below_keep hb6 (blk_new _ _); have B6 := below_join (below_more B5 _) hb6; have z8 := lt_of_block q6; have z9 := lt_of_block q7; have z10 := hb6.size; simp at z10; clear k1 k2 k3 k4 k5 k6 g1 g2 g3 g4 g5 g6 HT2; obtain ⟨k1, k2, k3, k4, k5, k6⟩ := blk3 q6; obtain ⟨g1, g2, g3, g4, g5, g6⟩ := blk3 q7
                 obtain ⟨p1, p2, p3, p4, p5, p6⟩ := blk3 q8)
              | fail)
            · -- no bracket closes it
              rw [tok_at] at hj1
              have hevb : Ev (mNot · l) (.bad (skipB r5)) := by
                have := HOK.out _ rg hev5; rw [Res.shut, ← takeS_congr hs5, t41] at this; rw [hs5]; exact this
              have B5 := B6; have q4 := q6; have f2 := set3 q4 (.int .i64 0) (.string ⟨#[]⟩) (.slice none 0 0); (have b2 := ((B5.setCell (p := ⟨w.heap.size, 0, none⟩) (by simp) (.int .i64 0)).setCell (p := ⟨w.heap.size, 1, none⟩) (by simp) (.string ⟨#[]⟩)).setCell (p := ⟨w.heap.size, 2, none⟩) (by simp) (.slice none 0 0)); (have hsz : (((w6.setCell ⟨w.heap.size, 0, none⟩ (.int .i64 0)).setCell ⟨w.heap.size, 1, none⟩ (.string ⟨#[]⟩)).setCell ⟨w.heap.size, 2, none⟩ (.slice none 0 0)).heap.size = w6.heap.size := by simp [World.setCell]); generalize World.setCell _ _ _ = Y at f2 b2 hsz ⊢; clear k1 k2 k3 k4 k5 k6 g1 g2 g3 g4 g5 g6; obtain ⟨k1, k2, k3, -⟩ := blk3 f2; (exact bodyPost_ret (v := .tuple #[.agg #[.int .i64 0, .string ⟨#[]⟩, .slice none 0 0], .int .i64 0, .int .i64 j1]) (by simp [results, Try.results50, go_sem, k1, k2, k3]) rfl ⟨b2, Or.inr ⟨_, .mk 0 e0 [], _, j1, ls_bad h1 h4 hevb, rfl, hj1, Rep.leaf (by decide)⟩⟩)
            · go_meet
              case rel =>
                have hevo : Ev (mNot · l) (.ok (.mk kg ng ksg) q2) := by
                  have := HOK.out _ rg hev5
                  rwa [Res.shut, ← takeS_congr hs5, t41] at this
                have h41 := takeS_len t41; simp at h41; (refine ⟨kg, ng, ksg, slg, capg, j2, q2, hj2, rfl, by omega, ?_, ?_, ?_, ?_, fun x hx => ls_start h1 h4 hevo rfl hx⟩)
                · exact ((B6.setCell (by simp; omega) _).setCell (by simp; omega) _).setCell (by simp; omega) _
                · rw [Below.heap_setCell _ _ _ _ dF, Below.heap_setCell _ _ _ _ dF, Below.heap_setCell _ _ _ _ dF]; exact q6
                · exact set3 q7 _ _ _
                · refine hrep5.move fun b hb1 hb2 => ⟨?_, ?_⟩
                  · simp at hb2
                    (rw [Below.heap_setCell _ _ _ _ (by simp; omega), Below.heap_setCell _ _ _ _ (by simp; omega), Below.heap_setCell _ _ _ _ (by simp; omega), hb6.block b (by simp; omega), Below.heap_alloc _ _ _ hb1])
                  · simp at hb2
                    (exact ⟨by omega, by omega⟩)
            · have f2 := set3 q4 (.int .i64 0) (.string ⟨#[]⟩) (.slice none 0 0)
              (have b2 := ((B5.setCell (p := ⟨w.heap.size, 0, none⟩) (by simp) (.int .i64 0)).setCell (p := ⟨w.heap.size, 1, none⟩) (by simp) (.string ⟨#[]⟩)).setCell (p := ⟨w.heap.size, 2, none⟩) (by simp) (.slice none 0 0)); (have hsz : (((w5.setCell ⟨w.heap.size, 0, none⟩ (.int .i64 0)).setCell ⟨w.heap.size, 1, none⟩ (.string ⟨#[]⟩)).setCell ⟨w.heap.size, 2, none⟩ (.slice none 0 0)).heap.size = w5.heap.size := by simp [World.setCell]); generalize World.setCell _ _ _ = Y at f2 b2 hsz ⊢; clear k1 k2 k3 k4 k5 k6 g1 g2 g3 g4 g5 g6; obtain ⟨k1, k2, k3, -⟩ := blk3 f2; (have dz : w.heap.size < Y.heap.size := by omega); (exact bodyPost_ret (v := .tuple #[.agg #[.int .i64 0, .string ⟨#[]⟩, .slice none 0 0], .int .i64 0, .int .i64 a5]) (by simp [results, Try.results50, go_sem, k1, k2, k3, dz]) rfl ⟨b2.alloc (by omega) _, Or.inr ⟨_, .mk 0 e0 [], _, a5, ls_bad h1 h4 (HBAD.out rg hev5), rfl, ha5, Rep.leaf (by decide)⟩⟩)
        · have HTK : tok l = ([60, 62], skipB l, q) := tok_sign (k := 2) (by omega) t60
          (have HOK : Hid (∀ g r, Ev (mNot · q) (.ok g r) → Ev (mNot · l) (.ok (.mk 9 e0 [g]) r)) := fun g r h => ev_not3 t126 t91  t60 h); (have HBAD : Hid (∀ r, Ev (mNot · q) (.bad r) → Ev (mNot · l) (.bad r)) := fun r h => ev_not3 t126 t91  t60 h); have hql := takeS_len t60; simp at hql; rw [HTK] at hi1 hi2 ⊢; (have HIH : Hid (∀ w, Calls Try.prog 50 #[.string t, .int .i64 i2, .int .i64 ((4 : Nat) : Int)] w (CPost 4 t q w)) := fun w => ih 4 i2 q w (by omega) (by omega) hi2 (by omega)); clear HTK t60 t126 t91
          go_wp2_with (first
            | (go_at_call 50
               refine (HIH.out _).mono ?_; rintro e w5 ⟨hb5, ⟨⟨kg, ng, ksg⟩, rg, vg, a5, r5, hev5, rfl, hrep5, ha5, hs5, hl5⟩ | ⟨rg, ⟨kg, ng, ksg⟩, vg, a5, hev5, rfl, ha5, hrep5⟩⟩
               all_goals (
                 obtain ⟨slg, capg, rfl⟩ := slice_shape hrep5; have q4 := below_keep hb5 (alloc_keep qq0 _); have q5 := below_keep hb5 (blk_new _ _); have B5 := below_join (below_more B1 _) hb5; have z5 := lt_of_block q4; have z6 := lt_of_block q5; have z7 := hb5.size; simp at z7; obtain ⟨k1, k2, k3, k4, k5, k6⟩ := blk3 q4
                 obtain ⟨g1, g2, g3, g4, g5, g6⟩ := blk3 q5))
            | fail)
          · have hsY : (((w5.setCell ⟨w1.heap.size, 0, none⟩ (.int .i64 9)).setCell ⟨w1.heap.size, 1, none⟩ (.string ⟨#[]⟩)).setCell ⟨w1.heap.size, 2, none⟩ (.slice (some ⟨w5.heap.size + 1, 0, none⟩) 1 1)).heap.size = w5.heap.size := by simp [World.setCell]
            go_meet
            case rel =>
              (refine ⟨9, e0, [.mk kg ng ksg], some ⟨w5.heap.size + 1, 0, none⟩, 1, a5, r5, ha5, rfl, by omega, ?_, ?_, ?_, ?_, fun x hx => ls_start h1 h4 (HOK.out _ rg hev5) hs5 hx⟩)
              · exact (((B5.setCell (by simp; omega) _).setCell (by simp; omega) _).setCell (by simp; omega) _).alloc (by omega) _ |>.alloc (by simp [World.setCell]; omega) _
              · rw [Below.heap_alloc _ _ _ (by simp [World.setCell]; omega), Below.heap_alloc _ _ _ (by omega), Below.heap_setCell _ _ _ _ dF, Below.heap_setCell _ _ _ _ dF, Below.heap_setCell _ _ _ _ dF]; exact q4
              · rw [Below.heap_alloc _ _ _ (by simp [World.setCell]; omega), Below.heap_alloc _ _ _ (by omega)]; exact set3 q5 _ _ _
              · refine Rep.one (T := 24) (c0 := .int .i64 kg) (c1 := .string ng) (c2 := .slice slg ksg.length capg) ?_ ⟨by omega, by omega⟩ ?_
                · have := blk_new ((((w5.setCell ⟨w1.heap.size, 0, none⟩ (.int .i64 9)).setCell ⟨w1.heap.size, 1, none⟩ (.string ⟨#[]⟩)).setCell ⟨w1.heap.size, 2, none⟩ (.slice (some ⟨w5.heap.size + 1, 0, none⟩) 1 1)).alloc (.cells #[.int .i64 kg, .string ng, .slice slg ksg.length capg] 24 (0, 0))) (.cells #[.int .i64 kg, .string ng, .slice slg ksg.length capg] 24 (0, 0))
                  simpa [hsY] using this
                · refine hrep5.move fun b hb1 hb2 => ⟨?_, ?_⟩
                  · simp at hb2
                    (rw [Below.heap_alloc _ _ _ (by simp [World.setCell]; omega), Below.heap_alloc _ _ _ (by omega), Below.heap_setCell _ _ _ _ (by simp; omega), Below.heap_setCell _ _ _ _ (by simp; omega), Below.heap_setCell _ _ _ _ (by simp; omega)])
                  · simp at hb2
                    (exact ⟨by omega, by omega⟩)
          · have f2 := set3 q4 (.int .i64 0) (.string ⟨#[]⟩) (.slice none 0 0)
            (have b2 := ((B5.setCell (p := ⟨w.heap.size, 0, none⟩) (by simp) (.int .i64 0)).setCell (p := ⟨w.heap.size, 1, none⟩) (by simp) (.string ⟨#[]⟩)).setCell (p := ⟨w.heap.size, 2, none⟩) (by simp) (.slice none 0 0)); (have hsz : (((w5.setCell ⟨w.heap.size, 0, none⟩ (.int .i64 0)).setCell ⟨w.heap.size, 1, none⟩ (.string ⟨#[]⟩)).setCell ⟨w.heap.size, 2, none⟩ (.slice none 0 0)).heap.size = w5.heap.size := by simp [World.setCell]); generalize World.setCell _ _ _ = Y at f2 b2 hsz ⊢; clear k1 k2 k3 k4 k5 k6 g1 g2 g3 g4 g5 g6; obtain ⟨k1, k2, k3, -⟩ := blk3 f2; (have dz : w.heap.size < Y.heap.size := by omega); (exact bodyPost_ret (v := .tuple #[.agg #[.int .i64 0, .string ⟨#[]⟩, .slice none 0 0], .int .i64 0, .int .i64 a5]) (by simp [results, Try.results50, go_sem, k1, k2, k3, dz]) rfl ⟨b2.alloc (by omega) _, Or.inr ⟨_, .mk 0 e0 [], _, a5, ls_bad h1 h4 (HBAD.out rg hev5), rfl, ha5, Rep.leaf (by decide)⟩⟩)
      · have HTK : tok l = ([91, 93], skipB l, q) := tok_sign (k := 1) (by omega) t91
        (have HOK : Hid (∀ g r, Ev (mNot · q) (.ok g r) → Ev (mNot · l) (.ok (.mk 8 e0 [g]) r)) := fun g r h => ev_not2 t126  t91 h); (have HBAD : Hid (∀ r, Ev (mNot · q) (.bad r) → Ev (mNot · l) (.bad r)) := fun r h => ev_not2 t126  t91 h); have hql := takeS_len t91; simp at hql; rw [HTK] at hi1 hi2 ⊢; (have HIH : Hid (∀ w, Calls Try.prog 50 #[.string t, .int .i64 i2, .int .i64 ((4 : Nat) : Int)] w (CPost 4 t q w)) := fun w => ih 4 i2 q w (by omega) (by omega) hi2 (by omega)); clear HTK t91 t126
        go_wp2_with (first
          | (go_at_call 50
             refine (HIH.out _).mono ?_; rintro e w5 ⟨hb5, ⟨⟨kg, ng, ksg⟩, rg, vg, a5, r5, hev5, rfl, hrep5, ha5, hs5, hl5⟩ | ⟨rg, ⟨kg, ng, ksg⟩, vg, a5, hev5, rfl, ha5, hrep5⟩⟩
             all_goals (
               obtain ⟨slg, capg, rfl⟩ := slice_shape hrep5; have q4 := below_keep hb5 (alloc_keep qq0 _); have q5 := below_keep hb5 (blk_new _ _); have B5 := below_join (below_more B1 _) hb5; have z5 := lt_of_block q4; have z6 := lt_of_block q5; have z7 := hb5.size; simp at z7; obtain ⟨k1, k2, k3, k4, k5, k6⟩ := blk3 q4
               obtain ⟨g1, g2, g3, g4, g5, g6⟩ := blk3 q5))
          | fail)
        · have hsY : (((w5.setCell ⟨w1.heap.size, 0, none⟩ (.int .i64 8)).setCell ⟨w1.heap.size, 1, none⟩ (.string ⟨#[]⟩)).setCell ⟨w1.heap.size, 2, none⟩ (.slice (some ⟨w5.heap.size + 1, 0, none⟩) 1 1)).heap.size = w5.heap.size := by simp [World.setCell]
          go_meet
          case rel =>
            (refine ⟨8, e0, [.mk kg ng ksg], some ⟨w5.heap.size + 1, 0, none⟩, 1, a5, r5, ha5, rfl, by omega, ?_, ?_, ?_, ?_, fun x hx => ls_start h1 h4 (HOK.out _ rg hev5) hs5 hx⟩)
            · exact (((B5.setCell (by simp; omega) _).setCell (by simp; omega) _).setCell (by simp; omega) _).alloc (by omega) _ |>.alloc (by simp [World.setCell]; omega) _
            · rw [Below.heap_alloc _ _ _ (by simp [World.setCell]; omega), Below.heap_alloc _ _ _ (by omega), Below.heap_setCell _ _ _ _ dF, Below.heap_setCell _ _ _ _ dF, Below.heap_setCell _ _ _ _ dF]; exact q4
            · rw [Below.heap_alloc _ _ _ (by simp [World.setCell]; omega), Below.heap_alloc _ _ _ (by omega)]; exact set3 q5 _ _ _
            · refine Rep.one (T := 24) (c0 := .int .i64 kg) (c1 := .string ng) (c2 := .slice slg ksg.length capg) ?_ ⟨by omega, by omega⟩ ?_
              · have := blk_new ((((w5.setCell ⟨w1.heap.size, 0, none⟩ (.int .i64 8)).setCell ⟨w1.heap.size, 1, none⟩ (.string ⟨#[]⟩)).setCell ⟨w1.heap.size, 2, none⟩ (.slice (some ⟨w5.heap.size + 1, 0, none⟩) 1 1)).alloc (.cells #[.int .i64 kg, .string ng, .slice slg ksg.length capg] 24 (0, 0))) (.cells #[.int .i64 kg, .string ng, .slice slg ksg.length capg] 24 (0, 0))
                simpa [hsY] using this
              · refine hrep5.move fun b hb1 hb2 => ⟨?_, ?_⟩
                · simp at hb2
                  (rw [Below.heap_alloc _ _ _ (by simp [World.setCell]; omega), Below.heap_alloc _ _ _ (by omega), Below.heap_setCell _ _ _ _ (by simp; omega), Below.heap_setCell _ _ _ _ (by simp; omega), Below.heap_setCell _ _ _ _ (by simp; omega)])
                · simp at hb2
                  (exact ⟨by omega, by omega⟩)
        · have f2 := set3 q4 (.int .i64 0) (.string ⟨#[]⟩) (.slice none 0 0)
          (have b2 := ((B5.setCell (p := ⟨w.heap.size, 0, none⟩) (by simp) (.int .i64 0)).setCell (p := ⟨w.heap.size, 1, none⟩) (by simp) (.string ⟨#[]⟩)).setCell (p := ⟨w.heap.size, 2, none⟩) (by simp) (.slice none 0 0)); (have hsz : (((w5.setCell ⟨w.heap.size, 0, none⟩ (.int .i64 0)).setCell ⟨w.heap.size, 1, none⟩ (.string ⟨#[]⟩)).setCell ⟨w.heap.size, 2, none⟩ (.slice none 0 0)).heap.size = w5.heap.size := by simp [World.setCell]); generalize World.setCell _ _ _ = Y at f2 b2 hsz ⊢; clear k1 k2 k3 k4 k5 k6 g1 g2 g3 g4 g5 g6; obtain ⟨k1, k2, k3, -⟩ := blk3 f2; (have dz : w.heap.size < Y.heap.size := by omega); (exact bodyPost_ret (v := .tuple #[.agg #[.int .i64 0, .string ⟨#[]⟩, .slice none 0 0], .int .i64 0, .int .i64 a5]) (by simp [results, Try.results50, go_sem, k1, k2, k3, dz]) rfl ⟨b2.alloc (by omega) _, Or.inr ⟨_, .mk 0 e0 [], _, a5, ls_bad h1 h4 (HBAD.out rg hev5), rfl, ha5, Rep.leaf (by decide)⟩⟩)
    · have HTK : tok l = ([126], skipB l, q) := tok_sign (k := 3) (by omega) t126
      (have HOK : Hid (∀ g r, Ev (mNot · q) (.ok g r) → Ev (mNot · l) (.ok (.mk 4 e0 [g]) r)) := fun g r h => ev_not1  t126 h); (have HBAD : Hid (∀ r, Ev (mNot · q) (.bad r) → Ev (mNot · l) (.bad r)) := fun r h => ev_not1  t126 h); have hql := takeS_len t126; simp at hql; rw [HTK] at hi1 hi2 ⊢; (have HIH : Hid (∀ w, Calls Try.prog 50 #[.string t, .int .i64 i2, .int .i64 ((4 : Nat) : Int)] w (CPost 4 t q w)) := fun w => ih 4 i2 q w (by omega) (by omega) hi2 (by omega)); clear HTK t126
      go_wp2_with (first
        | (go_at_call 50
           refine (HIH.out _).mono ?_; rintro e w5 ⟨hb5, ⟨⟨kg, ng, ksg⟩, rg, vg, a5, r5, hev5, rfl, hrep5, ha5, hs5, hl5⟩ | ⟨rg, ⟨kg, ng, ksg⟩, vg, a5, hev5, rfl, ha5, hrep5⟩⟩
           all_goals (
             obtain ⟨slg, capg, rfl⟩ := slice_shape hrep5; have q4 := below_keep hb5 (alloc_keep qq0 _); have q5 := below_keep hb5 (blk_new _ _); have B5 := below_join (below_more B1 _) hb5; have z5 := lt_of_block q4; have z6 := lt_of_block q5; have z7 := hb5.size; simp at z7; obtain ⟨k1, k2, k3, k4, k5, k6⟩ := blk3 q4
             obtain ⟨g1, g2, g3, g4, g5, g6⟩ := blk3 q5))
        | fail)
      · have hsY : (((w5.setCell ⟨w1.heap.size, 0, none⟩ (.int .i64 4)).setCell ⟨w1.heap.size, 1, none⟩ (.string ⟨#[]⟩)).setCell ⟨w1.heap.size, 2, none⟩ (.slice (some ⟨w5.heap.size + 1, 0, none⟩) 1 1)).heap.size = w5.heap.size := by simp [World.setCell]
        go_meet
        case rel =>
          (refine ⟨4, e0, [.mk kg ng ksg], some ⟨w5.heap.size + 1, 0, none⟩, 1, a5, r5, ha5, rfl, by omega, ?_, ?_, ?_, ?_, fun x hx => ls_start h1 h4 (HOK.out _ rg hev5) hs5 hx⟩)
          · exact (((B5.setCell (by simp; omega) _).setCell (by simp; omega) _).setCell (by simp; omega) _).alloc (by omega) _ |>.alloc (by simp [World.setCell]; omega) _
          · rw [Below.heap_alloc _ _ _ (by simp [World.setCell]; omega), Below.heap_alloc _ _ _ (by omega), Below.heap_setCell _ _ _ _ dF, Below.heap_setCell _ _ _ _ dF, Below.heap_setCell _ _ _ _ dF]; exact q4
          · rw [Below.heap_alloc _ _ _ (by simp [World.setCell]; omega), Below.heap_alloc _ _ _ (by omega)]; exact set3 q5 _ _ _
          · refine Rep.one (T := 24) (c0 := .int .i64 kg) (c1 := .string ng) (c2 := .slice slg ksg.length capg) ?_ ⟨by omega, by omega⟩ ?_
            · have := blk_new ((((w5.setCell ⟨w1.heap.size, 0, none⟩ (.int .i64 4)).setCell ⟨w1.heap.size, 1, none⟩ (.string ⟨#[]⟩)).setCell ⟨w1.heap.size, 2, none⟩ (.slice (some ⟨w5.heap.size + 1, 0, none⟩) 1 1)).alloc (.cells #[.int .i64 kg, .string ng, .slice slg ksg.length capg] 24 (0, 0))) (.cells #[.int .i64 kg, .string ng, .slice slg ksg.length capg] 24 (0, 0))
              simpa [hsY] using this
            · refine hrep5.move fun b hb1 hb2 => ⟨?_, ?_⟩
              · simp at hb2
                (rw [Below.heap_alloc _ _ _ (by simp [World.setCell]; omega), Below.heap_alloc _ _ _ (by omega), Below.heap_setCell _ _ _ _ (by simp; omega), Below.heap_setCell _ _ _ _ (by simp; omega), Below.heap_setCell _ _ _ _ (by simp; omega)])
              · simp at hb2
                (exact ⟨by omega, by omega⟩)
      · have f2 := set3 q4 (.int .i64 0) (.string ⟨#[]⟩) (.slice none 0 0)
        (have b2 := ((B5.setCell (p := ⟨w.heap.size, 0, none⟩) (by simp) (.int .i64 0)).setCell (p := ⟨w.heap.size, 1, none⟩) (by simp) (.string ⟨#[]⟩)).setCell (p := ⟨w.heap.size, 2, none⟩) (by simp) (.slice none 0 0)); (have hsz : (((w5.setCell ⟨w.heap.size, 0, none⟩ (.int .i64 0)).setCell ⟨w.heap.size, 1, none⟩ (.string ⟨#[]⟩)).setCell ⟨w.heap.size, 2, none⟩ (.slice none 0 0)).heap.size = w5.heap.size := by simp [World.setCell]); generalize World.setCell _ _ _ = Y at f2 b2 hsz ⊢; clear k1 k2 k3 k4 k5 k6 g1 g2 g3 g4 g5 g6; obtain ⟨k1, k2, k3, -⟩ := blk3 f2; (have dz : w.heap.size < Y.heap.size := by omega); (exact bodyPost_ret (v := .tuple #[.agg #[.int .i64 0, .string ⟨#[]⟩, .slice none 0 0], .int .i64 0, .int .i64 a5]) (by simp [results, Try.results50, go_sem, k1, k2, k3, dz]) rfl ⟨b2.alloc (by omega) _, Or.inr ⟨_, .mk 0 e0 [], _, a5, ls_bad h1 h4 (HBAD.out rg hev5), rfl, ha5, Rep.leaf (by decide)⟩⟩)
  case rest =>
    obtain ⟨kA, nA, ksA, slA, capA, aA, lA, haA, rfl, hlA, hbA, qA0, qA1, hrepA, HCA⟩ := hcut; clear qq0 B1 hi1 hi2 ha; go_wp2_with fail

    go_loopg [1] lA.length (fun g v wr => ∃ (k : Int) (nm : ByteArray) (ks : List Fm) (sl : Option Addr) (cap a' : Nat) (l' : List UInt8), l'.length = g ∧ At t a' l' ∧ v = .int .i64 (a' : Nat) ∧ l'.length ≤ l.length ∧ Below w.heap.size w wr ∧ wr.heap[w.heap.size]? = some (.cells #[.int .i64 0, .string ⟨#[]⟩, .slice none 0 0] 24 (0, 0)) ∧ wr.heap[w1.heap.size]? = some (.cells #[.int .i64 k, .string nm, .slice sl ks.length cap] 24 (0, 0)) ∧ Rep wr (fun b => w.heap.size + 1 ≤ b ∧ b ≠ w1.heap.size) (.mk k nm ks) (.agg #[.int .i64 k, .string nm, .slice sl ks.length cap]) ∧ Hid (∀ x, LS least (.mk k nm ks) l' x → ∃ y, Ev (tgt least · l) y ∧ eqv y x))
    case atStart => exact ⟨kA, nA, ksA, slA, capA, aA, lA, rfl, haA, rfl, hlA, hbA, qA0, qA1, hrepA, HCA⟩
    case round =>
      clear hrepA HCA haA qA0 qA1 hbA hlA; obtain ⟨k, nm, ks, sl, cap, a', l', hg, ha', rfl, hll, hbr, q0, q1, hrep, HC⟩ := hrel; have HG : Hid (l'.length = gk) := hg; clear hg; have z0 := lt_of_block q0; have z1 := lt_of_block q1; have zw := hbr.size; have HA : Hid (At t a' l') := ha'; clear ha'
      rcases t1 : takeS [38] l' with _ | q
      · rcases t2 : takeS [124] l' with _ | q
        · rcases t3 : takeS [45, 62] l' with _ | q
          · -- no sign of these: it ends
            (have HE : Hid (∃ y, Ev (tgt least · l) y ∧ eqv y (.ok (.mk k nm ks) (skipB l'))) := HC.out _ (ls_end h1 h4 (fun _ => t1) (fun _ => t2) (fun _ => t3))); have hrk := rk_none t1 t2 t3; have HK : Hid (rk (tok l').1 = 0) := hrk; clear hrk t1 t2 t3 HC; have htk := rank_any ⟨(tok l').1.toArray⟩; have hrk2 : rk (⟨(tok l').1.toArray⟩ : ByteArray).data.toList = 0 := HK.out; rw [hrk2] at htk; clear hrk2 HK
            go_wp2_with (first
              | (go_at_call 51
                 refine (token_any t ht a' l' HA.out wr).mono ?_; rintro e w3 ⟨i1, i2, rfl, hi1, hi2, hb3⟩; have q2 := below_keep hb3 q0; have q3 := below_keep hb3 q1; have B3 := below_join hbr hb3; clear hi1 hi2; obtain ⟨k1, k2, k3, k4, k5, k6⟩ := blk3 q2
                 obtain ⟨g1, g2, g3, g4, g5, g6⟩ := blk3 q3)
              | (go_at_call 85; refine (htk _).mono ?_; rintro e w4 ⟨rfl, rfl⟩)
              | fail)
            obtain ⟨y, hy, he⟩ := HE.out; obtain ⟨r, rfl, hr⟩ := eqv_ok he; (refine bodyPost_ret (v := .tuple #[.agg #[.int .i64 k, .string nm, .slice sl ks.length cap], .int .i64 a', .int .i64 (-1)]) (by simp [results, Try.results50, go_sem, k1, k2, k3]) rfl ⟨?_, Or.inl ⟨_, r, _, a', l', hy, rfl, ?_, HA.out, hr, hll⟩⟩)
            · exact ((B3.setCell (by simp) _).setCell (by simp) _).setCell (by simp) _
            · refine hrep.move fun b hb1 hb2 => ⟨?_, by omega⟩
              (rw [Below.heap_setCell _ _ _ _ (by simp; omega), Below.heap_setCell _ _ _ _ (by simp; omega), Below.heap_setCell _ _ _ _ (by simp; omega)]); exact hb3.block b hb1
          · -- then
            (have HT : tok l' = ([45, 62], skipB l', q) := tok_sign (k := 0) (by omega) t3); by_cases hle : least ≤ 1
            · obtain rfl : least = 1 := by omega
              (have HOK : Hid (∀ g r l2, Ev (mThen · q) (.ok g r) → skipB l2 = skipB r → ∀ x, LS 1 (.mk 7 e0 [.mk k nm ks, g]) l2 x → ∃ y, Ev (tgt 1 · l) y ∧ eqv y x) := fun g r l2 hn hs x hx => HC.out x (ls_then t1 t2 t3 hn hs hx))
              have HBAD : Hid (∀ r, Ev (mThen · q) (.bad r) → Ev (tgt 1 · l) (.bad r)) := fun r hn => by
                obtain ⟨y, hy, he⟩ := HC.out _ (ls_then_bad t1 t2 t3 hn)
                rwa [eqv_bad he] at hy
              (have HQ : Hid (q.length < l'.length) := by have := takeS_len t3; simp at this; show _ < _; omega); (have HIH : Hid (∀ a w, At t a q → Calls Try.prog 50 #[.string t, .int .i64 a, .int .i64 ((1 : Nat) : Int)] w (CPost 1 t q w)) := fun a w h => ih 1 a q w (by omega) (by omega) h (by have := HQ.out; omega)); have HTK : Hid (tok l' = ([45, 62], skipB l', q)) := HT; clear t1 t2 t3 HC HT
              go_wp2_with (first
                | (go_at_call 51
                   refine (token_any t ht a' l' HA.out wr).mono ?_; rintro e w3 ⟨i1, i2, rfl, hi1, hi2, hb3⟩; rw [HTK.out] at hi1 hi2; simp only [HTK.out]; have q2 := below_keep hb3 q0; have q3 := below_keep hb3 q1
                   have B3 := below_join hbr hb3)
                | (go_at_call 85; refine (rank_any _ _).mono ?_; rintro e w4 ⟨rfl, rfl⟩; simp [rk])
                | (go_at_call 50
                   refine (HIH.out i2 _ hi2).mono ?_; rintro e w5 ⟨hb5, ⟨⟨kg, ng, ksg⟩, rg, vg, a5, r5, hev5, rfl, hrep5, ha5, hs5, hl5⟩ | ⟨rg, ⟨kg, ng, ksg⟩, vg, a5, hev5, rfl, ha5, hrep5⟩⟩
                   all_goals (
                     obtain ⟨slg, capg, rfl⟩ := slice_shape hrep5; have q4 := below_keep hb5 q2; have q5 := below_keep hb5 q3; have B5 := below_join B3 hb5; have z5 := lt_of_block q4; have z6 := lt_of_block q5; obtain ⟨k1, k2, k3, k4, k5, k6⟩ := blk3 q4
                     obtain ⟨g1, g2, g3, g4, g5, g6⟩ := blk3 q5))
                | fail)
              · have z3 := hb3.size
                have z4 := hb5.size; (have hsY : (((w5.setCell ⟨w1.heap.size, 0, none⟩ (.int .i64 7)).setCell ⟨w1.heap.size, 1, none⟩ (.string ⟨#[]⟩)).setCell ⟨w1.heap.size, 2, none⟩ (.slice (some ⟨w5.heap.size + 1, 0, none⟩) 2 2)).heap.size = w5.heap.size := by simp [World.setCell])
                go_roundg r5.length
                case measure => have := HG.out; have := HQ.out; omega
                case rel =>
                  (refine ⟨7, e0, [.mk k nm ks, .mk kg ng ksg], some ⟨w5.heap.size + 1, 0, none⟩, 2, a5, r5, rfl, ha5, rfl, by have := HQ.out; omega, ?_, ?_, ?_, ?_, HOK.out _ rg r5 hev5 hs5⟩)
                  · exact (((B5.setCell (by simp; omega) _).setCell (by simp; omega) _).setCell (by simp; omega) _).alloc (by omega) _ |>.alloc (by simp [World.setCell]; omega) _
                  · rw [Below.heap_alloc _ _ _ (by simp [World.setCell]; omega), Below.heap_alloc _ _ _ (by omega), Below.heap_setCell _ _ _ _ dF, Below.heap_setCell _ _ _ _ dF, Below.heap_setCell _ _ _ _ dF]; exact q4
                  · rw [Below.heap_alloc _ _ _ (by simp [World.setCell]; omega), Below.heap_alloc _ _ _ (by omega)]; exact set3 q5 _ _ _
                  · refine Rep.two (T := 24) (c0 := .int .i64 k) (c1 := .string nm) (c2 := .slice sl ks.length cap) (d0 := .int .i64 kg) (d1 := .string ng) (d2 := .slice slg ksg.length capg) ?_ ⟨by omega, by omega⟩ ?_ ?_
                    · have := blk_new ((((w5.setCell ⟨w1.heap.size, 0, none⟩ (.int .i64 7)).setCell ⟨w1.heap.size, 1, none⟩ (.string ⟨#[]⟩)).setCell ⟨w1.heap.size, 2, none⟩ (.slice (some ⟨w5.heap.size + 1, 0, none⟩) 2 2)).alloc (.cells #[.int .i64 kg, .string ng, .slice slg ksg.length capg] 24 (0, 0))) (.cells #[.int .i64 k, .string nm, .slice sl ks.length cap, .int .i64 kg, .string ng, .slice slg ksg.length capg] 24 (0, 0))
                      simpa [hsY] using this
                    · refine hrep.move fun b hb1 hb2 => ⟨?_, hb2⟩
                      (rw [Below.heap_alloc _ _ _ (by simp [World.setCell]; omega), Below.heap_alloc _ _ _ (by omega), Below.heap_setCell _ _ _ _ (by simp; omega), Below.heap_setCell _ _ _ _ (by simp; omega), Below.heap_setCell _ _ _ _ (by simp; omega), hb5.block b (by omega)]); exact hb3.block b hb1
                    · refine hrep5.move fun b hb1 hb2 => ⟨?_, by omega, by omega⟩
                      (rw [Below.heap_alloc _ _ _ (by simp [World.setCell]; omega), Below.heap_alloc _ _ _ (by omega), Below.heap_setCell _ _ _ _ (by simp; omega), Below.heap_setCell _ _ _ _ (by simp; omega), Below.heap_setCell _ _ _ _ (by simp; omega)])
              · have z3 := hb3.size
                have z4 := hb5.size; have f2 := set3 q4 (.int .i64 k) (.string nm) (.slice sl ks.length cap); (have b2 := ((B5.setCell (p := ⟨w.heap.size, 0, none⟩) (by simp) (.int .i64 k)).setCell (p := ⟨w.heap.size, 1, none⟩) (by simp) (.string nm)).setCell (p := ⟨w.heap.size, 2, none⟩) (by simp) (.slice sl ks.length cap)); (have hsz : (((w5.setCell ⟨w.heap.size, 0, none⟩ (.int .i64 k)).setCell ⟨w.heap.size, 1, none⟩ (.string nm)).setCell ⟨w.heap.size, 2, none⟩ (.slice sl ks.length cap)).heap.size = w5.heap.size := by simp [World.setCell])
                have r2 : Rep (((w5.setCell ⟨w.heap.size, 0, none⟩ (.int .i64 k)).setCell ⟨w.heap.size, 1, none⟩ (.string nm)).setCell ⟨w.heap.size, 2, none⟩ (.slice sl ks.length cap)) (w.heap.size ≤ ·) (.mk k nm ks) (.agg #[.int .i64 k, .string nm, .slice sl ks.length cap]) := by
                  (refine hrep.move fun b hb1 hb2 => ⟨?_, by omega⟩); (rw [Below.heap_setCell _ _ _ _ (by simp; omega), Below.heap_setCell _ _ _ _ (by simp; omega), Below.heap_setCell _ _ _ _ (by simp; omega), hb5.block b (by omega)]); exact hb3.block b hb1
                generalize World.setCell _ _ _ = Y at f2 b2 hsz r2 ⊢; clear k1 k2 k3 k4 k5 k6 g1 g2 g3 g4 g5 g6; obtain ⟨k1, k2, k3, -⟩ := blk3 f2; (have dz : w.heap.size < Y.heap.size := by omega); (refine bodyPost_ret (v := .tuple #[.agg #[.int .i64 k, .string nm, .slice sl ks.length cap], .int .i64 0, .int .i64 a5]) (by simp [results, Try.results50, go_sem, k1, k2, k3, dz]) rfl ⟨b2.alloc (by omega) _, Or.inr ⟨rg, .mk k nm ks, _, a5, HBAD.out rg hev5, rfl, ha5, ?_⟩⟩); (exact r2.move fun b hb1 hb2 => ⟨Below.heap_alloc _ _ _ hb1, hb2⟩)
            · have hleI : (1 : Int) < (least : Int) := by omega
              (have HE : Hid (∃ y, Ev (tgt least · l) y ∧ eqv y (.ok (.mk k nm ks) (skipB l'))) := HC.out _ (ls_end h1 h4 (fun _ => t1) (fun _ => t2) (fun h => absurd h hle))); (have HK : Hid (rk (tok l').1 = 1) := by show _ = _; rw [HT]; exact (by decide : rk [45, 62] = 1)); clear HT t1 t2 t3 HC; have htk := rank_any ⟨(tok l').1.toArray⟩; have hrk2 : rk (⟨(tok l').1.toArray⟩ : ByteArray).data.toList = 1 := HK.out; rw [hrk2] at htk; clear hrk2 HK
              go_wp2_with (first
                | (go_at_call 51
                   refine (token_any t ht a' l' HA.out wr).mono ?_; rintro e w3 ⟨i1, i2, rfl, hi1, hi2, hb3⟩; have q2 := below_keep hb3 q0; have q3 := below_keep hb3 q1; have B3 := below_join hbr hb3; clear hi1 hi2; obtain ⟨k1, k2, k3, k4, k5, k6⟩ := blk3 q2
                   obtain ⟨g1, g2, g3, g4, g5, g6⟩ := blk3 q3)
                | (go_at_call 85; refine (htk _).mono ?_; rintro e w4 ⟨rfl, rfl⟩)
                | fail)
              obtain ⟨y, hy, he⟩ := HE.out; obtain ⟨r, rfl, hr⟩ := eqv_ok he; (refine bodyPost_ret (v := .tuple #[.agg #[.int .i64 k, .string nm, .slice sl ks.length cap], .int .i64 a', .int .i64 (-1)]) (by simp [results, Try.results50, go_sem, k1, k2, k3]) rfl ⟨?_, Or.inl ⟨_, r, _, a', l', hy, rfl, ?_, HA.out, hr, hll⟩⟩)
              · exact ((B3.setCell (by simp) _).setCell (by simp) _).setCell (by simp) _
              · refine hrep.move fun b hb1 hb2 => ⟨?_, by omega⟩
                (rw [Below.heap_setCell _ _ _ _ (by simp; omega), Below.heap_setCell _ _ _ _ (by simp; omega), Below.heap_setCell _ _ _ _ (by simp; omega)]); exact hb3.block b hb1
        · -- or
          (have HT : tok l' = ([124], skipB l', q) := tok_sign (k := 5) (by omega) t2); by_cases hle : least ≤ 2
          · have hleI : ¬ ((2 : Int) < (least : Int)) := by omega
            (have HOK : Hid (∀ g r l2, Ev (mAnd · q) (.ok g r) → skipB l2 = skipB r → ∀ x, LS least (.mk 6 e0 [.mk k nm ks, g]) l2 x → ∃ y, Ev (tgt least · l) y ∧ eqv y x) := fun g r l2 hn hs x hx => HC.out x (ls_or h1 hle t1 t2 hn hs hx))
            have HBAD : Hid (∀ r, Ev (mAnd · q) (.bad r) → Ev (tgt least · l) (.bad r)) := fun r hn => by
              obtain ⟨y, hy, he⟩ := HC.out _ (ls_or_bad h1 hle t1 t2 hn)
              rwa [eqv_bad he] at hy
            (have HQ : Hid (q.length < l'.length) := by have := takeS_len t2; simp at this; show _ < _; omega); (have HIH : Hid (∀ a w, At t a q → Calls Try.prog 50 #[.string t, .int .i64 a, .int .i64 ((3 : Nat) : Int)] w (CPost 3 t q w)) := fun a w h => ih 3 a q w (by omega) (by omega) h (by have := HQ.out; omega)); have HTK : Hid (tok l' = ([124], skipB l', q)) := HT; clear t1 t2 HC HT
            go_wp2_with (first
              | (go_at_call 51
                 refine (token_any t ht a' l' HA.out wr).mono ?_; rintro e w3 ⟨i1, i2, rfl, hi1, hi2, hb3⟩; rw [HTK.out] at hi1 hi2; simp only [HTK.out]; have q2 := below_keep hb3 q0; have q3 := below_keep hb3 q1
                 have B3 := below_join hbr hb3)
              | (go_at_call 85; refine (rank_any _ _).mono ?_; rintro e w4 ⟨rfl, rfl⟩; simp [rk])
              | (go_at_call 50
                 refine (HIH.out i2 _ hi2).mono ?_; rintro e w5 ⟨hb5, ⟨⟨kg, ng, ksg⟩, rg, vg, a5, r5, hev5, rfl, hrep5, ha5, hs5, hl5⟩ | ⟨rg, ⟨kg, ng, ksg⟩, vg, a5, hev5, rfl, ha5, hrep5⟩⟩
                 all_goals (
                   obtain ⟨slg, capg, rfl⟩ := slice_shape hrep5; have q4 := below_keep hb5 q2; have q5 := below_keep hb5 q3; have B5 := below_join B3 hb5; have z5 := lt_of_block q4; have z6 := lt_of_block q5; obtain ⟨k1, k2, k3, k4, k5, k6⟩ := blk3 q4
                   obtain ⟨g1, g2, g3, g4, g5, g6⟩ := blk3 q5))
              | fail)
            · have z3 := hb3.size
              have z4 := hb5.size; (have hsY : (((w5.setCell ⟨w1.heap.size, 0, none⟩ (.int .i64 6)).setCell ⟨w1.heap.size, 1, none⟩ (.string ⟨#[]⟩)).setCell ⟨w1.heap.size, 2, none⟩ (.slice (some ⟨w5.heap.size + 1, 0, none⟩) 2 2)).heap.size = w5.heap.size := by simp [World.setCell])
              go_roundg r5.length
              case measure => have := HG.out; have := HQ.out; omega
              case rel =>
                (refine ⟨6, e0, [.mk k nm ks, .mk kg ng ksg], some ⟨w5.heap.size + 1, 0, none⟩, 2, a5, r5, rfl, ha5, rfl, by have := HQ.out; omega, ?_, ?_, ?_, ?_, HOK.out _ rg r5 hev5 hs5⟩)
                · exact (((B5.setCell (by simp; omega) _).setCell (by simp; omega) _).setCell (by simp; omega) _).alloc (by omega) _ |>.alloc (by simp [World.setCell]; omega) _
                · rw [Below.heap_alloc _ _ _ (by simp [World.setCell]; omega), Below.heap_alloc _ _ _ (by omega), Below.heap_setCell _ _ _ _ dF, Below.heap_setCell _ _ _ _ dF, Below.heap_setCell _ _ _ _ dF]; exact q4
                · rw [Below.heap_alloc _ _ _ (by simp [World.setCell]; omega), Below.heap_alloc _ _ _ (by omega)]; exact set3 q5 _ _ _
                · refine Rep.two (T := 24) (c0 := .int .i64 k) (c1 := .string nm) (c2 := .slice sl ks.length cap) (d0 := .int .i64 kg) (d1 := .string ng) (d2 := .slice slg ksg.length capg) ?_ ⟨by omega, by omega⟩ ?_ ?_
                  · have := blk_new ((((w5.setCell ⟨w1.heap.size, 0, none⟩ (.int .i64 6)).setCell ⟨w1.heap.size, 1, none⟩ (.string ⟨#[]⟩)).setCell ⟨w1.heap.size, 2, none⟩ (.slice (some ⟨w5.heap.size + 1, 0, none⟩) 2 2)).alloc (.cells #[.int .i64 kg, .string ng, .slice slg ksg.length capg] 24 (0, 0))) (.cells #[.int .i64 k, .string nm, .slice sl ks.length cap, .int .i64 kg, .string ng, .slice slg ksg.length capg] 24 (0, 0))
                    simpa [hsY] using this
                  · refine hrep.move fun b hb1 hb2 => ⟨?_, hb2⟩
                    (rw [Below.heap_alloc _ _ _ (by simp [World.setCell]; omega), Below.heap_alloc _ _ _ (by omega), Below.heap_setCell _ _ _ _ (by simp; omega), Below.heap_setCell _ _ _ _ (by simp; omega), Below.heap_setCell _ _ _ _ (by simp; omega), hb5.block b (by omega)]); exact hb3.block b hb1
                  · refine hrep5.move fun b hb1 hb2 => ⟨?_, by omega, by omega⟩
                    (rw [Below.heap_alloc _ _ _ (by simp [World.setCell]; omega), Below.heap_alloc _ _ _ (by omega), Below.heap_setCell _ _ _ _ (by simp; omega), Below.heap_setCell _ _ _ _ (by simp; omega), Below.heap_setCell _ _ _ _ (by simp; omega)])
            · have z3 := hb3.size
              have z4 := hb5.size; have f2 := set3 q4 (.int .i64 k) (.string nm) (.slice sl ks.length cap); (have b2 := ((B5.setCell (p := ⟨w.heap.size, 0, none⟩) (by simp) (.int .i64 k)).setCell (p := ⟨w.heap.size, 1, none⟩) (by simp) (.string nm)).setCell (p := ⟨w.heap.size, 2, none⟩) (by simp) (.slice sl ks.length cap)); (have hsz : (((w5.setCell ⟨w.heap.size, 0, none⟩ (.int .i64 k)).setCell ⟨w.heap.size, 1, none⟩ (.string nm)).setCell ⟨w.heap.size, 2, none⟩ (.slice sl ks.length cap)).heap.size = w5.heap.size := by simp [World.setCell])
              have r2 : Rep (((w5.setCell ⟨w.heap.size, 0, none⟩ (.int .i64 k)).setCell ⟨w.heap.size, 1, none⟩ (.string nm)).setCell ⟨w.heap.size, 2, none⟩ (.slice sl ks.length cap)) (w.heap.size ≤ ·) (.mk k nm ks) (.agg #[.int .i64 k, .string nm, .slice sl ks.length cap]) := by
                (refine hrep.move fun b hb1 hb2 => ⟨?_, by omega⟩); (rw [Below.heap_setCell _ _ _ _ (by simp; omega), Below.heap_setCell _ _ _ _ (by simp; omega), Below.heap_setCell _ _ _ _ (by simp; omega), hb5.block b (by omega)]); exact hb3.block b hb1
              generalize World.setCell _ _ _ = Y at f2 b2 hsz r2 ⊢; clear k1 k2 k3 k4 k5 k6 g1 g2 g3 g4 g5 g6; obtain ⟨k1, k2, k3, -⟩ := blk3 f2; (have dz : w.heap.size < Y.heap.size := by omega); (refine bodyPost_ret (v := .tuple #[.agg #[.int .i64 k, .string nm, .slice sl ks.length cap], .int .i64 0, .int .i64 a5]) (by simp [results, Try.results50, go_sem, k1, k2, k3, dz]) rfl ⟨b2.alloc (by omega) _, Or.inr ⟨rg, .mk k nm ks, _, a5, HBAD.out rg hev5, rfl, ha5, ?_⟩⟩); (exact r2.move fun b hb1 hb2 => ⟨Below.heap_alloc _ _ _ hb1, hb2⟩)
          · have hleI : (2 : Int) < (least : Int) := by omega
            (have HE : Hid (∃ y, Ev (tgt least · l) y ∧ eqv y (.ok (.mk k nm ks) (skipB l'))) := HC.out _ (ls_end h1 h4 (fun _ => t1) (fun h => absurd h hle) (fun h => absurd (Nat.le_trans h (by omega)) hle))); (have HK : Hid (rk (tok l').1 = 2) := by show _ = _; rw [HT]; exact (by decide : rk [124] = 2)); clear HT t1 t2 HC; have htk := rank_any ⟨(tok l').1.toArray⟩; have hrk2 : rk (⟨(tok l').1.toArray⟩ : ByteArray).data.toList = 2 := HK.out; rw [hrk2] at htk; clear hrk2 HK
            go_wp2_with (first
              | (go_at_call 51
                 refine (token_any t ht a' l' HA.out wr).mono ?_; rintro e w3 ⟨i1, i2, rfl, hi1, hi2, hb3⟩; have q2 := below_keep hb3 q0; have q3 := below_keep hb3 q1; have B3 := below_join hbr hb3; clear hi1 hi2; obtain ⟨k1, k2, k3, k4, k5, k6⟩ := blk3 q2
                 obtain ⟨g1, g2, g3, g4, g5, g6⟩ := blk3 q3)
              | (go_at_call 85; refine (htk _).mono ?_; rintro e w4 ⟨rfl, rfl⟩)
              | fail)
            obtain ⟨y, hy, he⟩ := HE.out; obtain ⟨r, rfl, hr⟩ := eqv_ok he; (refine bodyPost_ret (v := .tuple #[.agg #[.int .i64 k, .string nm, .slice sl ks.length cap], .int .i64 a', .int .i64 (-1)]) (by simp [results, Try.results50, go_sem, k1, k2, k3]) rfl ⟨?_, Or.inl ⟨_, r, _, a', l', hy, rfl, ?_, HA.out, hr, hll⟩⟩)
            · exact ((B3.setCell (by simp) _).setCell (by simp) _).setCell (by simp) _
            · refine hrep.move fun b hb1 hb2 => ⟨?_, by omega⟩
              (rw [Below.heap_setCell _ _ _ _ (by simp; omega), Below.heap_setCell _ _ _ _ (by simp; omega), Below.heap_setCell _ _ _ _ (by simp; omega)]); exact hb3.block b hb1
      · -- and
        (have HT : tok l' = ([38], skipB l', q) := tok_sign (k := 4) (by omega) t1); by_cases hle : least ≤ 3
        · have hleI : ¬ ((3 : Int) < (least : Int)) := by omega
          (have HOK : Hid (∀ g r l2, Ev (mNot · q) (.ok g r) → skipB l2 = skipB r → ∀ x, LS least (.mk 5 e0 [.mk k nm ks, g]) l2 x → ∃ y, Ev (tgt least · l) y ∧ eqv y x) := fun g r l2 hn hs x hx => HC.out x (ls_and h1 hle t1 hn hs hx))
          have HBAD : Hid (∀ r, Ev (mNot · q) (.bad r) → Ev (tgt least · l) (.bad r)) := fun r hn => by
            obtain ⟨y, hy, he⟩ := HC.out _ (ls_and_bad h1 hle t1 hn)
            rwa [eqv_bad he] at hy
          (have HQ : Hid (q.length < l'.length) := by have := takeS_len t1; simp at this; show _ < _; omega); (have HIH : Hid (∀ a w, At t a q → Calls Try.prog 50 #[.string t, .int .i64 a, .int .i64 ((4 : Nat) : Int)] w (CPost 4 t q w)) := fun a w h => ih 4 a q w (by omega) (by omega) h (by have := HQ.out; omega)); have HTK : Hid (tok l' = ([38], skipB l', q)) := HT; clear t1 HC HT
          go_wp2_with (first
            | (go_at_call 51
               refine (token_any t ht a' l' HA.out wr).mono ?_; rintro e w3 ⟨i1, i2, rfl, hi1, hi2, hb3⟩; rw [HTK.out] at hi1 hi2; simp only [HTK.out]; have q2 := below_keep hb3 q0; have q3 := below_keep hb3 q1
               have B3 := below_join hbr hb3)
            | (go_at_call 85; refine (rank_any _ _).mono ?_; rintro e w4 ⟨rfl, rfl⟩; simp [rk])
            | (go_at_call 50
               refine (HIH.out i2 _ hi2).mono ?_; rintro e w5 ⟨hb5, ⟨⟨kg, ng, ksg⟩, rg, vg, a5, r5, hev5, rfl, hrep5, ha5, hs5, hl5⟩ | ⟨rg, ⟨kg, ng, ksg⟩, vg, a5, hev5, rfl, ha5, hrep5⟩⟩
               all_goals (
                 obtain ⟨slg, capg, rfl⟩ := slice_shape hrep5; have q4 := below_keep hb5 q2; have q5 := below_keep hb5 q3; have B5 := below_join B3 hb5; have z5 := lt_of_block q4; have z6 := lt_of_block q5; obtain ⟨k1, k2, k3, k4, k5, k6⟩ := blk3 q4
                 obtain ⟨g1, g2, g3, g4, g5, g6⟩ := blk3 q5))
            | fail)
          · have z3 := hb3.size
            have z4 := hb5.size; (have hsY : (((w5.setCell ⟨w1.heap.size, 0, none⟩ (.int .i64 5)).setCell ⟨w1.heap.size, 1, none⟩ (.string ⟨#[]⟩)).setCell ⟨w1.heap.size, 2, none⟩ (.slice (some ⟨w5.heap.size + 1, 0, none⟩) 2 2)).heap.size = w5.heap.size := by simp [World.setCell])
            go_roundg r5.length
            case measure => have := HG.out; have := HQ.out; omega
            case rel =>
              (refine ⟨5, e0, [.mk k nm ks, .mk kg ng ksg], some ⟨w5.heap.size + 1, 0, none⟩, 2, a5, r5, rfl, ha5, rfl, by have := HQ.out; omega, ?_, ?_, ?_, ?_, HOK.out _ rg r5 hev5 hs5⟩)
              · exact (((B5.setCell (by simp; omega) _).setCell (by simp; omega) _).setCell (by simp; omega) _).alloc (by omega) _ |>.alloc (by simp [World.setCell]; omega) _
              · rw [Below.heap_alloc _ _ _ (by simp [World.setCell]; omega), Below.heap_alloc _ _ _ (by omega), Below.heap_setCell _ _ _ _ dF, Below.heap_setCell _ _ _ _ dF, Below.heap_setCell _ _ _ _ dF]; exact q4
              · rw [Below.heap_alloc _ _ _ (by simp [World.setCell]; omega), Below.heap_alloc _ _ _ (by omega)]; exact set3 q5 _ _ _
              · refine Rep.two (T := 24) (c0 := .int .i64 k) (c1 := .string nm) (c2 := .slice sl ks.length cap) (d0 := .int .i64 kg) (d1 := .string ng) (d2 := .slice slg ksg.length capg) ?_ ⟨by omega, by omega⟩ ?_ ?_
                · have := blk_new ((((w5.setCell ⟨w1.heap.size, 0, none⟩ (.int .i64 5)).setCell ⟨w1.heap.size, 1, none⟩ (.string ⟨#[]⟩)).setCell ⟨w1.heap.size, 2, none⟩ (.slice (some ⟨w5.heap.size + 1, 0, none⟩) 2 2)).alloc (.cells #[.int .i64 kg, .string ng, .slice slg ksg.length capg] 24 (0, 0))) (.cells #[.int .i64 k, .string nm, .slice sl ks.length cap, .int .i64 kg, .string ng, .slice slg ksg.length capg] 24 (0, 0))
                  simpa [hsY] using this
                · refine hrep.move fun b hb1 hb2 => ⟨?_, hb2⟩
                  (rw [Below.heap_alloc _ _ _ (by simp [World.setCell]; omega), Below.heap_alloc _ _ _ (by omega), Below.heap_setCell _ _ _ _ (by simp; omega), Below.heap_setCell _ _ _ _ (by simp; omega), Below.heap_setCell _ _ _ _ (by simp; omega), hb5.block b (by omega)]); exact hb3.block b hb1
                · refine hrep5.move fun b hb1 hb2 => ⟨?_, by omega, by omega⟩
                  (rw [Below.heap_alloc _ _ _ (by simp [World.setCell]; omega), Below.heap_alloc _ _ _ (by omega), Below.heap_setCell _ _ _ _ (by simp; omega), Below.heap_setCell _ _ _ _ (by simp; omega), Below.heap_setCell _ _ _ _ (by simp; omega)])
          · have z3 := hb3.size
            have z4 := hb5.size; have f2 := set3 q4 (.int .i64 k) (.string nm) (.slice sl ks.length cap); (have b2 := ((B5.setCell (p := ⟨w.heap.size, 0, none⟩) (by simp) (.int .i64 k)).setCell (p := ⟨w.heap.size, 1, none⟩) (by simp) (.string nm)).setCell (p := ⟨w.heap.size, 2, none⟩) (by simp) (.slice sl ks.length cap)); (have hsz : (((w5.setCell ⟨w.heap.size, 0, none⟩ (.int .i64 k)).setCell ⟨w.heap.size, 1, none⟩ (.string nm)).setCell ⟨w.heap.size, 2, none⟩ (.slice sl ks.length cap)).heap.size = w5.heap.size := by simp [World.setCell])
            have r2 : Rep (((w5.setCell ⟨w.heap.size, 0, none⟩ (.int .i64 k)).setCell ⟨w.heap.size, 1, none⟩ (.string nm)).setCell ⟨w.heap.size, 2, none⟩ (.slice sl ks.length cap)) (w.heap.size ≤ ·) (.mk k nm ks) (.agg #[.int .i64 k, .string nm, .slice sl ks.length cap]) := by
              (refine hrep.move fun b hb1 hb2 => ⟨?_, by omega⟩); (rw [Below.heap_setCell _ _ _ _ (by simp; omega), Below.heap_setCell _ _ _ _ (by simp; omega), Below.heap_setCell _ _ _ _ (by simp; omega), hb5.block b (by omega)]); exact hb3.block b hb1
            generalize World.setCell _ _ _ = Y at f2 b2 hsz r2 ⊢; clear k1 k2 k3 k4 k5 k6 g1 g2 g3 g4 g5 g6; obtain ⟨k1, k2, k3, -⟩ := blk3 f2; (have dz : w.heap.size < Y.heap.size := by omega); (refine bodyPost_ret (v := .tuple #[.agg #[.int .i64 k, .string nm, .slice sl ks.length cap], .int .i64 0, .int .i64 a5]) (by simp [results, Try.results50, go_sem, k1, k2, k3, dz]) rfl ⟨b2.alloc (by omega) _, Or.inr ⟨rg, .mk k nm ks, _, a5, HBAD.out rg hev5, rfl, ha5, ?_⟩⟩); (exact r2.move fun b hb1 hb2 => ⟨Below.heap_alloc _ _ _ hb1, hb2⟩)
        · have hleI : (3 : Int) < (least : Int) := by omega
          (have HE : Hid (∃ y, Ev (tgt least · l) y ∧ eqv y (.ok (.mk k nm ks) (skipB l'))) := HC.out _ (ls_end h1 h4 (fun h => absurd h hle) (fun h => absurd (Nat.le_trans h (by omega)) hle) (fun h => absurd (Nat.le_trans h (by omega)) hle))); (have HK : Hid (rk (tok l').1 = 3) := by show _ = _; rw [HT]; exact (by decide : rk [38] = 3)); clear HT t1 HC; have htk := rank_any ⟨(tok l').1.toArray⟩; have hrk2 : rk (⟨(tok l').1.toArray⟩ : ByteArray).data.toList = 3 := HK.out; rw [hrk2] at htk; clear hrk2 HK
          go_wp2_with (first
            | (go_at_call 51
               refine (token_any t ht a' l' HA.out wr).mono ?_; rintro e w3 ⟨i1, i2, rfl, hi1, hi2, hb3⟩; have q2 := below_keep hb3 q0; have q3 := below_keep hb3 q1; have B3 := below_join hbr hb3; clear hi1 hi2; obtain ⟨k1, k2, k3, k4, k5, k6⟩ := blk3 q2
               obtain ⟨g1, g2, g3, g4, g5, g6⟩ := blk3 q3)
            | (go_at_call 85; refine (htk _).mono ?_; rintro e w4 ⟨rfl, rfl⟩)
            | fail)
          obtain ⟨y, hy, he⟩ := HE.out; obtain ⟨r, rfl, hr⟩ := eqv_ok he; (refine bodyPost_ret (v := .tuple #[.agg #[.int .i64 k, .string nm, .slice sl ks.length cap], .int .i64 a', .int .i64 (-1)]) (by simp [results, Try.results50, go_sem, k1, k2, k3]) rfl ⟨?_, Or.inl ⟨_, r, _, a', l', hy, rfl, ?_, HA.out, hr, hll⟩⟩)
          · exact ((B3.setCell (by simp) _).setCell (by simp) _).setCell (by simp) _
          · refine hrep.move fun b hb1 hb2 => ⟨?_, by omega⟩
            (rw [Below.heap_setCell _ _ _ _ (by simp; omega), Below.heap_setCell _ _ _ _ (by simp; omega), Below.heap_setCell _ _ _ _ (by simp; omega)]); exact hb3.block b hb1
end Go.Proofs.Ytfhbpfgbnfcdaaa
