/- Texts of one proof, one behind the other: TY4, TZ1, CM1, CM2, CB1, CB2. -/
import Derived.Test.YtpmogojpdigbmacB09
import Derived.Lib.AppendZerosOnto
/- Walks: the yardstick's PlainFault. -/
namespace Go.Proofs.Ytpmogojpdigbmac
open Go.RowKit Go.Sort

def pfirst : List Fm → Int × Int
  | [] => (0, 0)
  | f :: fs => if f.pcode.1 = 0 then pfirst fs else f.pcode

theorem pfirst_drop {fs : List Fm} {i : Nat} {f : Fm} (h : fs[i]? = some f) : pfirst (fs.drop i) = if f.pcode.1 = 0 then pfirst (fs.drop (i + 1)) else f.pcode := by
  have hi : i < fs.length := by
    rcases Nat.lt_or_ge i fs.length with h' | h'
    · exact h'
    · rw [List.getElem?_eq_none h'] at h; cases h
  rw [List.drop_eq_getElem_cons hi, pfirst]
  rw [List.getElem?_eq_getElem hi] at h
  rw [Option.some.inj h]

theorem mIdx_drop {l : List Fm} {i : Nat} {f : Fm} (h : l[i]? = some f) (a : Nat) : mIdx (l.drop i) a = if isM f.kind then (a, true) else mIdx (l.drop (i + 1)) (a + 1) := by
  have hi : i < l.length := by
    rcases Nat.lt_or_ge i l.length with h' | h'
    · exact h'
    · rw [List.getElem?_eq_none h'] at h; cases h
  rw [List.drop_eq_getElem_cons hi, mIdx]
  rw [List.getElem?_eq_getElem hi] at h
  rw [Option.some.inj h]

set_option maxHeartbeats 1000000 in
theorem mkF_any (c a : Int) (w : World) : Calls Try.prog 16 #[.int .i64 c, .int .i64 a] w fun e w' => e = .returned (.agg #[.int .i64 c, .int .i64 a]) ∧ Below w.heap.size w w' := by
  have B := below_more (Below.refl _ w) (.cells #[.int .i64 c, .int .i64 a] 34 (0, 0))
  go_enter Try.func16, Try.ntmps16
  go_wp2_with fail
  exact bodyPost_ret (v := .agg #[.int .i64 c, .int .i64 a]) (by simp [results, Try.results16, go_sem]) rfl ⟨rfl, B⟩

theorem walk300 (f : Fm) (h : f.size ≤ 200) : walkL f 300 = allN f := by
  rw [walkL_take, List.take_of_length_le (by rw [allN_len]; omega)]

set_option maxHeartbeats 4000000 in
theorem plainR_any (fs : List Fm) (hl : fs.length ≤ 1000) (v : Value) (w : World) (hv : FL w v fs) :
    Calls Try.prog 8 #[v] w fun e w' => e = .returned (.agg #[.int .i64 (pfirst fs).1, .int .i64 (pfirst fs).2]) ∧ Below w.heap.size w w' := by
  obtain ⟨ad, cap, rfl, h1, h2, h3⟩ := hv
  have H3 : Hid (fs ≠ [] → ∃ b off, ad = some ⟨b, off, none⟩ ∧ Reps w (fun _ => True) b off fs) := h3
  have hlI : (fs.length : Int) ≤ 1000 := by omega
  have HT : Hid (pfirst fs = pfirst (fs.drop 0)) := rfl
  generalize pfirst fs = tc at *
  have q0 := blk_new w (.cells #[.int .i64 0, .int .i64 0] 34 (0, 0))
  have B0 := below_more (Below.refl _ w) (.cells #[.int .i64 0, .int .i64 0] 34 (0, 0))
  clear h3
  go_enter Try.func8, Try.ntmps8
  go_wp2_with fail
  go_loopg [3] fs.length (fun gk c wr => ∃ i, i ≤ fs.length ∧ gk = fs.length - i ∧ c = .int .i64 (i : Nat) ∧ Below w.heap.size w wr ∧ wr.heap[w.heap.size]? = some (.cells #[.int .i64 0, .int .i64 0] 34 (0, 0)) ∧ Hid (tc = pfirst (fs.drop i)))
  case atStart => exact ⟨0, by omega, by omega, rfl, B0, q0, HT⟩
  case round =>
    obtain ⟨i, hi, hg, rfl, hbr, q1, HW⟩ := hrel
    have HG : Hid (gk = fs.length - i) := hg
    clear hg HT
    have z1 := lt_of_block q1
    by_cases hlt : i < fs.length
    · obtain ⟨⟨k2, n2, ks2⟩, hki⟩ : ∃ f, fs[i]? = some f := ⟨_, List.getElem?_eq_getElem hlt⟩
      obtain ⟨b, off, rfl, hrs⟩ := H3.out (fun e => by rw [e] at hlt; simp at hlt)
      obtain ⟨sl2, cap2, g0, g1, g2, hrep2⟩ := (hrs.up hbr).at i k2 n2 ks2 hki
      have hltI : (i : Int) < (fs.length : Int) := by omega
      have hlc : (i : Int) < (cap : Int) := by omega
      have HDr := HW.out
      rw [pfirst_drop hki] at HDr
      have hrf := fun v (w : World) h => rfault_any (.mk k2 n2 ks2) v w h
      have zb := lt_of_cell g0
      clear hki hrs H3 HW
      by_cases hc : (Fm.mk k2 n2 ks2).code.1 = 0
      · obtain ⟨s, hs⟩ := code_split _ hc
        have hcz := code_zero hc
        rw [hcz] at hrf
        have hsz := chk_size hs
        have hwk := fun v (w : World) h => walk_any (.mk k2 n2 ks2) v 300 w (by omega) h
        rw [walk300 _ hsz] at hwk
        have hpc : (Fm.mk k2 n2 ks2).pcode = if (mIdx (allN (.mk k2 n2 ks2)) 0).2 then ((4 : Int), (((mIdx (allN (.mk k2 n2 ks2)) 0).1 : Nat) : Int)) else (0, 0) := by
          unfold Fm.pcode
          rw [if_pos hc, modal_idx]
        have hnl : (allN (.mk k2 n2 ks2)).length ≤ 200 := by rw [allN_len]; exact hsz
        rw [hpc] at HDr
        have HD : Hid (tc = _) := HDr
        have HR : Hid (∀ v w, _ → Calls Try.prog 17 #[v] w _) := hrf
        have HWk : Hid (∀ v w, _ → Calls Try.prog 18 _ w _) := hwk
        clear hrf hwk HDr hpc hs hsz hcz hc
        generalize allN (.mk k2 n2 ks2) = nodes at *
        go_wp2_with (first
          | (go_at_call 17
             refine (HR.out _ _ hrep2).mono ?_
             rintro e w2 ⟨rfl, hb2⟩
             have q2 := below_keep hb2 q1
             have z2 := lt_of_block q2
             have e0 := (hb2.cell (p := ⟨b, off + i * 3, none⟩) zb).trans g0
             have e1 := (hb2.cell (p := ⟨b, off + i * 3 + 1, none⟩) zb).trans g1
             have e2 := (hb2.cell (p := ⟨b, off + i * 3 + 2, none⟩) zb).trans g2
             have zb2 := lt_of_cell e0
             simp only at zb2
             have B2 := below_join hbr hb2)
          | (go_at_call 18
             refine (HWk.out _ _ ((hrep2.up hb2).more _)).mono ?_
             rintro e w3 ⟨x, rfl, hlo, hb3⟩
             obtain ⟨g, cp, rfl, hc1, hc2, hrs⟩ := hlo.reps
             have HS : Hid (Reps w3 (fun _ => True) g 0 nodes) := hrs
             have q3 := below_keep hb3 (alloc_keep q2 _)
             have z3 := lt_of_block q3
             have B3 := below_join (below_more B2 _) hb3
             clear hlo hrs)
          | fail)
        have hNI : (nodes.length : Int) ≤ 200 := by omega
        go_loopg [6] nodes.length (fun gk c wz => ∃ j, j ≤ nodes.length ∧ gk = nodes.length - j ∧ c = .int .i64 (j : Nat) ∧ Below w3.heap.size w3 wz ∧ Hid (mIdx nodes 0 = mIdx (nodes.drop j) j))
        case atStart => exact ⟨0, by omega, by omega, rfl, Below.refl _ _, by show _ = _; rfl⟩
        case round =>
          obtain ⟨j, hj, hg2, rfl, hbz, HY⟩ := hrel
          have HG2 : Hid (gk = nodes.length - j) := hg2
          clear hg2 e0 e1 e2 g0 g1 g2
          have q4 := below_keep hbz q3
          have z4 := lt_of_block q4
          have B4 := below_join B3 hbz
          by_cases hjl : j < nodes.length
          · obtain ⟨⟨k3, n3, ks3⟩, hkj⟩ : ∃ f, nodes[j]? = some f := ⟨_, List.getElem?_eq_getElem hjl⟩
            obtain ⟨sl3, cap3, p0, p1, p2, -⟩ := (HS.out.up hbz).at j k3 n3 ks3 hkj
            rw [Nat.zero_add] at p0 p1 p2
            have hjI : (j : Int) < (nodes.length : Int) := by omega
            have hjc : (j : Int) < (cp : Int) := by omega
            have hY := HY.out
            rw [mIdx_drop hkj] at hY
            have hisM : isM (Fm.mk k3 n3 ks3).kind = (decide (k3 = 8) || decide (k3 = 9)) := rfl
            rw [hisM] at hY
            clear hkj HY hisM p1 p2
            by_cases h8 : k3 = 8 ∨ k3 = 9
            · have hb : (decide (k3 = 8) || decide (k3 = 9)) = true := by simpa using h8
              rw [hb] at hY
              have HF : Hid (tc = (4, ((j : Nat) : Int))) := by
                show _ = _
                rw [HD.out, hY]; rfl
              have f2 := fun (w5 : World) (h : w5.heap[w.heap.size]? = some (.cells #[.int .i64 0, .int .i64 0] 34 (0, 0))) => set2 h (.int .i64 4) (.int .i64 (j : Nat))
              have HFm : Hid (∀ w, Calls Try.prog 16 #[.int .i64 4, .int .i64 (j : Nat)] w _) := fun w => mkF_any 4 (j : Nat) w
              clear hY hb HD
              have h9 : k3 = 8 ∨ (¬ k3 = 8 ∧ k3 = 9) := by omega
              rcases h9 with rfl | ⟨h8', rfl⟩
              all_goals
                go_wp2_with (first
                  | (go_at_call 16
                     refine (HFm.out _).mono ?_
                     rintro e w5 ⟨rfl, hb5⟩
                     have q5 := below_keep hb5 q4
                     have B5 := below_join B4 hb5
                     obtain ⟨k1, k2', k3', k4⟩ := blk2 q5)
                  | fail)
                have f3 := f2 _ q5
                have b2 := (B5.setCell (p := ⟨w.heap.size, 0, none⟩) (by simp) (.int .i64 4)).setCell (p := ⟨w.heap.size, 1, none⟩) (by simp) (.int .i64 (j : Nat))
                generalize World.setCell _ _ _ = F at f3 b2 ⊢
                clear k1 k2' k3' k4
                obtain ⟨k1, k2', -⟩ := blk2 f3
                exact bodyPost_ret (v := .agg #[.int .i64 4, .int .i64 (j : Nat)]) (by simp [results, Try.results8, go_sem, k1, k2']) rfl ⟨by rw [HF.out], b2⟩
            · have hb : (decide (k3 = 8) || decide (k3 = 9)) = false := by simpa using h8
              rw [hb] at hY
              have HN : Hid (mIdx nodes 0 = mIdx (nodes.drop (j + 1)) (j + 1)) := hY
              have h8' : (k3 == 8) = false := by simp; omega
              have h9' : (k3 == 9) = false := by simp; omega
              clear hY hb h8
              go_wp2_with fail
              go_roundg (nodes.length - (j + 1))
              case measure => have := HG2.out; omega
              case rel => exact ⟨j + 1, by omega, rfl, by go_num, hbz, HN⟩
          · have HN : Hid (tc = pfirst (fs.drop (i + 1))) := by
              show _ = _
              rw [HD.out, HY.out, List.drop_of_length_le (by omega), mIdx]
              rfl
            have hge : ¬ (j : Int) < (nodes.length : Int) := by omega
            clear HY HD
            go_wp2_with fail
            go_roundg (fs.length - (i + 1))
            case measure => have := HG.out; omega
            case rel => exact ⟨i + 1, by omega, rfl, by go_num, B4, q4, HN⟩
      · have hpc : (Fm.mk k2 n2 ks2).pcode = (Fm.mk k2 n2 ks2).code := by unfold Fm.pcode; rw [if_neg hc]
        rw [hpc] at HDr
        rw [if_neg hc] at HDr
        have HD : Hid (tc = _) := HDr
        generalize (Fm.mk k2 n2 ks2).code = cd at *
        obtain ⟨c, a⟩ := cd
        have hne' : (c != 0) = true := by simpa using hc
        have HR : Hid (∀ v w, _ → Calls Try.prog 17 #[v] w _) := hrf
        clear hrf HDr hpc hc
        go_wp2_with (first
          | (go_at_call 17
             refine (HR.out _ _ hrep2).mono ?_
             rintro e w2 ⟨rfl, hb2⟩
             have q2 := below_keep hb2 q1
             have z2 := lt_of_block q2
             have d1 : ¬ w.heap.size = w2.heap.size := by omega
             have d2 : ¬ w2.heap.size = w.heap.size := by omega
             obtain ⟨k1, k2', k3', k4⟩ := blk2 q2
             have B2 := below_join hbr hb2)
          | fail)
        have f3 := set2 q2 (.int .i64 c) (.int .i64 a)
        have b2 := (B2.setCell (p := ⟨w.heap.size, 0, none⟩) (by simp) (.int .i64 c)).setCell (p := ⟨w.heap.size, 1, none⟩) (by simp) (.int .i64 a)
        have hsz : ((w2.setCell ⟨w.heap.size, 0, none⟩ (.int .i64 c)).setCell ⟨w.heap.size, 1, none⟩ (.int .i64 a)).heap.size = w2.heap.size := by simp [World.setCell]
        generalize World.setCell _ _ _ = F at f3 b2 hsz ⊢
        clear k1 k2' k3' k4
        obtain ⟨k1, k2', -⟩ := blk2 f3
        have d4 : w.heap.size < F.heap.size := by omega
        exact bodyPost_ret (v := .agg #[.int .i64 c, .int .i64 a]) (by simp [results, Try.results8, go_sem, k1, k2', d4]) rfl ⟨by rw [HD.out], b2.alloc (by omega) _⟩
    · have HF : Hid (tc = (0, 0)) := by
        show _ = _
        rw [HW.out, List.drop_of_length_le (by omega), pfirst]
      have hge : ¬ (i : Int) < (fs.length : Int) := by omega
      have f2 := set2 q1 (.int .i64 0) (.int .i64 0)
      have b2 := (hbr.setCell (p := ⟨w.heap.size, 0, none⟩) (by simp) (.int .i64 0)).setCell (p := ⟨w.heap.size, 1, none⟩) (by simp) (.int .i64 0)
      obtain ⟨k1, k2, k3, k4⟩ := blk2 q1
      clear HW H3
      go_wp2_with fail
      generalize World.setCell _ _ _ = F at f2 b2 ⊢
      clear k1 k2 k3 k4
      obtain ⟨k1, k2, -⟩ := blk2 f2
      exact bodyPost_ret (v := .agg #[.int .i64 0, .int .i64 0]) (by simp [results, Try.results8, go_sem, k1, k2]) rfl ⟨by rw [HF.out], b2⟩
end Go.Proofs.Ytpmogojpdigbmac
/- Walks: the opposite of a formula. -/
namespace Go.Proofs.Ytpmogojpdigbmac
open Go.RowKit Go.Sort

set_option maxHeartbeats 1000000 in
theorem bothP_any (ok : Nat → Prop) (k : Int) (f g : Fm) (v u : Value) (w : World) (ho : ∀ b, w.heap.size ≤ b → ok b) (hv : Rep w ok f v) (hu : Rep w ok g u) :
    Calls Try.prog 25 #[.int .i64 k, v, u] w fun e w' => ∃ x, e = .returned x ∧ Rep w' ok (.mk k ⟨#[]⟩ [f, g]) x ∧ Below w.heap.size w w' := by
  obtain ⟨k1, n1, ks1⟩ := f
  obtain ⟨k2, n2, ks2⟩ := g
  obtain ⟨sl1, cp1, rfl⟩ := slice_shape hv
  obtain ⟨sl2, cp2, rfl⟩ := slice_shape hu
  have HV : Hid (Rep w ok (.mk k1 n1 ks1) (.agg #[.int .i64 k1, .string n1, .slice sl1 ks1.length cp1])) := hv
  have HU : Hid (Rep w ok (.mk k2 n2 ks2) (.agg #[.int .i64 k2, .string n2, .slice sl2 ks2.length cp2])) := hu
  have HO : Hid (∀ b, w.heap.size ≤ b → ok b) := ho
  clear hv hu ho
  go_enter Try.func25, Try.ntmps25
  go_wp2_with fail
  have q := blk_new (((w.alloc (.cells #[.int .i64 k1, .string n1, .slice sl1 ks1.length cp1] 24 (0, 0))).alloc (.cells #[.int .i64 k2, .string n2, .slice sl2 ks2.length cp2] 24 (0, 0))).alloc (.cells #[.int .i64 k, .string ⟨#[]⟩, .slice (some ⟨w.heap.size + 1 + 1 + 1, 0, none⟩) 2 2] 24 (0, 0))) (.cells #[.int .i64 k1, .string n1, .slice sl1 ks1.length cp1, .int .i64 k2, .string n2, .slice sl2 ks2.length cp2] 24 (0, 0))
  rw [show (((w.alloc (.cells #[.int .i64 k1, .string n1, .slice sl1 ks1.length cp1] 24 (0, 0))).alloc (.cells #[.int .i64 k2, .string n2, .slice sl2 ks2.length cp2] 24 (0, 0))).alloc (.cells #[.int .i64 k, .string ⟨#[]⟩, .slice (some ⟨w.heap.size + 1 + 1 + 1, 0, none⟩) 2 2] 24 (0, 0))).heap.size = w.heap.size + 1 + 1 + 1 by simp] at q
  have B := below_more (below_more (below_more (below_more (Below.refl _ w) (.cells #[.int .i64 k1, .string n1, .slice sl1 ks1.length cp1] 24 (0, 0))) (.cells #[.int .i64 k2, .string n2, .slice sl2 ks2.length cp2] 24 (0, 0))) (.cells #[.int .i64 k, .string ⟨#[]⟩, .slice (some ⟨w.heap.size + 1 + 1 + 1, 0, none⟩) 2 2] 24 (0, 0))) (.cells #[.int .i64 k1, .string n1, .slice sl1 ks1.length cp1, .int .i64 k2, .string n2, .slice sl2 ks2.length cp2] 24 (0, 0))
  exact bodyPost_ret (v := .agg #[.int .i64 k, .string ⟨#[]⟩, .slice (some ⟨w.heap.size + 1 + 1 + 1, 0, none⟩) 2 2]) (by simp [results, Try.results25, go_sem]) rfl ⟨_, rfl, Rep.two q (HO.out _ (by omega)) (HV.out.up' B) (HU.out.up' B), B⟩

set_option maxHeartbeats 1000000 in
theorem ofP_any (ok : Nat → Prop) (k : Int) (f : Fm) (v : Value) (w : World) (ho : ∀ b, w.heap.size ≤ b → ok b) (hv : Rep w ok f v) :
    Calls Try.prog 24 #[.int .i64 k, v] w fun e w' => ∃ x, e = .returned x ∧ Rep w' ok (.mk k ⟨#[]⟩ [f]) x ∧ Below w.heap.size w w' := by
  obtain ⟨k1, n1, ks1⟩ := f
  obtain ⟨sl1, cp1, rfl⟩ := slice_shape hv
  have HV : Hid (Rep w ok (.mk k1 n1 ks1) (.agg #[.int .i64 k1, .string n1, .slice sl1 ks1.length cp1])) := hv
  have HO : Hid (∀ b, w.heap.size ≤ b → ok b) := ho
  clear hv ho
  go_enter Try.func24, Try.ntmps24
  go_wp2_with fail
  have q := blk_new ((w.alloc (.cells #[.int .i64 k1, .string n1, .slice sl1 ks1.length cp1] 24 (0, 0))).alloc (.cells #[.int .i64 k, .string ⟨#[]⟩, .slice (some ⟨w.heap.size + 1 + 1, 0, none⟩) 1 1] 24 (0, 0))) (.cells #[.int .i64 k1, .string n1, .slice sl1 ks1.length cp1] 24 (0, 0))
  rw [show ((w.alloc (.cells #[.int .i64 k1, .string n1, .slice sl1 ks1.length cp1] 24 (0, 0))).alloc (.cells #[.int .i64 k, .string ⟨#[]⟩, .slice (some ⟨w.heap.size + 1 + 1, 0, none⟩) 1 1] 24 (0, 0))).heap.size = w.heap.size + 1 + 1 by simp] at q
  have B := below_more (below_more (below_more (Below.refl _ w) (.cells #[.int .i64 k1, .string n1, .slice sl1 ks1.length cp1] 24 (0, 0))) (.cells #[.int .i64 k, .string ⟨#[]⟩, .slice (some ⟨w.heap.size + 1 + 1, 0, none⟩) 1 1] 24 (0, 0))) (.cells #[.int .i64 k1, .string n1, .slice sl1 ks1.length cp1] 24 (0, 0))
  exact bodyPost_ret (v := .agg #[.int .i64 k, .string ⟨#[]⟩, .slice (some ⟨w.heap.size + 1 + 1, 0, none⟩) 1 1]) (by simp [results, Try.results24, go_sem]) rfl ⟨_, rfl, Rep.one q (HO.out _ (by omega)) (HV.out.up' B), B⟩

end Go.Proofs.Ytpmogojpdigbmac
/- Proofs as data, and what the checker says of them. -/
namespace Go.Proofs.Ytpmogojpdigbmac

instance : BEq Fm := ⟨sameB⟩
instance : LawfulBEq Fm where
  eq_of_beq := fun {a b} h => sameB_eq a b h
  rfl := fun {a} => sameB_refl a
instance : DecidableEq Fm := fun a b => if h : (a == b) = true then isTrue (eq_of_beq h) else isFalse fun e => h (by rw [e]; exact sameB_refl b)

theorem hasF_mem (n : Fm) (fs : List Fm) : hasF n fs = true ↔ n ∈ fs := by
  unfold hasF
  rw [List.any_eq_true]
  constructor
  · rintro ⟨g, hg, h⟩
    rw [← sameB_eq g n h]; exact hg
  · exact fun h => ⟨n, h, sameB_refl n⟩

/-- A proof: rule, formula, its end's two sides, and the proofs in it. -/
inductive Pf where
  | mk (rule : ByteArray) (f : Fm) (l r : List Fm) (ks : List Pf) : Pf
def Pf.rule : Pf → ByteArray
  | .mk a _ _ _ _ => a
def Pf.f : Pf → Fm
  | .mk _ f _ _ _ => f
def Pf.l : Pf → List Fm
  | .mk _ _ l _ _ => l
def Pf.r : Pf → List Fm
  | .mk _ _ _ r _ => r
def Pf.ks : Pf → List Pf
  | .mk _ _ _ _ ks => ks

/-- The code of the first formula that is not plain, and its number. -/
def firstBad : List Fm → Nat → Int × Int
  | [], _ => (0, 0)
  | f :: fs, i => if f.pcode.1 = 0 then firstBad fs (i + 1) else (f.pcode.1, (i : Nat))
def seqCode (l r : List Fm) : Int × Int := if 60 < l.length + r.length then (2, 0) else firstBad (l ++ r) 0

inductive Ru
  | ax | tr | fa | andL | andR | orL | thenR | notR | contrL | orR | thenL | notL | contrR | cut | orR1 | orR2
  deriving DecidableEq

/-- The rules' names: ax, true, false, and-l, and-r, or-l, then-r, not-r, contr-l, or-r, then-l, not-l, contr-r, cut, or-r1, or-r2; weak. -/
def Ru.text : Ru → List UInt8
  | ax => [97, 120]
  | tr => [116, 114, 117, 101]
  | fa => [102, 97, 108, 115, 101]
  | andL => [97, 110, 100, 45, 108]
  | andR => [97, 110, 100, 45, 114]
  | orL => [111, 114, 45, 108]
  | thenR => [116, 104, 101, 110, 45, 114]
  | notR => [110, 111, 116, 45, 114]
  | contrL => [99, 111, 110, 116, 114, 45, 108]
  | orR => [111, 114, 45, 114]
  | thenL => [116, 104, 101, 110, 45, 108]
  | notL => [110, 111, 116, 45, 108]
  | contrR => [99, 111, 110, 116, 114, 45, 114]
  | cut => [99, 117, 116]
  | orR1 => [111, 114, 45, 114, 49]
  | orR2 => [111, 114, 45, 114, 50]
def weakT : List UInt8 := [119, 101, 97, 107]
/-- The rules of a calculus. -/
def rulesL (i : Bool) : List Ru := [.ax, .tr, .fa, .andL, .andR, .orL, .thenR, .notR, .contrL] ++ if i then [.orR1, .orR2, .thenL, .notL, .cut] else [.orR, .thenL, .notL, .contrR, .cut]
def ruleOf (i : Bool) (t : List UInt8) : Option Ru := (rulesL i).find? fun r => decide (r.text = t)

def Fm.kidA : Fm → Fm
  | .mk _ _ (a :: _) => a
  | f => f
def Fm.kidB : Fm → Fm
  | .mk _ _ (_ :: b :: _) => b
  | f => f
/-- The premises, if the rule applies. -/
def prem (i : Bool) (q : Ru) (f : Fm) (l r : List Fm) : Option (List (List Fm × List Fm)) :=
  let g := l.erase f
  let d := r.erase f
  let a := f.kidA
  let b := f.kidB
  match q with
  | .ax => if f ∈ l ∧ f ∈ r then some [] else none
  | .tr => if f.kind = 2 ∧ f ∈ r then some [] else none
  | .fa => if f.kind = 3 ∧ f ∈ l then some [] else none
  | .andL => if f.kind = 5 ∧ f ∈ l then some [(g ++ [a, b], r)] else none
  | .andR => if f.kind = 5 ∧ f ∈ r then some [(l, d ++ [a]), (l, d ++ [b])] else none
  | .orL => if f.kind = 6 ∧ f ∈ l then some [(g ++ [a], r), (g ++ [b], r)] else none
  | .thenR => if f.kind = 7 ∧ f ∈ r then some [(l ++ [a], d ++ [b])] else none
  | .notR => if f.kind = 4 ∧ f ∈ r then some [(l ++ [a], d)] else none
  | .contrL => if f ∈ l then some [(l ++ [f], r)] else none
  | .orR => if f.kind = 6 ∧ f ∈ r then some [(l, d ++ [a, b])] else none
  | .thenL => if f.kind = 7 ∧ f ∈ l then some [(g, if i then [a] else r ++ [a]), (g ++ [b], r)] else none
  | .notL => if f.kind = 4 ∧ f ∈ l then some [(g, if i then [a] else r ++ [a])] else none
  | .contrR => if f ∈ r then some [(l, r ++ [f])] else none
  | .cut => some [(l, if i then [f] else r ++ [f]), (l ++ [f], r)]
  | .orR1 => if f.kind = 6 ∧ f ∈ r then some [(l, [a])] else none
  | .orR2 => if f.kind = 6 ∧ f ∈ r then some [(l, [b])] else none

/-- Has no formula more often than. -/
def within : List Fm → List Fm → Bool
  | [], _ => true
  | f :: l, m => decide (f ∈ m) && within l (m.erase f)
def isEq (l m : List Fm) : Bool := decide (l.length = m.length) && within l m
def kidsC : List Pf → List (List Fm × List Fm) → Int
  | k :: ks, s :: ss => if isEq k.l s.1 && isEq k.r s.2 then kidsC ks ss else 7
  | _, _ => 0
def weakC (f : Fm) (l r : List Fm) (ks : List Pf) : Int :=
  if f = .mk 0 ⟨#[]⟩ [] then (match ks with
    | [k] => if within k.l l && within k.r r then 0 else 7
    | _ => 9) else 5
def stepC (i : Bool) : Pf → Int
  | .mk a f l r ks =>
    if (seqCode l r).1 ≠ 0 ∨ (i = true ∧ 1 < r.length) then 5
    else if a.data.toList = weakT then weakC f l r ks
    else match ruleOf i a.data.toList with
      | none => 4
      | some q => if f.pcode.1 ≠ 0 then 5 else match prem i q f l r with
        | none => 7
        | some ss => if ks.length ≠ ss.length then 9 else kidsC ks ss

mutual
def look (i : Bool) : Pf → Nat → Nat → Nat → (Int × Int) × Nat × Nat
  | .mk a f l r ks, deep, steps, cuts =>
    if steps = 20000 ∨ 400 < deep then ((2, 0), steps, cuts)
    else if stepC i (.mk a f l r ks) ≠ 0 then ((stepC i (.mk a f l r ks), (steps : Nat)), steps + 1, cuts)
    else looks i ks (deep + 1) (steps + 1) (if a.data.toList = Ru.cut.text then cuts + 1 else cuts)
def looks (i : Bool) : List Pf → Nat → Nat → Nat → (Int × Int) × Nat × Nat
  | [], _, s, c => ((0, 0), s, c)
  | k :: ks, d, s, c => if (look i k d s c).1.1 ≠ 0 then look i k d s c else looks i ks d (look i k d s c).2.1 (look i k d s c).2.2
end

/-! What is proved is true. -/
theorem within_count : ∀ (l m : List Fm), within l m = true ↔ ∀ f, l.count f ≤ m.count f
  | [], m => by simp [within]
  | f :: l, m => by
    rw [within, Bool.and_eq_true, decide_eq_true_eq, within_count l (m.erase f)]
    constructor
    · rintro ⟨hm, h⟩ g
      have := h g
      rw [List.count_erase] at this
      rw [List.count_cons]
      have hp := List.count_pos_iff.2 hm
      by_cases e : f == g
      · have e' : f = g := eq_of_beq e
        subst e'
        simp only [beq_self_eq_true, if_true] at this ⊢
        omega
      · rw [if_neg e] at *
        omega
    · intro h
      have hf := h f
      rw [List.count_cons_self] at hf
      refine ⟨List.count_pos_iff.1 (by omega), fun g => ?_⟩
      have := h g
      rw [List.count_cons] at this
      rw [List.count_erase]
      by_cases e : f == g
      · rw [if_pos e] at *
        omega
      · rw [if_neg e] at *
        omega
theorem count_sum_perm {l m : List Fm} (hl : l.length = m.length) (h : within l m = true) : l.Perm m := by
  induction l generalizing m with
  | nil =>
    have : m = [] := List.length_eq_zero_iff.1 (by simpa using hl.symm)
    rw [this]
  | cons f l ih =>
    rw [within, Bool.and_eq_true, decide_eq_true_eq] at h
    have hm := h.1
    have := ih (m := m.erase f) (by
      have := List.length_erase_of_mem hm
      simp only [List.length_cons] at hl
      omega) h.2
    exact (List.Perm.cons f this).trans (List.perm_cons_erase hm).symm
theorem isEq_perm (l m : List Fm) : isEq l m = true ↔ l.Perm m := by
  unfold isEq
  rw [Bool.and_eq_true, decide_eq_true_eq]
  constructor
  · exact fun h => count_sum_perm h.1 h.2
  · exact fun h => ⟨h.length_eq, (within_count l m).2 fun f => Nat.le_of_eq (h.count_eq f)⟩
end Go.Proofs.Ytpmogojpdigbmac
/- What is proved is true. -/
namespace Go.Proofs.Ytpmogojpdigbmac

theorem fine_one_of {f : Fm} (hf : Fine f) (hk : f.kind = 4) : ∃ a, f = .mk 4 ⟨#[]⟩ [a] ∧ f.kidA = a ∧ Fine a := by
  rcases hf.forms with ⟨n, rfl, hn⟩ | rfl | rfl | ⟨k, g, h, rfl, hg⟩ | ⟨k, g, g', h, rfl, hg, hg'⟩
  · cases hk
  · cases hk
  · cases hk
  · have : k = 4 := hk
    subst this
    exact ⟨g, rfl, rfl, hg⟩
  · have : k = 4 := hk
    omega
theorem fine_two_of {f : Fm} (hf : Fine f) (hk : f.kind = 5 ∨ f.kind = 6 ∨ f.kind = 7) : ∃ a b, f = .mk f.kind ⟨#[]⟩ [a, b] ∧ f.kidA = a ∧ f.kidB = b ∧ Fine a ∧ Fine b := by
  rcases hf.forms with ⟨n, rfl, hn⟩ | rfl | rfl | ⟨k, g, h, rfl, hg⟩ | ⟨k, g, g', h, rfl, hg, hg'⟩
  · rcases hk with h | h | h <;> cases h
  · rcases hk with h | h | h <;> cases h
  · rcases hk with h | h | h <;> cases h
  · have : k = 5 ∨ k = 6 ∨ k = 7 := hk
    omega
  · exact ⟨g, g', rfl, rfl, rfl, hg, hg'⟩

end Go.Proofs.Ytpmogojpdigbmac
/- Walks: lists of formulas copied (slices.Clone). -/
namespace Go.Proofs.Ytpmogojpdigbmac
open Go.RowKit

theorem reps_lq {ok : Nat → Prop} {w : World} {b : Nat} : ∀ {fs : List Fm} {off : Nat}, Reps w ok b off fs → ∃ cs, LQ ok w cs fs ∧ ∀ (j : Nat) (u : Value), cs[j]? = some u → w.cell? ⟨b, off + j, none⟩ = some u
  | [], off, _ => ⟨[], trivial, fun j u h => by simp at h⟩
  | f :: fs, off, h => by
    obtain ⟨⟨c0, c1, c2, h0, h1, h2, hr⟩, hs⟩ := Reps.cons.1 h
    obtain ⟨cs, hl, hc⟩ := reps_lq hs
    refine ⟨c0 :: c1 :: c2 :: cs, ⟨hr, hl⟩, fun j u hu => ?_⟩
    rcases j with _ | _ | _ | j
    · simp at hu; subst hu; exact h0
    · simp at hu; subst hu; exact h1
    · simp at hu; subst hu; exact h2
    · have := hc j u (by simpa using hu)
      rw [show off + (j + 1 + 1 + 1) = off + 3 + j by omega]
      exact this
theorem LQ.one {ok : Nat → Prop} {w : World} : ∀ {cs : List Value} {fs : List Fm}, LQ ok w cs fs → ∀ u ∈ cs, u.oneCell' = true
  | [], [], _, u, hu => by cases hu
  | c0 :: c1 :: c2 :: cs, ⟨k, n, ks⟩ :: fs, h, u, hu => by
    obtain ⟨sl, cap, hv, -⟩ := Rep.def.1 h.1
    simp only [Value.agg.injEq, Array.mk.injEq, List.cons.injEq, and_true] at hv
    obtain ⟨rfl, rfl, rfl⟩ := hv
    simp only [List.mem_cons] at hu
    rcases hu with rfl | rfl | rfl | hu
    · rfl
    · rfl
    · rfl
    · exact LQ.one h.2 u hu

/-- A list of formulas, in blocks for which P holds. -/
def FLp (P : Nat → Prop) (w : World) (v : Value) (fs : List Fm) : Prop := ∃ ad cap, v = .slice ad fs.length cap ∧ fs.length ≤ cap ∧ cap ≤ maxLen ∧ (fs ≠ [] → ∃ b off, ad = some ⟨b, off, none⟩ ∧ P b ∧ Reps w P b off fs)
theorem reps_move {w w' : World} {P P' : Nat → Prop} {b : Nat} (h : ∀ k, k < w.heap.size → P k → w'.heap[k]? = w.heap[k]? ∧ P' k) {off : Nat} {fs : List Fm} (hb : P b) (hr : Reps w P b off fs) : Reps w' P' b off fs := by
  cases fs with
  | nil => exact Reps.nil
  | cons f fs =>
    obtain ⟨⟨c0, _, _, h0, _⟩, _⟩ := Reps.cons.1 hr
    exact Reps.keep (fun a ha hlt => cell_of_block (h a.block hlt ha).1) (fun k hk hp => (h k hk hp).2) hb (lt_of_cell h0) off _ hr
theorem FLp.move {w w' : World} {P P' : Nat → Prop} {v : Value} {fs : List Fm} (hf : FLp P w v fs) (h : ∀ k, k < w.heap.size → P k → w'.heap[k]? = w.heap[k]? ∧ P' k) : FLp P' w' v fs := by
  obtain ⟨ad, cap, h1, h2, h3, h4⟩ := hf
  refine ⟨ad, cap, h1, h2, h3, fun hne => ?_⟩
  obtain ⟨b, off, h5, h6, h7⟩ := h4 hne
  have hlt : b < w.heap.size := by
    cases fs with
    | nil => exact absurd rfl hne
    | cons f fs =>
      obtain ⟨⟨c0, _, _, h0, _⟩, _⟩ := Reps.cons.1 h7
      exact lt_of_cell h0
  exact ⟨b, off, h5, (h b hlt h6).2, reps_move h h6 h7⟩
theorem FL.low {w : World} {v : Value} {fs : List Fm} (hf : FL w v fs) : FLp (· < w.heap.size) w v fs := by
  obtain ⟨ad, cap, h1, h2, h3, h4⟩ := hf
  exact FLp.move (P := fun _ => True) ⟨ad, cap, h1, h2, h3, fun hne => by obtain ⟨b, off, h5, h6⟩ := h4 hne; exact ⟨b, off, h5, trivial, h6⟩⟩ fun k hk _ => ⟨rfl, hk⟩
theorem FLp.list {w : World} {P : Nat → Prop} {v : Value} {fs : List Fm} (hf : FLp P w v fs) : FL w v fs := by
  obtain ⟨ad, cap, h1, h2, h3, h4⟩ := hf
  refine ⟨ad, cap, h1, h2, h3, fun hne => ?_⟩
  obtain ⟨b, off, h5, h6, h7⟩ := h4 hne
  exact ⟨b, off, h5, reps_move (fun _ _ _ => ⟨rfl, trivial⟩) h6 h7⟩
theorem FLp.up {w w' : World} {P : Nat → Prop} {v : Value} {fs : List Fm} (hf : FLp P w v fs) (hb : Below w.heap.size w w') : FLp P w' v fs := hf.move fun k hk hp => ⟨hb.block k hk, hp⟩
theorem FLp.cells {P : Nat → Prop} {w : World} {ad : Option Addr} {cap : Nat} {fs : List Fm} (h : FLp P w (.slice ad fs.length cap) fs) (hne : fs ≠ []) : ∃ b off cs, ad = some ⟨b, off, none⟩ ∧ LQ P w cs fs ∧ ∀ (j : Nat) (u : Value), cs[j]? = some u → w.cell? ⟨b, off + j, none⟩ = some u := by
  obtain ⟨ad', cap', hv, -, -, h4⟩ := h
  simp only [Value.slice.injEq, true_and] at hv
  obtain ⟨rfl, rfl⟩ := hv
  obtain ⟨b, off, h5, -, h6⟩ := h4 hne
  obtain ⟨cs, h7, h8⟩ := reps_lq h6
  exact ⟨b, off, cs, h5, h7, h8⟩
theorem kp_list {P : Nat → Prop} {B : Nat} {w : World} {ad : Option Addr} {cap : Nat} {fs : List Fm} (h : KP P B w ad cap fs) (hPB : ∀ b, B ≤ b → P b) : FLp P w (.slice ad fs.length cap) fs := by
  obtain ⟨sl', cap', hv, -, h1, h2, h3⟩ := Rep.def.1 (h.rep hPB 0 ⟨#[]⟩ (by simp [maxLen, ByteArray.size]))
  simp only [Value.agg.injEq, Array.mk.injEq, List.cons.injEq, Value.slice.injEq, true_and, and_true] at hv
  obtain ⟨rfl, rfl⟩ := hv
  exact ⟨ad, cap, rfl, h1, h2, h3⟩
theorem FL.flp {w : World} {v : Value} {fs : List Fm} (h : FL w v fs) : FLp (fun _ => True) w v fs := by
  obtain ⟨ad, cap, h1, h2, h3, h4⟩ := h
  exact ⟨ad, cap, h1, h2, h3, fun hne => by obtain ⟨b, off, h5, h6⟩ := h4 hne; exact ⟨b, off, h5, trivial, h6⟩⟩

theorem nil_yes (n c : Nat) (w : World) : (binOp BinOp.eql 22 (.slice none n c) (.slice none 0 0)).run Try.prog w = .ok (.bool true) w := by kernel_rfl
theorem nil_no (a : Addr) (n c : Nat) (w : World) : (binOp BinOp.eql 22 (.slice (some a) n c) (.slice none 0 0)).run Try.prog w = .ok (.bool false) w := by kernel_rfl

set_option maxRecDepth 10000 in
set_option maxHeartbeats 2000000 in
theorem cloneF_low (P : Nat → Prop) (fs : List Fm) (hl : fs.length ≤ 1000) (v : Value) (w : World) (hv : FLp P w v fs) :
    Calls Try.prog 74 #[v] w fun e w' => ∃ ad cp, e = .returned (.slice ad fs.length cp) ∧ KP P w.heap.size w' ad cp fs ∧ Below w.heap.size w w' := by
  obtain ⟨ad, cap, rfl, h1, h2, h3⟩ := hv
  have HV : Hid (FLp P w (.slice ad fs.length cap) fs) := ⟨ad, cap, rfl, h1, h2, h3⟩
  obtain ⟨i0, hi, hz0, hz1, hz2⟩ := infoFormula
  have hlI : (fs.length : Int) ≤ 1000 := by omega
  have hny := fun n c w => nil_yes n c w
  have hnn := fun a n c w => nil_no a n c w
  clear h3
  by_cases hne : fs = []
  · subst hne
    cases ad with
    | none =>
      go_enter Try.func74, Try.ntmps74
      go_wp2_with fail
      go_ret
      exact ⟨none, 0, rfl, KP.nil, Below.refl _ _⟩
    | some a =>
      go_enter Try.func74, Try.ntmps74
      go_wp2_with fail
      go_ret
      exact ⟨some ⟨w.heap.size, 0, none⟩, 0, rfl, ⟨[], ⟨rfl, Or.inr ⟨w.heap.size, 0, #[], rfl, Nat.le_refl _, blk_new _ _, Nat.le_refl _, by simp, rfl, rfl⟩⟩, trivial⟩, below_more (Below.refl _ w) _⟩
  · obtain ⟨b, off, cs, rfl, hlq, hcs⟩ := HV.out.cells hne
    have hpos : 0 < fs.length := List.length_pos_iff.2 hne
    have hlen := hlq.len
    have HOne : Hid (∀ u ∈ cs, u.oneCell' = true) := hlq.one
    have HQ : Hid (LQ P w cs fs) := hlq
    have HCs : Hid (∀ (j : Nat) (u : Value), cs[j]? = some u → w.cell? ⟨b, off + j, none⟩ = some u) := hcs
    have hown : (w.alloc (.cells #[] 24 (0, 0))).ownsRow w.heap.size 24 3 (.slice (some ⟨w.heap.size, 0, none⟩) 0 0) 0 [] := ⟨rfl, Or.inr ⟨w.heap.size, 0, #[], rfl, Nat.le_refl _, blk_new _ _, Nat.le_refl _, by simp, rfl, rfl⟩⟩
    clear hne hlq hcs
    go_enter Try.func74, Try.ntmps74
    go_wp2_with (first
      | (at_builtin
         refine wpList_append_lies _ rfl _ _ 22 rfl w.heap.size 24 i0 (.agg #[.int .i64 0, .string ⟨#[]⟩, .slice none 0 0]) 3 48 Try.underlying22 hi hz0 hz1 hz2 rfl (by decide) _ _ _ rfl hown ⟨b, off, none⟩ fs.length cap cs rfl hlen (fun j u hu => by
           rw [add_none]
           exact (((Below.refl _ w).alloc (Nat.le_refl _) _).cell (lt_of_cell (HCs.out j u hu))).trans (HCs.out j u hu)) HOne.out hpos (by unfold maxLen; omega) (by omega) (by simp) _ rfl ?_
         intro g3 cp3 w3 hown3 hgrow hat hlt3)
      | fail)
    have hown3' : w3.ownsRow w.heap.size 24 3 (.slice (some ⟨g3, 0, none⟩) fs.length cp3) fs.length cs := by
      have := hown3
      rw [Nat.zero_add] at this
      exact this
    have hgrow' : (w.alloc (.cells #[] 24 (0, 0))).grownBy w3 (some w.heap.size) := hgrow
    have hbl : ∀ j, j < w.heap.size → w3.heap[j]? = w.heap[j]? := fun j hj => by
      rw [hgrow'.block j (by simp; omega) (fun e => by have := Option.some.inj e; omega), Below.heap_alloc _ _ _ hj]
    have hB : Below w.heap.size w w3 := ⟨hgrow'.os, hgrow'.tape, hgrow'.output, by have := hgrow'.size; simp at this; omega, hbl⟩
    have hg3 : w.heap.size ≤ g3 := (hown3'.lt g3 rfl).1
    have hKP : KP P w.heap.size w3 (some ⟨g3, 0, none⟩) cp3 fs := ⟨cs, hown3', HQ.out.move fun b hb hp => ⟨hbl b hb, hp, fun e => by
      have : g3 = b := by simpa [Value.ownBlock] using e
      omega⟩⟩
    clear hown3 hown3' hgrow hgrow' hat hown
    have hz : ((0 : Int) + (fs.length : Int)) = (fs.length : Int) := by omega
    go_wp2_with fail
    go_ret
    refine ⟨some ⟨g3, 0, none⟩, cp3, ?_, hKP, hB⟩
    simp
end Go.Proofs.Ytpmogojpdigbmac
/- Walks: room for formulas (slices.Grow). -/
namespace Go.Proofs.Ytpmogojpdigbmac
open Go.RowKit

set_option maxRecDepth 10000 in
set_option maxHeartbeats 2000000 in
theorem grow_zero (w : World) :
    Calls Try.prog 73 #[.slice none 0 0, .int .i64 0] w fun e w' => e = .returned (.slice none 0 0) ∧ w' = w := by
  go_enter Try.func73, Try.ntmps73
  go_wp2_with fail
  go_ret
  exact ⟨rfl, rfl⟩

set_option maxRecDepth 10000 in
set_option maxHeartbeats 2000000 in
theorem grow_some (n : Nat) (hn : 0 < n) (hn2 : n ≤ 1000) (w : World) :
    Calls Try.prog 73 #[.slice none 0 0, .int .i64 (n : Nat)] w fun e w' => ∃ g cp, e = .returned (.slice (some ⟨g, 0, none⟩) 0 cp) ∧ w'.ownsRow w.heap.size 24 3 (.slice (some ⟨g, 0, none⟩) 0 cp) 0 [] ∧ Below w.heap.size w w' := by
  obtain ⟨i0, hi, hz0, hz1, hz2⟩ := infoFormula
  have hnI : (0 : Int) < (n : Int) := by omega
  have hnJ : (n : Int) ≤ 1000 := by omega
  have hrz : ∀ ty, (Builtin.append_ #[22, 3] ty #[.slice none 0 0, .int .i64 (n : Nat)]).run Try.prog w = .ok (.slice (some ⟨w.heap.size, 0, none⟩) n (grownCap w n 0 24)) (w.drew.alloc (.cells (#[] ++ Builtin.zeroCells (Value.agg #[.int .i64 0, .string ⟨#[]⟩, .slice none 0 0]).cells n ++ Builtin.zeroCells (Value.agg #[.int .i64 0, .string ⟨#[]⟩, .slice none 0 0]).cells (grownCap w n 0 24 - n)) 24)) := fun ty => by
    have h := Lib.run_append_grow_zeros w 22 3 ty 24 i0 (.agg #[.int .i64 0, .string ⟨#[]⟩, .slice none 0 0]) .i64 .i64 Try.underlying22 Try.underlying3 hi hz0 none 0 0 [] (run_firstCells_none w.drew i0.size 0 0 0) n hn (by omega) (by omega) (by omega) (by rw [hz2]; omega) (by rw [hz2]; exact growslice_fits (by omega) (by omega))
    simpa using h
  have hGn : n ≤ grownCap w n 0 24 := grownCap_ge w _ _ _
  have hGm : grownCap w n 0 24 ≤ maxLen := grownCap_le_maxLen w n 0 24 (by unfold maxLen; omega)
  generalize grownCap w n 0 24 = G at *
  have hG63 : (G : Int) ≤ 9223372036854775807 := by unfold maxLen at hGm; omega
  have hOw : (w.drew.alloc (.cells (#[] ++ Builtin.zeroCells (Value.agg #[.int .i64 0, .string ⟨#[]⟩, .slice none 0 0]).cells n ++ Builtin.zeroCells (Value.agg #[.int .i64 0, .string ⟨#[]⟩, .slice none 0 0]).cells (G - n)) 24)).ownsRow w.heap.size 24 3 (.slice (some ⟨w.heap.size, 0, none⟩) 0 G) 0 [] := by
    refine ⟨rfl, Or.inr ⟨w.heap.size, G, _, rfl, Nat.le_refl _, blk_new _ _, Nat.zero_le _, hGm, ?_, rfl⟩⟩
    have h3 : (Value.agg #[.int .i64 0, .string ⟨#[]⟩, .slice none 0 0]).cells.size = 3 := rfl
    rw [Array.size_append, Array.size_append, size_zeroCells, size_zeroCells, h3]
    simp only [Array.size_empty]
    omega
  have HOw : Hid (World.ownsRow _ _ _ _ _ _ _) := hOw
  have hBw : Below w.heap.size w (w.drew.alloc (.cells (#[] ++ Builtin.zeroCells (Value.agg #[.int .i64 0, .string ⟨#[]⟩, .slice none 0 0]).cells n ++ Builtin.zeroCells (Value.agg #[.int .i64 0, .string ⟨#[]⟩, .slice none 0 0]).cells (G - n)) 24)) := below_more (Below.refl _ w).drew _
  generalize w.drew.alloc _ = W at *
  clear hOw hz0 hz1 hz2 hi
  go_enter Try.func73, Try.ntmps73
  go_wp2_with (first
    | (at_builtin
       refine Lib.wpList_append_run _ rfl _ _ _ _ rfl _ _ rfl rfl _ _ (hrz _) ?_)
    | fail)
  all_goals
    go_ret
    exact ⟨_, _, rfl, HOw.out, hBw⟩
end Go.Proofs.Ytpmogojpdigbmac
