/- Texts of one proof, one behind the other: Fault1. -/
import Derived.Test.YtclinobfbdljhahB11
import Derived.Test.YtclinobfbdljhahB12
import Derived.Deep.RegionLaw
import Derived.Test.YtclinobfbdljhahB06
/- Walks: FormulaFault of the yardstick. -/
namespace Go.Proofs.Ytclinobfbdljhah
open Go.RowKit

set_option maxHeartbeats 1000000 in
theorem arity_any (k : Int) (w : World) :
    Calls Try.prog 36 #[.int .i64 k] w fun e w' => e = .returned (.int .i64 (if kindB k = true then kidsN k else -1)) ∧ Below w.heap.size w w' := by
  (have hB : ∀ o, Below w.heap.size w (w.alloc o) := fun o => (Below.refl _ _).alloc (Nat.le_refl _) _); by_cases h1 : k < 1
  · have e : kindB k = false := by simp [kindB]; omega
    rw [e]
    go_enter Try.func36, Try.ntmps36
    go_wp2; go_ret; exact ⟨rfl, Below.refl _ _⟩
  · by_cases h2 : 9 < k
    · have e : kindB k = false := by simp [kindB]; omega
      rw [e]
      go_enter Try.func36, Try.ntmps36
      go_wp2; go_ret; exact ⟨rfl, Below.refl _ _⟩
    · have : k = 1 ∨ k = 2 ∨ k = 3 ∨ k = 4 ∨ k = 5 ∨ k = 6 ∨ k = 7 ∨ k = 8 ∨ k = 9 := by omega
      rcases this with rfl | rfl | rfl | rfl | rfl | rfl | rfl | rfl | rfl
      all_goals
        clear h1 h2
        go_enter Try.func36, Try.ntmps36
        go_wp2; go_ret; exact ⟨rfl, hB _⟩

theorem LR.reps {A : Nat} {w : World} {b : Nat} : ∀ {cs : List Value} {fs : List Fm} (off : Nat), LR A w cs fs → (∀ (j : Nat) (u : Value), cs[j]? = some u → w.cell? ⟨b, off + j, none⟩ = some u) → Reps w (fun _ => True) b off fs
  | [], [], _, _, _ => Reps.nil
  | c0 :: c1 :: c2 :: cs, f :: fs, off, h, hc => Reps.cons.2 ⟨⟨c0, c1, c2, hc 0 c0 rfl, hc 1 c1 rfl, hc 2 c2 rfl, h.1.all⟩, LR.reps (off + 3) h.2 fun j u hu => by
      (have := hc (j + 3) u (by simpa using hu))
      rwa [show off + (j + 3) = off + 3 + j by omega] at this⟩

/-- A list that a call has made, as kids are. -/
theorem LO.reps {A B : Nat} {w : World} {v : Value} {fs : List Fm} (h : LO A B w v fs) : ∃ g cap, v = .slice (some ⟨g, 0, none⟩) fs.length cap ∧ fs.length ≤ cap ∧ cap ≤ maxLen ∧ Reps w (fun _ => True) g 0 fs := by
  obtain ⟨g, cap, cs, rfl, hown, hlr⟩ := h
  rcases hown.2 with ⟨hv, h0⟩ | ⟨g', cp, cur, hv, hg, hh, h1, h2, -⟩
  · cases hv
  · simp only [Value.slice.injEq, true_and] at hv
    obtain ⟨-, rfl⟩ := hv; (refine ⟨g, cap, rfl, h1, h2, hlr.reps 0 fun j u hu => ?_⟩); have := hown.cells (g := g) rfl j u hu; rw [add_none] at this; exact this

theorem Rep.name {w : World} {ok : Nat → Prop} {k : Int} {n : ByteArray} {ks : List Fm} {v : Value} (h : Rep w ok (.mk k n ks) v) : n.size ≤ maxLen ∧ ks.length ≤ maxLen := by
  obtain ⟨sl, cap, -, h1, h2, h3, -⟩ := Rep.def.1 h; (exact ⟨h1, by omega⟩)

def Chk.code : Chk → Int × Int
  | .ok _ => (0, 0)
  | .bad c a => (c, a)
theorem code_of (f : Fm) : f.code = (chk f 0).code := by
  rw [Fm.code]
  cases chk f 0 <;> rfl

theorem kidsN_pos (k : Int) : 0 ≤ kidsN k := by
  unfold kidsN
  split
  · decide
  · split <;> decide

set_option maxHeartbeats 4000000 in
theorem rfault_any (f : Fm) (v : Value) (w : World) (hrep : Rep w (fun _ => True) f v) :
    Calls Try.prog 13 #[v] w fun e w' => e = .returned (.agg #[.int .i64 f.code.1, .int .i64 f.code.2]) ∧ Below w.heap.size w w' := by
  have hrun := run_walk f; have hwl := walkL_le f 201; (have hwk := fun w h => walk_any f v 201 w (by omega) h); have hcode := code_of f; obtain ⟨k, n, ks⟩ := f; obtain ⟨sl, cap, rfl⟩ := slice_shape hrep; have HW : Hid (∀ w, _ → Calls Try.prog 35 _ w _) := hwk; have HR : Hid (run (walkL (.mk k n ks) 201) 0 = chk (.mk k n ks) 0) := hrun; have HC : Hid ((Fm.mk k n ks).code = (chk (.mk k n ks) 0).code) := hcode; clear hwk hrun hcode; generalize walkL (.mk k n ks) 201 = fs at *; generalize (Fm.mk k n ks).code = cd at *; (have hfI : (fs.length : Int) ≤ 202 := by omega)
  go_enter Try.func13, Try.ntmps13
  go_wp2_with (first
    | (go_at_call 35
       refine (HW.out _ ((hrep.more _).more _)).mono ?_; rintro e w1 ⟨u, rfl, hlo, hb1⟩; obtain ⟨g, cp, rfl, hc1, hc2, hrs⟩ := hlo.reps; have r1 := below_keep hb1 (blk_new (w.alloc _) _); (rw [show (w.alloc _).heap.size = w.heap.size + 1 by simp] at r1); have B1 := below_join (below_more (below_more (Below.refl _ w) _) _) hb1; (have HS : Hid (Reps w1 (fun _ => True) g 0 fs) := hrs)
       clear hlo hrs)
    | fail)
  go_loopg [4, 5] fs.length (fun g c d wr => ∃ i, i ≤ fs.length ∧ i ≤ 200 ∧ g = fs.length - i ∧ c = .int .i64 (i : Nat) ∧ Below w1.heap.size w1 wr ∧ Hid (run (fs.drop i) i = chk (.mk k n ks) 0))
  case atStart => exact ⟨0, by omega, by omega, by omega, rfl, Below.refl _ _, HR.out⟩
  case round =>
    obtain ⟨i, hile, hi2, hg, rfl, hbr, HN⟩ := hrel; have HG : Hid (gk = fs.length - i) := hg; clear hg; have B2 := below_join B1 hbr; have r2 := below_keep hbr r1; obtain ⟨o0, o1, o2, o3⟩ := blk2 r2; by_cases hlt : i < fs.length
    · obtain ⟨⟨k2, n2, ks2⟩, hki⟩ : ∃ f, fs[i]? = some f := ⟨_, List.getElem?_eq_getElem hlt⟩
      obtain ⟨sl2, cap2, g0, g1, g2, hrep2⟩ := (HS.out.up hbr).at i k2 n2 ks2 hki; obtain ⟨hn2, hk2⟩ := hrep2.name; rw [Nat.zero_add] at g0 g1 g2; (have hltI : (i : Int) < (fs.length : Int) := by omega); (have hlc : ((i : Nat) : Int) < ((cp : Nat) : Int) := by omega); have hnx := HN.out; rw [run_drop hki] at hnx; have HX : Hid (_ = chk (.mk k n ks) 0) := hnx; clear hnx HN hki HR HW; have zg : g < wr.heap.size := lt_of_cell g0; have hni : 0 ≤ kidsN k2 := kidsN_pos k2; (have hnm := fun w => refName_any n2 hn2 w); by_cases h200 : i = 200
      · have hcd : cd = (2, 0) := by rw [HC.out, ← HX.out, if_pos h200]; rfl
        have har := arity_any k2; (generalize (if kindB k2 = true then kidsN k2 else -1) = ar at har); have HA : Hid (∀ w, Calls Try.prog 36 _ w _) := har; subst h200; (have hltJ : (200 : Int) < (fs.length : Int) := by omega); (have hlcJ : (200 : Int) < ((cp : Nat) : Int) := by omega)
        replace g0 : wr.cell? ⟨g, 600, none⟩ = some (.int .i64 k2) := g0
        replace g1 : wr.cell? ⟨g, 601, none⟩ = some (.string n2) := g1
        replace g2 : wr.cell? ⟨g, 602, none⟩ = some (.slice sl2 ks2.length cap2) := g2
        clear hnm har hltI hlc
        go_wp2_with (first
          | (go_at_call 36
             refine (HA.out _).mono ?_; rintro e w2 ⟨rfl, hb2⟩; have r3 := below_keep hb2 r2; have B3 := below_join B2 hb2; have m0 := (hb2.cell (p := ⟨g, 600, none⟩) zg).trans g0; have m1 := (hb2.cell (p := ⟨g, 601, none⟩) zg).trans g1
             have m2 := (hb2.cell (p := ⟨g, 602, none⟩) zg).trans g2)
          | (go_at_call 37
             refine (fault_any _ _ _).mono ?_; rintro e w3 ⟨rfl, hb3⟩; have r4 := below_keep hb3 r3; have B4 := below_join B3 hb3
             obtain ⟨j0, j1, j2, j3⟩ := blk2 r4)
          | fail)
        have f2 := set2 r4 (.int .i64 2) (.int .i64 0); (have b2 := (B4.setCell (p := ⟨w.heap.size + 1, 0, none⟩) (by simp) (.int .i64 2)).setCell (p := ⟨w.heap.size + 1, 1, none⟩) (by simp) (.int .i64 0)); generalize World.setCell _ _ _ = F at f2 b2 ⊢; obtain ⟨k1, k2, -⟩ := blk2 f2; (exact bodyPost_ret (v := .agg #[.int .i64 2, .int .i64 0]) (by simp [results, Try.results13, go_sem, k1, k2]) rfl ⟨by rw [hcd], b2⟩)
      · have h200I : ¬ (i : Int) = 200 := by omega
        (have h200J : ((i : Int) == 200) = false := by simpa using h200I); have hx := HX.out; rw [if_neg h200] at hx; by_cases hkb : kindB k2 = true
        · have HA : Hid (∀ w, Calls Try.prog 36 #[.int .i64 k2] w fun e w' => e = .returned (.int .i64 (kidsN k2)) ∧ Below w.heap.size w w') := fun w => by
            have := arity_any k2 w
            rwa [if_pos hkb] at this
          by_cases hsz : (ks2.length : Int) = kidsN k2
          · have hsJ : ((ks2.length : Int) != kidsN k2) = false := by simpa using hsz
            rcases hnb : nameB k2 n2 with _ | _
            · have hnf : nodeF k2 n2 ks2.length = none := by simp [nodeF, hkb, hsz, hnb]
              rw [hnf] at hx; have HY : Hid (run (fs.drop (i + 1)) (i + 1) = chk (.mk k n ks) 0) := hx; clear hx HX hnf; by_cases h1 : k2 = 1
              · subst h1
                (have hm : isNm n2.data.toList = true := by simpa [nameB] using hnb); rw [hm] at hnm; have HNm : Hid (∀ w, Calls Try.prog 12 _ w _) := hnm; clear hnm hnb hm; generalize kidsN 1 = kn at *
                go_wp2_with (first
                  | (go_at_call 36
                     refine (HA.out _).mono ?_; rintro e w2 ⟨rfl, hb2⟩; have r3 := below_keep hb2 r2; have B3 := below_join B2 hb2; have m0 := (hb2.cell (p := ⟨g, i * 3, none⟩) zg).trans g0; have m1 := (hb2.cell (p := ⟨g, i * 3 + 1, none⟩) zg).trans g1
                     have m2 := (hb2.cell (p := ⟨g, i * 3 + 2, none⟩) zg).trans g2)
                  | (go_at_call 12
                     refine (HNm.out _).mono ?_
                     rintro e w4 ⟨rfl, rfl⟩)
                  | fail)
                go_roundg (fs.length - (i + 1))
                case measure => have := HG.out; omega
                case rel => exact ⟨i + 1, by omega, by omega, rfl, by go_num, below_join hbr hb2, HY⟩
              · have h1J : (k2 == 1) = false := by simpa using h1
                (have h1K : (k2 != 1) = true := by simpa using h1); (have hm : n2.toList.isEmpty = true := by rw [ByteArray.toList_eq]; simpa [nameB, h1] using hnb); clear hnm hnb; generalize kidsN k2 = kn at *
                go_wp2_with (first
                  | (go_at_call 36
                     refine (HA.out _).mono ?_; rintro e w2 ⟨rfl, hb2⟩; have r3 := below_keep hb2 r2; have B3 := below_join B2 hb2; have m0 := (hb2.cell (p := ⟨g, i * 3, none⟩) zg).trans g0; have m1 := (hb2.cell (p := ⟨g, i * 3 + 1, none⟩) zg).trans g1
                     have m2 := (hb2.cell (p := ⟨g, i * 3 + 2, none⟩) zg).trans g2)
                  | fail)
                go_roundg (fs.length - (i + 1))
                case measure => have := HG.out; omega
                case rel => exact ⟨i + 1, by omega, by omega, rfl, by go_num, below_join hbr hb2, HY⟩
            · have hnf : nodeF k2 n2 ks2.length = some 8 := by simp [nodeF, hkb, hsz, hnb]
              (have hcd : cd = (8, (i : Int)) := by rw [HC.out, ← hx, hnf]; rfl); clear hx HX hnf; by_cases h1 : k2 = 1
              · subst h1
                (have hm : isNm n2.data.toList = false := by simpa [nameB] using hnb); rw [hm] at hnm; have HNm : Hid (∀ w, Calls Try.prog 12 _ w _) := hnm; clear hnm hnb hm; generalize kidsN 1 = kn at *
                go_wp2_with (first
                  | (go_at_call 36
                     refine (HA.out _).mono ?_; rintro e w2 ⟨rfl, hb2⟩; have r3 := below_keep hb2 r2; have B3 := below_join B2 hb2; have m0 := (hb2.cell (p := ⟨g, i * 3, none⟩) zg).trans g0; have m1 := (hb2.cell (p := ⟨g, i * 3 + 1, none⟩) zg).trans g1
                     have m2 := (hb2.cell (p := ⟨g, i * 3 + 2, none⟩) zg).trans g2)
                  | (go_at_call 12
                     refine (HNm.out _).mono ?_
                     rintro e w4 ⟨rfl, rfl⟩)
                  | (go_at_call 37
                     refine (fault_any _ _ _).mono ?_; rintro e w3 ⟨rfl, hb3⟩; have r4 := below_keep hb3 r3; have B4 := below_join B3 hb3
                     obtain ⟨j0, j1, j2, j3⟩ := blk2 r4)
                  | fail)
                have f2 := set2 r4 (.int .i64 8) (.int .i64 i); (have b2 := (B4.setCell (p := ⟨w.heap.size + 1, 0, none⟩) (by simp) (.int .i64 8)).setCell (p := ⟨w.heap.size + 1, 1, none⟩) (by simp) (.int .i64 i)); generalize World.setCell _ _ _ = F at f2 b2 ⊢; obtain ⟨k1, k2, -⟩ := blk2 f2; (exact bodyPost_ret (v := .agg #[.int .i64 8, .int .i64 i]) (by simp [results, Try.results13, go_sem, k1, k2]) rfl ⟨by rw [hcd], b2⟩)
              · have h1J : (k2 == 1) = false := by simpa using h1
                (have h1K : (k2 != 1) = true := by simpa using h1); (have hm : n2.toList.isEmpty = false := by rw [ByteArray.toList_eq]; simpa [nameB, h1] using hnb); clear hnm hnb; generalize kidsN k2 = kn at *
                go_wp2_with (first
                  | (go_at_call 36
                     refine (HA.out _).mono ?_; rintro e w2 ⟨rfl, hb2⟩; have r3 := below_keep hb2 r2; have B3 := below_join B2 hb2; have m0 := (hb2.cell (p := ⟨g, i * 3, none⟩) zg).trans g0; have m1 := (hb2.cell (p := ⟨g, i * 3 + 1, none⟩) zg).trans g1
                     have m2 := (hb2.cell (p := ⟨g, i * 3 + 2, none⟩) zg).trans g2)
                  | (go_at_call 37
                     refine (fault_any _ _ _).mono ?_; rintro e w3 ⟨rfl, hb3⟩; have r4 := below_keep hb3 r3; have B4 := below_join B3 hb3
                     obtain ⟨j0, j1, j2, j3⟩ := blk2 r4)
                  | fail)
                have f2 := set2 r4 (.int .i64 8) (.int .i64 i); (have b2 := (B4.setCell (p := ⟨w.heap.size + 1, 0, none⟩) (by simp) (.int .i64 8)).setCell (p := ⟨w.heap.size + 1, 1, none⟩) (by simp) (.int .i64 i)); generalize World.setCell _ _ _ = F at f2 b2 ⊢; obtain ⟨k1, k2, -⟩ := blk2 f2; (exact bodyPost_ret (v := .agg #[.int .i64 8, .int .i64 i]) (by simp [results, Try.results13, go_sem, k1, k2]) rfl ⟨by rw [hcd], b2⟩)
          · have hsJ : ((ks2.length : Int) != kidsN k2) = true := by simpa using hsz
            (have hnf : nodeF k2 n2 ks2.length = some 9 := by simp [nodeF, hkb, hsz]); (have hcd : cd = (9, (i : Int)) := by rw [HC.out, ← hx, hnf]; rfl); clear hx HX hnf hnm; generalize kidsN k2 = kn at *
            go_wp2_with (first
              | (go_at_call 36
                 refine (HA.out _).mono ?_; rintro e w2 ⟨rfl, hb2⟩; have r3 := below_keep hb2 r2; have B3 := below_join B2 hb2; have m0 := (hb2.cell (p := ⟨g, i * 3, none⟩) zg).trans g0; have m1 := (hb2.cell (p := ⟨g, i * 3 + 1, none⟩) zg).trans g1
                 have m2 := (hb2.cell (p := ⟨g, i * 3 + 2, none⟩) zg).trans g2)
              | (go_at_call 37
                 refine (fault_any _ _ _).mono ?_; rintro e w3 ⟨rfl, hb3⟩; have r4 := below_keep hb3 r3; have B4 := below_join B3 hb3
                 obtain ⟨j0, j1, j2, j3⟩ := blk2 r4)
              | fail)
            have f2 := set2 r4 (.int .i64 9) (.int .i64 i); (have b2 := (B4.setCell (p := ⟨w.heap.size + 1, 0, none⟩) (by simp) (.int .i64 9)).setCell (p := ⟨w.heap.size + 1, 1, none⟩) (by simp) (.int .i64 i)); generalize World.setCell _ _ _ = F at f2 b2 ⊢; obtain ⟨k1, k2, -⟩ := blk2 f2; (exact bodyPost_ret (v := .agg #[.int .i64 9, .int .i64 i]) (by simp [results, Try.results13, go_sem, k1, k2]) rfl ⟨by rw [hcd], b2⟩)
        · have HA : Hid (∀ w, Calls Try.prog 36 #[.int .i64 k2] w fun e w' => e = .returned (.int .i64 (-1)) ∧ Below w.heap.size w w') := fun w => by
            have := arity_any k2 w
            rwa [if_neg hkb] at this
          (have hnf : nodeF k2 n2 ks2.length = some 4 := by simp [nodeF, hkb]); (have hcd : cd = (4, (i : Int)) := by rw [HC.out, ← hx, hnf]; rfl); clear hx HX hnf hnm
          go_wp2_with (first
            | (go_at_call 36
               refine (HA.out _).mono ?_; rintro e w2 ⟨rfl, hb2⟩; have r3 := below_keep hb2 r2; have B3 := below_join B2 hb2; have m0 := (hb2.cell (p := ⟨g, i * 3, none⟩) zg).trans g0; have m1 := (hb2.cell (p := ⟨g, i * 3 + 1, none⟩) zg).trans g1
               have m2 := (hb2.cell (p := ⟨g, i * 3 + 2, none⟩) zg).trans g2)
            | (go_at_call 37
               refine (fault_any _ _ _).mono ?_; rintro e w3 ⟨rfl, hb3⟩; have r4 := below_keep hb3 r3; have B4 := below_join B3 hb3
               obtain ⟨j0, j1, j2, j3⟩ := blk2 r4)
            | fail)
          have f2 := set2 r4 (.int .i64 4) (.int .i64 i); (have b2 := (B4.setCell (p := ⟨w.heap.size + 1, 0, none⟩) (by simp) (.int .i64 4)).setCell (p := ⟨w.heap.size + 1, 1, none⟩) (by simp) (.int .i64 i)); generalize World.setCell _ _ _ = F at f2 b2 ⊢; obtain ⟨k1, k2, -⟩ := blk2 f2; (exact bodyPost_ret (v := .agg #[.int .i64 4, .int .i64 i]) (by simp [results, Try.results13, go_sem, k1, k2]) rfl ⟨by rw [hcd], b2⟩)
    · have hcd : cd = (0, 0) := by
        (rw [HC.out, ← HN.out, List.drop_of_length_le (by omega), run]; rfl)
      clear HN HR HW HS hrep; (have hge : ¬ (i : Int) < (fs.length : Int) := by omega); go_wp2_with fail; have f2 := set2 r2 (.int .i64 0) (.int .i64 0); (have b2 := (B2.setCell (p := ⟨w.heap.size + 1, 0, none⟩) (by simp) (.int .i64 0)).setCell (p := ⟨w.heap.size + 1, 1, none⟩) (by simp) (.int .i64 0)); generalize World.setCell _ _ _ = F at f2 b2 ⊢; obtain ⟨k1, k2, -⟩ := blk2 f2; (exact bodyPost_ret (v := .agg #[.int .i64 0, .int .i64 0]) (by simp [results, Try.results13, go_sem, k1, k2]) rfl ⟨rfl, b2⟩)
end Go.Proofs.Ytclinobfbdljhah
