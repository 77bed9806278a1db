/- Texts of one proof, one behind the other: Fault1, Each1, Count1, Shelf2, Put1. -/
import Derived.Test.YtknngeojhiejnabB03
import Derived.Shelf.Sort.Plain
import Derived.Shelf.Slices.CompactS
import Derived.Shelf.Slices.In.SortNone
import Derived.Test.YtknngeojhiejnabProg
import Derived.Deep.DeepCutAuto
/- Walks: FormulaFault of the yardstick. -/
namespace Go.Proofs.Ytknngeojhiejnab
open Go.RowKit

set_option maxHeartbeats 1000000 in
theorem arity_any (k : Int) (w : World) :
    Calls Try.prog 71 #[.int .i64 k] w fun e w' => e = .returned (.int .i64 (if kindB k = true then kidsN k else -1)) ∧ Below w.heap.size w w' := by
  have hB : ∀ o, Below w.heap.size w (w.alloc o) := fun o => (Below.refl _ _).alloc (Nat.le_refl _) _
  by_cases h1 : k < 1
  · have e : kindB k = false := by simp [kindB]; omega
    rw [e]
    go_enter Try.func71, Try.ntmps71
    go_wp2
    go_ret
    exact ⟨rfl, Below.refl _ _⟩
  · by_cases h2 : 9 < k
    · have e : kindB k = false := by simp [kindB]; omega
      rw [e]
      go_enter Try.func71, Try.ntmps71
      go_wp2
      go_ret
      exact ⟨rfl, Below.refl _ _⟩
    · have : k = 1 ∨ k = 2 ∨ k = 3 ∨ k = 4 ∨ k = 5 ∨ k = 6 ∨ k = 7 ∨ k = 8 ∨ k = 9 := by omega
      rcases this with rfl | rfl | rfl | rfl | rfl | rfl | rfl | rfl | rfl
      all_goals
        clear h1 h2
        go_enter Try.func71, Try.ntmps71
        go_wp2
        go_ret
        exact ⟨rfl, hB _⟩

theorem LR.reps {A : Nat} {w : World} {b : Nat} : ∀ {cs : List Value} {fs : List Fm} (off : Nat), LR A w cs fs → (∀ (j : Nat) (u : Value), cs[j]? = some u → w.cell? ⟨b, off + j, none⟩ = some u) → Reps w (fun _ => True) b off fs
  | [], [], _, _, _ => Reps.nil
  | c0 :: c1 :: c2 :: cs, f :: fs, off, h, hc => Reps.cons.2 ⟨⟨c0, c1, c2, hc 0 c0 rfl, hc 1 c1 rfl, hc 2 c2 rfl, h.1.all⟩, LR.reps (off + 3) h.2 fun j u hu => by
      have := hc (j + 3) u (by simpa using hu)
      rwa [show off + (j + 3) = off + 3 + j by omega] at this⟩

/-- A list that a call has made, as kids are. -/
theorem LO.reps {A B : Nat} {w : World} {v : Value} {fs : List Fm} (h : LO A B w v fs) : ∃ g cap, v = .slice (some ⟨g, 0, none⟩) fs.length cap ∧ fs.length ≤ cap ∧ cap ≤ maxLen ∧ Reps w (fun _ => True) g 0 fs := by
  obtain ⟨g, cap, cs, rfl, hown, hlr⟩ := h
  rcases hown.2 with ⟨hv, h0⟩ | ⟨g', cp, cur, hv, hg, hh, h1, h2, -⟩
  · cases hv
  · simp only [Value.slice.injEq, true_and] at hv
    obtain ⟨-, rfl⟩ := hv
    refine ⟨g, cap, rfl, h1, h2, hlr.reps 0 fun j u hu => ?_⟩
    have := hown.cells (g := g) rfl j u hu
    rw [add_none] at this
    exact this

theorem Rep.name {w : World} {ok : Nat → Prop} {k : Int} {n : ByteArray} {ks : List Fm} {v : Value} (h : Rep w ok (.mk k n ks) v) : n.size ≤ maxLen ∧ ks.length ≤ maxLen := by
  obtain ⟨sl, cap, -, h1, h2, h3, -⟩ := Rep.def.1 h
  exact ⟨h1, by omega⟩

def Chk.code : Chk → Int × Int
  | .ok _ => (0, 0)
  | .bad c a => (c, a)
theorem code_of (f : Fm) : f.code = (chk f 0).code := by
  rw [Fm.code]
  cases chk f 0 <;> rfl

theorem kidsN_pos (k : Int) : 0 ≤ kidsN k := by
  unfold kidsN
  split
  · decide
  · split <;> decide

set_option maxHeartbeats 4000000 in
theorem rfault_any (f : Fm) (v : Value) (w : World) (hrep : Rep w (fun _ => True) f v) :
    Calls Try.prog 44 #[v] w fun e w' => e = .returned (.agg #[.int .i64 f.code.1, .int .i64 f.code.2]) ∧ Below w.heap.size w w' := by
  have hrun := run_walk f
  have hwl := walkL_le f 201
  have hwk := fun w h => walk_any f v 201 w (by omega) h
  have hcode := code_of f
  obtain ⟨k, n, ks⟩ := f
  obtain ⟨sl, cap, rfl⟩ := slice_shape hrep
  have HW : Hid (∀ w, _ → Calls Try.prog 23 _ w _) := hwk
  have HR : Hid (run (walkL (.mk k n ks) 201) 0 = chk (.mk k n ks) 0) := hrun
  have HC : Hid ((Fm.mk k n ks).code = (chk (.mk k n ks) 0).code) := hcode
  clear hwk hrun hcode
  generalize walkL (.mk k n ks) 201 = fs at *
  generalize (Fm.mk k n ks).code = cd at *
  have hfI : (fs.length : Int) ≤ 202 := by omega
  go_enter Try.func44, Try.ntmps44
  go_wp2_with (first
    | (go_at_call 23
       refine (HW.out _ ((hrep.more _).more _)).mono ?_
       rintro e w1 ⟨u, rfl, hlo, hb1⟩
       obtain ⟨g, cp, rfl, hc1, hc2, hrs⟩ := hlo.reps
       have r1 := below_keep hb1 (blk_new (w.alloc _) _)
       rw [show (w.alloc _).heap.size = w.heap.size + 1 by simp] at r1
       have B1 := below_join (below_more (below_more (Below.refl _ w) _) _) hb1
       have HS : Hid (Reps w1 (fun _ => True) g 0 fs) := hrs
       clear hlo hrs)
    | fail)
  go_loopg [4, 5] fs.length (fun g c d wr => ∃ i, i ≤ fs.length ∧ i ≤ 200 ∧ g = fs.length - i ∧ c = .int .i64 (i : Nat) ∧ Below w1.heap.size w1 wr ∧ Hid (run (fs.drop i) i = chk (.mk k n ks) 0))
  case atStart => exact ⟨0, by omega, by omega, by omega, rfl, Below.refl _ _, HR.out⟩
  case round =>
    obtain ⟨i, hile, hi2, hg, rfl, hbr, HN⟩ := hrel
    have HG : Hid (gk = fs.length - i) := hg
    clear hg
    have B2 := below_join B1 hbr
    have r2 := below_keep hbr r1
    obtain ⟨o0, o1, o2, o3⟩ := blk2 r2
    by_cases hlt : i < fs.length
    · obtain ⟨⟨k2, n2, ks2⟩, hki⟩ : ∃ f, fs[i]? = some f := ⟨_, List.getElem?_eq_getElem hlt⟩
      obtain ⟨sl2, cap2, g0, g1, g2, hrep2⟩ := (HS.out.up hbr).at i k2 n2 ks2 hki
      obtain ⟨hn2, hk2⟩ := hrep2.name
      rw [Nat.zero_add] at g0 g1 g2
      have hltI : (i : Int) < (fs.length : Int) := by omega
      have hlc : ((i : Nat) : Int) < ((cp : Nat) : Int) := by omega
      have hnx := HN.out
      rw [run_drop hki] at hnx
      have HX : Hid (_ = chk (.mk k n ks) 0) := hnx
      clear hnx HN hki HR HW
      have zg : g < wr.heap.size := lt_of_cell g0
      have hni : 0 ≤ kidsN k2 := kidsN_pos k2
      have hnm := fun w => refName_any n2 hn2 w
      by_cases h200 : i = 200
      · have hcd : cd = (2, 0) := by rw [HC.out, ← HX.out, if_pos h200]; rfl
        have har := arity_any k2
        generalize (if kindB k2 = true then kidsN k2 else -1) = ar at har
        have HA : Hid (∀ w, Calls Try.prog 71 _ w _) := har
        subst h200
        have hltJ : (200 : Int) < (fs.length : Int) := by omega
        have hlcJ : (200 : Int) < ((cp : Nat) : Int) := by omega
        replace g0 : wr.cell? ⟨g, 600, none⟩ = some (.int .i64 k2) := g0
        replace g1 : wr.cell? ⟨g, 601, none⟩ = some (.string n2) := g1
        replace g2 : wr.cell? ⟨g, 602, none⟩ = some (.slice sl2 ks2.length cap2) := g2
        clear hnm har hltI hlc
        go_wp2_with (first
          | (go_at_call 71
             refine (HA.out _).mono ?_
             rintro e w2 ⟨rfl, hb2⟩
             have r3 := below_keep hb2 r2
             have B3 := below_join B2 hb2
             have m0 := (hb2.cell (p := ⟨g, 600, none⟩) zg).trans g0
             have m1 := (hb2.cell (p := ⟨g, 601, none⟩) zg).trans g1
             have m2 := (hb2.cell (p := ⟨g, 602, none⟩) zg).trans g2)
          | (go_at_call 16
             refine (fault_any _ _ _).mono ?_
             rintro e w3 ⟨rfl, hb3⟩
             have r4 := below_keep hb3 r3
             have B4 := below_join B3 hb3
             obtain ⟨j0, j1, j2, j3⟩ := blk2 r4)
          | fail)
        have f2 := set2 r4 (.int .i64 2) (.int .i64 0)
        have b2 := (B4.setCell (p := ⟨w.heap.size + 1, 0, none⟩) (by simp) (.int .i64 2)).setCell (p := ⟨w.heap.size + 1, 1, none⟩) (by simp) (.int .i64 0)
        generalize World.setCell _ _ _ = F at f2 b2 ⊢
        obtain ⟨k1, k2, -⟩ := blk2 f2
        exact bodyPost_ret (v := .agg #[.int .i64 2, .int .i64 0]) (by simp [results, Try.results44, go_sem, k1, k2]) rfl ⟨by rw [hcd], b2⟩
      · have h200I : ¬ (i : Int) = 200 := by omega
        have h200J : ((i : Int) == 200) = false := by simpa using h200I
        have hx := HX.out
        rw [if_neg h200] at hx
        by_cases hkb : kindB k2 = true
        · have HA : Hid (∀ w, Calls Try.prog 71 #[.int .i64 k2] w fun e w' => e = .returned (.int .i64 (kidsN k2)) ∧ Below w.heap.size w w') := fun w => by
            have := arity_any k2 w
            rwa [if_pos hkb] at this
          by_cases hsz : (ks2.length : Int) = kidsN k2
          · have hsJ : ((ks2.length : Int) != kidsN k2) = false := by simpa using hsz
            rcases hnb : nameB k2 n2 with _ | _
            · have hnf : nodeF k2 n2 ks2.length = none := by simp [nodeF, hkb, hsz, hnb]
              rw [hnf] at hx
              have HY : Hid (run (fs.drop (i + 1)) (i + 1) = chk (.mk k n ks) 0) := hx
              clear hx HX hnf
              by_cases h1 : k2 = 1
              · subst h1
                have hm : isNm n2.data.toList = true := by simpa [nameB] using hnb
                rw [hm] at hnm
                have HNm : Hid (∀ w, Calls Try.prog 17 _ w _) := hnm
                clear hnm hnb hm
                generalize kidsN 1 = kn at *
                go_wp2_with (first
                  | (go_at_call 71
                     refine (HA.out _).mono ?_
                     rintro e w2 ⟨rfl, hb2⟩
                     have r3 := below_keep hb2 r2
                     have B3 := below_join B2 hb2
                     have m0 := (hb2.cell (p := ⟨g, i * 3, none⟩) zg).trans g0
                     have m1 := (hb2.cell (p := ⟨g, i * 3 + 1, none⟩) zg).trans g1
                     have m2 := (hb2.cell (p := ⟨g, i * 3 + 2, none⟩) zg).trans g2)
                  | (go_at_call 17
                     refine (HNm.out _).mono ?_
                     rintro e w4 ⟨rfl, rfl⟩)
                  | fail)
                go_roundg (fs.length - (i + 1))
                case measure => have := HG.out; omega
                case rel => exact ⟨i + 1, by omega, by omega, rfl, by go_num, below_join hbr hb2, HY⟩
              · have h1J : (k2 == 1) = false := by simpa using h1
                have h1K : (k2 != 1) = true := by simpa using h1
                have hm : n2.toList.isEmpty = true := by rw [ByteArray.toList_eq]; simpa [nameB, h1] using hnb
                clear hnm hnb
                generalize kidsN k2 = kn at *
                go_wp2_with (first
                  | (go_at_call 71
                     refine (HA.out _).mono ?_
                     rintro e w2 ⟨rfl, hb2⟩
                     have r3 := below_keep hb2 r2
                     have B3 := below_join B2 hb2
                     have m0 := (hb2.cell (p := ⟨g, i * 3, none⟩) zg).trans g0
                     have m1 := (hb2.cell (p := ⟨g, i * 3 + 1, none⟩) zg).trans g1
                     have m2 := (hb2.cell (p := ⟨g, i * 3 + 2, none⟩) zg).trans g2)
                  | fail)
                go_roundg (fs.length - (i + 1))
                case measure => have := HG.out; omega
                case rel => exact ⟨i + 1, by omega, by omega, rfl, by go_num, below_join hbr hb2, HY⟩
            · have hnf : nodeF k2 n2 ks2.length = some 8 := by simp [nodeF, hkb, hsz, hnb]
              have hcd : cd = (8, (i : Int)) := by rw [HC.out, ← hx, hnf]; rfl
              clear hx HX hnf
              by_cases h1 : k2 = 1
              · subst h1
                have hm : isNm n2.data.toList = false := by simpa [nameB] using hnb
                rw [hm] at hnm
                have HNm : Hid (∀ w, Calls Try.prog 17 _ w _) := hnm
                clear hnm hnb hm
                generalize kidsN 1 = kn at *
                go_wp2_with (first
                  | (go_at_call 71
                     refine (HA.out _).mono ?_
                     rintro e w2 ⟨rfl, hb2⟩
                     have r3 := below_keep hb2 r2
                     have B3 := below_join B2 hb2
                     have m0 := (hb2.cell (p := ⟨g, i * 3, none⟩) zg).trans g0
                     have m1 := (hb2.cell (p := ⟨g, i * 3 + 1, none⟩) zg).trans g1
                     have m2 := (hb2.cell (p := ⟨g, i * 3 + 2, none⟩) zg).trans g2)
                  | (go_at_call 17
                     refine (HNm.out _).mono ?_
                     rintro e w4 ⟨rfl, rfl⟩)
                  | (go_at_call 16
                     refine (fault_any _ _ _).mono ?_
                     rintro e w3 ⟨rfl, hb3⟩
                     have r4 := below_keep hb3 r3
                     have B4 := below_join B3 hb3
                     obtain ⟨j0, j1, j2, j3⟩ := blk2 r4)
                  | fail)
                have f2 := set2 r4 (.int .i64 8) (.int .i64 i)
                have b2 := (B4.setCell (p := ⟨w.heap.size + 1, 0, none⟩) (by simp) (.int .i64 8)).setCell (p := ⟨w.heap.size + 1, 1, none⟩) (by simp) (.int .i64 i)
                generalize World.setCell _ _ _ = F at f2 b2 ⊢
                obtain ⟨k1, k2, -⟩ := blk2 f2
                exact bodyPost_ret (v := .agg #[.int .i64 8, .int .i64 i]) (by simp [results, Try.results44, go_sem, k1, k2]) rfl ⟨by rw [hcd], b2⟩
              · have h1J : (k2 == 1) = false := by simpa using h1
                have h1K : (k2 != 1) = true := by simpa using h1
                have hm : n2.toList.isEmpty = false := by rw [ByteArray.toList_eq]; simpa [nameB, h1] using hnb
                clear hnm hnb
                generalize kidsN k2 = kn at *
                go_wp2_with (first
                  | (go_at_call 71
                     refine (HA.out _).mono ?_
                     rintro e w2 ⟨rfl, hb2⟩
                     have r3 := below_keep hb2 r2
                     have B3 := below_join B2 hb2
                     have m0 := (hb2.cell (p := ⟨g, i * 3, none⟩) zg).trans g0
                     have m1 := (hb2.cell (p := ⟨g, i * 3 + 1, none⟩) zg).trans g1
                     have m2 := (hb2.cell (p := ⟨g, i * 3 + 2, none⟩) zg).trans g2)
                  | (go_at_call 16
                     refine (fault_any _ _ _).mono ?_
                     rintro e w3 ⟨rfl, hb3⟩
                     have r4 := below_keep hb3 r3
                     have B4 := below_join B3 hb3
                     obtain ⟨j0, j1, j2, j3⟩ := blk2 r4)
                  | fail)
                have f2 := set2 r4 (.int .i64 8) (.int .i64 i)
                have b2 := (B4.setCell (p := ⟨w.heap.size + 1, 0, none⟩) (by simp) (.int .i64 8)).setCell (p := ⟨w.heap.size + 1, 1, none⟩) (by simp) (.int .i64 i)
                generalize World.setCell _ _ _ = F at f2 b2 ⊢
                obtain ⟨k1, k2, -⟩ := blk2 f2
                exact bodyPost_ret (v := .agg #[.int .i64 8, .int .i64 i]) (by simp [results, Try.results44, go_sem, k1, k2]) rfl ⟨by rw [hcd], b2⟩
          · have hsJ : ((ks2.length : Int) != kidsN k2) = true := by simpa using hsz
            have hnf : nodeF k2 n2 ks2.length = some 9 := by simp [nodeF, hkb, hsz]
            have hcd : cd = (9, (i : Int)) := by rw [HC.out, ← hx, hnf]; rfl
            clear hx HX hnf hnm
            generalize kidsN k2 = kn at *
            go_wp2_with (first
              | (go_at_call 71
                 refine (HA.out _).mono ?_
                 rintro e w2 ⟨rfl, hb2⟩
                 have r3 := below_keep hb2 r2
                 have B3 := below_join B2 hb2
                 have m0 := (hb2.cell (p := ⟨g, i * 3, none⟩) zg).trans g0
                 have m1 := (hb2.cell (p := ⟨g, i * 3 + 1, none⟩) zg).trans g1
                 have m2 := (hb2.cell (p := ⟨g, i * 3 + 2, none⟩) zg).trans g2)
              | (go_at_call 16
                 refine (fault_any _ _ _).mono ?_
                 rintro e w3 ⟨rfl, hb3⟩
                 have r4 := below_keep hb3 r3
                 have B4 := below_join B3 hb3
                 obtain ⟨j0, j1, j2, j3⟩ := blk2 r4)
              | fail)
            have f2 := set2 r4 (.int .i64 9) (.int .i64 i)
            have b2 := (B4.setCell (p := ⟨w.heap.size + 1, 0, none⟩) (by simp) (.int .i64 9)).setCell (p := ⟨w.heap.size + 1, 1, none⟩) (by simp) (.int .i64 i)
            generalize World.setCell _ _ _ = F at f2 b2 ⊢
            obtain ⟨k1, k2, -⟩ := blk2 f2
            exact bodyPost_ret (v := .agg #[.int .i64 9, .int .i64 i]) (by simp [results, Try.results44, go_sem, k1, k2]) rfl ⟨by rw [hcd], b2⟩
        · have HA : Hid (∀ w, Calls Try.prog 71 #[.int .i64 k2] w fun e w' => e = .returned (.int .i64 (-1)) ∧ Below w.heap.size w w') := fun w => by
            have := arity_any k2 w
            rwa [if_neg hkb] at this
          have hnf : nodeF k2 n2 ks2.length = some 4 := by simp [nodeF, hkb]
          have hcd : cd = (4, (i : Int)) := by rw [HC.out, ← hx, hnf]; rfl
          clear hx HX hnf hnm
          go_wp2_with (first
            | (go_at_call 71
               refine (HA.out _).mono ?_
               rintro e w2 ⟨rfl, hb2⟩
               have r3 := below_keep hb2 r2
               have B3 := below_join B2 hb2
               have m0 := (hb2.cell (p := ⟨g, i * 3, none⟩) zg).trans g0
               have m1 := (hb2.cell (p := ⟨g, i * 3 + 1, none⟩) zg).trans g1
               have m2 := (hb2.cell (p := ⟨g, i * 3 + 2, none⟩) zg).trans g2)
            | (go_at_call 16
               refine (fault_any _ _ _).mono ?_
               rintro e w3 ⟨rfl, hb3⟩
               have r4 := below_keep hb3 r3
               have B4 := below_join B3 hb3
               obtain ⟨j0, j1, j2, j3⟩ := blk2 r4)
            | fail)
          have f2 := set2 r4 (.int .i64 4) (.int .i64 i)
          have b2 := (B4.setCell (p := ⟨w.heap.size + 1, 0, none⟩) (by simp) (.int .i64 4)).setCell (p := ⟨w.heap.size + 1, 1, none⟩) (by simp) (.int .i64 i)
          generalize World.setCell _ _ _ = F at f2 b2 ⊢
          obtain ⟨k1, k2, -⟩ := blk2 f2
          exact bodyPost_ret (v := .agg #[.int .i64 4, .int .i64 i]) (by simp [results, Try.results44, go_sem, k1, k2]) rfl ⟨by rw [hcd], b2⟩
    · have hcd : cd = (0, 0) := by
        rw [HC.out, ← HN.out, List.drop_of_length_le (by omega), run]; rfl
      clear HN HR HW HS hrep
      have hge : ¬ (i : Int) < (fs.length : Int) := by omega
      go_wp2_with fail
      have f2 := set2 r2 (.int .i64 0) (.int .i64 0)
      have b2 := (B2.setCell (p := ⟨w.heap.size + 1, 0, none⟩) (by simp) (.int .i64 0)).setCell (p := ⟨w.heap.size + 1, 1, none⟩) (by simp) (.int .i64 0)
      generalize World.setCell _ _ _ = F at f2 b2 ⊢
      obtain ⟨k1, k2, -⟩ := blk2 f2
      exact bodyPost_ret (v := .agg #[.int .i64 0, .int .i64 0]) (by simp [results, Try.results44, go_sem, k1, k2]) rfl ⟨rfl, b2⟩
end Go.Proofs.Ytknngeojhiejnab
/- Walks: eachNode, whatever visits. -/
namespace Go.Proofs.Ytknngeojhiejnab
open Go.RowKit

theorem Fine.small {k : Int} {n : ByteArray} {ks : List Fm} (h : Fine (.mk k n ks)) : n.size ≤ 8 ∧ ks.length ≤ 2 := by
  rcases h.forms with ⟨m, e, hn⟩ | e | e | ⟨c, g, hk, e, hg⟩ | ⟨c, g, g', hk, e, hg, hg'⟩ <;> cases e
  · have := isNm_bd hn
    have e2 : n.data.toList.length = n.size := Array.length_toList
    exact ⟨by omega, by simp⟩
  · exact ⟨by decide, by simp⟩
  · exact ⟨by decide, by simp⟩
  · exact ⟨by decide, by simp⟩
  · exact ⟨by decide, by simp⟩

/-- What visits a formula's nodes: it writes one variable of its own (block cb), and a list of its own (block ob). -/
structure Visit (fn : Nat) (cap : Array Value) (B cb : Nat) (Inv : List Fm → Option Nat → World → Prop) : Prop where
  hB : B ≤ cb
  lt : ∀ {done ob w}, Inv done ob w → cb < w.heap.size ∧ (∀ g, ob = some g → B ≤ g ∧ g < w.heap.size)
  alloc : ∀ {done ob w} (o : Obj), Inv done ob w → Inv done ob (w.alloc o)
  ent : ∀ (v : Value) (w : World), (callFunc fn (#[v] ++ cap)).run Try.prog w = .ok (.enter fn (#[v] ++ cap)) w
  call : ∀ done ob f v w, done.length < 200 → Fine f → Rep w (· < B) f v → Inv done ob w →
    Calls Try.prog fn (#[v] ++ cap) w fun e w' => e = .returned (.tuple #[]) ∧ ∃ ob', Inv (done ++ [f]) ob' w' ∧ Kept (fun b => b ≠ cb ∧ ob ≠ some b) w w' ∧ (ob' = ob ∨ ∃ g, ob' = some g ∧ w.heap.size ≤ g)

def Eachs (fn : Nat) (cap : Array Value) (B cb : Nat) (Inv : List Fm → Option Nat → World → Prop) (m : Nat) : Prop := ∀ done ob (f : Fm) v w, f.size < m → done.length + f.size ≤ 200 → Fine f → Rep w (· < B) f v → Inv done ob w →
  Calls Try.prog 78 #[v, .func (.func fn) #[] cap] w fun e w' => e = .returned (.tuple #[]) ∧ ∃ ob', Inv (done ++ allN f) ob' w' ∧ Kept (fun b => b ≠ cb ∧ ob ≠ some b) w w' ∧ (ob' = ob ∨ ∃ g, ob' = some g ∧ w.heap.size ≤ g)

theorem kept_on {cb : Nat} {ob ob' : Option Nat} {w w1 w2 : World} (h : Kept (fun b => b ≠ cb ∧ ob ≠ some b) w w1) (ho : ob' = ob ∨ ∃ g, ob' = some g ∧ w.heap.size ≤ g) (k : Kept (fun b => b ≠ cb ∧ ob' ≠ some b) w1 w2) : Kept (fun b => b ≠ cb ∧ ob ≠ some b) w w2 := by
  refine ⟨k.os.trans h.os, k.tape.trans h.tape, k.output.trans h.output, Nat.le_trans h.size k.size, fun b hb hok => ?_⟩
  rw [k.block b (Nat.lt_of_lt_of_le hb h.size) ⟨hok.1, fun e => ?_⟩, h.block b hb hok]
  rcases ho with rfl | ⟨g, rfl, hg⟩
  · exact hok.2 e
  · have : g = b := Option.some.inj e
    omega
theorem own_on {ob ob' ob'' : Option Nat} {w w1 : World} (ho : ob' = ob ∨ ∃ g, ob' = some g ∧ w.heap.size ≤ g) (hs : w.heap.size ≤ w1.heap.size) (k : ob'' = ob' ∨ ∃ g, ob'' = some g ∧ w1.heap.size ≤ g) : ob'' = ob ∨ ∃ g, ob'' = some g ∧ w.heap.size ≤ g := by
  rcases k with rfl | ⟨g, rfl, hg⟩
  · exact ho
  · exact Or.inr ⟨g, rfl, by omega⟩

theorem allNs_drop {ks : List Fm} {i : Nat} {f : Fm} (h : ks[i]? = some f) : allNs (ks.take (i + 1)) = allNs (ks.take i) ++ allN f := by
  have hap : ∀ a b : List Fm, allNs (a ++ b) = allNs a ++ allNs b := by
    intro a b
    induction a with
    | nil => rw [List.nil_append, allNs, List.nil_append]
    | cons x a ih => rw [List.cons_append, allNs, allNs, ih, List.append_assoc]
  rw [List.take_add_one, h, hap]
  congr 1
  show allNs [f] = _
  rw [allNs, allNs, List.append_nil]

theorem sizes_take : ∀ (ks : List Fm) (i : Nat) (f : Fm), ks[i]? = some f → Fm.sizes (ks.take i) + f.size ≤ Fm.sizes ks
  | [], i, f, h => by simp at h
  | k :: ks, 0, f, h => by simp at h; subst h; simp [Fm.sizes]
  | k :: ks, i + 1, f, h => by
    have := sizes_take ks i f (by simpa using h)
    simp only [List.take_succ_cons, Fm.sizes]; omega

set_option maxHeartbeats 4000000 in
theorem each_step {fn : Nat} {cap : Array Value} {B cb : Nat} {Inv : List Fm → Option Nat → World → Prop} (V : Visit fn cap B cb Inv) (m : Nat) (ih : Eachs fn cap B cb Inv m) : Eachs fn cap B cb Inv (m + 1) := by
  intro done ob f v w hm hN hfine hrep hinv
  obtain ⟨k, n, ks⟩ := f
  obtain ⟨sl, cp, rfl, hx1, hx2, hx3, hx4⟩ := Rep.def.1 hrep
  have HX : Hid (ks ≠ [] → ∃ b off, sl = some ⟨b, off, none⟩ ∧ b < B ∧ Reps w (· < B) b off ks) := hx4
  have HV : Hid (Visit fn cap B cb Inv) := V
  obtain ⟨hcb, hob⟩ := V.lt hinv
  have HO : Hid (∀ g, ob = some g → B ≤ g ∧ g < w.heap.size) := hob
  have hBcb := V.hB
  have hlenI : ((ks.length : Nat) : Int) ≤ 9223372036854775807 := by unfold maxLen at hx3; omega
  have hcf := V.ent
  have HC : Hid (∀ wx, Rep wx (· < B) (.mk k n ks) (.agg #[.int .i64 k, .string n, .slice sl ks.length cp]) → Inv done ob wx → Calls Try.prog fn (#[.agg #[.int .i64 k, .string n, .slice sl ks.length cp]] ++ cap) wx _) := fun wx h1 h2 => V.call done ob _ _ wx (by rw [Fm.size] at hN; omega) hfine h1 h2
  have HI : Hid (Inv done ob w) := hinv
  have HF : Hid (∀ (i : Nat) (kid : Fm), ks[i]? = some kid → Fine kid) := hfine.kid
  clear hx4 V hinv hob hfine
  go_enter Try.func78, Try.ntmps78
  go_wp2_with fail
  refine (HC.out _ (hrep.move fun b hb hok => ⟨Below.heap_alloc _ _ _ hb, hok⟩) (HV.out.alloc _ HI.out)).mono ?_
  rintro e w1 ⟨rfl, ob1, hinv1, hk1, ho1⟩
  have hk0 : Kept (fun b => b ≠ cb ∧ ob ≠ some b) w w1 := ((Kept.refl _ w).alloc _).trans hk1
  have ho0 : ob1 = ob ∨ ∃ g, ob1 = some g ∧ w.heap.size ≤ g := by
    rcases ho1 with h | ⟨g, h, hg⟩
    · exact Or.inl h
    · exact Or.inr ⟨g, h, by simp at hg; omega⟩
  have q0 : w1.heap[w.heap.size]? = some (.cells #[.int .i64 k, .string n, .slice sl ks.length cp] 37 (0, 0)) := (hk1.block _ (by simp) ⟨by omega, fun e => by have := (HO.out _ e).2; omega⟩).trans (blk_new _ _)
  have HI1 : Hid (Inv (done ++ [Fm.mk k n ks]) ob1 w1) := hinv1
  have HK0 : Hid (Kept (fun b => b ≠ cb ∧ ob ≠ some b) w w1) := hk0
  have HO0 : Hid (ob1 = ob ∨ ∃ g, ob1 = some g ∧ w.heap.size ≤ g) := ho0
  clear hinv1 hk1 hk0 ho0 ho1 HC hcf
  obtain ⟨e0, e1, e2, -⟩ := blk3 q0
  have hmf : ∀ (fn : Fn) (first cap : Array Value) (w : World), (Instr.makeFunc fn first cap).run Try.prog w = .ok (.func fn first cap) w := fun _ _ _ _ => rfl
  go_wp2_with fail
  go_loopg [12] ks.length (fun g c wr => ∃ i obr, i ≤ ks.length ∧ g = ks.length - i ∧ c = .int .i64 (i : Nat) ∧ Hid (Inv (done ++ [Fm.mk k n ks] ++ allNs (ks.take i)) obr wr) ∧ Hid (Kept (fun b => b ≠ cb ∧ ob ≠ some b) w wr) ∧ Hid (obr = ob ∨ ∃ g, obr = some g ∧ w.heap.size ≤ g))
  case atStart =>
    refine ⟨0, ob1, by omega, by omega, rfl, ?_, HK0, HO0⟩
    show Inv _ _ _
    rw [List.take_zero, allNs, List.append_nil]
    exact HI1.out
  case round =>
    obtain ⟨i, obr, hile, hg, rfl, HIr, HKr, HOr⟩ := hrel
    have HG : Hid (gk = ks.length - i) := hg
    clear hg
    by_cases hlt : i < ks.length
    · obtain ⟨⟨k2, n2, ks2⟩, hki⟩ : ∃ f, ks[i]? = some f := ⟨_, List.getElem?_eq_getElem hlt⟩
      have hltI : (i : Int) < (ks.length : Int) := by omega
      have hlc : ((i : Nat) : Int) < ((cp : Nat) : Int) := by omega
      obtain ⟨b, off, hsl, hbB, hrs⟩ := HX.out (fun e => by rw [e] at hlt; simp at hlt)
      subst hsl
      have hbB' : Below B w wr := HKr.out.below (by omega) fun b hb => ⟨by omega, fun e => by have := (HO.out b e).1; omega⟩
      obtain ⟨sl2, cap2, g0, g1, g2, hrep2⟩ := (hrs.low hbB hbB').at i k2 n2 ks2 hki
      have hfk : Fine (.mk k2 n2 ks2) := HF.out i _ hki
      have hszm : (Fm.mk k2 n2 ks2).size < m := by have := sizes_get hki; rw [Fm.size] at hm; omega
      have hNN : (done ++ [Fm.mk k n ks] ++ allNs (ks.take i)).length + (Fm.mk k2 n2 ks2).size ≤ 200 := by
        have h1 := sizes_take ks i _ hki
        rw [Fm.size] at hN
        simp only [List.length_append, List.length_singleton, allNs_len]
        omega
      have HIH : Hid (∀ wx, Rep wx (· < B) (.mk k2 n2 ks2) (.agg #[.int .i64 k2, .string n2, .slice sl2 ks2.length cap2]) → Inv (done ++ [Fm.mk k n ks] ++ allNs (ks.take i)) obr wx → Calls Try.prog 78 #[.agg #[.int .i64 k2, .string n2, .slice sl2 ks2.length cap2], .func (.func fn) #[] cap] wx _) := fun wx h1 h2 => ih _ obr _ _ wx hszm hNN hfk h1 h2
      have HD : Hid (allNs (ks.take (i + 1)) = allNs (ks.take i) ++ allN (.mk k2 n2 ks2)) := allNs_drop hki
      have HR2 : Hid (Rep wr (· < B) (.mk k2 n2 ks2) (.agg #[.int .i64 k2, .string n2, .slice sl2 ks2.length cap2])) := hrep2
      clear hki hrs hrep HX hNN hrep2
      go_wp2_with (first
        | (go_at_call 78
           refine (HIH.out _ (HR2.out.move fun b hb hok => ⟨Below.heap_alloc _ _ _ hb, hok⟩) (HV.out.alloc _ HIr.out)).mono ?_
           rintro e w2 ⟨rfl, ob2, hinv2, hk2, ho2⟩
           have HI2 : Hid (Inv (done ++ [Fm.mk k n ks] ++ allNs (ks.take i) ++ allN (.mk k2 n2 ks2)) ob2 w2) := hinv2
           have hk3 : Kept (fun b => b ≠ cb ∧ obr ≠ some b) wr w2 := ((Kept.refl _ wr).alloc _).trans hk2
           have ho3 : ob2 = obr ∨ ∃ g, ob2 = some g ∧ wr.heap.size ≤ g := by
             rcases ho2 with h | ⟨g, h, hg⟩
             · exact Or.inl h
             · exact Or.inr ⟨g, h, by simp at hg; omega⟩
           have HK2 : Hid (Kept (fun b => b ≠ cb ∧ ob ≠ some b) w w2) := kept_on HKr.out HOr.out hk3
           have HO2 : Hid (ob2 = ob ∨ ∃ g, ob2 = some g ∧ w.heap.size ≤ g) := own_on HOr.out HKr.out.size ho3
           clear hinv2 hk2 ho2 hk3 ho3)
        | fail)
      go_roundg (ks.length - (i + 1))
      case measure => have := HG.out; omega
      case rel =>
        refine ⟨i + 1, ob2, by omega, rfl, by go_num, ?_, HK2, HO2⟩
        show Inv _ _ _
        rw [HD.out, ← List.append_assoc]
        exact HI2.out
    · have HE : Hid (Inv (done ++ allN (.mk k n ks)) obr wr) := by
        show Inv _ _ _
        have := HIr.out
        rw [List.take_of_length_le (by omega), List.append_assoc] at this
        rw [allN]
        exact this
      have hge : ¬ (i : Int) < (ks.length : Int) := by omega
      clear HX hrep HIr
      go_wp2_with fail
      go_end0
      exact ⟨rfl, obr, HE.out, HKr.out, HOr.out⟩

theorem eachs_all {fn : Nat} {cap : Array Value} {B cb : Nat} {Inv : List Fm → Option Nat → World → Prop} (V : Visit fn cap B cb Inv) : ∀ m, Eachs fn cap B cb Inv m
  | 0 => fun _ _ _ _ _ h => absurd h (Nat.not_lt_zero _)
  | m + 1 => each_step V m (eachs_all V m)

theorem each_any {fn : Nat} {cap : Array Value} {B cb : Nat} {Inv : List Fm → Option Nat → World → Prop} (V : Visit fn cap B cb Inv) (ob : Option Nat) (f : Fm) (v : Value) (w : World) (hs : f.size ≤ 200) (hf : Fine f) (hrep : Rep w (· < B) f v) (hi : Inv [] ob w) :
    Calls Try.prog 78 #[v, .func (.func fn) #[] cap] w fun e w' => e = .returned (.tuple #[]) ∧ ∃ ob', Inv (allN f) ob' w' ∧ Kept (fun b => b ≠ cb ∧ ob ≠ some b) w w' ∧ (ob' = ob ∨ ∃ g, ob' = some g ∧ w.heap.size ≤ g) :=
  eachs_all V (f.size + 1) [] ob f v w (Nat.lt_succ_self _) (by simpa using hs) hf hrep hi
end Go.Proofs.Ytknngeojhiejnab
/- Walks: how many nodes there are. -/
namespace Go.Proofs.Ytknngeojhiejnab
open Go.RowKit

def hasN (nm : ByteArray) : Fm → Bool
  | .mk k n _ => decide (k = 1) && decide (n.data.toList = nm.data.toList)

theorem blk1 {w : World} {b : Nat} {c0 : Value} {T : TypeId} (h : w.heap[b]? = some (.cells #[c0] T (0, 0))) : w.cell? ⟨b, 0, none⟩ = some c0 ∧ w.frozen? ⟨b, 0, none⟩ = false := ⟨blk_cell h 0, blk_fz h 0⟩
theorem set1 {w : World} {b : Nat} {c0 : Value} {T : TypeId} (h : w.heap[b]? = some (.cells #[c0] T (0, 0))) (v : Value) : (w.setCell ⟨b, 0, none⟩ v).heap[b]? = some (.cells #[v] T (0, 0)) := by
  simp [World.setCell, Array.getElem?_modify, h]

/-! With a formula of s nodes for a name. -/
def cntW (nm : ByteArray) (s : Nat) : List Fm → Nat
  | [] => 0
  | f :: fs => (if hasN nm f = true then s else 1) + cntW nm s fs
end Go.Proofs.Ytknngeojhiejnab
/- Two contracts of the library, laid at this program: slices.Sort and slices.Compact at []string. -/
namespace Go.Proofs
open Go.Shelf
def Try.lays190_ren : Go.Shelf.Ren := ⟨fun | 190 => 81 | 125 => 93 | 258 => 92 | 128 => 135 | 129 => 136 | 302 => 126 | 303 => 127 | 304 => 128 | 305 => 129 | 306 => 130 | 307 => 131 | 308 => 132 | 309 => 133 | 310 => 134 | 333 => 145 | 329 => 146 | 330 => 147 | 334 => 148 | 335 => 149 | 336 => 150 | 344 => 155 | n => n, fun | 31 => 38 | 9 => 9 | 3 => 3 | 46 => 126 | 0 => 0 | 51 => 151 | 53 => 153 | 4 => 4 | 183 => 144 | 182 => 143 | 131 => 87 | 5 => 5 | 218 => 159 | 222 => 163 | 228 => 170 | 229 => 171 | n => n, fun | n => n⟩
theorem Try.lays190 : Go.Proofs.Lays.n190 Try.prog Try.lays190_ren := {
  mixed := by kernel_rfl
  f125 := Try.func93.trans (congrArg some (by kernel_rfl))
  f128 := Try.func135.trans (congrArg some (by kernel_rfl))
  f129 := Try.func136.trans (congrArg some (by kernel_rfl))
  f190 := Try.func81.trans (congrArg some (by kernel_rfl))
  f258 := Try.func92.trans (congrArg some (by kernel_rfl))
  f302 := Try.func126.trans (congrArg some (by kernel_rfl))
  f303 := Try.func127.trans (congrArg some (by kernel_rfl))
  f304 := Try.func128.trans (congrArg some (by kernel_rfl))
  f305 := Try.func129.trans (congrArg some (by kernel_rfl))
  f306 := Try.func130.trans (congrArg some (by kernel_rfl))
  f307 := Try.func131.trans (congrArg some (by kernel_rfl))
  f308 := Try.func132.trans (congrArg some (by kernel_rfl))
  f309 := Try.func133.trans (congrArg some (by kernel_rfl))
  f310 := Try.func134.trans (congrArg some (by kernel_rfl))
  f329 := Try.func146.trans (congrArg some (by kernel_rfl))
  f330 := Try.func147.trans (congrArg some (by kernel_rfl))
  f333 := Try.func145.trans (congrArg some (by kernel_rfl))
  f334 := Try.func148.trans (congrArg some (by kernel_rfl))
  f335 := Try.func149.trans (congrArg some (by kernel_rfl))
  f336 := Try.func150.trans (congrArg some (by kernel_rfl))
  f344 := Try.func155.trans (congrArg some (by kernel_rfl))
  t0 := Try.underlying0
  a0 := Try.isAgg0
  z0 := Try.sizeOf0
  v0 := Try.zeroValue0
  t3 := Try.underlying3
  a3 := Try.isAgg3
  z3 := Try.sizeOf3
  v3 := Try.zeroValue3
  t4 := Try.underlying4
  a4 := Try.isAgg4
  z4 := Try.sizeOf4
  v4 := Try.zeroValue4
  t5 := Try.underlying5
  a5 := Try.isAgg5
  z5 := Try.sizeOf5
  v5 := Try.zeroValue5
  t9 := Try.underlying9
  a9 := Try.isAgg9
  z9 := Try.sizeOf9
  v9 := Try.zeroValue9
  t31 := Try.underlying38
  a31 := Try.isAgg38
  z31 := Try.sizeOf38
  v31 := Try.zeroValue38
  t46 := Try.underlying126
  a46 := Try.isAgg126
  z46 := Try.sizeOf126
  v46 := Try.zeroValue126
  t51 := Try.underlying151
  a51 := Try.isAgg151
  z51 := Try.sizeOf151
  v51 := Try.zeroValue151
  t53 := Try.underlying153
  a53 := Try.isAgg153
  z53 := Try.sizeOf153
  v53 := Try.zeroValue153
  t131 := Try.underlying87
  a131 := Try.isAgg87
  z131 := Try.sizeOf87
  v131 := Try.zeroValue87
  t182 := Try.underlying143
  a182 := Try.isAgg143
  z182 := Try.sizeOf143
  v182 := Try.zeroValue143
  t183 := Try.underlying144
  a183 := Try.isAgg144
  z183 := Try.sizeOf144
  v183 := Try.zeroValue144
  t218 := Try.underlying159
  a218 := Try.isAgg159
  z218 := Try.sizeOf159
  v218 := Try.zeroValue159
  t222 := Try.underlying163
  a222 := Try.isAgg163
  z222 := Try.sizeOf163
  v222 := Try.zeroValue163
  t228 := Try.underlying170
  a228 := Try.isAgg170
  z228 := Try.sizeOf170
  v228 := Try.zeroValue170
  t229 := Try.underlying171
  a229 := Try.isAgg171
  z229 := Try.sizeOf171
  v229 := Try.zeroValue171 }
open Go.Sort Go.RowKit in
theorem Try.slices_Sort_string (blk off cap : Nat) (ss : List (List UInt8)) (w : World) (hH : Holds encStr w blk off ss.toArray) (hblk : blk < w.heap.size) (hsz : ss.length < 4611686018427387904) :
    Calls Try.prog 81 #[.slice (some ⟨blk, off, none⟩) ss.length cap] w fun e w' =>
      e = .returned (.tuple #[]) ∧ ∃ n os, w' = grow (putRow encStr (Sort.ahead w n) blk off (ss.mergeSort fun x y => decide (x ≤ y)).toArray) os := Any.slices_Sort_string Try.lays190 blk off cap ss w hH hblk hsz
def Try.lays194_ren : Go.Shelf.Ren := ⟨fun | 194 => 82 | n => n, fun | 31 => 38 | 9 => 9 | 3 => 3 | 4 => 4 | 0 => 0 | n => n, fun | n => n⟩
theorem Try.lays194 : Go.Proofs.Lays.n194 Try.prog Try.lays194_ren := {
  mixed := by kernel_rfl
  f194 := Try.func82.trans (congrArg some (by kernel_rfl))
  t0 := Try.underlying0
  a0 := Try.isAgg0
  z0 := Try.sizeOf0
  v0 := Try.zeroValue0
  t3 := Try.underlying3
  a3 := Try.isAgg3
  z3 := Try.sizeOf3
  v3 := Try.zeroValue3
  t4 := Try.underlying4
  a4 := Try.isAgg4
  z4 := Try.sizeOf4
  v4 := Try.zeroValue4
  t9 := Try.underlying9
  a9 := Try.isAgg9
  z9 := Try.sizeOf9
  v9 := Try.zeroValue9
  t31 := Try.underlying38
  a31 := Try.isAgg38
  z31 := Try.sizeOf38
  v31 := Try.zeroValue38 }
open Go.RowKit Go.Lib Go.Sort in
theorem Try.slices_Compact_string (blk off cap : Nat) (zs : List (List UInt8)) (w : World) (hH : Holds encStr w blk off zs.toArray) (hsz : zs.length ≤ 9223372036854775807) (hcap : zs.length ≤ cap) :
    Calls Try.prog 82 #[.slice (some ⟨blk, off, none⟩) zs.length cap] w fun e w' => e = .returned (.slice (some ⟨blk, off, none⟩) (Lib.compact zs).length cap) ∧ ∃ q, w' = putRow encStr (Sort.ahead w q) blk off (Lib.compact zs ++ List.replicate (zs.length - (Lib.compact zs).length) []).toArray := Any.slices_Compact_string Try.lays194 blk off cap zs w hH hsz hcap
open Go.RowKit Go.Lib Go.Sort in
theorem Try.slices_Compact_string_empty (a : Option Addr) (cap : Nat) (w : World) :
    Calls Try.prog 82 #[.slice a 0 cap] w fun e w' => e = .returned (.slice a 0 cap) ∧ w' = w := Any.slices_Compact_string_empty Try.lays194 a cap w
open Go.RowKit Go.Sort in
theorem Try.slices_Sort_string_none (p : Option Addr) (cap : Nat) (w : World) :
    Calls Try.prog 81 #[.slice p 0 cap] w fun e w' => e = .returned (.tuple #[]) ∧ w' = w := Any.slices_Sort_string_none Try.lays190 p cap w

end Go.Proofs
/- Walks: copies, and a formula for a name. -/
namespace Go.Proofs.Ytknngeojhiejnab
open Go.RowKit

mutual
def putF (nm : ByteArray) (g : Fm) : Fm → Fm
  | .mk k n ks => if hasN nm (.mk k n []) = true then g else .mk k n (putFs nm g ks)
def putFs (nm : ByteArray) (g : Fm) : List Fm → List Fm
  | [] => []
  | f :: fs => putF nm g f :: putFs nm g fs
end
end Go.Proofs.Ytknngeojhiejnab
