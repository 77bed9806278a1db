/- Texts of one proof, one behind the other: TZ2. -/
import Derived.Test.YthmjoindlmgfdabB12
/- Walks: turned. -/
namespace Go.Proofs.Ythmjoindlmgfdab
open Go.RowKit Go.Sort

def Turns (m : Nat) : Prop := ∀ (f : Fm) (v : Value) (w : World), f.size < m → Fine f → Plain f → Rep w (fun _ => True) f v →
  Calls Try.prog 26 #[v] w fun e w' => ∃ x, e = .returned x ∧ Rep w' (w.heap.size ≤ ·) (turnF f) x ∧ Below w.heap.size w w'

/-- The result is stored. -/
theorem res_set {w w6 : World} {R : Nat} {k : Int} {n : ByteArray} {ks : List Fm} {sl : Option Addr} {cp : Nat} (hR : w.heap.size ≤ R) (B : Below w.heap.size w w6) (q : w6.heap[R]? = some (.cells #[.int .i64 0, .string ⟨#[]⟩, .slice none 0 0] 37 (0, 0))) (h : Rep w6 (R + 1 ≤ ·) (.mk k n ks) (.agg #[.int .i64 k, .string n, .slice sl ks.length cp])) :
    (((w6.setCell ⟨R, 0, none⟩ (.int .i64 k)).setCell ⟨R, 1, none⟩ (.string n)).setCell ⟨R, 2, none⟩ (.slice sl ks.length cp)).heap[R]? = some (.cells #[.int .i64 k, .string n, .slice sl ks.length cp] 37 (0, 0)) ∧
    Below w.heap.size w (((w6.setCell ⟨R, 0, none⟩ (.int .i64 k)).setCell ⟨R, 1, none⟩ (.string n)).setCell ⟨R, 2, none⟩ (.slice sl ks.length cp)) ∧
    Rep (((w6.setCell ⟨R, 0, none⟩ (.int .i64 k)).setCell ⟨R, 1, none⟩ (.string n)).setCell ⟨R, 2, none⟩ (.slice sl ks.length cp)) (w.heap.size ≤ ·) (.mk k n ks) (.agg #[.int .i64 k, .string n, .slice sl ks.length cp]) := by
  refine ⟨set3 q _ _ _, ((B.setCell (by simpa using hR) _).setCell (by simpa using hR) _).setCell (by simpa using hR) _, h.move fun b _ hb => ⟨?_, by omega⟩⟩
  rw [Below.heap_setCell _ _ _ _ (by simp; omega), Below.heap_setCell _ _ _ _ (by simp; omega), Below.heap_setCell _ _ _ _ (by simp; omega)]

set_option maxHeartbeats 8000000 in
theorem turn_step (m : Nat) (ih : Turns m) : Turns (m + 1) := by
  intro f v w hm hfi hpl hrep
  have HO : Hid (∀ (W : World), w.heap.size + 2 ≤ W.heap.size → ∀ b, W.heap.size ≤ b → w.heap.size + 1 + 1 ≤ b) := fun W h b hb => by omega
  rcases hfi.forms with ⟨n, rfl, hn⟩ | rfl | rfl | ⟨k, g, hk, rfl, hg⟩ | ⟨k, g, g', hk, rfl, hg, hg'⟩
  · obtain ⟨sl, cp, rfl⟩ := slice_shape hrep
    have hsm := hfi.small.1
    have HT : Hid (turnF (.mk 1 n []) = .mk 4 ⟨#[]⟩ [.mk 1 n []]) := turn_name n
    have HL : Hid (∀ W, Rep W (w.heap.size + 1 + 1 ≤ ·) (.mk 1 n []) (.agg #[.int .i64 1, .string n, .slice sl ([] : List Fm).length cp])) := fun W => by
      obtain ⟨sl', cp', hv, h1, h2, h3, -⟩ := Rep.def.1 hrep
      simp only [Value.agg.injEq, Array.mk.injEq, List.cons.injEq, and_true, true_and, Value.slice.injEq] at hv
      obtain ⟨rfl, rfl⟩ := hv
      exact Rep.def.2 ⟨sl, cp, rfl, h1, h2, h3, fun h => absurd rfl h⟩
    have HOf : Hid (∀ (W : World) v, w.heap.size + 2 ≤ W.heap.size → Rep W (w.heap.size + 1 + 1 ≤ ·) (.mk 1 n []) v → Calls Try.prog 47 #[.int .i64 4, v] W _) := fun W v hW h => ofP_any (w.heap.size + 1 + 1 ≤ ·) 4 (.mk 1 n []) v W (HO.out W hW) h
    clear hn hfi hpl hrep
    go_enter Try.func26, Try.ntmps26
    go_wp2_with (first
      | (go_at_call 47
         refine (HOf.out _ _ (by simp) (HL.out _)).mono ?_
         rintro e w1 ⟨x, rfl, hr1, hb1⟩
         have q1 := below_keep hb1 (blk_new (w.alloc _) _)
         rw [show (w.alloc _).heap.size = w.heap.size + 1 by simp] at q1
         have B1 := below_join (below_more (below_more (Below.refl _ w) _) _) hb1
         obtain ⟨s9, c9, rfl⟩ := slice_shape hr1
         obtain ⟨o0, o1, o2, o3, o4, o5⟩ := blk3 q1)
      | fail)
    obtain ⟨k9, n9, ks9, he9⟩ : ∃ k9 n9 ks9, (k9, n9, ks9) = ((4 : Int), (⟨#[]⟩ : ByteArray), [Fm.mk 1 n []]) := ⟨_, _, _, rfl⟩
    simp only [Prod.mk.injEq] at he9
    obtain ⟨rfl, rfl, rfl⟩ := he9
    have hrs := res_set (R := w.heap.size + 1) (by omega) B1 q1 hr1
    obtain ⟨j0, j1, j2⟩ := hrs
    generalize World.setCell _ _ _ = F at j0 j1 j2 ⊢
    clear o0 o1 o2 o3 o4 o5
    obtain ⟨o0, o1, o2, -⟩ := blk3 j0
    exact bodyPost_ret (v := .agg #[.int .i64 4, .string ⟨#[]⟩, .slice s9 [Fm.mk 1 n []].length c9]) (by simp [results, Try.results26, go_sem, o0, o1, o2]) rfl ⟨_, rfl, by rw [HT.out]; exact j2, j1⟩
  · obtain ⟨sl, cp, rfl⟩ := slice_shape hrep
    have HT : Hid (turnF (.mk 2 ⟨#[]⟩ []) = .mk 3 ⟨#[]⟩ []) := turn_2
    clear hfi hpl hrep
    have B0 := below_more (below_more (Below.refl _ w) (.cells #[.int .i64 2, .string ⟨#[]⟩, .slice sl ([] : List Fm).length cp] 37 (0, 0))) (.cells #[.int .i64 3, .string ⟨#[]⟩, .slice none 0 0] 37 (0, 0))
    go_enter Try.func26, Try.ntmps26
    go_wp2_with fail
    exact bodyPost_ret (v := .agg #[.int .i64 3, .string ⟨#[]⟩, .slice none 0 0]) (by simp [results, Try.results26, go_sem]) rfl ⟨_, rfl, by rw [HT.out]; exact Rep.leaf (by decide), B0⟩
  · obtain ⟨sl, cp, rfl⟩ := slice_shape hrep
    have HT : Hid (turnF (.mk 3 ⟨#[]⟩ []) = .mk 2 ⟨#[]⟩ []) := turn_3
    clear hfi hpl hrep
    have B0 := below_more (below_more (Below.refl _ w) (.cells #[.int .i64 3, .string ⟨#[]⟩, .slice sl ([] : List Fm).length cp] 37 (0, 0))) (.cells #[.int .i64 2, .string ⟨#[]⟩, .slice none 0 0] 37 (0, 0))
    go_enter Try.func26, Try.ntmps26
    go_wp2_with fail
    exact bodyPost_ret (v := .agg #[.int .i64 2, .string ⟨#[]⟩, .slice none 0 0]) (by simp [results, Try.results26, go_sem]) rfl ⟨_, rfl, by rw [HT.out]; exact Rep.leaf (by decide), B0⟩
  · have hkk : k = 4 := by
      have := hpl.kind
      rcases hk with rfl | rfl | rfl
      · rfl
      · cases this
      · cases this
    subst hkk
    have hca := fun v (w : World) h => ih g v w (by rw [size_one] at hm; omega) hg (hpl.kid (by simp)) h
    have HT : Hid (turnF (.mk 4 ⟨#[]⟩ [g]) = .mk 4 ⟨#[]⟩ [turnF g]) := turn_4 g
    generalize turnF g = tg at *
    have HC : Hid (∀ v w, Rep w (fun _ => True) g v → Calls Try.prog 26 #[v] w _) := hca
    have HOf : Hid (∀ (W : World) v, w.heap.size + 2 ≤ W.heap.size → Rep W (w.heap.size + 1 + 1 ≤ ·) tg v → Calls Try.prog 47 #[.int .i64 4, v] W _) := fun W v hW h => ofP_any (w.heap.size + 1 + 1 ≤ ·) 4 tg v W (HO.out W hW) h
    obtain ⟨b, off, cp, rfl, hcp, hrs⟩ := hrep.kid1
    have B0 := below_more (below_more (Below.refl _ w) (.cells #[.int .i64 4, .string ⟨#[]⟩, .slice (some ⟨b, off, none⟩) 1 cp] 37 (0, 0))) (.cells #[.int .i64 0, .string ⟨#[]⟩, .slice none 0 0] 37 (0, 0))
    obtain ⟨k2, n2, ks2⟩ := g
    obtain ⟨sl2, cap2, g0, g1, g2, hrep2⟩ := (hrs.up B0).at 0 k2 n2 ks2 rfl
    simp only [Nat.zero_mul, Nat.add_zero] at g0 g1 g2
    have hcI : (1 : Int) ≤ (cp : Int) := by omega
    clear hfi hpl hrep hrs hca hk hg
    go_enter Try.func26, Try.ntmps26
    go_wp2_with (first
      | (go_at_call 26
         refine (HC.out _ _ hrep2).mono ?_
         rintro e w1 ⟨x, rfl, hr1, hb1⟩
         have q1 := below_keep hb1 (blk_new (w.alloc _) _)
         rw [show (w.alloc _).heap.size = w.heap.size + 1 by simp] at q1
         have B1 := below_join B0 hb1
         have hr1' : Rep w1 (w.heap.size + 1 + 1 ≤ ·) tg x := hr1.move fun b _ hb => ⟨rfl, by simp at hb; omega⟩
         have z1 := lt_of_block q1)
      | (go_at_call 47
         refine (HOf.out _ _ (by omega) hr1').mono ?_
         rintro e w2 ⟨x, rfl, hr2, hb2⟩
         have q2 := below_keep hb2 q1
         have B2 := below_join B1 hb2
         obtain ⟨s9, c9, rfl⟩ := slice_shape hr2
         obtain ⟨o0, o1, o2, o3, o4, o5⟩ := blk3 q2)
      | fail)
    have hrs := res_set (R := w.heap.size + 1) (by omega) B2 q2 hr2
    obtain ⟨j0, j1, j2⟩ := hrs
    generalize World.setCell _ _ _ = F at j0 j1 j2 ⊢
    clear o0 o1 o2 o3 o4 o5
    obtain ⟨o0, o1, o2, -⟩ := blk3 j0
    exact bodyPost_ret (v := .agg #[.int .i64 4, .string ⟨#[]⟩, .slice s9 [tg].length c9]) (by simp [results, Try.results26, go_sem, o0, o1, o2]) rfl ⟨_, rfl, by rw [HT.out]; exact j2, j1⟩
  · have hca := fun v (w : World) h => ih g v w (by rw [size_two] at hm; omega) hg (hpl.kid (by simp)) h
    have hca' := fun v (w : World) h => ih g' v w (by rw [size_two] at hm; omega) hg' (hpl.kid (by simp)) h
    rcases hk with rfl | rfl | rfl
    · have HT : Hid (turnF (.mk 5 ⟨#[]⟩ [g, g']) = .mk 6 ⟨#[]⟩ [turnF g, turnF g']) := turn_5 g g'
      generalize turnF g = tg at *
      generalize turnF g' = tg' at *
      have HC : Hid (∀ v w, Rep w (fun _ => True) g v → Calls Try.prog 26 #[v] w _) := hca
      have HC' : Hid (∀ v w, Rep w (fun _ => True) g' v → Calls Try.prog 26 #[v] w _) := hca'
      have HBo : Hid (∀ (W : World) v u, w.heap.size + 2 ≤ W.heap.size → Rep W (w.heap.size + 1 + 1 ≤ ·) tg v → Rep W (w.heap.size + 1 + 1 ≤ ·) tg' u → Calls Try.prog 24 #[.int .i64 6, v, u] W _) := fun W v u hW h h' => bothP_any (w.heap.size + 1 + 1 ≤ ·) 6 tg tg' v u W (HO.out W hW) h h'
      obtain ⟨b, off, cp, rfl, hcp, hrs⟩ := hrep.kid2
      have B0 := below_more (below_more (Below.refl _ w) (.cells #[.int .i64 5, .string ⟨#[]⟩, .slice (some ⟨b, off, none⟩) 2 cp] 37 (0, 0))) (.cells #[.int .i64 0, .string ⟨#[]⟩, .slice none 0 0] 37 (0, 0))
      have qa := alloc_keep (blk_new w (.cells #[.int .i64 5, .string ⟨#[]⟩, .slice (some ⟨b, off, none⟩) 2 cp] 37 (0, 0))) (.cells #[.int .i64 0, .string ⟨#[]⟩, .slice none 0 0] 37 (0, 0))
      have qb := blk_sec w (.cells #[.int .i64 5, .string ⟨#[]⟩, .slice (some ⟨b, off, none⟩) 2 cp] 37 (0, 0)) (.cells #[.int .i64 0, .string ⟨#[]⟩, .slice none 0 0] 37 (0, 0))
      obtain ⟨k2, n2, ks2⟩ := g
      obtain ⟨sl2, cap2, g0, g1, g2, hrep2⟩ := (hrs.up B0).at 0 k2 n2 ks2 rfl
      obtain ⟨k3, n3, ks3⟩ := g'
      obtain ⟨sl3, cap3, p0, p1, p2, hrep3⟩ := (hrs.up B0).at 1 k3 n3 ks3 rfl
      simp only [Nat.zero_mul, Nat.add_zero] at g0 g1 g2
      simp only [Nat.one_mul] at p0 p1 p2
      have hcI : (2 : Int) ≤ (cp : Int) := by omega
      have zb : b < w.heap.size := by
        obtain ⟨c0, _, _, h0, _⟩ := hrs.get 0 _ rfl
        exact lt_of_cell h0
      have zbne : ¬ w.heap.size + 1 = b := by omega
      have zbn2 : ¬ b = w.heap.size + 1 := by omega
      clear hfi hpl hrep hrs hca hca' hg hg'
      go_enter Try.func26, Try.ntmps26
      go_wp2_with fail
      have hZ : (((w.alloc (.cells #[.int .i64 5, .string ⟨#[]⟩, .slice (some ⟨b, off, none⟩) 2 cp] 37 (0, 0))).alloc (.cells #[.int .i64 0, .string ⟨#[]⟩, .slice none 0 0] 37 (0, 0)))).heap.size = w.heap.size + 2 := by simp
      generalize (w.alloc (.cells #[.int .i64 5, .string ⟨#[]⟩, .slice (some ⟨b, off, none⟩) 2 cp] 37 (0, 0))).alloc (.cells #[.int .i64 0, .string ⟨#[]⟩, .slice none 0 0] 37 (0, 0)) = W0 at *
      have HZ : Hid (W0.heap.size = w.heap.size + 2) := hZ
      clear hZ
      obtain ⟨-, -, a2, -⟩ := blk3 qa
      go_region_held3 (fun w' => w'.cell? ⟨w.heap.size, 2, none⟩ = some (.slice (some ⟨b, off, none⟩) 2 cp) ∧ w'.cell? ⟨b, off, none⟩ = some (.int .i64 k2) ∧ w'.cell? ⟨b, off + 1, none⟩ = some (.string n2) ∧ w'.cell? ⟨b, off + 2, none⟩ = some (.slice sl2 ks2.length cap2) ∧ w'.cell? ⟨b, off + 3, none⟩ = some (.int .i64 k3) ∧ w'.cell? ⟨b, off + 3 + 1, none⟩ = some (.string n3) ∧ w'.cell? ⟨b, off + 3 + 2, none⟩ = some (.slice sl3 ks3.length cap3)) (go_keep)
        (first
         | (go_at_call 24
            refine (HBo.out _ _ _ (by omega) hr1 hr2).mono ?_
            rintro e w3 ⟨x, rfl, hr3, hb3⟩
            have B3 := below_join B2 hb3
            have t1 := below_keep hb3 r1
            have t0 := below_keep hb3 r0
            obtain ⟨s9, c9, rfl⟩ := slice_shape hr3
            obtain ⟨o0, o1, o2, o3, o4, o5⟩ := blk3 t1
            obtain ⟨-, -, m2, -⟩ := blk3 t0
            have y0 := (hb3.cell (p := ⟨b, off, none⟩) (by simp; omega)).trans x0
            have y1 := (hb3.cell (p := ⟨b, off + 1, none⟩) (by simp; omega)).trans x1
            have y2 := (hb3.cell (p := ⟨b, off + 2, none⟩) (by simp; omega)).trans x2
            have y3 := (hb3.cell (p := ⟨b, off + 3, none⟩) (by simp; omega)).trans x3
            have y4 := (hb3.cell (p := ⟨b, off + 3 + 1, none⟩) (by simp; omega)).trans x4
            have y5 := (hb3.cell (p := ⟨b, off + 3 + 2, none⟩) (by simp; omega)).trans x5)
         | (go_at_call 26
            have hx := HA1.out
            refine (HC'.out _ _ (hrep3.up hb1x)).mono ?_
            rintro e w2 ⟨x, rfl, hr2', hb2⟩
            have z2 := hb2.size
            have hr2 : Rep w2 (w.heap.size + 1 + 1 ≤ ·) tg' x := hr2'.move fun b _ hb => ⟨rfl, by omega⟩
            have hr1 := hr1.up' hb2
            have r1 := below_keep hb2 q1
            have r0 := below_keep hb2 q0
            have B2 := below_join B1 hb2
            obtain ⟨-, -, l2, -⟩ := blk3 r0
            have x0 := (hb2.cell (p := ⟨b, off, none⟩) (by simp; omega)).trans e0
            have x1 := (hb2.cell (p := ⟨b, off + 1, none⟩) (by simp; omega)).trans e1
            have x2 := (hb2.cell (p := ⟨b, off + 2, none⟩) (by simp; omega)).trans e2
            have x3 := (hb2.cell (p := ⟨b, off + 3, none⟩) (by simp; omega)).trans e3
            have x4 := (hb2.cell (p := ⟨b, off + 3 + 1, none⟩) (by simp; omega)).trans e4
            have x5 := (hb2.cell (p := ⟨b, off + 3 + 2, none⟩) (by simp; omega)).trans e5)
         | (go_at_call 26
            refine (HC.out _ _ (hrep2.up (Below.refl _ _).drew)).mono ?_
            rintro e w1 ⟨x, rfl, hr1', hb1⟩
            have hb1x : Below W0.heap.size W0 w1 := (Below.refl _ W0).drew.trans hb1
            have hz0 := HZ.out
            have z1 := hb1x.size
            have hr1 : Rep w1 (w.heap.size + 1 + 1 ≤ ·) tg x := hr1'.move fun b _ hb => ⟨rfl, by simp at hb; omega⟩
            have q1 := below_keep hb1x qb
            have q0 := below_keep hb1x qa
            have B1 := below_join B0 hb1x
            obtain ⟨-, -, h2, -⟩ := blk3 q0
            have e0 := (hb1x.cell (p := ⟨b, off, none⟩) (by simp; omega)).trans g0
            have e1 := (hb1x.cell (p := ⟨b, off + 1, none⟩) (by simp; omega)).trans g1
            have e2 := (hb1x.cell (p := ⟨b, off + 2, none⟩) (by simp; omega)).trans g2
            have e3 := (hb1x.cell (p := ⟨b, off + 3, none⟩) (by simp; omega)).trans p0
            have e4 := (hb1x.cell (p := ⟨b, off + 3 + 1, none⟩) (by simp; omega)).trans p1
            have e5 := (hb1x.cell (p := ⟨b, off + 3 + 2, none⟩) (by simp; omega)).trans p2
            have HA1 : Hid True := trivial)
         | fail)
      all_goals
        go_wp2_with fail
        have hrs := res_set (R := w.heap.size + 1) (by omega) B3 t1 hr3
        obtain ⟨j0, j1, j2⟩ := hrs
        generalize World.setCell _ _ _ = F at j0 j1 j2 ⊢
        clear o0 o1 o2 o3 o4 o5
        obtain ⟨o0, o1, o2, -⟩ := blk3 j0
        exact bodyPost_ret (v := .agg #[.int .i64 6, .string ⟨#[]⟩, .slice s9 [tg, tg'].length c9]) (by simp [results, Try.results26, go_sem, o0, o1, o2]) rfl ⟨_, rfl, by rw [HT.out]; exact j2, j1⟩
    · have HT : Hid (turnF (.mk 6 ⟨#[]⟩ [g, g']) = .mk 5 ⟨#[]⟩ [turnF g, turnF g']) := turn_6 g g'
      generalize turnF g = tg at *
      generalize turnF g' = tg' at *
      have HC : Hid (∀ v w, Rep w (fun _ => True) g v → Calls Try.prog 26 #[v] w _) := hca
      have HC' : Hid (∀ v w, Rep w (fun _ => True) g' v → Calls Try.prog 26 #[v] w _) := hca'
      have HBo : Hid (∀ (W : World) v u, w.heap.size + 2 ≤ W.heap.size → Rep W (w.heap.size + 1 + 1 ≤ ·) tg v → Rep W (w.heap.size + 1 + 1 ≤ ·) tg' u → Calls Try.prog 24 #[.int .i64 5, v, u] W _) := fun W v u hW h h' => bothP_any (w.heap.size + 1 + 1 ≤ ·) 5 tg tg' v u W (HO.out W hW) h h'
      obtain ⟨b, off, cp, rfl, hcp, hrs⟩ := hrep.kid2
      have B0 := below_more (below_more (Below.refl _ w) (.cells #[.int .i64 6, .string ⟨#[]⟩, .slice (some ⟨b, off, none⟩) 2 cp] 37 (0, 0))) (.cells #[.int .i64 0, .string ⟨#[]⟩, .slice none 0 0] 37 (0, 0))
      have qa := alloc_keep (blk_new w (.cells #[.int .i64 6, .string ⟨#[]⟩, .slice (some ⟨b, off, none⟩) 2 cp] 37 (0, 0))) (.cells #[.int .i64 0, .string ⟨#[]⟩, .slice none 0 0] 37 (0, 0))
      have qb := blk_sec w (.cells #[.int .i64 6, .string ⟨#[]⟩, .slice (some ⟨b, off, none⟩) 2 cp] 37 (0, 0)) (.cells #[.int .i64 0, .string ⟨#[]⟩, .slice none 0 0] 37 (0, 0))
      obtain ⟨k2, n2, ks2⟩ := g
      obtain ⟨sl2, cap2, g0, g1, g2, hrep2⟩ := (hrs.up B0).at 0 k2 n2 ks2 rfl
      obtain ⟨k3, n3, ks3⟩ := g'
      obtain ⟨sl3, cap3, p0, p1, p2, hrep3⟩ := (hrs.up B0).at 1 k3 n3 ks3 rfl
      simp only [Nat.zero_mul, Nat.add_zero] at g0 g1 g2
      simp only [Nat.one_mul] at p0 p1 p2
      have hcI : (2 : Int) ≤ (cp : Int) := by omega
      have zb : b < w.heap.size := by
        obtain ⟨c0, _, _, h0, _⟩ := hrs.get 0 _ rfl
        exact lt_of_cell h0
      have zbne : ¬ w.heap.size + 1 = b := by omega
      have zbn2 : ¬ b = w.heap.size + 1 := by omega
      clear hfi hpl hrep hrs hca hca' hg hg'
      go_enter Try.func26, Try.ntmps26
      go_wp2_with fail
      have hZ : (((w.alloc (.cells #[.int .i64 6, .string ⟨#[]⟩, .slice (some ⟨b, off, none⟩) 2 cp] 37 (0, 0))).alloc (.cells #[.int .i64 0, .string ⟨#[]⟩, .slice none 0 0] 37 (0, 0)))).heap.size = w.heap.size + 2 := by simp
      generalize (w.alloc (.cells #[.int .i64 6, .string ⟨#[]⟩, .slice (some ⟨b, off, none⟩) 2 cp] 37 (0, 0))).alloc (.cells #[.int .i64 0, .string ⟨#[]⟩, .slice none 0 0] 37 (0, 0)) = W0 at *
      have HZ : Hid (W0.heap.size = w.heap.size + 2) := hZ
      clear hZ
      obtain ⟨-, -, a2, -⟩ := blk3 qa
      go_region_held3 (fun w' => w'.cell? ⟨w.heap.size, 2, none⟩ = some (.slice (some ⟨b, off, none⟩) 2 cp) ∧ w'.cell? ⟨b, off, none⟩ = some (.int .i64 k2) ∧ w'.cell? ⟨b, off + 1, none⟩ = some (.string n2) ∧ w'.cell? ⟨b, off + 2, none⟩ = some (.slice sl2 ks2.length cap2) ∧ w'.cell? ⟨b, off + 3, none⟩ = some (.int .i64 k3) ∧ w'.cell? ⟨b, off + 3 + 1, none⟩ = some (.string n3) ∧ w'.cell? ⟨b, off + 3 + 2, none⟩ = some (.slice sl3 ks3.length cap3)) (go_keep)
        (first
         | (go_at_call 24
            refine (HBo.out _ _ _ (by omega) hr1 hr2).mono ?_
            rintro e w3 ⟨x, rfl, hr3, hb3⟩
            have B3 := below_join B2 hb3
            have t1 := below_keep hb3 r1
            have t0 := below_keep hb3 r0
            obtain ⟨s9, c9, rfl⟩ := slice_shape hr3
            obtain ⟨o0, o1, o2, o3, o4, o5⟩ := blk3 t1
            obtain ⟨-, -, m2, -⟩ := blk3 t0
            have y0 := (hb3.cell (p := ⟨b, off, none⟩) (by simp; omega)).trans x0
            have y1 := (hb3.cell (p := ⟨b, off + 1, none⟩) (by simp; omega)).trans x1
            have y2 := (hb3.cell (p := ⟨b, off + 2, none⟩) (by simp; omega)).trans x2
            have y3 := (hb3.cell (p := ⟨b, off + 3, none⟩) (by simp; omega)).trans x3
            have y4 := (hb3.cell (p := ⟨b, off + 3 + 1, none⟩) (by simp; omega)).trans x4
            have y5 := (hb3.cell (p := ⟨b, off + 3 + 2, none⟩) (by simp; omega)).trans x5)
         | (go_at_call 26
            have hx := HA1.out
            refine (HC'.out _ _ (hrep3.up hb1x)).mono ?_
            rintro e w2 ⟨x, rfl, hr2', hb2⟩
            have z2 := hb2.size
            have hr2 : Rep w2 (w.heap.size + 1 + 1 ≤ ·) tg' x := hr2'.move fun b _ hb => ⟨rfl, by omega⟩
            have hr1 := hr1.up' hb2
            have r1 := below_keep hb2 q1
            have r0 := below_keep hb2 q0
            have B2 := below_join B1 hb2
            obtain ⟨-, -, l2, -⟩ := blk3 r0
            have x0 := (hb2.cell (p := ⟨b, off, none⟩) (by simp; omega)).trans e0
            have x1 := (hb2.cell (p := ⟨b, off + 1, none⟩) (by simp; omega)).trans e1
            have x2 := (hb2.cell (p := ⟨b, off + 2, none⟩) (by simp; omega)).trans e2
            have x3 := (hb2.cell (p := ⟨b, off + 3, none⟩) (by simp; omega)).trans e3
            have x4 := (hb2.cell (p := ⟨b, off + 3 + 1, none⟩) (by simp; omega)).trans e4
            have x5 := (hb2.cell (p := ⟨b, off + 3 + 2, none⟩) (by simp; omega)).trans e5)
         | (go_at_call 26
            refine (HC.out _ _ (hrep2.up (Below.refl _ _).drew)).mono ?_
            rintro e w1 ⟨x, rfl, hr1', hb1⟩
            have hb1x : Below W0.heap.size W0 w1 := (Below.refl _ W0).drew.trans hb1
            have hz0 := HZ.out
            have z1 := hb1x.size
            have hr1 : Rep w1 (w.heap.size + 1 + 1 ≤ ·) tg x := hr1'.move fun b _ hb => ⟨rfl, by simp at hb; omega⟩
            have q1 := below_keep hb1x qb
            have q0 := below_keep hb1x qa
            have B1 := below_join B0 hb1x
            obtain ⟨-, -, h2, -⟩ := blk3 q0
            have e0 := (hb1x.cell (p := ⟨b, off, none⟩) (by simp; omega)).trans g0
            have e1 := (hb1x.cell (p := ⟨b, off + 1, none⟩) (by simp; omega)).trans g1
            have e2 := (hb1x.cell (p := ⟨b, off + 2, none⟩) (by simp; omega)).trans g2
            have e3 := (hb1x.cell (p := ⟨b, off + 3, none⟩) (by simp; omega)).trans p0
            have e4 := (hb1x.cell (p := ⟨b, off + 3 + 1, none⟩) (by simp; omega)).trans p1
            have e5 := (hb1x.cell (p := ⟨b, off + 3 + 2, none⟩) (by simp; omega)).trans p2
            have HA1 : Hid True := trivial)
         | fail)
      all_goals
        go_wp2_with fail
        have hrs := res_set (R := w.heap.size + 1) (by omega) B3 t1 hr3
        obtain ⟨j0, j1, j2⟩ := hrs
        generalize World.setCell _ _ _ = F at j0 j1 j2 ⊢
        clear o0 o1 o2 o3 o4 o5
        obtain ⟨o0, o1, o2, -⟩ := blk3 j0
        exact bodyPost_ret (v := .agg #[.int .i64 5, .string ⟨#[]⟩, .slice s9 [tg, tg'].length c9]) (by simp [results, Try.results26, go_sem, o0, o1, o2]) rfl ⟨_, rfl, by rw [HT.out]; exact j2, j1⟩
    · have HT : Hid (turnF (.mk 7 ⟨#[]⟩ [g, g']) = .mk 5 ⟨#[]⟩ [.mk 4 ⟨#[]⟩ [turnF g], turnF g']) := turn_7 g g'
      generalize turnF g = tg at *
      generalize turnF g' = tg' at *
      have HC : Hid (∀ v w, Rep w (fun _ => True) g v → Calls Try.prog 26 #[v] w _) := hca
      have HC' : Hid (∀ v w, Rep w (fun _ => True) g' v → Calls Try.prog 26 #[v] w _) := hca'
      have HOf : Hid (∀ (W : World) v, w.heap.size + 2 ≤ W.heap.size → Rep W (w.heap.size + 1 + 1 ≤ ·) tg v → Calls Try.prog 47 #[.int .i64 4, v] W _) := fun W v hW h => ofP_any (w.heap.size + 1 + 1 ≤ ·) 4 tg v W (HO.out W hW) h
      have HBo : Hid (∀ (W : World) v u, w.heap.size + 2 ≤ W.heap.size → Rep W (w.heap.size + 1 + 1 ≤ ·) (.mk 4 ⟨#[]⟩ [tg]) v → Rep W (w.heap.size + 1 + 1 ≤ ·) tg' u → Calls Try.prog 24 #[.int .i64 5, v, u] W _) := fun W v u hW h h' => bothP_any (w.heap.size + 1 + 1 ≤ ·) 5 (.mk 4 ⟨#[]⟩ [tg]) tg' v u W (HO.out W hW) h h'
      obtain ⟨b, off, cp, rfl, hcp, hrs⟩ := hrep.kid2
      have B0 := below_more (below_more (Below.refl _ w) (.cells #[.int .i64 7, .string ⟨#[]⟩, .slice (some ⟨b, off, none⟩) 2 cp] 37 (0, 0))) (.cells #[.int .i64 0, .string ⟨#[]⟩, .slice none 0 0] 37 (0, 0))
      have qa := alloc_keep (blk_new w (.cells #[.int .i64 7, .string ⟨#[]⟩, .slice (some ⟨b, off, none⟩) 2 cp] 37 (0, 0))) (.cells #[.int .i64 0, .string ⟨#[]⟩, .slice none 0 0] 37 (0, 0))
      have qb := blk_sec w (.cells #[.int .i64 7, .string ⟨#[]⟩, .slice (some ⟨b, off, none⟩) 2 cp] 37 (0, 0)) (.cells #[.int .i64 0, .string ⟨#[]⟩, .slice none 0 0] 37 (0, 0))
      obtain ⟨k2, n2, ks2⟩ := g
      obtain ⟨sl2, cap2, g0, g1, g2, hrep2⟩ := (hrs.up B0).at 0 k2 n2 ks2 rfl
      obtain ⟨k3, n3, ks3⟩ := g'
      obtain ⟨sl3, cap3, p0, p1, p2, hrep3⟩ := (hrs.up B0).at 1 k3 n3 ks3 rfl
      simp only [Nat.zero_mul, Nat.add_zero] at g0 g1 g2
      simp only [Nat.one_mul] at p0 p1 p2
      have hcI : (2 : Int) ≤ (cp : Int) := by omega
      have zb : b < w.heap.size := by
        obtain ⟨c0, _, _, h0, _⟩ := hrs.get 0 _ rfl
        exact lt_of_cell h0
      have zbne : ¬ w.heap.size + 1 = b := by omega
      have zbn2 : ¬ b = w.heap.size + 1 := by omega
      clear hfi hpl hrep hrs hca hca' hg hg'
      go_enter Try.func26, Try.ntmps26
      go_wp2_with fail
      have hZ : (((w.alloc (.cells #[.int .i64 7, .string ⟨#[]⟩, .slice (some ⟨b, off, none⟩) 2 cp] 37 (0, 0))).alloc (.cells #[.int .i64 0, .string ⟨#[]⟩, .slice none 0 0] 37 (0, 0)))).heap.size = w.heap.size + 2 := by simp
      generalize (w.alloc (.cells #[.int .i64 7, .string ⟨#[]⟩, .slice (some ⟨b, off, none⟩) 2 cp] 37 (0, 0))).alloc (.cells #[.int .i64 0, .string ⟨#[]⟩, .slice none 0 0] 37 (0, 0)) = W0 at *
      have HZ : Hid (W0.heap.size = w.heap.size + 2) := hZ
      clear hZ
      obtain ⟨-, -, a2, -⟩ := blk3 qa
      go_region_held3 (fun w' => w'.cell? ⟨w.heap.size, 2, none⟩ = some (.slice (some ⟨b, off, none⟩) 2 cp) ∧ w'.cell? ⟨b, off, none⟩ = some (.int .i64 k2) ∧ w'.cell? ⟨b, off + 1, none⟩ = some (.string n2) ∧ w'.cell? ⟨b, off + 2, none⟩ = some (.slice sl2 ks2.length cap2) ∧ w'.cell? ⟨b, off + 3, none⟩ = some (.int .i64 k3) ∧ w'.cell? ⟨b, off + 3 + 1, none⟩ = some (.string n3) ∧ w'.cell? ⟨b, off + 3 + 2, none⟩ = some (.slice sl3 ks3.length cap3)) (go_keep)
        (first
         | (go_at_call 24
            refine (HBo.out _ _ _ (by omega) hrO hr2).mono ?_
            rintro e w3 ⟨x, rfl, hr3, hb3⟩
            have B3 := below_join B2 hb3
            have t1 := below_keep hb3 r1
            have t0 := below_keep hb3 r0
            obtain ⟨s9, c9, rfl⟩ := slice_shape hr3
            obtain ⟨o0, o1, o2, o3, o4, o5⟩ := blk3 t1
            obtain ⟨-, -, m2, -⟩ := blk3 t0
            have y0 := (hb3.cell (p := ⟨b, off, none⟩) (by simp; omega)).trans x0
            have y1 := (hb3.cell (p := ⟨b, off + 1, none⟩) (by simp; omega)).trans x1
            have y2 := (hb3.cell (p := ⟨b, off + 2, none⟩) (by simp; omega)).trans x2
            have y3 := (hb3.cell (p := ⟨b, off + 3, none⟩) (by simp; omega)).trans x3
            have y4 := (hb3.cell (p := ⟨b, off + 3 + 1, none⟩) (by simp; omega)).trans x4
            have y5 := (hb3.cell (p := ⟨b, off + 3 + 2, none⟩) (by simp; omega)).trans x5)
         | (go_at_call 26
            have hx := HA1.out
            refine (HC'.out _ _ (hrep3.up BO)).mono ?_
            rintro e w2 ⟨x, rfl, hr2', hb2⟩
            have z2 := hb2.size
            have hr2 : Rep w2 (w.heap.size + 1 + 1 ≤ ·) tg' x := hr2'.move fun b _ hb => ⟨rfl, by omega⟩
            have hrO := hrO.up' hb2
            have r1 := below_keep hb2 u1
            have r0 := below_keep hb2 u0
            have B2 := below_join BO2 hb2
            obtain ⟨-, -, l2, -⟩ := blk3 r0
            have x0 := (hb2.cell (p := ⟨b, off, none⟩) (by simp; omega)).trans e0
            have x1 := (hb2.cell (p := ⟨b, off + 1, none⟩) (by simp; omega)).trans e1
            have x2 := (hb2.cell (p := ⟨b, off + 2, none⟩) (by simp; omega)).trans e2
            have x3 := (hb2.cell (p := ⟨b, off + 3, none⟩) (by simp; omega)).trans e3
            have x4 := (hb2.cell (p := ⟨b, off + 3 + 1, none⟩) (by simp; omega)).trans e4
            have x5 := (hb2.cell (p := ⟨b, off + 3 + 2, none⟩) (by simp; omega)).trans e5)
         | (go_at_call 47
            refine (HOf.out _ _ (by omega) hr1).mono ?_
            rintro e wO ⟨x, rfl, hrO, hbO⟩
            have zO := hbO.size
            have u1 := below_keep hbO q1
            have u0 := below_keep hbO q0
            have BO := below_join hb1x hbO
            have BO2 := below_join B1 hbO
            have HA1 : Hid True := trivial
            obtain ⟨-, -, k2x, -⟩ := blk3 u0
            have d0 := (hbO.cell (p := ⟨b, off, none⟩) (by simp; omega)).trans e0
            have d1 := (hbO.cell (p := ⟨b, off + 1, none⟩) (by simp; omega)).trans e1
            have d2 := (hbO.cell (p := ⟨b, off + 2, none⟩) (by simp; omega)).trans e2
            have d3 := (hbO.cell (p := ⟨b, off + 3, none⟩) (by simp; omega)).trans e3
            have d4 := (hbO.cell (p := ⟨b, off + 3 + 1, none⟩) (by simp; omega)).trans e4
            have d5 := (hbO.cell (p := ⟨b, off + 3 + 2, none⟩) (by simp; omega)).trans e5
            clear e0 e1 e2 e3 e4 e5
            have e0 := d0
            have e1 := d1
            have e2 := d2
            have e3 := d3
            have e4 := d4
            have e5 := d5
            clear d0 d1 d2 d3 d4 d5)
         | (go_at_call 26
            refine (HC.out _ _ (hrep2.up (Below.refl _ _).drew)).mono ?_
            rintro e w1 ⟨x, rfl, hr1', hb1⟩
            have hb1x : Below W0.heap.size W0 w1 := (Below.refl _ W0).drew.trans hb1
            have hz0 := HZ.out
            have z1 := hb1x.size
            have hr1 : Rep w1 (w.heap.size + 1 + 1 ≤ ·) tg x := hr1'.move fun b _ hb => ⟨rfl, by simp at hb; omega⟩
            have q1 := below_keep hb1x qb
            have q0 := below_keep hb1x qa
            have B1 := below_join B0 hb1x
            obtain ⟨-, -, h2, -⟩ := blk3 q0
            have e0 := (hb1x.cell (p := ⟨b, off, none⟩) (by simp; omega)).trans g0
            have e1 := (hb1x.cell (p := ⟨b, off + 1, none⟩) (by simp; omega)).trans g1
            have e2 := (hb1x.cell (p := ⟨b, off + 2, none⟩) (by simp; omega)).trans g2
            have e3 := (hb1x.cell (p := ⟨b, off + 3, none⟩) (by simp; omega)).trans p0
            have e4 := (hb1x.cell (p := ⟨b, off + 3 + 1, none⟩) (by simp; omega)).trans p1
            have e5 := (hb1x.cell (p := ⟨b, off + 3 + 2, none⟩) (by simp; omega)).trans p2
            )
         | fail)
      all_goals
        go_wp2_with fail
        have hrs := res_set (R := w.heap.size + 1) (by omega) B3 t1 hr3
        obtain ⟨j0, j1, j2⟩ := hrs
        generalize World.setCell _ _ _ = F at j0 j1 j2 ⊢
        clear o0 o1 o2 o3 o4 o5
        obtain ⟨o0, o1, o2, -⟩ := blk3 j0
        exact bodyPost_ret (v := .agg #[.int .i64 5, .string ⟨#[]⟩, .slice s9 [(.mk 4 ⟨#[]⟩ [tg]), tg'].length c9]) (by simp [results, Try.results26, go_sem, o0, o1, o2]) rfl ⟨_, rfl, by rw [HT.out]; exact j2, j1⟩

theorem turns_all : ∀ m, Turns m
  | 0 => fun _ _ _ h => absurd h (Nat.not_lt_zero _)
  | m + 1 => turn_step m (turns_all m)

theorem turned_any (f : Fm) (v : Value) (w : World) (hf : Fine f) (hp : Plain f) (hrep : Rep w (fun _ => True) f v) :
    Calls Try.prog 26 #[v] w fun e w' => ∃ x, e = .returned x ∧ Rep w' (w.heap.size ≤ ·) (turnF f) x ∧ Below w.heap.size w w' :=
  turns_all (f.size + 1) f v w (Nat.lt_succ_self _) hf hp hrep
end Go.Proofs.Ythmjoindlmgfdab
