/- Texts of one proof, one behind the other: TZ3. -/
import Derived.Test.YtmahgfgndfcmpabB35
import Derived.Test.YtmahgfgndfcmpabB32
import Derived.Test.YtmahgfgndfcmpabB30
import Derived.Test.YtmahgfgndfcmpabB12
/- Walks: TruthMorgan. -/
namespace Go.Proofs.Ytmahgfgndfcmpab
open Go.RowKit Go.Sort

/-- A formula alone in a list. -/
theorem FL.one {w : World} {b : Nat} {f : Fm} {c0 c1 c2 : Value} {T : TypeId} (hb : w.heap[b]? = some (.cells #[c0, c1, c2] T (0, 0))) (hr : Rep w (fun _ => True) f (.agg #[c0, c1, c2])) : FL w (.slice (some ⟨b, 0, none⟩) 1 1) [f] := by
  obtain ⟨g0, g1, g2, -⟩ := blk3 hb; (exact ⟨some ⟨b, 0, none⟩, 1, rfl, by simp, by simp [maxLen], fun _ => ⟨b, 0, rfl, Reps.cons.2 ⟨⟨c0, c1, c2, g0, g1, g2, hr⟩, Reps.nil⟩⟩⟩)

theorem walk80 (f : Fm) : (walkL f 80).length = min 81 f.size := by
  rw [walkL_take, List.length_take, allN_len]

set_option maxHeartbeats 4000000 in
theorem morgan_any (f : Fm) (l : List (List UInt8)) (hmx : ∀ t ∈ l, t.length ≤ maxLen) (v u : Value) (w : World) (hrep : Rep w (fun _ => True) f v) (hu : SL w u l) :
    Calls Try.prog 6 #[v, u] w fun e w' => e = .returned (.bool true) ∧ Below w.heap.size w w' := by
  (have hva := fun v w h => vast2_any f v w h); (have hpf := fun v (w : World) h => plainR_any [f] (by simp) v w h)
  have hpf1 : pfirst [f] = f.pcode := by
    rw [pfirst, pfirst]; by_cases h : f.pcode.1 = 0
    · rw [if_pos h, (pcode_ok h).2.2]
    · rw [if_neg h]
  rw [hpf1] at hpf; (have hwk := fun v (w : World) h => walk_any f v 80 w (by omega) h); have hwl := walk80 f; (have hval := fun v u (w : World) h h' => value_any f l hmx v u w h h'); (have hfc := fun a b w => fault_code a b w)
  have HFin : Hid (f.pcode.1 = 0 → f.size ≤ 60 → ∀ v (w : World), Rep w (fun _ => True) f v → Calls Try.prog 27 #[v] w fun e w' => ∃ x, e = .returned x ∧ Rep w' (w.heap.size ≤ ·) (turnF f) x ∧ Below w.heap.size w w') := fun hp hs v w h => by
    obtain ⟨⟨s, hs'⟩, hpl, -⟩ := pcode_ok hp; exact turned_any f v w (fine_of_chk f 0 s hs') hpl h
  have HTv : Hid (f.pcode.1 = 0 → f.size ≤ 60 → vcode (turnF f) l = vcode f l ∧ tv (fun t => decide (t ∈ l)) (turnF f) = !tv (fun t => decide (t ∈ l)) f) := fun hp hs => by
    obtain ⟨⟨s, hs'⟩, hpl, hpc⟩ := pcode_ok hp; obtain ⟨h1, h2, h3, h4⟩ := turn_all f.size f (Nat.le_refl _) (fine_of_chk f 0 s hs') hpl; (have hc := chk_fine (turnF f) 0 h1 (by omega)); have hpt := pcode_of hc h2; refine ⟨?_, h4 _⟩; unfold vcode; rw [hpt, hpc]
  (have hval2 := fun v u (w : World) h h' => value_any (turnF f) l hmx v u w h h'); obtain ⟨k, n, ks⟩ := f; obtain ⟨sl, cap, rfl⟩ := slice_shape hrep; have HU : Hid (SL w u l) := hu; obtain ⟨adU, cpU, rfl, -⟩ := hu; have H1 : Hid (∀ v w, _ → Calls Try.prog 13 _ w _) := hva; have H2 : Hid (∀ v w, FL w v [.mk k n ks] → Calls Try.prog 15 _ w _) := hpf; (have H3 : Hid (∀ v w, Rep w (fun _ => True) (.mk k n ks) v → Calls Try.prog 23 _ w _) := hwk); (have HV : Hid (∀ v u w, Rep w (fun _ => True) (.mk k n ks) v → SL w u l → Calls Try.prog 26 #[v, u] w _) := hval); (have HV2 : Hid (∀ v u w, Rep w (fun _ => True) (turnF (.mk k n ks)) v → SL w u l → Calls Try.prog 26 #[v, u] w _) := hval2); have HWl : Hid ((walkL (.mk k n ks) 80).length = min 81 (Fm.mk k n ks).size) := hwl; (have HB : Hid (∀ w, Calls Try.prog 10 #[] w _) := fun w => truthBegun_any w); clear hva hpf hpf1 hwk hwl hval hval2 hmx; by_cases hp : (Fm.mk k n ks).pcode.1 = 0
  · have hpc := (pcode_ok hp).2.2
    rw [hpc] at H2; by_cases hs : (Fm.mk k n ks).size ≤ 60
    · have HW : Hid ((walkL (.mk k n ks) 80).length ≤ 60) := by have := HWl.out; show _ ≤ _; omega
      obtain ⟨he1, he2⟩ := HTv.out hp hs; rw [he1, he2] at HV2; (have HTu : Hid (∀ v w, Rep w (fun _ => True) (.mk k n ks) v → Calls Try.prog 27 #[v] w _) := HFin.out hp hs); generalize turnF (.mk k n ks) = tf at *; (generalize tv (fun t => decide (t ∈ l)) (.mk k n ks) = bb at *); generalize vcode (.mk k n ks) l = vc at *; obtain ⟨vc1, vc2⟩ := vc; generalize walkL (.mk k n ks) 80 = wl at *; clear HFin HTv hp hs he1 he2 HWl hpc; by_cases hz : vc1 = 0
      · subst hz
        go_enter Try.func6, Try.ntmps6
        go_wp2_with (first
          | (go_at_call 10
             refine (HB.out _).mono ?_; rintro e w1 ⟨rfl, hb1⟩; have q0 := below_keep hb1 (blk_new w _); have B1 := below_join (below_more (Below.refl _ w) _) hb1
             obtain ⟨a0, a1, a2, -⟩ := blk3 q0)
          | (go_at_call 13
             refine (H1.out _ _ (hrep.up B1)).mono ?_; rintro e w2 ⟨⟨b1, rfl, hs1⟩, hb2⟩; clear hs1; have q2 := below_keep hb2 q0; have B2 := below_join B1 hb2; clear a0 a1 a2; obtain ⟨a0, a1, a2, -⟩ := blk3 q2
             cases b1)
          | (go_at_call 15
             refine (H2.out _ _ (FL.one (blk_new w2 _) ((hrep.up B2).more _))).mono ?_; rintro e w3 ⟨rfl, hb3⟩; have q3 := below_keep hb3 (alloc_keep q2 _); have B3 := below_join (below_more B2 _) hb3; clear a0 a1 a2
             obtain ⟨a0, a1, a2, -⟩ := blk3 q3)
          | (go_at_call 23
             refine (H3.out _ _ (hrep.up B3)).mono ?_; rintro e w4 ⟨x, rfl, hlo, hb4⟩; obtain ⟨g, cp, cs, rfl, -⟩ := hlo; have q4 := below_keep hb4 q3; have B4 := below_join B3 hb4; (have hwI : ¬ (60 : Int) < (wl.length : Int) := by have := HW.out; omega); clear a0 a1 a2
             obtain ⟨a0, a1, a2, -⟩ := blk3 q4)
          | (go_at_call 26
             have x7 := hr6; refine (HV2.out _ _ _ hr6.all (HU.out.up B6)).mono ?_; rintro e w7 ⟨rfl, hb7⟩; have s7 := below_keep hb7 s6; have B7 := below_join B6 hb7; have l7 := lt_of_block s7
             obtain ⟨k1, k2, -⟩ := blk2 s7)
          | (go_at_call 26
             refine (HV.out _ _ _ (hrep.up B4) (HU.out.up B4)).mono ?_; rintro e w5 ⟨rfl, hb5⟩; have q5 := below_keep hb5 q4; have B5 := below_join B4 hb5; have l5 := lt_of_block q5; clear a0 a1 a2
             obtain ⟨a0, a1, a2, -⟩ := blk3 q5)
          | (go_at_call 27
             refine (HTu.out _ _ (hrep.up (below_more B5 _))).mono ?_; rintro e w6 ⟨x, rfl, hr6, hb6⟩; have s6 := below_keep hb6 (blk_new w5 _)
             have B6 := below_join (below_more B5 _) hb6)
          | fail)
        · go_ret
          (exact ⟨by cases bb <;> rfl, below_more B7 _⟩)
        · go_ret
          exact ⟨rfl, B2⟩
      · have hne' : (vc1 != 0) = true := by simpa using hz
        have hdz : decide (vc1 = 0) = false := decide_eq_false hz; rw [hdz] at HV HV2; clear hz hdz
        go_enter Try.func6, Try.ntmps6
        go_wp2_with (first
          | (go_at_call 10
             refine (HB.out _).mono ?_; rintro e w1 ⟨rfl, hb1⟩; have q0 := below_keep hb1 (blk_new w _); have B1 := below_join (below_more (Below.refl _ w) _) hb1
             obtain ⟨a0, a1, a2, -⟩ := blk3 q0)
          | (go_at_call 13
             refine (H1.out _ _ (hrep.up B1)).mono ?_; rintro e w2 ⟨⟨b1, rfl, hs1⟩, hb2⟩; clear hs1; have q2 := below_keep hb2 q0; have B2 := below_join B1 hb2; clear a0 a1 a2; obtain ⟨a0, a1, a2, -⟩ := blk3 q2
             cases b1)
          | (go_at_call 15
             refine (H2.out _ _ (FL.one (blk_new w2 _) ((hrep.up B2).more _))).mono ?_; rintro e w3 ⟨rfl, hb3⟩; have q3 := below_keep hb3 (alloc_keep q2 _); have B3 := below_join (below_more B2 _) hb3; clear a0 a1 a2
             obtain ⟨a0, a1, a2, -⟩ := blk3 q3)
          | (go_at_call 23
             refine (H3.out _ _ (hrep.up B3)).mono ?_; rintro e w4 ⟨x, rfl, hlo, hb4⟩; obtain ⟨g, cp, cs, rfl, -⟩ := hlo; have q4 := below_keep hb4 q3; have B4 := below_join B3 hb4; (have hwI : ¬ (60 : Int) < (wl.length : Int) := by have := HW.out; omega); clear a0 a1 a2
             obtain ⟨a0, a1, a2, -⟩ := blk3 q4)
          | (go_at_call 26
             have x7 := hr6; refine (HV2.out _ _ _ hr6.all (HU.out.up B6)).mono ?_; rintro e w7 ⟨rfl, hb7⟩; have s7 := below_keep hb7 s6; have B7 := below_join B6 hb7; have l7 := lt_of_block s7
             obtain ⟨k1, k2, -⟩ := blk2 s7)
          | (go_at_call 26
             refine (HV.out _ _ _ (hrep.up B4) (HU.out.up B4)).mono ?_; rintro e w5 ⟨rfl, hb5⟩; have q5 := below_keep hb5 q4; have B5 := below_join B4 hb5; have l5 := lt_of_block q5; clear a0 a1 a2
             obtain ⟨a0, a1, a2, -⟩ := blk3 q5)
          | (go_at_call 27
             refine (HTu.out _ _ (hrep.up (below_more B5 _))).mono ?_; rintro e w6 ⟨x, rfl, hr6, hb6⟩; have s6 := below_keep hb6 (blk_new w5 _)
             have B6 := below_join (below_more B5 _) hb6)
          | fail)
        · go_ret
          exact ⟨rfl, below_more B7 _⟩
        · go_ret
          exact ⟨rfl, B2⟩
    · have HW : Hid (60 < (walkL (.mk k n ks) 80).length) := by have := HWl.out; show _ < _; omega
      generalize walkL (.mk k n ks) 80 = wl at *; clear HFin HTv hp hs HWl hpc HV HV2
      go_enter Try.func6, Try.ntmps6
      go_wp2_with (first
        | (go_at_call 10
           refine (HB.out _).mono ?_; rintro e w1 ⟨rfl, hb1⟩; have q0 := below_keep hb1 (blk_new w _); have B1 := below_join (below_more (Below.refl _ w) _) hb1
           obtain ⟨a0, a1, a2, -⟩ := blk3 q0)
        | (go_at_call 13
           refine (H1.out _ _ (hrep.up B1)).mono ?_; rintro e w2 ⟨⟨b1, rfl, hs1⟩, hb2⟩; clear hs1; have q2 := below_keep hb2 q0; have B2 := below_join B1 hb2; clear a0 a1 a2; obtain ⟨a0, a1, a2, -⟩ := blk3 q2
           cases b1)
        | (go_at_call 15
           refine (H2.out _ _ (FL.one (blk_new w2 _) ((hrep.up B2).more _))).mono ?_; rintro e w3 ⟨rfl, hb3⟩; have q3 := below_keep hb3 (alloc_keep q2 _); have B3 := below_join (below_more B2 _) hb3; clear a0 a1 a2
           obtain ⟨a0, a1, a2, -⟩ := blk3 q3)
        | (go_at_call 23
           refine (H3.out _ _ (hrep.up B3)).mono ?_; rintro e w4 ⟨x, rfl, hlo, hb4⟩; obtain ⟨g, cp, cs, rfl, -⟩ := hlo; have B4 := below_join B3 hb4
           have hwI : (60 : Int) < (wl.length : Int) := by have := HW.out; omega)
        | fail)
      · go_ret
        exact ⟨rfl, B4⟩
      · go_ret
        exact ⟨rfl, B2⟩
  · have hne' : ((Fm.mk k n ks).pcode.1 != 0) = true := by simpa using hp
    generalize (Fm.mk k n ks).pcode = pc at *; obtain ⟨c, a⟩ := pc; clear HFin HTv hp HWl HV HV2 H3
    go_enter Try.func6, Try.ntmps6
    go_wp2_with (first
      | (go_at_call 10
         refine (HB.out _).mono ?_; rintro e w1 ⟨rfl, hb1⟩; have q0 := below_keep hb1 (blk_new w _); have B1 := below_join (below_more (Below.refl _ w) _) hb1
         obtain ⟨a0, a1, a2, -⟩ := blk3 q0)
      | (go_at_call 13
         refine (H1.out _ _ (hrep.up B1)).mono ?_; rintro e w2 ⟨⟨b1, rfl, hs1⟩, hb2⟩; clear hs1; have q2 := below_keep hb2 q0; have B2 := below_join B1 hb2; clear a0 a1 a2; obtain ⟨a0, a1, a2, -⟩ := blk3 q2
         cases b1)
      | (go_at_call 15
         refine (H2.out _ _ (FL.one (blk_new w2 _) ((hrep.up B2).more _))).mono ?_; rintro e w3 ⟨rfl, hb3⟩
         have B3 := below_join (below_more B2 _) hb3)
      | fail)
    · go_ret
      exact ⟨rfl, B3⟩
    · go_ret
      exact ⟨rfl, B2⟩
end Go.Proofs.Ytmahgfgndfcmpab
