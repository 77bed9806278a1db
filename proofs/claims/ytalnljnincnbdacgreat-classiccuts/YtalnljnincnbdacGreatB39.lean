/- Texts of one proof, one behind the other: KY7. -/
import Derived.Test.YtalnljnincnbdacGreatB11
import Derived.Test.YtalnljnincnbdacGreatB09
import Derived.Test.YtalnljnincnbdacGreatB32
/- Walks: is a sequent true in all rows, either way. -/
namespace Go.Proofs.YtalnljnincnbdacGreat
open Go.RowKit

theorem rows_all {f : Fm} (hf : Fine f) : (∀ p, tv p f = true) ↔ ∀ r, r < 2 ^ (nmsU f).length → tv (fun t => decide (t ∈ rowN r (nmsU f) 0)) f = true := by
  constructor
  · exact fun h r _ => h _
  · intro h p
    obtain ⟨r, hr, hq⟩ := row_with (nmsU_nodup f) p; have h1 := h r hr; (rw [tv_row hf (nmsU f) (nmsU_nodup f) (fun t ht => (nmsU_mem f t).2 ht) r] at h1); rw [← h1]; (exact tv_congr _ _ f.size f (Nat.le_refl _) hf fun t ht => (hq t ((nmsU_mem f t).2 ht)).symm)
theorem asF_valid {l r : List Fm} : Valid l r ↔ ∀ p, tv p (asF l r) = true := by
  (refine ⟨fun h p => asF_tv h p, fun h p hl => ?_⟩); have h1 := h p; unfold asF at h1; rw [tv_then, allF_tv, someF_tv, List.all_eq_true.2 hl] at h1; (have h2 : r.any (tv p) = true := by simpa using h1); obtain ⟨g, hg, hgt⟩ := List.any_eq_true.1 h2; exact ⟨g, hg, hgt⟩
theorem valid_rows {l r : List Fm} (hf : Fine (asF l r)) : Valid l r ↔ ∀ k, k < 2 ^ (nmsU (asF l r)).length → tv (fun t => decide (t ∈ rowN k (nmsU (asF l r)) 0)) (asF l r) = true := asF_valid.trans (rows_all hf)
set_option maxRecDepth 10000 in
set_option maxHeartbeats 4000000 in
theorem taut_all (f : Fm) (hf : Fine f) (hs : f.size ≤ 20000) (hn : (nmsU f).length ≤ 10) (b : Bool) (hb : b = true ↔ ∀ r, r < 2 ^ (nmsU f).length → tv (fun t => decide (t ∈ rowN r (nmsU f) 0)) f = true) (v : Value) (w : World) (hv : Rep w (fun _ => True) f v) :
    Calls Tryz.prog 63 #[v] w fun e w' => e = .returned (.bool b) ∧ Below w.heap.size w w' := by
  (have hni := fun v (w : World) h => namesIn_big f hs v w h); (have htr := fun r v u (w : World) h h' => trueR_any (rowN r (nmsU f) 0) f v u w hf h h'); (have hrw := fun r (hr : r ≤ 100000) u (w : World) h => row_any r hr (nmsU f) (by omega) u w h); generalize nmsU f = U at *; (obtain ⟨tb, htb⟩ : ∃ tb : Nat → Bool, tb = fun r => tv (fun t => decide (t ∈ rowN r U 0)) f := ⟨_, rfl⟩); (have hb' : b = true ↔ ∀ r, r < 2 ^ U.length → tb r = true := by rw [htb]; exact hb); (have htr' : ∀ (r : Nat) (v u : Value) (w : World), Rep w (fun _ => True) f v → SL w u (rowN r U 0) → Calls Tryz.prog 57 #[v, u] w fun e w' => e = .returned (.bool (tb r)) ∧ Below w.heap.size w w' := by rw [htb]; exact htr); clear htb hb htr; obtain ⟨hw, hM1, hM2⟩ := shl_row10 U.length hn; obtain ⟨k, n, ks⟩ := f; obtain ⟨sl, cap, rfl⟩ := slice_shape hv; (have HV : Hid (Rep w (fun _ => True) (.mk k n ks) _) := hv); have HNI : Hid (∀ v w, FL w v [.mk k n ks] → Calls Tryz.prog 24 #[v] w _) := hni; (have HTR : Hid (∀ r v u w, Rep w (fun _ => True) (.mk k n ks) v → SL w u (rowN r U 0) → Calls Tryz.prog 57 #[v, u] w fun e w' => e = .returned (.bool (tb r)) ∧ Below w.heap.size w w') := htr'); have HRW : Hid (∀ r, r ≤ 100000 → ∀ u w, SL w u U → Calls Tryz.prog 106 #[u, .int .i64 (r : Nat)] w _) := hrw; (have hUI : (U.length : Int) ≤ 10 := by omega); obtain ⟨M, hM⟩ : ∃ M, M = 2 ^ U.length := ⟨_, rfl⟩; rw [← hM] at hw hM1 hM2 hb'; have HBB : Hid (b = true ↔ ∀ r, r < M → tb r = true) := hb'; clear hni htr' hrw hv hM hf hs hb'; have HW : Hid (wrap64 ((2 : Int) ^ U.length) = ((M : Nat) : Int)) := hw; clear hw
  go_enter Tryz.func63, Tryz.ntmps63
  go_wp2_with fail; refine (HNI.out _ _ (FL.sing (blk_two w _ _) ((HV.out.more _).more _))).mono ?_; rintro e w1 ⟨x, rfl, hx, hb1⟩; have B1 := below_join (below_more (below_more (Below.refl _ w) _) _) hb1; have HQ : Hid (w1.heap[w.heap.size]? = some _) := below_keep hb1 (alloc_keep (blk_new w _) _); have HX : Hid (SL w1 x U) := hx.sl; obtain ⟨adU, cpU, rfl, -⟩ := hx; clear hb1; go_wp2_with fail
  go_loopg [4] M (fun g cc wr => ∃ j, j ≤ M ∧ g = M - j ∧ cc = .int .i64 (j : Nat) ∧ Hid (Below w1.heap.size w1 wr) ∧ Hid (∀ i, i < j → tb i = true))
  case atStart => exact ⟨0, by omega, by omega, rfl, Below.refl _ _, fun i hi => absurd hi (Nat.not_lt_zero _)⟩
  case round =>
    obtain ⟨j, hj, hg, rfl, HBr, HAll⟩ := hrel; have HG : Hid (gk = M - j) := hg; clear hg; obtain ⟨q0, q1, q2, -⟩ := blk3 (below_keep HBr.out HQ.out); have hw := HW.out; by_cases hlt : j < M
    · have hltI : (j : Int) < (M : Int) := by omega
      (have hj5 : j ≤ 100000 := by omega)
      cases htj : tb j
      case' false =>
        have HFj : Hid (tb j = false) := htj; (have HTj : Hid (∀ v u w, Rep w (fun _ => True) (.mk k n ks) v → SL w u (rowN j U 0) → Calls Tryz.prog 57 #[v, u] w fun e w' => e = .returned (.bool false) ∧ Below w.heap.size w w') := fun v u w h1 h2 => by rw [← htj]; exact HTR.out j v u w h1 h2)
      case' true =>
        have HFj : Hid (tb j = true) := htj; (have HTj : Hid (∀ v u w, Rep w (fun _ => True) (.mk k n ks) v → SL w u (rowN j U 0) → Calls Tryz.prog 57 #[v, u] w fun e w' => e = .returned (.bool true) ∧ Below w.heap.size w w') := fun v u w h1 h2 => by rw [← htj]; exact HTR.out j v u w h1 h2)
      case false =>
        clear htj; go_wp2_with fail
        go_region_held3 (fun w' => w'.cell? ⟨w.heap.size, 0, none⟩ = some (.int .i64 k) ∧ w'.cell? ⟨w.heap.size, 1, none⟩ = some (.string n) ∧ w'.cell? ⟨w.heap.size, 2, none⟩ = some (.slice sl ks.length cap)) (go_keep)
          (first
           | (go_at_call 106
              refine (HRW.out j hj5 _ _ ((HX.out.up HBr.out).up (Below.refl _ _).drew)).mono ?_; rintro e w2 ⟨y, rfl, hy, hb2⟩; have HB2 : Hid (Below w1.heap.size w1 w2) := below_join HBr.out.drew hb2; have HY : Hid (SL w2 y (rowN j U 0)) := hy.sl; obtain ⟨g0, g1, g2, -⟩ := blk3 (below_keep HB2.out HQ.out); obtain ⟨ady, cpy, rfl, -⟩ := hy
              clear hb2)
           | (go_at_call 57
              refine (HTj.out _ _ _ ((HV.out.up B1).up HB2.out) HY.out).mono ?_; rintro e w3 ⟨rfl, hb3⟩; have HB3 : Hid (Below w1.heap.size w1 w3) := below_join HB2.out hb3; obtain ⟨i0, i1, i2, -⟩ := blk3 (below_keep HB3.out HQ.out)
              clear hb3)
           | fail)
        all_goals
          go_wp2_with fail; go_ret; refine ⟨?_, below_join B1 HB3.out⟩
          cases hb9 : b
          · rfl
          · exact absurd ((HBB.out.1 hb9) j hlt) (by rw [HFj.out]; exact Bool.noConfusion)
      case true =>
        clear htj; go_wp2_with fail
        go_region_held3 (fun w' => w'.cell? ⟨w.heap.size, 0, none⟩ = some (.int .i64 k) ∧ w'.cell? ⟨w.heap.size, 1, none⟩ = some (.string n) ∧ w'.cell? ⟨w.heap.size, 2, none⟩ = some (.slice sl ks.length cap)) (go_keep)
          (first
           | (go_at_call 106
              refine (HRW.out j hj5 _ _ ((HX.out.up HBr.out).up (Below.refl _ _).drew)).mono ?_; rintro e w2 ⟨y, rfl, hy, hb2⟩; have HB2 : Hid (Below w1.heap.size w1 w2) := below_join HBr.out.drew hb2; have HY : Hid (SL w2 y (rowN j U 0)) := hy.sl; obtain ⟨g0, g1, g2, -⟩ := blk3 (below_keep HB2.out HQ.out); obtain ⟨ady, cpy, rfl, -⟩ := hy
              clear hb2)
           | (go_at_call 57
              refine (HTj.out _ _ _ ((HV.out.up B1).up HB2.out) HY.out).mono ?_; rintro e w3 ⟨rfl, hb3⟩; have HB3 : Hid (Below w1.heap.size w1 w3) := below_join HB2.out hb3; obtain ⟨i0, i1, i2, -⟩ := blk3 (below_keep HB3.out HQ.out)
              clear hb3)
           | fail)
        all_goals
          go_wp2_with fail
          go_roundg (M - (j + 1))
          case measure => have := HG.out; omega
          case rel => exact ⟨j + 1, by omega, rfl, by go_num, HB3, fun i hi => by
            rcases Nat.lt_or_ge i j with h | h
            · exact HAll.out i h
            · rw [show i = j by omega]; exact HFj.out⟩
    · have hge : ¬ (j : Int) < (M : Int) := by omega
      go_wp2_with fail; go_ret; (exact ⟨by rw [HBB.out.2 fun r hr => HAll.out r (by omega)]; rfl, below_join B1 HBr.out⟩)

set_option maxHeartbeats 2000000 in
theorem inAll_all (l r : List Fm) (hl4 : l.length ≤ 400) (hr4 : r.length ≤ 400) (hf : Fine (asF l r)) (hs : (asF l r).size ≤ 20000) (hn : (nmsU (asF l r)).length ≤ 10) (b : Bool) (hb : b = true ↔ Valid l r) (v u : Value) (w : World) (hv : FL w v l) (hu : FL w u r) :
    Calls Tryz.prog 26 #[.agg #[v, u]] w fun e w' => e = .returned (.bool b) ∧ Below w.heap.size w w' := by
  have B0 := below_more (Below.refl _ w) (.cells #[v, u] 24 (0, 0)); have has := as_any l r hl4 hr4 v u _ (hv.up B0) (hu.up B0); have HAS : Hid (Calls Tryz.prog 25 _ _ _) := has; (have HT : Hid (∀ v w, Rep w (fun _ => True) (asF l r) v → Calls Tryz.prog 63 #[v] w _) := fun v w h => taut_all (asF l r) hf hs hn b (hb.trans (valid_rows hf)) v w h); obtain ⟨adl, cpl, rfl, -⟩ := hv; obtain ⟨adr, cpr, rfl, -⟩ := hu; clear has hf hs hn hb
  go_enter Tryz.func26, Tryz.ntmps26
  go_wp2_with fail; refine HAS.out.mono ?_; rintro e w1 ⟨x, rfl, hx, hb1⟩; have B1 := below_join B0 hb1; (have HX : Hid (Rep w1 (fun _ => True) (asF l r) x) := hx); clear hx; go_wp2_with fail; refine (HT.out _ _ HX.out).mono ?_; rintro e w2 ⟨rfl, hb2⟩; have B2 := below_join B1 hb2; go_wp2_with fail; go_ret; exact ⟨rfl, B2⟩
end Go.Proofs.YtalnljnincnbdacGreat
