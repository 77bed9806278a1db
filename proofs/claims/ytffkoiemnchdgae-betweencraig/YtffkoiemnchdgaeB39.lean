/- Texts of one proof, one behind the other: BL2, BL3. -/
import Derived.Test.YtffkoiemnchdgaeB31
import Derived.Test.YtffkoiemnchdgaeB37
import Derived.Test.YtffkoiemnchdgaeB24
import Derived.Test.YtffkoiemnchdgaeB16
import Derived.Test.YtffkoiemnchdgaeB25
/- Walks: the laws' own helpers between formulas: makes, betweenFault. -/
namespace Go.Proofs.Ytffkoiemnchdgae
open Go.RowKit Go.Sort

/-- Is g true in all rows of these names in which f is? -/
def makesB (f g : Fm) (ns : List (List UInt8)) : Bool := (List.range (2 ^ ns.length)).all fun k => !tvL f (rowN k ns 0) || tvL g (rowN k ns 0)
theorem makesB_iff (f g : Fm) (ns : List (List UInt8)) : makesB f g ns = true ↔ ∀ k, k < 2 ^ ns.length → tvL f (rowN k ns 0) = true → tvL g (rowN k ns 0) = true := by
  unfold makesB; rw [List.all_eq_true]
  constructor
  · intro h k hk hf
    have := h k (List.mem_range.2 hk); rw [hf] at this; simpa using this
  · intro h k hk
    have := h k (List.mem_range.1 hk)
    cases hf : tvL f (rowN k ns 0)
    · rfl
    · rw [this hf]; rfl

set_option maxRecDepth 10000 in
set_option maxHeartbeats 4000000 in
theorem makesL_any (f g : Fm) (hf : Fine f) (hg : Fine g) (ns : List (List UInt8)) (hn : ns.length ≤ 6) (v u z : Value) (w : World) (hv : Rep w (fun _ => True) f v) (hu : Rep w (fun _ => True) g u) (hz : SL w z ns) :
    Calls Try.prog 18 #[v, u, z] w fun e w' => e = .returned (.bool (makesB f g ns)) ∧ Below w.heap.size w w' := by
  (have htf := fun r v u (w : World) h h' => trueR_any (rowN r ns 0) f v u w hf h h'); (have htg := fun r v u (w : World) h h' => trueR_any (rowN r ns 0) g v u w hg h h'); (have hrw := fun r (hr : r ≤ 100000) u (w : World) h => row_any r hr ns (by omega) u w h); obtain ⟨hw, hM1, hM2⟩ := shl_row ns.length hn; have HRes : Hid (makesB f g ns = true ↔ ∀ k, k < 2 ^ ns.length → tvL f (rowN k ns 0) = true → tvL g (rowN k ns 0) = true) := makesB_iff f g ns; generalize makesB f g ns = res at *; obtain ⟨M, hM⟩ : ∃ M, M = 2 ^ ns.length := ⟨_, rfl⟩; rw [← hM] at hw hM1 hM2 HRes; obtain ⟨k, n, ks⟩ := f; obtain ⟨sl, cap, rfl⟩ := slice_shape hv; obtain ⟨kg, ng, ksg⟩ := g; obtain ⟨sg, cg, rfl⟩ := slice_shape hu; (have HV : Hid (Rep w (fun _ => True) (.mk k n ks) (.agg #[.int .i64 k, .string n, .slice sl ks.length cap])) := hv); (have HU : Hid (Rep w (fun _ => True) (.mk kg ng ksg) (.agg #[.int .i64 kg, .string ng, .slice sg ksg.length cg])) := hu); have HZ : Hid (SL w z ns) := hz; (have HTF : Hid (∀ r v u w, Rep w (fun _ => True) (.mk k n ks) v → SL w u (rowN r ns 0) → Calls Try.prog 26 #[v, u] w fun e w' => e = .returned (.bool (tvL (.mk k n ks) (rowN r ns 0))) ∧ Below w.heap.size w w') := htf); (have HTG : Hid (∀ r v u w, Rep w (fun _ => True) (.mk kg ng ksg) v → SL w u (rowN r ns 0) → Calls Try.prog 26 #[v, u] w fun e w' => e = .returned (.bool (tvL (.mk kg ng ksg) (rowN r ns 0))) ∧ Below w.heap.size w w') := htg); have HRW : Hid (∀ r, r ≤ 100000 → ∀ u w, SL w u ns → Calls Try.prog 25 #[u, .int .i64 (r : Nat)] w _) := hrw; obtain ⟨adz, cpz, rfl, -⟩ := hz; (have hUI : (ns.length : Int) ≤ 6 := by omega); have HW : Hid (wrap64 ((2 : Int) ^ ns.length) = ((M : Nat) : Int)) := hw; have B0 := below_more (below_more (Below.refl _ w) (.cells #[.int .i64 k, .string n, .slice sl ks.length cap] 24 (0, 0))) (.cells #[.int .i64 kg, .string ng, .slice sg ksg.length cg] 24 (0, 0)); have HQ0 : Hid (((w.alloc (.cells #[.int .i64 k, .string n, .slice sl ks.length cap] 24 (0, 0))).alloc (.cells #[.int .i64 kg, .string ng, .slice sg ksg.length cg] 24 (0, 0))).heap[w.heap.size]? = some (.cells #[.int .i64 k, .string n, .slice sl ks.length cap] 24 (0, 0))) := alloc_keep (blk_new w _) _; have HQ1 : Hid (((w.alloc (.cells #[.int .i64 k, .string n, .slice sl ks.length cap] 24 (0, 0))).alloc (.cells #[.int .i64 kg, .string ng, .slice sg ksg.length cg] 24 (0, 0))).heap[w.heap.size + 1]? = some (.cells #[.int .i64 kg, .string ng, .slice sg ksg.length cg] 24 (0, 0))) := blk_2nd w _ _; clear htf htg hrw hv hu hf hg hw hM
  go_enter Try.func18, Try.ntmps18
  go_wp2_with fail; obtain ⟨W, hW⟩ : ∃ W, W = (w.alloc (.cells #[.int .i64 k, .string n, .slice sl ks.length cap] 24 (0, 0))).alloc (.cells #[.int .i64 kg, .string ng, .slice sg ksg.length cg] 24 (0, 0)) := ⟨_, rfl⟩; rw [← hW] at B0 HQ0 HQ1 ⊢; clear hW
  go_loopg [7] M (fun g cc wr => ∃ j, j ≤ M ∧ g = M - j ∧ cc = .int .i64 (j : Nat) ∧ Hid (Below W.heap.size W wr) ∧ Hid (∀ i, i < j → tvL (.mk k n ks) (rowN i ns 0) = true → tvL (.mk kg ng ksg) (rowN i ns 0) = true))
  case atStart => exact ⟨0, by omega, by omega, rfl, Below.refl _ _, fun i hi => absurd hi (Nat.not_lt_zero _)⟩
  case round =>
    obtain ⟨j, hj, hg, rfl, HBr, HA⟩ := hrel; have HG : Hid (gk = M - j) := hg; clear hg; have hw := HW.out; by_cases hlt : j < M
    · have hltI : (j : Int) < (M : Int) := by omega
      (have HJ : Hid (j < M ∧ j ≤ 100000) := ⟨hlt, by omega⟩); have HBw : Hid (Below w.heap.size w wr) := below_join B0 HBr.out; clear hlt hj; go_wp2_with fail; refine (HRW.out j HJ.out.2 _ _ (HZ.out.up HBw.out)).mono ?_; rintro e w2 ⟨y, rfl, hy, hb2⟩; have HB2 : Hid (Below W.heap.size W w2) := below_join HBr.out hb2; have HY : Hid (SL w2 y (rowN j ns 0)) := hy.sl; obtain ⟨ady, cpy, rfl, -⟩ := hy; obtain ⟨g0, g1, g2, -⟩ := blk3 (below_keep HB2.out HQ0.out); clear hb2; go_wp2_with fail; refine (HTF.out j _ _ _ (HV.out.up (below_join B0 HB2.out)) HY.out).mono ?_; rintro e w3 ⟨rfl, hb3⟩; have HB3 : Hid (Below W.heap.size W w3) := below_join HB2.out hb3; have HY3 : Hid (SL w3 (.slice ady (rowN j ns 0).length cpy) (rowN j ns 0)) := HY.out.up hb3; clear hb3 g0 g1 g2; obtain ⟨g0, g1, g2, -⟩ := blk3 (below_keep HB3.out HQ1.out)
      cases hb : tvL (.mk k n ks) (rowN j ns 0)
      · have HA2 : Hid (∀ i, i < j + 1 → tvL (.mk k n ks) (rowN i ns 0) = true → tvL (.mk kg ng ksg) (rowN i ns 0) = true) := fun i hi h => by
          rcases Nat.lt_or_ge i j with h2 | h2
          · exact HA.out i h2 h
          · obtain rfl : i = j := by omega
            rw [hb] at h; cases h
        clear hb; go_wp2_with fail
        go_roundg (M - (j + 1))
        case measure => have := HG.out; have := HJ.out; omega
        case rel => exact ⟨j + 1, HJ.out.1, rfl, by go_num, HB3, HA2⟩
      · have Hb : Hid (tvL (.mk k n ks) (rowN j ns 0) = true) := hb
        clear hb; go_wp2_with fail; refine (HTG.out j _ _ _ (HU.out.up (below_join B0 HB3.out)) HY3.out).mono ?_; rintro e w4 ⟨rfl, hb4⟩; have HB4 : Hid (Below W.heap.size W w4) := below_join HB3.out hb4; clear hb4 g0 g1 g2
        cases hc : tvL (.mk kg ng ksg) (rowN j ns 0)
        · have HF : Hid (res = false) := by
            cases hr : res with
            | false => rfl
            | true =>
              have := HRes.out.1 hr j HJ.out.1 Hb.out; rw [hc] at this; cases this
          clear hc; go_wp2_with fail; go_ret; (exact ⟨by rw [HF.out]; rfl, below_join B0 HB4.out⟩)
        · have HA2 : Hid (∀ i, i < j + 1 → tvL (.mk k n ks) (rowN i ns 0) = true → tvL (.mk kg ng ksg) (rowN i ns 0) = true) := fun i hi h => by
            rcases Nat.lt_or_ge i j with h2 | h2
            · exact HA.out i h2 h
            · obtain rfl : i = j := by omega
              exact hc
          clear hc; go_wp2_with fail
          go_roundg (M - (j + 1))
          case measure => have := HG.out; have := HJ.out; omega
          case rel => exact ⟨j + 1, HJ.out.1, rfl, by go_num, HB4, HA2⟩
    · have hjj : j = M := by omega
      subst hjj; have HF : Hid (res = true) := HRes.out.2 HA.out; (have hge : ¬ (j : Int) < (j : Int) := by omega); clear hlt hj; go_wp2_with fail; go_ret; (exact ⟨by rw [HF.out]; rfl, below_join B0 HBr.out⟩)
end Go.Proofs.Ytffkoiemnchdgae
/- Walks: the laws' own helpers between formulas: Vast of what is small, betweenFault, Texts. -/
namespace Go.Proofs.Ytffkoiemnchdgae
open Go.RowKit Go.Sort

theorem len_sizesB : ∀ ks : List Fm, ks.length ≤ Fm.sizes ks
  | [] => by simp
  | f :: fs => by
    have := len_sizesB fs; (have h1 : 1 ≤ f.size := by cases f; rw [Fm.size]; omega); rw [Fm.sizes, List.length_cons]; omega
/-- A bool is answered; where it is true, the formula is large. -/
def IsVB (deep : Int) (f : Fm) (e : Ending) : Prop := ∃ b, e = .returned (.bool b) ∧ (b = true → 25000 < deep + (f.size : Int))
def VastsB (m : Nat) : Prop := ∀ (f : Fm) (v : Value) (deep : Int) (w : World), f.size < m → 0 ≤ deep → deep ≤ 25001 → Rep w (fun _ => True) f v →
  Calls Try.prog 13 #[v, .int .i64 deep] w fun e w' => IsVB deep f e ∧ Below w.heap.size w w'

set_option maxHeartbeats 1000000 in
theorem vastB_step (m : Nat) (ih : VastsB m) : VastsB (m + 1) := by
  intro f v deep w hm hd0 hd hrep; obtain ⟨k, n, ks⟩ := f; obtain ⟨sl, cap, rfl, hx1, hx2, hx3, hx4⟩ := Rep.def.1 hrep; (have HX : Hid (ks ≠ [] → ∃ b off, sl = some ⟨b, off, none⟩ ∧ True ∧ Reps w (fun _ => True) b off ks) := hx4); clear hx4; have hb0 : Below w.heap.size w (w.alloc (.cells #[.int .i64 k, .string n, .slice sl ks.length cap] 24 (0, 0))) := (Below.refl _ _).alloc (Nat.le_refl _) _; (have hlen : ((ks.length : Nat) : Int) ≤ 9223372036854775807 := by unfold maxLen at hx3; omega); by_cases h1 : 25000 < deep
  · go_enter Try.func13, Try.ntmps13
    go_wp2_with fail; go_ret; (exact ⟨⟨_, rfl, fun _ => by omega⟩, hb0⟩)
  · by_cases h2 : 25000 < ks.length
    · have h2' : (25000 : Int) < (ks.length : Int) := by omega
      go_enter Try.func13, Try.ntmps13
      go_wp2_with fail; go_ret; (refine ⟨⟨_, rfl, fun _ => ?_⟩, hb0⟩); have := len_sizesB ks; rw [Fm.size]; omega
    · have h2' : (ks.length : Int) ≤ 25000 := by omega
      (have h1' : deep ≤ 25000 := by omega); clear h1 h2
      go_enter Try.func13, Try.ntmps13
      go_wp2_with fail
      go_loopg [5] ks.length (fun g c wr => ∃ i, i ≤ ks.length ∧ g = ks.length - i ∧ c = .int .i64 (i : Nat) ∧ Below w.heap.size w wr ∧ wr.heap[w.heap.size]? = some (.cells #[.int .i64 k, .string n, .slice sl ks.length cap] 24 (0, 0)))
      case atStart => exact ⟨0, by omega, by omega, rfl, hb0, blk_new _ _⟩
      case round =>
        obtain ⟨i, hi, hg, rfl, hbr, q0⟩ := hrel; have HG : Hid (gk = ks.length - i) := hg; clear hg; have f2 := blk_cell q0 2; simp at f2; by_cases hlt : i < ks.length
        · obtain ⟨b, off, hsl, -, hrs⟩ := HX.out (fun e => by rw [e] at hlt; simp at hlt)
          subst hsl; obtain ⟨⟨k2, n2, ks2⟩, hki⟩ : ∃ f, ks[i]? = some f := ⟨_, List.getElem?_eq_getElem hlt⟩; obtain ⟨sl2, cap2, g0, g1, g2, hrep2⟩ := (hrs.up hbr).at i k2 n2 ks2 hki; (have hlt2 : (i : Int) < (ks.length : Int) := by omega); (have hsz : (Fm.mk k2 n2 ks2).size < m := by have := sizes_get hki; rw [Fm.size] at hm; omega); have z0 := lt_of_block q0; have zz := hbr.size; have HK : Hid ((Fm.mk k2 n2 ks2).size ≤ Fm.sizes ks) := sizes_get hki; clear hki hrs hrep HX hb0
          go_wp2_with (first
            | (go_at_call 13
               (refine (ih _ _ _ _ hsz (by omega) (by omega) hrep2).mono ?_); rintro e w1 ⟨⟨bb, rfl, hbb⟩, hb1⟩
               cases bb
               case' true =>
                 have HB : Hid (25000 < deep + 1 + ((Fm.mk k2 n2 ks2).size : Int)) := hbb rfl; clear hbb
               case' false => clear hbb)
            | fail)
          · have z1 := hb1.size
            go_roundg (ks.length - (i + 1))
            case measure => have := HG.out; omega
            case rel => exact ⟨i + 1, by omega, rfl, by go_num, hbr.trans (hb1.mono zz), (hb1.block _ z0).trans q0⟩
          · go_ret
            (refine ⟨⟨_, rfl, fun _ => ?_⟩, hbr.trans (hb1.mono zz)⟩); have h1 := HB.out; have h2 := HK.out; rw [Fm.size]; omega
        · go_wp2_with fail
          go_ret; (exact ⟨⟨_, rfl, fun h => (by cases h)⟩, hbr⟩)

theorem vastsB_all : ∀ m, VastsB m
  | 0 => fun _ _ _ _ h => absurd h (Nat.not_lt_zero _)
  | m + 1 => vastB_step m (vastsB_all m)

theorem vastB_no (f : Fm) (hs : f.size ≤ 20000) (v : Value) (w : World) (hrep : Rep w (fun _ => True) f v) :
    Calls Try.prog 13 #[v, .int .i64 0] w fun e w' => e = .returned (.bool false) ∧ Below w.heap.size w w' := by
  (refine (vastsB_all (f.size + 1) f v 0 w (Nat.lt_succ_self _) (by omega) (by omega) hrep).mono ?_); rintro e w' ⟨⟨b, rfl, hb⟩, h⟩
  cases b
  · exact ⟨rfl, h⟩
  · have := hb rfl; omega

set_option maxRecDepth 10000 in
set_option maxHeartbeats 4000000 in
theorem bfault_any (fs : List Fm) (hl : fs.length ≤ 10) (v : Value) (w : World) (hv : FL w v fs) :
    Calls Try.prog 16 #[v] w fun e w' => e = .returned (.agg #[.int .i64 (tgcode fs).1, .int .i64 (tgcode fs).2]) ∧ Below w.heap.size w w' := by
  (have hpf := fun v W h => plainR_any fs (by omega) v W h); have HV : Hid (FL w v fs) := hv; (have HF : Hid (∀ c a W, Calls Try.prog 19 #[.int .i64 c, .int .i64 a] W _) := fun c a W => mkF_any c a W); have hB0 := below_more (Below.refl _ w) (.cells #[.int .i64 0, .int .i64 0] 33 (0, 0)); by_cases hp : (pfirst fs).1 = 0
  · have hni := fun v W h => namesIn_list fs hl (fun f hf => (pc_fine (pfirst_all hp f hf)).2) v W h
    (have htc : tgcode fs = if 6 < (nmsF fs).length then (2, 0) else (0, 0) := by unfold tgcode; rw [if_pos hp]); have hp0 : pfirst fs = (0, 0) := pfirst_ok fs (pfirst_all hp); rw [hp0] at hpf; simp only at hpf; rw [htc]; generalize nmsF fs = U at *; have HP : Hid (∀ v W, FL W v fs → Calls Try.prog 46 #[v] W _) := hpf; have HN : Hid (∀ v W, FL W v fs → Calls Try.prog 17 #[v] W _) := hni; obtain ⟨ad, cap, rfl, -⟩ := hv; clear hpf hni htc hp hp0; by_cases h6 : 6 < U.length
    · rw [if_pos h6]
      (have h6I : (6 : Int) < (U.length : Int) := by omega); clear h6
      go_enter Try.func16, Try.ntmps16
      go_wp2_with fail; refine (HP.out _ _ (HV.out.up hB0)).mono ?_; rintro e w1 ⟨rfl, hb1⟩; have HQ : Hid (w1.heap[w.heap.size]? = some (.cells #[.int .i64 0, .int .i64 0] 33 (0, 0))) := below_keep hb1 (blk_new w _); have HB1 : Hid (Below w.heap.size w w1) := below_join hB0 hb1; have y0 := lt_of_block HQ.out; obtain ⟨k1, k2, k3, k4⟩ := blk2 HQ.out; clear hb1; go_wp2_with fail; refine (HN.out _ _ (HV.out.up (below_more HB1.out _))).mono ?_; rintro e w2 ⟨x, rfl, hx, hb2⟩; obtain ⟨adx, cpx, rfl, -⟩ := hx; have HQ2 : Hid (w2.heap[w.heap.size]? = some (.cells #[.int .i64 0, .int .i64 0] 33 (0, 0))) := below_keep hb2 (alloc_keep HQ.out _); have HR2 : Hid (w2.heap[w1.heap.size]? = some (.cells #[.int .i64 0, .int .i64 0] 33 (0, 0))) := below_keep hb2 (blk_new w1 _); have HB2 : Hid (Below w.heap.size w w2) := below_join (below_more HB1.out _) hb2; clear hb2 k1 k2 k3 k4; go_wp2_with fail; refine (HF.out _ _ _).mono ?_; rintro e w3 ⟨rfl, hb3⟩; have q3 := below_keep hb3 HQ2.out; have r3 := below_keep hb3 HR2.out; have B3 := below_join HB2.out hb3; have y1 := HB1.out.size; (have ne : w1.heap.size ≠ w.heap.size := by omega); obtain ⟨k1, k2, k3, k4⟩ := blk2 q3; obtain ⟨m1, m2, m3, m4⟩ := blk2 r3; clear hb3; have nn1 : ¬ w1.heap.size = w.heap.size := ne; (have nn2 : ¬ w.heap.size = w1.heap.size := fun e => ne e.symm); have s3 := set2 r3 (.int .i64 2) (.int .i64 0); (have t3 := (far2 (W := w3) (r := w1.heap.size) (x := w.heap.size) (by omega) (.int .i64 2) (.int .i64 0)).trans q3); (have B4 := below_put2 (w := w) (r := w1.heap.size) (by omega) B3 (.int .i64 2) (.int .i64 0)); have s4 := set2 t3 (.int .i64 2) (.int .i64 0); (have B5 := below_put2 (w := w) (r := w.heap.size) (by omega) B4 (.int .i64 2) (.int .i64 0)); go_wp2_with fail; generalize World.setCell _ _ _ = F at s4 B5 ⊢; obtain ⟨o1, o2, -⟩ := blk2 s4; (exact bodyPost_ret (v := .agg #[.int .i64 2, .int .i64 0]) (by simp [results, Try.results16, go_sem, o1, o2]) rfl ⟨rfl, B5⟩)
    · rw [if_neg h6]
      (have h6I : ¬ (6 : Int) < (U.length : Int) := by omega); clear h6
      go_enter Try.func16, Try.ntmps16
      go_wp2_with fail; refine (HP.out _ _ (HV.out.up hB0)).mono ?_; rintro e w1 ⟨rfl, hb1⟩; have HQ : Hid (w1.heap[w.heap.size]? = some (.cells #[.int .i64 0, .int .i64 0] 33 (0, 0))) := below_keep hb1 (blk_new w _); have HB1 : Hid (Below w.heap.size w w1) := below_join hB0 hb1; have y0 := lt_of_block HQ.out; obtain ⟨k1, k2, k3, k4⟩ := blk2 HQ.out; clear hb1; go_wp2_with fail; refine (HN.out _ _ (HV.out.up (below_more HB1.out _))).mono ?_; rintro e w2 ⟨x, rfl, hx, hb2⟩; obtain ⟨adx, cpx, rfl, -⟩ := hx; have HQ2 : Hid (w2.heap[w.heap.size]? = some (.cells #[.int .i64 0, .int .i64 0] 33 (0, 0))) := below_keep hb2 (alloc_keep HQ.out _); have r2 := below_keep hb2 (blk_new w1 (.cells #[.int .i64 0, .int .i64 0] 33 (0, 0))); have B2 := below_join (below_more HB1.out _) hb2; clear hb2 k1 k2 k3 k4; obtain ⟨k1, k2, k3, k4⟩ := blk2 HQ2.out; obtain ⟨m1, m2, m3, m4⟩ := blk2 r2; have s4 := set2 HQ2.out (.int .i64 0) (.int .i64 0); (have B5 := below_put2 (w := w) (r := w.heap.size) (by omega) B2 (.int .i64 0) (.int .i64 0)); go_wp2_with fail; generalize World.setCell _ _ _ = F at s4 B5 ⊢; obtain ⟨o1, o2, -⟩ := blk2 s4; (exact bodyPost_ret (v := .agg #[.int .i64 0, .int .i64 0]) (by simp [results, Try.results16, go_sem, o1, o2]) rfl ⟨rfl, B5⟩)
  · have htc : tgcode fs = pfirst fs := by unfold tgcode; rw [if_neg hp]
    rw [htc]; generalize pfirst fs = pf at *; obtain ⟨c, d⟩ := pf; simp only at hp hpf ⊢; have HP : Hid (∀ v W, FL W v fs → Calls Try.prog 46 #[v] W _) := hpf; obtain ⟨ad, cap, rfl, -⟩ := hv; (have hcn : (c == 0) = false := by simpa using hp); clear hpf htc
    go_enter Try.func16, Try.ntmps16
    go_wp2_with fail; refine (HP.out _ _ (HV.out.up hB0)).mono ?_; rintro e w1 ⟨rfl, hb1⟩; have HQ : Hid (w1.heap[w.heap.size]? = some (.cells #[.int .i64 0, .int .i64 0] 33 (0, 0))) := below_keep hb1 (blk_new w _); have HB1 : Hid (Below w.heap.size w w1) := below_join hB0 hb1; have y0 := lt_of_block HQ.out; obtain ⟨k1, k2, k3, k4⟩ := blk2 HQ.out; clear hb1; have s4 := alloc_keep (set2 HQ.out (.int .i64 c) (.int .i64 d)) (.cells #[.int .i64 c, .int .i64 d] 33 (0, 0)); (have B5 := below_more (below_put2 (w := w) (r := w.heap.size) (by omega) HB1.out (.int .i64 c) (.int .i64 d)) (.cells #[.int .i64 c, .int .i64 d] 33 (0, 0))); go_wp2_with fail; generalize World.alloc _ _ = F at s4 B5 ⊢; obtain ⟨o1, o2, -⟩ := blk2 s4; (exact bodyPost_ret (v := .agg #[.int .i64 c, .int .i64 d]) (by simp [results, Try.results16, go_sem, o1, o2]) rfl ⟨rfl, B5⟩)
end Go.Proofs.Ytffkoiemnchdgae
