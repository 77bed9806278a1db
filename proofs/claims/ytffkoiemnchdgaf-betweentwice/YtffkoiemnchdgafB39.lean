/- Texts of one proof, one behind the other: BWB, BL2. -/
import Derived.Test.YtffkoiemnchdgafB38
import Derived.Test.YtffkoiemnchdgafB31
import Derived.Test.YtffkoiemnchdgafB22
import Derived.Test.YtffkoiemnchdgafB24
/- Walks: Interpolate. -/
namespace Go.Proofs.Ytffkoiemnchdgaf
open Go.RowKit Go.Sort

theorem FL.pair2 {w : World} {b : Nat} {f g : Fm} {c0 c1 c2 c3 c4 c5 : Value} {T : TypeId} (hb : w.heap[b]? = some (.cells #[c0, c1, c2, c3, c4, c5] T (0, 0))) (h1 : Rep w (fun _ => True) f (.agg #[c0, c1, c2])) (h2 : Rep w (fun _ => True) g (.agg #[c3, c4, c5])) : FL w (.slice (some ⟨b, 0, none⟩) 2 2) [f, g] :=
  ⟨_, 2, rfl, Nat.le_refl _, by simp [maxLen], fun _ => ⟨b, 0, rfl, Reps.cons.2 ⟨⟨c0, c1, c2, blk_cell hb 0, blk_cell hb 1, blk_cell hb 2, h1⟩, Reps.cons.2 ⟨⟨c3, c4, c5, blk_cell hb 3, blk_cell hb 4, blk_cell hb 5, h2⟩, Reps.nil⟩⟩⟩⟩
set_option maxRecDepth 10000 in
set_option maxHeartbeats 8000000 in
theorem inter_ok (f g : Fm) (v u : Value) (w : World) (hrep : Rep w (fun _ => True) f v) (hu : Rep w (fun _ => True) g u) (ht : (tgcode [f, g]).1 = 0) (hs : someL (fun l => tvL f l && !tvL g l) (nmsF [f, g]) [] = false) :
    Calls Try.prog 36 #[v, u] w fun e w' => ∃ x, e = .returned (.tuple #[x, .agg #[.int .i64 0, .int .i64 0]]) ∧ Rep w' (fun _ => True) (projF f (nmsU g)) x ∧ Below w.heap.size w w' := by
  (have hto := fun v W h => together_any [f, g] (by simp) v W h); have htc : tgcode [f, g] = (0, 0) := tg_zero ht; rw [htc] at hto; simp only at hto; (have hp := tg_plain ht (f := f) (by simp)); (have hq := tg_plain ht (f := g) (by simp)); (have hU : tgnames [f, g] = nmsF [f, g] := by unfold tgnames; rw [if_pos ht])
  have hgd : GoodL 1000 ([] ++ nmsF [f, g]) := ⟨by have := tg_few ht; simp; omega, fun t h => by
    rw [List.nil_append, nmsF_mem] at h; obtain ⟨x, hx, hm⟩ := h
    exact nmsU_nm (pc_fine (tg_plain ht hx)).1 t ((nmsU_mem x t).2 hm)⟩
  (have HSo : Hid (∀ (bf bg : Nat) (ad : Option Addr) (cp : Nat) (W : World), OkFm bf f W → OkFm bg g W → SL W (.slice ad (nmsF [f, g]).length cp) (nmsF [f, g]) → Calls Try.prog 66 #[.slice ad (nmsF [f, g]).length cp, .slice none 0 0, .func (.func 64) #[] #[.pointer (some ⟨bf, 0, none⟩), .pointer (some ⟨bg, 0, none⟩)]] W fun e w' => e = .returned (.bool (someL (fun l => tvL f l && !tvL g l) (nmsF [f, g]) [])) ∧ Below W.heap.size W w') := fun bf bg ad cp W h1 h2 h3 => some_all (asksI f g hp hq bf bg) (nmsF [f, g]) [] _ (.slice none 0 0) W hgd h3 (SL.nil0 (by simp [maxLen])) ⟨h1, h2⟩); rw [hU] at hto; generalize nmsF [f, g] = U at *; rw [hs] at HSo; (have hno := fun v W h => namesOf_any g hq v W h); (have hpj := fun v u W h h' => projected_any f hp (nmsU g) v u W h h'); generalize projF f (nmsU g) = D at *; generalize nmsU g = UG at *; obtain ⟨k5, n5, ks5⟩ := D; clear ht htc hp hq hU hgd hs; obtain ⟨k, n, ks⟩ := f; obtain ⟨sl, cap, rfl⟩ := slice_shape hrep; obtain ⟨kg, ng, ksg⟩ := g; obtain ⟨sg, cg, rfl⟩ := slice_shape hu; (have HR : Hid (Rep w (fun _ => True) (.mk k n ks) (.agg #[.int .i64 k, .string n, .slice sl ks.length cap])) := hrep); (have HG : Hid (Rep w (fun _ => True) (.mk kg ng ksg) (.agg #[.int .i64 kg, .string ng, .slice sg ksg.length cg])) := hu); have HT : Hid (∀ v W, FL W v [.mk k n ks, .mk kg ng ksg] → Calls Try.prog 39 #[v] W _) := hto; (have HNo : Hid (∀ v W, Rep W (fun _ => True) (.mk kg ng ksg) v → Calls Try.prog 67 #[v] W fun e w' => ∃ ad cp, e = .returned (.slice ad UG.length cp) ∧ SL w' (.slice ad UG.length cp) UG ∧ Below W.heap.size W w') := hno); (have HPj : Hid (∀ v u W, Rep W (fun _ => True) (.mk k n ks) v → SL W u UG → Calls Try.prog 41 #[v, u] W fun e w' => ∃ x, e = .returned x ∧ Rep w' (fun c => W.heap.size ≤ c) (.mk k5 n5 ks5) x ∧ Below W.heap.size W w') := hpj); clear hno hpj; clear hto hrep hu
  go_enter Try.func36, Try.ntmps36
  go_wp2_with fail; obtain ⟨p0, p1, p2, p3, psz, PB⟩ := chain4 w (.cells #[.int .i64 k, .string n, .slice sl ks.length cap] 24 (0, 0)) (.cells #[.int .i64 kg, .string ng, .slice sg ksg.length cg] 24 (0, 0)) (.cells #[.int .i64 0, .string ⟨#[]⟩, .slice none 0 0] 24 (0, 0)) (.cells #[.int .i64 0, .int .i64 0] 29 (0, 0)); have p4 := blk_new ((((w.alloc (.cells #[.int .i64 k, .string n, .slice sl ks.length cap] 24 (0, 0))).alloc (.cells #[.int .i64 kg, .string ng, .slice sg ksg.length cg] 24 (0, 0))).alloc (.cells #[.int .i64 0, .string ⟨#[]⟩, .slice none 0 0] 24 (0, 0))).alloc (.cells #[.int .i64 0, .int .i64 0] 29 (0, 0))) (.cells #[.int .i64 k, .string n, .slice sl ks.length cap, .int .i64 kg, .string ng, .slice sg ksg.length cg] 24 (0, 0)); rw [psz] at p4; have PC := below_more PB (.cells #[.int .i64 k, .string n, .slice sl ks.length cap, .int .i64 kg, .string ng, .slice sg ksg.length cg] 24 (0, 0)); refine (HT.out _ _ (FL.pair2 p4 (HR.out.up PC) (HG.out.up PC))).mono ?_; rintro e w1 ⟨ad, cp, rfl, hks, hb1⟩; have HQ0 : Hid (w1.heap[w.heap.size]? = some (.cells #[.int .i64 k, .string n, .slice sl ks.length cap] 24 (0, 0))) := below_keep hb1 (alloc_keep p0 _); have HQ1 : Hid (w1.heap[w.heap.size + 1]? = some (.cells #[.int .i64 kg, .string ng, .slice sg ksg.length cg] 24 (0, 0))) := below_keep hb1 (alloc_keep p1 _); have HQ2 : Hid (w1.heap[w.heap.size + 1 + 1]? = some (.cells #[.int .i64 0, .string ⟨#[]⟩, .slice none 0 0] 24 (0, 0))) := below_keep hb1 (alloc_keep p2 _); have HQ3 : Hid (w1.heap[w.heap.size + 1 + 1 + 1]? = some (.cells #[.int .i64 0, .int .i64 0] 29 (0, 0))) := below_keep hb1 (alloc_keep p3 _); have HB1 : Hid (Below w.heap.size w w1) := below_join PC hb1; have HKs : Hid (KS _ w1 ad cp U) := hks; clear hb1 p0 p1 p2 p3 p4 psz PB PC hks; obtain ⟨e0, e1, e2, -⟩ := blk3 HQ0.out; obtain ⟨f0, f1, f2, -⟩ := blk3 HQ1.out; obtain ⟨a0, a1, a2, z0, z1, z2⟩ := blk3 HQ2.out; obtain ⟨b0, b1, z3, z4⟩ := blk2 HQ3.out; have y0 := lt_of_block HQ0.out; have y1 := lt_of_block HQ1.out; have y2 := lt_of_block HQ2.out; have y3 := lt_of_block HQ3.out; go_wp2_with fail; have hbF : Below w1.heap.size w1 (w1.alloc (.cells #[.int .i64 0, .int .i64 0] 29 (0, 0))) := (Below.refl _ _).alloc (Nat.le_refl _) _; have hbw := below_join HB1.out hbF; refine (HSo.out w.heap.size (w.heap.size + 1) ad cp _ ⟨_, _, _, _, _, rfl, below_keep hbF HQ0.out, HR.out.up hbw⟩ ⟨_, _, _, _, _, rfl, below_keep hbF HQ1.out, HG.out.up hbw⟩ ((KS.list HKs.out).sl.up hbF)).mono ?_; rintro e w2 ⟨rfl, hb2⟩; have HP0 : Hid (w2.heap[w.heap.size]? = some (.cells #[.int .i64 k, .string n, .slice sl ks.length cap] 24 (0, 0))) := below_keep hb2 (below_keep hbF HQ0.out); have HP1 : Hid (w2.heap[w.heap.size + 1]? = some (.cells #[.int .i64 kg, .string ng, .slice sg ksg.length cg] 24 (0, 0))) := below_keep hb2 (below_keep hbF HQ1.out); have HP2 : Hid (w2.heap[w.heap.size + 1 + 1]? = some (.cells #[.int .i64 0, .string ⟨#[]⟩, .slice none 0 0] 24 (0, 0))) := below_keep hb2 (below_keep hbF HQ2.out); have HP3 : Hid (w2.heap[w.heap.size + 1 + 1 + 1]? = some (.cells #[.int .i64 0, .int .i64 0] 29 (0, 0))) := below_keep hb2 (below_keep hbF HQ3.out); have HB2 : Hid (Below w.heap.size w w2) := below_join hbw hb2; clear hb2 hbF hbw e0 e1 e2 f0 f1 f2 a0 a1 a2 z0 z1 z2 b0 b1 z3 z4; obtain ⟨e0, e1, e2, -⟩ := blk3 HP0.out; obtain ⟨f0, f1, f2, -⟩ := blk3 HP1.out; obtain ⟨a0, a1, a2, z0, z1, z2⟩ := blk3 HP2.out; obtain ⟨b0, b1, z3, z4⟩ := blk2 HP3.out; have x0 := lt_of_block HP0.out; have x1 := lt_of_block HP1.out; have x2 := lt_of_block HP2.out; have x3 := lt_of_block HP3.out; go_wp2_with fail; obtain ⟨r, hr⟩ : ∃ r, r = w.heap.size + 1 + 1 := ⟨_, rfl⟩; obtain ⟨q, hq⟩ : ∃ q, q = w.heap.size + 1 + 1 + 1 := ⟨_, rfl⟩; rw [← hq, ← hr]; rw [← hr] at HP2 a0 a1 a2 z0 z1 z2 x2; rw [← hq] at HP3 b0 b1 z3 z4 x3; (have nn1 : ¬ w.heap.size = r := by omega); (have nn2 : ¬ w.heap.size = q := by omega); (have nn3 : ¬ w.heap.size + 1 = r := by omega); (have nn4 : ¬ w.heap.size + 1 = q := by omega); (have nn5 : ¬ r = q := by omega); (have nn6 : ¬ q = r := by omega); (have nm1 : ¬ r = w.heap.size := by omega); (have nm2 : ¬ q = w.heap.size := by omega)
  (have nm3 : ¬ r = w.heap.size + 1 := by omega); (have nm4 : ¬ q = w.heap.size + 1 := by omega); have HHr : Hid (r = w.heap.size + 1 + 1 ∧ q = w.heap.size + 1 + 1 + 1) := ⟨hr, hq⟩; clear hr hq
  go_region_held3 (fun w' => w'.cell? ⟨w.heap.size, 0, none⟩ = some (.int .i64 k) ∧ w'.cell? ⟨w.heap.size, 1, none⟩ = some (.string n) ∧ w'.cell? ⟨w.heap.size, 2, none⟩ = some (.slice sl ks.length cap) ∧ w'.cell? ⟨w.heap.size + 1, 0, none⟩ = some (.int .i64 kg) ∧ w'.cell? ⟨w.heap.size + 1, 1, none⟩ = some (.string ng) ∧ w'.cell? ⟨w.heap.size + 1, 2, none⟩ = some (.slice sg ksg.length cg)) (go_keep)
    (first
     | (go_at_call 67
        refine (HNo.out _ _ (HG.out.up HB2.out.drew)).mono ?_; rintro e w3 ⟨ad3, cp3, rfl, hs3, hb3⟩; have HS3 : Hid (SL w3 (.slice ad3 UG.length cp3) UG) := hs3; have HB3 : Hid (Below w2.heap.size w2 w3) := (Below.refl _ w2).drew.trans hb3; obtain ⟨g0, g1, g2, -⟩ := blk3 (below_keep HB3.out HP0.out); obtain ⟨h0, h1, h2, -⟩ := blk3 (below_keep HB3.out HP1.out)
        clear hb3 hs3)
     | (go_at_call 41
        refine (HPj.out _ _ _ (HR.out.up (below_join HB2.out HB3.out)) HS3.out).mono ?_; rintro e w4 ⟨x, rfl, hx, hb4⟩; obtain ⟨sl5, cp5, rfl⟩ := slice_shape hx; (have HX4 : Hid (Rep w4 (fun c => w3.heap.size ≤ c) (.mk k5 n5 ks5) (.agg #[.int .i64 k5, .string n5, .slice sl5 ks5.length cp5])) := hx); have HB4 : Hid (Below w2.heap.size w2 w4) := below_join HB3.out hb4; have HR2 : Hid (w4.heap[r]? = some (.cells #[.int .i64 0, .string ⟨#[]⟩, .slice none 0 0] 24 (0, 0))) := below_keep HB4.out HP2.out; have HR3 : Hid (w4.heap[q]? = some (.cells #[.int .i64 0, .int .i64 0] 29 (0, 0))) := below_keep HB4.out HP3.out; obtain ⟨i0, i1, i2, -⟩ := blk3 (below_keep HB4.out HP0.out); obtain ⟨j0, j1, j2, -⟩ := blk3 (below_keep HB4.out HP1.out); clear a0 a1 a2 z0 z1 z2 b0 b1 z3 z4; obtain ⟨a0, a1, a2, z0, z1, z2⟩ := blk3 HR2.out; obtain ⟨b0, b1, z3, z4⟩ := blk2 HR3.out; have u2 := lt_of_block HR2.out; have u3 := lt_of_block HR3.out
        clear hb4 hx)
     | fail)
  all_goals
    go_wp2_with fail; obtain ⟨hr, hq⟩ := HHr.out; (have f5 := put5_at (W := w4) (r := r) (q := q) (by omega) HR2.out HR3.out (.int .i64 k5) (.string n5) (.slice sl5 ks5.length cp5) (.int .i64 0) (.int .i64 0)); (have BF := put5_below (w := w) (r := r) (q := q) (by omega) (by omega) (below_join HB2.out HB4.out) (.int .i64 k5) (.string n5) (.slice sl5 ks5.length cp5) (.int .i64 0) (.int .i64 0)); have hs3 := HB3.out.size; (have RX := HX4.out.put5 (r := r) (q := q) (P' := fun _ => True) (fun b _ hb => ⟨by omega, by omega, trivial⟩) (.int .i64 k5) (.string n5) (.slice sl5 ks5.length cp5) (.int .i64 0) (.int .i64 0)); have g1 : (put5 w4 r q (.int .i64 k5) (.string n5) (.slice sl5 ks5.length cp5) (.int .i64 0) (.int .i64 0)).heap[r]? = some _ := f5.1; have g2 : (put5 w4 r q (.int .i64 k5) (.string n5) (.slice sl5 ks5.length cp5) (.int .i64 0) (.int .i64 0)).heap[q]? = some _ := f5.2; have BG : Below w.heap.size w (put5 w4 r q (.int .i64 k5) (.string n5) (.slice sl5 ks5.length cp5) (.int .i64 0) (.int .i64 0)) := BF; show bodyPost _ _ _ _ _ (put5 w4 r q (.int .i64 k5) (.string n5) (.slice sl5 ks5.length cp5) (.int .i64 0) (.int .i64 0)); generalize (put5 w4 r q (.int .i64 k5) (.string n5) (.slice sl5 ks5.length cp5) (.int .i64 0) (.int .i64 0)) = F at g1 g2 BG RX ⊢; obtain ⟨o0, o1, o2, -⟩ := blk3 g1; obtain ⟨o3, o4, -⟩ := blk2 g2; (exact bodyPost_ret (v := .tuple #[.agg #[.int .i64 k5, .string n5, .slice sl5 ks5.length cp5], .agg #[.int .i64 0, .int .i64 0]]) (by simp [results, Try.results36, go_sem, o0, o1, o2, o3, o4]) rfl ⟨_, rfl, RX, BG⟩)
end Go.Proofs.Ytffkoiemnchdgaf
/- Walks: the laws' own helpers between formulas: makes, betweenFault. -/
namespace Go.Proofs.Ytffkoiemnchdgaf
open Go.RowKit Go.Sort

/-- Is g true in all rows of these names in which f is? -/
def makesB (f g : Fm) (ns : List (List UInt8)) : Bool := (List.range (2 ^ ns.length)).all fun k => !tvL f (rowN k ns 0) || tvL g (rowN k ns 0)
theorem makesB_iff (f g : Fm) (ns : List (List UInt8)) : makesB f g ns = true ↔ ∀ k, k < 2 ^ ns.length → tvL f (rowN k ns 0) = true → tvL g (rowN k ns 0) = true := by
  unfold makesB; rw [List.all_eq_true]
  constructor
  · intro h k hk hf
    have := h k (List.mem_range.2 hk); rw [hf] at this; simpa using this
  · intro h k hk
    have := h k (List.mem_range.1 hk)
    cases hf : tvL f (rowN k ns 0)
    · rfl
    · rw [this hf]; rfl

set_option maxRecDepth 10000 in
set_option maxHeartbeats 4000000 in
theorem makesL_any (f g : Fm) (hf : Fine f) (hg : Fine g) (ns : List (List UInt8)) (hn : ns.length ≤ 6) (v u z : Value) (w : World) (hv : Rep w (fun _ => True) f v) (hu : Rep w (fun _ => True) g u) (hz : SL w z ns) :
    Calls Try.prog 16 #[v, u, z] w fun e w' => e = .returned (.bool (makesB f g ns)) ∧ Below w.heap.size w w' := by
  (have htf := fun r v u (w : World) h h' => trueR_any (rowN r ns 0) f v u w hf h h'); (have htg := fun r v u (w : World) h h' => trueR_any (rowN r ns 0) g v u w hg h h'); (have hrw := fun r (hr : r ≤ 100000) u (w : World) h => row_any r hr ns (by omega) u w h); obtain ⟨hw, hM1, hM2⟩ := shl_row ns.length hn; have HRes : Hid (makesB f g ns = true ↔ ∀ k, k < 2 ^ ns.length → tvL f (rowN k ns 0) = true → tvL g (rowN k ns 0) = true) := makesB_iff f g ns; generalize makesB f g ns = res at *; obtain ⟨M, hM⟩ : ∃ M, M = 2 ^ ns.length := ⟨_, rfl⟩; rw [← hM] at hw hM1 hM2 HRes; obtain ⟨k, n, ks⟩ := f; obtain ⟨sl, cap, rfl⟩ := slice_shape hv; obtain ⟨kg, ng, ksg⟩ := g; obtain ⟨sg, cg, rfl⟩ := slice_shape hu; (have HV : Hid (Rep w (fun _ => True) (.mk k n ks) (.agg #[.int .i64 k, .string n, .slice sl ks.length cap])) := hv); (have HU : Hid (Rep w (fun _ => True) (.mk kg ng ksg) (.agg #[.int .i64 kg, .string ng, .slice sg ksg.length cg])) := hu); have HZ : Hid (SL w z ns) := hz; (have HTF : Hid (∀ r v u w, Rep w (fun _ => True) (.mk k n ks) v → SL w u (rowN r ns 0) → Calls Try.prog 38 #[v, u] w fun e w' => e = .returned (.bool (tvL (.mk k n ks) (rowN r ns 0))) ∧ Below w.heap.size w w') := htf); (have HTG : Hid (∀ r v u w, Rep w (fun _ => True) (.mk kg ng ksg) v → SL w u (rowN r ns 0) → Calls Try.prog 38 #[v, u] w fun e w' => e = .returned (.bool (tvL (.mk kg ng ksg) (rowN r ns 0))) ∧ Below w.heap.size w w') := htg); have HRW : Hid (∀ r, r ≤ 100000 → ∀ u w, SL w u ns → Calls Try.prog 46 #[u, .int .i64 (r : Nat)] w _) := hrw; obtain ⟨adz, cpz, rfl, -⟩ := hz; (have hUI : (ns.length : Int) ≤ 6 := by omega); have HW : Hid (wrap64 ((2 : Int) ^ ns.length) = ((M : Nat) : Int)) := hw; have B0 := below_more (below_more (Below.refl _ w) (.cells #[.int .i64 k, .string n, .slice sl ks.length cap] 24 (0, 0))) (.cells #[.int .i64 kg, .string ng, .slice sg ksg.length cg] 24 (0, 0)); have HQ0 : Hid (((w.alloc (.cells #[.int .i64 k, .string n, .slice sl ks.length cap] 24 (0, 0))).alloc (.cells #[.int .i64 kg, .string ng, .slice sg ksg.length cg] 24 (0, 0))).heap[w.heap.size]? = some (.cells #[.int .i64 k, .string n, .slice sl ks.length cap] 24 (0, 0))) := alloc_keep (blk_new w _) _; have HQ1 : Hid (((w.alloc (.cells #[.int .i64 k, .string n, .slice sl ks.length cap] 24 (0, 0))).alloc (.cells #[.int .i64 kg, .string ng, .slice sg ksg.length cg] 24 (0, 0))).heap[w.heap.size + 1]? = some (.cells #[.int .i64 kg, .string ng, .slice sg ksg.length cg] 24 (0, 0))) := blk_2nd w _ _; clear htf htg hrw hv hu hf hg hw hM
  go_enter Try.func16, Try.ntmps16
  go_wp2_with fail; obtain ⟨W, hW⟩ : ∃ W, W = (w.alloc (.cells #[.int .i64 k, .string n, .slice sl ks.length cap] 24 (0, 0))).alloc (.cells #[.int .i64 kg, .string ng, .slice sg ksg.length cg] 24 (0, 0)) := ⟨_, rfl⟩; rw [← hW] at B0 HQ0 HQ1 ⊢; clear hW
  go_loopg [7] M (fun g cc wr => ∃ j, j ≤ M ∧ g = M - j ∧ cc = .int .i64 (j : Nat) ∧ Hid (Below W.heap.size W wr) ∧ Hid (∀ i, i < j → tvL (.mk k n ks) (rowN i ns 0) = true → tvL (.mk kg ng ksg) (rowN i ns 0) = true))
  case atStart => exact ⟨0, by omega, by omega, rfl, Below.refl _ _, fun i hi => absurd hi (Nat.not_lt_zero _)⟩
  case round =>
    obtain ⟨j, hj, hg, rfl, HBr, HA⟩ := hrel; have HG : Hid (gk = M - j) := hg; clear hg; have hw := HW.out; by_cases hlt : j < M
    · have hltI : (j : Int) < (M : Int) := by omega
      (have HJ : Hid (j < M ∧ j ≤ 100000) := ⟨hlt, by omega⟩); have HBw : Hid (Below w.heap.size w wr) := below_join B0 HBr.out; clear hlt hj; go_wp2_with fail; refine (HRW.out j HJ.out.2 _ _ (HZ.out.up HBw.out)).mono ?_; rintro e w2 ⟨y, rfl, hy, hb2⟩; have HB2 : Hid (Below W.heap.size W w2) := below_join HBr.out hb2; have HY : Hid (SL w2 y (rowN j ns 0)) := hy.sl; obtain ⟨ady, cpy, rfl, -⟩ := hy; obtain ⟨g0, g1, g2, -⟩ := blk3 (below_keep HB2.out HQ0.out); clear hb2; go_wp2_with fail; refine (HTF.out j _ _ _ (HV.out.up (below_join B0 HB2.out)) HY.out).mono ?_; rintro e w3 ⟨rfl, hb3⟩; have HB3 : Hid (Below W.heap.size W w3) := below_join HB2.out hb3; have HY3 : Hid (SL w3 (.slice ady (rowN j ns 0).length cpy) (rowN j ns 0)) := HY.out.up hb3; clear hb3 g0 g1 g2; obtain ⟨g0, g1, g2, -⟩ := blk3 (below_keep HB3.out HQ1.out)
      cases hb : tvL (.mk k n ks) (rowN j ns 0)
      · have HA2 : Hid (∀ i, i < j + 1 → tvL (.mk k n ks) (rowN i ns 0) = true → tvL (.mk kg ng ksg) (rowN i ns 0) = true) := fun i hi h => by
          rcases Nat.lt_or_ge i j with h2 | h2
          · exact HA.out i h2 h
          · obtain rfl : i = j := by omega
            rw [hb] at h; cases h
        clear hb; go_wp2_with fail
        go_roundg (M - (j + 1))
        case measure => have := HG.out; have := HJ.out; omega
        case rel => exact ⟨j + 1, HJ.out.1, rfl, by go_num, HB3, HA2⟩
      · have Hb : Hid (tvL (.mk k n ks) (rowN j ns 0) = true) := hb
        clear hb; go_wp2_with fail; refine (HTG.out j _ _ _ (HU.out.up (below_join B0 HB3.out)) HY3.out).mono ?_; rintro e w4 ⟨rfl, hb4⟩; have HB4 : Hid (Below W.heap.size W w4) := below_join HB3.out hb4; clear hb4 g0 g1 g2
        cases hc : tvL (.mk kg ng ksg) (rowN j ns 0)
        · have HF : Hid (res = false) := by
            cases hr : res with
            | false => rfl
            | true =>
              have := HRes.out.1 hr j HJ.out.1 Hb.out; rw [hc] at this; cases this
          clear hc; go_wp2_with fail; go_ret; (exact ⟨by rw [HF.out]; rfl, below_join B0 HB4.out⟩)
        · have HA2 : Hid (∀ i, i < j + 1 → tvL (.mk k n ks) (rowN i ns 0) = true → tvL (.mk kg ng ksg) (rowN i ns 0) = true) := fun i hi h => by
            rcases Nat.lt_or_ge i j with h2 | h2
            · exact HA.out i h2 h
            · obtain rfl : i = j := by omega
              exact hc
          clear hc; go_wp2_with fail
          go_roundg (M - (j + 1))
          case measure => have := HG.out; have := HJ.out; omega
          case rel => exact ⟨j + 1, HJ.out.1, rfl, by go_num, HB4, HA2⟩
    · have hjj : j = M := by omega
      subst hjj; have HF : Hid (res = true) := HRes.out.2 HA.out; (have hge : ¬ (j : Int) < (j : Int) := by omega); clear hlt hj; go_wp2_with fail; go_ret; (exact ⟨by rw [HF.out]; rfl, below_join B0 HBr.out⟩)
end Go.Proofs.Ytffkoiemnchdgaf
