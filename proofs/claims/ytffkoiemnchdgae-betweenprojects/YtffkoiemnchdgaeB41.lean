/- Texts of one proof, one behind the other: BWB, BL3, BL4. -/
import Derived.Test.YtffkoiemnchdgaeB40
import Derived.Test.YtffkoiemnchdgaeB34
import Derived.Test.YtffkoiemnchdgaeB27
import Derived.Test.YtffkoiemnchdgaeB26
import Derived.Test.YtffkoiemnchdgaeB18
import Derived.Test.YtffkoiemnchdgaeB28
/- Walks: Interpolate. -/
namespace Go.Proofs.Ytffkoiemnchdgae
open Go.RowKit Go.Sort

theorem FL.pair2 {w : World} {b : Nat} {f g : Fm} {c0 c1 c2 c3 c4 c5 : Value} {T : TypeId} (hb : w.heap[b]? = some (.cells #[c0, c1, c2, c3, c4, c5] T (0, 0))) (h1 : Rep w (fun _ => True) f (.agg #[c0, c1, c2])) (h2 : Rep w (fun _ => True) g (.agg #[c3, c4, c5])) : FL w (.slice (some ⟨b, 0, none⟩) 2 2) [f, g] :=
  ⟨_, 2, rfl, Nat.le_refl _, by simp [maxLen], fun _ => ⟨b, 0, rfl, Reps.cons.2 ⟨⟨c0, c1, c2, blk_cell hb 0, blk_cell hb 1, blk_cell hb 2, h1⟩, Reps.cons.2 ⟨⟨c3, c4, c5, blk_cell hb 3, blk_cell hb 4, blk_cell hb 5, h2⟩, Reps.nil⟩⟩⟩⟩
set_option maxRecDepth 10000 in
set_option maxHeartbeats 8000000 in
theorem inter_ok (f g : Fm) (v u : Value) (w : World) (hrep : Rep w (fun _ => True) f v) (hu : Rep w (fun _ => True) g u) (ht : (tgcode [f, g]).1 = 0) (hs : someL (fun l => tvL f l && !tvL g l) (nmsF [f, g]) [] = false) :
    Calls Try.prog 14 #[v, u] w fun e w' => ∃ x, e = .returned (.tuple #[x, .agg #[.int .i64 0, .int .i64 0]]) ∧ Rep w' (fun _ => True) (projF f (nmsU g)) x ∧ Below w.heap.size w w' := by
  (have hto := fun v W h => together_any [f, g] (by simp) v W h); have htc : tgcode [f, g] = (0, 0) := tg_zero ht; rw [htc] at hto; simp only at hto; (have hp := tg_plain ht (f := f) (by simp)); (have hq := tg_plain ht (f := g) (by simp)); (have hU : tgnames [f, g] = nmsF [f, g] := by unfold tgnames; rw [if_pos ht])
  have hgd : GoodL 1000 ([] ++ nmsF [f, g]) := ⟨by have := tg_few ht; simp; omega, fun t h => by
    rw [List.nil_append, nmsF_mem] at h; obtain ⟨x, hx, hm⟩ := h
    exact nmsU_nm (pc_fine (tg_plain ht hx)).1 t ((nmsU_mem x t).2 hm)⟩
  (have HSo : Hid (∀ (bf bg : Nat) (ad : Option Addr) (cp : Nat) (W : World), OkFm bf f W → OkFm bg g W → SL W (.slice ad (nmsF [f, g]).length cp) (nmsF [f, g]) → Calls Try.prog 43 #[.slice ad (nmsF [f, g]).length cp, .slice none 0 0, .func (.func 41) #[] #[.pointer (some ⟨bf, 0, none⟩), .pointer (some ⟨bg, 0, none⟩)]] W fun e w' => e = .returned (.bool (someL (fun l => tvL f l && !tvL g l) (nmsF [f, g]) [])) ∧ Below W.heap.size W w') := fun bf bg ad cp W h1 h2 h3 => some_all (asksI f g hp hq bf bg) (nmsF [f, g]) [] _ (.slice none 0 0) W hgd h3 (SL.nil0 (by simp [maxLen])) ⟨h1, h2⟩); rw [hU] at hto; generalize nmsF [f, g] = U at *; rw [hs] at HSo; (have hno := fun v W h => namesOf_any g hq v W h); (have hpj := fun v u W h h' => projected_any f hp (nmsU g) v u W h h'); generalize projF f (nmsU g) = D at *; generalize nmsU g = UG at *; obtain ⟨k5, n5, ks5⟩ := D; clear ht htc hp hq hU hgd hs; obtain ⟨k, n, ks⟩ := f; obtain ⟨sl, cap, rfl⟩ := slice_shape hrep; obtain ⟨kg, ng, ksg⟩ := g; obtain ⟨sg, cg, rfl⟩ := slice_shape hu; (have HR : Hid (Rep w (fun _ => True) (.mk k n ks) (.agg #[.int .i64 k, .string n, .slice sl ks.length cap])) := hrep); (have HG : Hid (Rep w (fun _ => True) (.mk kg ng ksg) (.agg #[.int .i64 kg, .string ng, .slice sg ksg.length cg])) := hu); have HT : Hid (∀ v W, FL W v [.mk k n ks, .mk kg ng ksg] → Calls Try.prog 40 #[v] W _) := hto; (have HNo : Hid (∀ v W, Rep W (fun _ => True) (.mk kg ng ksg) v → Calls Try.prog 45 #[v] W fun e w' => ∃ ad cp, e = .returned (.slice ad UG.length cp) ∧ SL w' (.slice ad UG.length cp) UG ∧ Below W.heap.size W w') := hno); (have HPj : Hid (∀ v u W, Rep W (fun _ => True) (.mk k n ks) v → SL W u UG → Calls Try.prog 44 #[v, u] W fun e w' => ∃ x, e = .returned x ∧ Rep w' (fun c => W.heap.size ≤ c) (.mk k5 n5 ks5) x ∧ Below W.heap.size W w') := hpj); clear hno hpj; clear hto hrep hu
  go_enter Try.func14, Try.ntmps14
  go_wp2_with fail; obtain ⟨p0, p1, p2, p3, psz, PB⟩ := chain4 w (.cells #[.int .i64 k, .string n, .slice sl ks.length cap] 24 (0, 0)) (.cells #[.int .i64 kg, .string ng, .slice sg ksg.length cg] 24 (0, 0)) (.cells #[.int .i64 0, .string ⟨#[]⟩, .slice none 0 0] 24 (0, 0)) (.cells #[.int .i64 0, .int .i64 0] 33 (0, 0)); have p4 := blk_new ((((w.alloc (.cells #[.int .i64 k, .string n, .slice sl ks.length cap] 24 (0, 0))).alloc (.cells #[.int .i64 kg, .string ng, .slice sg ksg.length cg] 24 (0, 0))).alloc (.cells #[.int .i64 0, .string ⟨#[]⟩, .slice none 0 0] 24 (0, 0))).alloc (.cells #[.int .i64 0, .int .i64 0] 33 (0, 0))) (.cells #[.int .i64 k, .string n, .slice sl ks.length cap, .int .i64 kg, .string ng, .slice sg ksg.length cg] 24 (0, 0)); rw [psz] at p4; have PC := below_more PB (.cells #[.int .i64 k, .string n, .slice sl ks.length cap, .int .i64 kg, .string ng, .slice sg ksg.length cg] 24 (0, 0)); refine (HT.out _ _ (FL.pair2 p4 (HR.out.up PC) (HG.out.up PC))).mono ?_; rintro e w1 ⟨ad, cp, rfl, hks, hb1⟩; have HQ0 : Hid (w1.heap[w.heap.size]? = some (.cells #[.int .i64 k, .string n, .slice sl ks.length cap] 24 (0, 0))) := below_keep hb1 (alloc_keep p0 _); have HQ1 : Hid (w1.heap[w.heap.size + 1]? = some (.cells #[.int .i64 kg, .string ng, .slice sg ksg.length cg] 24 (0, 0))) := below_keep hb1 (alloc_keep p1 _); have HQ2 : Hid (w1.heap[w.heap.size + 1 + 1]? = some (.cells #[.int .i64 0, .string ⟨#[]⟩, .slice none 0 0] 24 (0, 0))) := below_keep hb1 (alloc_keep p2 _); have HQ3 : Hid (w1.heap[w.heap.size + 1 + 1 + 1]? = some (.cells #[.int .i64 0, .int .i64 0] 33 (0, 0))) := below_keep hb1 (alloc_keep p3 _); have HB1 : Hid (Below w.heap.size w w1) := below_join PC hb1; have HKs : Hid (KS _ w1 ad cp U) := hks; clear hb1 p0 p1 p2 p3 p4 psz PB PC hks; obtain ⟨e0, e1, e2, -⟩ := blk3 HQ0.out; obtain ⟨f0, f1, f2, -⟩ := blk3 HQ1.out; obtain ⟨a0, a1, a2, z0, z1, z2⟩ := blk3 HQ2.out; obtain ⟨b0, b1, z3, z4⟩ := blk2 HQ3.out; have y0 := lt_of_block HQ0.out; have y1 := lt_of_block HQ1.out; have y2 := lt_of_block HQ2.out; have y3 := lt_of_block HQ3.out; go_wp2_with fail; have hbF : Below w1.heap.size w1 (w1.alloc (.cells #[.int .i64 0, .int .i64 0] 33 (0, 0))) := (Below.refl _ _).alloc (Nat.le_refl _) _; have hbw := below_join HB1.out hbF; refine (HSo.out w.heap.size (w.heap.size + 1) ad cp _ ⟨_, _, _, _, _, rfl, below_keep hbF HQ0.out, HR.out.up hbw⟩ ⟨_, _, _, _, _, rfl, below_keep hbF HQ1.out, HG.out.up hbw⟩ ((KS.list HKs.out).sl.up hbF)).mono ?_; rintro e w2 ⟨rfl, hb2⟩; have HP0 : Hid (w2.heap[w.heap.size]? = some (.cells #[.int .i64 k, .string n, .slice sl ks.length cap] 24 (0, 0))) := below_keep hb2 (below_keep hbF HQ0.out); have HP1 : Hid (w2.heap[w.heap.size + 1]? = some (.cells #[.int .i64 kg, .string ng, .slice sg ksg.length cg] 24 (0, 0))) := below_keep hb2 (below_keep hbF HQ1.out); have HP2 : Hid (w2.heap[w.heap.size + 1 + 1]? = some (.cells #[.int .i64 0, .string ⟨#[]⟩, .slice none 0 0] 24 (0, 0))) := below_keep hb2 (below_keep hbF HQ2.out); have HP3 : Hid (w2.heap[w.heap.size + 1 + 1 + 1]? = some (.cells #[.int .i64 0, .int .i64 0] 33 (0, 0))) := below_keep hb2 (below_keep hbF HQ3.out); have HB2 : Hid (Below w.heap.size w w2) := below_join hbw hb2; clear hb2 hbF hbw e0 e1 e2 f0 f1 f2 a0 a1 a2 z0 z1 z2 b0 b1 z3 z4; obtain ⟨e0, e1, e2, -⟩ := blk3 HP0.out; obtain ⟨f0, f1, f2, -⟩ := blk3 HP1.out; obtain ⟨a0, a1, a2, z0, z1, z2⟩ := blk3 HP2.out; obtain ⟨b0, b1, z3, z4⟩ := blk2 HP3.out; have x0 := lt_of_block HP0.out; have x1 := lt_of_block HP1.out; have x2 := lt_of_block HP2.out; have x3 := lt_of_block HP3.out; go_wp2_with fail; obtain ⟨r, hr⟩ : ∃ r, r = w.heap.size + 1 + 1 := ⟨_, rfl⟩; obtain ⟨q, hq⟩ : ∃ q, q = w.heap.size + 1 + 1 + 1 := ⟨_, rfl⟩; rw [← hq, ← hr]; rw [← hr] at HP2 a0 a1 a2 z0 z1 z2 x2; rw [← hq] at HP3 b0 b1 z3 z4 x3; (have nn1 : ¬ w.heap.size = r := by omega); (have nn2 : ¬ w.heap.size = q := by omega); (have nn3 : ¬ w.heap.size + 1 = r := by omega); (have nn4 : ¬ w.heap.size + 1 = q := by omega); (have nn5 : ¬ r = q := by omega); (have nn6 : ¬ q = r := by omega); (have nm1 : ¬ r = w.heap.size := by omega); (have nm2 : ¬ q = w.heap.size := by omega)
  (have nm3 : ¬ r = w.heap.size + 1 := by omega); (have nm4 : ¬ q = w.heap.size + 1 := by omega); have HHr : Hid (r = w.heap.size + 1 + 1 ∧ q = w.heap.size + 1 + 1 + 1) := ⟨hr, hq⟩; clear hr hq
  go_region_held3 (fun w' => w'.cell? ⟨w.heap.size, 0, none⟩ = some (.int .i64 k) ∧ w'.cell? ⟨w.heap.size, 1, none⟩ = some (.string n) ∧ w'.cell? ⟨w.heap.size, 2, none⟩ = some (.slice sl ks.length cap) ∧ w'.cell? ⟨w.heap.size + 1, 0, none⟩ = some (.int .i64 kg) ∧ w'.cell? ⟨w.heap.size + 1, 1, none⟩ = some (.string ng) ∧ w'.cell? ⟨w.heap.size + 1, 2, none⟩ = some (.slice sg ksg.length cg)) (go_keep)
    (first
     | (go_at_call 45
        refine (HNo.out _ _ (HG.out.up HB2.out.drew)).mono ?_; rintro e w3 ⟨ad3, cp3, rfl, hs3, hb3⟩; have HS3 : Hid (SL w3 (.slice ad3 UG.length cp3) UG) := hs3; have HB3 : Hid (Below w2.heap.size w2 w3) := (Below.refl _ w2).drew.trans hb3; obtain ⟨g0, g1, g2, -⟩ := blk3 (below_keep HB3.out HP0.out); obtain ⟨h0, h1, h2, -⟩ := blk3 (below_keep HB3.out HP1.out)
        clear hb3 hs3)
     | (go_at_call 44
        refine (HPj.out _ _ _ (HR.out.up (below_join HB2.out HB3.out)) HS3.out).mono ?_; rintro e w4 ⟨x, rfl, hx, hb4⟩; obtain ⟨sl5, cp5, rfl⟩ := slice_shape hx; (have HX4 : Hid (Rep w4 (fun c => w3.heap.size ≤ c) (.mk k5 n5 ks5) (.agg #[.int .i64 k5, .string n5, .slice sl5 ks5.length cp5])) := hx); have HB4 : Hid (Below w2.heap.size w2 w4) := below_join HB3.out hb4; have HR2 : Hid (w4.heap[r]? = some (.cells #[.int .i64 0, .string ⟨#[]⟩, .slice none 0 0] 24 (0, 0))) := below_keep HB4.out HP2.out; have HR3 : Hid (w4.heap[q]? = some (.cells #[.int .i64 0, .int .i64 0] 33 (0, 0))) := below_keep HB4.out HP3.out; obtain ⟨i0, i1, i2, -⟩ := blk3 (below_keep HB4.out HP0.out); obtain ⟨j0, j1, j2, -⟩ := blk3 (below_keep HB4.out HP1.out); clear a0 a1 a2 z0 z1 z2 b0 b1 z3 z4; obtain ⟨a0, a1, a2, z0, z1, z2⟩ := blk3 HR2.out; obtain ⟨b0, b1, z3, z4⟩ := blk2 HR3.out; have u2 := lt_of_block HR2.out; have u3 := lt_of_block HR3.out
        clear hb4 hx)
     | fail)
  all_goals
    go_wp2_with fail; obtain ⟨hr, hq⟩ := HHr.out; (have f5 := put5_at (W := w4) (r := r) (q := q) (by omega) HR2.out HR3.out (.int .i64 k5) (.string n5) (.slice sl5 ks5.length cp5) (.int .i64 0) (.int .i64 0)); (have BF := put5_below (w := w) (r := r) (q := q) (by omega) (by omega) (below_join HB2.out HB4.out) (.int .i64 k5) (.string n5) (.slice sl5 ks5.length cp5) (.int .i64 0) (.int .i64 0)); have hs3 := HB3.out.size; (have RX := HX4.out.put5 (r := r) (q := q) (P' := fun _ => True) (fun b _ hb => ⟨by omega, by omega, trivial⟩) (.int .i64 k5) (.string n5) (.slice sl5 ks5.length cp5) (.int .i64 0) (.int .i64 0)); have g1 : (put5 w4 r q (.int .i64 k5) (.string n5) (.slice sl5 ks5.length cp5) (.int .i64 0) (.int .i64 0)).heap[r]? = some _ := f5.1; have g2 : (put5 w4 r q (.int .i64 k5) (.string n5) (.slice sl5 ks5.length cp5) (.int .i64 0) (.int .i64 0)).heap[q]? = some _ := f5.2; have BG : Below w.heap.size w (put5 w4 r q (.int .i64 k5) (.string n5) (.slice sl5 ks5.length cp5) (.int .i64 0) (.int .i64 0)) := BF; show bodyPost _ _ _ _ _ (put5 w4 r q (.int .i64 k5) (.string n5) (.slice sl5 ks5.length cp5) (.int .i64 0) (.int .i64 0)); generalize (put5 w4 r q (.int .i64 k5) (.string n5) (.slice sl5 ks5.length cp5) (.int .i64 0) (.int .i64 0)) = F at g1 g2 BG RX ⊢; obtain ⟨o0, o1, o2, -⟩ := blk3 g1; obtain ⟨o3, o4, -⟩ := blk2 g2; (exact bodyPost_ret (v := .tuple #[.agg #[.int .i64 k5, .string n5, .slice sl5 ks5.length cp5], .agg #[.int .i64 0, .int .i64 0]]) (by simp [results, Try.results14, go_sem, o0, o1, o2, o3, o4]) rfl ⟨_, rfl, RX, BG⟩)
end Go.Proofs.Ytffkoiemnchdgae
/- Walks: the laws' own helpers between formulas: Vast of what is small, betweenFault, Texts. -/
namespace Go.Proofs.Ytffkoiemnchdgae
open Go.RowKit Go.Sort

theorem len_sizesB : ∀ ks : List Fm, ks.length ≤ Fm.sizes ks
  | [] => by simp
  | f :: fs => by
    have := len_sizesB fs; (have h1 : 1 ≤ f.size := by cases f; rw [Fm.size]; omega); rw [Fm.sizes, List.length_cons]; omega
/-- A bool is answered; where it is true, the formula is large. -/
def IsVB (deep : Int) (f : Fm) (e : Ending) : Prop := ∃ b, e = .returned (.bool b) ∧ (b = true → 25000 < deep + (f.size : Int))
def VastsB (m : Nat) : Prop := ∀ (f : Fm) (v : Value) (deep : Int) (w : World), f.size < m → 0 ≤ deep → deep ≤ 25001 → Rep w (fun _ => True) f v →
  Calls Try.prog 13 #[v, .int .i64 deep] w fun e w' => IsVB deep f e ∧ Below w.heap.size w w'

set_option maxHeartbeats 1000000 in
theorem vastB_step (m : Nat) (ih : VastsB m) : VastsB (m + 1) := by
  intro f v deep w hm hd0 hd hrep; obtain ⟨k, n, ks⟩ := f; obtain ⟨sl, cap, rfl, hx1, hx2, hx3, hx4⟩ := Rep.def.1 hrep; (have HX : Hid (ks ≠ [] → ∃ b off, sl = some ⟨b, off, none⟩ ∧ True ∧ Reps w (fun _ => True) b off ks) := hx4); clear hx4; have hb0 : Below w.heap.size w (w.alloc (.cells #[.int .i64 k, .string n, .slice sl ks.length cap] 24 (0, 0))) := (Below.refl _ _).alloc (Nat.le_refl _) _; (have hlen : ((ks.length : Nat) : Int) ≤ 9223372036854775807 := by unfold maxLen at hx3; omega); by_cases h1 : 25000 < deep
  · go_enter Try.func13, Try.ntmps13
    go_wp2_with fail; go_ret; (exact ⟨⟨_, rfl, fun _ => by omega⟩, hb0⟩)
  · by_cases h2 : 25000 < ks.length
    · have h2' : (25000 : Int) < (ks.length : Int) := by omega
      go_enter Try.func13, Try.ntmps13
      go_wp2_with fail; go_ret; (refine ⟨⟨_, rfl, fun _ => ?_⟩, hb0⟩); have := len_sizesB ks; rw [Fm.size]; omega
    · have h2' : (ks.length : Int) ≤ 25000 := by omega
      (have h1' : deep ≤ 25000 := by omega); clear h1 h2
      go_enter Try.func13, Try.ntmps13
      go_wp2_with fail
      go_loopg [5] ks.length (fun g c wr => ∃ i, i ≤ ks.length ∧ g = ks.length - i ∧ c = .int .i64 (i : Nat) ∧ Below w.heap.size w wr ∧ wr.heap[w.heap.size]? = some (.cells #[.int .i64 k, .string n, .slice sl ks.length cap] 24 (0, 0)))
      case atStart => exact ⟨0, by omega, by omega, rfl, hb0, blk_new _ _⟩
      case round =>
        obtain ⟨i, hi, hg, rfl, hbr, q0⟩ := hrel; have HG : Hid (gk = ks.length - i) := hg; clear hg; have f2 := blk_cell q0 2; simp at f2; by_cases hlt : i < ks.length
        · obtain ⟨b, off, hsl, -, hrs⟩ := HX.out (fun e => by rw [e] at hlt; simp at hlt)
          subst hsl; obtain ⟨⟨k2, n2, ks2⟩, hki⟩ : ∃ f, ks[i]? = some f := ⟨_, List.getElem?_eq_getElem hlt⟩; obtain ⟨sl2, cap2, g0, g1, g2, hrep2⟩ := (hrs.up hbr).at i k2 n2 ks2 hki; (have hlt2 : (i : Int) < (ks.length : Int) := by omega); (have hsz : (Fm.mk k2 n2 ks2).size < m := by have := sizes_get hki; rw [Fm.size] at hm; omega); have z0 := lt_of_block q0; have zz := hbr.size; have HK : Hid ((Fm.mk k2 n2 ks2).size ≤ Fm.sizes ks) := sizes_get hki; clear hki hrs hrep HX hb0
          go_wp2_with (first
            | (go_at_call 13
               (refine (ih _ _ _ _ hsz (by omega) (by omega) hrep2).mono ?_); rintro e w1 ⟨⟨bb, rfl, hbb⟩, hb1⟩
               cases bb
               case' true =>
                 have HB : Hid (25000 < deep + 1 + ((Fm.mk k2 n2 ks2).size : Int)) := hbb rfl; clear hbb
               case' false => clear hbb)
            | fail)
          · have z1 := hb1.size
            go_roundg (ks.length - (i + 1))
            case measure => have := HG.out; omega
            case rel => exact ⟨i + 1, by omega, rfl, by go_num, hbr.trans (hb1.mono zz), (hb1.block _ z0).trans q0⟩
          · go_ret
            (refine ⟨⟨_, rfl, fun _ => ?_⟩, hbr.trans (hb1.mono zz)⟩); have h1 := HB.out; have h2 := HK.out; rw [Fm.size]; omega
        · go_wp2_with fail
          go_ret; (exact ⟨⟨_, rfl, fun h => (by cases h)⟩, hbr⟩)

theorem vastsB_all : ∀ m, VastsB m
  | 0 => fun _ _ _ _ h => absurd h (Nat.not_lt_zero _)
  | m + 1 => vastB_step m (vastsB_all m)

theorem vastB_no (f : Fm) (hs : f.size ≤ 20000) (v : Value) (w : World) (hrep : Rep w (fun _ => True) f v) :
    Calls Try.prog 13 #[v, .int .i64 0] w fun e w' => e = .returned (.bool false) ∧ Below w.heap.size w w' := by
  (refine (vastsB_all (f.size + 1) f v 0 w (Nat.lt_succ_self _) (by omega) (by omega) hrep).mono ?_); rintro e w' ⟨⟨b, rfl, hb⟩, h⟩
  cases b
  · exact ⟨rfl, h⟩
  · have := hb rfl; omega

set_option maxRecDepth 10000 in
set_option maxHeartbeats 4000000 in
theorem bfault_any (fs : List Fm) (hl : fs.length ≤ 10) (v : Value) (w : World) (hv : FL w v fs) :
    Calls Try.prog 16 #[v] w fun e w' => e = .returned (.agg #[.int .i64 (tgcode fs).1, .int .i64 (tgcode fs).2]) ∧ Below w.heap.size w w' := by
  (have hpf := fun v W h => plainR_any fs (by omega) v W h); have HV : Hid (FL w v fs) := hv; (have HF : Hid (∀ c a W, Calls Try.prog 19 #[.int .i64 c, .int .i64 a] W _) := fun c a W => mkF_any c a W); have hB0 := below_more (Below.refl _ w) (.cells #[.int .i64 0, .int .i64 0] 33 (0, 0)); by_cases hp : (pfirst fs).1 = 0
  · have hni := fun v W h => namesIn_list fs hl (fun f hf => (pc_fine (pfirst_all hp f hf)).2) v W h
    (have htc : tgcode fs = if 6 < (nmsF fs).length then (2, 0) else (0, 0) := by unfold tgcode; rw [if_pos hp]); have hp0 : pfirst fs = (0, 0) := pfirst_ok fs (pfirst_all hp); rw [hp0] at hpf; simp only at hpf; rw [htc]; generalize nmsF fs = U at *; have HP : Hid (∀ v W, FL W v fs → Calls Try.prog 46 #[v] W _) := hpf; have HN : Hid (∀ v W, FL W v fs → Calls Try.prog 17 #[v] W _) := hni; obtain ⟨ad, cap, rfl, -⟩ := hv; clear hpf hni htc hp hp0; by_cases h6 : 6 < U.length
    · rw [if_pos h6]
      (have h6I : (6 : Int) < (U.length : Int) := by omega); clear h6
      go_enter Try.func16, Try.ntmps16
      go_wp2_with fail; refine (HP.out _ _ (HV.out.up hB0)).mono ?_; rintro e w1 ⟨rfl, hb1⟩; have HQ : Hid (w1.heap[w.heap.size]? = some (.cells #[.int .i64 0, .int .i64 0] 33 (0, 0))) := below_keep hb1 (blk_new w _); have HB1 : Hid (Below w.heap.size w w1) := below_join hB0 hb1; have y0 := lt_of_block HQ.out; obtain ⟨k1, k2, k3, k4⟩ := blk2 HQ.out; clear hb1; go_wp2_with fail; refine (HN.out _ _ (HV.out.up (below_more HB1.out _))).mono ?_; rintro e w2 ⟨x, rfl, hx, hb2⟩; obtain ⟨adx, cpx, rfl, -⟩ := hx; have HQ2 : Hid (w2.heap[w.heap.size]? = some (.cells #[.int .i64 0, .int .i64 0] 33 (0, 0))) := below_keep hb2 (alloc_keep HQ.out _); have HR2 : Hid (w2.heap[w1.heap.size]? = some (.cells #[.int .i64 0, .int .i64 0] 33 (0, 0))) := below_keep hb2 (blk_new w1 _); have HB2 : Hid (Below w.heap.size w w2) := below_join (below_more HB1.out _) hb2; clear hb2 k1 k2 k3 k4; go_wp2_with fail; refine (HF.out _ _ _).mono ?_; rintro e w3 ⟨rfl, hb3⟩; have q3 := below_keep hb3 HQ2.out; have r3 := below_keep hb3 HR2.out; have B3 := below_join HB2.out hb3; have y1 := HB1.out.size; (have ne : w1.heap.size ≠ w.heap.size := by omega); obtain ⟨k1, k2, k3, k4⟩ := blk2 q3; obtain ⟨m1, m2, m3, m4⟩ := blk2 r3; clear hb3; have nn1 : ¬ w1.heap.size = w.heap.size := ne; (have nn2 : ¬ w.heap.size = w1.heap.size := fun e => ne e.symm); have s3 := set2 r3 (.int .i64 2) (.int .i64 0); (have t3 := (far2 (W := w3) (r := w1.heap.size) (x := w.heap.size) (by omega) (.int .i64 2) (.int .i64 0)).trans q3); (have B4 := below_put2 (w := w) (r := w1.heap.size) (by omega) B3 (.int .i64 2) (.int .i64 0)); have s4 := set2 t3 (.int .i64 2) (.int .i64 0); (have B5 := below_put2 (w := w) (r := w.heap.size) (by omega) B4 (.int .i64 2) (.int .i64 0)); go_wp2_with fail; generalize World.setCell _ _ _ = F at s4 B5 ⊢; obtain ⟨o1, o2, -⟩ := blk2 s4; (exact bodyPost_ret (v := .agg #[.int .i64 2, .int .i64 0]) (by simp [results, Try.results16, go_sem, o1, o2]) rfl ⟨rfl, B5⟩)
    · rw [if_neg h6]
      (have h6I : ¬ (6 : Int) < (U.length : Int) := by omega); clear h6
      go_enter Try.func16, Try.ntmps16
      go_wp2_with fail; refine (HP.out _ _ (HV.out.up hB0)).mono ?_; rintro e w1 ⟨rfl, hb1⟩; have HQ : Hid (w1.heap[w.heap.size]? = some (.cells #[.int .i64 0, .int .i64 0] 33 (0, 0))) := below_keep hb1 (blk_new w _); have HB1 : Hid (Below w.heap.size w w1) := below_join hB0 hb1; have y0 := lt_of_block HQ.out; obtain ⟨k1, k2, k3, k4⟩ := blk2 HQ.out; clear hb1; go_wp2_with fail; refine (HN.out _ _ (HV.out.up (below_more HB1.out _))).mono ?_; rintro e w2 ⟨x, rfl, hx, hb2⟩; obtain ⟨adx, cpx, rfl, -⟩ := hx; have HQ2 : Hid (w2.heap[w.heap.size]? = some (.cells #[.int .i64 0, .int .i64 0] 33 (0, 0))) := below_keep hb2 (alloc_keep HQ.out _); have r2 := below_keep hb2 (blk_new w1 (.cells #[.int .i64 0, .int .i64 0] 33 (0, 0))); have B2 := below_join (below_more HB1.out _) hb2; clear hb2 k1 k2 k3 k4; obtain ⟨k1, k2, k3, k4⟩ := blk2 HQ2.out; obtain ⟨m1, m2, m3, m4⟩ := blk2 r2; have s4 := set2 HQ2.out (.int .i64 0) (.int .i64 0); (have B5 := below_put2 (w := w) (r := w.heap.size) (by omega) B2 (.int .i64 0) (.int .i64 0)); go_wp2_with fail; generalize World.setCell _ _ _ = F at s4 B5 ⊢; obtain ⟨o1, o2, -⟩ := blk2 s4; (exact bodyPost_ret (v := .agg #[.int .i64 0, .int .i64 0]) (by simp [results, Try.results16, go_sem, o1, o2]) rfl ⟨rfl, B5⟩)
  · have htc : tgcode fs = pfirst fs := by unfold tgcode; rw [if_neg hp]
    rw [htc]; generalize pfirst fs = pf at *; obtain ⟨c, d⟩ := pf; simp only at hp hpf ⊢; have HP : Hid (∀ v W, FL W v fs → Calls Try.prog 46 #[v] W _) := hpf; obtain ⟨ad, cap, rfl, -⟩ := hv; (have hcn : (c == 0) = false := by simpa using hp); clear hpf htc
    go_enter Try.func16, Try.ntmps16
    go_wp2_with fail; refine (HP.out _ _ (HV.out.up hB0)).mono ?_; rintro e w1 ⟨rfl, hb1⟩; have HQ : Hid (w1.heap[w.heap.size]? = some (.cells #[.int .i64 0, .int .i64 0] 33 (0, 0))) := below_keep hb1 (blk_new w _); have HB1 : Hid (Below w.heap.size w w1) := below_join hB0 hb1; have y0 := lt_of_block HQ.out; obtain ⟨k1, k2, k3, k4⟩ := blk2 HQ.out; clear hb1; have s4 := alloc_keep (set2 HQ.out (.int .i64 c) (.int .i64 d)) (.cells #[.int .i64 c, .int .i64 d] 33 (0, 0)); (have B5 := below_more (below_put2 (w := w) (r := w.heap.size) (by omega) HB1.out (.int .i64 c) (.int .i64 d)) (.cells #[.int .i64 c, .int .i64 d] 33 (0, 0))); go_wp2_with fail; generalize World.alloc _ _ = F at s4 B5 ⊢; obtain ⟨o1, o2, -⟩ := blk2 s4; (exact bodyPost_ret (v := .agg #[.int .i64 c, .int .i64 d]) (by simp [results, Try.results16, go_sem, o1, o2]) rfl ⟨rfl, B5⟩)
end Go.Proofs.Ytffkoiemnchdgae
/- Walks: the laws' own helper between formulas: plainAnswer says yes of what is made well. -/
namespace Go.Proofs.Ytffkoiemnchdgae
open Go.RowKit Go.Sort

theorem frame_midB {ops : Array Oper} {tm : Array Value} {df : List Deferred} {a0 : Act} (lo n : Nat) (hin : (ops.toList.all fun o => match o.dst with | some d => decide (lo ≤ d ∧ lo + n > d) | none => true) = true) (hlen : lo + n ≤ a0.tmps.size) (h : OldSlots ops a0 ⟨tm, df⟩) : ∃ ys : List Value, ys.length = n ∧ tm = ⟨a0.tmps.toList.take lo ++ (ys ++ a0.tmps.toList.drop (lo + n))⟩ ∧ df = a0.defers := by
  obtain ⟨h1, h2, h3⟩ := h; have h1' : tm.toList.length = a0.tmps.toList.length := h1; have hl : lo + n ≤ a0.tmps.toList.length := hlen
  have old : ∀ t, (t < lo ∨ lo + n ≤ t) → tm.toList[t]? = a0.tmps.toList[t]? := fun t ht => by
    have := h3 t (by
      rw [List.all_eq_true] at hin ⊢; intro o ho; have := hin o ho
      cases hd : o.dst with
      | none => rfl
      | some d =>
        rw [hd] at this; have := of_decide_eq_true this; (refine bne_iff_ne.2 fun e => ?_); have e2 : d = t := Option.some.inj e; subst e2
        omega)
    simpa using this
  (refine ⟨(tm.toList.drop lo).take n, by rw [List.length_take, List.length_drop]; omega, ?_, h2⟩); apply Array.ext'; apply List.ext_getElem?; intro t
  rcases Nat.lt_or_ge t lo with ht | ht
  · rw [List.getElem?_append_left (by rw [List.length_take]; omega), List.getElem?_take_of_lt ht]
    exact old t (Or.inl ht)
  · rw [List.getElem?_append_right (by rw [List.length_take]; omega), List.length_take, Nat.min_eq_left (by omega)]
    rcases Nat.lt_or_ge t (lo + n) with ht2 | ht2
    · rw [List.getElem?_append_left (by rw [List.length_take, List.length_drop]; omega), List.getElem?_take_of_lt (by omega), List.getElem?_drop]
      congr 1
      omega
    · rw [List.getElem?_append_right (by rw [List.length_take, List.length_drop]; omega), List.length_take, List.length_drop, Nat.min_eq_left (by omega), List.getElem?_drop, old t (Or.inr ht2)]
      congr 1
      omega
theorem rowB29 (l : List Value) (h0 : l.length = 29) : ∃ x0 x1 x2 x3 x4 x5 x6 x7 x8 x9 x10 x11 x12 x13 x14 x15 x16 x17 x18 x19 x20 x21 x22 x23 x24 x25 x26 x27 x28, l = [x0, x1, x2, x3, x4, x5, x6, x7, x8, x9, x10, x11, x12, x13, x14, x15, x16, x17, x18, x19, x20, x21, x22, x23, x24, x25, x26, x27, x28] := by
  obtain ⟨x0, l1, e0, h1⟩ := cons_lenB h0; obtain ⟨x1, l2, e1, h2⟩ := cons_lenB h1; obtain ⟨x2, l3, e2, h3⟩ := cons_lenB h2; obtain ⟨x3, l4, e3, h4⟩ := cons_lenB h3; obtain ⟨x4, l5, e4, h5⟩ := cons_lenB h4; obtain ⟨x5, l6, e5, h6⟩ := cons_lenB h5; obtain ⟨x6, l7, e6, h7⟩ := cons_lenB h6; obtain ⟨x7, l8, e7, h8⟩ := cons_lenB h7; obtain ⟨x8, l9, e8, h9⟩ := cons_lenB h8; obtain ⟨x9, l10, e9, h10⟩ := cons_lenB h9; obtain ⟨x10, l11, e10, h11⟩ := cons_lenB h10; obtain ⟨x11, l12, e11, h12⟩ := cons_lenB h11; obtain ⟨x12, l13, e12, h13⟩ := cons_lenB h12; obtain ⟨x13, l14, e13, h14⟩ := cons_lenB h13; obtain ⟨x14, l15, e14, h15⟩ := cons_lenB h14; obtain ⟨x15, l16, e15, h16⟩ := cons_lenB h15; obtain ⟨x16, l17, e16, h17⟩ := cons_lenB h16; obtain ⟨x17, l18, e17, h18⟩ := cons_lenB h17; obtain ⟨x18, l19, e18, h19⟩ := cons_lenB h18; obtain ⟨x19, l20, e19, h20⟩ := cons_lenB h19; obtain ⟨x20, l21, e20, h21⟩ := cons_lenB h20; obtain ⟨x21, l22, e21, h22⟩ := cons_lenB h21; obtain ⟨x22, l23, e22, h23⟩ := cons_lenB h22; obtain ⟨x23, l24, e23, h24⟩ := cons_lenB h23; obtain ⟨x24, l25, e24, h25⟩ := cons_lenB h24; obtain ⟨x25, l26, e25, h26⟩ := cons_lenB h25; obtain ⟨x26, l27, e26, h27⟩ := cons_lenB h26; obtain ⟨x27, l28, e27, h28⟩ := cons_lenB h27; obtain ⟨x28, l29, e28, h29⟩ := cons_lenB h28; have e29 : l29 = [] := List.length_eq_zero_iff.1 h29; subst e29 e28 e27 e26 e25 e24 e23 e22 e21 e20 e19 e18 e17 e16 e15 e14 e13 e12 e11 e10 e9 e8 e7 e6 e5 e4 e3 e2 e1 e0; exact ⟨x0, x1, x2, x3, x4, x5, x6, x7, x8, x9, x10, x11, x12, x13, x14, x15, x16, x17, x18, x19, x20, x21, x22, x23, x24, x25, x26, x27, x28, rfl⟩
theorem LO.reps3 {A B : Nat} {w : World} {v : Value} {fs : List Fm} (h : LO A B w v fs) : ∃ g cap, v = .slice (some ⟨g, 0, none⟩) fs.length cap ∧ fs.length ≤ cap ∧ ∀ (j : Nat) (k : Int) (n : ByteArray) (ks : List Fm), fs[j]? = some (.mk k n ks) → ∃ sl cp, w.cell? ⟨g, j * 3, none⟩ = some (.int .i64 k) ∧ w.cell? ⟨g, j * 3 + 1, none⟩ = some (.string n) ∧ w.cell? ⟨g, j * 3 + 2, none⟩ = some (.slice sl ks.length cp) := by
  obtain ⟨g, cap, rfl, h1, h2, hr⟩ := h.reps; (refine ⟨g, cap, rfl, h1, fun j k n ks hj => ?_⟩); obtain ⟨sl, cp, p0, p1, p2, -⟩ := hr.at j k n ks hj; rw [Nat.zero_add] at p0 p1 p2; exact ⟨sl, cp, p0, p1, p2⟩
/-- What is known of the nodes of a formula that is made well. -/
theorem allN_made {l : List (List UInt8)} : ∀ (m : Nat) (f : Fm), f.size ≤ m → Fine f → Plain f → (∀ t ∈ nmsT f, t ∈ l) → ∀ k n ks, Fm.mk k n ks ∈ allN f → 1 ≤ k ∧ k ≤ 7 ∧ kindB k = true ∧ kidsN k = (ks.length : Int) ∧ (k = 1 → n.data.toList ∈ l) ∧ (k ≠ 1 → n = ⟨#[]⟩)
  | m, f, hm, hf, hp, hn, k, n, ks, hx => by
    (have hs : Fm.mk k n ks ∈ allN f → Fine (.mk k n ks) := fun h => fine_nodes f hf _ h); have hfi := hs hx; have hpl : isM k = false := (plain_iff f).1 hp _ hx
    have hnm : k = 1 → n.data.toList ∈ l := fun e => hn _ (by
      subst e; unfold nmsT
      exact List.mem_map.2 ⟨n, (nmsOf_mem _ _).2 ⟨ks, hx⟩, rfl⟩)
    rcases hfi.forms with ⟨m', e, -⟩ | e | e | ⟨k', g', h1, e, -⟩ | ⟨k', g', g'', h1, e, -⟩
    · cases e; exact ⟨by omega, by omega, by decide, by decide, hnm, fun h => absurd rfl h⟩
    · cases e; exact ⟨by omega, by omega, by decide, by decide, hnm, fun _ => rfl⟩
    · cases e; exact ⟨by omega, by omega, by decide, by decide, hnm, fun _ => rfl⟩
    · cases e
      have : k = 4 := by
        rcases h1 with rfl | rfl | rfl
        · rfl
        · cases hpl
        · cases hpl
      subst this; (exact ⟨by omega, by omega, by decide, rfl, hnm, fun _ => rfl⟩)
    · cases e
      rcases h1 with rfl | rfl | rfl
      · exact ⟨by omega, by omega, by decide, rfl, hnm, fun _ => rfl⟩
      · exact ⟨by omega, by omega, by decide, rfl, hnm, fun _ => rfl⟩
      · exact ⟨by omega, by omega, by decide, rfl, hnm, fun _ => rfl⟩

set_option maxRecDepth 10000 in
set_option maxHeartbeats 8000000 in
theorem plainAns_any (f : Fm) (l names : List (List UInt8)) (s : Nat) (hm : MadeF l s f) (hs : s ≤ 10000) (hl : ∀ t ∈ l, t ∈ names) (v u : Value) (w : World) (hrep : Rep w (fun _ => True) f v) (hu : SL w u names) :
    Calls Try.prog 21 #[v, u] w fun e w' => e = .returned (.bool true) ∧ Below w.heap.size w w' := by
  have hsz : f.size ≤ 10000 := Nat.le_trans hm.size hs; (have hwk := fun v w h => walk_any f v 20001 w (by omega) h); (rw [walkL_take, List.take_of_length_le (by rw [allN_len]; omega)] at hwk); (have hno := fun v W h => vastB_no f (by omega) v W h); (have HA : Hid (∀ k n ks, Fm.mk k n ks ∈ allN f → 1 ≤ k ∧ k ≤ 7 ∧ kindB k = true ∧ kidsN k = (ks.length : Int) ∧ (k = 1 → n.data.toList ∈ names) ∧ (k ≠ 1 → n = ⟨#[]⟩)) := fun k n ks h => allN_made f.size f (Nat.le_refl _) hm.fine hm.plain (fun t ht => hl t (hm.names t ht)) k n ks h); (have hNl : (allN f).length ≤ 10000 := by rw [allN_len]; exact hsz); generalize allN f = nodes at *; obtain ⟨k0, n0, ks0⟩ := f; obtain ⟨sl0, cap0, rfl⟩ := slice_shape hrep; (have HR : Hid (Rep w (fun _ => True) (.mk k0 n0 ks0) (.agg #[.int .i64 k0, .string n0, .slice sl0 ks0.length cap0])) := hrep); have HU : Hid (SL w u names) := hu; (have HW : Hid (∀ v w, Rep w (fun _ => True) (.mk k0 n0 ks0) v → Calls Try.prog 47 #[v, .int .i64 ((20001 : Nat) : Int)] w _) := hwk); (have HV : Hid (∀ v w, Rep w (fun _ => True) (.mk k0 n0 ks0) v → Calls Try.prog 13 #[v, .int .i64 0] w _) := hno); obtain ⟨adn, cpn, rfl, -⟩ := hu; (have hNI : (nodes.length : Int) ≤ 10000 := by omega); have hB0 := below_more (Below.refl _ w) (.cells #[.int .i64 k0, .string n0, .slice sl0 ks0.length cap0] 24 (0, 0)); clear hwk hno hrep hm hs hl hsz hNl
  go_enter Try.func21, Try.ntmps21
  go_wp2_with fail; refine (HV.out _ _ (HR.out.up hB0)).mono ?_; rintro e w1 ⟨rfl, hb1⟩; have HQ1 : Hid (w1.heap[w.heap.size]? = some (.cells #[.int .i64 k0, .string n0, .slice sl0 ks0.length cap0] 24 (0, 0))) := below_keep hb1 (blk_new w _); have HB1 : Hid (Below w.heap.size w w1) := below_join hB0 hb1; obtain ⟨a0, a1, a2, -⟩ := blk3 HQ1.out; clear hb1 hB0; go_wp2_with fail; refine (HW.out _ _ (HR.out.up HB1.out)).mono ?_; rintro e w2 ⟨x, rfl, hlo, hb2⟩; obtain ⟨g, cp, rfl, hgc, hcs⟩ := hlo.reps3; have HC : Hid (∀ (j : Nat) (k : Int) (n : ByteArray) (ks : List Fm), nodes[j]? = some (.mk k n ks) → ∃ sl cp, w2.cell? ⟨g, j * 3, none⟩ = some (.int .i64 k) ∧ w2.cell? ⟨g, j * 3 + 1, none⟩ = some (.string n) ∧ w2.cell? ⟨g, j * 3 + 2, none⟩ = some (.slice sl ks.length cp)) := hcs; have HB2 : Hid (Below w.heap.size w w2) := below_join HB1.out hb2; (have hgI : (nodes.length : Int) ≤ (cp : Int) := by omega); clear hlo hb2 hcs a0 a1 a2 hgc; go_wp2_with fail
  go_loopg [6] nodes.length (fun gg c wr => ∃ j, j ≤ nodes.length ∧ gg = nodes.length - j ∧ c = .int .i64 (j : Nat) ∧ Hid (Below w2.heap.size w2 wr))
  case atStart => exact ⟨0, by omega, by omega, rfl, Below.refl _ _⟩
  case round =>
    obtain ⟨j, hj, hg, rfl, HBr⟩ := hrel; have HG : Hid (gk = nodes.length - j) := hg; clear hg; by_cases hlt : j < nodes.length
    · obtain ⟨⟨k, n, ks⟩, hki⟩ : ∃ f, nodes[j]? = some f := ⟨_, List.getElem?_eq_getElem hlt⟩
      obtain ⟨sl, cap, p0, p1, p2⟩ := HC.out j k n ks hki; have zg := lt_of_cell p0; simp only at zg
      have HN : Hid (∀ wx, Below wr.heap.size wr wx → wx.cell? ⟨g, j * 3, none⟩ = some (.int .i64 k) ∧ wx.cell? ⟨g, j * 3 + 1, none⟩ = some (.string n) ∧ wx.cell? ⟨g, j * 3 + 2, none⟩ = some (.slice sl ks.length cap)) := fun wx hb => by
        have hbb := below_join HBr.out hb; exact ⟨(hbb.cell (p := ⟨g, j * 3, none⟩) zg).trans p0, (hbb.cell (p := ⟨g, j * 3 + 1, none⟩) zg).trans p1, (hbb.cell (p := ⟨g, j * 3 + 2, none⟩) zg).trans p2⟩
      (have HSl : Hid (∀ wx, Below wr.heap.size wr wx → SL wx (.slice adn names.length cpn) names) := fun wx hb => HU.out.up (below_join (below_join HB2.out HBr.out) hb)); obtain ⟨hk1, hk7, hkb, hkn, hmm, hm2⟩ := HA.out k n ks (List.mem_of_getElem? hki); have HM : Hid (k = 1 → n.data.toList ∈ names) := hmm; have HM2 : Hid (k ≠ 1 → n = ⟨#[]⟩) := hm2
      have HAr : Hid (∀ wx, Calls Try.prog 48 #[.int .i64 k] wx fun e w' => e = .returned (.int .i64 (ks.length : Nat)) ∧ Below wx.heap.size wx w') := fun wx => by
        have := arity_any k wx; rw [if_pos hkb, hkn] at this; exact this
      (have hn1 : ¬ k < 1 := by omega); (have hn7 : ¬ 7 < k := by omega); have HJ : Hid (j < nodes.length) := hlt; (have hltI : (j : Int) < (nodes.length : Int) := by omega); (have hlc : (j : Int) < (cp : Int) := by omega); clear p0 p1 p2 hki hlt hj hk1 hk7 hkb hkn hmm hm2 zg; go_wp2_with fail; (refine wp_region_free (by kernel_rfl) [kE (.slice (some ⟨g, 0, none⟩) nodes.length cp), kE (.int .i64 (j : Nat)), kE (.pointer (some ⟨g, j * 3, none⟩)), kE (.pointer (some ⟨g, j * 3, none⟩)), kE (.int .i64 k), kE (.bool false), kE (.bool false), kE (.slice (some ⟨g, 0, none⟩) nodes.length cp), kE (.int .i64 (j : Nat)), kE (.pointer (some ⟨g, j * 3, none⟩)), kE (.pointer (some ⟨g, j * 3, none⟩)), kE (.int .i64 k), kE (.bool false), kE (.bool false), kE (.bool false), kE (.slice (some ⟨g, 0, none⟩) nodes.length cp), kE (.int .i64 (j : Nat)), kE (.pointer (some ⟨g, j * 3, none⟩)), kE (.pointer (some ⟨g, j * 3 + 2, none⟩)), kE (.slice sl ks.length cap), kE (.int .i64 (ks.length : Nat)), kE (.slice (some ⟨g, 0, none⟩) nodes.length cp), kE (.int .i64 (j : Nat)), kE (.pointer (some ⟨g, j * 3, none⟩)), kE (.pointer (some ⟨g, j * 3, none⟩)), kE (.int .i64 k), kE (.int .i64 (ks.length : Nat)), kE (.bool false), kE (.bool false)] ?_ (by kernel_rfl) (by kernel_rfl) 81 rfl (by kernel_rfl) ?_ ?_)
      · intro p hp
        simp only [List.mem_cons, List.not_mem_nil, or_false] at hp
        rcases hp with rfl | rfl | rfl | rfl | rfl | rfl | rfl | rfl | rfl | rfl | rfl | rfl | rfl | rfl | rfl | rfl | rfl | rfl | rfl | rfl | rfl | rfl | rfl | rfl | rfl | rfl | rfl | rfl | rfl
        all_goals first | exact kE_stays _ | exact kN_stays
      · refine ⟨?_, ?_, ?_, ?_, ?_, ?_, ?_, ?_, ?_, ?_, ?_, ?_, ?_, ?_, ?_, ?_, ?_, ?_, ?_, ?_, ?_, ?_, ?_, ?_, ?_, ?_, ?_, ?_, ?_, trivial⟩
        · intro a wx hB hold hdep K hK; have t5 : a.tmps[5]? = some (.slice (some ⟨g, 0, none⟩) nodes.length cp) := hold.2.2 5 rfl; clear hold hdep; go_simp; exact hK.out _ _ rfl (Below.refl _ _)
        · intro a wx hB hold hdep K hK; have t6 : a.tmps[6]? = some (.int .i64 (j : Nat)) := hold.2.2 6 rfl; clear hold hdep; go_simp; exact hK.out _ _ rfl (Below.refl _ _)
        · intro a wx hB hold hdep K hK; have t20 := dep_e wx (hdep 0 rfl _ 20 rfl rfl); have t21 := dep_e wx (hdep 1 rfl _ 21 rfl rfl); clear hold hdep; go_simp; exact hK.out _ _ rfl (Below.refl _ _)
        · intro a wx hB hold hdep K hK; have t22 := dep_e wx (hdep 2 rfl _ 22 rfl rfl); clear hold hdep; go_simp; exact hK.out _ _ rfl (Below.refl _ _)
        · intro a wx hB hold hdep K hK; have t23 := dep_e wx (hdep 3 rfl _ 23 rfl rfl); obtain ⟨c0, c1, c2⟩ := HN.out wx hB; clear hold hdep; go_simp; exact hK.out _ _ rfl (Below.refl _ _)
        · intro a wx hB hold hdep K hK; have t24 := dep_e wx (hdep 4 rfl _ 24 rfl rfl); clear hold hdep; go_simp; exact hK.out _ _ (show Value.bool (decide (k < 1)) = _ from congrArg Value.bool (decide_eq_false (by omega))) (Below.refl _ _)
        · intro a wx hB hold hdep K hK; have t25 := dep_e wx (hdep 5 rfl _ 25 rfl rfl); clear hold hdep; go_simp; exact hK.out _ _ rfl (Below.refl _ _)
        · intro a wx hB hold hdep K hK; have t26 := dep_e wx (hdep 6 rfl _ 26 rfl rfl); have t5 : a.tmps[5]? = some (.slice (some ⟨g, 0, none⟩) nodes.length cp) := hold.2.2 5 rfl; clear hold hdep; go_simp; exact hK.out _ _ rfl (Below.refl _ _)
        · intro a wx hB hold hdep K hK; have t26 := dep_e wx (hdep 6 rfl _ 26 rfl rfl); have t6 : a.tmps[6]? = some (.int .i64 (j : Nat)) := hold.2.2 6 rfl; clear hold hdep; go_simp; exact hK.out _ _ rfl (Below.refl _ _)
        · intro a wx hB hold hdep K hK; have t26 := dep_e wx (hdep 6 rfl _ 26 rfl rfl); have t27 := dep_e wx (hdep 7 rfl _ 27 rfl rfl); have t28 := dep_e wx (hdep 8 rfl _ 28 rfl rfl); clear hold hdep; go_simp; exact hK.out _ _ rfl (Below.refl _ _)
        · intro a wx hB hold hdep K hK; have t26 := dep_e wx (hdep 6 rfl _ 26 rfl rfl); have t29 := dep_e wx (hdep 9 rfl _ 29 rfl rfl); clear hold hdep; go_simp; exact hK.out _ _ rfl (Below.refl _ _)
        · intro a wx hB hold hdep K hK; have t26 := dep_e wx (hdep 6 rfl _ 26 rfl rfl); have t30 := dep_e wx (hdep 10 rfl _ 30 rfl rfl); obtain ⟨c0, c1, c2⟩ := HN.out wx hB; clear hold hdep; go_simp; exact hK.out _ _ rfl (Below.refl _ _)
        · intro a wx hB hold hdep K hK; have t26 := dep_e wx (hdep 6 rfl _ 26 rfl rfl); have t31 := dep_e wx (hdep 11 rfl _ 31 rfl rfl); clear hold hdep; go_simp; exact hK.out _ _ (show Value.bool (decide (7 < k)) = _ from congrArg Value.bool (decide_eq_false (by omega))) (Below.refl _ _)
        · intro a wx hB hold hdep K hK; have t26 := dep_e wx (hdep 6 rfl _ 26 rfl rfl); have t32 := dep_e wx (hdep 12 rfl _ 32 rfl rfl); clear hold hdep; go_simp; exact hK.out _ _ rfl (Below.refl _ _)
        · intro a wx hB hold hdep K hK; have t33 := dep_e wx (hdep 13 rfl _ 33 rfl rfl); clear hold hdep; go_simp; exact hK.out _ _ rfl (Below.refl _ _)
        · intro a wx hB hold hdep K hK; have t34 := dep_e wx (hdep 14 rfl _ 34 rfl rfl); have t5 : a.tmps[5]? = some (.slice (some ⟨g, 0, none⟩) nodes.length cp) := hold.2.2 5 rfl; clear hold hdep; go_simp; exact hK.out _ _ rfl (Below.refl _ _)
        · intro a wx hB hold hdep K hK; have t34 := dep_e wx (hdep 14 rfl _ 34 rfl rfl); have t6 : a.tmps[6]? = some (.int .i64 (j : Nat)) := hold.2.2 6 rfl; clear hold hdep; go_simp; exact hK.out _ _ rfl (Below.refl _ _)
        · intro a wx hB hold hdep K hK; have t34 := dep_e wx (hdep 14 rfl _ 34 rfl rfl); have t35 := dep_e wx (hdep 15 rfl _ 35 rfl rfl); have t36 := dep_e wx (hdep 16 rfl _ 36 rfl rfl); clear hold hdep; go_simp; exact hK.out _ _ rfl (Below.refl _ _)
        · intro a wx hB hold hdep K hK; have t34 := dep_e wx (hdep 14 rfl _ 34 rfl rfl); have t37 := dep_e wx (hdep 17 rfl _ 37 rfl rfl); clear hold hdep; go_simp; exact hK.out _ _ rfl (Below.refl _ _)
        · intro a wx hB hold hdep K hK; have t34 := dep_e wx (hdep 14 rfl _ 34 rfl rfl); have t38 := dep_e wx (hdep 18 rfl _ 38 rfl rfl); obtain ⟨c0, c1, c2⟩ := HN.out wx hB; clear hold hdep; go_simp; exact hK.out _ _ rfl (Below.refl _ _)
        · intro a wx hB hold hdep K hK; have t34 := dep_e wx (hdep 14 rfl _ 34 rfl rfl); have t39 := dep_e wx (hdep 19 rfl _ 39 rfl rfl); clear hold hdep; go_simp; exact hK.out _ _ rfl (Below.refl _ _)
        · intro a wx hB hold hdep K hK; have t34 := dep_e wx (hdep 14 rfl _ 34 rfl rfl); have t5 : a.tmps[5]? = some (.slice (some ⟨g, 0, none⟩) nodes.length cp) := hold.2.2 5 rfl; clear hold hdep; go_simp; exact hK.out _ _ rfl (Below.refl _ _)
        · intro a wx hB hold hdep K hK; have t34 := dep_e wx (hdep 14 rfl _ 34 rfl rfl); have t6 : a.tmps[6]? = some (.int .i64 (j : Nat)) := hold.2.2 6 rfl; clear hold hdep; go_simp; exact hK.out _ _ rfl (Below.refl _ _)
        · intro a wx hB hold hdep K hK; have t34 := dep_e wx (hdep 14 rfl _ 34 rfl rfl); have t41 := dep_e wx (hdep 21 rfl _ 41 rfl rfl); have t42 := dep_e wx (hdep 22 rfl _ 42 rfl rfl); clear hold hdep; go_simp; exact hK.out _ _ rfl (Below.refl _ _)
        · intro a wx hB hold hdep K hK; have t34 := dep_e wx (hdep 14 rfl _ 34 rfl rfl); have t43 := dep_e wx (hdep 23 rfl _ 43 rfl rfl); clear hold hdep; go_simp; exact hK.out _ _ rfl (Below.refl _ _)
        · intro a wx hB hold hdep K hK; have t34 := dep_e wx (hdep 14 rfl _ 34 rfl rfl); have t44 := dep_e wx (hdep 24 rfl _ 44 rfl rfl); obtain ⟨c0, c1, c2⟩ := HN.out wx hB; clear hold hdep; go_simp; exact hK.out _ _ rfl (Below.refl _ _)
        · intro a wx hB hold hdep K hK; have t34 := dep_e wx (hdep 14 rfl _ 34 rfl rfl); have t45 := dep_e wx (hdep 25 rfl _ 45 rfl rfl); clear hold hdep; go_simp; refine (HAr.out wx).mono ?_; rintro e w1 ⟨rfl, hb1⟩; exact hK.out _ _ rfl hb1
        · intro a wx hB hold hdep K hK; have t34 := dep_e wx (hdep 14 rfl _ 34 rfl rfl); have t40 := dep_e wx (hdep 20 rfl _ 40 rfl rfl); have t46 := dep_e wx (hdep 26 rfl _ 46 rfl rfl); clear hold hdep; go_simp; exact hK.out _ _ rfl (Below.refl _ _)
        · intro a wx hB hold hdep K hK; have t34 := dep_e wx (hdep 14 rfl _ 34 rfl rfl); have t47 := dep_e wx (hdep 27 rfl _ 47 rfl rfl); clear hold hdep; go_simp; exact hK.out _ _ rfl (Below.refl _ _)
      · intro a wx hB hold hgot
        (obtain ⟨v48, t48, p48⟩ := hgot 28 _ 48 rfl rfl; have e48 : v48 = (.bool false) := p48; subst e48; obtain ⟨tm, df⟩ := a; obtain ⟨ys, hys, htm, rfl⟩ := frame_midB 20 29 (by kernel_rfl) (Nat.le_of_ble_eq_true rfl) hold; obtain ⟨x20, x21, x22, x23, x24, x25, x26, x27, x28, x29, x30, x31, x32, x33, x34, x35, x36, x37, x38, x39, x40, x41, x42, x43, x44, x45, x46, x47, x48, rfl⟩ := rowB29 ys hys; simp only [List.take_succ_cons, List.take_zero, List.drop_succ_cons, List.drop_zero, List.cons_append, List.nil_append] at htm; subst htm; obtain rfl : x48 = _ := Option.some.inj t48; have HBx : Hid (Below wr.heap.size wr wx) := hB; obtain ⟨c0, c1, c2⟩ := HN.out wx hB; clear hys hold hgot t48 p48 hB; by_cases hk1 : k = 1)
        · subst hk1
          have HHt : Hid (Calls Try.prog 29 #[.slice adn names.length cpn, .string ⟨n.data.toList.toArray⟩] wx _) := hasText_sl names n.data.toList _ wx (HSl.out wx HBx.out); rw [decide_eq_true (HM.out rfl)] at HHt; have hnn : (⟨n.data.toList.toArray⟩ : ByteArray) = n := rfl; rw [hnn] at HHt; clear hnn; go_wp2_with fail; refine HHt.out.mono ?_; rintro e w1 ⟨rfl, hw1⟩; have hw2 := hw1.symm; subst hw2; go_wp2_with fail
          go_roundg (nodes.length - (j + 1))
          case measure => have := HG.out; have := HJ.out; omega
          case rel => exact ⟨j + 1, HJ.out, rfl, by go_num, below_join HBr.out HBx.out⟩
        · have hkb : (k == 1) = false := by simpa using hk1
          (have hkn : (k != 1) = true := by simpa using hk1); have hnz := HM2.out hk1; subst hnz; clear hk1; go_wp2_with fail
          go_roundg (nodes.length - (j + 1))
          case measure => have := HG.out; have := HJ.out; omega
          case rel => exact ⟨j + 1, HJ.out, rfl, by go_num, below_join HBr.out HBx.out⟩
    · have hge : ¬ (j : Int) < (nodes.length : Int) := by omega
      clear hlt; go_wp2_with fail; go_ret; exact ⟨rfl, below_join HB2.out HBr.out⟩
end Go.Proofs.Ytffkoiemnchdgae
