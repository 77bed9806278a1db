/- Texts of one proof, one behind the other: BWB, BL3. -/
import Derived.Test.YtffkoiemnchdgaeB35
import Derived.Test.YtffkoiemnchdgaeB30
import Derived.Test.YtffkoiemnchdgaeB23
import Derived.Test.YtffkoiemnchdgaeB14
import Derived.Test.YtffkoiemnchdgaeB24
/- Walks: Interpolate. -/
namespace Go.Proofs.Ytffkoiemnchdgae
open Go.RowKit Go.Sort

theorem FL.pair2 {w : World} {b : Nat} {f g : Fm} {c0 c1 c2 c3 c4 c5 : Value} {T : TypeId} (hb : w.heap[b]? = some (.cells #[c0, c1, c2, c3, c4, c5] T (0, 0))) (h1 : Rep w (fun _ => True) f (.agg #[c0, c1, c2])) (h2 : Rep w (fun _ => True) g (.agg #[c3, c4, c5])) : FL w (.slice (some ⟨b, 0, none⟩) 2 2) [f, g] :=
  ⟨_, 2, rfl, Nat.le_refl _, by simp [maxLen], fun _ => ⟨b, 0, rfl, Reps.cons.2 ⟨⟨c0, c1, c2, blk_cell hb 0, blk_cell hb 1, blk_cell hb 2, h1⟩, Reps.cons.2 ⟨⟨c3, c4, c5, blk_cell hb 3, blk_cell hb 4, blk_cell hb 5, h2⟩, Reps.nil⟩⟩⟩⟩
set_option maxRecDepth 10000 in
set_option maxHeartbeats 8000000 in
theorem inter_ok (f g : Fm) (v u : Value) (w : World) (hrep : Rep w (fun _ => True) f v) (hu : Rep w (fun _ => True) g u) (ht : (tgcode [f, g]).1 = 0) (hs : someL (fun l => tvL f l && !tvL g l) (nmsF [f, g]) [] = false) :
    Calls Try.prog 14 #[v, u] w fun e w' => ∃ x, e = .returned (.tuple #[x, .agg #[.int .i64 0, .int .i64 0]]) ∧ Rep w' (fun _ => True) (projF f (nmsU g)) x ∧ Below w.heap.size w w' := by
  (have hto := fun v W h => together_any [f, g] (by simp) v W h); have htc : tgcode [f, g] = (0, 0) := tg_zero ht; rw [htc] at hto; simp only at hto; (have hp := tg_plain ht (f := f) (by simp)); (have hq := tg_plain ht (f := g) (by simp)); (have hU : tgnames [f, g] = nmsF [f, g] := by unfold tgnames; rw [if_pos ht])
  have hgd : GoodL 1000 ([] ++ nmsF [f, g]) := ⟨by have := tg_few ht; simp; omega, fun t h => by
    rw [List.nil_append, nmsF_mem] at h; obtain ⟨x, hx, hm⟩ := h
    exact nmsU_nm (pc_fine (tg_plain ht hx)).1 t ((nmsU_mem x t).2 hm)⟩
  (have HSo : Hid (∀ (bf bg : Nat) (ad : Option Addr) (cp : Nat) (W : World), OkFm bf f W → OkFm bg g W → SL W (.slice ad (nmsF [f, g]).length cp) (nmsF [f, g]) → Calls Try.prog 43 #[.slice ad (nmsF [f, g]).length cp, .slice none 0 0, .func (.func 41) #[] #[.pointer (some ⟨bf, 0, none⟩), .pointer (some ⟨bg, 0, none⟩)]] W fun e w' => e = .returned (.bool (someL (fun l => tvL f l && !tvL g l) (nmsF [f, g]) [])) ∧ Below W.heap.size W w') := fun bf bg ad cp W h1 h2 h3 => some_all (asksI f g hp hq bf bg) (nmsF [f, g]) [] _ (.slice none 0 0) W hgd h3 (SL.nil0 (by simp [maxLen])) ⟨h1, h2⟩); rw [hU] at hto; generalize nmsF [f, g] = U at *; rw [hs] at HSo; (have hno := fun v W h => namesOf_any g hq v W h); (have hpj := fun v u W h h' => projected_any f hp (nmsU g) v u W h h'); generalize projF f (nmsU g) = D at *; generalize nmsU g = UG at *; obtain ⟨k5, n5, ks5⟩ := D; clear ht htc hp hq hU hgd hs; obtain ⟨k, n, ks⟩ := f; obtain ⟨sl, cap, rfl⟩ := slice_shape hrep; obtain ⟨kg, ng, ksg⟩ := g; obtain ⟨sg, cg, rfl⟩ := slice_shape hu; (have HR : Hid (Rep w (fun _ => True) (.mk k n ks) (.agg #[.int .i64 k, .string n, .slice sl ks.length cap])) := hrep); (have HG : Hid (Rep w (fun _ => True) (.mk kg ng ksg) (.agg #[.int .i64 kg, .string ng, .slice sg ksg.length cg])) := hu); have HT : Hid (∀ v W, FL W v [.mk k n ks, .mk kg ng ksg] → Calls Try.prog 40 #[v] W _) := hto; (have HNo : Hid (∀ v W, Rep W (fun _ => True) (.mk kg ng ksg) v → Calls Try.prog 45 #[v] W fun e w' => ∃ ad cp, e = .returned (.slice ad UG.length cp) ∧ SL w' (.slice ad UG.length cp) UG ∧ Below W.heap.size W w') := hno); (have HPj : Hid (∀ v u W, Rep W (fun _ => True) (.mk k n ks) v → SL W u UG → Calls Try.prog 44 #[v, u] W fun e w' => ∃ x, e = .returned x ∧ Rep w' (fun c => W.heap.size ≤ c) (.mk k5 n5 ks5) x ∧ Below W.heap.size W w') := hpj); clear hno hpj; clear hto hrep hu
  go_enter Try.func14, Try.ntmps14
  go_wp2_with fail; obtain ⟨p0, p1, p2, p3, psz, PB⟩ := chain4 w (.cells #[.int .i64 k, .string n, .slice sl ks.length cap] 24 (0, 0)) (.cells #[.int .i64 kg, .string ng, .slice sg ksg.length cg] 24 (0, 0)) (.cells #[.int .i64 0, .string ⟨#[]⟩, .slice none 0 0] 24 (0, 0)) (.cells #[.int .i64 0, .int .i64 0] 33 (0, 0)); have p4 := blk_new ((((w.alloc (.cells #[.int .i64 k, .string n, .slice sl ks.length cap] 24 (0, 0))).alloc (.cells #[.int .i64 kg, .string ng, .slice sg ksg.length cg] 24 (0, 0))).alloc (.cells #[.int .i64 0, .string ⟨#[]⟩, .slice none 0 0] 24 (0, 0))).alloc (.cells #[.int .i64 0, .int .i64 0] 33 (0, 0))) (.cells #[.int .i64 k, .string n, .slice sl ks.length cap, .int .i64 kg, .string ng, .slice sg ksg.length cg] 24 (0, 0)); rw [psz] at p4; have PC := below_more PB (.cells #[.int .i64 k, .string n, .slice sl ks.length cap, .int .i64 kg, .string ng, .slice sg ksg.length cg] 24 (0, 0)); refine (HT.out _ _ (FL.pair2 p4 (HR.out.up PC) (HG.out.up PC))).mono ?_; rintro e w1 ⟨ad, cp, rfl, hks, hb1⟩; have HQ0 : Hid (w1.heap[w.heap.size]? = some (.cells #[.int .i64 k, .string n, .slice sl ks.length cap] 24 (0, 0))) := below_keep hb1 (alloc_keep p0 _); have HQ1 : Hid (w1.heap[w.heap.size + 1]? = some (.cells #[.int .i64 kg, .string ng, .slice sg ksg.length cg] 24 (0, 0))) := below_keep hb1 (alloc_keep p1 _); have HQ2 : Hid (w1.heap[w.heap.size + 1 + 1]? = some (.cells #[.int .i64 0, .string ⟨#[]⟩, .slice none 0 0] 24 (0, 0))) := below_keep hb1 (alloc_keep p2 _); have HQ3 : Hid (w1.heap[w.heap.size + 1 + 1 + 1]? = some (.cells #[.int .i64 0, .int .i64 0] 33 (0, 0))) := below_keep hb1 (alloc_keep p3 _); have HB1 : Hid (Below w.heap.size w w1) := below_join PC hb1; have HKs : Hid (KS _ w1 ad cp U) := hks; clear hb1 p0 p1 p2 p3 p4 psz PB PC hks; obtain ⟨e0, e1, e2, -⟩ := blk3 HQ0.out; obtain ⟨f0, f1, f2, -⟩ := blk3 HQ1.out; obtain ⟨a0, a1, a2, z0, z1, z2⟩ := blk3 HQ2.out; obtain ⟨b0, b1, z3, z4⟩ := blk2 HQ3.out; have y0 := lt_of_block HQ0.out; have y1 := lt_of_block HQ1.out; have y2 := lt_of_block HQ2.out; have y3 := lt_of_block HQ3.out; go_wp2_with fail; have hbF : Below w1.heap.size w1 (w1.alloc (.cells #[.int .i64 0, .int .i64 0] 33 (0, 0))) := (Below.refl _ _).alloc (Nat.le_refl _) _; have hbw := below_join HB1.out hbF; refine (HSo.out w.heap.size (w.heap.size + 1) ad cp _ ⟨_, _, _, _, _, rfl, below_keep hbF HQ0.out, HR.out.up hbw⟩ ⟨_, _, _, _, _, rfl, below_keep hbF HQ1.out, HG.out.up hbw⟩ ((KS.list HKs.out).sl.up hbF)).mono ?_; rintro e w2 ⟨rfl, hb2⟩; have HP0 : Hid (w2.heap[w.heap.size]? = some (.cells #[.int .i64 k, .string n, .slice sl ks.length cap] 24 (0, 0))) := below_keep hb2 (below_keep hbF HQ0.out); have HP1 : Hid (w2.heap[w.heap.size + 1]? = some (.cells #[.int .i64 kg, .string ng, .slice sg ksg.length cg] 24 (0, 0))) := below_keep hb2 (below_keep hbF HQ1.out); have HP2 : Hid (w2.heap[w.heap.size + 1 + 1]? = some (.cells #[.int .i64 0, .string ⟨#[]⟩, .slice none 0 0] 24 (0, 0))) := below_keep hb2 (below_keep hbF HQ2.out); have HP3 : Hid (w2.heap[w.heap.size + 1 + 1 + 1]? = some (.cells #[.int .i64 0, .int .i64 0] 33 (0, 0))) := below_keep hb2 (below_keep hbF HQ3.out); have HB2 : Hid (Below w.heap.size w w2) := below_join hbw hb2; clear hb2 hbF hbw e0 e1 e2 f0 f1 f2 a0 a1 a2 z0 z1 z2 b0 b1 z3 z4; obtain ⟨e0, e1, e2, -⟩ := blk3 HP0.out; obtain ⟨f0, f1, f2, -⟩ := blk3 HP1.out; obtain ⟨a0, a1, a2, z0, z1, z2⟩ := blk3 HP2.out; obtain ⟨b0, b1, z3, z4⟩ := blk2 HP3.out; have x0 := lt_of_block HP0.out; have x1 := lt_of_block HP1.out; have x2 := lt_of_block HP2.out; have x3 := lt_of_block HP3.out; go_wp2_with fail; obtain ⟨r, hr⟩ : ∃ r, r = w.heap.size + 1 + 1 := ⟨_, rfl⟩; obtain ⟨q, hq⟩ : ∃ q, q = w.heap.size + 1 + 1 + 1 := ⟨_, rfl⟩; rw [← hq, ← hr]; rw [← hr] at HP2 a0 a1 a2 z0 z1 z2 x2; rw [← hq] at HP3 b0 b1 z3 z4 x3; (have nn1 : ¬ w.heap.size = r := by omega); (have nn2 : ¬ w.heap.size = q := by omega); (have nn3 : ¬ w.heap.size + 1 = r := by omega); (have nn4 : ¬ w.heap.size + 1 = q := by omega); (have nn5 : ¬ r = q := by omega); (have nn6 : ¬ q = r := by omega); (have nm1 : ¬ r = w.heap.size := by omega); (have nm2 : ¬ q = w.heap.size := by omega)
  (have nm3 : ¬ r = w.heap.size + 1 := by omega); (have nm4 : ¬ q = w.heap.size + 1 := by omega); have HHr : Hid (r = w.heap.size + 1 + 1 ∧ q = w.heap.size + 1 + 1 + 1) := ⟨hr, hq⟩; clear hr hq
  go_region_held3 (fun w' => w'.cell? ⟨w.heap.size, 0, none⟩ = some (.int .i64 k) ∧ w'.cell? ⟨w.heap.size, 1, none⟩ = some (.string n) ∧ w'.cell? ⟨w.heap.size, 2, none⟩ = some (.slice sl ks.length cap) ∧ w'.cell? ⟨w.heap.size + 1, 0, none⟩ = some (.int .i64 kg) ∧ w'.cell? ⟨w.heap.size + 1, 1, none⟩ = some (.string ng) ∧ w'.cell? ⟨w.heap.size + 1, 2, none⟩ = some (.slice sg ksg.length cg)) (go_keep)
    (first
     | (go_at_call 45
        refine (HNo.out _ _ (HG.out.up HB2.out.drew)).mono ?_; rintro e w3 ⟨ad3, cp3, rfl, hs3, hb3⟩; have HS3 : Hid (SL w3 (.slice ad3 UG.length cp3) UG) := hs3; have HB3 : Hid (Below w2.heap.size w2 w3) := (Below.refl _ w2).drew.trans hb3; obtain ⟨g0, g1, g2, -⟩ := blk3 (below_keep HB3.out HP0.out); obtain ⟨h0, h1, h2, -⟩ := blk3 (below_keep HB3.out HP1.out)
        clear hb3 hs3)
     | (go_at_call 44
        refine (HPj.out _ _ _ (HR.out.up (below_join HB2.out HB3.out)) HS3.out).mono ?_; rintro e w4 ⟨x, rfl, hx, hb4⟩; obtain ⟨sl5, cp5, rfl⟩ := slice_shape hx; (have HX4 : Hid (Rep w4 (fun c => w3.heap.size ≤ c) (.mk k5 n5 ks5) (.agg #[.int .i64 k5, .string n5, .slice sl5 ks5.length cp5])) := hx); have HB4 : Hid (Below w2.heap.size w2 w4) := below_join HB3.out hb4; have HR2 : Hid (w4.heap[r]? = some (.cells #[.int .i64 0, .string ⟨#[]⟩, .slice none 0 0] 24 (0, 0))) := below_keep HB4.out HP2.out; have HR3 : Hid (w4.heap[q]? = some (.cells #[.int .i64 0, .int .i64 0] 33 (0, 0))) := below_keep HB4.out HP3.out; obtain ⟨i0, i1, i2, -⟩ := blk3 (below_keep HB4.out HP0.out); obtain ⟨j0, j1, j2, -⟩ := blk3 (below_keep HB4.out HP1.out); clear a0 a1 a2 z0 z1 z2 b0 b1 z3 z4; obtain ⟨a0, a1, a2, z0, z1, z2⟩ := blk3 HR2.out; obtain ⟨b0, b1, z3, z4⟩ := blk2 HR3.out; have u2 := lt_of_block HR2.out; have u3 := lt_of_block HR3.out
        clear hb4 hx)
     | fail)
  all_goals
    go_wp2_with fail; obtain ⟨hr, hq⟩ := HHr.out; (have f5 := put5_at (W := w4) (r := r) (q := q) (by omega) HR2.out HR3.out (.int .i64 k5) (.string n5) (.slice sl5 ks5.length cp5) (.int .i64 0) (.int .i64 0)); (have BF := put5_below (w := w) (r := r) (q := q) (by omega) (by omega) (below_join HB2.out HB4.out) (.int .i64 k5) (.string n5) (.slice sl5 ks5.length cp5) (.int .i64 0) (.int .i64 0)); have hs3 := HB3.out.size; (have RX := HX4.out.put5 (r := r) (q := q) (P' := fun _ => True) (fun b _ hb => ⟨by omega, by omega, trivial⟩) (.int .i64 k5) (.string n5) (.slice sl5 ks5.length cp5) (.int .i64 0) (.int .i64 0)); have g1 : (put5 w4 r q (.int .i64 k5) (.string n5) (.slice sl5 ks5.length cp5) (.int .i64 0) (.int .i64 0)).heap[r]? = some _ := f5.1; have g2 : (put5 w4 r q (.int .i64 k5) (.string n5) (.slice sl5 ks5.length cp5) (.int .i64 0) (.int .i64 0)).heap[q]? = some _ := f5.2; have BG : Below w.heap.size w (put5 w4 r q (.int .i64 k5) (.string n5) (.slice sl5 ks5.length cp5) (.int .i64 0) (.int .i64 0)) := BF; show bodyPost _ _ _ _ _ (put5 w4 r q (.int .i64 k5) (.string n5) (.slice sl5 ks5.length cp5) (.int .i64 0) (.int .i64 0)); generalize (put5 w4 r q (.int .i64 k5) (.string n5) (.slice sl5 ks5.length cp5) (.int .i64 0) (.int .i64 0)) = F at g1 g2 BG RX ⊢; obtain ⟨o0, o1, o2, -⟩ := blk3 g1; obtain ⟨o3, o4, -⟩ := blk2 g2; (exact bodyPost_ret (v := .tuple #[.agg #[.int .i64 k5, .string n5, .slice sl5 ks5.length cp5], .agg #[.int .i64 0, .int .i64 0]]) (by simp [results, Try.results14, go_sem, o0, o1, o2, o3, o4]) rfl ⟨_, rfl, RX, BG⟩)
end Go.Proofs.Ytffkoiemnchdgae
/- Walks: the laws' own helpers between formulas: Vast of what is small, betweenFault, Texts. -/
namespace Go.Proofs.Ytffkoiemnchdgae
open Go.RowKit Go.Sort

theorem len_sizesB : ∀ ks : List Fm, ks.length ≤ Fm.sizes ks
  | [] => by simp
  | f :: fs => by
    have := len_sizesB fs; (have h1 : 1 ≤ f.size := by cases f; rw [Fm.size]; omega); rw [Fm.sizes, List.length_cons]; omega
/-- A bool is answered; where it is true, the formula is large. -/
def IsVB (deep : Int) (f : Fm) (e : Ending) : Prop := ∃ b, e = .returned (.bool b) ∧ (b = true → 25000 < deep + (f.size : Int))
def VastsB (m : Nat) : Prop := ∀ (f : Fm) (v : Value) (deep : Int) (w : World), f.size < m → 0 ≤ deep → deep ≤ 25001 → Rep w (fun _ => True) f v →
  Calls Try.prog 13 #[v, .int .i64 deep] w fun e w' => IsVB deep f e ∧ Below w.heap.size w w'

set_option maxHeartbeats 1000000 in
theorem vastB_step (m : Nat) (ih : VastsB m) : VastsB (m + 1) := by
  intro f v deep w hm hd0 hd hrep; obtain ⟨k, n, ks⟩ := f; obtain ⟨sl, cap, rfl, hx1, hx2, hx3, hx4⟩ := Rep.def.1 hrep; (have HX : Hid (ks ≠ [] → ∃ b off, sl = some ⟨b, off, none⟩ ∧ True ∧ Reps w (fun _ => True) b off ks) := hx4); clear hx4; have hb0 : Below w.heap.size w (w.alloc (.cells #[.int .i64 k, .string n, .slice sl ks.length cap] 24 (0, 0))) := (Below.refl _ _).alloc (Nat.le_refl _) _; (have hlen : ((ks.length : Nat) : Int) ≤ 9223372036854775807 := by unfold maxLen at hx3; omega); by_cases h1 : 25000 < deep
  · go_enter Try.func13, Try.ntmps13
    go_wp2_with fail; go_ret; (exact ⟨⟨_, rfl, fun _ => by omega⟩, hb0⟩)
  · by_cases h2 : 25000 < ks.length
    · have h2' : (25000 : Int) < (ks.length : Int) := by omega
      go_enter Try.func13, Try.ntmps13
      go_wp2_with fail; go_ret; (refine ⟨⟨_, rfl, fun _ => ?_⟩, hb0⟩); have := len_sizesB ks; rw [Fm.size]; omega
    · have h2' : (ks.length : Int) ≤ 25000 := by omega
      (have h1' : deep ≤ 25000 := by omega); clear h1 h2
      go_enter Try.func13, Try.ntmps13
      go_wp2_with fail
      go_loopg [5] ks.length (fun g c wr => ∃ i, i ≤ ks.length ∧ g = ks.length - i ∧ c = .int .i64 (i : Nat) ∧ Below w.heap.size w wr ∧ wr.heap[w.heap.size]? = some (.cells #[.int .i64 k, .string n, .slice sl ks.length cap] 24 (0, 0)))
      case atStart => exact ⟨0, by omega, by omega, rfl, hb0, blk_new _ _⟩
      case round =>
        obtain ⟨i, hi, hg, rfl, hbr, q0⟩ := hrel; have HG : Hid (gk = ks.length - i) := hg; clear hg; have f2 := blk_cell q0 2; simp at f2; by_cases hlt : i < ks.length
        · obtain ⟨b, off, hsl, -, hrs⟩ := HX.out (fun e => by rw [e] at hlt; simp at hlt)
          subst hsl; obtain ⟨⟨k2, n2, ks2⟩, hki⟩ : ∃ f, ks[i]? = some f := ⟨_, List.getElem?_eq_getElem hlt⟩; obtain ⟨sl2, cap2, g0, g1, g2, hrep2⟩ := (hrs.up hbr).at i k2 n2 ks2 hki; (have hlt2 : (i : Int) < (ks.length : Int) := by omega); (have hsz : (Fm.mk k2 n2 ks2).size < m := by have := sizes_get hki; rw [Fm.size] at hm; omega); have z0 := lt_of_block q0; have zz := hbr.size; have HK : Hid ((Fm.mk k2 n2 ks2).size ≤ Fm.sizes ks) := sizes_get hki; clear hki hrs hrep HX hb0
          go_wp2_with (first
            | (go_at_call 13
               (refine (ih _ _ _ _ hsz (by omega) (by omega) hrep2).mono ?_); rintro e w1 ⟨⟨bb, rfl, hbb⟩, hb1⟩
               cases bb
               case' true =>
                 have HB : Hid (25000 < deep + 1 + ((Fm.mk k2 n2 ks2).size : Int)) := hbb rfl; clear hbb
               case' false => clear hbb)
            | fail)
          · have z1 := hb1.size
            go_roundg (ks.length - (i + 1))
            case measure => have := HG.out; omega
            case rel => exact ⟨i + 1, by omega, rfl, by go_num, hbr.trans (hb1.mono zz), (hb1.block _ z0).trans q0⟩
          · go_ret
            (refine ⟨⟨_, rfl, fun _ => ?_⟩, hbr.trans (hb1.mono zz)⟩); have h1 := HB.out; have h2 := HK.out; rw [Fm.size]; omega
        · go_wp2_with fail
          go_ret; (exact ⟨⟨_, rfl, fun h => (by cases h)⟩, hbr⟩)

theorem vastsB_all : ∀ m, VastsB m
  | 0 => fun _ _ _ _ h => absurd h (Nat.not_lt_zero _)
  | m + 1 => vastB_step m (vastsB_all m)

theorem vastB_no (f : Fm) (hs : f.size ≤ 20000) (v : Value) (w : World) (hrep : Rep w (fun _ => True) f v) :
    Calls Try.prog 13 #[v, .int .i64 0] w fun e w' => e = .returned (.bool false) ∧ Below w.heap.size w w' := by
  (refine (vastsB_all (f.size + 1) f v 0 w (Nat.lt_succ_self _) (by omega) (by omega) hrep).mono ?_); rintro e w' ⟨⟨b, rfl, hb⟩, h⟩
  cases b
  · exact ⟨rfl, h⟩
  · have := hb rfl; omega

set_option maxRecDepth 10000 in
set_option maxHeartbeats 4000000 in
theorem bfault_any (fs : List Fm) (hl : fs.length ≤ 10) (v : Value) (w : World) (hv : FL w v fs) :
    Calls Try.prog 16 #[v] w fun e w' => e = .returned (.agg #[.int .i64 (tgcode fs).1, .int .i64 (tgcode fs).2]) ∧ Below w.heap.size w w' := by
  (have hpf := fun v W h => plainR_any fs (by omega) v W h); have HV : Hid (FL w v fs) := hv; (have HF : Hid (∀ c a W, Calls Try.prog 19 #[.int .i64 c, .int .i64 a] W _) := fun c a W => mkF_any c a W); have hB0 := below_more (Below.refl _ w) (.cells #[.int .i64 0, .int .i64 0] 33 (0, 0)); by_cases hp : (pfirst fs).1 = 0
  · have hni := fun v W h => namesIn_list fs hl (fun f hf => (pc_fine (pfirst_all hp f hf)).2) v W h
    (have htc : tgcode fs = if 6 < (nmsF fs).length then (2, 0) else (0, 0) := by unfold tgcode; rw [if_pos hp]); have hp0 : pfirst fs = (0, 0) := pfirst_ok fs (pfirst_all hp); rw [hp0] at hpf; simp only at hpf; rw [htc]; generalize nmsF fs = U at *; have HP : Hid (∀ v W, FL W v fs → Calls Try.prog 46 #[v] W _) := hpf; have HN : Hid (∀ v W, FL W v fs → Calls Try.prog 17 #[v] W _) := hni; obtain ⟨ad, cap, rfl, -⟩ := hv; clear hpf hni htc hp hp0; by_cases h6 : 6 < U.length
    · rw [if_pos h6]
      (have h6I : (6 : Int) < (U.length : Int) := by omega); clear h6
      go_enter Try.func16, Try.ntmps16
      go_wp2_with fail; refine (HP.out _ _ (HV.out.up hB0)).mono ?_; rintro e w1 ⟨rfl, hb1⟩; have HQ : Hid (w1.heap[w.heap.size]? = some (.cells #[.int .i64 0, .int .i64 0] 33 (0, 0))) := below_keep hb1 (blk_new w _); have HB1 : Hid (Below w.heap.size w w1) := below_join hB0 hb1; have y0 := lt_of_block HQ.out; obtain ⟨k1, k2, k3, k4⟩ := blk2 HQ.out; clear hb1; go_wp2_with fail; refine (HN.out _ _ (HV.out.up (below_more HB1.out _))).mono ?_; rintro e w2 ⟨x, rfl, hx, hb2⟩; obtain ⟨adx, cpx, rfl, -⟩ := hx; have HQ2 : Hid (w2.heap[w.heap.size]? = some (.cells #[.int .i64 0, .int .i64 0] 33 (0, 0))) := below_keep hb2 (alloc_keep HQ.out _); have HR2 : Hid (w2.heap[w1.heap.size]? = some (.cells #[.int .i64 0, .int .i64 0] 33 (0, 0))) := below_keep hb2 (blk_new w1 _); have HB2 : Hid (Below w.heap.size w w2) := below_join (below_more HB1.out _) hb2; clear hb2 k1 k2 k3 k4; go_wp2_with fail; refine (HF.out _ _ _).mono ?_; rintro e w3 ⟨rfl, hb3⟩; have q3 := below_keep hb3 HQ2.out; have r3 := below_keep hb3 HR2.out; have B3 := below_join HB2.out hb3; have y1 := HB1.out.size; (have ne : w1.heap.size ≠ w.heap.size := by omega); obtain ⟨k1, k2, k3, k4⟩ := blk2 q3; obtain ⟨m1, m2, m3, m4⟩ := blk2 r3; clear hb3; have nn1 : ¬ w1.heap.size = w.heap.size := ne; (have nn2 : ¬ w.heap.size = w1.heap.size := fun e => ne e.symm); have s3 := set2 r3 (.int .i64 2) (.int .i64 0); (have t3 := (far2 (W := w3) (r := w1.heap.size) (x := w.heap.size) (by omega) (.int .i64 2) (.int .i64 0)).trans q3); (have B4 := below_put2 (w := w) (r := w1.heap.size) (by omega) B3 (.int .i64 2) (.int .i64 0)); have s4 := set2 t3 (.int .i64 2) (.int .i64 0); (have B5 := below_put2 (w := w) (r := w.heap.size) (by omega) B4 (.int .i64 2) (.int .i64 0)); go_wp2_with fail; generalize World.setCell _ _ _ = F at s4 B5 ⊢; obtain ⟨o1, o2, -⟩ := blk2 s4; (exact bodyPost_ret (v := .agg #[.int .i64 2, .int .i64 0]) (by simp [results, Try.results16, go_sem, o1, o2]) rfl ⟨rfl, B5⟩)
    · rw [if_neg h6]
      (have h6I : ¬ (6 : Int) < (U.length : Int) := by omega); clear h6
      go_enter Try.func16, Try.ntmps16
      go_wp2_with fail; refine (HP.out _ _ (HV.out.up hB0)).mono ?_; rintro e w1 ⟨rfl, hb1⟩; have HQ : Hid (w1.heap[w.heap.size]? = some (.cells #[.int .i64 0, .int .i64 0] 33 (0, 0))) := below_keep hb1 (blk_new w _); have HB1 : Hid (Below w.heap.size w w1) := below_join hB0 hb1; have y0 := lt_of_block HQ.out; obtain ⟨k1, k2, k3, k4⟩ := blk2 HQ.out; clear hb1; go_wp2_with fail; refine (HN.out _ _ (HV.out.up (below_more HB1.out _))).mono ?_; rintro e w2 ⟨x, rfl, hx, hb2⟩; obtain ⟨adx, cpx, rfl, -⟩ := hx; have HQ2 : Hid (w2.heap[w.heap.size]? = some (.cells #[.int .i64 0, .int .i64 0] 33 (0, 0))) := below_keep hb2 (alloc_keep HQ.out _); have r2 := below_keep hb2 (blk_new w1 (.cells #[.int .i64 0, .int .i64 0] 33 (0, 0))); have B2 := below_join (below_more HB1.out _) hb2; clear hb2 k1 k2 k3 k4; obtain ⟨k1, k2, k3, k4⟩ := blk2 HQ2.out; obtain ⟨m1, m2, m3, m4⟩ := blk2 r2; have s4 := set2 HQ2.out (.int .i64 0) (.int .i64 0); (have B5 := below_put2 (w := w) (r := w.heap.size) (by omega) B2 (.int .i64 0) (.int .i64 0)); go_wp2_with fail; generalize World.setCell _ _ _ = F at s4 B5 ⊢; obtain ⟨o1, o2, -⟩ := blk2 s4; (exact bodyPost_ret (v := .agg #[.int .i64 0, .int .i64 0]) (by simp [results, Try.results16, go_sem, o1, o2]) rfl ⟨rfl, B5⟩)
  · have htc : tgcode fs = pfirst fs := by unfold tgcode; rw [if_neg hp]
    rw [htc]; generalize pfirst fs = pf at *; obtain ⟨c, d⟩ := pf; simp only at hp hpf ⊢; have HP : Hid (∀ v W, FL W v fs → Calls Try.prog 46 #[v] W _) := hpf; obtain ⟨ad, cap, rfl, -⟩ := hv; (have hcn : (c == 0) = false := by simpa using hp); clear hpf htc
    go_enter Try.func16, Try.ntmps16
    go_wp2_with fail; refine (HP.out _ _ (HV.out.up hB0)).mono ?_; rintro e w1 ⟨rfl, hb1⟩; have HQ : Hid (w1.heap[w.heap.size]? = some (.cells #[.int .i64 0, .int .i64 0] 33 (0, 0))) := below_keep hb1 (blk_new w _); have HB1 : Hid (Below w.heap.size w w1) := below_join hB0 hb1; have y0 := lt_of_block HQ.out; obtain ⟨k1, k2, k3, k4⟩ := blk2 HQ.out; clear hb1; have s4 := alloc_keep (set2 HQ.out (.int .i64 c) (.int .i64 d)) (.cells #[.int .i64 c, .int .i64 d] 33 (0, 0)); (have B5 := below_more (below_put2 (w := w) (r := w.heap.size) (by omega) HB1.out (.int .i64 c) (.int .i64 d)) (.cells #[.int .i64 c, .int .i64 d] 33 (0, 0))); go_wp2_with fail; generalize World.alloc _ _ = F at s4 B5 ⊢; obtain ⟨o1, o2, -⟩ := blk2 s4; (exact bodyPost_ret (v := .agg #[.int .i64 c, .int .i64 d]) (by simp [results, Try.results16, go_sem, o1, o2]) rfl ⟨rfl, B5⟩)
end Go.Proofs.Ytffkoiemnchdgae
