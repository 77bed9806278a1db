/- Texts of one proof, one behind the other: ME9, MEA, MG1. -/
import Derived.Test.YtfhbpfgbnfcdaagB15
import Derived.Test.YtfhbpfgbnfcdaagB08
import Derived.RegionTactic
import Derived.Test.YtfhbpfgbnfcdaagB06
import Derived.Shelf.Sort.Plain
import Derived.Shelf.Slices.CompactS
import Derived.Shelf.Slices.In.SortNone
import Derived.Test.YtfhbpfgbnfcdaagProg
import Derived.Sort.OwnSorted
import Derived.Test.YtfhbpfgbnfcdaagB03
import Derived.Deep.DeepCutAuto
import Derived.Deep.CutBlock
import Derived.Deep.AppendLies
import Derived.Deep.RegionLaw
import Derived.Sort.Walk0
import Derived.Deep.AppendSrc
import Derived.Test.YtfhbpfgbnfcdaagB09
/- Walks: modal.Eval, whole. -/
namespace Go.Proofs.Ytfhbpfgbnfcdaag
open Go.RowKit

set_option maxHeartbeats 4000000 in
theorem eval_bad (m : Mdl) (f : Fm) (h0 : (mfcode m f).1 ≠ 0) (v u : Value) (w : World) (hv : MR w m v) (hu : Rep w (fun _ => True) f u) :
    Calls Try.prog 10 #[v, u] w fun e w' => e = .returned (.tuple #[.slice none 0 0, .agg #[.int .i64 (mfcode m f).1, .int .i64 (mfcode m f).2]]) ∧ Below w.heap.size w w' := by
  (have HFF : Hid (∀ w, MR w m v → Rep w (fun _ => True) f u → Calls Try.prog 27 #[v, u] w fun e w' => e = .returned (.agg #[.int .i64 (mfcode m f).1, .int .i64 (mfcode m f).2]) ∧ Below w.heap.size w w') := fun w h1 h2 => firstFault_any m f v u w h1 h2); have HV : Hid (MR w m v) := hv; (have HRep : Hid (Rep w (fun _ => True) f u) := hu); obtain ⟨ra, rc, ta, tc, rfl, -⟩ := hv; obtain ⟨k, n, ks⟩ := f; obtain ⟨sl, cp, rfl⟩ := slice_shape hu; generalize mfcode m (.mk k n ks) = md at *; obtain ⟨c, a⟩ := md; (have hcn : (c != 0) = true := by simpa using h0); obtain ⟨W, hW⟩ : ∃ W, W = ((w.alloc (.cells #[.int .i64 m.n, .slice ra m.rel.length rc, .slice ta m.tr.length tc] 25 (0, 0))).alloc (.cells #[.int .i64 k, .string n, .slice sl ks.length cp] 28 (0, 0))).alloc (.cells #[.int .i64 0, .int .i64 0] 34 (0, 0)) := ⟨_, rfl⟩; (have HB0 : Hid (Below w.heap.size w W) := by rw [hW]; exact below_more (below_more (below_more (Below.refl _ w) _) _) _); obtain ⟨-, -, b3⟩ := blk_threeM w (.cells #[.int .i64 m.n, .slice ra m.rel.length rc, .slice ta m.tr.length tc] 25 (0, 0)) (.cells #[.int .i64 k, .string n, .slice sl ks.length cp] 28 (0, 0)) (.cells #[.int .i64 0, .int .i64 0] 34 (0, 0)); rw [← hW] at b3; have HQ2 : Hid (W.heap[w.heap.size + 1 + 1]? = some (.cells #[.int .i64 0, .int .i64 0] 34 (0, 0))) := b3; clear b3 hu h0
  go_enter Try.func10, Try.ntmps10
  go_wp2_with fail; rw [← hW]; refine (HFF.out _ (HV.out.up HB0.out) (HRep.out.up HB0.out)).mono ?_; rintro _ w1 ⟨rfl, hb1⟩; have HB1 : Hid (Below w.heap.size w w1) := below_join HB0.out hb1; have HR1 : Hid (w1.heap[w.heap.size + 1 + 1]? = some (.cells #[.int .i64 0, .int .i64 0] 34 (0, 0))) := below_keep hb1 HQ2.out; clear hb1 hW; obtain ⟨X, hX⟩ : ∃ X, w1.alloc (.cells #[.int .i64 c, .int .i64 a] 34 (0, 0)) = X := ⟨_, rfl⟩; (have HXr : Hid (X.heap[w.heap.size + 1 + 1]? = some (.cells #[.int .i64 0, .int .i64 0] 34 (0, 0))) := by rw [← hX]; exact alloc_keep HR1.out _); obtain ⟨q20, q21, q22, q23⟩ := blk2 HXr.out; (obtain ⟨q30, q31, -⟩ := blk2 (show X.heap[w1.heap.size]? = some _ by rw [← hX]; exact blk_new _ _)); (have HBX : Hid (Below w.heap.size w X) := by rw [← hX]; exact below_more HB1.out _); go_wp2_with fail
  go_region
  all_goals
    go_wp2_with fail; have f2 := set2 HXr.out (.int .i64 c) (.int .i64 a); (have b2 := (HBX.out.setCell (p := ⟨w.heap.size + 1 + 1, 0, none⟩) (by simp; omega) (.int .i64 c)).setCell (p := ⟨w.heap.size + 1 + 1, 1, none⟩) (by simp; omega) (.int .i64 a)); generalize World.setCell _ _ _ = F at f2 b2 ⊢; clear q20 q21 q22 q23; obtain ⟨o1, o2, -⟩ := blk2 f2; (exact bodyPost_ret (v := .tuple #[.slice none 0 0, .agg #[.int .i64 c, .int .i64 a]]) (by simp [results, Try.results10, go_sem, o1, o2]) rfl ⟨rfl, b2.drew⟩)
/-- A model and a formula in which nothing is wrong. -/
theorem mf_ok {m : Mdl} {f : Fm} (h : (mfcode m f).1 = 0) : mfcode m f = (0, 0) ∧ (mdcode 40 2000 m).1 = 0 ∧ f.code = (0, 0) ∧ Fine f := by
  unfold mfcode at h ⊢
  split at h
  · rename_i h1
    have h2 := code_zero h; obtain ⟨s, hs⟩ := code_chk h2; rw [if_pos h1]; exact ⟨h2, h1, h2, fine_of_chk f 0 s hs⟩
  · rename_i h1
    exact absurd h h1
theorem eval_any (m : Mdl) (f : Fm) (v u : Value) (w : World) (hv : MR w m v) (hu : Rep w (fun _ => True) f u) :
    Calls Try.prog 10 #[v, u] w fun e w' => ∃ x, e = .returned (.tuple #[x, .agg #[.int .i64 (mfcode m f).1, .int .i64 (mfcode m f).2]]) ∧ BL w' x (if (mfcode m f).1 = 0 then evL m f else []) ∧ Below w.heap.size w w' := by
  by_cases h0 : (mfcode m f).1 = 0
  · rw [if_pos h0]
    obtain ⟨h1, h2, -, h4⟩ := mf_ok h0; obtain ⟨N, hn, -, hN, hr, ht, hin⟩ := mdcode_in h2; have hnm := mdcode_names h2; obtain ⟨n, rel, tr⟩ := m; simp only at hn hr ht hin hnm; subst hn; rw [h1]; (refine (eval_ok N (by omega) rel (by omega) hin tr ht hnm f h4 h1 v u w hv hu).mono fun e w' h => ?_); obtain ⟨x, e1, e2, e3⟩ := h; (exact ⟨x, e1, by simpa [evL] using e2, e3⟩)
  · rw [if_neg h0]
    (refine (eval_bad m f h0 v u w hv hu).mono fun e w' h => ?_); exact ⟨_, h.1, BL.nil, h.2⟩
end Go.Proofs.Ytfhbpfgbnfcdaag
/- Calls of Eval in the laws: facts; an example of the document. -/
namespace Go.Proofs.Ytfhbpfgbnfcdaag
open Go.RowKit

def kR (F : Fm) : Value → World → Prop := fun v w => Rep w (fun _ => True) F v
theorem kR_stays (F : Fm) : Stays (kR F) := fun _ _ _ h hb => Rep.up h hb
def kEv (c d : Int) (L : List Bool) : Value → World → Prop := fun v w => ∃ x, v = .tuple #[x, .agg #[.int .i64 c, .int .i64 d]] ∧ BL w x L
theorem kEv_stays (c d : Int) (L : List Bool) : Stays (kEv c d L) := fun _ _ _ ⟨x, e, h⟩ hb => ⟨x, e, h.up hb⟩
def kB (L : List Bool) : Value → World → Prop := fun v w => BL w v L
theorem kB_stays (L : List Bool) : Stays (kB L) := fun _ _ _ h hb => BL.up h hb
def kNf (A : Nat) : Value → World → Prop := fun v w => ∃ b, v = .pointer (some ⟨b, 0, none⟩) ∧ A ≤ b ∧ w.heap[b]? = some (.cells #[.int .i64 0, .int .i64 0] 34 (0, 0))
theorem kNf_stays (A : Nat) : Stays (kNf A) := fun _ _ _ ⟨b, e, h1, h2⟩ hb => ⟨b, e, h1, below_keep hb h2⟩
theorem BL.off2 {w : World} {v : Value} {l : List Bool} {b : Nat} {x0 x1 : Int} {T : TypeId} (h : BL w v l) (hz : w.heap[b]? = some (.cells #[.int .i64 x0, .int .i64 x1] T (0, 0))) (c d : Int) : BL ((w.setCell ⟨b, 0, none⟩ (.int .i64 c)).setCell ⟨b, 1, none⟩ (.int .i64 d)) v l := by
  have h2 : (w.setCell ⟨b, 0, none⟩ (.int .i64 c)).heap[b]? = some (.cells #[.int .i64 c, .int .i64 x1] T (0, 0)) := set_cellE hz _; exact BL.off (BL.off h hz _ _) h2 _ _
/-- The example: a world that sees nothing. -/
def mOne : Mdl := ⟨1, [], [[]]⟩
def fOne : Fm := .mk 8 ⟨#[]⟩ [.mk 3 ⟨#[]⟩ []]
theorem one_code : mfcode mOne fOne = (0, 0) := by decide +kernel
theorem one_ev : evL mOne fOne = [true] := by decide +kernel
theorem one_eval (v u : Value) (w : World) (hv : MR w mOne v) (hu : Rep w (fun _ => True) fOne u) :
    Calls Try.prog 10 #[v, u] w fun e w' => ∃ x, e = .returned (.tuple #[x, .agg #[.int .i64 0, .int .i64 0]]) ∧ BL w' x [true] ∧ Below w.heap.size w w' := by
  have := eval_any mOne fOne v u w hv hu; rw [one_code, one_ev] at this; exact this
theorem rowE2 (l : List Value) (h0 : l.length = 2) : ∃ x0 x1, l = [x0, x1] := by
  obtain ⟨x0, l1, e0, h1⟩ := cons_lenM h0; obtain ⟨x1, l2, e1, h2⟩ := cons_lenM h1; have e2 : l2 = [] := List.length_eq_zero_iff.1 h2; subst e2 e1 e0; exact ⟨x0, x1, rfl⟩
theorem rowE7 (l : List Value) (h0 : l.length = 7) : ∃ x0 x1 x2 x3 x4 x5 x6, l = [x0, x1, x2, x3, x4, x5, x6] := by
  obtain ⟨x0, l1, e0, h1⟩ := cons_lenM h0; obtain ⟨x1, l2, e1, h2⟩ := cons_lenM h1; obtain ⟨x2, l3, e2, h3⟩ := cons_lenM h2; obtain ⟨x3, l4, e3, h4⟩ := cons_lenM h3; obtain ⟨x4, l5, e4, h5⟩ := cons_lenM h4; obtain ⟨x5, l6, e5, h6⟩ := cons_lenM h5; obtain ⟨x6, l7, e6, h7⟩ := cons_lenM h6; have e7 : l7 = [] := List.length_eq_zero_iff.1 h7; subst e7 e6 e5 e4 e3 e2 e1 e0; exact ⟨x0, x1, x2, x3, x4, x5, x6, rfl⟩
set_option maxRecDepth 10000 in
set_option maxHeartbeats 4000000 in
theorem modalBegun_any (w : World) : Calls Try.prog 7 #[] w fun e w' => e = .returned (.bool true) ∧ Below w.heap.size w w' := by
  obtain ⟨W, hW⟩ : ∃ W, W = (w.alloc (.cells #[.slice none 0 0] 48 (0, 0))).alloc (.cells #[.int .i64 1, .slice none 0 0, .slice (some ⟨w.heap.size, 0, none⟩) 1 1] 25 (0, 0)) := ⟨_, rfl⟩; (have HBW : Hid (Below w.heap.size w W) := by rw [hW]; exact below_more (below_more (Below.refl _ w) _) _); (have HM : Hid (W.heap[w.heap.size + 1]? = some (.cells #[.int .i64 1, .slice none 0 0, .slice (some ⟨w.heap.size, 0, none⟩) 1 1] 25 (0, 0))) := by rw [hW]; exact blk_secE _ _ _)
  have HMo : Hid (MR W mOne (.agg #[.int .i64 1, .slice none 0 0, .slice (some ⟨w.heap.size, 0, none⟩) 1 1])) := by
    (refine ⟨none, 0, some ⟨w.heap.size, 0, none⟩, 1, rfl, ⟨none, 0, rfl, Nat.le_refl _, by decide, fun h => absurd rfl h⟩, ⟨some ⟨w.heap.size, 0, none⟩, 1, rfl, Nat.le_refl _, by decide, fun _ => ⟨w.heap.size, 0, rfl, fun j r hj => ?_⟩⟩, fun l hl t ht => ?_⟩)
    · match j, hj with
      | 0, hj =>
        (have e : [] = r := by simpa [mOne] using hj); subst e; (refine ⟨.slice none 0 0, ?_, none, 0, rfl, Nat.le_refl _, by decide, fun h => absurd rfl h⟩); rw [hW]
        exact blk_cell (alloc_keep (blk_new w _) _) 0
      | j + 1, hj => simp [mOne] at hj
    · have e : l = [] := by simpa [mOne] using hl
      subst e
      cases ht
  go_enter Try.func7, Try.ntmps7
  go_wp2_with fail; rw [← hW]; clear hW; (refine wp_region_last (by kernel_rfl) [fun v _ => v = (.agg #[.int .i64 1, .slice none 0 0, .slice (some ⟨w.heap.size, 0, none⟩) 1 1]), fun v _ => v = (.agg #[.int .i64 3, .string ⟨#[]⟩, .slice none 0 0]), kR (fOne), kEv 0 0 ([true]), kEv 0 0 ([true]), kB ([true]), fun v _ => v = (.agg #[.int .i64 0, .int .i64 0]), kNf (W.heap.size), kB ([true])] ?_ (by kernel_rfl) (by kernel_rfl) 26 rfl (by kernel_rfl) 9 _ rfl rfl (by kernel_rfl) ?_ ?_)
  · intro p hp
    simp only [List.mem_cons, List.not_mem_nil, or_false] at hp
    rcases hp with rfl | rfl | rfl | rfl | rfl | rfl | rfl | rfl | rfl
    · exact fun _ _ _ h _ => h
    · exact fun _ _ _ h _ => h
    · exact kR_stays _
    · exact kEv_stays _ _ _
    · exact kEv_stays _ _ _
    · exact kB_stays _
    · exact fun _ _ _ h _ => h
    · exact kNf_stays _
    · exact kB_stays _
  · refine ⟨?_, ?_, ?_, ?_, ?_, ?_, ?_, ?_, ?_, trivial⟩
    · intro a wx hB hold hdep K hK
      have t1 : a.tmps[1]? = some (.pointer (some ⟨w.heap.size + 1, 0, none⟩)) := hold.2.2 1 rfl; obtain ⟨k0, k1, k2, -⟩ := blk3 (below_keep hB HM.out); clear hold hdep; go_simp; exact hK.out _ _ rfl (Below.refl _ _)
    · intro a wx hB hold hdep K hK
      clear hold hdep; go_simp; exact hK.out _ _ rfl (Below.refl _ _)
    · intro a wx hB hold hdep K hK
      obtain ⟨v8, t8, p8⟩ := hdep 1 rfl _ 8 rfl rfl; have e8 : v8 = (.agg #[.int .i64 3, .string ⟨#[]⟩, .slice none 0 0]) := p8; subst e8; (have HW : Hid (Calls Try.prog 23 #[.int .i64 8, .agg #[.int .i64 3, .string ⟨#[]⟩, .slice none 0 0]] wx _) := ofP_any (fun _ => True) 8 (.mk 3 ⟨#[]⟩ []) _ wx (fun _ _ => trivial) (Rep.leaf (by decide))); clear hold hdep; go_simp; refine HW.out.mono ?_; rintro _ w9 ⟨x9, rfl, hr9, hb9⟩; (have H9 : Hid (Rep w9 (fun _ => True) (fOne) x9) := hr9); clear hr9; go_simp; exact hK.out _ _ H9.out hb9
    · intro a wx hB hold hdep K hK
      obtain ⟨v7, t7, p7⟩ := hdep 0 rfl _ 7 rfl rfl; have e7 : v7 = (.agg #[.int .i64 1, .slice none 0 0, .slice (some ⟨w.heap.size, 0, none⟩) 1 1]) := p7; subst e7; obtain ⟨v9, t9, p9⟩ := hdep 2 rfl _ 9 rfl rfl; have P9 : Hid ((kR (fOne)) v9 wx) := p9; clear p9; have HW : Hid (Calls Try.prog 10 #[(.agg #[.int .i64 1, .slice none 0 0, .slice (some ⟨w.heap.size, 0, none⟩) 1 1]), v9] wx _) := one_eval _ v9 wx (HMo.out.up hB) P9.out; clear hold hdep; go_simp; refine HW.out.mono ?_; rintro _ w9 ⟨x9, rfl, hr9, hb9⟩; have H9 : Hid (BL w9 x9 ([true])) := hr9; clear hr9; go_simp; exact hK.out _ _ ⟨x9, rfl, H9.out⟩ hb9
    · intro a wx hB hold hdep K hK
      obtain ⟨v10, t10, p10⟩ := hdep 3 rfl _ 10 rfl rfl; have P10 : Hid ((kEv 0 0 ([true])) v10 wx) := p10; clear p10; clear hold hdep; go_simp; exact hK.out _ _ P10.out (Below.refl _ _)
    · intro a wx hB hold hdep K hK
      obtain ⟨v6, t6, p6⟩ := hdep 4 rfl _ 6 rfl rfl; have P6 : Hid ((kEv 0 0 ([true])) v6 wx) := p6; clear p6; obtain ⟨x9, rfl, h9⟩ := P6.out; have H9 : Hid (BL wx x9 ([true])) := h9; clear h9 P6; clear hold hdep; go_simp; exact hK.out _ _ H9.out (Below.refl _ _)
    · intro a wx hB hold hdep K hK
      obtain ⟨v6, t6, p6⟩ := hdep 4 rfl _ 6 rfl rfl; have P6 : Hid ((kEv 0 0 ([true])) v6 wx) := p6; clear p6; obtain ⟨x9, rfl, -⟩ := P6.out; clear P6; clear hold hdep; go_simp; exact hK.out _ _ rfl (Below.refl _ _)
    · intro a wx hB hold hdep K hK
      have HA : Hid (W.heap.size ≤ wx.heap.size) := hB.size; clear hold hdep; go_simp; exact hK.out _ _ ⟨_, rfl, HA.out, blk_new _ _⟩ (below_more (Below.refl _ _) _)
    · intro a wx hB hold hdep K hK
      obtain ⟨v11, t11, p11⟩ := hdep 5 rfl _ 11 rfl rfl; have P11 : Hid ((kB ([true])) v11 wx) := p11; clear p11; clear hold hdep; go_simp; exact hK.out _ _ P11.out (Below.refl _ _)
  · intro a wx hB hold hgot K hK
    (obtain ⟨x1, tX, pX⟩ := hgot 8 _ 2 (by omega) rfl rfl); (obtain ⟨vP, tP, pP⟩ := hgot 7 _ 3 (by omega) rfl rfl); obtain ⟨b1, rfl, hbA, hbz⟩ := pP; (obtain ⟨vE, tE, pE⟩ := hgot 6 _ 12 (by omega) rfl rfl); have eE : vE = (.agg #[.int .i64 0, .int .i64 0]) := pE; subst eE; have HbA : Hid (W.heap.size ≤ b1) := hbA; have HbZ : Hid (wx.heap[b1]? = some (.cells #[.int .i64 0, .int .i64 0] 34 (0, 0))) := hbz; have HXx : Hid (BL wx x1 ([true])) := pX; have HBx : Hid (Below W.heap.size W wx) := hB; obtain ⟨z0, z1, z2, z3⟩ := blk2 HbZ.out; obtain ⟨tm, df⟩ := a; (obtain ⟨ys, zs, hys, hzs, htm, rfl⟩ := frame_two 2 2 2 7 4 6 13 rfl rfl rfl (by kernel_rfl) (Nat.le_of_ble_eq_true rfl) hold); obtain ⟨y2, y3, rfl⟩ := rowE2 ys hys; obtain ⟨y6, y7, y8, y9, y10, y11, y12, rfl⟩ := rowE7 zs hzs; simp only [List.take_succ_cons, List.take_zero, List.drop_succ_cons, List.drop_zero, List.cons_append, List.nil_append] at htm; subst htm; obtain rfl : _ = y2 := (someInjM tX).symm; obtain rfl : y3 = _ := someInjM tP; obtain rfl : y12 = _ := someInjM tE; clear hys hzs; clear hold hgot tX tP tE pE pX hbA hbz hB; go_simp; refine hK.out _ _ ?_; clear hK z0 z1 z2 z3; obtain ⟨W1, hF⟩ : ∃ F, F = (wx.setCell ⟨b1, 0, none⟩ (.int .i64 0)).setCell ⟨b1, 1, none⟩ (.int .i64 0) := ⟨_, rfl⟩; (have HW1 : Hid (Below W.heap.size W W1) := by rw [hF]; exact (HBx.out.setCell (p := ⟨b1, 0, none⟩) HbA.out _).setCell (p := ⟨b1, 1, none⟩) HbA.out _); (have HE1 : Hid (W1.heap[b1]? = some (.cells #[.int .i64 0, .int .i64 0] 34 (0, 0))) := by rw [hF]; exact set2 HbZ.out _ _); (have HL1 : Hid (BL W1 x1 ([true])) := by rw [hF]; exact BL.off2 HXx.out HbZ.out _ _); rw [← hF]; clear hF HXx HBx HbZ HbA; have HL1b := HL1.out; obtain ⟨ad, cp, rfl, h1, h2, h3⟩ := HL1b; (obtain ⟨gb, off, rfl, hc⟩ := h3 (by simp)); have c0 := hc 0 true rfl; rw [Nat.add_zero] at c0; obtain ⟨z0, z1, -⟩ := blk2 HE1.out; (have hcI : (1 : Int) ≤ (cp : Int) := by simp at h1; omega); clear h1 h2 h3 hc; simp only [List.length_cons, List.length_nil, Nat.zero_add]; go_wp2_with fail; go_ret; exact ⟨rfl, below_join HBW.out HW1.out⟩
end Go.Proofs.Ytfhbpfgbnfcdaag
/- The worlds that are reached from one, and the model of them, plain. -/
namespace Go.Proofs.Ytfhbpfgbnfcdaag
open Go.RowKit

/-- Worlds, each once, with all that they see. -/
structure Gen (N : Nat) (S : Nat → List Nat) (L : List Nat) : Prop where
  nd : L.Nodup
  lt : ∀ u ∈ L, u < N
  cl : ∀ u ∈ L, ∀ v ∈ S u, v ∈ L
/-- Where a world went. -/
def atI (L : List Nat) (v : Nat) : Int := if v ∈ L then (L.idxOf v : Int) else -1
def relG (S : Nat → List Nat) (L : List Nat) (n : Nat) : List (Int × Int) := (List.range n).flatMap fun i => (S (L.getD i 0)).map fun v => ((i : Int), atI L v)
def trG (tr : List (List (List UInt8))) (L : List Nat) : List (List (List UInt8)) := L.map fun u => tr.getD u []
theorem nodup_le_len {α : Type} [DecidableEq α] : ∀ {a b : List α}, a.Nodup → (∀ x ∈ a, x ∈ b) → a.length ≤ b.length
  | [], b, _, _ => Nat.zero_le _
  | x :: a, b, hn, hs => by
    (have hx : x ∈ b := hs x (by simp)); have hn' := List.nodup_cons.1 hn
    have := nodup_le_len (a := a) (b := b.erase x) hn'.2 fun y hy => by
      (have hne : y ≠ x := fun e => hn'.1 (by rw [← e]; exact hy)); (exact (List.mem_erase_of_ne hne).2 (hs y (by simp [hy])))
    rw [List.length_erase_of_mem hx] at this; (have hp : 0 < b.length := List.length_pos_iff.2 (fun e => by rw [e] at hx; cases hx))
    simp
    omega
theorem gen_len {N : Nat} {S : Nat → List Nat} {L : List Nat} (h : Gen N S L) : L.length ≤ N := by
  (have := nodup_le_len (b := List.range N) h.nd fun u hu => List.mem_range.2 (h.lt u hu))
  rwa [List.length_range] at this
theorem getD_mem {L : List Nat} {i : Nat} (h : i < L.length) : L.getD i 0 ∈ L := by
  rw [List.getD_eq_getElem?_getD, List.getElem?_eq_getElem h]; exact List.getElem_mem h
theorem getD_idx {L : List Nat} {u : Nat} (h : u ∈ L) : L.getD (L.idxOf u) 0 = u := by
  have hi := List.idxOf_lt_length_iff.2 h; rw [List.getD_eq_getElem?_getD, List.getElem?_eq_getElem hi]; exact List.getElem_idxOf hi
theorem mem_relG {S : Nat → List Nat} {L : List Nat} {n : Nat} {p : Int × Int} : p ∈ relG S L n ↔ ∃ i, i < n ∧ ∃ v ∈ S (L.getD i 0), p = ((i : Int), atI L v) := by
  unfold relG; rw [List.mem_flatMap]
  constructor
  · rintro ⟨i, hi, hp⟩
    obtain ⟨v, hv, e⟩ := List.mem_map.1 hp; exact ⟨i, List.mem_range.1 hi, v, hv, e.symm⟩
  · rintro ⟨i, hi, v, hv, e⟩
    exact ⟨i, List.mem_range.2 hi, List.mem_map.2 ⟨v, hv, e.symm⟩⟩
theorem relG_succ (S : Nat → List Nat) (L : List Nat) (n : Nat) : relG S L (n + 1) = relG S L n ++ (S (L.getD n 0)).map fun v => ((n : Int), atI L v) := by
  unfold relG; rw [List.range_succ, List.flatMap_append]
  simp
theorem relG_len {S : Nat → List Nat} {L : List Nat} (rel : List (Int × Int)) (hn : L.Nodup) (hS : ∀ u, (S u).Nodup) (hr : ∀ u v, v ∈ S u → ((u : Int), (v : Int)) ∈ rel) : ∀ n, n ≤ L.length → (relG S L n).length ≤ rel.length := by
  intro n hnl
  have e : ∀ n, n ≤ L.length → (relG S L n).length = ((L.take n).flatMap fun (u : Nat) => (S u).map fun (v : Nat) => ((u : Int), (v : Int))).length := by
    intro n
    induction n with
    | zero => intro _; simp [relG]
    | succ n ih =>
      intro h; (rw [relG_succ, List.length_append, ih (by omega), List.take_add_one, List.getElem?_eq_getElem (by omega), List.flatMap_append, List.length_append])
      congr 1
      (rw [List.getD_eq_getElem?_getD, List.getElem?_eq_getElem (by omega)])
      simp
  rw [e n hnl]; refine nodup_le_len ?_ ?_
  · have key : ∀ (l : List Nat), l.Nodup → (l.flatMap fun (u : Nat) => (S u).map fun (v : Nat) => ((u : Int), (v : Int))).Nodup := by
      intro l
      induction l with
      | nil => intro _; simp
      | cons u l ih =>
        intro h; have h' := List.nodup_cons.1 h; rw [List.flatMap_cons, List.nodup_append]; refine ⟨?_, ih h'.2, ?_⟩
        · refine List.Pairwise.map _ (fun a b hab e => hab ?_) (hS u)
          have : (a : Int) = (b : Int) := (Prod.mk.injEq _ _ _ _ ▸ e : _ ∧ (a : Int) = (b : Int)).2; omega
        · intro a ha b hb e
          obtain ⟨v, -, rfl⟩ := List.mem_map.1 ha; obtain ⟨u', hu', hb2⟩ := List.mem_flatMap.1 hb; obtain ⟨v', -, rfl⟩ := List.mem_map.1 hb2
          have e1 : u = u' := by
            have := (Prod.mk.injEq _ _ _ _ ▸ e : (u : Int) = (u' : Int) ∧ _).1; omega
          (exact h'.1 (by rw [e1]; exact hu'))
    exact key _ (hn.sublist (List.take_sublist _ _))
  · intro p hp
    obtain ⟨u, -, hp2⟩ := List.mem_flatMap.1 hp; obtain ⟨v, hv, rfl⟩ := List.mem_map.1 hp2; exact hr u v hv
theorem seenTo_nodup (N : Nat) (rel : List (Int × Int)) (u v : Nat) : (seenTo N rel u v).Nodup := (List.nodup_range).sublist List.filter_sublist
theorem wfirst_ok : ∀ (ls : List (List (List UInt8))) (i : Nat), (∀ l ∈ ls, wcode l = 0) → wfirst ls i = (0, 0)
  | [], _, _ => rfl
  | l :: ls, i, h => by
    (rw [wfirst, if_pos (h l (by simp))]); (exact wfirst_ok ls (i + 1) fun l' hl => h l' (by simp [hl]))
theorem mdcode_wc {W P : Int} {m : Mdl} (h : (mdcode W P m).1 = 0) : ∀ l ∈ m.tr, wcode l = 0 := by
  unfold mdcode at h
  split at h
  · cases h
  split at h
  · cases h
  split at h
  · cases h
  exact wfirst_zero _ _ h
/-- The model of what is reached is fine. -/
theorem gen_code {N : Nat} {rel : List (Int × Int)} {tr : List (List (List UInt8))} (h0 : (mdcode 40 2000 ⟨(N : Int), rel, tr⟩).1 = 0) {L : List Nat} (hg : Gen N (fun u => seenTo N rel u N) L) (hL : L ≠ []) : mdcode 40 2000 ⟨(L.length : Int), relG (fun u => seenTo N rel u N) L L.length, trG tr L⟩ = (0, 0) := by
  obtain ⟨N', hn, -, hN, hr, ht, hin⟩ := mdcode_in h0; simp only at hn hr ht hin; (obtain rfl : N = N' := by omega); have hlen := gen_len hg; have hpos : 0 < L.length := List.length_pos_iff.2 hL; (have hrl := relG_len (S := fun u => seenTo N rel u N) rel hg.nd (fun u => seenTo_nodup N rel u N) (fun u v hv => ((seenTo_mem hin).1 hv).2) L.length (Nat.le_refl _)); unfold mdcode; (rw [if_neg (by simp only; omega), if_neg (by simp [trG])]); rw [if_neg]
  · refine wfirst_ok _ _ fun l hl => ?_
    simp only [trG] at hl; obtain ⟨u, hu, rfl⟩ := List.mem_map.1 hl; have hu' := hg.lt u hu; (rw [List.getD_eq_getElem?_getD, List.getElem?_eq_getElem (by omega)]); exact mdcode_wc h0 _ (List.getElem_mem _)
  · rw [Bool.not_eq_true, List.any_eq_false]
    intro p hp; simp only at hp; obtain ⟨i, hi, v, hv, rfl⟩ := mem_relG.1 hp; have hvL := hg.cl _ (getD_mem hi) v hv; have hix := List.idxOf_lt_length_iff.2 hvL; simp [pairBad, atI, hvL]; omega
theorem mem_seeG {N : Nat} {rel : List (Int × Int)} {L : List Nat} (hg : Gen N (fun u => seenTo N rel u N) L) {i j : Nat} (hi : i < L.length) : j ∈ seeR L.length (relB (relG (fun u => seenTo N rel u N) L L.length)) i ↔ ∃ v ∈ seenTo N rel (L.getD i 0) N, j = L.idxOf v := by
  rw [mem_seeR, relB, List.contains_iff_mem, mem_relG]
  constructor
  · rintro ⟨hj, i', hi', v, hv, e⟩
    simp only [Prod.mk.injEq] at e; (have e1 : i = i' := by omega); subst e1; have hvL := hg.cl _ (getD_mem hi) v hv; refine ⟨v, hv, ?_⟩; have := e.2; rw [atI, if_pos hvL] at this; omega
  · rintro ⟨v, hv, rfl⟩
    have hvL := hg.cl _ (getD_mem hi) v hv; (exact ⟨List.idxOf_lt_length_iff.2 hvL, i, hi, v, hv, by rw [atI, if_pos hvL]⟩)
mutual
/-- What is true at a world hangs on what is reached alone. -/
theorem gen_mtv {N : Nat} {rel : List (Int × Int)} {tr : List (List (List UInt8))} (hin : InR N rel) {L : List Nat} (hg : Gen N (fun u => seenTo N rel u N) L) : ∀ (f : Fm) (i : Nat), i < L.length → mtv (seeR L.length (relB (relG (fun u => seenTo N rel u N) L L.length))) (pT (trG tr L)) f i = mtv (seeR N (relB rel)) (pT tr) f (L.getD i 0)
  | .mk k n ks, i, hi => by
    (have h0 := fun i hi => gen_mtvs hin hg (tr := tr) ks 0 i hi); (have h1 := fun i hi => gen_mtvs hin hg (tr := tr) ks 1 i hi); rw [mtv, mtv]; unfold mval
    have hp : pT (trG tr L) i n.data.toList = pT tr (L.getD i 0) n.data.toList := by
      unfold pT trG; rw [List.getD_eq_getElem?_getD, List.getElem?_map, List.getElem?_eq_getElem hi]; simp [List.getElem?_eq_getElem hi]
    have key : ∀ (A B : Nat → Bool), (∀ j, j < L.length → A j = B (L.getD j 0)) → (seeR L.length (relB (relG (fun u => seenTo N rel u N) L L.length)) i).all A = (seeR N (relB rel) (L.getD i 0)).all B ∧ (seeR L.length (relB (relG (fun u => seenTo N rel u N) L L.length)) i).any A = (seeR N (relB rel) (L.getD i 0)).any B := fun A B hAB => by
      have hx : ∀ v ∈ seenTo N rel (L.getD i 0) N, A (L.idxOf v) = B v := fun v hv => by
        have hvL := hg.cl _ (getD_mem hi) v hv; rw [hAB _ (List.idxOf_lt_length_iff.2 hvL), getD_idx hvL]
      rw [seeR_eq hin]
      constructor
      · rw [Bool.eq_iff_iff, List.all_eq_true, List.all_eq_true]
        constructor
        · intro h v hv
          rw [← hx v hv]; exact h _ ((mem_seeG hg hi).2 ⟨v, hv, rfl⟩)
        · intro h j hj
          obtain ⟨v, hv, rfl⟩ := (mem_seeG hg hi).1 hj; rw [hx v hv]; exact h v hv
      · rw [Bool.eq_iff_iff, List.any_eq_true, List.any_eq_true]
        constructor
        · rintro ⟨j, hj, h⟩
          obtain ⟨v, hv, rfl⟩ := (mem_seeG hg hi).1 hj; (exact ⟨v, hv, by rw [← hx v hv]; exact h⟩)
        · rintro ⟨v, hv, h⟩
          (exact ⟨_, (mem_seeG hg hi).2 ⟨v, hv, rfl⟩, by rw [hx v hv]; exact h⟩)
    obtain ⟨k8, k9⟩ := key _ _ h0; simp only [hp]; rw [h0 i hi, h1 i hi, k8, k9]
theorem gen_mtvs {N : Nat} {rel : List (Int × Int)} {tr : List (List (List UInt8))} (hin : InR N rel) {L : List Nat} (hg : Gen N (fun u => seenTo N rel u N) L) : ∀ (fs : List Fm) (q i : Nat), i < L.length → (mtvs (seeR L.length (relB (relG (fun u => seenTo N rel u N) L L.length))) (pT (trG tr L)) fs).getD q (fun _ => false) i = (mtvs (seeR N (relB rel)) (pT tr) fs).getD q (fun _ => false) (L.getD i 0)
  | [], q, i, _ => by rw [mtvs, mtvs]; simp
  | f :: fs, q, i, hi => by
    rw [mtvs, mtvs]
    cases q with
    | zero => simpa using gen_mtv hin hg (tr := tr) f i hi
    | succ q => simpa using gen_mtvs hin hg (tr := tr) fs q i hi
end
end Go.Proofs.Ytfhbpfgbnfcdaag
