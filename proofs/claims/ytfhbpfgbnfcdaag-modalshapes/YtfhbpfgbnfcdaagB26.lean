/- Texts of one proof, one behind the other: MEA. -/
import Derived.Test.YtfhbpfgbnfcdaagB24
import Derived.Test.YtfhbpfgbnfcdaagB15
/- Calls of Eval in the laws: facts; an example of the document. -/
namespace Go.Proofs.Ytfhbpfgbnfcdaag
open Go.RowKit

def kR (F : Fm) : Value → World → Prop := fun v w => Rep w (fun _ => True) F v
theorem kR_stays (F : Fm) : Stays (kR F) := fun _ _ _ h hb => Rep.up h hb
def kEv (c d : Int) (L : List Bool) : Value → World → Prop := fun v w => ∃ x, v = .tuple #[x, .agg #[.int .i64 c, .int .i64 d]] ∧ BL w x L
theorem kEv_stays (c d : Int) (L : List Bool) : Stays (kEv c d L) := fun _ _ _ ⟨x, e, h⟩ hb => ⟨x, e, h.up hb⟩
def kB (L : List Bool) : Value → World → Prop := fun v w => BL w v L
theorem kB_stays (L : List Bool) : Stays (kB L) := fun _ _ _ h hb => BL.up h hb
def kNf (A : Nat) : Value → World → Prop := fun v w => ∃ b, v = .pointer (some ⟨b, 0, none⟩) ∧ A ≤ b ∧ w.heap[b]? = some (.cells #[.int .i64 0, .int .i64 0] 34 (0, 0))
theorem kNf_stays (A : Nat) : Stays (kNf A) := fun _ _ _ ⟨b, e, h1, h2⟩ hb => ⟨b, e, h1, below_keep hb h2⟩
theorem BL.off2 {w : World} {v : Value} {l : List Bool} {b : Nat} {x0 x1 : Int} {T : TypeId} (h : BL w v l) (hz : w.heap[b]? = some (.cells #[.int .i64 x0, .int .i64 x1] T (0, 0))) (c d : Int) : BL ((w.setCell ⟨b, 0, none⟩ (.int .i64 c)).setCell ⟨b, 1, none⟩ (.int .i64 d)) v l := by
  have h2 : (w.setCell ⟨b, 0, none⟩ (.int .i64 c)).heap[b]? = some (.cells #[.int .i64 c, .int .i64 x1] T (0, 0)) := set_cellE hz _; exact BL.off (BL.off h hz _ _) h2 _ _
/-- The example: a world that sees nothing. -/
def mOne : Mdl := ⟨1, [], [[]]⟩
def fOne : Fm := .mk 8 ⟨#[]⟩ [.mk 3 ⟨#[]⟩ []]
theorem one_code : mfcode mOne fOne = (0, 0) := by decide +kernel
theorem one_ev : evL mOne fOne = [true] := by decide +kernel
theorem one_eval (v u : Value) (w : World) (hv : MR w mOne v) (hu : Rep w (fun _ => True) fOne u) :
    Calls Try.prog 10 #[v, u] w fun e w' => ∃ x, e = .returned (.tuple #[x, .agg #[.int .i64 0, .int .i64 0]]) ∧ BL w' x [true] ∧ Below w.heap.size w w' := by
  have := eval_any mOne fOne v u w hv hu; rw [one_code, one_ev] at this; exact this
theorem rowE2 (l : List Value) (h0 : l.length = 2) : ∃ x0 x1, l = [x0, x1] := by
  obtain ⟨x0, l1, e0, h1⟩ := cons_lenM h0; obtain ⟨x1, l2, e1, h2⟩ := cons_lenM h1; have e2 : l2 = [] := List.length_eq_zero_iff.1 h2; subst e2 e1 e0; exact ⟨x0, x1, rfl⟩
theorem rowE7 (l : List Value) (h0 : l.length = 7) : ∃ x0 x1 x2 x3 x4 x5 x6, l = [x0, x1, x2, x3, x4, x5, x6] := by
  obtain ⟨x0, l1, e0, h1⟩ := cons_lenM h0; obtain ⟨x1, l2, e1, h2⟩ := cons_lenM h1; obtain ⟨x2, l3, e2, h3⟩ := cons_lenM h2; obtain ⟨x3, l4, e3, h4⟩ := cons_lenM h3; obtain ⟨x4, l5, e4, h5⟩ := cons_lenM h4; obtain ⟨x5, l6, e5, h6⟩ := cons_lenM h5; obtain ⟨x6, l7, e6, h7⟩ := cons_lenM h6; have e7 : l7 = [] := List.length_eq_zero_iff.1 h7; subst e7 e6 e5 e4 e3 e2 e1 e0; exact ⟨x0, x1, x2, x3, x4, x5, x6, rfl⟩
set_option maxRecDepth 10000 in
set_option maxHeartbeats 4000000 in
theorem modalBegun_any (w : World) : Calls Try.prog 7 #[] w fun e w' => e = .returned (.bool true) ∧ Below w.heap.size w w' := by
  obtain ⟨W, hW⟩ : ∃ W, W = (w.alloc (.cells #[.slice none 0 0] 48 (0, 0))).alloc (.cells #[.int .i64 1, .slice none 0 0, .slice (some ⟨w.heap.size, 0, none⟩) 1 1] 25 (0, 0)) := ⟨_, rfl⟩; (have HBW : Hid (Below w.heap.size w W) := by rw [hW]; exact below_more (below_more (Below.refl _ w) _) _); (have HM : Hid (W.heap[w.heap.size + 1]? = some (.cells #[.int .i64 1, .slice none 0 0, .slice (some ⟨w.heap.size, 0, none⟩) 1 1] 25 (0, 0))) := by rw [hW]; exact blk_secE _ _ _)
  have HMo : Hid (MR W mOne (.agg #[.int .i64 1, .slice none 0 0, .slice (some ⟨w.heap.size, 0, none⟩) 1 1])) := by
    (refine ⟨none, 0, some ⟨w.heap.size, 0, none⟩, 1, rfl, ⟨none, 0, rfl, Nat.le_refl _, by decide, fun h => absurd rfl h⟩, ⟨some ⟨w.heap.size, 0, none⟩, 1, rfl, Nat.le_refl _, by decide, fun _ => ⟨w.heap.size, 0, rfl, fun j r hj => ?_⟩⟩, fun l hl t ht => ?_⟩)
    · match j, hj with
      | 0, hj =>
        (have e : [] = r := by simpa [mOne] using hj); subst e; (refine ⟨.slice none 0 0, ?_, none, 0, rfl, Nat.le_refl _, by decide, fun h => absurd rfl h⟩); rw [hW]
        exact blk_cell (alloc_keep (blk_new w _) _) 0
      | j + 1, hj => simp [mOne] at hj
    · have e : l = [] := by simpa [mOne] using hl
      subst e
      cases ht
  go_enter Try.func7, Try.ntmps7
  go_wp2_with fail; rw [← hW]; clear hW; (refine wp_region_last (by kernel_rfl) [fun v _ => v = (.agg #[.int .i64 1, .slice none 0 0, .slice (some ⟨w.heap.size, 0, none⟩) 1 1]), fun v _ => v = (.agg #[.int .i64 3, .string ⟨#[]⟩, .slice none 0 0]), kR (fOne), kEv 0 0 ([true]), kEv 0 0 ([true]), kB ([true]), fun v _ => v = (.agg #[.int .i64 0, .int .i64 0]), kNf (W.heap.size), kB ([true])] ?_ (by kernel_rfl) (by kernel_rfl) 26 rfl (by kernel_rfl) 9 _ rfl rfl (by kernel_rfl) ?_ ?_)
  · intro p hp
    simp only [List.mem_cons, List.not_mem_nil, or_false] at hp
    rcases hp with rfl | rfl | rfl | rfl | rfl | rfl | rfl | rfl | rfl
    · exact fun _ _ _ h _ => h
    · exact fun _ _ _ h _ => h
    · exact kR_stays _
    · exact kEv_stays _ _ _
    · exact kEv_stays _ _ _
    · exact kB_stays _
    · exact fun _ _ _ h _ => h
    · exact kNf_stays _
    · exact kB_stays _
  · refine ⟨?_, ?_, ?_, ?_, ?_, ?_, ?_, ?_, ?_, trivial⟩
    · intro a wx hB hold hdep K hK
      have t1 : a.tmps[1]? = some (.pointer (some ⟨w.heap.size + 1, 0, none⟩)) := hold.2.2 1 rfl; obtain ⟨k0, k1, k2, -⟩ := blk3 (below_keep hB HM.out); clear hold hdep; go_simp; exact hK.out _ _ rfl (Below.refl _ _)
    · intro a wx hB hold hdep K hK
      clear hold hdep; go_simp; exact hK.out _ _ rfl (Below.refl _ _)
    · intro a wx hB hold hdep K hK
      obtain ⟨v8, t8, p8⟩ := hdep 1 rfl _ 8 rfl rfl; have e8 : v8 = (.agg #[.int .i64 3, .string ⟨#[]⟩, .slice none 0 0]) := p8; subst e8; (have HW : Hid (Calls Try.prog 23 #[.int .i64 8, .agg #[.int .i64 3, .string ⟨#[]⟩, .slice none 0 0]] wx _) := ofP_any (fun _ => True) 8 (.mk 3 ⟨#[]⟩ []) _ wx (fun _ _ => trivial) (Rep.leaf (by decide))); clear hold hdep; go_simp; refine HW.out.mono ?_; rintro _ w9 ⟨x9, rfl, hr9, hb9⟩; (have H9 : Hid (Rep w9 (fun _ => True) (fOne) x9) := hr9); clear hr9; go_simp; exact hK.out _ _ H9.out hb9
    · intro a wx hB hold hdep K hK
      obtain ⟨v7, t7, p7⟩ := hdep 0 rfl _ 7 rfl rfl; have e7 : v7 = (.agg #[.int .i64 1, .slice none 0 0, .slice (some ⟨w.heap.size, 0, none⟩) 1 1]) := p7; subst e7; obtain ⟨v9, t9, p9⟩ := hdep 2 rfl _ 9 rfl rfl; have P9 : Hid ((kR (fOne)) v9 wx) := p9; clear p9; have HW : Hid (Calls Try.prog 10 #[(.agg #[.int .i64 1, .slice none 0 0, .slice (some ⟨w.heap.size, 0, none⟩) 1 1]), v9] wx _) := one_eval _ v9 wx (HMo.out.up hB) P9.out; clear hold hdep; go_simp; refine HW.out.mono ?_; rintro _ w9 ⟨x9, rfl, hr9, hb9⟩; have H9 : Hid (BL w9 x9 ([true])) := hr9; clear hr9; go_simp; exact hK.out _ _ ⟨x9, rfl, H9.out⟩ hb9
    · intro a wx hB hold hdep K hK
      obtain ⟨v10, t10, p10⟩ := hdep 3 rfl _ 10 rfl rfl; have P10 : Hid ((kEv 0 0 ([true])) v10 wx) := p10; clear p10; clear hold hdep; go_simp; exact hK.out _ _ P10.out (Below.refl _ _)
    · intro a wx hB hold hdep K hK
      obtain ⟨v6, t6, p6⟩ := hdep 4 rfl _ 6 rfl rfl; have P6 : Hid ((kEv 0 0 ([true])) v6 wx) := p6; clear p6; obtain ⟨x9, rfl, h9⟩ := P6.out; have H9 : Hid (BL wx x9 ([true])) := h9; clear h9 P6; clear hold hdep; go_simp; exact hK.out _ _ H9.out (Below.refl _ _)
    · intro a wx hB hold hdep K hK
      obtain ⟨v6, t6, p6⟩ := hdep 4 rfl _ 6 rfl rfl; have P6 : Hid ((kEv 0 0 ([true])) v6 wx) := p6; clear p6; obtain ⟨x9, rfl, -⟩ := P6.out; clear P6; clear hold hdep; go_simp; exact hK.out _ _ rfl (Below.refl _ _)
    · intro a wx hB hold hdep K hK
      have HA : Hid (W.heap.size ≤ wx.heap.size) := hB.size; clear hold hdep; go_simp; exact hK.out _ _ ⟨_, rfl, HA.out, blk_new _ _⟩ (below_more (Below.refl _ _) _)
    · intro a wx hB hold hdep K hK
      obtain ⟨v11, t11, p11⟩ := hdep 5 rfl _ 11 rfl rfl; have P11 : Hid ((kB ([true])) v11 wx) := p11; clear p11; clear hold hdep; go_simp; exact hK.out _ _ P11.out (Below.refl _ _)
  · intro a wx hB hold hgot K hK
    (obtain ⟨x1, tX, pX⟩ := hgot 8 _ 2 (by omega) rfl rfl); (obtain ⟨vP, tP, pP⟩ := hgot 7 _ 3 (by omega) rfl rfl); obtain ⟨b1, rfl, hbA, hbz⟩ := pP; (obtain ⟨vE, tE, pE⟩ := hgot 6 _ 12 (by omega) rfl rfl); have eE : vE = (.agg #[.int .i64 0, .int .i64 0]) := pE; subst eE; have HbA : Hid (W.heap.size ≤ b1) := hbA; have HbZ : Hid (wx.heap[b1]? = some (.cells #[.int .i64 0, .int .i64 0] 34 (0, 0))) := hbz; have HXx : Hid (BL wx x1 ([true])) := pX; have HBx : Hid (Below W.heap.size W wx) := hB; obtain ⟨z0, z1, z2, z3⟩ := blk2 HbZ.out; obtain ⟨tm, df⟩ := a; (obtain ⟨ys, zs, hys, hzs, htm, rfl⟩ := frame_two 2 2 2 7 4 6 13 rfl rfl rfl (by kernel_rfl) (Nat.le_of_ble_eq_true rfl) hold); obtain ⟨y2, y3, rfl⟩ := rowE2 ys hys; obtain ⟨y6, y7, y8, y9, y10, y11, y12, rfl⟩ := rowE7 zs hzs; simp only [List.take_succ_cons, List.take_zero, List.drop_succ_cons, List.drop_zero, List.cons_append, List.nil_append] at htm; subst htm; obtain rfl : _ = y2 := (someInjM tX).symm; obtain rfl : y3 = _ := someInjM tP; obtain rfl : y12 = _ := someInjM tE; clear hys hzs; clear hold hgot tX tP tE pE pX hbA hbz hB; go_simp; refine hK.out _ _ ?_; clear hK z0 z1 z2 z3; obtain ⟨W1, hF⟩ : ∃ F, F = (wx.setCell ⟨b1, 0, none⟩ (.int .i64 0)).setCell ⟨b1, 1, none⟩ (.int .i64 0) := ⟨_, rfl⟩; (have HW1 : Hid (Below W.heap.size W W1) := by rw [hF]; exact (HBx.out.setCell (p := ⟨b1, 0, none⟩) HbA.out _).setCell (p := ⟨b1, 1, none⟩) HbA.out _); (have HE1 : Hid (W1.heap[b1]? = some (.cells #[.int .i64 0, .int .i64 0] 34 (0, 0))) := by rw [hF]; exact set2 HbZ.out _ _); (have HL1 : Hid (BL W1 x1 ([true])) := by rw [hF]; exact BL.off2 HXx.out HbZ.out _ _); rw [← hF]; clear hF HXx HBx HbZ HbA; have HL1b := HL1.out; obtain ⟨ad, cp, rfl, h1, h2, h3⟩ := HL1b; (obtain ⟨gb, off, rfl, hc⟩ := h3 (by simp)); have c0 := hc 0 true rfl; rw [Nat.add_zero] at c0; obtain ⟨z0, z1, -⟩ := blk2 HE1.out; (have hcI : (1 : Int) ≤ (cp : Int) := by simp at h1; omega); clear h1 h2 h3 hc; simp only [List.length_cons, List.length_nil, Nat.zero_add]; go_wp2_with fail; go_ret; exact ⟨rfl, below_join HBW.out HW1.out⟩
end Go.Proofs.Ytfhbpfgbnfcdaag
