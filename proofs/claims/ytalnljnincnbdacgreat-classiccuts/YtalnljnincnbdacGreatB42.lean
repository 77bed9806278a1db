/- Texts of one proof, one behind the other: KYA. -/
import Derived.Test.YtalnljnincnbdacGreatB41
import Derived.Test.YtalnljnincnbdacGreatB39
/- Walks: ClassicCuts. -/
namespace Go.Proofs.YtalnljnincnbdacGreat
open Go.RowKit

theorem rowOf9 (l : List Value) (h0 : l.length = 9) : ∃ x0 x1 x2 x3 x4 x5 x6 x7 x8, l = [x0, x1, x2, x3, x4, x5, x6, x7, x8] := by
  obtain ⟨x0, l1, e0, h1⟩ := cons_len h0; obtain ⟨x1, l2, e1, h2⟩ := cons_len h1; obtain ⟨x2, l3, e2, h3⟩ := cons_len h2; obtain ⟨x3, l4, e3, h4⟩ := cons_len h3; obtain ⟨x4, l5, e4, h5⟩ := cons_len h4; obtain ⟨x5, l6, e5, h6⟩ := cons_len h5; obtain ⟨x6, l7, e6, h7⟩ := cons_len h6; obtain ⟨x7, l8, e7, h8⟩ := cons_len h7; obtain ⟨x8, l9, e8, h9⟩ := cons_len h8; have e9 : l9 = [] := List.length_eq_zero_iff.1 h9; subst e9 e8 e7 e6 e5 e4 e3 e2 e1 e0; exact ⟨x0, x1, x2, x3, x4, x5, x6, x7, x8, rfl⟩
theorem bool_both {a b c : Bool} (h : c = true ↔ a = true ∧ b = true) : c = (a && b) := by
  cases a <;> cases b <;> cases c <;> simp_all
set_option maxRecDepth 10000 in
set_option maxHeartbeats 8000000 in
theorem cuts_law (l r : List Fm) (f : Fm) (vl vr vf : Value) (w : World) (hl : FL w vl l) (hr : FL w vr r) (hf : Rep w (fun _ => True) f vf) : Calls Tryz.prog 4 #[.agg #[vl, vr], vf] w fun e w' => e = .returned (.bool true) ∧ Below w.heap.size w w' := by
  obtain ⟨kf, nf, ksf⟩ := f; obtain ⟨sf, cf, rfl⟩ := slice_shape hf; have HL : Hid (FL w vl l) := hl; have HR : Hid (FL w vr r) := hr; (have HF : Hid (Rep w (fun _ => True) (.mk kf nf ksf) (.agg #[.int .i64 kf, .string nf, .slice sf ksf.length cf])) := hf); obtain ⟨al, cl, rfl, -⟩ := hl; obtain ⟨ar, cr, rfl, -⟩ := hr; (have HBeg : Hid (∀ W, Calls Tryz.prog 7 #[] W _) := fun W => classicBegun_any W); (have HVs : Hid (∀ W, Below w.heap.size w W → Calls Tryz.prog 8 #[.agg #[(.slice al l.length cl), (.slice ar r.length cr)]] W _) := fun W hb => vastSeqG_any l r _ _ W (HL.out.up hb) (HR.out.up hb)); (have HVf : Hid (∀ W, Below w.heap.size w W → Calls Tryz.prog 22 #[(.agg #[.int .i64 kf, .string nf, .slice sf ksf.length cf]), .int .i64 0] W _) := fun W hb => vast_any (.mk kf nf ksf) _ W (HF.out.up hb)); obtain ⟨O2, hO2⟩ : ∃ O, O = Obj.cells #[.slice al l.length cl, .slice ar r.length cr] 24 (0, 0) := ⟨_, rfl⟩; obtain ⟨O3, hO3⟩ : ∃ O, O = Obj.cells #[.int .i64 kf, .string nf, .slice sf ksf.length cf] 29 (0, 0) := ⟨_, rfl⟩; obtain ⟨W0, hW0⟩ : ∃ W, W = (w.alloc O2).alloc O3 := ⟨_, rfl⟩; (have HB0 : Hid (Below w.heap.size w W0) := by rw [hW0]; exact below_more (below_more (Below.refl _ w) _) _); (have P2 : Hid (W0.heap[w.heap.size]? = some (.cells #[.slice al l.length cl, .slice ar r.length cr] 24 (0, 0))) := by rw [hW0, ← hO2]; exact alloc_keep (blk_new w O2) _); (have P3 : Hid (W0.heap[w.heap.size + 1]? = some (.cells #[.int .i64 kf, .string nf, .slice sf ksf.length cf] 29 (0, 0))) := by rw [hW0, ← hO3]; exact blk_two w O2 O3); have HWe : Hid ((w.alloc O2).alloc O3 = W0) := hW0.symm; clear hW0 hf
  go_enter Tryz.func4, Tryz.ntmps4
  go_wp2_with fail; rw [← hO2, ← hO3, HWe.out]; refine (HBeg.out W0).mono ?_; rintro e w1 ⟨rfl, hb1⟩; have HB1 : Hid (Below w.heap.size w w1) := below_join HB0.out hb1; have Q2 : Hid (w1.heap[w.heap.size]? = some (.cells #[.slice al l.length cl, .slice ar r.length cr] 24 (0, 0))) := below_keep hb1 P2.out; have Q3 : Hid (w1.heap[w.heap.size + 1]? = some (.cells #[.int .i64 kf, .string nf, .slice sf ksf.length cf] 29 (0, 0))) := below_keep hb1 P3.out; clear hb1 HBeg; obtain ⟨d0, d1, -⟩ := blk2 Q2.out; go_wp2_with fail; refine (HVs.out w1 HB1.out).mono ?_; rintro e w2 ⟨⟨b1, rfl, hgs⟩, hb2⟩; have HB2 : Hid (Below w.heap.size w w2) := below_join HB1.out hb2; have R2 : Hid (w2.heap[w.heap.size]? = some (.cells #[.slice al l.length cl, .slice ar r.length cr] 24 (0, 0))) := below_keep hb2 Q2.out; have R3 : Hid (w2.heap[w.heap.size + 1]? = some (.cells #[.int .i64 kf, .string nf, .slice sf ksf.length cf] 29 (0, 0))) := below_keep hb2 Q3.out; clear hb2 HVs d0 d1; obtain ⟨d0, d1, d2, -⟩ := blk3 R3.out
  cases b1
  case true =>
    clear hgs; go_wp2_with fail; go_ret; exact ⟨rfl, HB2.out⟩
  obtain ⟨-, hl3, hr3, hsl, hsr, -⟩ := (hgs rfl).parts; have HSl : Hid ((∀ g ∈ l, Slim g) ∧ ∀ g ∈ r, Slim g) := ⟨hsl, hsr⟩; have HLn : Hid (l.length ≤ 300 ∧ r.length ≤ 300) := ⟨hl3, hr3⟩; clear hgs hsl hsr hl3 hr3; go_wp2_with fail; refine (HVf.out w2 HB2.out).mono ?_; rintro e w3 ⟨⟨b2, rfl⟩, hb3⟩; have HB3 : Hid (Below w.heap.size w w3) := below_join HB2.out hb3; have S2 : Hid (w3.heap[w.heap.size]? = some (.cells #[.slice al l.length cl, .slice ar r.length cr] 24 (0, 0))) := below_keep hb3 R2.out; have S3 : Hid (w3.heap[w.heap.size + 1]? = some (.cells #[.int .i64 kf, .string nf, .slice sf ksf.length cf] 29 (0, 0))) := below_keep hb3 R3.out; clear hb3 HVf d0 d1 d2
  cases b2
  case true =>
    go_wp2_with fail; go_ret; exact ⟨rfl, HB3.out⟩
  obtain ⟨i0, hi0, hz0, hz1', hz2'⟩ := infoFormula; (have HRf : Hid (Rep w3 (· < w3.heap.size) (.mk kf nf ksf) (.agg #[.int .i64 kf, .string nf, .slice sf ksf.length cf])) := (HF.out.up HB3.out).move fun b hb _ => ⟨rfl, hb⟩); (have HOwn5 : Hid (∀ W, Below w3.heap.size w3 W → Calls Tryz.prog 23 #[(.slice ar r.length cr)] W fun e w' => ∃ ad cp, e = .returned (.slice ad r.length cp) ∧ KO W.heap.size w' ad cp r ∧ Below W.heap.size W w') := fun W hb => ownList_any r HLn.out.2 HSl.out.2 _ W ((HR.out.up HB3.out).up hb)); go_wp2_with fail; (refine wp_region_gh (by kernel_rfl) (by kernel_rfl) (by kernel_rfl) 110 rfl (by kernel_rfl) [fun _ v _ => v = (.pointer (some ⟨w.heap.size, 0, none⟩)), fun _ v _ => v = (.slice al l.length cl), fun _ v _ => v = (.pointer (some ⟨w.heap.size, 1, none⟩)), fun _ v _ => v = (.slice ar r.length cr), fun y v _ => v = .slice y.ad r.length y.cp, fun _ v _ => v = (.agg #[.int .i64 kf, .string nf, .slice sf ksf.length cf]), fun _ v w => ∃ q, v = .slice (some ⟨q, 0, none⟩) 1 1 ∧ w.heap[q]? = some (.cells #[.int .i64 kf, .string nf, .slice sf ksf.length cf] 29 (0, 0)), fun y v _ => v = .slice y.ad' (r.length + 1) y.cp', fun y v _ => v = .agg #[.slice al l.length cl, .slice y.ad' (r.length + 1) y.cp'], fun y v _ => v = .pointer (some ⟨y.g, 0, none⟩), fun _ _ _ => True] (fun L j => !(j == 6 && L 7)) (fun L => StC w3 r (.mk kf nf ksf) (fun y => #[.slice al l.length cl, .slice y.ad' (r.length + 1) y.cp']) (L 4) (L 7) (L 9) (L 10)) (GC.none0) ?_ ?_ ?_)
  · exact fun wx h _ => ⟨h, fun e => (by cases e), fun e => (by cases e), fun e => (by cases e)⟩
  · refine ⟨?_, ?_, ?_, ?_, ?_, ?_, ?_, ?_, ?_, ?_, ?_, trivial⟩
    · intro L y a wx hSt hLi hdl hcl hold hdep K hK
      (have HSt : Hid (StC w3 r (.mk kf nf ksf) (fun y => #[.slice al l.length cl, .slice y.ad' (r.length + 1) y.cp']) (L 4) (L 7) (L 9) (L 10) y wx) := hSt); clear hSt; have t2 : a.tmps[2]? = some (.pointer (some ⟨w.heap.size, 0, none⟩)) := hold 2 rfl; clear hold hdep hdl hcl hLi; go_simp; (exact hK.out _ _ y HSt.out rfl (fun j hj hl => ⟨hl, fun u h => h⟩))
    · intro L y a wx hSt hLi hdl hcl hold hdep K hK
      (have HSt : Hid (StC w3 r (.mk kf nf ksf) (fun y => #[.slice al l.length cl, .slice y.ad' (r.length + 1) y.cp']) (L 4) (L 7) (L 9) (L 10) y wx) := hSt); clear hSt; obtain ⟨v27, t27, q27⟩ := hdep 0 rfl _ 27 rfl rfl; have e27 : v27 = (.pointer (some ⟨w.heap.size, 0, none⟩)) := q27 rfl; subst e27; obtain ⟨d0, d1, -⟩ := blk2 (below_keep HSt.out.below S2.out); clear hold hdep hdl hcl hLi; go_simp; (exact hK.out _ _ y HSt.out rfl (fun j hj hl => ⟨hl, fun u h => h⟩))
    · intro L y a wx hSt hLi hdl hcl hold hdep K hK
      (have HSt : Hid (StC w3 r (.mk kf nf ksf) (fun y => #[.slice al l.length cl, .slice y.ad' (r.length + 1) y.cp']) (L 4) (L 7) (L 9) (L 10) y wx) := hSt); clear hSt; have t2 : a.tmps[2]? = some (.pointer (some ⟨w.heap.size, 0, none⟩)) := hold 2 rfl; clear hold hdep hdl hcl hLi; go_simp; (exact hK.out _ _ y HSt.out rfl (fun j hj hl => ⟨hl, fun u h => h⟩))
    · intro L y a wx hSt hLi hdl hcl hold hdep K hK
      (have HSt : Hid (StC w3 r (.mk kf nf ksf) (fun y => #[.slice al l.length cl, .slice y.ad' (r.length + 1) y.cp']) (L 4) (L 7) (L 9) (L 10) y wx) := hSt); clear hSt; obtain ⟨v29, t29, q29⟩ := hdep 2 rfl _ 29 rfl rfl; have e29 : v29 = (.pointer (some ⟨w.heap.size, 1, none⟩)) := q29 rfl; subst e29; obtain ⟨d0, d1, -⟩ := blk2 (below_keep HSt.out.below S2.out); clear hold hdep hdl hcl hLi; go_simp; (exact hK.out _ _ y HSt.out rfl (fun j hj hl => ⟨hl, fun u h => h⟩))
    · intro L y a wx hSt hLi hdl hcl hold hdep K hK
      (have HSt : Hid (StC w3 r (.mk kf nf ksf) (fun y => #[.slice al l.length cl, .slice y.ad' (r.length + 1) y.cp']) (L 4) (L 7) (L 9) (L 10) y wx) := hSt); clear hSt; obtain ⟨v30, t30, q30⟩ := hdep 3 rfl _ 30 rfl rfl; have e30 : v30 = (.slice ar r.length cr) := q30 rfl; subst e30; (have e7 : L 7 = false := not_yet hLi fun h => hcl 7 _ rfl h 4 rfl); (have e10 : L 10 = false := not_yet hLi fun h => hcl 10 _ rfl h 4 rfl); clear hold hdep hdl; go_simp; refine (HOwn5.out wx HSt.out.below).mono ?_; rintro e w3 ⟨ad3, cp3, rfl, hko, hb3⟩; refine hK.out _ _ { y with ad := ad3, cp := cp3 } (HSt.out.mine e7 e10 hb3 hko) rfl ?_; intro j hj hl
      rcases j with _ | _ | _ | _ | _ | _ | _ | _ | _ | _ | _ | j
      · exact ⟨hl, fun u h => h⟩
      · exact ⟨hl, fun u h => h⟩
      · exact ⟨hl, fun u h => h⟩
      · exact ⟨hl, fun u h => h⟩
      · exact Bool.noConfusion (hLi.symm.trans hj)
      · exact ⟨hl, fun u h => h⟩
      · exact ⟨hl, fun u ⟨q, e, h⟩ => ⟨q, e, below_keep hb3 h⟩⟩
      · exact Bool.noConfusion (hLi.symm.trans (hcl 7 _ rfl hj 4 rfl))
      · exact Bool.noConfusion (hLi.symm.trans (hcl 7 _ rfl (hcl 8 _ rfl hj 7 rfl) 4 rfl))
      · exact ⟨hl, fun u h => h⟩
      · exact ⟨hl, fun u h => h⟩
      · exact ⟨hl, fun u h => h⟩
    · intro L y a wx hSt hLi hdl hcl hold hdep K hK
      (have HSt : Hid (StC w3 r (.mk kf nf ksf) (fun y => #[.slice al l.length cl, .slice y.ad' (r.length + 1) y.cp']) (L 4) (L 7) (L 9) (L 10) y wx) := hSt); clear hSt; have t3 : a.tmps[3]? = some (.pointer (some ⟨w.heap.size + 1, 0, none⟩)) := hold 3 rfl; obtain ⟨d0, d1, d2, -⟩ := blk3 (below_keep HSt.out.below S3.out); clear hold hdep hdl hcl hLi; go_simp; (exact hK.out _ _ y HSt.out rfl (fun j hj hl => ⟨hl, fun u h => h⟩))
    · intro L y a wx hSt hLi hdl hcl hold hdep K hK
      (have HSt : Hid (StC w3 r (.mk kf nf ksf) (fun y => #[.slice al l.length cl, .slice y.ad' (r.length + 1) y.cp']) (L 4) (L 7) (L 9) (L 10) y wx) := hSt); clear hSt; obtain ⟨v32, t32, q32⟩ := hdep 5 rfl _ 32 rfl rfl; have e32 : v32 = (.agg #[.int .i64 kf, .string nf, .slice sf ksf.length cf]) := q32 rfl; subst e32; clear hold hdep hdl; go_simp; have hb3 := below_more (Below.refl wx.heap.size wx) (.cells #[.int .i64 kf, .string nf, .slice sf ksf.length cf] 29 (0, 0)); refine hK.out _ _ y (HSt.out.up hb3) ⟨wx.heap.size, rfl, blk_new wx _⟩ ?_; intro j hj hl
      rcases j with _ | _ | _ | _ | _ | _ | _ | _ | _ | _ | _ | j
      · exact ⟨hl, fun u h => h⟩
      · exact ⟨hl, fun u h => h⟩
      · exact ⟨hl, fun u h => h⟩
      · exact ⟨hl, fun u h => h⟩
      · exact ⟨hl, fun u h => h⟩
      · exact ⟨hl, fun u h => h⟩
      · exact Bool.noConfusion (hLi.symm.trans hj)
      · exact ⟨hl, fun u h => h⟩
      · exact ⟨hl, fun u h => h⟩
      · exact ⟨hl, fun u h => h⟩
      · exact ⟨hl, fun u h => h⟩
      · exact ⟨hl, fun u h => h⟩
    · intro L y a wx hSt hLi hdl hcl hold hdep K hK
      (have HSt : Hid (StC w3 r (.mk kf nf ksf) (fun y => #[.slice al l.length cl, .slice y.ad' (r.length + 1) y.cp']) (L 4) (L 7) (L 9) (L 10) y wx) := hSt); clear hSt; obtain ⟨v31, t31, q31⟩ := hdep 4 rfl _ 31 rfl rfl; have eo : v31 = .slice y.ad r.length y.cp := q31 rfl; subst eo; obtain ⟨v33, t33, q33⟩ := hdep 6 rfl _ 33 rfl rfl; (obtain ⟨gq, eq9, hgq⟩ := q33 (by show (!(L 7)) = true; rw [hLi]; rfl)); subst eq9; have e4 : L 4 = true := hdl 4 rfl; (have e10 : L 10 = false := not_yet hLi fun h => hcl 10 _ rfl h 7 rfl); obtain ⟨⟨cs9, hown9, hlq9⟩, -⟩ := HSt.out.own e4 hLi; have hzw := HSt.out.below.size; (have hr9 : Rep wx (· < w3.heap.size) (.mk kf nf ksf) (.agg #[.int .i64 kf, .string nf, .slice sf ksf.length cf]) := HRf.out.move fun b hb hp => ⟨HSt.out.below.block b hb, hp⟩); clear hold hdep hdl; (refine step_append_lies _ rfl _ _ 22 rfl w3.heap.size 29 i0 (.agg #[.int .i64 0, .string ⟨#[]⟩, .slice none 0 0]) 3 48 Tryz.underlying22 hi0 hz0 hz1' hz2' rfl (by decide) _ _ _ (eval_tmp t31) hown9 ⟨gq, 0, none⟩ 1 1 [.int .i64 kf, .string nf, .slice sf ksf.length cf] (eval_tmp t33) rfl ?_ ?_ (by omega) (by have := HLn.out; unfold maxLen; omega) (by have := HLn.out; omega) hzw _ rfl ?_)
      · exact World.news_of_block hgq
      · intro u hu
        simp at hu
        rcases hu with rfl | rfl | rfl <;> rfl
      intro g3 cp3 w3 hown3 hgrow hat hlt3; refine hK.out _ _ { y with ad' := some ⟨g3, 0, none⟩, cp' := cp3 } (HSt.out.append e4 hLi e10 hr9 hown9 hlq9 hown3 hgrow hat) rfl ?_; intro j hj hl
      rcases j with _ | _ | _ | _ | _ | _ | _ | _ | _ | _ | _ | j
      · exact ⟨hl, fun u h => h⟩
      · exact ⟨hl, fun u h => h⟩
      · exact ⟨hl, fun u h => h⟩
      · exact ⟨hl, fun u h => h⟩
      · exact ⟨hl, fun u h => h⟩
      · exact ⟨hl, fun u h => h⟩
      · exact Bool.noConfusion (show (false : Bool) = true from hl)
      · exact Bool.noConfusion (hLi.symm.trans hj)
      · exact Bool.noConfusion (hLi.symm.trans (hcl 8 _ rfl hj 7 rfl))
      · exact ⟨hl, fun u h => h⟩
      · exact ⟨hl, fun u h => h⟩
      · exact ⟨hl, fun u h => h⟩
    · intro L y a wx hSt hLi hdl hcl hold hdep K hK
      (have HSt : Hid (StC w3 r (.mk kf nf ksf) (fun y => #[.slice al l.length cl, .slice y.ad' (r.length + 1) y.cp']) (L 4) (L 7) (L 9) (L 10) y wx) := hSt); clear hSt; obtain ⟨v28, t28, q28⟩ := hdep 1 rfl _ 28 rfl rfl; have e28 : v28 = (.slice al l.length cl) := q28 rfl; subst e28; obtain ⟨v34, t34, q34⟩ := hdep 7 rfl _ 34 rfl rfl; have e34 : v34 = (.slice y.ad' (r.length + 1) y.cp') := q34 rfl; subst e34; clear hold hdep hdl hcl hLi; go_simp; (exact hK.out _ _ y HSt.out rfl (fun j hj hl => ⟨hl, fun u h => h⟩))
    · intro L y a wx hSt hLi hdl hcl hold hdep K hK
      (have HSt : Hid (StC w3 r (.mk kf nf ksf) (fun y => #[.slice al l.length cl, .slice y.ad' (r.length + 1) y.cp']) (L 4) (L 7) (L 9) (L 10) y wx) := hSt); clear hSt; (have e10 : L 10 = false := not_yet hLi fun h => hcl 10 _ rfl h 9 rfl); clear hold hdep hdl; go_simp; have hb3 := below_more (Below.refl wx.heap.size wx) (.cells #[.slice none 0 0, .slice none 0 0] 24 (0, 0)); refine hK.out _ _ { y with g := wx.heap.size } (HSt.out.alloc e10) rfl ?_; intro j hj hl
      rcases j with _ | _ | _ | _ | _ | _ | _ | _ | _ | _ | _ | j
      · exact ⟨hl, fun u h => h⟩
      · exact ⟨hl, fun u h => h⟩
      · exact ⟨hl, fun u h => h⟩
      · exact ⟨hl, fun u h => h⟩
      · exact ⟨hl, fun u h => h⟩
      · exact ⟨hl, fun u h => h⟩
      · exact ⟨hl, fun u ⟨q, e, h⟩ => ⟨q, e, below_keep hb3 h⟩⟩
      · exact ⟨hl, fun u h => h⟩
      · exact ⟨hl, fun u h => h⟩
      · exact Bool.noConfusion (hLi.symm.trans hj)
      · exact ⟨hl, fun u h => h⟩
      · exact ⟨hl, fun u h => h⟩
    · intro L y a wx hSt hLi hdl hcl hold hdep K hK
      (have HSt : Hid (StC w3 r (.mk kf nf ksf) (fun y => #[.slice al l.length cl, .slice y.ad' (r.length + 1) y.cp']) (L 4) (L 7) (L 9) (L 10) y wx) := hSt); clear hSt; have e7 := hdl 7 rfl; have e9 := hdl 9 rfl; obtain ⟨v5, t5, q5⟩ := hdep 9 rfl _ 5 rfl rfl; have e5 : v5 = (.pointer (some ⟨y.g, 0, none⟩)) := q5 rfl; subst e5; obtain ⟨v35, t35, q35⟩ := hdep 8 rfl _ 35 rfl rfl; have e35 : v35 = (.agg #[.slice al l.length cl, .slice y.ad' (r.length + 1) y.cp']) := q35 rfl; subst e35
      have hbx : wx.heap[y.g]? = some (.cells #[.slice none 0 0, .slice none 0 0] 24 (0, 0)) := by
        have h := (HSt.out.box e9).2; rw [hLi] at h; exact h
      obtain ⟨y0, y1, f0, f1⟩ := blk2 hbx; clear hold hdep hdl hcl hbx; go_simp; obtain ⟨w9, hw9⟩ : ∃ w9, w9 = (wx.setCell ⟨y.g, 0, none⟩ (.slice al l.length cl)).setCell ⟨y.g, 1, none⟩ (.slice y.ad' (r.length + 1) y.cp') := ⟨_, rfl⟩; have hS9 := HSt.out.store e7 e9 hLi rfl; rw [← hw9]; rw [← hw9] at hS9; clear hw9; refine hK.out (.bool false) _ _ hS9 trivial ?_; intro j hj hl
      rcases j with _ | _ | _ | _ | _ | _ | _ | _ | _ | _ | _ | j
      · exact ⟨hl, fun u h => h⟩
      · exact ⟨hl, fun u h => h⟩
      · exact ⟨hl, fun u h => h⟩
      · exact ⟨hl, fun u h => h⟩
      · exact ⟨hl, fun u h => h⟩
      · exact ⟨hl, fun u h => h⟩
      · exact absurd (show (!(L 7)) = true from hl) (by rw [e7]; exact Bool.noConfusion)
      · exact ⟨hl, fun u h => h⟩
      · exact ⟨hl, fun u h => h⟩
      · exact ⟨hl, fun u h => h⟩
      · exact ⟨hl, fun u h => h⟩
      · exact ⟨hl, fun u h => h⟩
  · intro L y a wx hall hSt hsz hdf hold hgot
    have eA : L 7 = true := hall 7 (Nat.le_of_ble_eq_true rfl); have eO : L 4 = true := hall 4 (Nat.le_of_ble_eq_true rfl); have eG : L 9 = true := hall 9 (Nat.le_of_ble_eq_true rfl); have eS : L 10 = true := hall 10 (Nat.le_of_ble_eq_true rfl); (have hS : StC w3 r (.mk kf nf ksf) (fun y => #[.slice al l.length cl, .slice y.ad' (r.length + 1) y.cp']) (L 4) (L 7) (L 9) (L 10) y wx := hSt); rw [eO, eA, eG, eS] at hS; obtain ⟨v5, t5, q5⟩ := hgot 9 _ 5 rfl rfl; have eg' : v5 = .pointer (some ⟨y.g, 0, none⟩) := q5 rfl; subst eg'; obtain ⟨tm, df⟩ := a; (obtain ⟨ys, zs, hys, hzs, htm, rfl⟩ := frame_two 5 1 21 9 6 27 36 rfl rfl rfl (by kernel_rfl) (Nat.le_of_ble_eq_true rfl) ⟨hsz, hdf, hold⟩); obtain ⟨x5, rfl⟩ := rowOf1 ys hys; obtain ⟨x27, x28, x29, x30, x31, x32, x33, x34, x35, rfl⟩ := rowOf9 zs hzs; simp only [List.take_succ_cons, List.take_zero, List.drop_succ_cons, List.drop_zero, List.cons_append, List.nil_append] at htm; subst htm; obtain rfl : x5 = _ := someInj t5; clear hys hzs hold hgot hall hSt hsz hdf eA eO eG eS t5 q5; obtain ⟨ad0, cp0, adX, cpX, gX⟩ := y; have HBX : Hid (Below w3.heap.size w3 wx) := hS.below; have HAX : Hid (FL wx (.slice adX (r.length + 1) cpX) (r ++ [.mk kf nf ksf])) := (hS.app rfl).list; have HGX : Hid (wx.heap[gX]? = some (.cells #[.slice al l.length cl, .slice adX (r.length + 1) cpX] 24 (0, 0))) := (hS.box rfl).2; clear hS; have HBX1 : Hid (Below w.heap.size w wx) := below_join HB3.out HBX.out; have A2 : Hid (wx.heap[w.heap.size]? = some (.cells #[.slice al l.length cl, .slice ar r.length cr] 24 (0, 0))) := below_keep HBX.out S2.out; have A3 : Hid (wx.heap[w.heap.size + 1]? = some (.cells #[.int .i64 kf, .string nf, .slice sf ksf.length cf] 29 (0, 0))) := below_keep HBX.out S3.out; (have hrf2 : Rep wx (· < wx.heap.size) (.mk kf nf ksf) (.agg #[.int .i64 kf, .string nf, .slice sf ksf.length cf]) := (HF.out.up HBX1.out).move fun b hb _ => ⟨rfl, hb⟩); clear HRf HOwn5 HBX HB3 S2 S3; have HRf : Hid (Rep wx (· < wx.heap.size) (.mk kf nf ksf) (.agg #[.int .i64 kf, .string nf, .slice sf ksf.length cf])) := hrf2; (have HOwn6 : Hid (∀ W, Below wx.heap.size wx W → Calls Tryz.prog 23 #[(.slice al l.length cl)] W fun e w' => ∃ ad cp, e = .returned (.slice ad l.length cp) ∧ KO W.heap.size w' ad cp l ∧ Below W.heap.size W w') := fun W hb => ownList_any l HLn.out.1 HSl.out.1 _ W ((HL.out.up HBX1.out).up hb)); have S2 : Hid (wx.heap[w.heap.size]? = some (.cells #[.slice al l.length cl, .slice ar r.length cr] 24 (0, 0))) := A2.out; have S3 : Hid (wx.heap[w.heap.size + 1]? = some (.cells #[.int .i64 kf, .string nf, .slice sf ksf.length cf] 29 (0, 0))) := A3.out; have HA5 : Hid (FL wx (.slice adX (r.length + 1) cpX) (r ++ [.mk kf nf ksf])) := HAX.out; have HG5 : Hid (wx.heap[gX]? = some (.cells #[.slice al l.length cl, .slice adX (r.length + 1) cpX] 24 (0, 0))) := HGX.out; clear hrf2 HAX HGX A2 A3; obtain ⟨w4, hw4⟩ : ∃ w4, w4 = wx := ⟨_, rfl⟩; subst hw4; obtain ⟨ad5, hd5⟩ : ∃ ad5, ad5 = adX := ⟨_, rfl⟩; obtain ⟨cp5, hc5⟩ : ∃ cp5, cp5 = cpX := ⟨_, rfl⟩; obtain ⟨g5, hg5⟩ : ∃ g5, g5 = gX := ⟨_, rfl⟩; subst hd5 hc5 hg5; go_wp2_with fail; (refine wp_region_gh (by kernel_rfl) (by kernel_rfl) (by kernel_rfl) 110 rfl (by kernel_rfl) [fun _ v _ => v = (.pointer (some ⟨w.heap.size, 0, none⟩)), fun _ v _ => v = (.slice al l.length cl), fun y v _ => v = .slice y.ad l.length y.cp, fun _ v _ => v = (.agg #[.int .i64 kf, .string nf, .slice sf ksf.length cf]), fun _ v w => ∃ q, v = .slice (some ⟨q, 0, none⟩) 1 1 ∧ w.heap[q]? = some (.cells #[.int .i64 kf, .string nf, .slice sf ksf.length cf] 29 (0, 0)), fun y v _ => v = .slice y.ad' (l.length + 1) y.cp', fun _ v _ => v = (.pointer (some ⟨w.heap.size, 1, none⟩)), fun _ v _ => v = (.slice ar r.length cr), fun y v _ => v = .agg #[.slice y.ad' (l.length + 1) y.cp', .slice ar r.length cr], fun y v _ => v = .pointer (some ⟨y.g, 0, none⟩), fun _ _ _ => True] (fun L j => !(j == 4 && L 5)) (fun L => StC w4 l (.mk kf nf ksf) (fun y => #[.slice y.ad' (l.length + 1) y.cp', .slice ar r.length cr]) (L 2) (L 5) (L 9) (L 10)) (GC.none0) ?_ ?_ ?_)
    · exact fun wx h _ => ⟨h, fun e => (by cases e), fun e => (by cases e), fun e => (by cases e)⟩
    · refine ⟨?_, ?_, ?_, ?_, ?_, ?_, ?_, ?_, ?_, ?_, ?_, trivial⟩
      · intro L y a wx hSt hLi hdl hcl hold hdep K hK
        (have HSt : Hid (StC w4 l (.mk kf nf ksf) (fun y => #[.slice y.ad' (l.length + 1) y.cp', .slice ar r.length cr]) (L 2) (L 5) (L 9) (L 10) y wx) := hSt); clear hSt; have t2 : a.tmps[2]? = some (.pointer (some ⟨w.heap.size, 0, none⟩)) := hold 2 rfl; clear hold hdep hdl hcl hLi; go_simp; (exact hK.out _ _ y HSt.out rfl (fun j hj hl => ⟨hl, fun u h => h⟩))
      · intro L y a wx hSt hLi hdl hcl hold hdep K hK
        (have HSt : Hid (StC w4 l (.mk kf nf ksf) (fun y => #[.slice y.ad' (l.length + 1) y.cp', .slice ar r.length cr]) (L 2) (L 5) (L 9) (L 10) y wx) := hSt); clear hSt; obtain ⟨v36, t36, q36⟩ := hdep 0 rfl _ 36 rfl rfl; have e36 : v36 = (.pointer (some ⟨w.heap.size, 0, none⟩)) := q36 rfl; subst e36; obtain ⟨d0, d1, -⟩ := blk2 (below_keep HSt.out.below S2.out); clear hold hdep hdl hcl hLi; go_simp; (exact hK.out _ _ y HSt.out rfl (fun j hj hl => ⟨hl, fun u h => h⟩))
      · intro L y a wx hSt hLi hdl hcl hold hdep K hK
        (have HSt : Hid (StC w4 l (.mk kf nf ksf) (fun y => #[.slice y.ad' (l.length + 1) y.cp', .slice ar r.length cr]) (L 2) (L 5) (L 9) (L 10) y wx) := hSt); clear hSt; obtain ⟨v37, t37, q37⟩ := hdep 1 rfl _ 37 rfl rfl; have e37 : v37 = (.slice al l.length cl) := q37 rfl; subst e37; (have e7 : L 5 = false := not_yet hLi fun h => hcl 5 _ rfl h 2 rfl); (have e10 : L 10 = false := not_yet hLi fun h => hcl 10 _ rfl h 2 rfl); clear hold hdep hdl; go_simp; refine (HOwn6.out wx HSt.out.below).mono ?_; rintro e w3 ⟨ad3, cp3, rfl, hko, hb3⟩; refine hK.out _ _ { y with ad := ad3, cp := cp3 } (HSt.out.mine e7 e10 hb3 hko) rfl ?_; intro j hj hl
        rcases j with _ | _ | _ | _ | _ | _ | _ | _ | _ | _ | _ | j
        · exact ⟨hl, fun u h => h⟩
        · exact ⟨hl, fun u h => h⟩
        · exact Bool.noConfusion (hLi.symm.trans hj)
        · exact ⟨hl, fun u h => h⟩
        · exact ⟨hl, fun u ⟨q, e, h⟩ => ⟨q, e, below_keep hb3 h⟩⟩
        · exact Bool.noConfusion (hLi.symm.trans (hcl 5 _ rfl hj 2 rfl))
        · exact ⟨hl, fun u h => h⟩
        · exact ⟨hl, fun u h => h⟩
        · exact Bool.noConfusion (hLi.symm.trans (hcl 5 _ rfl (hcl 8 _ rfl hj 5 rfl) 2 rfl))
        · exact ⟨hl, fun u h => h⟩
        · exact ⟨hl, fun u h => h⟩
        · exact ⟨hl, fun u h => h⟩
      · intro L y a wx hSt hLi hdl hcl hold hdep K hK
        (have HSt : Hid (StC w4 l (.mk kf nf ksf) (fun y => #[.slice y.ad' (l.length + 1) y.cp', .slice ar r.length cr]) (L 2) (L 5) (L 9) (L 10) y wx) := hSt); clear hSt; have t3 : a.tmps[3]? = some (.pointer (some ⟨w.heap.size + 1, 0, none⟩)) := hold 3 rfl; obtain ⟨d0, d1, d2, -⟩ := blk3 (below_keep HSt.out.below S3.out); clear hold hdep hdl hcl hLi; go_simp; (exact hK.out _ _ y HSt.out rfl (fun j hj hl => ⟨hl, fun u h => h⟩))
      · intro L y a wx hSt hLi hdl hcl hold hdep K hK
        (have HSt : Hid (StC w4 l (.mk kf nf ksf) (fun y => #[.slice y.ad' (l.length + 1) y.cp', .slice ar r.length cr]) (L 2) (L 5) (L 9) (L 10) y wx) := hSt); clear hSt; obtain ⟨v39, t39, q39⟩ := hdep 3 rfl _ 39 rfl rfl; have e39 : v39 = (.agg #[.int .i64 kf, .string nf, .slice sf ksf.length cf]) := q39 rfl; subst e39; clear hold hdep hdl; go_simp; have hb3 := below_more (Below.refl wx.heap.size wx) (.cells #[.int .i64 kf, .string nf, .slice sf ksf.length cf] 29 (0, 0)); refine hK.out _ _ y (HSt.out.up hb3) ⟨wx.heap.size, rfl, blk_new wx _⟩ ?_; intro j hj hl
        rcases j with _ | _ | _ | _ | _ | _ | _ | _ | _ | _ | _ | j
        · exact ⟨hl, fun u h => h⟩
        · exact ⟨hl, fun u h => h⟩
        · exact ⟨hl, fun u h => h⟩
        · exact ⟨hl, fun u h => h⟩
        · exact Bool.noConfusion (hLi.symm.trans hj)
        · exact ⟨hl, fun u h => h⟩
        · exact ⟨hl, fun u h => h⟩
        · exact ⟨hl, fun u h => h⟩
        · exact ⟨hl, fun u h => h⟩
        · exact ⟨hl, fun u h => h⟩
        · exact ⟨hl, fun u h => h⟩
        · exact ⟨hl, fun u h => h⟩
      · intro L y a wx hSt hLi hdl hcl hold hdep K hK
        (have HSt : Hid (StC w4 l (.mk kf nf ksf) (fun y => #[.slice y.ad' (l.length + 1) y.cp', .slice ar r.length cr]) (L 2) (L 5) (L 9) (L 10) y wx) := hSt); clear hSt; obtain ⟨v38, t38, q38⟩ := hdep 2 rfl _ 38 rfl rfl; have eo : v38 = .slice y.ad l.length y.cp := q38 rfl; subst eo; obtain ⟨v40, t40, q40⟩ := hdep 4 rfl _ 40 rfl rfl; (obtain ⟨gq, eq9, hgq⟩ := q40 (by show (!(L 5)) = true; rw [hLi]; rfl)); subst eq9; have e4 : L 2 = true := hdl 2 rfl; (have e10 : L 10 = false := not_yet hLi fun h => hcl 10 _ rfl h 5 rfl); obtain ⟨⟨cs9, hown9, hlq9⟩, -⟩ := HSt.out.own e4 hLi; have hzw := HSt.out.below.size; (have hr9 : Rep wx (· < w4.heap.size) (.mk kf nf ksf) (.agg #[.int .i64 kf, .string nf, .slice sf ksf.length cf]) := HRf.out.move fun b hb hp => ⟨HSt.out.below.block b hb, hp⟩); clear hold hdep hdl; (refine step_append_lies _ rfl _ _ 22 rfl w4.heap.size 29 i0 (.agg #[.int .i64 0, .string ⟨#[]⟩, .slice none 0 0]) 3 48 Tryz.underlying22 hi0 hz0 hz1' hz2' rfl (by decide) _ _ _ (eval_tmp t38) hown9 ⟨gq, 0, none⟩ 1 1 [.int .i64 kf, .string nf, .slice sf ksf.length cf] (eval_tmp t40) rfl ?_ ?_ (by omega) (by have := HLn.out; unfold maxLen; omega) (by have := HLn.out; omega) hzw _ rfl ?_)
        · exact World.news_of_block hgq
        · intro u hu
          simp at hu
          rcases hu with rfl | rfl | rfl <;> rfl
        intro g3 cp3 w3 hown3 hgrow hat hlt3; refine hK.out _ _ { y with ad' := some ⟨g3, 0, none⟩, cp' := cp3 } (HSt.out.append e4 hLi e10 hr9 hown9 hlq9 hown3 hgrow hat) rfl ?_; intro j hj hl
        rcases j with _ | _ | _ | _ | _ | _ | _ | _ | _ | _ | _ | j
        · exact ⟨hl, fun u h => h⟩
        · exact ⟨hl, fun u h => h⟩
        · exact ⟨hl, fun u h => h⟩
        · exact ⟨hl, fun u h => h⟩
        · exact Bool.noConfusion (show (false : Bool) = true from hl)
        · exact Bool.noConfusion (hLi.symm.trans hj)
        · exact ⟨hl, fun u h => h⟩
        · exact ⟨hl, fun u h => h⟩
        · exact Bool.noConfusion (hLi.symm.trans (hcl 8 _ rfl hj 5 rfl))
        · exact ⟨hl, fun u h => h⟩
        · exact ⟨hl, fun u h => h⟩
        · exact ⟨hl, fun u h => h⟩
      · intro L y a wx hSt hLi hdl hcl hold hdep K hK
        (have HSt : Hid (StC w4 l (.mk kf nf ksf) (fun y => #[.slice y.ad' (l.length + 1) y.cp', .slice ar r.length cr]) (L 2) (L 5) (L 9) (L 10) y wx) := hSt); clear hSt; have t2 : a.tmps[2]? = some (.pointer (some ⟨w.heap.size, 0, none⟩)) := hold 2 rfl; clear hold hdep hdl hcl hLi; go_simp; (exact hK.out _ _ y HSt.out rfl (fun j hj hl => ⟨hl, fun u h => h⟩))
      · intro L y a wx hSt hLi hdl hcl hold hdep K hK
        (have HSt : Hid (StC w4 l (.mk kf nf ksf) (fun y => #[.slice y.ad' (l.length + 1) y.cp', .slice ar r.length cr]) (L 2) (L 5) (L 9) (L 10) y wx) := hSt); clear hSt; obtain ⟨v42, t42, q42⟩ := hdep 6 rfl _ 42 rfl rfl; have e42 : v42 = (.pointer (some ⟨w.heap.size, 1, none⟩)) := q42 rfl; subst e42; obtain ⟨d0, d1, -⟩ := blk2 (below_keep HSt.out.below S2.out); clear hold hdep hdl hcl hLi; go_simp; (exact hK.out _ _ y HSt.out rfl (fun j hj hl => ⟨hl, fun u h => h⟩))
      · intro L y a wx hSt hLi hdl hcl hold hdep K hK
        (have HSt : Hid (StC w4 l (.mk kf nf ksf) (fun y => #[.slice y.ad' (l.length + 1) y.cp', .slice ar r.length cr]) (L 2) (L 5) (L 9) (L 10) y wx) := hSt); clear hSt; obtain ⟨v41, t41, q41⟩ := hdep 5 rfl _ 41 rfl rfl; have e41 : v41 = (.slice y.ad' (l.length + 1) y.cp') := q41 rfl; subst e41; obtain ⟨v43, t43, q43⟩ := hdep 7 rfl _ 43 rfl rfl; have e43 : v43 = (.slice ar r.length cr) := q43 rfl; subst e43; clear hold hdep hdl hcl hLi; go_simp; (exact hK.out _ _ y HSt.out rfl (fun j hj hl => ⟨hl, fun u h => h⟩))
      · intro L y a wx hSt hLi hdl hcl hold hdep K hK
        (have HSt : Hid (StC w4 l (.mk kf nf ksf) (fun y => #[.slice y.ad' (l.length + 1) y.cp', .slice ar r.length cr]) (L 2) (L 5) (L 9) (L 10) y wx) := hSt); clear hSt; (have e10 : L 10 = false := not_yet hLi fun h => hcl 10 _ rfl h 9 rfl); clear hold hdep hdl; go_simp; have hb3 := below_more (Below.refl wx.heap.size wx) (.cells #[.slice none 0 0, .slice none 0 0] 24 (0, 0)); refine hK.out _ _ { y with g := wx.heap.size } (HSt.out.alloc e10) rfl ?_; intro j hj hl
        rcases j with _ | _ | _ | _ | _ | _ | _ | _ | _ | _ | _ | j
        · exact ⟨hl, fun u h => h⟩
        · exact ⟨hl, fun u h => h⟩
        · exact ⟨hl, fun u h => h⟩
        · exact ⟨hl, fun u h => h⟩
        · exact ⟨hl, fun u ⟨q, e, h⟩ => ⟨q, e, below_keep hb3 h⟩⟩
        · exact ⟨hl, fun u h => h⟩
        · exact ⟨hl, fun u h => h⟩
        · exact ⟨hl, fun u h => h⟩
        · exact ⟨hl, fun u h => h⟩
        · exact Bool.noConfusion (hLi.symm.trans hj)
        · exact ⟨hl, fun u h => h⟩
        · exact ⟨hl, fun u h => h⟩
      · intro L y a wx hSt hLi hdl hcl hold hdep K hK
        (have HSt : Hid (StC w4 l (.mk kf nf ksf) (fun y => #[.slice y.ad' (l.length + 1) y.cp', .slice ar r.length cr]) (L 2) (L 5) (L 9) (L 10) y wx) := hSt); clear hSt; have e7 := hdl 5 rfl; have e9 := hdl 9 rfl; obtain ⟨v6, t6, q6⟩ := hdep 9 rfl _ 6 rfl rfl; have e6 : v6 = (.pointer (some ⟨y.g, 0, none⟩)) := q6 rfl; subst e6; obtain ⟨v44, t44, q44⟩ := hdep 8 rfl _ 44 rfl rfl; have e44 : v44 = (.agg #[.slice y.ad' (l.length + 1) y.cp', .slice ar r.length cr]) := q44 rfl; subst e44
        have hbx : wx.heap[y.g]? = some (.cells #[.slice none 0 0, .slice none 0 0] 24 (0, 0)) := by
          have h := (HSt.out.box e9).2; rw [hLi] at h; exact h
        obtain ⟨y0, y1, f0, f1⟩ := blk2 hbx; clear hold hdep hdl hcl hbx; go_simp; obtain ⟨w9, hw9⟩ : ∃ w9, w9 = (wx.setCell ⟨y.g, 0, none⟩ (.slice y.ad' (l.length + 1) y.cp')).setCell ⟨y.g, 1, none⟩ (.slice ar r.length cr) := ⟨_, rfl⟩; have hS9 := HSt.out.store e7 e9 hLi rfl; rw [← hw9]; rw [← hw9] at hS9; clear hw9; refine hK.out (.bool false) _ _ hS9 trivial ?_; intro j hj hl
        rcases j with _ | _ | _ | _ | _ | _ | _ | _ | _ | _ | _ | j
        · exact ⟨hl, fun u h => h⟩
        · exact ⟨hl, fun u h => h⟩
        · exact ⟨hl, fun u h => h⟩
        · exact ⟨hl, fun u h => h⟩
        · exact absurd (show (!(L 5)) = true from hl) (by rw [e7]; exact Bool.noConfusion)
        · exact ⟨hl, fun u h => h⟩
        · exact ⟨hl, fun u h => h⟩
        · exact ⟨hl, fun u h => h⟩
        · exact ⟨hl, fun u h => h⟩
        · exact ⟨hl, fun u h => h⟩
        · exact ⟨hl, fun u h => h⟩
        · exact ⟨hl, fun u h => h⟩
    · intro L y a wx hall hSt hsz hdf hold hgot
      have eA : L 5 = true := hall 5 (Nat.le_of_ble_eq_true rfl); have eO : L 2 = true := hall 2 (Nat.le_of_ble_eq_true rfl); have eG : L 9 = true := hall 9 (Nat.le_of_ble_eq_true rfl); have eS : L 10 = true := hall 10 (Nat.le_of_ble_eq_true rfl); (have hS : StC w4 l (.mk kf nf ksf) (fun y => #[.slice y.ad' (l.length + 1) y.cp', .slice ar r.length cr]) (L 2) (L 5) (L 9) (L 10) y wx := hSt); rw [eO, eA, eG, eS] at hS; obtain ⟨v6, t6, q6⟩ := hgot 9 _ 6 rfl rfl; have eg' : v6 = .pointer (some ⟨y.g, 0, none⟩) := q6 rfl; subst eg'; obtain ⟨tm, df⟩ := a; (obtain ⟨ys, zs, hys, hzs, htm, rfl⟩ := frame_two 6 1 29 9 7 36 45 rfl rfl rfl (by kernel_rfl) (Nat.le_of_ble_eq_true rfl) ⟨hsz, hdf, hold⟩); obtain ⟨x6, rfl⟩ := rowOf1 ys hys; obtain ⟨x36, x37, x38, x39, x40, x41, x42, x43, x44, rfl⟩ := rowOf9 zs hzs; simp only [List.take_succ_cons, List.take_zero, List.drop_succ_cons, List.drop_zero, List.cons_append, List.nil_append] at htm; subst htm; obtain rfl : x6 = _ := someInj t6; clear hys hzs hold hgot hall hSt hsz hdf eA eO eG eS t6 q6; obtain ⟨ad0, cp0, adX, cpX, gX⟩ := y; have HBX : Hid (Below w4.heap.size w4 wx) := hS.below; have HAX : Hid (FL wx (.slice adX (l.length + 1) cpX) (l ++ [.mk kf nf ksf])) := (hS.app rfl).list; have HGX : Hid (wx.heap[gX]? = some (.cells #[.slice adX (l.length + 1) cpX, .slice ar r.length cr] 24 (0, 0))) := (hS.box rfl).2; clear hS; have HBX2 : Hid (Below w.heap.size w wx) := below_join HBX1.out HBX.out; have A2 : Hid (wx.heap[w.heap.size]? = some (.cells #[.slice al l.length cl, .slice ar r.length cr] 24 (0, 0))) := below_keep HBX.out S2.out; have HA5' : Hid (FL wx (.slice ad5 (r.length + 1) cp5) (r ++ [.mk kf nf ksf])) := HA5.out.up HBX.out; have HG5' : Hid (wx.heap[g5]? = some (.cells #[.slice al l.length cl, .slice ad5 (r.length + 1) cp5] 24 (0, 0))) := below_keep HBX.out HG5.out; (have HPa : Hid (∀ W, Below wx.heap.size wx W → Calls Tryz.prog 10 #[.agg #[.slice al l.length cl, .slice ad5 (r.length + 1) cp5]] W (PvSum l (r ++ [.mk kf nf ksf]) W)) := fun W hb => prove_sum _ _ (by have := HLn.out; omega) (by have := HLn.out; simp; omega) _ _ W ((HL.out.up HBX2.out).up hb) (HA5'.out.up hb)); (have HPb : Hid (∀ W, Below wx.heap.size wx W → Calls Tryz.prog 10 #[.agg #[.slice adX (l.length + 1) cpX, .slice ar r.length cr]] W (PvSum (l ++ [.mk kf nf ksf]) r W)) := fun W hb => prove_sum _ _ (by have := HLn.out; simp; omega) (by have := HLn.out; omega) _ _ W (HAX.out.up hb) ((HR.out.up HBX2.out).up hb)); (have HPs : Hid (∀ W, Below wx.heap.size wx W → Calls Tryz.prog 10 #[.agg #[.slice al l.length cl, .slice ar r.length cr]] W (PvSum l r W)) := fun W hb => prove_sum _ _ (by have := HLn.out; omega) (by have := HLn.out; omega) _ _ W ((HL.out.up HBX2.out).up hb) ((HR.out.up HBX2.out).up hb)); obtain ⟨y0, y1, -⟩ := blk2 HG5'.out; clear HRf HOwn6 S2 S3 HG5 HA5 HA5' HAX hi0 hz0 hz1' hz2'; go_wp2_with fail; refine (HPa.out wx (Below.refl _ _)).mono ?_; clear HPa y0 y1; rintro e w5 ⟨a5, k5, n5, sf5, m5, cf5, al5, ml5, cl5, ar5, mr5, cr5, sl5, mk5, cap5, c5, val5, code5, at5, rfl, hb5, hs5⟩; have B5 : Hid (Below wx.heap.size wx w5) := hb5; have HS5 : Hid (code5 = 0 → (seqCode l (r ++ [.mk kf nf ksf])).1 = 0 ∧ (val5 = true ↔ Valid l (r ++ [.mk kf nf ksf]))) := hs5; obtain ⟨W5, hW5⟩ : ∃ W, W = (w5.alloc (.cells #[.string a5, .int .i64 k5, .string n5, .slice sf5 m5 cf5, .slice al5 ml5 cl5, .slice ar5 mr5 cr5, .slice sl5 mk5 cap5] 32 (0, 0))).alloc (.cells #[.int .i64 code5, .int .i64 at5] 35 (0, 0)) := ⟨_, rfl⟩; have HE5 : Hid ((w5.alloc (.cells #[.string a5, .int .i64 k5, .string n5, .slice sf5 m5 cf5, .slice al5 ml5 cl5, .slice ar5 mr5 cr5, .slice sl5 mk5 cap5] 32 (0, 0))).alloc (.cells #[.int .i64 code5, .int .i64 at5] 35 (0, 0)) = W5) := hW5.symm; (have hbW5 : Below w5.heap.size w5 W5 := by rw [hW5]; exact below_more (below_more (Below.refl _ w5) _) _); (have hF10 : W5.heap[w5.heap.size + 1]? = some (.cells #[.int .i64 code5, .int .i64 at5] 35 (0, 0)) := by rw [hW5]; exact blk_two w5 _ _); have HBW5 : Hid (Below wx.heap.size wx W5) := below_join hb5 hbW5; have F10 : Hid (W5.heap[w5.heap.size + 1]? = some (.cells #[.int .i64 code5, .int .i64 at5] 35 (0, 0))) := hF10
      have G6 : Hid (W5.heap[gX]? = some (.cells #[.slice adX (l.length + 1) cpX, .slice ar r.length cr] 24 (0, 0))) := below_keep HBW5.out HGX.out; clear hb5 hs5 hW5 hbW5 hF10; obtain ⟨y0, y1, -⟩ := blk2 (below_keep B5.out HGX.out); have zg1 : gX < w5.heap.size := lt_of_block (below_keep B5.out HGX.out); (have zg2 : ¬ gX = w5.heap.size := by omega); (have zg3 : ¬ w5.heap.size = gX := by omega); (have zg4 : ¬ gX = w5.heap.size + 1 := by omega); (have zg5 : ¬ w5.heap.size + 1 = gX := by omega); (have zg6 : gX < w5.heap.size + 1 := by omega); go_wp2_with fail; rw [HE5.out]; refine (HPb.out W5 HBW5.out).mono ?_; clear HPb y0 y1 zg1 zg2 zg3 zg4 zg5 zg6; rintro e w6 ⟨a6, k6, n6, sf6, m6, cf6, al6, ml6, cl6, ar6, mr6, cr6, sl6, mk6, cap6, c6, val6, code6, at6, rfl, hb6, hs6⟩; have HS6 : Hid (code6 = 0 → (seqCode (l ++ [.mk kf nf ksf]) r).1 = 0 ∧ (val6 = true ↔ Valid (l ++ [.mk kf nf ksf]) r)) := hs6; obtain ⟨W6, hW6⟩ : ∃ W, W = (w6.alloc (.cells #[.string a6, .int .i64 k6, .string n6, .slice sf6 m6 cf6, .slice al6 ml6 cl6, .slice ar6 mr6 cr6, .slice sl6 mk6 cap6] 32 (0, 0))).alloc (.cells #[.int .i64 code6, .int .i64 at6] 35 (0, 0)) := ⟨_, rfl⟩; have HE6 : Hid ((w6.alloc (.cells #[.string a6, .int .i64 k6, .string n6, .slice sf6 m6 cf6, .slice al6 ml6 cl6, .slice ar6 mr6 cr6, .slice sl6 mk6 cap6] 32 (0, 0))).alloc (.cells #[.int .i64 code6, .int .i64 at6] 35 (0, 0)) = W6) := hW6.symm; (have hbW6 : Below w6.heap.size w6 W6 := by rw [hW6]; exact below_more (below_more (Below.refl _ w6) _) _); (have hF14 : W6.heap[w6.heap.size + 1]? = some (.cells #[.int .i64 code6, .int .i64 at6] 35 (0, 0)) := by rw [hW6]; exact blk_two w6 _ _); have HBw6 : Hid (Below wx.heap.size wx w6) := below_join HBW5.out hb6; have HBW6 : Hid (Below wx.heap.size wx W6) := below_join HBw6.out hbW6; have F14 : Hid (W6.heap[w6.heap.size + 1]? = some (.cells #[.int .i64 code6, .int .i64 at6] 35 (0, 0))) := hF14; have F10b : Hid (W6.heap[w5.heap.size + 1]? = some (.cells #[.int .i64 code5, .int .i64 at5] 35 (0, 0))) := below_keep hbW6 (below_keep hb6 F10.out); clear hb6 hs6 hW6 hbW6 hF14 F10; obtain ⟨y0, y1, -⟩ := blk2 (below_keep HBw6.out A2.out); have zs1 : w.heap.size < w6.heap.size := lt_of_block (below_keep HBw6.out A2.out); (have zs2 : ¬ w.heap.size = w6.heap.size := by omega); (have zs3 : ¬ w6.heap.size = w.heap.size := by omega); (have zs4 : ¬ w.heap.size = w6.heap.size + 1 := by omega); (have zs5 : ¬ w6.heap.size + 1 = w.heap.size := by omega); (have zs6 : w.heap.size < w6.heap.size + 1 := by omega); go_wp2_with fail; rw [HE6.out]; refine (HPs.out W6 HBW6.out).mono ?_; clear HPs y0 y1 zs1 zs2 zs3 zs4 zs5 zs6; rintro e w7 ⟨a7, k7, n7, sf7, m7, cf7, al7, ml7, cl7, ar7, mr7, cr7, sl7, mk7, cap7, c7, val7, code7, at7, rfl, hb7, hs7⟩; have HS7 : Hid (code7 = 0 → (seqCode l r).1 = 0 ∧ (val7 = true ↔ Valid l r)) := hs7; obtain ⟨W7, hW7⟩ : ∃ W, W = (w7.alloc (.cells #[.string a7, .int .i64 k7, .string n7, .slice sf7 m7 cf7, .slice al7 ml7 cl7, .slice ar7 mr7 cr7, .slice sl7 mk7 cap7] 32 (0, 0))).alloc (.cells #[.int .i64 code7, .int .i64 at7] 35 (0, 0)) := ⟨_, rfl⟩; have HE7 : Hid ((w7.alloc (.cells #[.string a7, .int .i64 k7, .string n7, .slice sf7 m7 cf7, .slice al7 ml7 cl7, .slice ar7 mr7 cr7, .slice sl7 mk7 cap7] 32 (0, 0))).alloc (.cells #[.int .i64 code7, .int .i64 at7] 35 (0, 0)) = W7) := hW7.symm; (have hbW7 : Below w7.heap.size w7 W7 := by rw [hW7]; exact below_more (below_more (Below.refl _ w7) _) _); (have hF18 : W7.heap[w7.heap.size + 1]? = some (.cells #[.int .i64 code7, .int .i64 at7] 35 (0, 0)) := by rw [hW7]; exact blk_two w7 _ _); have F18 : Hid (W7.heap[w7.heap.size + 1]? = some (.cells #[.int .i64 code7, .int .i64 at7] 35 (0, 0))) := hF18; have HBw7 : Hid (Below wx.heap.size wx w7) := below_join HBW6.out hb7; have HBW7 : Hid (Below wx.heap.size wx W7) := below_join HBw7.out hbW7; have X10 : Hid (w7.heap[w5.heap.size + 1]? = some (.cells #[.int .i64 code5, .int .i64 at5] 35 (0, 0))) := below_keep hb7 F10b.out; have X14 : Hid (w7.heap[w6.heap.size + 1]? = some (.cells #[.int .i64 code6, .int .i64 at6] 35 (0, 0))) := below_keep hb7 F14.out; have B2w : Hid (W7.heap[w.heap.size]? = some (.cells #[.slice al l.length cl, .slice ar r.length cr] 24 (0, 0))) := below_keep HBW7.out A2.out
      have HBf : Hid (Below w.heap.size w W7) := below_join HBX2.out HBW7.out; clear hb7 hs7 hW7 hbW7 hF18 F10b F14; obtain ⟨y0, y1, -⟩ := blk2 X10.out; obtain ⟨z0, z1, -⟩ := blk2 X14.out; have k1 : w5.heap.size + 1 < w7.heap.size := lt_of_block X10.out; (have k2 : ¬ w5.heap.size + 1 = w7.heap.size := by omega); (have k3 : ¬ w7.heap.size = w5.heap.size + 1 := by omega); (have k4 : ¬ w5.heap.size + 1 = w7.heap.size + 1 := by omega); (have k5 : ¬ w7.heap.size + 1 = w5.heap.size + 1 := by omega); (have k6 : w5.heap.size + 1 < w7.heap.size + 1 := by omega); have j1 : w6.heap.size + 1 < w7.heap.size := lt_of_block X14.out; (have j2 : ¬ w6.heap.size + 1 = w7.heap.size := by omega); (have j3 : ¬ w7.heap.size = w6.heap.size + 1 := by omega); (have j4 : ¬ w6.heap.size + 1 = w7.heap.size + 1 := by omega); (have j5 : ¬ w7.heap.size + 1 = w6.heap.size + 1 := by omega); (have j6 : w6.heap.size + 1 < w7.heap.size + 1 := by omega); by_cases hc5 : code5 = 0
      case neg =>
        go_wp2_with fail; go_ret; (exact ⟨rfl, by rw [HE7.out]; exact HBf.out⟩)
      by_cases hc6 : code6 = 0
      case neg =>
        subst hc5; go_wp2_with fail; go_ret; (exact ⟨rfl, by rw [HE7.out]; exact HBf.out⟩)
      by_cases hc7 : code7 = 0
      case neg =>
        subst hc5 hc6; go_wp2_with fail; go_ret; (exact ⟨rfl, by rw [HE7.out]; exact HBf.out⟩)
      have h5 := HS5.out hc5; have h6 := HS6.out hc6; have h7 := HS7.out hc7; subst hc5 hc6 hc7
      have HCut : Hid (val7 = true ↔ val5 = true ∧ val6 = true) := by
        show _ ↔ _; rw [h7.2, h5.2, h6.2]; exact valid_cut l r _
      have HV7 : Hid ((seqCode l r).1 = 0 ∧ (val7 = true ↔ Valid l r)) := h7; clear h5 h6 h7 HS5 HS6 HS7; obtain ⟨hq1, hq2⟩ := HV7.out; obtain ⟨h60, hpl, hpr⟩ := seqCode_fine hq1; (have hfine : Fine (asF l r) := asF_fine (fun f hf => (pcode_fine (hpl f hf)).1) fun f hf => (pcode_fine (hpr f hf)).1); (have hsize : (asF l r).size ≤ 20000 := asF_size (fun f hf => (pcode_fine (hpl f hf)).2) (fun f hf => (pcode_fine (hpr f hf)).2) h60); have hv7 : val7 = (val5 && val6) := bool_both HCut.out; subst hv7; obtain ⟨nn, hnn⟩ : ∃ nn, nn = (nmsU (asF l r)).length := ⟨_, rfl⟩; have HNn : Hid (nn = (nmsU (asF l r)).length) := hnn; (have HAs : Hid (∀ W, Below wx.heap.size wx W → Calls Tryz.prog 25 #[.agg #[.slice al l.length cl, .slice ar r.length cr]] W fun e w' => ∃ x, e = .returned x ∧ Rep w' (fun _ => True) (asF l r) x ∧ Below W.heap.size W w') := fun W hb => as_any l r (by have := HLn.out; omega) (by have := HLn.out; omega) _ _ W ((HL.out.up HBX2.out).up hb) ((HR.out.up HBX2.out).up hb))
      have HNi : Hid (∀ v W, FL W v [asF l r] → Calls Tryz.prog 24 #[v] W fun e w' => ∃ ad cp, e = .returned (.slice ad nn cp) ∧ Below W.heap.size W w') := fun v W h => (namesIn_big (asF l r) hsize v W h).mono fun e w' hx => by
        obtain ⟨x, he, ⟨ad, cp, hx, -⟩, hb⟩ := hx; rw [← hnn] at hx; (exact ⟨ad, cp, by rw [he, hx], hb⟩)
      (have HIn : Hid (nn ≤ 8 → ∀ W, Below wx.heap.size wx W → Calls Tryz.prog 26 #[.agg #[.slice al l.length cl, .slice ar r.length cr]] W fun e w' => e = .returned (.bool (val5 && val6)) ∧ Below W.heap.size W w') := fun h8 W hb => inAll_all l r (by have := HLn.out; omega) (by have := HLn.out; omega) hfine hsize (by omega) _ hq2 _ _ W ((HL.out.up HBX2.out).up hb) ((HR.out.up HBX2.out).up hb)); obtain ⟨t0, t1, -⟩ := blk2 (below_keep HBw7.out A2.out); have zs1 : w.heap.size < w7.heap.size := lt_of_block (below_keep HBw7.out A2.out); (have zs2 : ¬ w.heap.size = w7.heap.size := by omega); (have zs3 : ¬ w7.heap.size = w.heap.size := by omega); (have zs4 : ¬ w.heap.size = w7.heap.size + 1 := by omega); (have zs5 : ¬ w7.heap.size + 1 = w.heap.size := by omega); (have zs6 : w.heap.size < w7.heap.size + 1 := by omega); clear hq1 hq2 h60 hpl hpr hfine hsize hnn HV7 HCut
      cases val5 <;> cases val6
      all_goals
        go_wp2_with fail; rw [HE7.out]; refine (HAs.out W7 HBW7.out).mono ?_; clear t0 t1 y0 y1 z0 z1 k1 k2 k3 k4 k5 k6 j1 j2 j3 j4 j5 j6 zs1 zs2 zs3 zs4 zs5 zs6; rintro e w8 ⟨x, rfl, hx, hb8⟩; (have hx' : Rep w8 (fun _ => True) (.mk 7 ⟨#[]⟩ [allF l, someF r]) x := hx); obtain ⟨sl8, cap8, rfl⟩ := slice_shape hx'; (have HX8 : Hid (Rep w8 (fun _ => True) (asF l r) (.agg #[.int .i64 7, .string ⟨#[]⟩, .slice sl8 2 cap8])) := hx); have HB8 : Hid (Below wx.heap.size wx w8) := below_join HBW7.out hb8; clear hx hx' hb8; go_wp2_with fail; have hb9 := below_more (Below.refl w8.heap.size w8) (.cells #[.int .i64 7, .string ⟨#[]⟩, .slice sl8 2 cap8] 29 (0, 0)); have HB9 : Hid (Below wx.heap.size wx (w8.alloc (.cells #[.int .i64 7, .string ⟨#[]⟩, .slice sl8 2 cap8] 29 (0, 0)))) := below_join HB8.out hb9; refine (HNi.out _ _ (FL.sing (blk_new w8 _) (HX8.out.up hb9))).mono ?_; clear hb9; rintro e w10 ⟨ad10, cp10, rfl, hb10⟩; have HB10 : Hid (Below wx.heap.size wx w10) := below_join HB9.out hb10; clear hb10; obtain ⟨t0, t1, -⟩ := blk2 (below_keep HB10.out A2.out); by_cases h8 : 8 < nn
        · have h8I : (8 : Int) < (nn : Int) := by omega
          go_wp2_with fail; go_ret; exact ⟨rfl, below_join HBX2.out HB10.out⟩
        · have h8I : ¬ (8 : Int) < (nn : Int) := by omega
          (have HI9 : Hid (Calls Tryz.prog 26 #[.agg #[.slice al l.length cl, .slice ar r.length cr]] w10 _) := HIn.out (by omega) w10 HB10.out); go_wp2_with fail; refine HI9.out.mono ?_; clear HI9 t0 t1; rintro e w11 ⟨rfl, hb11⟩; have HB11 : Hid (Below wx.heap.size wx w11) := below_join HB10.out hb11; clear hb11; go_wp2_with fail; go_ret; exact ⟨rfl, below_join HBX2.out HB11.out⟩
end Go.Proofs.YtalnljnincnbdacGreat
