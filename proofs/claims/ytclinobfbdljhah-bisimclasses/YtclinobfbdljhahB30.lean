/- Texts of one proof, one behind the other: MAAD. -/
import Derived.Test.YtclinobfbdljhahB27
/- Walks: at which worlds a formula is true, by the yardstick: kinds 8. -/
namespace Go.Proofs.Ytclinobfbdljhah
open Go.RowKit Go.Sort

set_option maxRecDepth 10000 in
set_option maxHeartbeats 16000000 in
theorem allR_D (N : Nat) (hN1 : 0 < N) (hN : N ≤ 40) (rel : List (Int × Int)) (hrl : rel.length ≤ 2000) (hin : InR N rel) (tr : List (List (List UInt8))) (htr : tr.length = N) (m : Nat) (ih : AllR N rel tr m) (k : Int) (n : ByteArray) (ks : List Fm) (hc : k = 8) (hm : (Fm.mk k n ks).size < m + 1) (hfi : Fine (.mk k n ks)) : AllF N rel tr (.mk k n ks) := by
  intro v u w hv hrep; have HCs : Hid (k = 8) := hc; clear hc; have HIn : Hid (InR N rel) := hin; have HN : Hid (N ≤ 40) := hN; have HTr : Hid (tr.length = N) := htr; (have HM : Hid (∀ W, Below w.heap.size w W → MR W ⟨(N : Int), rel, tr⟩ v) := fun W hb => hv.up hb); obtain ⟨ra, rc, ta, tc, rfl, hpl, hsl, hmx⟩ := hv; simp only at hpl hsl hmx HM ⊢; have HPl : Hid (PL w (.slice ra rel.length rc) rel) := hpl; obtain ⟨ta', tc', e2, s1, s2, s3⟩ := hsl; simp only [Value.slice.injEq, true_and] at e2; obtain ⟨rfl, rfl⟩ := e2; (obtain ⟨tb, toff, rfl, hcT⟩ := s3 (fun e => by rw [e] at htr; simp at htr; omega))
  obtain ⟨tv, htv⟩ : ∃ tv : Nat → Value, ∀ q, q < N → w.cell? ⟨tb, toff + q, none⟩ = some (tv q) ∧ SL w (tv q) (tr.getD q []) := by
    (refine ⟨fun q => (w.cell? ⟨tb, toff + q, none⟩).getD undef, fun q hq => ?_⟩); (obtain ⟨u, h1, h2⟩ := hcT q (tr.getD q []) (by rw [List.getD_eq_getElem?_getD, List.getElem?_eq_getElem (by omega)]; rfl)); simp only [h1, Option.getD_some]; exact ⟨trivial, h2⟩
  have HTv : Hid (∀ q, q < N → w.cell? ⟨tb, toff + q, none⟩ = some (tv q) ∧ SL w (tv q) (tr.getD q [])) := htv; (have htcI : (N : Int) ≤ (tc : Int) := by omega); (have hNI : (N : Int) ≤ 40 := by omega); obtain ⟨sl, cap, rfl, hx1, hx2, hx3, hx4⟩ := Rep.def.1 hrep; (have HX : Hid (ks ≠ [] → ∃ b off, sl = some ⟨b, off, none⟩ ∧ True ∧ Reps w (fun _ => True) b off ks) := hx4); have hk2 := hfi.small.2; (have hkI : (ks.length : Int) ≤ 2 := by omega); have HF : Hid (Fine (.mk k n ks)) := hfi; (have HIh : Hid (∀ (i : Nat) (f : Fm), ks[i]? = some f → ∀ v u W, MR W ⟨(N : Int), rel, tr⟩ v → Rep W (fun _ => True) f u → Calls Try.prog 24 #[v, u] W _) := fun i f hi v u W h1 h2 => ih f v u W (by have := sizes_get hi; rw [Fm.size] at hm; omega) (HF.out.kid i f hi) h1 h2); obtain ⟨S, hS⟩ : ∃ S, S = seeR N (relB rel) := ⟨_, rfl⟩; (have HS : Hid (∀ u, S u = seenTo N rel u N) := fun u => by rw [hS]; exact seeR_eq hin u); obtain ⟨p, hp⟩ : ∃ p, p = pT tr := ⟨_, rfl⟩; (have HP : Hid (∀ u s, p u s = decide (s ∈ tr.getD u [])) := fun u s => by rw [hp, pT, List.contains_eq_mem]); rw [← hS, ← hp] at HIh ⊢; obtain ⟨Ks, hKs⟩ : ∃ Ks, Ks = mtvs S p ks := ⟨_, rfl⟩; have HKs : Hid (Ks = mtvs S p ks) := hKs; (have HKl : Hid (Ks.length = ks.length) := by rw [hKs]; exact mtvs_len _ _ _); obtain ⟨T, hT⟩ : ∃ T, T = mtv S p (.mk k n ks) := ⟨_, rfl⟩; (have HT : Hid (T = mval S k (fun u => p u n.data.toList) Ks) := by show _ = _; rw [hT, hKs, mtv]); rw [← hT]; (have HSe : Hid (∀ W, PL W (.slice ra rel.length rc) rel → Calls Try.prog 44 #[.agg #[.int .i64 (N : Nat), .slice ra rel.length rc, .slice (some ⟨tb, toff, none⟩) tr.length tc]] W _) := fun W h => seen_any N hN rel hrl hin ra (some ⟨tb, toff, none⟩) rc tr.length tc W h); (have hmk := fun w => run_make_row' (P := Try.prog) 54 4 (.bool false) 1 Try.underlying54 (by kernel_rfl) rfl .i64 .i64 N (by omega) (by omega) w); obtain ⟨W0, hW0⟩ : ∃ W0, W0 = (w.alloc (.cells #[.int .i64 (N : Nat), .slice ra rel.length rc, .slice (some ⟨tb, toff, none⟩) tr.length tc] 30 (0, 0))).alloc (.cells #[.int .i64 k, .string n, .slice sl ks.length cap] 24 (0, 0)) := ⟨_, rfl⟩; (have HB0 : Hid (Below w.heap.size w W0) := by rw [hW0]; exact below_more (below_more (Below.refl _ w) _) _); (have HM0 : Hid (W0.heap[w.heap.size]? = some (.cells #[.int .i64 (N : Nat), .slice ra rel.length rc, .slice (some ⟨tb, toff, none⟩) tr.length tc] 30 (0, 0))) := by rw [hW0]; exact alloc_keep (blk_new _ _) _); (have HF0 : Hid (W0.heap[w.heap.size + 1]? = some (.cells #[.int .i64 k, .string n, .slice sl ks.length cap] 24 (0, 0))) := by rw [hW0]; exact blk_secE _ _ _); clear hpl hmx s1 s2 s3 hcT htv hin hrl htr hN ih hx4 hfi hrep hS hp hKs hT hx1 hx3 hm hk2
  go_enter Try.func24, Try.ntmps24
  go_wp2_with fail; rw [← hW0]; refine (HSe.out W0 (HPl.out.up HB0.out)).mono ?_; rintro _ w1 ⟨g, rfl, hg0, hsn, hb1⟩; have HSn : Hid (SnR W0.heap.size w1 g N rel) := hsn; have HB1 : Hid (Below w.heap.size w w1) := below_join HB0.out hb1; have HM1 : Hid (w1.heap[w.heap.size]? = some (.cells #[.int .i64 (N : Nat), .slice ra rel.length rc, .slice (some ⟨tb, toff, none⟩) tr.length tc] 30 (0, 0))) := below_keep hb1 HM0.out; have HF1 : Hid (w1.heap[w.heap.size + 1]? = some (.cells #[.int .i64 k, .string n, .slice sl ks.length cap] 24 (0, 0))) := below_keep hb1 HF0.out; clear hg0 hsn hb1 hW0 HSe HM0 HF0 HB0; obtain ⟨OUT, hO⟩ : ∃ OUT, OUT = w1.heap.size := ⟨_, rfl⟩; have HO : Hid (OUT = w1.heap.size) := hO; obtain ⟨k0, k1, k2, -⟩ := blk3 HM1.out; go_wp2_with fail; obtain ⟨W2, hW2⟩ : ∃ W2, W2 = w1.alloc (.cells (madeCells #[Value.bool false] N) 4 (0, 0)) := ⟨_, rfl⟩; (have HW2o : Hid (W2.heap[OUT]? = some (.cells (outC N 0 T) 4 (0, 0))) := by rw [hW2, ← outC_zero, hO]; exact blk_new _ _); (have HW2b : Hid (Below w1.heap.size w1 W2) := by rw [hW2]; exact below_more (Below.refl _ _) _); (have HW2z : Hid (W2.heap.size = OUT + 1) := by show _ = _; rw [hW2, hO]; simp); rw [← hW2, ← hO]; clear hmk k0 k1 k2 hO hW2
  go_loopg [8, 7] ks.length (fun gg cc x wr => ∃ i gs ad cp, i ≤ ks.length ∧ gg = ks.length - i ∧ cc = .int .i64 (i : Nat) ∧ x = .slice ad i cp ∧ Hid (KbS OUT wr N gs (Ks.take i)) ∧ Hid (gs.length = i) ∧ Hid (wr.ownsRow (OUT + 1) 54 1 (.slice ad i cp) i (gs.map (encB N))) ∧ Hid (Below W2.heap.size W2 wr) ∧ Hid (OUT + 1 ≤ wr.heap.size))
  case atStart => exact ⟨0, [], none, 0, by omega, by omega, rfl, rfl, ⟨by simp, fun j b K h => by simp at h⟩, rfl, ⟨rfl, Or.inl ⟨rfl, rfl⟩⟩, Below.refl _ _, by show _ ≤ _; rw [HW2z.out]; omega⟩
  case round =>
    obtain ⟨i, gs, ad, cp, hi, hg, rfl, rfl, HK, HGl, HOw, HB, HSz⟩ := hrel; have HGk : Hid (gk = ks.length - i) := hg; clear hg; have HBa : Hid (Below w1.heap.size w1 wr) := below_join HW2b.out HB.out; have HMr : Hid (wr.heap[w.heap.size]? = some (.cells #[.int .i64 (N : Nat), .slice ra rel.length rc, .slice (some ⟨tb, toff, none⟩) tr.length tc] 30 (0, 0))) := below_keep HBa.out HM1.out; have HFr : Hid (wr.heap[w.heap.size + 1]? = some (.cells #[.int .i64 k, .string n, .slice sl ks.length cap] 24 (0, 0))) := below_keep HBa.out HF1.out; have HBw : Hid (Below w.heap.size w wr) := below_join HB1.out HBa.out; by_cases hlt : i < ks.length
    · obtain ⟨k0, k1, k2, -⟩ := blk3 HFr.out
      obtain ⟨⟨kq, nq, kks⟩, hki⟩ : ∃ f, ks[i]? = some f := ⟨_, List.getElem?_eq_getElem hlt⟩; (have hltI : (i : Int) < (ks.length : Int) := by omega); (have hlc : (i : Int) < (cap : Int) := by omega); (obtain ⟨b, off, rfl, -, hrs⟩ := HX.out (fun e => by rw [e] at hlt; simp at hlt)); obtain ⟨slq, cpq, g0, g1, g2, hrep2⟩ := (hrs.up HBw.out).at i kq nq kks hki; have HG0 : Hid (wr.cell? ⟨b, off + i * 3, none⟩ = some (.int .i64 kq)) := g0; have HG1 : Hid (wr.cell? ⟨b, off + i * 3 + 1, none⟩ = some (.string nq)) := g1; have HG2 : Hid (wr.cell? ⟨b, off + i * 3 + 2, none⟩ = some (.slice slq kks.length cpq)) := g2; (have HR2 : Hid (Rep wr (fun _ => True) (.mk kq nq kks) (.agg #[.int .i64 kq, .string nq, .slice slq kks.length cpq])) := hrep2); have HC := HIh.out i _ hki; obtain ⟨KN, hKN⟩ : ∃ KN, KN = mtv S p (.mk kq nq kks) := ⟨_, rfl⟩; rw [← hKN] at HC; (have HTk : Hid (Ks.take (i + 1) = Ks.take i ++ [KN]) := by rw [HKs.out, hKN]; exact mtvs_take _ _ _ _ _ hki); (have HC : Hid (∀ v u W, MR W ⟨(N : Int), rel, tr⟩ v → Rep W (fun _ => True) (.mk kq nq kks) u → Calls Try.prog 24 #[v, u] W _) := HC); have HI : Hid (i < ks.length) := hlt; (have hi2 : (i : Int) < 2 := by omega); clear hki hrs g0 g1 g2 hrep2 hKN hlt hi; go_wp2_with fail; clear k0 k1 k2; (refine wp_region_wrb (by kernel_rfl) [fun v _ => v = (.slice ad i cp), fun v _ => v = (.agg #[.int .i64 (N : Nat), .slice ra rel.length rc, .slice (some ⟨tb, toff, none⟩) tr.length tc]), fun v _ => v = (.pointer (some ⟨w.heap.size + 1, 2, none⟩)), fun v _ => v = (.slice (some ⟨b, off, none⟩) ks.length cap), fun v _ => v = (.int .i64 (i : Nat)), fun v _ => v = (.pointer (some ⟨b, off + i * 3, none⟩)), fun v _ => v = (.agg #[.int .i64 kq, .string nq, .slice slq kks.length cpq]), fun v w9 => ∃ gn, v = .slice (some ⟨gn, 0, none⟩) N N ∧ OUT < gn ∧ w9.heap[gn]? = some (.cells (outC N N KN) 4 (0, 0)), fun v w9 => ∃ b9 gn, v = .slice (some ⟨b9, 0, none⟩) 1 1 ∧ w9.cell? ⟨b9, 0, none⟩ = some (.slice (some ⟨gn, 0, none⟩) N N) ∧ OUT < gn ∧ w9.heap[gn]? = some (.cells (outC N N KN) 4 (0, 0)), fun _ _ => True] ?_ (by kernel_rfl) (by kernel_rfl) 198 rfl (by kernel_rfl) 10 _ rfl rfl (by kernel_rfl) (fun i => none) 9 _ (by decide) rfl rfl 10 (by kernel_rfl) (fun v w9 => ∃ g3 cp3 gn, v = .slice (some ⟨g3, 0, none⟩) (i + 1) cp3 ∧ w9.ownsRow (OUT + 1) 54 1 (.slice (some ⟨g3, 0, none⟩) (i + 1) cp3) (i + 1) (gs.map (encB N) ++ [encB N gn]) ∧ OUT < gn ∧ w9.heap[gn]? = some (.cells (outC N N KN) 4 (0, 0)) ∧ KbS OUT w9 N gs (Ks.take i) ∧ Below W2.heap.size W2 w9 ∧ OUT + 1 ≤ w9.heap.size) ?_ ?_ ?_ ?_)
      · intro p hp
        simp only [List.mem_cons, List.not_mem_nil, or_false] at hp
        rcases hp with rfl | rfl | rfl | rfl | rfl | rfl | rfl | rfl | rfl | rfl
        · exact fun _ _ _ h _ => h
        · exact fun _ _ _ h _ => h
        · exact fun _ _ _ h _ => h
        · exact fun _ _ _ h _ => h
        · exact fun _ _ _ h _ => h
        · exact fun _ _ _ h _ => h
        · exact fun _ _ _ h _ => h
        · rintro v wa wb ⟨gn, e, h1, h2⟩ hb
          exact ⟨gn, e, h1, below_keep hb h2⟩
        · rintro v wa wb ⟨b9, gn, e, h0, h1, h2⟩ hb
          exact ⟨b9, gn, e, (hb.cell (lt_of_cell h0)).trans h0, h1, below_keep hb h2⟩
        · exact fun _ _ _ h _ => h
      · intro j c wq hj
        cases hj
      · refine ⟨?_, ?_, ?_, ?_, ?_, ?_, ?_, ?_, ?_, ?_, trivial⟩
        · show StepOkB _ _ _ _ _ _ _ _ _
          intro a wx hB hold hdep K hK; have t7 : a.tmps[7]? = some (.slice ad i cp) := hold.2.2 7 rfl; clear hold hdep; go_simp; exact hK.out _ _ rfl (Below.refl _ _)
        · show StepOkB _ _ _ _ _ _ _ _ _
          intro a wx hB hold hdep K hK; have t2 : a.tmps[2]? = some (.pointer (some ⟨w.heap.size, 0, none⟩)) := hold.2.2 2 rfl; obtain ⟨k0, k1, k2, -⟩ := blk3 (below_keep hB HMr.out); clear hold hdep; go_simp; exact hK.out _ _ rfl (Below.refl _ _)
        · show StepOkB _ _ _ _ _ _ _ _ _
          intro a wx hB hold hdep K hK; have t3 : a.tmps[3]? = some (.pointer (some ⟨w.heap.size + 1, 0, none⟩)) := hold.2.2 3 rfl; clear hold hdep; go_simp; exact hK.out _ _ rfl (Below.refl _ _)
        · show StepOkB _ _ _ _ _ _ _ _ _
          intro a wx hB hold hdep K hK; obtain ⟨v26, t26, p26⟩ := hdep 2 rfl _ 26 rfl rfl; have e26 : v26 = (.pointer (some ⟨w.heap.size + 1, 2, none⟩)) := p26; subst e26; obtain ⟨k0, k1, k2, -⟩ := blk3 (below_keep hB HFr.out); clear hold hdep; go_simp; exact hK.out _ _ rfl (Below.refl _ _)
        · show StepOkB _ _ _ _ _ _ _ _ _
          intro a wx hB hold hdep K hK; have t8 : a.tmps[8]? = some (.int .i64 (i : Nat)) := hold.2.2 8 rfl; clear hold hdep; go_simp; exact hK.out _ _ rfl (Below.refl _ _)
        · show StepOkB _ _ _ _ _ _ _ _ _
          intro a wx hB hold hdep K hK; obtain ⟨v27, t27, p27⟩ := hdep 3 rfl _ 27 rfl rfl; have e27 : v27 = (.slice (some ⟨b, off, none⟩) ks.length cap) := p27; subst e27; obtain ⟨v28, t28, p28⟩ := hdep 4 rfl _ 28 rfl rfl; have e28 : v28 = (.int .i64 (i : Nat)) := p28; subst e28; clear hold hdep; go_simp; exact hK.out _ _ rfl (Below.refl _ _)
        · show StepOkB _ _ _ _ _ _ _ _ _
          intro a wx hB hold hdep K hK; obtain ⟨v29, t29, p29⟩ := hdep 5 rfl _ 29 rfl rfl; have e29 : v29 = (.pointer (some ⟨b, off + i * 3, none⟩)) := p29; subst e29; have c0 := (hB.cell (lt_of_cell HG0.out)).trans HG0.out; have c1 := (hB.cell (lt_of_cell HG1.out)).trans HG1.out; have c2 := (hB.cell (lt_of_cell HG2.out)).trans HG2.out; clear hold hdep; go_simp; exact hK.out _ _ rfl (Below.refl _ _)
        · show StepOkB _ _ _ _ _ _ _ _ _
          intro a wx hB hold hdep K hK; obtain ⟨v25, t25, p25⟩ := hdep 1 rfl _ 25 rfl rfl; have e25 : v25 = (.agg #[.int .i64 (N : Nat), .slice ra rel.length rc, .slice (some ⟨tb, toff, none⟩) tr.length tc]) := p25; subst e25; obtain ⟨v30, t30, p30⟩ := hdep 6 rfl _ 30 rfl rfl; have e30 : v30 = (.agg #[.int .i64 kq, .string nq, .slice slq kks.length cpq]) := p30; subst e30; have HW := HC.out (.agg #[.int .i64 (N : Nat), .slice ra rel.length rc, .slice (some ⟨tb, toff, none⟩) tr.length tc]) (.agg #[.int .i64 kq, .string nq, .slice slq kks.length cpq]) wx (HM.out wx (below_join HBw.out hB)) (HR2.out.up hB); have HW : Hid (Calls Try.prog 24 #[(.agg #[.int .i64 (N : Nat), .slice ra rel.length rc, .slice (some ⟨tb, toff, none⟩) tr.length tc]), (.agg #[.int .i64 kq, .string nq, .slice slq kks.length cpq])] wx _) := HW; have hz9 : OUT + 1 ≤ wx.heap.size := Nat.le_trans HSz.out hB.size; have Hz9 : Hid (OUT + 1 ≤ wx.heap.size) := hz9; clear hz9; clear hold hdep; go_simp; refine HW.out.mono ?_; rintro _ w9 ⟨gn, rfl, h1, h2, hb9⟩; have H2 : Hid (w9.heap[gn]? = some (.cells (outC N N KN) 4 (0, 0))) := h2; clear h2; go_simp; (exact hK.out _ _ ⟨gn, rfl, by have := Hz9.out; omega, H2.out⟩ hb9)
        · show StepOkB _ _ _ _ _ _ _ _ _
          intro a wx hB hold hdep K hK; obtain ⟨v31, t31, p31⟩ := hdep 7 rfl _ 31 rfl rfl; (have P31 : Hid ((fun v w9 => ∃ gn, v = .slice (some ⟨gn, 0, none⟩) N N ∧ OUT < gn ∧ w9.heap[gn]? = some (.cells (outC N N KN) 4 (0, 0))) v31 wx) := p31); clear p31; obtain ⟨gn, e31, h1, h2⟩ := P31.out; subst e31; have H2 : Hid (OUT < gn ∧ wx.heap[gn]? = some (.cells (outC N N KN) 4 (0, 0))) := ⟨h1, h2⟩; clear h1 h2 P31; clear hold hdep; go_simp; (exact hK.out _ _ ⟨_, gn, rfl, by simp, H2.out.1, alloc_keep H2.out.2 _⟩ (below_more (Below.refl _ _) _))
        · exact trivial
      · intro a wx hB hold hgot K hK
        (obtain ⟨vA, tvA, pvA⟩ := hgot 0 _ 24 (by decide) (by decide) rfl rfl rfl); have evA : vA = (.slice ad i cp) := pvA; subst evA; (obtain ⟨vB, tvB, pvB⟩ := hgot 8 _ 32 (by decide) (by decide) rfl rfl rfl); obtain ⟨b9, gn, rfl, hb9, hgn1, hgn2⟩ := pvB; obtain ⟨i0, hi0, hz0, hz1, hz2⟩ := infoBs; have hsz : OUT + 1 ≤ wx.heap.size := Nat.le_trans HSz.out hB.size; (refine step_append_lies _ rfl _ _ 89 rfl (OUT + 1) 54 i0 (.slice none 0 0) 1 24 Try.underlying89 hi0 hz0 hz1 hz2 rfl (by decide) (.slice ad i cp) i (gs.map (encB N)) (eval_tmpM tvA) (rowM_up HOw.out hB) ⟨b9, 0, none⟩ 1 1 [encB N gn] (eval_tmpM tvB) rfl ?_ ?_ (by omega) (by unfold maxLen; omega) (by omega) hsz _ rfl ?_)
        · intro j u hu
          cases j with
          | zero => simp at hu; subst hu; rw [add_none]; exact hb9
          | succ j => simp at hu
        · intro u hu
          simp at hu; subst hu; rfl
        intro g3 cp3 w3 hown3 hgrow hat hlt3; have hlt' := HOw.out.lt; have hown' := rowM_up HOw.out hB; refine hK.out _ _ ⟨g3, cp3, gn, rfl, hown3, hgn1, ?_, ?_, ?_, ?_⟩
        · exact (hgrow.block gn (lt_of_block hgn2) fun e => rowM_ne hown' hgn2 (by decide) e.symm).trans hgn2
        · exact (HK.out.move fun b cur h => hB.block b (lt_of_block h)).move fun b cur h => hgrow.block b (lt_of_block h) fun e => rowM_ne hown' h (by decide) e.symm
        · exact ((below_join HB.out hB).grown hgrow (below_join HB.out hB).size fun k hk => by have := (hlt' k hk).1; have := HW2z.out; omega)
        · exact Nat.le_trans hsz hgrow.size
      · intro a wx hold hpx hpu K hK
        obtain ⟨v9, t9, g3, cp3, gn, rfl, h1, h2, h3, h4, h5, h6⟩ := hpx 33 rfl; (have HO1 : Hid (wx.ownsRow (OUT + 1) 54 1 (.slice (some ⟨g3, 0, none⟩) (i + 1) cp3) (i + 1) ((gs ++ [gn]).map (encB N))) := by rw [List.map_append]; exact h1); (have HO2 : Hid (KbS OUT wx N (gs ++ [gn]) (Ks.take (i + 1))) := by rw [HTk.out]; exact h4.snoc h2 h3); have HO3 : Hid (Below W2.heap.size W2 wx) := h5; have HO4 : Hid (OUT + 1 ≤ wx.heap.size) := h6; obtain ⟨tm, df⟩ := a; (obtain ⟨ys, hys, htm, rfl⟩ := frame_mid2 24 10 (by kernel_rfl) (Nat.le_of_ble_eq_true rfl) hold); obtain ⟨x24, x25, x26, x27, x28, x29, x30, x31, x32, x33, rfl⟩ := rowA10 ys hys; simp only [List.take_succ_cons, List.take_zero, List.drop_succ_cons, List.drop_zero, List.cons_append, List.nil_append] at htm; subst htm; obtain rfl : x33 = _ := someInjM t9; clear hys hold hpx hpu t9 h1 h2 h3 h4 h5 h6; go_simp; refine hK.out _ _ ?_; clear hK; go_wp2_with fail
        go_roundg (ks.length - (i + 1))
        case measure => have := HGk.out; have := HI.out; omega
        case rel => exact ⟨i + 1, gs ++ [gn], some ⟨g3, 0, none⟩, cp3, HI.out, rfl, by go_num, rfl, HO2, by show _ = _; simp [HGl.out], HO1, HO3, HO4⟩
    · have hii : ks.length = i := by omega
      subst hii; (have hge : ¬ (ks.length : Int) < (ks.length : Int) := by omega)
      have HKa : Hid (KbS OUT wr N gs Ks) := by
        have := HK.out; (rw [List.take_of_length_le (by rw [HKl.out]; omega)] at this); exact this
      have HFo : Hid (wr.heap[OUT]? = some (.cells (outC N 0 T) 4 (0, 0))) := below_keep HB.out HW2o.out; clear hlt hi HK HX HIh; obtain ⟨R0, hR0⟩ : ∃ R0, R0 = wr := ⟨_, rfl⟩; subst hR0; (have HOk : Hid (w.heap.size ≠ OUT ∧ w.heap.size + 1 ≠ OUT) := by have := lt_of_block HF1.out; have := HO.out; exact ⟨by omega, by omega⟩); obtain ⟨k0, k1, k2, -⟩ := blk3 HFr.out; go_wp2_with fail; clear k0 k1 k2 hge; obtain ⟨kl, hkl⟩ : ∃ kl, kl = ks.length := ⟨_, rfl⟩; have HKL : Hid (kl = ks.length) := hkl; rw [← hkl] at HFr HGl HOw HKl ⊢; clear hkl
      rcases HF.out.forms with ⟨n', e, hn⟩ | e | e | ⟨k', q, hk, e, hg⟩ | ⟨k', q, q', hk, e, hg, hg'⟩
      · cases e
        (exact absurd HCs.out (by decide))
      · cases e
        (exact absurd HCs.out (by decide))
      · cases e
        (exact absurd HCs.out (by decide))
      · cases e
        clear hg
        rcases hk with rfl | rfl | rfl
        · exact absurd HCs.out (by decide)
        · clear HCs
          have hkl : kl = 1 := HKL.out; subst hkl
          obtain ⟨g0, rfl⟩ : ∃ g0, gs = [g0] := by
            match gs, HGl.out with
            | [g0], _ => exact ⟨g0, rfl⟩
          obtain ⟨K0, rfl⟩ : ∃ K0, Ks = [K0] := by
            match Ks, HKl.out with
            | [K0], _ => exact ⟨K0, rfl⟩
          (have HG0 : Hid (g0 ≠ OUT ∧ R0.heap[g0]? = some (.cells (outC N N K0) 4 (0, 0))) := ⟨by have := (HKa.out.2 0 g0 K0 rfl rfl).1; omega, (HKa.out.2 0 g0 K0 rfl rfl).2⟩); (obtain ⟨kb, rfl, hkc⟩ := rowM_cells HOw.out (by omega)); (have hkO : kb ≠ OUT := by have := (HOw.out.lt kb rfl).1; omega); have HKO : Hid (kb ≠ OUT) := hkO; have HKb0 : Hid (R0.cell? ⟨kb, 0, none⟩ = some (.slice (some ⟨g0, 0, none⟩) N N)) := hkc 0 _ rfl; (have hcI : (1 : Int) ≤ (cp : Int) := by have := (rowM_caps HOw.out).1; omega); clear hkc hkO HKa HGl HKl HOw HKs; (have HTi : Hid (∀ u, T u = (S u).all K0) := fun u => by rw [HT.out]; rfl); clear HT
          go_loopg [9] N (fun gg cc wr => ∃ i, i ≤ N ∧ gg = N - i ∧ cc = .int .i64 (i : Nat) ∧ Hid (wr.heap[OUT]? = some (.cells (outC N i T) 4 (0, 0))) ∧ Hid (Below w1.heap.size w1 wr) ∧ Hid (Far OUT R0 wr))
          case atStart => exact ⟨0, by omega, by omega, rfl, HFo, HBa, Far.refl _ _⟩
          case round =>
            obtain ⟨i, hi, hg, rfl, HA, HB, HFa⟩ := hrel; have HGk : Hid (gk = N - i) := hg; clear hg; obtain ⟨m0, m1, m2, -⟩ := blk3 (HFa.out.blk HOk.out.1 HMr.out); obtain ⟨f0, f1, f2, -⟩ := blk3 (HFa.out.blk HOk.out.2 HFr.out); by_cases hlt : i < N
            · have hltI : (i : Int) < (N : Int) := by omega
              have HI : Hid (i < N) := hlt; have e0 := blk_cell HA.out i; rw [outC_get hlt] at e0; have e1 := blk_fz HA.out i; clear hlt hi; obtain ⟨sa, sc, s0, s1, s2, s3⟩ := HSn.out.row HI.out; have hsl := seenTo_len N rel i N; obtain ⟨SX, hSX⟩ : ∃ SX, SX = seenTo N rel i N := ⟨_, rfl⟩; rw [← hSX] at s0 s1 s3 hsl; (have HTe : Hid (T i = SX.all K0) := by show _ = _; rw [HTi.out, HS.out, hSX]); (have HSm : Hid (∀ z ∈ SX, z < N) := fun z hz => by rw [hSX] at hz; exact ((seenTo_mem HIn.out).1 hz).1); have HC0 : Hid (w1.cell? ⟨g, i, none⟩ = some (.slice sa SX.length sc)) := s0; have HC3 : Hid (0 < SX.length → ∃ b, sa = some ⟨b, 0, none⟩ ∧ ∀ (j k : Nat), SX[j]? = some k → w1.cell? ⟨b, j, none⟩ = some (.int .i64 (k : Nat))) := s3; (have hscI : (SX.length : Int) ≤ (sc : Int) := by omega); (have hslI : (SX.length : Int) ≤ 40 := by have := HN.out; omega); clear s0 s1 s2 s3 hsl hSX; go_wp2_with fail; clear e0 e1 m0 m1 m2 f0 f1 f2
              go_loopg [10] SX.length (fun gg cc wy => ∃ q, q ≤ SX.length ∧ gg = SX.length - q ∧ cc = .int .i64 (q : Nat) ∧ Hid (wy.heap[OUT]? = some (.cells ((outC N i T).setIfInBounds i (.bool ((SX.take q).all K0))) 4 (0, 0))) ∧ Hid (Below w1.heap.size w1 wy) ∧ Hid (Far OUT R0 wy))
              case atStart => exact ⟨0, by omega, by omega, rfl, set_cellE HA.out _, HB.out.setCell (p := ⟨OUT, i, none⟩) (by have := HO.out; simp; omega) _, HFa.out.set _ _⟩
              case round =>
                obtain ⟨q, hq, hg, rfl, HA2, HB2, HFa2⟩ := hrel; have HGq : Hid (gk = SX.length - q) := hg; clear hg; have d1 := (HB2.out.cell (lt_of_cell HC0.out)).trans HC0.out; by_cases hlt : q < SX.length
                · obtain ⟨nv, hv⟩ : ∃ v, SX[q]? = some v := ⟨_, List.getElem?_eq_getElem hlt⟩
                  (obtain ⟨bs, rfl, hcs⟩ := HC3.out (by omega)); have HD2 : Hid (wr.cell? ⟨bs, q, none⟩ = some (.int .i64 (nv : Nat))) := (HB2.out.cell (lt_of_cell (hcs q nv hv))).trans (hcs q nv hv); have hvN : nv < N := HSm.out nv (List.mem_of_getElem? hv); (have hvI : (nv : Int) < (N : Int) := by omega); (have hqI : (q : Int) < (SX.length : Int) := by omega); (have hqc : (q : Int) < (sc : Int) := by omega); have HQ : Hid (q < SX.length) := hlt; have HD1 : Hid (wr.cell? ⟨g, i, none⟩ = some (.slice (some ⟨bs, 0, none⟩) SX.length sc)) := d1; have HD3 : Hid (wr.cell? ⟨kb, 0, none⟩ = some (.slice (some ⟨g0, 0, none⟩) N N)) := HFa2.out.cell (a := ⟨kb, 0, none⟩) HKO.out HKb0.out
                  have HD4 : Hid (wr.cell? ⟨g0, nv, none⟩ = some (.bool (K0 nv))) := by
                    have := blk_cell (HFa2.out.blk HG0.out.1 HG0.out.2) nv; rw [outC_full hvN] at this; exact this
                  (have HTk : Hid ((SX.take (q + 1)).all K0 = ((SX.take q).all K0 && K0 nv)) := by show _ = _; rw [List.take_add_one, hv]; simp); obtain ⟨x, hx⟩ : ∃ x, x = (SX.take q).all K0 := ⟨_, rfl⟩; rw [← hx] at HA2 HTk; generalize K0 nv = y at HD4 HTk; clear hlt hq hv hcs hvN hx; go_wp2_with fail; clear d1
                  cases x with
                  | true =>
                    (refine wp_region_last (by kernel_rfl) [fun v _ => v = (.slice (some ⟨OUT, 0, none⟩) N N), fun v _ => v = (.int .i64 (i : Nat)), fun v _ => v = (.slice (some ⟨OUT, 0, none⟩) N N), fun v _ => v = (.int .i64 (i : Nat)), fun v _ => v = (.pointer (some ⟨OUT, i, none⟩)), fun v _ => v = (.bool true), fun v _ => v = (.bool true), fun v _ => v = (.slice (some ⟨kb, 0, none⟩) 1 cp), fun v _ => v = (.pointer (some ⟨kb, 0, none⟩)), fun v _ => v = (.slice (some ⟨g0, 0, none⟩) N N), fun v _ => v = (.slice (some ⟨g, 0, none⟩) N N), fun v _ => v = (.int .i64 (i : Nat)), fun v _ => v = (.pointer (some ⟨g, i, none⟩)), fun v _ => v = (.slice (some ⟨bs, 0, none⟩) SX.length sc), fun v _ => v = (.int .i64 (q : Nat)), fun v _ => v = (.pointer (some ⟨bs, q, none⟩)), fun v _ => v = (.int .i64 (nv : Nat)), fun v _ => v = (.pointer (some ⟨g0, nv, none⟩)), fun v _ => v = (.bool y), fun v _ => v = (.bool y), fun v _ => v = (.pointer (some ⟨OUT, i, none⟩))] ?_ (by kernel_rfl) (by kernel_rfl) 198 rfl (by kernel_rfl) 21 _ rfl rfl (by kernel_rfl) ?_ ?_)
                    · intro p hp
                      simp only [List.mem_cons, List.not_mem_nil, or_false] at hp
                      rcases hp with rfl | rfl | rfl | rfl | rfl | rfl | rfl | rfl | rfl | rfl | rfl | rfl | rfl | rfl | rfl | rfl | rfl | rfl | rfl | rfl | rfl
                      · exact fun _ _ _ h _ => h
                      · exact fun _ _ _ h _ => h
                      · exact fun _ _ _ h _ => h
                      · exact fun _ _ _ h _ => h
                      · exact fun _ _ _ h _ => h
                      · exact fun _ _ _ h _ => h
                      · exact fun _ _ _ h _ => h
                      · exact fun _ _ _ h _ => h
                      · exact fun _ _ _ h _ => h
                      · exact fun _ _ _ h _ => h
                      · exact fun _ _ _ h _ => h
                      · exact fun _ _ _ h _ => h
                      · exact fun _ _ _ h _ => h
                      · exact fun _ _ _ h _ => h
                      · exact fun _ _ _ h _ => h
                      · exact fun _ _ _ h _ => h
                      · exact fun _ _ _ h _ => h
                      · exact fun _ _ _ h _ => h
                      · exact fun _ _ _ h _ => h
                      · exact fun _ _ _ h _ => h
                      · exact fun _ _ _ h _ => h
                    · refine ⟨?_, ?_, ?_, ?_, ?_, ?_, ?_, ?_, ?_, ?_, ?_, ?_, ?_, ?_, ?_, ?_, ?_, ?_, ?_, ?_, ?_, trivial⟩
                      · intro a wx hB hold hdep K hK
                        have t6 : a.tmps[6]? = some (.slice (some ⟨OUT, 0, none⟩) N N) := hold.2.2 6 rfl; clear hold hdep; go_simp; exact hK.out _ _ rfl (Below.refl _ _)
                      · intro a wx hB hold hdep K hK
                        have t9 : a.tmps[9]? = some (.int .i64 (i : Nat)) := hold.2.2 9 rfl; clear hold hdep; go_simp; exact hK.out _ _ rfl (Below.refl _ _)
                      · intro a wx hB hold hdep K hK
                        have t6 : a.tmps[6]? = some (.slice (some ⟨OUT, 0, none⟩) N N) := hold.2.2 6 rfl; clear hold hdep; go_simp; exact hK.out _ _ rfl (Below.refl _ _)
                      · intro a wx hB hold hdep K hK
                        have t9 : a.tmps[9]? = some (.int .i64 (i : Nat)) := hold.2.2 9 rfl; clear hold hdep; go_simp; exact hK.out _ _ rfl (Below.refl _ _)
                      · intro a wx hB hold hdep K hK
                        obtain ⟨v146, t146, p146⟩ := hdep 2 rfl _ 146 rfl rfl; have e146 : v146 = (.slice (some ⟨OUT, 0, none⟩) N N) := p146; subst e146; obtain ⟨v147, t147, p147⟩ := hdep 3 rfl _ 147 rfl rfl; have e147 : v147 = (.int .i64 (i : Nat)) := p147; subst e147; clear hold hdep; go_simp; exact hK.out _ _ rfl (Below.refl _ _)
                      · intro a wx hB hold hdep K hK
                        obtain ⟨v148, t148, p148⟩ := hdep 4 rfl _ 148 rfl rfl; have e148 : v148 = (.pointer (some ⟨OUT, i, none⟩)) := p148; subst e148; have c9 := blk_cell (below_keep hB HA2.out) i; rw [outS_get HI.out] at c9; clear hold hdep; go_simp; exact hK.out _ _ rfl (Below.refl _ _)
                      · intro a wx hB hold hdep K hK
                        obtain ⟨v149, t149, p149⟩ := hdep 5 rfl _ 149 rfl rfl; have e149 : v149 = (.bool true) := p149; subst e149; clear hold hdep; go_simp; exact hK.out _ _ rfl (Below.refl _ _)
                      · intro a wx hB hold hdep K hK
                        obtain ⟨v150, t150, p150⟩ := hdep 6 rfl _ 150 rfl rfl; have e150 : v150 = (.bool true) := p150; subst e150; have t7 : a.tmps[7]? = some (.slice (some ⟨kb, 0, none⟩) 1 cp) := hold.2.2 7 rfl; clear hold hdep; go_simp; exact hK.out _ _ rfl (Below.refl _ _)
                      · intro a wx hB hold hdep K hK
                        obtain ⟨v150, t150, p150⟩ := hdep 6 rfl _ 150 rfl rfl; have e150 : v150 = (.bool true) := p150; subst e150; obtain ⟨v151, t151, p151⟩ := hdep 7 rfl _ 151 rfl rfl; have e151 : v151 = (.slice (some ⟨kb, 0, none⟩) 1 cp) := p151; subst e151; clear hold hdep; go_simp; exact hK.out _ _ rfl (Below.refl _ _)
                      · intro a wx hB hold hdep K hK
                        obtain ⟨v150, t150, p150⟩ := hdep 6 rfl _ 150 rfl rfl; have e150 : v150 = (.bool true) := p150; subst e150; obtain ⟨v152, t152, p152⟩ := hdep 8 rfl _ 152 rfl rfl; have e152 : v152 = (.pointer (some ⟨kb, 0, none⟩)) := p152; subst e152; have c9 := (hB.cell (lt_of_cell HD3.out)).trans HD3.out; clear hold hdep; go_simp; exact hK.out _ _ rfl (Below.refl _ _)
                      · intro a wx hB hold hdep K hK
                        obtain ⟨v150, t150, p150⟩ := hdep 6 rfl _ 150 rfl rfl; have e150 : v150 = (.bool true) := p150; subst e150; have t5 : a.tmps[5]? = some (.slice (some ⟨g, 0, none⟩) N N) := hold.2.2 5 rfl; clear hold hdep; go_simp; exact hK.out _ _ rfl (Below.refl _ _)
                      · intro a wx hB hold hdep K hK
                        obtain ⟨v150, t150, p150⟩ := hdep 6 rfl _ 150 rfl rfl; have e150 : v150 = (.bool true) := p150; subst e150; have t9 : a.tmps[9]? = some (.int .i64 (i : Nat)) := hold.2.2 9 rfl; clear hold hdep; go_simp; exact hK.out _ _ rfl (Below.refl _ _)
                      · intro a wx hB hold hdep K hK
                        obtain ⟨v150, t150, p150⟩ := hdep 6 rfl _ 150 rfl rfl; have e150 : v150 = (.bool true) := p150; subst e150; obtain ⟨v154, t154, p154⟩ := hdep 10 rfl _ 154 rfl rfl; have e154 : v154 = (.slice (some ⟨g, 0, none⟩) N N) := p154; subst e154; obtain ⟨v155, t155, p155⟩ := hdep 11 rfl _ 155 rfl rfl; have e155 : v155 = (.int .i64 (i : Nat)) := p155; subst e155; clear hold hdep; go_simp; exact hK.out _ _ rfl (Below.refl _ _)
                      · intro a wx hB hold hdep K hK
                        obtain ⟨v150, t150, p150⟩ := hdep 6 rfl _ 150 rfl rfl; have e150 : v150 = (.bool true) := p150; subst e150; obtain ⟨v156, t156, p156⟩ := hdep 12 rfl _ 156 rfl rfl; have e156 : v156 = (.pointer (some ⟨g, i, none⟩)) := p156; subst e156; have c9 := (hB.cell (lt_of_cell HD1.out)).trans HD1.out; clear hold hdep; go_simp; exact hK.out _ _ rfl (Below.refl _ _)
                      · intro a wx hB hold hdep K hK
                        obtain ⟨v150, t150, p150⟩ := hdep 6 rfl _ 150 rfl rfl; have e150 : v150 = (.bool true) := p150; subst e150; have t10 : a.tmps[10]? = some (.int .i64 (q : Nat)) := hold.2.2 10 rfl; clear hold hdep; go_simp; exact hK.out _ _ rfl (Below.refl _ _)
                      · intro a wx hB hold hdep K hK
                        obtain ⟨v150, t150, p150⟩ := hdep 6 rfl _ 150 rfl rfl; have e150 : v150 = (.bool true) := p150; subst e150; obtain ⟨v157, t157, p157⟩ := hdep 13 rfl _ 157 rfl rfl; have e157 : v157 = (.slice (some ⟨bs, 0, none⟩) SX.length sc) := p157; subst e157; obtain ⟨v158, t158, p158⟩ := hdep 14 rfl _ 158 rfl rfl; have e158 : v158 = (.int .i64 (q : Nat)) := p158; subst e158; clear hold hdep; go_simp; exact hK.out _ _ rfl (Below.refl _ _)
                      · intro a wx hB hold hdep K hK
                        obtain ⟨v150, t150, p150⟩ := hdep 6 rfl _ 150 rfl rfl; have e150 : v150 = (.bool true) := p150; subst e150; obtain ⟨v159, t159, p159⟩ := hdep 15 rfl _ 159 rfl rfl; have e159 : v159 = (.pointer (some ⟨bs, q, none⟩)) := p159; subst e159; have c9 := (hB.cell (lt_of_cell HD2.out)).trans HD2.out; clear hold hdep; go_simp; exact hK.out _ _ rfl (Below.refl _ _)
                      · intro a wx hB hold hdep K hK
                        obtain ⟨v150, t150, p150⟩ := hdep 6 rfl _ 150 rfl rfl; have e150 : v150 = (.bool true) := p150; subst e150; obtain ⟨v153, t153, p153⟩ := hdep 9 rfl _ 153 rfl rfl; have e153 : v153 = (.slice (some ⟨g0, 0, none⟩) N N) := p153; subst e153; obtain ⟨v160, t160, p160⟩ := hdep 16 rfl _ 160 rfl rfl; have e160 : v160 = (.int .i64 (nv : Nat)) := p160; subst e160; clear hold hdep; go_simp; exact hK.out _ _ rfl (Below.refl _ _)
                      · intro a wx hB hold hdep K hK
                        obtain ⟨v150, t150, p150⟩ := hdep 6 rfl _ 150 rfl rfl; have e150 : v150 = (.bool true) := p150; subst e150; obtain ⟨v161, t161, p161⟩ := hdep 17 rfl _ 161 rfl rfl; have e161 : v161 = (.pointer (some ⟨g0, nv, none⟩)) := p161; subst e161; have c9 := (hB.cell (lt_of_cell HD4.out)).trans HD4.out; clear hold hdep; go_simp; exact hK.out _ _ rfl (Below.refl _ _)
                      · intro a wx hB hold hdep K hK
                        obtain ⟨v150, t150, p150⟩ := hdep 6 rfl _ 150 rfl rfl; have e150 : v150 = (.bool true) := p150; subst e150; obtain ⟨v162, t162, p162⟩ := hdep 18 rfl _ 162 rfl rfl; have e162 : v162 = (.bool y) := p162; subst e162; clear hold hdep; go_simp; exact hK.out _ _ rfl (Below.refl _ _)
                      · intro a wx hB hold hdep K hK
                        obtain ⟨v144, t144, p144⟩ := hdep 0 rfl _ 144 rfl rfl; have e144 : v144 = (.slice (some ⟨OUT, 0, none⟩) N N) := p144; subst e144; obtain ⟨v145, t145, p145⟩ := hdep 1 rfl _ 145 rfl rfl; have e145 : v145 = (.int .i64 (i : Nat)) := p145; subst e145; clear hold hdep; go_simp; exact hK.out _ _ rfl (Below.refl _ _)
                    · intro a wx hB hold hgot K hK
                      (obtain ⟨vS, tvS, pvS⟩ := hgot 19 _ 163 (by omega) rfl rfl); have evS : vS = (.bool y) := pvS; subst evS; (obtain ⟨vP, tvP, pvP⟩ := hgot 20 _ 164 (by omega) rfl rfl); have evP : vP = (.pointer (some ⟨OUT, i, none⟩)) := pvP; subst evP; have a0 := blk_cell (below_keep hB HA2.out) i; rw [outS_get HI.out] at a0; have a1 := blk_fz (below_keep hB HA2.out) i; obtain ⟨tm, df⟩ := a; (obtain ⟨ys, hys, htm, rfl⟩ := frame_mid2 144 21 (by kernel_rfl) (Nat.le_of_ble_eq_true rfl) hold); obtain ⟨x144, x145, x146, x147, x148, x149, x150, x151, x152, x153, x154, x155, x156, x157, x158, x159, x160, x161, x162, x163, x164, rfl⟩ := rowA21 ys hys; simp only [List.take_succ_cons, List.take_zero, List.drop_succ_cons, List.drop_zero, List.cons_append, List.nil_append] at htm; subst htm; obtain rfl : x163 = _ := someInjM tvS; obtain rfl : x164 = _ := someInjM tvP; clear hys hold hgot tvS tvP; go_simp; refine hK.out _ _ ?_; clear hK a0 a1; obtain ⟨Y, hY⟩ : ∃ Y, Y = wx.setCell ⟨OUT, i, none⟩ (.bool y) := ⟨_, rfl⟩
                      have HY1 : Hid (Y.heap[OUT]? = some (.cells ((outC N i T).setIfInBounds i (.bool ((SX.take (q + 1)).all K0))) 4 (0, 0))) := by
                        (rw [hY, show (SX.take (q + 1)).all K0 = y from HTk.out.trans (by simp)]); exact outC_put2 (below_keep hB HA2.out)
                      (have HY2 : Hid (Below w1.heap.size w1 Y) := by rw [hY]; exact (below_join HB2.out hB).setCell (p := ⟨OUT, i, none⟩) (by have := HO.out; simp; omega) _); (have HY3 : Hid (Far OUT R0 Y) := by rw [hY]; exact (HFa2.out.below hB).set _ _); rw [← hY]; clear hY; go_wp2_with fail
                      go_roundg (SX.length - (q + 1))
                      case measure => have := HGq.out; have := HQ.out; omega
                      case rel => exact ⟨q + 1, HQ.out, rfl, by go_num, HY1, HY2, HY3⟩
                  | false =>
                    (refine wp_region_last (by kernel_rfl) [fun v _ => v = (.slice (some ⟨OUT, 0, none⟩) N N), fun v _ => v = (.int .i64 (i : Nat)), fun v _ => v = (.slice (some ⟨OUT, 0, none⟩) N N), fun v _ => v = (.int .i64 (i : Nat)), fun v _ => v = (.pointer (some ⟨OUT, i, none⟩)), fun v _ => v = (.bool false), fun v _ => v = (.bool false), fun _ _ => True, fun _ _ => True, fun _ _ => True, fun _ _ => True, fun _ _ => True, fun _ _ => True, fun _ _ => True, fun _ _ => True, fun _ _ => True, fun _ _ => True, fun _ _ => True, fun _ _ => True, fun v _ => v = (.bool false), fun v _ => v = (.pointer (some ⟨OUT, i, none⟩))] ?_ (by kernel_rfl) (by kernel_rfl) 198 rfl (by kernel_rfl) 21 _ rfl rfl (by kernel_rfl) ?_ ?_)
                    · intro p hp
                      simp only [List.mem_cons, List.not_mem_nil, or_false] at hp
                      rcases hp with rfl | rfl | rfl | rfl | rfl | rfl | rfl | rfl | rfl | rfl | rfl | rfl | rfl | rfl | rfl | rfl | rfl | rfl | rfl | rfl | rfl
                      · exact fun _ _ _ h _ => h
                      · exact fun _ _ _ h _ => h
                      · exact fun _ _ _ h _ => h
                      · exact fun _ _ _ h _ => h
                      · exact fun _ _ _ h _ => h
                      · exact fun _ _ _ h _ => h
                      · exact fun _ _ _ h _ => h
                      · exact fun _ _ _ h _ => h
                      · exact fun _ _ _ h _ => h
                      · exact fun _ _ _ h _ => h
                      · exact fun _ _ _ h _ => h
                      · exact fun _ _ _ h _ => h
                      · exact fun _ _ _ h _ => h
                      · exact fun _ _ _ h _ => h
                      · exact fun _ _ _ h _ => h
                      · exact fun _ _ _ h _ => h
                      · exact fun _ _ _ h _ => h
                      · exact fun _ _ _ h _ => h
                      · exact fun _ _ _ h _ => h
                      · exact fun _ _ _ h _ => h
                      · exact fun _ _ _ h _ => h
                    · refine ⟨?_, ?_, ?_, ?_, ?_, ?_, ?_, ?_, ?_, ?_, ?_, ?_, ?_, ?_, ?_, ?_, ?_, ?_, ?_, ?_, ?_, trivial⟩
                      · intro a wx hB hold hdep K hK
                        have t6 : a.tmps[6]? = some (.slice (some ⟨OUT, 0, none⟩) N N) := hold.2.2 6 rfl; clear hold hdep; go_simp; exact hK.out _ _ rfl (Below.refl _ _)
                      · intro a wx hB hold hdep K hK
                        have t9 : a.tmps[9]? = some (.int .i64 (i : Nat)) := hold.2.2 9 rfl; clear hold hdep; go_simp; exact hK.out _ _ rfl (Below.refl _ _)
                      · intro a wx hB hold hdep K hK
                        have t6 : a.tmps[6]? = some (.slice (some ⟨OUT, 0, none⟩) N N) := hold.2.2 6 rfl; clear hold hdep; go_simp; exact hK.out _ _ rfl (Below.refl _ _)
                      · intro a wx hB hold hdep K hK
                        have t9 : a.tmps[9]? = some (.int .i64 (i : Nat)) := hold.2.2 9 rfl; clear hold hdep; go_simp; exact hK.out _ _ rfl (Below.refl _ _)
                      · intro a wx hB hold hdep K hK
                        obtain ⟨v146, t146, p146⟩ := hdep 2 rfl _ 146 rfl rfl; have e146 : v146 = (.slice (some ⟨OUT, 0, none⟩) N N) := p146; subst e146; obtain ⟨v147, t147, p147⟩ := hdep 3 rfl _ 147 rfl rfl; have e147 : v147 = (.int .i64 (i : Nat)) := p147; subst e147; clear hold hdep; go_simp; exact hK.out _ _ rfl (Below.refl _ _)
                      · intro a wx hB hold hdep K hK
                        obtain ⟨v148, t148, p148⟩ := hdep 4 rfl _ 148 rfl rfl; have e148 : v148 = (.pointer (some ⟨OUT, i, none⟩)) := p148; subst e148; have c9 := blk_cell (below_keep hB HA2.out) i; rw [outS_get HI.out] at c9; clear hold hdep; go_simp; exact hK.out _ _ rfl (Below.refl _ _)
                      · intro a wx hB hold hdep K hK
                        obtain ⟨v149, t149, p149⟩ := hdep 5 rfl _ 149 rfl rfl; have e149 : v149 = (.bool false) := p149; subst e149; clear hold hdep; go_simp; exact hK.out _ _ rfl (Below.refl _ _)
                      · intro a wx hB hold hdep K hK
                        obtain ⟨v150, t150, p150⟩ := hdep 6 rfl _ 150 rfl rfl; have e150 : v150 = (.bool false) := p150; subst e150; clear hold hdep; go_simp; exact hK.out _ _ trivial (Below.refl _ _)
                      · intro a wx hB hold hdep K hK
                        obtain ⟨v150, t150, p150⟩ := hdep 6 rfl _ 150 rfl rfl; have e150 : v150 = (.bool false) := p150; subst e150; clear hold hdep; go_simp; exact hK.out _ _ trivial (Below.refl _ _)
                      · intro a wx hB hold hdep K hK
                        obtain ⟨v150, t150, p150⟩ := hdep 6 rfl _ 150 rfl rfl; have e150 : v150 = (.bool false) := p150; subst e150; clear hold hdep; go_simp; exact hK.out _ _ trivial (Below.refl _ _)
                      · intro a wx hB hold hdep K hK
                        obtain ⟨v150, t150, p150⟩ := hdep 6 rfl _ 150 rfl rfl; have e150 : v150 = (.bool false) := p150; subst e150; clear hold hdep; go_simp; exact hK.out _ _ trivial (Below.refl _ _)
                      · intro a wx hB hold hdep K hK
                        obtain ⟨v150, t150, p150⟩ := hdep 6 rfl _ 150 rfl rfl; have e150 : v150 = (.bool false) := p150; subst e150; clear hold hdep; go_simp; exact hK.out _ _ trivial (Below.refl _ _)
                      · intro a wx hB hold hdep K hK
                        obtain ⟨v150, t150, p150⟩ := hdep 6 rfl _ 150 rfl rfl; have e150 : v150 = (.bool false) := p150; subst e150; clear hold hdep; go_simp; exact hK.out _ _ trivial (Below.refl _ _)
                      · intro a wx hB hold hdep K hK
                        obtain ⟨v150, t150, p150⟩ := hdep 6 rfl _ 150 rfl rfl; have e150 : v150 = (.bool false) := p150; subst e150; clear hold hdep; go_simp; exact hK.out _ _ trivial (Below.refl _ _)
                      · intro a wx hB hold hdep K hK
                        obtain ⟨v150, t150, p150⟩ := hdep 6 rfl _ 150 rfl rfl; have e150 : v150 = (.bool false) := p150; subst e150; clear hold hdep; go_simp; exact hK.out _ _ trivial (Below.refl _ _)
                      · intro a wx hB hold hdep K hK
                        obtain ⟨v150, t150, p150⟩ := hdep 6 rfl _ 150 rfl rfl; have e150 : v150 = (.bool false) := p150; subst e150; clear hold hdep; go_simp; exact hK.out _ _ trivial (Below.refl _ _)
                      · intro a wx hB hold hdep K hK
                        obtain ⟨v150, t150, p150⟩ := hdep 6 rfl _ 150 rfl rfl; have e150 : v150 = (.bool false) := p150; subst e150; clear hold hdep; go_simp; exact hK.out _ _ trivial (Below.refl _ _)
                      · intro a wx hB hold hdep K hK
                        obtain ⟨v150, t150, p150⟩ := hdep 6 rfl _ 150 rfl rfl; have e150 : v150 = (.bool false) := p150; subst e150; clear hold hdep; go_simp; exact hK.out _ _ trivial (Below.refl _ _)
                      · intro a wx hB hold hdep K hK
                        obtain ⟨v150, t150, p150⟩ := hdep 6 rfl _ 150 rfl rfl; have e150 : v150 = (.bool false) := p150; subst e150; clear hold hdep; go_simp; exact hK.out _ _ trivial (Below.refl _ _)
                      · intro a wx hB hold hdep K hK
                        obtain ⟨v150, t150, p150⟩ := hdep 6 rfl _ 150 rfl rfl; have e150 : v150 = (.bool false) := p150; subst e150; obtain ⟨v162, t162, p162⟩ := hdep 18 rfl _ 162 rfl rfl; (have P162 : Hid ((fun _ _ => True) v162 wx) := p162); clear p162; clear hold hdep; go_simp; exact hK.out _ _ rfl (Below.refl _ _)
                      · intro a wx hB hold hdep K hK
                        obtain ⟨v144, t144, p144⟩ := hdep 0 rfl _ 144 rfl rfl; have e144 : v144 = (.slice (some ⟨OUT, 0, none⟩) N N) := p144; subst e144; obtain ⟨v145, t145, p145⟩ := hdep 1 rfl _ 145 rfl rfl; have e145 : v145 = (.int .i64 (i : Nat)) := p145; subst e145; clear hold hdep; go_simp; exact hK.out _ _ rfl (Below.refl _ _)
                    · intro a wx hB hold hgot K hK
                      (obtain ⟨vS, tvS, pvS⟩ := hgot 19 _ 163 (by omega) rfl rfl); have evS : vS = (.bool false) := pvS; subst evS; (obtain ⟨vP, tvP, pvP⟩ := hgot 20 _ 164 (by omega) rfl rfl); have evP : vP = (.pointer (some ⟨OUT, i, none⟩)) := pvP; subst evP; have a0 := blk_cell (below_keep hB HA2.out) i; rw [outS_get HI.out] at a0; have a1 := blk_fz (below_keep hB HA2.out) i; obtain ⟨tm, df⟩ := a; (obtain ⟨ys, hys, htm, rfl⟩ := frame_mid2 144 21 (by kernel_rfl) (Nat.le_of_ble_eq_true rfl) hold); obtain ⟨x144, x145, x146, x147, x148, x149, x150, x151, x152, x153, x154, x155, x156, x157, x158, x159, x160, x161, x162, x163, x164, rfl⟩ := rowA21 ys hys; simp only [List.take_succ_cons, List.take_zero, List.drop_succ_cons, List.drop_zero, List.cons_append, List.nil_append] at htm; subst htm; obtain rfl : x163 = _ := someInjM tvS; obtain rfl : x164 = _ := someInjM tvP; clear hys hold hgot tvS tvP; go_simp; refine hK.out _ _ ?_; clear hK a0 a1; obtain ⟨Y, hY⟩ : ∃ Y, Y = wx.setCell ⟨OUT, i, none⟩ (.bool false) := ⟨_, rfl⟩
                      have HY1 : Hid (Y.heap[OUT]? = some (.cells ((outC N i T).setIfInBounds i (.bool ((SX.take (q + 1)).all K0))) 4 (0, 0))) := by
                        (rw [hY, show (SX.take (q + 1)).all K0 = false from HTk.out.trans (by simp)]); exact outC_put2 (below_keep hB HA2.out)
                      (have HY2 : Hid (Below w1.heap.size w1 Y) := by rw [hY]; exact (below_join HB2.out hB).setCell (p := ⟨OUT, i, none⟩) (by have := HO.out; simp; omega) _); (have HY3 : Hid (Far OUT R0 Y) := by rw [hY]; exact (HFa2.out.below hB).set _ _); rw [← hY]; clear hY; go_wp2_with fail
                      go_roundg (SX.length - (q + 1))
                      case measure => have := HGq.out; have := HQ.out; omega
                      case rel => exact ⟨q + 1, HQ.out, rfl, by go_num, HY1, HY2, HY3⟩
                · have hqq : q = SX.length := by omega
                  subst hqq; (have hge : ¬ (SX.length : Int) < (SX.length : Int) := by omega); rw [List.take_length] at HA2; clear hlt hq; go_wp2_with fail
                  go_roundg (N - (i + 1))
                  case measure => have := HGk.out; have := HI.out; omega
                  case rel => exact ⟨i + 1, HI.out, rfl, by go_num, by have := HA2.out; rw [← HTe.out, outC_set] at this; exact this, HB2, HFa2⟩
            · have hii : N = i := by omega
              subst hii; (have hge : ¬ (N : Int) < (N : Int) := by omega); clear hlt hi; go_wp2_with fail; go_ret; (exact ⟨OUT, rfl, by have := HO.out; have := HB1.out.size; omega, HA.out, below_join HB1.out HB.out⟩)
        · exact absurd HCs.out (by decide)
      · cases e
        clear hg hg'
        rcases hk with rfl | rfl | rfl
        · exact absurd HCs.out (by decide)
        · exact absurd HCs.out (by decide)
        · exact absurd HCs.out (by decide)
end Go.Proofs.Ytclinobfbdljhah
