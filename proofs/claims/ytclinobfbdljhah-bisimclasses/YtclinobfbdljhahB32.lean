/- Texts of one proof, one behind the other: MAAA. -/
import Derived.Test.YtclinobfbdljhahB27
/- Walks: at which worlds a formula is true, by the yardstick: kinds 1, 2, 3. -/
namespace Go.Proofs.Ytclinobfbdljhah
open Go.RowKit Go.Sort

set_option maxRecDepth 10000 in
set_option maxHeartbeats 16000000 in
theorem allR_A (N : Nat) (hN1 : 0 < N) (hN : N ≤ 40) (rel : List (Int × Int)) (hrl : rel.length ≤ 2000) (hin : InR N rel) (tr : List (List (List UInt8))) (htr : tr.length = N) (m : Nat) (ih : AllR N rel tr m) (k : Int) (n : ByteArray) (ks : List Fm) (hc : k = 1 ∨ k = 2 ∨ k = 3) (hm : (Fm.mk k n ks).size < m + 1) (hfi : Fine (.mk k n ks)) : AllF N rel tr (.mk k n ks) := by
  intro v u w hv hrep; have HCs : Hid (k = 1 ∨ k = 2 ∨ k = 3) := hc; clear hc; have HIn : Hid (InR N rel) := hin; have HN : Hid (N ≤ 40) := hN; have HTr : Hid (tr.length = N) := htr; (have HM : Hid (∀ W, Below w.heap.size w W → MR W ⟨(N : Int), rel, tr⟩ v) := fun W hb => hv.up hb); obtain ⟨ra, rc, ta, tc, rfl, hpl, hsl, hmx⟩ := hv; simp only at hpl hsl hmx HM ⊢; have HPl : Hid (PL w (.slice ra rel.length rc) rel) := hpl; obtain ⟨ta', tc', e2, s1, s2, s3⟩ := hsl; simp only [Value.slice.injEq, true_and] at e2; obtain ⟨rfl, rfl⟩ := e2; (obtain ⟨tb, toff, rfl, hcT⟩ := s3 (fun e => by rw [e] at htr; simp at htr; omega))
  obtain ⟨tv, htv⟩ : ∃ tv : Nat → Value, ∀ q, q < N → w.cell? ⟨tb, toff + q, none⟩ = some (tv q) ∧ SL w (tv q) (tr.getD q []) := by
    (refine ⟨fun q => (w.cell? ⟨tb, toff + q, none⟩).getD undef, fun q hq => ?_⟩); (obtain ⟨u, h1, h2⟩ := hcT q (tr.getD q []) (by rw [List.getD_eq_getElem?_getD, List.getElem?_eq_getElem (by omega)]; rfl)); simp only [h1, Option.getD_some]; exact ⟨trivial, h2⟩
  have HTv : Hid (∀ q, q < N → w.cell? ⟨tb, toff + q, none⟩ = some (tv q) ∧ SL w (tv q) (tr.getD q [])) := htv; (have htcI : (N : Int) ≤ (tc : Int) := by omega); (have hNI : (N : Int) ≤ 40 := by omega); obtain ⟨sl, cap, rfl, hx1, hx2, hx3, hx4⟩ := Rep.def.1 hrep; (have HX : Hid (ks ≠ [] → ∃ b off, sl = some ⟨b, off, none⟩ ∧ True ∧ Reps w (fun _ => True) b off ks) := hx4); have hk2 := hfi.small.2; (have hkI : (ks.length : Int) ≤ 2 := by omega); have HF : Hid (Fine (.mk k n ks)) := hfi; (have HIh : Hid (∀ (i : Nat) (f : Fm), ks[i]? = some f → ∀ v u W, MR W ⟨(N : Int), rel, tr⟩ v → Rep W (fun _ => True) f u → Calls Try.prog 24 #[v, u] W _) := fun i f hi v u W h1 h2 => ih f v u W (by have := sizes_get hi; rw [Fm.size] at hm; omega) (HF.out.kid i f hi) h1 h2); obtain ⟨S, hS⟩ : ∃ S, S = seeR N (relB rel) := ⟨_, rfl⟩; (have HS : Hid (∀ u, S u = seenTo N rel u N) := fun u => by rw [hS]; exact seeR_eq hin u); obtain ⟨p, hp⟩ : ∃ p, p = pT tr := ⟨_, rfl⟩; (have HP : Hid (∀ u s, p u s = decide (s ∈ tr.getD u [])) := fun u s => by rw [hp, pT, List.contains_eq_mem]); rw [← hS, ← hp] at HIh ⊢; obtain ⟨Ks, hKs⟩ : ∃ Ks, Ks = mtvs S p ks := ⟨_, rfl⟩; have HKs : Hid (Ks = mtvs S p ks) := hKs; (have HKl : Hid (Ks.length = ks.length) := by rw [hKs]; exact mtvs_len _ _ _); obtain ⟨T, hT⟩ : ∃ T, T = mtv S p (.mk k n ks) := ⟨_, rfl⟩; (have HT : Hid (T = mval S k (fun u => p u n.data.toList) Ks) := by show _ = _; rw [hT, hKs, mtv]); rw [← hT]; (have HSe : Hid (∀ W, PL W (.slice ra rel.length rc) rel → Calls Try.prog 44 #[.agg #[.int .i64 (N : Nat), .slice ra rel.length rc, .slice (some ⟨tb, toff, none⟩) tr.length tc]] W _) := fun W h => seen_any N hN rel hrl hin ra (some ⟨tb, toff, none⟩) rc tr.length tc W h); (have hmk := fun w => run_make_row' (P := Try.prog) 54 4 (.bool false) 1 Try.underlying54 (by kernel_rfl) rfl .i64 .i64 N (by omega) (by omega) w); obtain ⟨W0, hW0⟩ : ∃ W0, W0 = (w.alloc (.cells #[.int .i64 (N : Nat), .slice ra rel.length rc, .slice (some ⟨tb, toff, none⟩) tr.length tc] 30 (0, 0))).alloc (.cells #[.int .i64 k, .string n, .slice sl ks.length cap] 24 (0, 0)) := ⟨_, rfl⟩; (have HB0 : Hid (Below w.heap.size w W0) := by rw [hW0]; exact below_more (below_more (Below.refl _ w) _) _); (have HM0 : Hid (W0.heap[w.heap.size]? = some (.cells #[.int .i64 (N : Nat), .slice ra rel.length rc, .slice (some ⟨tb, toff, none⟩) tr.length tc] 30 (0, 0))) := by rw [hW0]; exact alloc_keep (blk_new _ _) _); (have HF0 : Hid (W0.heap[w.heap.size + 1]? = some (.cells #[.int .i64 k, .string n, .slice sl ks.length cap] 24 (0, 0))) := by rw [hW0]; exact blk_secE _ _ _); clear hpl hmx s1 s2 s3 hcT htv hin hrl htr hN ih hx4 hfi hrep hS hp hKs hT hx1 hx3 hm hk2
  go_enter Try.func24, Try.ntmps24
  go_wp2_with fail; rw [← hW0]; refine (HSe.out W0 (HPl.out.up HB0.out)).mono ?_; rintro _ w1 ⟨g, rfl, hg0, hsn, hb1⟩; have HSn : Hid (SnR W0.heap.size w1 g N rel) := hsn; have HB1 : Hid (Below w.heap.size w w1) := below_join HB0.out hb1; have HM1 : Hid (w1.heap[w.heap.size]? = some (.cells #[.int .i64 (N : Nat), .slice ra rel.length rc, .slice (some ⟨tb, toff, none⟩) tr.length tc] 30 (0, 0))) := below_keep hb1 HM0.out; have HF1 : Hid (w1.heap[w.heap.size + 1]? = some (.cells #[.int .i64 k, .string n, .slice sl ks.length cap] 24 (0, 0))) := below_keep hb1 HF0.out; clear hg0 hsn hb1 hW0 HSe HM0 HF0 HB0; obtain ⟨OUT, hO⟩ : ∃ OUT, OUT = w1.heap.size := ⟨_, rfl⟩; have HO : Hid (OUT = w1.heap.size) := hO; obtain ⟨k0, k1, k2, -⟩ := blk3 HM1.out; go_wp2_with fail; obtain ⟨W2, hW2⟩ : ∃ W2, W2 = w1.alloc (.cells (madeCells #[Value.bool false] N) 4 (0, 0)) := ⟨_, rfl⟩; (have HW2o : Hid (W2.heap[OUT]? = some (.cells (outC N 0 T) 4 (0, 0))) := by rw [hW2, ← outC_zero, hO]; exact blk_new _ _); (have HW2b : Hid (Below w1.heap.size w1 W2) := by rw [hW2]; exact below_more (Below.refl _ _) _); (have HW2z : Hid (W2.heap.size = OUT + 1) := by show _ = _; rw [hW2, hO]; simp); rw [← hW2, ← hO]; clear hmk k0 k1 k2 hO hW2
  go_loopg [8, 7] ks.length (fun gg cc x wr => ∃ i gs ad cp, i ≤ ks.length ∧ gg = ks.length - i ∧ cc = .int .i64 (i : Nat) ∧ x = .slice ad i cp ∧ Hid (KbS OUT wr N gs (Ks.take i)) ∧ Hid (gs.length = i) ∧ Hid (wr.ownsRow (OUT + 1) 54 1 (.slice ad i cp) i (gs.map (encB N))) ∧ Hid (Below W2.heap.size W2 wr) ∧ Hid (OUT + 1 ≤ wr.heap.size))
  case atStart => exact ⟨0, [], none, 0, by omega, by omega, rfl, rfl, ⟨by simp, fun j b K h => by simp at h⟩, rfl, ⟨rfl, Or.inl ⟨rfl, rfl⟩⟩, Below.refl _ _, by show _ ≤ _; rw [HW2z.out]; omega⟩
  case round =>
    obtain ⟨i, gs, ad, cp, hi, hg, rfl, rfl, HK, HGl, HOw, HB, HSz⟩ := hrel; have HGk : Hid (gk = ks.length - i) := hg; clear hg; have HBa : Hid (Below w1.heap.size w1 wr) := below_join HW2b.out HB.out; have HMr : Hid (wr.heap[w.heap.size]? = some (.cells #[.int .i64 (N : Nat), .slice ra rel.length rc, .slice (some ⟨tb, toff, none⟩) tr.length tc] 30 (0, 0))) := below_keep HBa.out HM1.out; have HFr : Hid (wr.heap[w.heap.size + 1]? = some (.cells #[.int .i64 k, .string n, .slice sl ks.length cap] 24 (0, 0))) := below_keep HBa.out HF1.out; have HBw : Hid (Below w.heap.size w wr) := below_join HB1.out HBa.out; by_cases hlt : i < ks.length
    · obtain ⟨k0, k1, k2, -⟩ := blk3 HFr.out
      obtain ⟨⟨kq, nq, kks⟩, hki⟩ : ∃ f, ks[i]? = some f := ⟨_, List.getElem?_eq_getElem hlt⟩; (have hltI : (i : Int) < (ks.length : Int) := by omega); (have hlc : (i : Int) < (cap : Int) := by omega); (obtain ⟨b, off, rfl, -, hrs⟩ := HX.out (fun e => by rw [e] at hlt; simp at hlt)); obtain ⟨slq, cpq, g0, g1, g2, hrep2⟩ := (hrs.up HBw.out).at i kq nq kks hki; have HG0 : Hid (wr.cell? ⟨b, off + i * 3, none⟩ = some (.int .i64 kq)) := g0; have HG1 : Hid (wr.cell? ⟨b, off + i * 3 + 1, none⟩ = some (.string nq)) := g1; have HG2 : Hid (wr.cell? ⟨b, off + i * 3 + 2, none⟩ = some (.slice slq kks.length cpq)) := g2; (have HR2 : Hid (Rep wr (fun _ => True) (.mk kq nq kks) (.agg #[.int .i64 kq, .string nq, .slice slq kks.length cpq])) := hrep2); have HC := HIh.out i _ hki; obtain ⟨KN, hKN⟩ : ∃ KN, KN = mtv S p (.mk kq nq kks) := ⟨_, rfl⟩; rw [← hKN] at HC; (have HTk : Hid (Ks.take (i + 1) = Ks.take i ++ [KN]) := by rw [HKs.out, hKN]; exact mtvs_take _ _ _ _ _ hki); (have HC : Hid (∀ v u W, MR W ⟨(N : Int), rel, tr⟩ v → Rep W (fun _ => True) (.mk kq nq kks) u → Calls Try.prog 24 #[v, u] W _) := HC); have HI : Hid (i < ks.length) := hlt; (have hi2 : (i : Int) < 2 := by omega); clear hki hrs g0 g1 g2 hrep2 hKN hlt hi; go_wp2_with fail; clear k0 k1 k2; (refine wp_region_wrb (by kernel_rfl) [fun v _ => v = (.slice ad i cp), fun v _ => v = (.agg #[.int .i64 (N : Nat), .slice ra rel.length rc, .slice (some ⟨tb, toff, none⟩) tr.length tc]), fun v _ => v = (.pointer (some ⟨w.heap.size + 1, 2, none⟩)), fun v _ => v = (.slice (some ⟨b, off, none⟩) ks.length cap), fun v _ => v = (.int .i64 (i : Nat)), fun v _ => v = (.pointer (some ⟨b, off + i * 3, none⟩)), fun v _ => v = (.agg #[.int .i64 kq, .string nq, .slice slq kks.length cpq]), fun v w9 => ∃ gn, v = .slice (some ⟨gn, 0, none⟩) N N ∧ OUT < gn ∧ w9.heap[gn]? = some (.cells (outC N N KN) 4 (0, 0)), fun v w9 => ∃ b9 gn, v = .slice (some ⟨b9, 0, none⟩) 1 1 ∧ w9.cell? ⟨b9, 0, none⟩ = some (.slice (some ⟨gn, 0, none⟩) N N) ∧ OUT < gn ∧ w9.heap[gn]? = some (.cells (outC N N KN) 4 (0, 0)), fun _ _ => True] ?_ (by kernel_rfl) (by kernel_rfl) 198 rfl (by kernel_rfl) 10 _ rfl rfl (by kernel_rfl) (fun i => none) 9 _ (by decide) rfl rfl 10 (by kernel_rfl) (fun v w9 => ∃ g3 cp3 gn, v = .slice (some ⟨g3, 0, none⟩) (i + 1) cp3 ∧ w9.ownsRow (OUT + 1) 54 1 (.slice (some ⟨g3, 0, none⟩) (i + 1) cp3) (i + 1) (gs.map (encB N) ++ [encB N gn]) ∧ OUT < gn ∧ w9.heap[gn]? = some (.cells (outC N N KN) 4 (0, 0)) ∧ KbS OUT w9 N gs (Ks.take i) ∧ Below W2.heap.size W2 w9 ∧ OUT + 1 ≤ w9.heap.size) ?_ ?_ ?_ ?_)
      · intro p hp
        simp only [List.mem_cons, List.not_mem_nil, or_false] at hp
        rcases hp with rfl | rfl | rfl | rfl | rfl | rfl | rfl | rfl | rfl | rfl
        · exact fun _ _ _ h _ => h
        · exact fun _ _ _ h _ => h
        · exact fun _ _ _ h _ => h
        · exact fun _ _ _ h _ => h
        · exact fun _ _ _ h _ => h
        · exact fun _ _ _ h _ => h
        · exact fun _ _ _ h _ => h
        · rintro v wa wb ⟨gn, e, h1, h2⟩ hb
          exact ⟨gn, e, h1, below_keep hb h2⟩
        · rintro v wa wb ⟨b9, gn, e, h0, h1, h2⟩ hb
          exact ⟨b9, gn, e, (hb.cell (lt_of_cell h0)).trans h0, h1, below_keep hb h2⟩
        · exact fun _ _ _ h _ => h
      · intro j c wq hj
        cases hj
      · refine ⟨?_, ?_, ?_, ?_, ?_, ?_, ?_, ?_, ?_, ?_, trivial⟩
        · show StepOkB _ _ _ _ _ _ _ _ _
          intro a wx hB hold hdep K hK; have t7 : a.tmps[7]? = some (.slice ad i cp) := hold.2.2 7 rfl; clear hold hdep; go_simp; exact hK.out _ _ rfl (Below.refl _ _)
        · show StepOkB _ _ _ _ _ _ _ _ _
          intro a wx hB hold hdep K hK; have t2 : a.tmps[2]? = some (.pointer (some ⟨w.heap.size, 0, none⟩)) := hold.2.2 2 rfl; obtain ⟨k0, k1, k2, -⟩ := blk3 (below_keep hB HMr.out); clear hold hdep; go_simp; exact hK.out _ _ rfl (Below.refl _ _)
        · show StepOkB _ _ _ _ _ _ _ _ _
          intro a wx hB hold hdep K hK; have t3 : a.tmps[3]? = some (.pointer (some ⟨w.heap.size + 1, 0, none⟩)) := hold.2.2 3 rfl; clear hold hdep; go_simp; exact hK.out _ _ rfl (Below.refl _ _)
        · show StepOkB _ _ _ _ _ _ _ _ _
          intro a wx hB hold hdep K hK; obtain ⟨v26, t26, p26⟩ := hdep 2 rfl _ 26 rfl rfl; have e26 : v26 = (.pointer (some ⟨w.heap.size + 1, 2, none⟩)) := p26; subst e26; obtain ⟨k0, k1, k2, -⟩ := blk3 (below_keep hB HFr.out); clear hold hdep; go_simp; exact hK.out _ _ rfl (Below.refl _ _)
        · show StepOkB _ _ _ _ _ _ _ _ _
          intro a wx hB hold hdep K hK; have t8 : a.tmps[8]? = some (.int .i64 (i : Nat)) := hold.2.2 8 rfl; clear hold hdep; go_simp; exact hK.out _ _ rfl (Below.refl _ _)
        · show StepOkB _ _ _ _ _ _ _ _ _
          intro a wx hB hold hdep K hK; obtain ⟨v27, t27, p27⟩ := hdep 3 rfl _ 27 rfl rfl; have e27 : v27 = (.slice (some ⟨b, off, none⟩) ks.length cap) := p27; subst e27; obtain ⟨v28, t28, p28⟩ := hdep 4 rfl _ 28 rfl rfl; have e28 : v28 = (.int .i64 (i : Nat)) := p28; subst e28; clear hold hdep; go_simp; exact hK.out _ _ rfl (Below.refl _ _)
        · show StepOkB _ _ _ _ _ _ _ _ _
          intro a wx hB hold hdep K hK; obtain ⟨v29, t29, p29⟩ := hdep 5 rfl _ 29 rfl rfl; have e29 : v29 = (.pointer (some ⟨b, off + i * 3, none⟩)) := p29; subst e29; have c0 := (hB.cell (lt_of_cell HG0.out)).trans HG0.out; have c1 := (hB.cell (lt_of_cell HG1.out)).trans HG1.out; have c2 := (hB.cell (lt_of_cell HG2.out)).trans HG2.out; clear hold hdep; go_simp; exact hK.out _ _ rfl (Below.refl _ _)
        · show StepOkB _ _ _ _ _ _ _ _ _
          intro a wx hB hold hdep K hK; obtain ⟨v25, t25, p25⟩ := hdep 1 rfl _ 25 rfl rfl; have e25 : v25 = (.agg #[.int .i64 (N : Nat), .slice ra rel.length rc, .slice (some ⟨tb, toff, none⟩) tr.length tc]) := p25; subst e25; obtain ⟨v30, t30, p30⟩ := hdep 6 rfl _ 30 rfl rfl; have e30 : v30 = (.agg #[.int .i64 kq, .string nq, .slice slq kks.length cpq]) := p30; subst e30; have HW := HC.out (.agg #[.int .i64 (N : Nat), .slice ra rel.length rc, .slice (some ⟨tb, toff, none⟩) tr.length tc]) (.agg #[.int .i64 kq, .string nq, .slice slq kks.length cpq]) wx (HM.out wx (below_join HBw.out hB)) (HR2.out.up hB); have HW : Hid (Calls Try.prog 24 #[(.agg #[.int .i64 (N : Nat), .slice ra rel.length rc, .slice (some ⟨tb, toff, none⟩) tr.length tc]), (.agg #[.int .i64 kq, .string nq, .slice slq kks.length cpq])] wx _) := HW; have hz9 : OUT + 1 ≤ wx.heap.size := Nat.le_trans HSz.out hB.size; have Hz9 : Hid (OUT + 1 ≤ wx.heap.size) := hz9; clear hz9; clear hold hdep; go_simp; refine HW.out.mono ?_; rintro _ w9 ⟨gn, rfl, h1, h2, hb9⟩; have H2 : Hid (w9.heap[gn]? = some (.cells (outC N N KN) 4 (0, 0))) := h2; clear h2; go_simp; (exact hK.out _ _ ⟨gn, rfl, by have := Hz9.out; omega, H2.out⟩ hb9)
        · show StepOkB _ _ _ _ _ _ _ _ _
          intro a wx hB hold hdep K hK; obtain ⟨v31, t31, p31⟩ := hdep 7 rfl _ 31 rfl rfl; (have P31 : Hid ((fun v w9 => ∃ gn, v = .slice (some ⟨gn, 0, none⟩) N N ∧ OUT < gn ∧ w9.heap[gn]? = some (.cells (outC N N KN) 4 (0, 0))) v31 wx) := p31); clear p31; obtain ⟨gn, e31, h1, h2⟩ := P31.out; subst e31; have H2 : Hid (OUT < gn ∧ wx.heap[gn]? = some (.cells (outC N N KN) 4 (0, 0))) := ⟨h1, h2⟩; clear h1 h2 P31; clear hold hdep; go_simp; (exact hK.out _ _ ⟨_, gn, rfl, by simp, H2.out.1, alloc_keep H2.out.2 _⟩ (below_more (Below.refl _ _) _))
        · exact trivial
      · intro a wx hB hold hgot K hK
        (obtain ⟨vA, tvA, pvA⟩ := hgot 0 _ 24 (by decide) (by decide) rfl rfl rfl); have evA : vA = (.slice ad i cp) := pvA; subst evA; (obtain ⟨vB, tvB, pvB⟩ := hgot 8 _ 32 (by decide) (by decide) rfl rfl rfl); obtain ⟨b9, gn, rfl, hb9, hgn1, hgn2⟩ := pvB; obtain ⟨i0, hi0, hz0, hz1, hz2⟩ := infoBs; have hsz : OUT + 1 ≤ wx.heap.size := Nat.le_trans HSz.out hB.size; (refine step_append_lies _ rfl _ _ 89 rfl (OUT + 1) 54 i0 (.slice none 0 0) 1 24 Try.underlying89 hi0 hz0 hz1 hz2 rfl (by decide) (.slice ad i cp) i (gs.map (encB N)) (eval_tmpM tvA) (rowM_up HOw.out hB) ⟨b9, 0, none⟩ 1 1 [encB N gn] (eval_tmpM tvB) rfl ?_ ?_ (by omega) (by unfold maxLen; omega) (by omega) hsz _ rfl ?_)
        · intro j u hu
          cases j with
          | zero => simp at hu; subst hu; rw [add_none]; exact hb9
          | succ j => simp at hu
        · intro u hu
          simp at hu; subst hu; rfl
        intro g3 cp3 w3 hown3 hgrow hat hlt3; have hlt' := HOw.out.lt; have hown' := rowM_up HOw.out hB; refine hK.out _ _ ⟨g3, cp3, gn, rfl, hown3, hgn1, ?_, ?_, ?_, ?_⟩
        · exact (hgrow.block gn (lt_of_block hgn2) fun e => rowM_ne hown' hgn2 (by decide) e.symm).trans hgn2
        · exact (HK.out.move fun b cur h => hB.block b (lt_of_block h)).move fun b cur h => hgrow.block b (lt_of_block h) fun e => rowM_ne hown' h (by decide) e.symm
        · exact ((below_join HB.out hB).grown hgrow (below_join HB.out hB).size fun k hk => by have := (hlt' k hk).1; have := HW2z.out; omega)
        · exact Nat.le_trans hsz hgrow.size
      · intro a wx hold hpx hpu K hK
        obtain ⟨v9, t9, g3, cp3, gn, rfl, h1, h2, h3, h4, h5, h6⟩ := hpx 33 rfl; (have HO1 : Hid (wx.ownsRow (OUT + 1) 54 1 (.slice (some ⟨g3, 0, none⟩) (i + 1) cp3) (i + 1) ((gs ++ [gn]).map (encB N))) := by rw [List.map_append]; exact h1); (have HO2 : Hid (KbS OUT wx N (gs ++ [gn]) (Ks.take (i + 1))) := by rw [HTk.out]; exact h4.snoc h2 h3); have HO3 : Hid (Below W2.heap.size W2 wx) := h5; have HO4 : Hid (OUT + 1 ≤ wx.heap.size) := h6; obtain ⟨tm, df⟩ := a; (obtain ⟨ys, hys, htm, rfl⟩ := frame_mid2 24 10 (by kernel_rfl) (Nat.le_of_ble_eq_true rfl) hold); obtain ⟨x24, x25, x26, x27, x28, x29, x30, x31, x32, x33, rfl⟩ := rowA10 ys hys; simp only [List.take_succ_cons, List.take_zero, List.drop_succ_cons, List.drop_zero, List.cons_append, List.nil_append] at htm; subst htm; obtain rfl : x33 = _ := someInjM t9; clear hys hold hpx hpu t9 h1 h2 h3 h4 h5 h6; go_simp; refine hK.out _ _ ?_; clear hK; go_wp2_with fail
        go_roundg (ks.length - (i + 1))
        case measure => have := HGk.out; have := HI.out; omega
        case rel => exact ⟨i + 1, gs ++ [gn], some ⟨g3, 0, none⟩, cp3, HI.out, rfl, by go_num, rfl, HO2, by show _ = _; simp [HGl.out], HO1, HO3, HO4⟩
    · have hii : ks.length = i := by omega
      subst hii; (have hge : ¬ (ks.length : Int) < (ks.length : Int) := by omega)
      have HKa : Hid (KbS OUT wr N gs Ks) := by
        have := HK.out; (rw [List.take_of_length_le (by rw [HKl.out]; omega)] at this); exact this
      have HFo : Hid (wr.heap[OUT]? = some (.cells (outC N 0 T) 4 (0, 0))) := below_keep HB.out HW2o.out; clear hlt hi HK HX HIh; obtain ⟨R0, hR0⟩ : ∃ R0, R0 = wr := ⟨_, rfl⟩; subst hR0; (have HOk : Hid (w.heap.size ≠ OUT ∧ w.heap.size + 1 ≠ OUT) := by have := lt_of_block HF1.out; have := HO.out; exact ⟨by omega, by omega⟩); obtain ⟨k0, k1, k2, -⟩ := blk3 HFr.out; go_wp2_with fail; clear k0 k1 k2 hge; obtain ⟨kl, hkl⟩ : ∃ kl, kl = ks.length := ⟨_, rfl⟩; have HKL : Hid (kl = ks.length) := hkl; rw [← hkl] at HFr HGl HOw HKl ⊢; clear hkl
      rcases HF.out.forms with ⟨n', e, hn⟩ | e | e | ⟨k', q, hk, e, hg⟩ | ⟨k', q, q', hk, e, hg, hg'⟩
      · cases e
        clear hn HCs; (have HTi : Hid (∀ u, T u = p u n.data.toList) := fun u => by rw [HT.out]; rfl); clear HT; clear HKa HGl HKl HOw HKs
        go_loopg [9] N (fun gg cc wr => ∃ i, i ≤ N ∧ gg = N - i ∧ cc = .int .i64 (i : Nat) ∧ Hid (wr.heap[OUT]? = some (.cells (outC N i T) 4 (0, 0))) ∧ Hid (Below w1.heap.size w1 wr) ∧ Hid (Far OUT R0 wr))
        case atStart => exact ⟨0, by omega, by omega, rfl, HFo, HBa, Far.refl _ _⟩
        case round =>
          obtain ⟨i, hi, hg, rfl, HA, HB, HFa⟩ := hrel; have HGk : Hid (gk = N - i) := hg; clear hg; obtain ⟨m0, m1, m2, -⟩ := blk3 (HFa.out.blk HOk.out.1 HMr.out); obtain ⟨f0, f1, f2, -⟩ := blk3 (HFa.out.blk HOk.out.2 HFr.out); by_cases hlt : i < N
          · have hltI : (i : Int) < (N : Int) := by omega
            have HI : Hid (i < N) := hlt; have e0 := blk_cell HA.out i; rw [outC_get hlt] at e0; have e1 := blk_fz HA.out i; clear hlt hi; have HMw : Hid (wr.heap[w.heap.size]? = some (.cells #[.int .i64 (N : Nat), .slice ra rel.length rc, .slice (some ⟨tb, toff, none⟩) tr.length tc] 30 (0, 0))) := HFa.out.blk HOk.out.1 HMr.out; have HFw : Hid (wr.heap[w.heap.size + 1]? = some (.cells #[.int .i64 1, .string n, .slice sl kl cap] 24 (0, 0))) := HFa.out.blk HOk.out.2 HFr.out; obtain ⟨tx1, tx2⟩ := HTv.out i HI.out; have HBo : Hid (Below w.heap.size w wr) := below_join HB1.out HB.out; have HSl := tx2; obtain ⟨xa, xc, txe, -⟩ := tx2; obtain ⟨xn, hxn⟩ : ∃ xn, xn = (tr.getD i []).length := ⟨_, rfl⟩; rw [← hxn] at txe; rw [txe] at tx1 HSl; have HTc : Hid (wr.cell? ⟨tb, toff + i, none⟩ = some (.slice xa xn xc)) := (HBo.out.cell (lt_of_cell tx1)).trans tx1; (have HHt : Hid (∀ W, Below wr.heap.size wr W → Calls Try.prog 45 #[.slice xa xn xc, .string n] W fun e w' => e = .returned (.bool (decide (n.data.toList ∈ tr.getD i []))) ∧ w' = W) := fun W hb => hasText_sl _ n.data.toList _ W (HSl.up (below_join HBo.out hb))); (have HTe : Hid (T i = decide (n.data.toList ∈ tr.getD i [])) := by show _ = _; rw [HTi.out, HP.out]); generalize decide (n.data.toList ∈ tr.getD i []) = bb at *; (have hiT : (i : Int) < (tr.length : Int) := by have := HTr.out; omega); (have hiC : (i : Int) < (tc : Int) := by omega); clear tx1 txe hxn HSl; go_wp2_with fail; clear m0 m1 m2 f0 f1 f2 e0 e1; (refine wp_region_last (by kernel_rfl) [fun v _ => v = (.slice (some ⟨OUT, 0, none⟩) N N), fun v _ => v = (.int .i64 (i : Nat)), fun v _ => v = (.pointer (some ⟨w.heap.size, 2, none⟩)), fun v _ => v = (.slice (some ⟨tb, toff, none⟩) tr.length tc), fun v _ => v = (.int .i64 (i : Nat)), fun v _ => v = (.pointer (some ⟨tb, toff + i, none⟩)), fun v _ => v = (.slice xa xn xc), fun v _ => v = (.pointer (some ⟨w.heap.size + 1, 1, none⟩)), fun v _ => v = (.string n), fun v _ => v = (.bool bb), fun v _ => v = (.pointer (some ⟨OUT, i, none⟩))] ?_ (by kernel_rfl) (by kernel_rfl) 198 rfl (by kernel_rfl) 11 _ rfl rfl (by kernel_rfl) ?_ ?_)
            · intro p hp
              simp only [List.mem_cons, List.not_mem_nil, or_false] at hp
              rcases hp with rfl | rfl | rfl | rfl | rfl | rfl | rfl | rfl | rfl | rfl | rfl
              · exact fun _ _ _ h _ => h
              · exact fun _ _ _ h _ => h
              · exact fun _ _ _ h _ => h
              · exact fun _ _ _ h _ => h
              · exact fun _ _ _ h _ => h
              · exact fun _ _ _ h _ => h
              · exact fun _ _ _ h _ => h
              · exact fun _ _ _ h _ => h
              · exact fun _ _ _ h _ => h
              · exact fun _ _ _ h _ => h
              · exact fun _ _ _ h _ => h
            · refine ⟨?_, ?_, ?_, ?_, ?_, ?_, ?_, ?_, ?_, ?_, ?_, trivial⟩
              · intro a wx hB hold hdep K hK
                have t6 : a.tmps[6]? = some (.slice (some ⟨OUT, 0, none⟩) N N) := hold.2.2 6 rfl; clear hold hdep; go_simp; exact hK.out _ _ rfl (Below.refl _ _)
              · intro a wx hB hold hdep K hK
                have t9 : a.tmps[9]? = some (.int .i64 (i : Nat)) := hold.2.2 9 rfl; clear hold hdep; go_simp; exact hK.out _ _ rfl (Below.refl _ _)
              · intro a wx hB hold hdep K hK
                have t2 : a.tmps[2]? = some (.pointer (some ⟨w.heap.size, 0, none⟩)) := hold.2.2 2 rfl; clear hold hdep; go_simp; exact hK.out _ _ rfl (Below.refl _ _)
              · intro a wx hB hold hdep K hK
                obtain ⟨v46, t46, p46⟩ := hdep 2 rfl _ 46 rfl rfl; have e46 : v46 = (.pointer (some ⟨w.heap.size, 2, none⟩)) := p46; subst e46; obtain ⟨k0, k1, k2, -⟩ := blk3 (below_keep hB HMw.out); clear hold hdep; go_simp; exact hK.out _ _ rfl (Below.refl _ _)
              · intro a wx hB hold hdep K hK
                have t9 : a.tmps[9]? = some (.int .i64 (i : Nat)) := hold.2.2 9 rfl; clear hold hdep; go_simp; exact hK.out _ _ rfl (Below.refl _ _)
              · intro a wx hB hold hdep K hK
                obtain ⟨v47, t47, p47⟩ := hdep 3 rfl _ 47 rfl rfl; have e47 : v47 = (.slice (some ⟨tb, toff, none⟩) tr.length tc) := p47; subst e47; obtain ⟨v48, t48, p48⟩ := hdep 4 rfl _ 48 rfl rfl; have e48 : v48 = (.int .i64 (i : Nat)) := p48; subst e48; clear hold hdep; go_simp; exact hK.out _ _ rfl (Below.refl _ _)
              · intro a wx hB hold hdep K hK
                obtain ⟨v49, t49, p49⟩ := hdep 5 rfl _ 49 rfl rfl; have e49 : v49 = (.pointer (some ⟨tb, toff + i, none⟩)) := p49; subst e49; have c9 := (hB.cell (lt_of_cell HTc.out)).trans HTc.out; clear hold hdep; go_simp; exact hK.out _ _ rfl (Below.refl _ _)
              · intro a wx hB hold hdep K hK
                have t3 : a.tmps[3]? = some (.pointer (some ⟨w.heap.size + 1, 0, none⟩)) := hold.2.2 3 rfl; clear hold hdep; go_simp; exact hK.out _ _ rfl (Below.refl _ _)
              · intro a wx hB hold hdep K hK
                obtain ⟨v51, t51, p51⟩ := hdep 7 rfl _ 51 rfl rfl; have e51 : v51 = (.pointer (some ⟨w.heap.size + 1, 1, none⟩)) := p51; subst e51; obtain ⟨k0, k1, k2, -⟩ := blk3 (below_keep hB HFw.out); clear hold hdep; go_simp; exact hK.out _ _ rfl (Below.refl _ _)
              · intro a wx hB hold hdep K hK
                obtain ⟨v50, t50, p50⟩ := hdep 6 rfl _ 50 rfl rfl; have e50 : v50 = (.slice xa xn xc) := p50; subst e50; obtain ⟨v52, t52, p52⟩ := hdep 8 rfl _ 52 rfl rfl; have e52 : v52 = (.string n) := p52; subst e52; have HW : Hid (Calls Try.prog 45 #[(.slice xa xn xc), .string n] wx _) := HHt.out wx hB; clear hold hdep; go_simp; refine HW.out.mono ?_; rintro _ w9 ⟨rfl, rfl⟩; go_simp; exact hK.out _ _ rfl (Below.refl _ _)
              · intro a wx hB hold hdep K hK
                obtain ⟨v44, t44, p44⟩ := hdep 0 rfl _ 44 rfl rfl; have e44 : v44 = (.slice (some ⟨OUT, 0, none⟩) N N) := p44; subst e44; obtain ⟨v45, t45, p45⟩ := hdep 1 rfl _ 45 rfl rfl; have e45 : v45 = (.int .i64 (i : Nat)) := p45; subst e45; clear hold hdep; go_simp; exact hK.out _ _ rfl (Below.refl _ _)
            · intro a wx hB hold hgot K hK
              (obtain ⟨vS, tvS, pvS⟩ := hgot 9 _ 53 (by omega) rfl rfl); have evS : vS = (.bool bb) := pvS; subst evS; (obtain ⟨vP, tvP, pvP⟩ := hgot 10 _ 54 (by omega) rfl rfl); have evP : vP = (.pointer (some ⟨OUT, i, none⟩)) := pvP; subst evP; have a0 := blk_cell (below_keep hB HA.out) i; rw [outC_get HI.out] at a0; have a1 := blk_fz (below_keep hB HA.out) i; obtain ⟨tm, df⟩ := a; (obtain ⟨ys, hys, htm, rfl⟩ := frame_mid2 44 11 (by kernel_rfl) (Nat.le_of_ble_eq_true rfl) hold); obtain ⟨x44, x45, x46, x47, x48, x49, x50, x51, x52, x53, x54, rfl⟩ := rowA11 ys hys; simp only [List.take_succ_cons, List.take_zero, List.drop_succ_cons, List.drop_zero, List.cons_append, List.nil_append] at htm; subst htm; obtain rfl : x53 = _ := someInjM tvS; obtain rfl : x54 = _ := someInjM tvP; clear hys hold hgot tvS tvP; go_simp; refine hK.out _ _ ?_; clear hK a0 a1; obtain ⟨Y, hY⟩ : ∃ Y, Y = wx.setCell ⟨OUT, i, none⟩ (.bool bb) := ⟨_, rfl⟩; (have HY1 : Hid (Y.heap[OUT]? = some (.cells (outC N (i + 1) T) 4 (0, 0))) := by rw [hY]; exact outC_put (below_keep hB HA.out) HTe.out); (have HY2 : Hid (Below w1.heap.size w1 Y) := by rw [hY]; exact (below_join HB.out hB).setCell (p := ⟨OUT, i, none⟩) (by have := HO.out; simp; omega) _); (have HY3 : Hid (Far OUT R0 Y) := by rw [hY]; exact (HFa.out.below hB).set _ _); rw [← hY]; clear hY; go_wp2_with fail
              go_roundg (N - (i + 1))
              case measure => have := HGk.out; have := HI.out; omega
              case rel => exact ⟨i + 1, HI.out, rfl, by go_num, HY1, HY2, HY3⟩
          · have hii : N = i := by omega
            subst hii; (have hge : ¬ (N : Int) < (N : Int) := by omega); clear hlt hi; go_wp2_with fail; go_ret; (exact ⟨OUT, rfl, by have := HO.out; have := HB1.out.size; omega, HA.out, below_join HB1.out HB.out⟩)
      · cases e
        clear HCs; (have HTi : Hid (∀ u, T u = true) := fun u => by rw [HT.out]; rfl); clear HT; clear HKa HGl HKl HOw HKs
        go_loopg [9] N (fun gg cc wr => ∃ i, i ≤ N ∧ gg = N - i ∧ cc = .int .i64 (i : Nat) ∧ Hid (wr.heap[OUT]? = some (.cells (outC N i T) 4 (0, 0))) ∧ Hid (Below w1.heap.size w1 wr) ∧ Hid (Far OUT R0 wr))
        case atStart => exact ⟨0, by omega, by omega, rfl, HFo, HBa, Far.refl _ _⟩
        case round =>
          obtain ⟨i, hi, hg, rfl, HA, HB, HFa⟩ := hrel; have HGk : Hid (gk = N - i) := hg; clear hg; obtain ⟨m0, m1, m2, -⟩ := blk3 (HFa.out.blk HOk.out.1 HMr.out); obtain ⟨f0, f1, f2, -⟩ := blk3 (HFa.out.blk HOk.out.2 HFr.out); by_cases hlt : i < N
          · have hltI : (i : Int) < (N : Int) := by omega
            have HI : Hid (i < N) := hlt; have e0 := blk_cell HA.out i; rw [outC_get hlt] at e0; have e1 := blk_fz HA.out i; clear hlt hi; go_wp2_with fail
            go_roundg (N - (i + 1))
            case measure => have := HGk.out; have := HI.out; omega
            case rel => exact ⟨i + 1, HI.out, rfl, by go_num, outC_put (b := true) HA.out (HTi.out i), HB.out.setCell (p := ⟨OUT, i, none⟩) (by have := HO.out; simp; omega) _, HFa.out.set _ _⟩
          · have hii : N = i := by omega
            subst hii; (have hge : ¬ (N : Int) < (N : Int) := by omega); clear hlt hi; go_wp2_with fail; go_ret; (exact ⟨OUT, rfl, by have := HO.out; have := HB1.out.size; omega, HA.out, below_join HB1.out HB.out⟩)
      · cases e
        clear HCs; (have HTi : Hid (∀ u, T u = false) := fun u => by rw [HT.out]; rfl); clear HT; clear HKa HGl HKl HOw HKs
        go_loopg [9] N (fun gg cc wr => ∃ i, i ≤ N ∧ gg = N - i ∧ cc = .int .i64 (i : Nat) ∧ Hid (wr.heap[OUT]? = some (.cells (outC N i T) 4 (0, 0))) ∧ Hid (Below w1.heap.size w1 wr) ∧ Hid (Far OUT R0 wr))
        case atStart => exact ⟨0, by omega, by omega, rfl, HFo, HBa, Far.refl _ _⟩
        case round =>
          obtain ⟨i, hi, hg, rfl, HA, HB, HFa⟩ := hrel; have HGk : Hid (gk = N - i) := hg; clear hg; obtain ⟨m0, m1, m2, -⟩ := blk3 (HFa.out.blk HOk.out.1 HMr.out); obtain ⟨f0, f1, f2, -⟩ := blk3 (HFa.out.blk HOk.out.2 HFr.out); by_cases hlt : i < N
          · have hltI : (i : Int) < (N : Int) := by omega
            have HI : Hid (i < N) := hlt; have e0 := blk_cell HA.out i; rw [outC_get hlt] at e0; have e1 := blk_fz HA.out i; clear hlt hi; go_wp2_with fail
            go_roundg (N - (i + 1))
            case measure => have := HGk.out; have := HI.out; omega
            case rel => exact ⟨i + 1, HI.out, rfl, by go_num, by rw [← outC_keep (HTi.out i)]; exact HA, HB, HFa⟩
          · have hii : N = i := by omega
            subst hii; (have hge : ¬ (N : Int) < (N : Int) := by omega); clear hlt hi; go_wp2_with fail; go_ret; (exact ⟨OUT, rfl, by have := HO.out; have := HB1.out.size; omega, HA.out, below_join HB1.out HB.out⟩)
      · cases e
        clear hg
        rcases hk with rfl | rfl | rfl
        · exact absurd HCs.out (by decide)
        · exact absurd HCs.out (by decide)
        · exact absurd HCs.out (by decide)
      · cases e
        clear hg hg'
        rcases hk with rfl | rfl | rfl
        · exact absurd HCs.out (by decide)
        · exact absurd HCs.out (by decide)
        · exact absurd HCs.out (by decide)
end Go.Proofs.Ytclinobfbdljhah
