/- Texts of one proof, one behind the other: CF2, CF3, CF4. -/
import Derived.Test.YtlmjnglcdgkomacB35
/- Walks: kidsCode, weakCode. -/
namespace Go.Proofs.Ytlmjnglcdgkomac
open Go.RowKit

/-- A list of proofs. -/
def KL (w : World) (v : Value) (ks : List Pf) : Prop := ∃ sl cap, v = .slice sl ks.length cap ∧ ks.length ≤ cap ∧ cap ≤ maxLen ∧ (ks ≠ [] → ∃ b off, sl = some ⟨b, off, none⟩ ∧ PReps w b off ks)
theorem KL.up {w w' : World} {v : Value} {ks : List Pf} (h : KL w v ks) (hb : Below w.heap.size w w') : KL w' v ks := by
  obtain ⟨sl, cap, h1, h2, h3, h4⟩ := h; (refine ⟨sl, cap, h1, h2, h3, fun hne => ?_⟩); obtain ⟨b, off, h5, h6⟩ := h4 hne; exact ⟨b, off, h5, PReps.up hb b off ks h6⟩

theorem kidsC_drop {ks : List Pf} {ss : List (List Fm × List Fm)} {i : Nat} {k : Pf} {s : List Fm × List Fm} (hk : ks[i]? = some k) (hs : ss[i]? = some s) : kidsC (ks.drop i) (ss.drop i) = if isEq k.l s.1 && isEq k.r s.2 then kidsC (ks.drop (i + 1)) (ss.drop (i + 1)) else 7 := by
  have hi : i < ks.length := (List.getElem?_eq_some_iff.1 hk).1; have hj : i < ss.length := (List.getElem?_eq_some_iff.1 hs).1; rw [List.drop_eq_getElem_cons hi, List.drop_eq_getElem_cons hj, kidsC]; rw [List.getElem?_eq_getElem hi] at hk; rw [List.getElem?_eq_getElem hj] at hs; rw [Option.some.inj hk, Option.some.inj hs]

set_option maxRecDepth 10000 in
set_option maxHeartbeats 4000000 in
theorem kidsCode_any (ks : List Pf) (ss : List (List Fm × List Fm)) (hsm : ∀ s ∈ ss, s.1.length ≤ 400 ∧ s.2.length ≤ 400) (v u : Value) (w : World) (hv : KL w v ks) (hu : SQs w u ss) :
    Calls Try.prog 64 #[v, u] w fun e w' => e = .returned (.int .i64 (if ks.length ≠ ss.length then 9 else kidsC ks ss)) ∧ Below w.heap.size w w' := by
  obtain ⟨sl, cap, rfl, h1, h2, h3⟩ := hv; obtain ⟨ad, cp, rfl, g1, g2, g3⟩ := hu; (have hlI : (ks.length : Int) ≤ 9223372036854775807 := by unfold maxLen at h2; omega); (have hmI : (ss.length : Int) ≤ 9223372036854775807 := by unfold maxLen at g2; omega); have H3 : Hid (ks ≠ [] → ∃ b off, sl = some ⟨b, off, none⟩ ∧ PReps w b off ks) := h3; have G3 : Hid (ss ≠ [] → ∃ b off, ad = some ⟨b, off, none⟩ ∧ ∀ (j : Nat) (s : List Fm × List Fm), ss[j]? = some s → ∃ vl vr, w.cell? ⟨b, off + j * 2, none⟩ = some vl ∧ w.cell? ⟨b, off + j * 2 + 1, none⟩ = some vr ∧ FL w vl s.1 ∧ FL w vr s.2) := g3; have HSm : Hid (∀ s ∈ ss, s.1.length ≤ 400 ∧ s.2.length ≤ 400) := hsm; clear h3 g3 hsm; by_cases hl : ks.length = ss.length
  · rw [if_neg (fun h => h hl)]
    have HLe : Hid (ks.length = ss.length) := hl; (have hlc : (ss.length : Int) ≤ (cap : Int) := by omega); obtain ⟨m, hm⟩ : ∃ m, m = ss.length := ⟨_, rfl⟩; rw [hl, ← hm]; rw [← hm] at hl g1 hmI hlc; rw [hl] at h1 hlI; have HMm : Hid (m = ss.length) := hm; clear hl hm
    go_enter Try.func64, Try.ntmps64
    go_wp2_with fail
    go_loopg [15] m (fun g c wr => ∃ i, i ≤ m ∧ g = m - i ∧ c = .int .i64 (i : Nat) ∧ Below w.heap.size w wr ∧ Hid (kidsC (ks.drop i) (ss.drop i) = kidsC ks ss))
    case atStart => exact ⟨0, by omega, by omega, rfl, Below.refl _ _, by show _ = _; simp⟩
    case round =>
      obtain ⟨i, hi, hg, rfl, hbr, HN⟩ := hrel; have HG : Hid (gk = m - i) := hg; clear hg; by_cases hlt : i < m
      · have hks : i < ks.length := by have := HLe.out; have := HMm.out; omega
        (have hss : i < ss.length := by have := HMm.out; omega); obtain ⟨⟨ka, ⟨kk, kn, kf⟩, kl, kr, kks⟩, hki⟩ : ∃ f, ks[i]? = some f := ⟨_, List.getElem?_eq_getElem hks⟩; obtain ⟨⟨s1, s2⟩, hsi⟩ : ∃ f, ss[i]? = some f := ⟨_, List.getElem?_eq_getElem hss⟩; (obtain ⟨b, off, rfl, hrs⟩ := H3.out (fun e => by rw [e] at hks; simp at hks)); (obtain ⟨b', off', rfl, hrs'⟩ := G3.out (fun e => by rw [e] at hss; simp at hss)); obtain ⟨sf, cf, al, cl, ar, cr, sl2, cap2, x0, x1, x2, x3, x4, x5, x6, hrep⟩ := (PReps.up hbr b off ks hrs).at i ka kk kn kf kl kr kks hki; obtain ⟨vl, vr, y0, y1, hyl, hyr⟩ := hrs' i (s1, s2) hsi; obtain ⟨_, _, _, _, _, _, _, _, hpe, -, -, hkl, hkr, -⟩ := hrep.parts; simp only [Value.agg.injEq, Array.mk.injEq, List.cons.injEq, Value.slice.injEq, and_true, true_and] at hpe; obtain ⟨⟨rfl, rfl⟩, ⟨rfl, rfl⟩, ⟨rfl, rfl⟩, ⟨rfl, rfl⟩⟩ := hpe; have y0' := (hbr.cell (p := ⟨b', off' + i * 2, none⟩) (lt_of_cell y0)).trans y0; have y1' := (hbr.cell (p := ⟨b', off' + i * 2 + 1, none⟩) (lt_of_cell y1)).trans y1; have HYL : Hid (FL w vl s1) := hyl; have HYR : Hid (FL w vr s2) := hyr; obtain ⟨ayl, cyl, rfl, -⟩ := hyl; obtain ⟨ayr, cyr, rfl, -⟩ := hyr; have HKL : Hid (FL wr (.slice al kl.length cl) kl) := hkl; have HKR : Hid (FL wr (.slice ar kr.length cr) kr) := hkr; have hds := HN.out; rw [kidsC_drop hki hsi] at hds; (have HD : Hid ((if isEq kl s1 && isEq kr s2 then kidsC (ks.drop (i + 1)) (ss.drop (i + 1)) else 7) = kidsC ks ss) := hds); have hs12 := HSm.out _ (List.mem_of_getElem? hsi); (have HE1 : Hid (∀ wx, Below w.heap.size w wx → Below wr.heap.size wr wx → Calls Try.prog 72 #[.slice al kl.length cl, .slice ayl s1.length cyl] wx fun e w' => e = .returned (.bool (isEq kl s1)) ∧ Below wx.heap.size wx w') := fun wx hb1 hb2 => isEq_any kl s1 hs12.1 _ _ wx (HKL.out.up hb2) (HYL.out.up hb1)); (have HE2 : Hid (∀ wx, Below w.heap.size w wx → Below wr.heap.size wr wx → Calls Try.prog 72 #[.slice ar kr.length cr, .slice ayr s2.length cyr] wx fun e w' => e = .returned (.bool (isEq kr s2)) ∧ Below wx.heap.size wx w') := fun wx hb1 hb2 => isEq_any kr s2 hs12.2 _ _ wx (HKR.out.up hb2) (HYR.out.up hb1)); (have hltI : (i : Int) < (m : Int) := by omega); (have hic : (i : Int) < (cap : Int) := by omega); (have hicp : (i : Int) < (cp : Int) := by omega); have zb : b < wr.heap.size := lt_of_cell x0; have zb' : b' < wr.heap.size := lt_of_cell y0'; (have d1 : ¬ b = wr.heap.size := by omega); (have d2 : ¬ b' = wr.heap.size := by omega); generalize isEq kl s1 = e1 at *; generalize isEq kr s2 = e2 at *; clear hki hsi hrs hrs' H3 G3 hds HN hrep hkl hkr y0 y1 hs12 HYL HYR HKL HKR HSm hks hss; go_wp2_with fail; refine (HE1.out _ (below_more (below_more hbr _) _) (below_more (below_more (Below.refl _ _) _) _)).mono ?_; rintro e w1 ⟨rfl, hb1⟩; have Bw := below_join (below_more (below_more hbr _) _) hb1; have Br := below_join (below_more (below_more (Below.refl _ wr) _) _) hb1; obtain ⟨u0, u1, -⟩ := blk2 (below_keep hb1 (alloc_keep (blk_new wr (.cells #[.slice ayl s1.length cyl, .slice ayr s2.length cyr] 26 (0, 0))) (.cells #[.slice al kl.length cl, .slice ar kr.length cr] 26 (0, 0)))); obtain ⟨t0, t1, -⟩ := blk2 (below_keep hb1 (blk_two wr (.cells #[.slice ayl s1.length cyl, .slice ayr s2.length cyr] 26 (0, 0)) (.cells #[.slice al kl.length cl, .slice ar kr.length cr] 26 (0, 0))))
        cases e1
        · have HT : Hid (kidsC ks ss = 7) := by
            have := HD.out; simp only [Bool.false_and] at this; exact this.symm
          clear HD HE2; go_wp2_with fail; go_ret; (exact ⟨by rw [HT.out]; rfl, Bw⟩)
        · go_wp2_with fail
          refine (HE2.out _ Bw Br).mono ?_; rintro e w2 ⟨rfl, hb2⟩; have Bw2 := below_join Bw hb2; clear Br Bw hb2
          cases e2
          · have HT : Hid (kidsC ks ss = 7) := by
              have := HD.out; simp only [Bool.true_and] at this; exact this.symm
            clear HD; go_wp2_with fail; go_ret; (exact ⟨by rw [HT.out]; rfl, Bw2⟩)
          · have HT : Hid (kidsC (ks.drop (i + 1)) (ss.drop (i + 1)) = kidsC ks ss) := by
              have := HD.out; simp only [Bool.true_and, if_true] at this; exact this
            clear HD; go_wp2_with fail
            go_roundg (m - (i + 1))
            case measure => have := HG.out; omega
            case rel => exact ⟨i + 1, by omega, rfl, by go_num, Bw2, HT⟩
      · have HT : Hid (kidsC ks ss = 0) := by
          have := HN.out; (rw [List.drop_of_length_le (by have := HLe.out; have := HMm.out; omega), kidsC] at this)
          · exact this.symm
          · intro k ks' s ss' h; cases h
        (have hge : ¬ (i : Int) < (m : Int) := by omega); clear H3 G3 HN; go_wp2_with fail; go_ret; (exact ⟨by rw [HT.out]; rfl, hbr⟩)
  · rw [if_pos hl]
    (have hlJ : ((ks.length : Int) != (ss.length : Int)) = true := by simp; omega); clear H3 G3
    go_enter Try.func64, Try.ntmps64
    go_wp2_with fail; go_ret; exact ⟨rfl, Below.refl _ _⟩
end Go.Proofs.Ytlmjnglcdgkomac
/- Walks: weakCode. -/
namespace Go.Proofs.Ytlmjnglcdgkomac
open Go.RowKit

theorem zero_fm {k : Int} {n : ByteArray} {kf : List Fm} : Fm.mk k n kf = .mk 0 ⟨#[]⟩ [] ↔ k = 0 ∧ n.data.toList = [] ∧ kf = [] := by
  constructor
  · intro h
    injection h with h1 h2 h3
    (exact ⟨h1, by rw [h2], h3⟩)
  · rintro ⟨h1, h2, h3⟩
    (have : n = ⟨#[]⟩ := by apply ByteArray.ext; apply Array.ext'; exact h2); rw [h1, this, h3]

theorem weakC_form {f : Fm} {l r : List Fm} {ks : List Pf} (h : ¬ f = .mk 0 ⟨#[]⟩ []) : weakC f l r ks = 5 := by
  unfold weakC; rw [if_neg h]
theorem weakC_one {l r : List Fm} {k : Pf} : weakC (.mk 0 ⟨#[]⟩ []) l r [k] = if within k.l l && within k.r r then 0 else 7 := by
  unfold weakC; rw [if_pos rfl]
theorem weakC_size {l r : List Fm} {ks : List Pf} (h : ¬ ks.length = 1) : weakC (.mk 0 ⟨#[]⟩ []) l r ks = 9 := by
  unfold weakC; rw [if_pos rfl]
  split
  · exact absurd rfl h
  · rfl

set_option maxRecDepth 10000 in
set_option maxHeartbeats 4000000 in
theorem weakCode_any (a : ByteArray) (f : Fm) (l r : List Fm) (ks : List Pf) (hl4 : l.length ≤ 300) (hr4 : r.length ≤ 300) (v : Value) (w : World) (hv : PRep w (.mk a f l r ks) v) :
    Calls Try.prog 61 #[v] w fun e w' => e = .returned (.int .i64 (weakC f l r ks)) ∧ Below w.heap.size w w' := by
  obtain ⟨k, n, kf⟩ := f; obtain ⟨sf, cf, al, cl, ar, cr, sl, cap, rfl, -, -, hl, hr, hkc, hcm, hks⟩ := hv.parts; have HL : Hid (FL w (.slice al l.length cl) l) := hl; have HR : Hid (FL w (.slice ar r.length cr) r) := hr; (have hkI : (ks.length : Int) ≤ 9223372036854775807 := by unfold maxLen at hcm; omega); have HK : Hid (ks ≠ [] → ∃ b off, sl = some ⟨b, off, none⟩ ∧ PReps w b off ks) := hks; clear hv hl hr hks; by_cases hk : k = 0
  · subst hk
    by_cases hn : n.data.toList = []
    · have hn' : n = ⟨#[]⟩ := by apply ByteArray.ext; apply Array.ext'; exact hn
      subst hn'; by_cases hkf : kf = []
      · subst hkf
        by_cases hk1 : ks.length = 1
        · obtain ⟨⟨ka, ⟨kk, kn, kkf⟩, kl, kr, kks⟩, rfl⟩ : ∃ x, ks = [x] := by
            match ks, hk1 with
            | [x], _ => exact ⟨x, rfl⟩
          (obtain ⟨b, off, rfl, hrs⟩ := HK.out (by simp)); obtain ⟨sf2, cf2, al2, cl2, ar2, cr2, sl2, cap2, x0, x1, x2, x3, x4, x5, x6, hrep⟩ := hrs.at 0 ka kk kn kkf kl kr kks rfl; simp only [Nat.zero_mul, Nat.add_zero] at x0 x1 x2 x3 x4 x5 x6; obtain ⟨_, _, _, _, _, _, _, _, hpe, -, -, hkl, hkr, -⟩ := hrep.parts; simp only [Value.agg.injEq, Array.mk.injEq, List.cons.injEq, Value.slice.injEq, and_true, true_and] at hpe; obtain ⟨⟨rfl, rfl⟩, ⟨rfl, rfl⟩, ⟨rfl, rfl⟩, ⟨rfl, rfl⟩⟩ := hpe; (have HW1 : Hid (∀ wx, Below w.heap.size w wx → Calls Try.prog 69 #[.slice al2 kl.length cl2, .slice al l.length cl] wx fun e w' => e = .returned (.bool (within kl l)) ∧ Below wx.heap.size wx w') := fun wx hb => within_any kl l (by omega) _ _ wx (hkl.up hb) (HL.out.up hb)); (have HW2 : Hid (∀ wx, Below w.heap.size w wx → Calls Try.prog 69 #[.slice ar2 kr.length cr2, .slice ar r.length cr] wx fun e w' => e = .returned (.bool (within kr r)) ∧ Below wx.heap.size wx w') := fun wx hb => within_any kr r (by omega) _ _ wx (hkr.up hb) (HR.out.up hb)); rw [weakC_one]; (show Calls Try.prog _ _ _ fun e w' => e = .returned (.int .i64 (if within kl l && within kr r then 0 else 7)) ∧ _); generalize within kl l = e1 at *; generalize within kr r = e2 at *; (have hc1 : (1 : Int) ≤ (cap : Int) := by simp at hkc; omega); have zb : b < w.heap.size := lt_of_cell x0; (have d1 : ¬ b = w.heap.size := by omega); clear hrs HK hrep hkl hkr HL HR hk1 hn hkc hcm
          go_enter Try.func61, Try.ntmps61
          go_wp2_with fail; refine (HW1.out _ (below_more (below_more (Below.refl _ _) _) _)).mono ?_; rintro e w1 ⟨rfl, hb1⟩; have B1 := below_join (below_more (below_more (Below.refl _ w) _) _) hb1; obtain ⟨t0, t1, -⟩ := blk2 (below_keep hb1 (blk_two w _ _)); obtain ⟨j0, j1, j2, j3, j4, j5, j6⟩ := blk7 (below_keep hb1 (alloc_keep (blk_new w _) _))
          cases e1
          · go_wp2_with fail
            go_ret; exact ⟨rfl, B1⟩
          · go_wp2_with fail
            refine (HW2.out _ B1).mono ?_; rintro e w2 ⟨rfl, hb2⟩; have B2 := below_join B1 hb2
            cases e2
            · go_wp2_with fail
              go_ret; exact ⟨rfl, B2⟩
            · go_wp2_with fail
              go_ret; exact ⟨rfl, B2⟩
        · have hkJ : ((ks.length : Int) != 1) = true := by simp; omega
          rw [weakC_size hk1]; clear HK hk1
          go_enter Try.func61, Try.ntmps61
          go_wp2_with fail; go_ret; exact ⟨rfl, below_more (Below.refl _ w) _⟩
      · rw [weakC_form fun h => hkf (zero_fm.1 h).2.2]
        have hkJ : ((kf.length : Int) != 0) = true := by
          have := List.length_pos_iff.2 hkf
          simp
          exact hkf
        clear HK hkf
        go_enter Try.func61, Try.ntmps61
        go_wp2_with fail; go_ret; exact ⟨rfl, below_more (Below.refl _ w) _⟩
    · rw [weakC_form fun h => hn (zero_fm.1 h).2.1]
      (have hnJ : (n.toList == ([] : List UInt8)) = false := by rw [ByteArray.toList_eq]; simpa using hn); (have hnE : (n.toList).isEmpty = false := by rw [ByteArray.toList_eq]; simpa using hn); clear HK hn
      go_enter Try.func61, Try.ntmps61
      go_wp2_with fail; go_ret; exact ⟨rfl, below_more (Below.refl _ w) _⟩
  · rw [weakC_form fun h => hk (zero_fm.1 h).1]
    (have hkJ : (k != 0) = true := by simpa using hk); clear HK
    go_enter Try.func61, Try.ntmps61
    go_wp2_with fail; go_ret; exact ⟨rfl, below_more (Below.refl _ w) _⟩
end Go.Proofs.Ytlmjnglcdgkomac
/- Walks: stepCode. -/
namespace Go.Proofs.Ytlmjnglcdgkomac
open Go.RowKit Go.Maps Go.WideMaps

theorem stepC_end {i : Bool} {a : ByteArray} {f : Fm} {l r : List Fm} {ks : List Pf} (h : noEnd i l r = true) : stepC i (.mk a f l r ks) = 5 := by
  rw [stepC, if_pos]; unfold noEnd at h; rw [Bool.or_eq_true, Bool.and_eq_true] at h
  rcases h with h | h
  · exact Or.inl (by simpa using h)
  · exact Or.inr ⟨h.1, by simpa using h.2⟩
theorem noEnd_not {i : Bool} {l r : List Fm} (h : noEnd i l r = false) : ¬ ((seqCode l r).1 ≠ 0 ∨ (i = true ∧ 1 < r.length)) := by
  unfold noEnd at h; rw [Bool.or_eq_false_iff] at h; rintro (h' | h')
  · have := h.1
    simp at this; exact h' this
  · have := h.2
    rw [h'.1] at this; simp at this; omega
theorem stepC_weak {i : Bool} {a : ByteArray} {f : Fm} {l r : List Fm} {ks : List Pf} (h : noEnd i l r = false) (hw : a.data.toList = weakT) : stepC i (.mk a f l r ks) = weakC f l r ks := by
  rw [stepC, if_neg (noEnd_not h), if_pos hw]
theorem stepC_kind {i : Bool} {a : ByteArray} {f : Fm} {l r : List Fm} {ks : List Pf} (h : noEnd i l r = false) (hw : ¬ a.data.toList = weakT) (hr : ruleOf i a.data.toList = none) : stepC i (.mk a f l r ks) = 4 := by
  rw [stepC, if_neg (noEnd_not h), if_neg hw, hr]
theorem stepC_form {i : Bool} {a : ByteArray} {f : Fm} {l r : List Fm} {ks : List Pf} {q : Ru} (h : noEnd i l r = false) (hw : ¬ a.data.toList = weakT) (hr : ruleOf i a.data.toList = some q) (hp : f.pcode.1 ≠ 0) : stepC i (.mk a f l r ks) = 5 := by
  rw [stepC, if_neg (noEnd_not h), if_neg hw, hr]; (show (if f.pcode.1 ≠ 0 then (5 : Int) else _) = 5); rw [if_pos hp]
theorem stepC_false {i : Bool} {a : ByteArray} {f : Fm} {l r : List Fm} {ks : List Pf} {q : Ru} (h : noEnd i l r = false) (hw : ¬ a.data.toList = weakT) (hr : ruleOf i a.data.toList = some q) (hp : f.pcode.1 = 0) (hn : prem i q f l r = none) : stepC i (.mk a f l r ks) = 7 := by
  rw [stepC, if_neg (noEnd_not h), if_neg hw, hr]; (show (if f.pcode.1 ≠ 0 then (5 : Int) else _) = 7); (rw [if_neg (fun h => h hp), hn])
theorem stepC_kids {i : Bool} {a : ByteArray} {f : Fm} {l r : List Fm} {ks : List Pf} {q : Ru} {ss : List (List Fm × List Fm)} (h : noEnd i l r = false) (hw : ¬ a.data.toList = weakT) (hr : ruleOf i a.data.toList = some q) (hp : f.pcode.1 = 0) (hn : prem i q f l r = some ss) : stepC i (.mk a f l r ks) = if ks.length ≠ ss.length then 9 else kidsC ks ss := by
  rw [stepC, if_neg (noEnd_not h), if_neg hw, hr]; (show (if f.pcode.1 ≠ 0 then (5 : Int) else _) = _); (rw [if_neg (fun h => h hp), hn])

theorem prem_small {i : Bool} {q : Ru} {f : Fm} {l r : List Fm} {ss : List (List Fm × List Fm)} (hl : l.length ≤ 300) (hr : r.length ≤ 300) (h : prem i q f l r = some ss) : ∀ s ∈ ss, s.1.length ≤ 400 ∧ s.2.length ≤ 400 := by
  have h1 : (l.erase f).length ≤ l.length := List.length_erase_le; have h2 : (r.erase f).length ≤ r.length := List.length_erase_le
  cases q <;> simp only [prem] at h
  all_goals
    first
    | (split at h
       · cases h
         intro s hs
         first
         | (cases hs; done)
         | skip
         all_goals simp only [List.mem_cons, List.not_mem_nil, or_false] at hs
         all_goals cases i
         all_goals
           first
           | (rcases hs with rfl | rfl <;> simp <;> omega)
           | (subst hs; simp; omega)
           | (subst hs; simp)
       · cases h)
    | (cases h
       intro s hs; simp only [List.mem_cons, List.not_mem_nil, or_false] at hs
       cases i
       all_goals (rcases hs with rfl | rfl <;> simp <;> omega))

/-- What the look-up of a rule answers. -/
theorem rules_look {i : Bool} {w : World} {m : Nat} (h : RulesAt i w m) (a : ByteArray) (ha : a.size ≤ maxLen) : (ruleOf i a.data.toList = none → ∀ wx, Below w.heap.size w wx → (Instr.lookup 59 (.map (some m)) (.string a) true).run Try.prog wx = .ok (.tuple #[.nilFunc, .bool false]) wx) ∧
    ∀ q, ruleOf i a.data.toList = some q → ∃ v B, RuleFn i q v B w ∧ ∀ wx, Below w.heap.size w wx → (Instr.lookup 59 (.map (some m)) (.string a) true).run Try.prog wx = .ok (.tuple #[v, .bool true]) wx := by
  obtain ⟨n, D, h1, h2, h3⟩ := h; have hkey : keyOf Try.prog 9 (.string a) = some (.string a.data.toList) := keyOf_string_mk Try.underlying9 ha; (have hz : ∀ w, (zeroValue 68).run Try.prog w = .ok .nilFunc w := fun w => by kernel_rfl); (have hl := fun (wx : World) (hb : Below w.heap.size w wx) => (h1.kept (grown_of_below hb) (by simp)).look_ok strKeyed Try.underlying59 (hz wx) (show heldR .nilFunc = some (.held .nilFunc, []) from rfl) hkey)
  constructor
  · intro hn wx hb
    obtain ⟨v, ps, hrun, hv⟩ := hl wx hb; (have hh : Maps.has D (.string a.data.toList) = false := by rw [h2, hn]; rfl); rw [atKey_of_not_has hh] at hv; rw [hh] at hrun; unfold heldR at hv; simp only [Option.some.injEq, Prod.mk.injEq, DataW.held.injEq] at hv; rw [hv.1] at hrun; exact hrun
  · intro q hq
    obtain ⟨v, B, hat, hr⟩ := h3 _ q hq; (refine ⟨v, B, hr, fun wx hb => ?_⟩); obtain ⟨v', ps, hrun, hv⟩ := hl wx hb; (have hh : Maps.has D (.string a.data.toList) = true := by rw [h2, hq]; rfl); rw [hat] at hv; rw [hh] at hrun; unfold heldR at hv; simp only [Option.some.injEq, Prod.mk.injEq, DataW.held.injEq] at hv; rw [hv.1] at hrun; exact hrun
end Go.Proofs.Ytlmjnglcdgkomac
