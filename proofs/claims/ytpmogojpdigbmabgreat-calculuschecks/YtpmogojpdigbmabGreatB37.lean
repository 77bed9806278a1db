/- Texts of one proof, one behind the other: YC1N. -/
import Derived.Test.YtpmogojpdigbmabGreatB35
/- Walks: the yardstick's stepCode, a part (made by gen/yc1.py). -/
namespace Go.Proofs.YtpmogojpdigbmabGreat
open Go.RowKit

set_option maxRecDepth 20000 in
set_option maxHeartbeats 16000000 in
theorem stepR_N (i : Bool) (p : Pf) (HA0 : Hid (p.lawT ≠ weakT)) (hsm : SmallP p) (v : Value) (w : World) (hv : PRep w p v) :
    Calls Tryz.prog 22 #[v, .bool i] w fun e w' => e = .returned (.int .i64 (stepC i p)) ∧ Below w.heap.size w w' := by
  obtain ⟨a, ⟨k, n, kf⟩, l, r, ks⟩ := p; have HW0 : Hid (a.data.toList ≠ weakT) := HA0.out; clear HA0; obtain ⟨hl3, hr3, hk3, hsk⟩ := hsm.parts; obtain ⟨sf, cf, al, cl, ar, cr, sl, cap, rfl, ha, hf, hl, hr, hkc, hcm, hks⟩ := hv.parts; (have HF : Hid (Rep w (fun _ => True) (.mk k n kf) _) := hf); have HL : Hid (FL w (.slice al l.length cl) l) := hl; have HR : Hid (FL w (.slice ar r.length cr) r) := hr; have HK : Hid (ks ≠ [] → ∃ b off, sl = some ⟨b, off, none⟩ ∧ PReps w b off ks) := hks; have HSK : Hid (∀ k ∈ ks, SmallP k) := hsk; (have hkI : (ks.length : Int) ≤ 1200 := by omega); (have hrI : (r.length : Int) ≤ 300 := by omega); obtain ⟨T, hT⟩ : ∃ T, T = stepC i (.mk a (.mk k n kf) l r ks) := ⟨_, rfl⟩; rw [← hT]; have HT : Hid (T = stepC i (.mk a (.mk k n kf) l r ks)) := hT; obtain ⟨O, hO⟩ : ∃ O, O = Obj.cells #[.string a, .int .i64 k, .string n, .slice sf kf.length cf, .slice al l.length cl, .slice ar r.length cr, .slice sl ks.length cap] 29 (0, 0) := ⟨_, rfl⟩; have p1 : (w.alloc O).heap[w.heap.size]? = some O := blk_new w O; rw [hO] at p1; have P1 : Hid ((w.alloc (.cells #[.string a, .int .i64 k, .string n, .slice sf kf.length cf, .slice al l.length cl, .slice ar r.length cr, .slice sl ks.length cap] 29 (0, 0))).heap[w.heap.size]? = some _) := p1; have B0 := below_more (Below.refl _ w) (.cells #[.string a, .int .i64 k, .string n, .slice sf kf.length cf, .slice al l.length cl, .slice ar r.length cr, .slice sl ks.length cap] 29 (0, 0)); (have hsq := fun wx (hb : Below w.heap.size w wx) => seqFault_any l r (by omega) (by omega) _ _ wx (HL.out.up hb) (HR.out.up hb)); (have HS0 : Hid ((seqCode l r).1 ≠ 0 → T = 5) := fun h => by rw [HT.out, stepC, if_pos (Or.inl h)]); (have HS1 : Hid (i = true → 1 < r.length → T = 5) := fun h1 h2 => by rw [HT.out, stepC, if_pos (Or.inr ⟨h1, h2⟩)])
  have HS2 : Hid ((seqCode l r).1 = 0 → ¬ (i = true ∧ 1 < r.length) → T = if a.data.toList = weakT then weakC (.mk k n kf) l r ks else match ruleOf i a.data.toList with
      | none => 4
      | some q => if (Fm.mk k n kf).pcode.1 ≠ 0 then 5 else match prem i q (.mk k n kf) l r with
        | none => 7
        | some ss => if ks.length ≠ ss.length then 9 else kidsC ks ss) := fun h1 h2 => by
    (rw [HT.out, stepC, if_neg (fun e => e.elim (fun e => e h1) h2)]); rfl
  generalize seqCode l r = sq at *; obtain ⟨s1, s2⟩ := sq; have HSQ : Hid (∀ wx, Below w.heap.size w wx → Calls Tryz.prog 11 _ wx _) := hsq; (have hfc := fun a b w => fault_code a b w); clear hf hl hr hks hsk hv hsm hT hsq p1 hO
  go_enter Tryz.func22, Tryz.ntmps22
  go_upto_region 1 with fail
  go_cut [26] from 12 to 26 (fun v wc => ∃ c, v = .bool c ∧ Hid (c = true → T = 5) ∧ Hid (c = false → T = if a.data.toList = weakT then weakC (.mk k n kf) l r ks else match ruleOf i a.data.toList with
      | none => 4
      | some q => if (Fm.mk k n kf).pcode.1 ≠ 0 then 5 else match prem i q (.mk k n kf) l r with
        | none => 7
        | some ss => if ks.length ≠ ss.length then 9 else kidsC ks ss) ∧ Hid (Below w.heap.size w wc) ∧ Hid (wc.heap[w.heap.size]? = some (.cells #[.string a, .int .i64 k, .string n, .slice sf kf.length cf, .slice al l.length cl, .slice ar r.length cr, .slice sl ks.length cap] 29 (0, 0))))
  case first =>
    go_wp2_with fail; refine (HSQ.out _ B0).mono ?_; rintro e w1 ⟨rfl, hb1⟩; have B1 := below_join B0 hb1; have Q1 : Hid (w1.heap[w.heap.size]? = some _) := below_keep hb1 P1.out; obtain ⟨j0, j1, j2, j3, j4, j5, j6⟩ := blk7 Q1.out; clear hb1 P1 B0 HSQ; by_cases hs1 : s1 = 0
    case neg =>
      (have hsJ : (s1 != 0) = true := by simpa using hs1); have H5 : Hid (T = 5) := HS0.out hs1; go_wp2_with fail; go_meet; (exact ⟨true, rfl, fun _ => H5.out, (fun h => nomatch h), B1, Q1.out⟩)
    subst hs1
    cases i
    · have HN := HS2.out rfl (fun h => nomatch h.1)
      go_wp2_with fail; go_meet; (exact ⟨false, rfl, (fun h => nomatch h), fun _ => HN, B1, Q1.out⟩)
    · by_cases h1 : 1 < r.length
      · have h1I : (1 : Int) < (r.length : Int) := by omega
        have H5 : Hid (T = 5) := HS1.out rfl h1; go_wp2_with fail; go_meet; (exact ⟨true, rfl, fun _ => H5.out, (fun h => nomatch h), B1, Q1.out⟩)
      · have h1I : ¬ (1 : Int) < (r.length : Int) := by omega
        (have HN := HS2.out rfl (fun h => h1 h.2)); go_wp2_with fail; go_meet; (exact ⟨false, by rw [decide_eq_false (show ¬ (1 : Int) < (r.length : Int) by omega)], (fun h => nomatch h), fun _ => HN, B1, Q1.out⟩)
  obtain ⟨cc, rfl, H5, HN, B1, Q1⟩ := hcut; clear HS0 HS1 HS2 HSQ P1 B0; obtain ⟨w1, hw1⟩ : ∃ x, x = wc := ⟨_, rfl⟩; subst hw1; have B1 := B1.out; obtain ⟨j0, j1, j2, j3, j4, j5, j6⟩ := blk7 Q1.out
  cases cc
  case true =>
    have H6 : Hid (T = 5) := H5.out rfl; clear H5 HN; go_wp2_with fail; go_ret; (exact ⟨by rw [H6.out]; rfl, B1⟩)
  have HTT := HN.out rfl; clear HN H5; have hw := HW0.out; clear HW0
  · rw [if_neg hw] at HTT
    (have hwj : (a.toList == ([119, 101, 97, 107] : List UInt8)) = false := by rw [ByteArray.toList_eq]; simpa [weakT] using hw)
    have HT1 : Hid (T = match ruleOf i a.data.toList with
      | none => 4
      | some q => if (Fm.mk k n kf).pcode.1 ≠ 0 then 5 else match prem i q (.mk k n kf) l r with
        | none => 7
        | some ss => if ks.length ≠ ss.length then 9 else kidsC ks ss) := HTT
    (have HPR0 : Hid (∀ wx, Below w.heap.size w wx → Calls Tryz.prog 38 #[.string a, .agg #[.int .i64 0, .string ⟨#[]⟩, .slice none 0 0], .agg #[.slice al l.length cl, .slice ar r.length cr], .bool i] wx fun e w' => ∃ x ss is ok, e = .returned (.tuple #[x, .bool is, .bool ok]) ∧ SQs w' x ss ∧ PremSpec i a.data.toList zeroF l r ss is ok ∧ Below wx.heap.size wx w') := fun wx hb => premR_any i a zeroF l r hl3 hr3 _ _ _ wx (Rep.leaf (by simp [maxLen, ByteArray.size])) (HL.out.up hb) (HR.out.up hb)); (have HPR1 : Hid (∀ wx, Below w.heap.size w wx → Calls Tryz.prog 38 #[.string a, .agg #[.int .i64 k, .string n, .slice sf kf.length cf], .agg #[.slice al l.length cl, .slice ar r.length cr], .bool i] wx fun e w' => ∃ x ss is ok, e = .returned (.tuple #[x, .bool is, .bool ok]) ∧ SQs w' x ss ∧ PremSpec i a.data.toList (.mk k n kf) l r ss is ok ∧ Below wx.heap.size wx w') := fun wx hb => premR_any i a (.mk k n kf) l r hl3 hr3 _ _ _ wx (HF.out.up hb) (HL.out.up hb) (HR.out.up hb)); (have hpl := fun v (w : World) h => plainR_any [.mk k n kf] (by simp) v w h); rw [pfirst_one] at hpl; (have HFI : Hid ((Fm.mk k n kf).pcode.1 = 0 → Fine (.mk k n kf)) := fun h => (pcode_fine h).1); generalize (Fm.mk k n kf).pcode = pc at *; obtain ⟨pc1, pc2⟩ := pc; have HPF : Hid (∀ v w, FL w v [.mk k n kf] → Calls Tryz.prog 25 #[v] w _) := hpl; clear HTT hw HT hpl
    all_goals
      go_wp2_with fail; refine (HPR0.out _ B1).mono ?_; rintro e w2 ⟨x2, ss2, is2, ok2, rfl, hsq2, hps2, hb2⟩; have B2 := below_join B1 hb2; have Q2 : Hid (w2.heap[w.heap.size]? = some _) := below_keep hb2 Q1.out; obtain ⟨ad2, cp2, rfl, -, -⟩ := hsq2.len2; have HPS2 : Hid (PremSpec i _ _ _ _ _ _ _) := hps2; clear j0 j1 j2 j3 j4 j5 j6 hb2 hsq2 hps2 HPR0; obtain ⟨j0, j1, j2, j3, j4, j5, j6⟩ := blk7 Q2.out
      cases is2
      · have H4 : Hid (T = 4) := by
          show _ = _; rw [HT1.out, HPS2.out.no]
        clear HPS2; go_wp2_with fail; go_ret; (exact ⟨by rw [H4.out]; rfl, B2⟩)
      obtain ⟨q, hq, hqt, -, -⟩ := HPS2.out.yes; have HQT : Hid (q.text = a.data.toList) := hqt; have HT2 := HT1.out; rw [hq] at HT2
      have HT3 : Hid (T = if (pc1, pc2).1 ≠ 0 then 5 else match prem i q (.mk k n kf) l r with
        | none => 7
        | some ss => if ks.length ≠ ss.length then 9 else kidsC ks ss) := HT2
      clear HT2 HT1 hq hqt HPS2; go_wp2_with fail; refine (HPF.out _ _ (FL.sing (blk_new w2 _) ((HF.out.up B2).more _))).mono ?_; rintro e w3 ⟨rfl, hb3⟩; have B3 := below_join (below_more B2 _) hb3; have Q3 : Hid (w3.heap[w.heap.size]? = some _) := below_keep hb3 (alloc_keep Q2.out _); clear j0 j1 j2 j3 j4 j5 j6 hb3; obtain ⟨j0, j1, j2, j3, j4, j5, j6⟩ := blk7 Q3.out; by_cases hp : pc1 = 0
      case neg =>
        (have hpJ : (pc1 != 0) = true := by simpa using hp); (have hif : (if (pc1, pc2).1 = 0 then ((0 : Int), (0 : Int)) else (pc1, pc2)) = (pc1, pc2) := if_neg hp); rw [hif]
        have H5 : Hid (T = 5) := by
          show _ = _; rw [HT3.out, if_pos (show (pc1, pc2).1 ≠ 0 from hp)]
        clear hif hp; go_wp2_with fail; go_ret; (exact ⟨by rw [H5.out]; rfl, B3⟩)
      subst hp; (have hif : (if ((0 : Int), pc2).1 = 0 then ((0 : Int), (0 : Int)) else (0, pc2)) = (0, 0) := if_pos rfl); rw [hif]; have hfine := HFI.out rfl; have HT4 := HT3.out; (rw [if_neg (show ¬ ((0 : Int), pc2).1 ≠ 0 from fun h => h rfl), prem_eq _ q _ hfine] at HT4)
      have HT5 : Hid (T = match (if premOk q (.mk k n kf) l r then some (premL i q (.mk k n kf) l r) else none) with
        | none => 7
        | some ss => if ks.length ≠ ss.length then 9 else kidsC ks ss) := HT4
      clear HT4 HT3 hif hfine HFI HPF; go_wp2_with fail; refine (HPR1.out _ B3).mono ?_; rintro e w4 ⟨x4, ss, is4, ok4, rfl, hsq4, hps4, hb4⟩; have B4 := below_join B3 hb4; have Q4 : Hid (w4.heap[w.heap.size]? = some _) := below_keep hb4 Q3.out; obtain ⟨ads, cps, rfl, hsc, hsmx⟩ := hsq4.len2
      have hspec : ss = premL i q (.mk k n kf) l r ∧ ok4 = premOk q (.mk k n kf) l r := by
        rcases hps4 with ⟨q', hqt', h1, -, h2⟩ | ⟨hno, -⟩
        · have e : q' = q := Option.some.inj ((ruleAll_text q').symm.trans (by rw [hqt', ← HQT.out]; exact ruleAll_text q))
          rw [← e]; exact ⟨h1, h2⟩
        · exact absurd HQT.out (hno q)
      have HT6 := HT5.out; rw [← hspec.1, ← hspec.2] at HT6; (have hss2 : ss.length ≤ 2 := by rw [hspec.1]; exact premL_len _ _ _ _ _)
      have HSS : Hid (∀ s ∈ ss, s.1.length ≤ 302 ∧ s.2.length ≤ 302) := by
        show ∀ s ∈ ss, _; rw [hspec.1]; exact premL_small _ _ _ _ _ hl3 hr3
      have HT7 : Hid (T = match (if ok4 then some ss else none) with
        | none => 7
        | some ss => if ks.length ≠ ss.length then 9 else kidsC ks ss) := HT6
      have HSQ4 : Hid (SQs w4 (.slice ads ss.length cps) ss) := hsq4; clear j0 j1 j2 j3 j4 j5 j6 hb4 hsq4 hps4 hspec HT6 HT5 HPR1 HQT hsmx; obtain ⟨j0, j1, j2, j3, j4, j5, j6⟩ := blk7 Q4.out; (have hssI : (ss.length : Int) ≤ 2 := by omega)
      cases ok4
      · have H7 : Hid (T = 7) := HT7.out
        clear HT7; go_wp2_with fail; go_ret; (exact ⟨by rw [H7.out]; rfl, B4⟩)
      (have HT8 : Hid (T = if ks.length ≠ ss.length then 9 else kidsC ks ss) := HT7.out); clear HT7; by_cases hlen : ks.length = ss.length
      case neg =>
        (have hlJ : ((ks.length : Int) != (ss.length : Int)) = true := by simp; omega)
        have H9 : Hid (T = 9) := by
          show _ = _; rw [HT8.out, if_pos hlen]
        clear hlen HT8; go_wp2_with fail; go_ret; (exact ⟨by rw [H9.out]; rfl, B4⟩)
      (have hlJ : ((ks.length : Int) != (ss.length : Int)) = false := by simp; omega)
      have HT9 : Hid (T = kidsC (ks.drop 0) (ss.drop 0)) := by
        show _ = _; (rw [HT8.out, if_neg (fun h => h hlen)]); rfl
      have HLE : Hid (ks.length = ss.length) := hlen; have HB4 : Hid (Below w.heap.size w w4) := B4; clear hlen HT8 B1 B2 B3 B4; go_wp2_with fail; clear j0 j1 j2 j3 j4 j5 j6 hlJ
      go_loopg [11] ss.length (fun g c wr => ∃ j, j ≤ ss.length ∧ g = ss.length - j ∧ c = .int .i64 (j : Nat) ∧ Hid (Below w4.heap.size w4 wr) ∧ Hid (T = kidsC (ks.drop j) (ss.drop j)))
      case atStart => exact ⟨0, by omega, by omega, rfl, Below.refl _ _, HT9⟩
      case round =>
        obtain ⟨j, hj, hg, rfl, HBr, HTj⟩ := hrel; have HG : Hid (gk = ss.length - j) := hg; clear hg HT9; have BR : Hid (Below w.heap.size w wr) := below_join HB4.out HBr.out; by_cases hlt : j < ss.length
        · obtain ⟨⟨S1, S2⟩, hsj⟩ : ∃ s, ss[j]? = some s := ⟨_, List.getElem?_eq_getElem hlt⟩
          (obtain ⟨⟨ka, ⟨kk, kn, kkf⟩, kl, kr, kks⟩, hkj⟩ : ∃ s, ks[j]? = some s := ⟨_, List.getElem?_eq_getElem (by have := HLE.out; omega)⟩); (have hltI : (j : Int) < (ss.length : Int) := by omega); (have hltK : (j : Int) < (ks.length : Int) := by have := HLE.out; omega); (have hlcK : (j : Int) < (cap : Int) := by omega); (have hlcS : (j : Int) < (cps : Int) := by omega); (obtain ⟨b, off, rfl, hrs⟩ := HK.out (fun e => by rw [e] at hkj; simp at hkj)); obtain ⟨hkl3, hkr3, -, -⟩ := (HSK.out _ (List.mem_of_getElem? hkj)).parts; obtain ⟨sf2, cf2, al2, cl2, ar2, cr2, sl2, cap2, x0, x1, x2, x3, x4, x5, x6, hrep⟩ := (PReps.up BR.out b off ks hrs).at j ka kk kn kkf kl kr kks hkj; obtain ⟨_, _, _, _, _, _, _, _, hpe, -, -, hkl, hkr, -⟩ := hrep.parts; simp only [Value.agg.injEq, Array.mk.injEq, List.cons.injEq, Value.slice.injEq, and_true, true_and] at hpe; obtain ⟨⟨rfl, rfl⟩, ⟨rfl, rfl⟩, ⟨rfl, rfl⟩, ⟨rfl, rfl⟩⟩ := hpe; obtain ⟨_, _, hve, -, -, hsq5⟩ := HSQ4.out; simp only [Value.slice.injEq, true_and] at hve; obtain ⟨rfl, rfl⟩ := hve; (obtain ⟨bs, os, rfl, hall⟩ := hsq5 (fun e => by rw [e] at hlt; simp at hlt)); obtain ⟨vl, vr, c0, c1, hfl, hfr⟩ := hall j (S1, S2) hsj; have hS3 := HSS.out _ (List.mem_of_getElem? hsj); have hfl' := hfl; have hfr' := hfr; obtain ⟨av, cv, rfl, -⟩ := hfl'; obtain ⟨au, cu, rfl, -⟩ := hfr'; have HZ : Hid (b < wr.heap.size) := lt_of_cell x4; have HC : Hid (wr.cell? ⟨b, off + j * 7 + 4, none⟩ = some (.slice al2 kl.length cl2) ∧ wr.cell? ⟨b, off + j * 7 + 5, none⟩ = some (.slice ar2 kr.length cr2)) := ⟨x4, x5⟩; have HZS : Hid (bs < wr.heap.size) := Nat.lt_of_lt_of_le (lt_of_cell c0) HBr.out.size; have HCS : Hid (wr.cell? ⟨bs, os + j * 2, none⟩ = some (.slice av S1.length cv) ∧ wr.cell? ⟨bs, os + j * 2 + 1, none⟩ = some (.slice au S2.length cu)) := ⟨(HBr.out.cell (p := ⟨bs, os + j * 2, none⟩) (lt_of_cell c0)).trans c0, (HBr.out.cell (p := ⟨bs, os + j * 2 + 1, none⟩) (lt_of_cell c1)).trans c1⟩; (have HW1' : Hid (∀ wx, Below wr.heap.size wr wx → Calls Tryz.prog 39 #[.slice av S1.length cv, .slice al2 kl.length cl2] wx fun e w' => e = .returned (.bool (isEq S1 kl)) ∧ Below wx.heap.size wx w') := fun wx hb => bag_any S1 kl (by have : S1.length ≤ 302 := hS3.1; omega) (by omega) _ _ wx (hfl.up (below_join HBr.out hb)) (hkl.up hb)); (have HW2' : Hid (∀ wx, Below wr.heap.size wr wx → Calls Tryz.prog 39 #[.slice au S2.length cu, .slice ar2 kr.length cr2] wx fun e w' => e = .returned (.bool (isEq S2 kr)) ∧ Below wx.heap.size wx w') := fun wx hb => bag_any S2 kr (by have : S2.length ≤ 302 := hS3.2; omega) (by omega) _ _ wx (hfr.up (below_join HBr.out hb)) (hkr.up hb)); have HTk := HTj.out; rw [kidsC_at hkj hsj] at HTk; (have HTk2 : Hid (T = if isEq kl S1 && isEq kr S2 then kidsC (ks.drop (j + 1)) (ss.drop (j + 1)) else 7) := HTk); rw [isEq_comm kl S1, isEq_comm kr S2] at HTk2; generalize isEq S1 kl = e1 at *; generalize isEq S2 kr = e2 at *; have HBP : Hid (wr.heap[w.heap.size]? = some _) := below_keep HBr.out Q4.out; clear hsj hkj hrs hrep hkl hkr hall c0 c1 hfl hfr hS3 HTk HTj HSQ4 HK HSS HSK x0 x1 x2 x3 x4 x5 x6 hsq5 HL HR
          cases e1
          · have HW1 : Hid (∀ wx, Below wr.heap.size wr wx → Calls Tryz.prog 39 #[.slice av S1.length cv, .slice al2 kl.length cl2] wx fun e w' => e = .returned (.bool false) ∧ Below wx.heap.size wx w') := HW1'
            have HT7 : Hid (T = 7) := HTk2.out; clear HW1' HW2' HTk2; go_wp2_with fail; (refine wp_region_free (by kernel_rfl) [kEq (.slice (some ⟨bs, os, none⟩) ss.length cps), kEq (.int .i64 (j : Nat)), kEq (.pointer (some ⟨bs, os + j * 2, none⟩)), kEq (.pointer (some ⟨bs, os + j * 2, none⟩)), kEq (.slice av S1.length cv), kEq (.pointer (some ⟨w.heap.size, 6, none⟩)), kEq (.slice (some ⟨b, off, none⟩) ks.length cap), kEq (.int .i64 (j : Nat)), kEq (.pointer (some ⟨b, off + j * 7, none⟩)), kEq (.pointer (some ⟨b, off + j * 7 + 4, none⟩)), kEq (.pointer (some ⟨b, off + j * 7 + 4, none⟩)), kEq (.slice al2 kl.length cl2), kEq (.bool false), kEq (.bool true), kEq (.bool true), kAny, kAny, kAny, kAny, kAny, kAny, kAny, kAny, kAny, kAny, kAny, kAny, kAny, kAny, kEq (.bool true)] ?_ (by kernel_rfl) (by kernel_rfl) 150 rfl (by kernel_rfl) ?_ ?_)
            · intro p hp
              simp only [List.mem_cons, List.not_mem_nil, or_false] at hp
              rcases hp with rfl | rfl | rfl | rfl | rfl | rfl | rfl | rfl | rfl | rfl | rfl | rfl | rfl | rfl | rfl | rfl | rfl | rfl | rfl | rfl | rfl | rfl | rfl | rfl | rfl | rfl | rfl | rfl | rfl | rfl
              all_goals first | exact kEq_stays _ | exact kAny_stays
            · refine ⟨?_, ?_, ?_, ?_, ?_, ?_, ?_, ?_, ?_, ?_, ?_, ?_, ?_, ?_, ?_, ?_, ?_, ?_, ?_, ?_, ?_, ?_, ?_, ?_, ?_, ?_, ?_, ?_, ?_, ?_, trivial⟩
              · intro a wx hB hold hdep K hK; have t8 : a.tmps[8]? = some (.slice (some ⟨bs, os, none⟩) ss.length cps) := hold.2.2 8 rfl; clear hold hdep; go_simp; exact hK.out _ _ rfl (Below.refl _ _)
              · intro a wx hB hold hdep K hK; have t11 : a.tmps[11]? = some (.int .i64 (j : Nat)) := hold.2.2 11 rfl; clear hold hdep; go_simp; exact hK.out _ _ rfl (Below.refl _ _)
              · intro a wx hB hold hdep K hK; have t120 := dep_eq wx (hdep 0 rfl _ 120 rfl rfl); have t121 := dep_eq wx (hdep 1 rfl _ 121 rfl rfl); clear hold hdep; go_simp; exact hK.out _ _ rfl (Below.refl _ _)
              · intro a wx hB hold hdep K hK; have t122 := dep_eq wx (hdep 2 rfl _ 122 rfl rfl); clear hold hdep; go_simp; exact hK.out _ _ rfl (Below.refl _ _)
              · intro a wx hB hold hdep K hK; have t123 := dep_eq wx (hdep 3 rfl _ 123 rfl rfl); obtain ⟨g0, g1⟩ := HCS.out; have q0 := (hB.cell (p := ⟨bs, os + j * 2, none⟩) HZS.out).trans g0; have q1 := (hB.cell (p := ⟨bs, os + j * 2 + 1, none⟩) HZS.out).trans g1; clear g0 g1; clear hold hdep; go_simp; exact hK.out _ _ rfl (Below.refl _ _)
              · intro a wx hB hold hdep K hK; have t2 : a.tmps[2]? = some (.pointer (some ⟨w.heap.size, 0, none⟩)) := hold.2.2 2 rfl; clear hold hdep; go_simp; exact hK.out _ _ rfl (Below.refl _ _)
              · intro a wx hB hold hdep K hK; have t125 := dep_eq wx (hdep 5 rfl _ 125 rfl rfl); obtain ⟨k0, k1, k2', k3, k4, k5, k6⟩ := blk7 (below_keep hB HBP.out); clear hold hdep; go_simp; exact hK.out _ _ rfl (Below.refl _ _)
              · intro a wx hB hold hdep K hK; have t11 : a.tmps[11]? = some (.int .i64 (j : Nat)) := hold.2.2 11 rfl; clear hold hdep; go_simp; exact hK.out _ _ rfl (Below.refl _ _)
              · intro a wx hB hold hdep K hK; have t126 := dep_eq wx (hdep 6 rfl _ 126 rfl rfl); have t127 := dep_eq wx (hdep 7 rfl _ 127 rfl rfl); clear hold hdep; go_simp; exact hK.out _ _ rfl (Below.refl _ _)
              · intro a wx hB hold hdep K hK; have t128 := dep_eq wx (hdep 8 rfl _ 128 rfl rfl); clear hold hdep; go_simp; exact hK.out _ _ rfl (Below.refl _ _)
              · intro a wx hB hold hdep K hK; have t129 := dep_eq wx (hdep 9 rfl _ 129 rfl rfl); clear hold hdep; go_simp; exact hK.out _ _ rfl (Below.refl _ _)
              · intro a wx hB hold hdep K hK; have t130 := dep_eq wx (hdep 10 rfl _ 130 rfl rfl); obtain ⟨g4, g5⟩ := HC.out; have q4 := (hB.cell (p := ⟨b, off + j * 7 + 4, none⟩) HZ.out).trans g4; have q5 := (hB.cell (p := ⟨b, off + j * 7 + 5, none⟩) HZ.out).trans g5; clear g4 g5; clear hold hdep; go_simp; exact hK.out _ _ rfl (Below.refl _ _)
              · intro a wx hB hold hdep K hK; have t124 := dep_eq wx (hdep 4 rfl _ 124 rfl rfl); have t131 := dep_eq wx (hdep 11 rfl _ 131 rfl rfl); clear hold hdep; go_simp; refine (HW1.out wx hB).mono ?_; rintro e w1 ⟨rfl, hb⟩; exact hK.out _ _ rfl hb
              · intro a wx hB hold hdep K hK; have t132 := dep_eq wx (hdep 12 rfl _ 132 rfl rfl); clear hold hdep; go_simp; exact hK.out _ _ rfl (Below.refl _ _)
              · intro a wx hB hold hdep K hK; have t133 := dep_eq wx (hdep 13 rfl _ 133 rfl rfl); clear hold hdep; go_simp; exact hK.out _ _ rfl (Below.refl _ _)
              iterate 14 (· intro a wx hB hold hdep K hK; have t134 := dep_eq wx (hdep 14 rfl _ 134 rfl rfl); clear hold hdep; go_simp; exact hK.out _ _ trivial (Below.refl _ _))
              · intro a wx hB hold hdep K hK; have t134 := dep_eq wx (hdep 14 rfl _ 134 rfl rfl); clear hold hdep; go_simp; exact hK.out _ _ rfl (Below.refl _ _)
            · intro a wx hB hold hgot
              (obtain ⟨v149, t149, p149⟩ := hgot 29 _ 149 rfl rfl; have e149 : v149 = (.bool true) := p149; subst e149; obtain ⟨tm, df⟩ := a; obtain ⟨ys, hys, htm, rfl⟩ := frame_mid 120 30 (by kernel_rfl) (Nat.le_of_ble_eq_true rfl) hold; obtain ⟨x120, x121, x122, x123, x124, x125, x126, x127, x128, x129, x130, x131, x132, x133, x134, x135, x136, x137, x138, x139, x140, x141, x142, x143, x144, x145, x146, x147, x148, x149, rfl⟩ := rowOf30 ys hys; simp only [List.take_succ_cons, List.take_zero, List.drop_succ_cons, List.drop_zero, List.cons_append, List.nil_append] at htm; subst htm; obtain rfl : x149 = _ := someInj t149; clear hys hold hgot t149 p149; have B2 := below_join BR.out hB; go_wp2_with fail; go_ret; (exact ⟨by rw [HT7.out]; rfl, B2⟩))
          · have HW1 : Hid (∀ wx, Below wr.heap.size wr wx → Calls Tryz.prog 39 #[.slice av S1.length cv, .slice al2 kl.length cl2] wx fun e w' => e = .returned (.bool true) ∧ Below wx.heap.size wx w') := HW1'
            cases e2
            · have HW2 : Hid (∀ wx, Below wr.heap.size wr wx → Calls Tryz.prog 39 #[.slice au S2.length cu, .slice ar2 kr.length cr2] wx fun e w' => e = .returned (.bool false) ∧ Below wx.heap.size wx w') := HW2'
              have HT7 : Hid (T = 7) := HTk2.out; clear HW1' HW2' HTk2; go_wp2_with fail; (refine wp_region_free (by kernel_rfl) [kEq (.slice (some ⟨bs, os, none⟩) ss.length cps), kEq (.int .i64 (j : Nat)), kEq (.pointer (some ⟨bs, os + j * 2, none⟩)), kEq (.pointer (some ⟨bs, os + j * 2, none⟩)), kEq (.slice av S1.length cv), kEq (.pointer (some ⟨w.heap.size, 6, none⟩)), kEq (.slice (some ⟨b, off, none⟩) ks.length cap), kEq (.int .i64 (j : Nat)), kEq (.pointer (some ⟨b, off + j * 7, none⟩)), kEq (.pointer (some ⟨b, off + j * 7 + 4, none⟩)), kEq (.pointer (some ⟨b, off + j * 7 + 4, none⟩)), kEq (.slice al2 kl.length cl2), kEq (.bool true), kEq (.bool false), kEq (.bool false), kEq (.slice (some ⟨bs, os, none⟩) ss.length cps), kEq (.int .i64 (j : Nat)), kEq (.pointer (some ⟨bs, os + j * 2, none⟩)), kEq (.pointer (some ⟨bs, os + j * 2 + 1, none⟩)), kEq (.slice au S2.length cu), kEq (.pointer (some ⟨w.heap.size, 6, none⟩)), kEq (.slice (some ⟨b, off, none⟩) ks.length cap), kEq (.int .i64 (j : Nat)), kEq (.pointer (some ⟨b, off + j * 7, none⟩)), kEq (.pointer (some ⟨b, off + j * 7 + 4, none⟩)), kEq (.pointer (some ⟨b, off + j * 7 + 5, none⟩)), kEq (.slice ar2 kr.length cr2), kEq (.bool false), kEq (.bool true), kEq (.bool true)] ?_ (by kernel_rfl) (by kernel_rfl) 150 rfl (by kernel_rfl) ?_ ?_)
              · intro p hp
                simp only [List.mem_cons, List.not_mem_nil, or_false] at hp
                rcases hp with rfl | rfl | rfl | rfl | rfl | rfl | rfl | rfl | rfl | rfl | rfl | rfl | rfl | rfl | rfl | rfl | rfl | rfl | rfl | rfl | rfl | rfl | rfl | rfl | rfl | rfl | rfl | rfl | rfl | rfl
                all_goals first | exact kEq_stays _ | exact kAny_stays
              · refine ⟨?_, ?_, ?_, ?_, ?_, ?_, ?_, ?_, ?_, ?_, ?_, ?_, ?_, ?_, ?_, ?_, ?_, ?_, ?_, ?_, ?_, ?_, ?_, ?_, ?_, ?_, ?_, ?_, ?_, ?_, trivial⟩
                · intro a wx hB hold hdep K hK; have t8 : a.tmps[8]? = some (.slice (some ⟨bs, os, none⟩) ss.length cps) := hold.2.2 8 rfl; clear hold hdep; go_simp; exact hK.out _ _ rfl (Below.refl _ _)
                · intro a wx hB hold hdep K hK; have t11 : a.tmps[11]? = some (.int .i64 (j : Nat)) := hold.2.2 11 rfl; clear hold hdep; go_simp; exact hK.out _ _ rfl (Below.refl _ _)
                · intro a wx hB hold hdep K hK; have t120 := dep_eq wx (hdep 0 rfl _ 120 rfl rfl); have t121 := dep_eq wx (hdep 1 rfl _ 121 rfl rfl); clear hold hdep; go_simp; exact hK.out _ _ rfl (Below.refl _ _)
                · intro a wx hB hold hdep K hK; have t122 := dep_eq wx (hdep 2 rfl _ 122 rfl rfl); clear hold hdep; go_simp; exact hK.out _ _ rfl (Below.refl _ _)
                · intro a wx hB hold hdep K hK; have t123 := dep_eq wx (hdep 3 rfl _ 123 rfl rfl); obtain ⟨g0, g1⟩ := HCS.out; have q0 := (hB.cell (p := ⟨bs, os + j * 2, none⟩) HZS.out).trans g0; have q1 := (hB.cell (p := ⟨bs, os + j * 2 + 1, none⟩) HZS.out).trans g1; clear g0 g1; clear hold hdep; go_simp; exact hK.out _ _ rfl (Below.refl _ _)
                · intro a wx hB hold hdep K hK; have t2 : a.tmps[2]? = some (.pointer (some ⟨w.heap.size, 0, none⟩)) := hold.2.2 2 rfl; clear hold hdep; go_simp; exact hK.out _ _ rfl (Below.refl _ _)
                · intro a wx hB hold hdep K hK; have t125 := dep_eq wx (hdep 5 rfl _ 125 rfl rfl); obtain ⟨k0, k1, k2', k3, k4, k5, k6⟩ := blk7 (below_keep hB HBP.out); clear hold hdep; go_simp; exact hK.out _ _ rfl (Below.refl _ _)
                · intro a wx hB hold hdep K hK; have t11 : a.tmps[11]? = some (.int .i64 (j : Nat)) := hold.2.2 11 rfl; clear hold hdep; go_simp; exact hK.out _ _ rfl (Below.refl _ _)
                · intro a wx hB hold hdep K hK; have t126 := dep_eq wx (hdep 6 rfl _ 126 rfl rfl); have t127 := dep_eq wx (hdep 7 rfl _ 127 rfl rfl); clear hold hdep; go_simp; exact hK.out _ _ rfl (Below.refl _ _)
                · intro a wx hB hold hdep K hK; have t128 := dep_eq wx (hdep 8 rfl _ 128 rfl rfl); clear hold hdep; go_simp; exact hK.out _ _ rfl (Below.refl _ _)
                · intro a wx hB hold hdep K hK; have t129 := dep_eq wx (hdep 9 rfl _ 129 rfl rfl); clear hold hdep; go_simp; exact hK.out _ _ rfl (Below.refl _ _)
                · intro a wx hB hold hdep K hK; have t130 := dep_eq wx (hdep 10 rfl _ 130 rfl rfl); obtain ⟨g4, g5⟩ := HC.out; have q4 := (hB.cell (p := ⟨b, off + j * 7 + 4, none⟩) HZ.out).trans g4; have q5 := (hB.cell (p := ⟨b, off + j * 7 + 5, none⟩) HZ.out).trans g5; clear g4 g5; clear hold hdep; go_simp; exact hK.out _ _ rfl (Below.refl _ _)
                · intro a wx hB hold hdep K hK; have t124 := dep_eq wx (hdep 4 rfl _ 124 rfl rfl); have t131 := dep_eq wx (hdep 11 rfl _ 131 rfl rfl); clear hold hdep; go_simp; refine (HW1.out wx hB).mono ?_; rintro e w1 ⟨rfl, hb⟩; exact hK.out _ _ rfl hb
                · intro a wx hB hold hdep K hK; have t132 := dep_eq wx (hdep 12 rfl _ 132 rfl rfl); clear hold hdep; go_simp; exact hK.out _ _ rfl (Below.refl _ _)
                · intro a wx hB hold hdep K hK; have t133 := dep_eq wx (hdep 13 rfl _ 133 rfl rfl); clear hold hdep; go_simp; exact hK.out _ _ rfl (Below.refl _ _)
                · intro a wx hB hold hdep K hK; have t134 := dep_eq wx (hdep 14 rfl _ 134 rfl rfl); have t8 : a.tmps[8]? = some (.slice (some ⟨bs, os, none⟩) ss.length cps) := hold.2.2 8 rfl; clear hold hdep; go_simp; exact hK.out _ _ rfl (Below.refl _ _)
                · intro a wx hB hold hdep K hK; have t134 := dep_eq wx (hdep 14 rfl _ 134 rfl rfl); have t11 : a.tmps[11]? = some (.int .i64 (j : Nat)) := hold.2.2 11 rfl; clear hold hdep; go_simp; exact hK.out _ _ rfl (Below.refl _ _)
                · intro a wx hB hold hdep K hK; have t134 := dep_eq wx (hdep 14 rfl _ 134 rfl rfl); have t135 := dep_eq wx (hdep 15 rfl _ 135 rfl rfl); have t136 := dep_eq wx (hdep 16 rfl _ 136 rfl rfl); clear hold hdep; go_simp; exact hK.out _ _ rfl (Below.refl _ _)
                · intro a wx hB hold hdep K hK; have t134 := dep_eq wx (hdep 14 rfl _ 134 rfl rfl); have t137 := dep_eq wx (hdep 17 rfl _ 137 rfl rfl); clear hold hdep; go_simp; exact hK.out _ _ rfl (Below.refl _ _)
                · intro a wx hB hold hdep K hK; have t134 := dep_eq wx (hdep 14 rfl _ 134 rfl rfl); have t138 := dep_eq wx (hdep 18 rfl _ 138 rfl rfl); obtain ⟨g0, g1⟩ := HCS.out; have q0 := (hB.cell (p := ⟨bs, os + j * 2, none⟩) HZS.out).trans g0; have q1 := (hB.cell (p := ⟨bs, os + j * 2 + 1, none⟩) HZS.out).trans g1; clear g0 g1; clear hold hdep; go_simp; exact hK.out _ _ rfl (Below.refl _ _)
                · intro a wx hB hold hdep K hK; have t134 := dep_eq wx (hdep 14 rfl _ 134 rfl rfl); have t2 : a.tmps[2]? = some (.pointer (some ⟨w.heap.size, 0, none⟩)) := hold.2.2 2 rfl; clear hold hdep; go_simp; exact hK.out _ _ rfl (Below.refl _ _)
                · intro a wx hB hold hdep K hK; have t134 := dep_eq wx (hdep 14 rfl _ 134 rfl rfl); have t140 := dep_eq wx (hdep 20 rfl _ 140 rfl rfl); obtain ⟨k0, k1, k2', k3, k4, k5, k6⟩ := blk7 (below_keep hB HBP.out); clear hold hdep; go_simp; exact hK.out _ _ rfl (Below.refl _ _)
                · intro a wx hB hold hdep K hK; have t134 := dep_eq wx (hdep 14 rfl _ 134 rfl rfl); have t11 : a.tmps[11]? = some (.int .i64 (j : Nat)) := hold.2.2 11 rfl; clear hold hdep; go_simp; exact hK.out _ _ rfl (Below.refl _ _)
                · intro a wx hB hold hdep K hK; have t134 := dep_eq wx (hdep 14 rfl _ 134 rfl rfl); have t141 := dep_eq wx (hdep 21 rfl _ 141 rfl rfl); have t142 := dep_eq wx (hdep 22 rfl _ 142 rfl rfl); clear hold hdep; go_simp; exact hK.out _ _ rfl (Below.refl _ _)
                · intro a wx hB hold hdep K hK; have t134 := dep_eq wx (hdep 14 rfl _ 134 rfl rfl); have t143 := dep_eq wx (hdep 23 rfl _ 143 rfl rfl); clear hold hdep; go_simp; exact hK.out _ _ rfl (Below.refl _ _)
                · intro a wx hB hold hdep K hK; have t134 := dep_eq wx (hdep 14 rfl _ 134 rfl rfl); have t144 := dep_eq wx (hdep 24 rfl _ 144 rfl rfl); clear hold hdep; go_simp; exact hK.out _ _ rfl (Below.refl _ _)
                · intro a wx hB hold hdep K hK; have t134 := dep_eq wx (hdep 14 rfl _ 134 rfl rfl); have t145 := dep_eq wx (hdep 25 rfl _ 145 rfl rfl); obtain ⟨g4, g5⟩ := HC.out; have q4 := (hB.cell (p := ⟨b, off + j * 7 + 4, none⟩) HZ.out).trans g4; have q5 := (hB.cell (p := ⟨b, off + j * 7 + 5, none⟩) HZ.out).trans g5; clear g4 g5; clear hold hdep; go_simp; exact hK.out _ _ rfl (Below.refl _ _)
                · intro a wx hB hold hdep K hK; have t134 := dep_eq wx (hdep 14 rfl _ 134 rfl rfl); have t139 := dep_eq wx (hdep 19 rfl _ 139 rfl rfl); have t146 := dep_eq wx (hdep 26 rfl _ 146 rfl rfl); clear hold hdep; go_simp; refine (HW2.out wx hB).mono ?_; rintro e w1 ⟨rfl, hb⟩; exact hK.out _ _ rfl hb
                · intro a wx hB hold hdep K hK; have t134 := dep_eq wx (hdep 14 rfl _ 134 rfl rfl); have t147 := dep_eq wx (hdep 27 rfl _ 147 rfl rfl); clear hold hdep; go_simp; exact hK.out _ _ rfl (Below.refl _ _)
                · intro a wx hB hold hdep K hK; have t134 := dep_eq wx (hdep 14 rfl _ 134 rfl rfl); have t148 := dep_eq wx (hdep 28 rfl _ 148 rfl rfl); clear hold hdep; go_simp; exact hK.out _ _ rfl (Below.refl _ _)
              · intro a wx hB hold hgot
                (obtain ⟨v149, t149, p149⟩ := hgot 29 _ 149 rfl rfl; have e149 : v149 = (.bool true) := p149; subst e149; obtain ⟨tm, df⟩ := a; obtain ⟨ys, hys, htm, rfl⟩ := frame_mid 120 30 (by kernel_rfl) (Nat.le_of_ble_eq_true rfl) hold; obtain ⟨x120, x121, x122, x123, x124, x125, x126, x127, x128, x129, x130, x131, x132, x133, x134, x135, x136, x137, x138, x139, x140, x141, x142, x143, x144, x145, x146, x147, x148, x149, rfl⟩ := rowOf30 ys hys; simp only [List.take_succ_cons, List.take_zero, List.drop_succ_cons, List.drop_zero, List.cons_append, List.nil_append] at htm; subst htm; obtain rfl : x149 = _ := someInj t149; clear hys hold hgot t149 p149; have B2 := below_join BR.out hB; go_wp2_with fail; go_ret; (exact ⟨by rw [HT7.out]; rfl, B2⟩))
            · have HW2 : Hid (∀ wx, Below wr.heap.size wr wx → Calls Tryz.prog 39 #[.slice au S2.length cu, .slice ar2 kr.length cr2] wx fun e w' => e = .returned (.bool true) ∧ Below wx.heap.size wx w') := HW2'
              have HNX : Hid (T = kidsC (ks.drop (j + 1)) (ss.drop (j + 1))) := HTk2.out; clear HW1' HW2' HTk2; go_wp2_with fail; (refine wp_region_free (by kernel_rfl) [kEq (.slice (some ⟨bs, os, none⟩) ss.length cps), kEq (.int .i64 (j : Nat)), kEq (.pointer (some ⟨bs, os + j * 2, none⟩)), kEq (.pointer (some ⟨bs, os + j * 2, none⟩)), kEq (.slice av S1.length cv), kEq (.pointer (some ⟨w.heap.size, 6, none⟩)), kEq (.slice (some ⟨b, off, none⟩) ks.length cap), kEq (.int .i64 (j : Nat)), kEq (.pointer (some ⟨b, off + j * 7, none⟩)), kEq (.pointer (some ⟨b, off + j * 7 + 4, none⟩)), kEq (.pointer (some ⟨b, off + j * 7 + 4, none⟩)), kEq (.slice al2 kl.length cl2), kEq (.bool true), kEq (.bool false), kEq (.bool false), kEq (.slice (some ⟨bs, os, none⟩) ss.length cps), kEq (.int .i64 (j : Nat)), kEq (.pointer (some ⟨bs, os + j * 2, none⟩)), kEq (.pointer (some ⟨bs, os + j * 2 + 1, none⟩)), kEq (.slice au S2.length cu), kEq (.pointer (some ⟨w.heap.size, 6, none⟩)), kEq (.slice (some ⟨b, off, none⟩) ks.length cap), kEq (.int .i64 (j : Nat)), kEq (.pointer (some ⟨b, off + j * 7, none⟩)), kEq (.pointer (some ⟨b, off + j * 7 + 4, none⟩)), kEq (.pointer (some ⟨b, off + j * 7 + 5, none⟩)), kEq (.slice ar2 kr.length cr2), kEq (.bool true), kEq (.bool false), kEq (.bool false)] ?_ (by kernel_rfl) (by kernel_rfl) 150 rfl (by kernel_rfl) ?_ ?_)
              · intro p hp
                simp only [List.mem_cons, List.not_mem_nil, or_false] at hp
                rcases hp with rfl | rfl | rfl | rfl | rfl | rfl | rfl | rfl | rfl | rfl | rfl | rfl | rfl | rfl | rfl | rfl | rfl | rfl | rfl | rfl | rfl | rfl | rfl | rfl | rfl | rfl | rfl | rfl | rfl | rfl
                all_goals first | exact kEq_stays _ | exact kAny_stays
              · refine ⟨?_, ?_, ?_, ?_, ?_, ?_, ?_, ?_, ?_, ?_, ?_, ?_, ?_, ?_, ?_, ?_, ?_, ?_, ?_, ?_, ?_, ?_, ?_, ?_, ?_, ?_, ?_, ?_, ?_, ?_, trivial⟩
                · intro a wx hB hold hdep K hK; have t8 : a.tmps[8]? = some (.slice (some ⟨bs, os, none⟩) ss.length cps) := hold.2.2 8 rfl; clear hold hdep; go_simp; exact hK.out _ _ rfl (Below.refl _ _)
                · intro a wx hB hold hdep K hK; have t11 : a.tmps[11]? = some (.int .i64 (j : Nat)) := hold.2.2 11 rfl; clear hold hdep; go_simp; exact hK.out _ _ rfl (Below.refl _ _)
                · intro a wx hB hold hdep K hK; have t120 := dep_eq wx (hdep 0 rfl _ 120 rfl rfl); have t121 := dep_eq wx (hdep 1 rfl _ 121 rfl rfl); clear hold hdep; go_simp; exact hK.out _ _ rfl (Below.refl _ _)
                · intro a wx hB hold hdep K hK; have t122 := dep_eq wx (hdep 2 rfl _ 122 rfl rfl); clear hold hdep; go_simp; exact hK.out _ _ rfl (Below.refl _ _)
                · intro a wx hB hold hdep K hK; have t123 := dep_eq wx (hdep 3 rfl _ 123 rfl rfl); obtain ⟨g0, g1⟩ := HCS.out; have q0 := (hB.cell (p := ⟨bs, os + j * 2, none⟩) HZS.out).trans g0; have q1 := (hB.cell (p := ⟨bs, os + j * 2 + 1, none⟩) HZS.out).trans g1; clear g0 g1; clear hold hdep; go_simp; exact hK.out _ _ rfl (Below.refl _ _)
                · intro a wx hB hold hdep K hK; have t2 : a.tmps[2]? = some (.pointer (some ⟨w.heap.size, 0, none⟩)) := hold.2.2 2 rfl; clear hold hdep; go_simp; exact hK.out _ _ rfl (Below.refl _ _)
                · intro a wx hB hold hdep K hK; have t125 := dep_eq wx (hdep 5 rfl _ 125 rfl rfl); obtain ⟨k0, k1, k2', k3, k4, k5, k6⟩ := blk7 (below_keep hB HBP.out); clear hold hdep; go_simp; exact hK.out _ _ rfl (Below.refl _ _)
                · intro a wx hB hold hdep K hK; have t11 : a.tmps[11]? = some (.int .i64 (j : Nat)) := hold.2.2 11 rfl; clear hold hdep; go_simp; exact hK.out _ _ rfl (Below.refl _ _)
                · intro a wx hB hold hdep K hK; have t126 := dep_eq wx (hdep 6 rfl _ 126 rfl rfl); have t127 := dep_eq wx (hdep 7 rfl _ 127 rfl rfl); clear hold hdep; go_simp; exact hK.out _ _ rfl (Below.refl _ _)
                · intro a wx hB hold hdep K hK; have t128 := dep_eq wx (hdep 8 rfl _ 128 rfl rfl); clear hold hdep; go_simp; exact hK.out _ _ rfl (Below.refl _ _)
                · intro a wx hB hold hdep K hK; have t129 := dep_eq wx (hdep 9 rfl _ 129 rfl rfl); clear hold hdep; go_simp; exact hK.out _ _ rfl (Below.refl _ _)
                · intro a wx hB hold hdep K hK; have t130 := dep_eq wx (hdep 10 rfl _ 130 rfl rfl); obtain ⟨g4, g5⟩ := HC.out; have q4 := (hB.cell (p := ⟨b, off + j * 7 + 4, none⟩) HZ.out).trans g4; have q5 := (hB.cell (p := ⟨b, off + j * 7 + 5, none⟩) HZ.out).trans g5; clear g4 g5; clear hold hdep; go_simp; exact hK.out _ _ rfl (Below.refl _ _)
                · intro a wx hB hold hdep K hK; have t124 := dep_eq wx (hdep 4 rfl _ 124 rfl rfl); have t131 := dep_eq wx (hdep 11 rfl _ 131 rfl rfl); clear hold hdep; go_simp; refine (HW1.out wx hB).mono ?_; rintro e w1 ⟨rfl, hb⟩; exact hK.out _ _ rfl hb
                · intro a wx hB hold hdep K hK; have t132 := dep_eq wx (hdep 12 rfl _ 132 rfl rfl); clear hold hdep; go_simp; exact hK.out _ _ rfl (Below.refl _ _)
                · intro a wx hB hold hdep K hK; have t133 := dep_eq wx (hdep 13 rfl _ 133 rfl rfl); clear hold hdep; go_simp; exact hK.out _ _ rfl (Below.refl _ _)
                · intro a wx hB hold hdep K hK; have t134 := dep_eq wx (hdep 14 rfl _ 134 rfl rfl); have t8 : a.tmps[8]? = some (.slice (some ⟨bs, os, none⟩) ss.length cps) := hold.2.2 8 rfl; clear hold hdep; go_simp; exact hK.out _ _ rfl (Below.refl _ _)
                · intro a wx hB hold hdep K hK; have t134 := dep_eq wx (hdep 14 rfl _ 134 rfl rfl); have t11 : a.tmps[11]? = some (.int .i64 (j : Nat)) := hold.2.2 11 rfl; clear hold hdep; go_simp; exact hK.out _ _ rfl (Below.refl _ _)
                · intro a wx hB hold hdep K hK; have t134 := dep_eq wx (hdep 14 rfl _ 134 rfl rfl); have t135 := dep_eq wx (hdep 15 rfl _ 135 rfl rfl); have t136 := dep_eq wx (hdep 16 rfl _ 136 rfl rfl); clear hold hdep; go_simp; exact hK.out _ _ rfl (Below.refl _ _)
                · intro a wx hB hold hdep K hK; have t134 := dep_eq wx (hdep 14 rfl _ 134 rfl rfl); have t137 := dep_eq wx (hdep 17 rfl _ 137 rfl rfl); clear hold hdep; go_simp; exact hK.out _ _ rfl (Below.refl _ _)
                · intro a wx hB hold hdep K hK; have t134 := dep_eq wx (hdep 14 rfl _ 134 rfl rfl); have t138 := dep_eq wx (hdep 18 rfl _ 138 rfl rfl); obtain ⟨g0, g1⟩ := HCS.out; have q0 := (hB.cell (p := ⟨bs, os + j * 2, none⟩) HZS.out).trans g0; have q1 := (hB.cell (p := ⟨bs, os + j * 2 + 1, none⟩) HZS.out).trans g1; clear g0 g1; clear hold hdep; go_simp; exact hK.out _ _ rfl (Below.refl _ _)
                · intro a wx hB hold hdep K hK; have t134 := dep_eq wx (hdep 14 rfl _ 134 rfl rfl); have t2 : a.tmps[2]? = some (.pointer (some ⟨w.heap.size, 0, none⟩)) := hold.2.2 2 rfl; clear hold hdep; go_simp; exact hK.out _ _ rfl (Below.refl _ _)
                · intro a wx hB hold hdep K hK; have t134 := dep_eq wx (hdep 14 rfl _ 134 rfl rfl); have t140 := dep_eq wx (hdep 20 rfl _ 140 rfl rfl); obtain ⟨k0, k1, k2', k3, k4, k5, k6⟩ := blk7 (below_keep hB HBP.out); clear hold hdep; go_simp; exact hK.out _ _ rfl (Below.refl _ _)
                · intro a wx hB hold hdep K hK; have t134 := dep_eq wx (hdep 14 rfl _ 134 rfl rfl); have t11 : a.tmps[11]? = some (.int .i64 (j : Nat)) := hold.2.2 11 rfl; clear hold hdep; go_simp; exact hK.out _ _ rfl (Below.refl _ _)
                · intro a wx hB hold hdep K hK; have t134 := dep_eq wx (hdep 14 rfl _ 134 rfl rfl); have t141 := dep_eq wx (hdep 21 rfl _ 141 rfl rfl); have t142 := dep_eq wx (hdep 22 rfl _ 142 rfl rfl); clear hold hdep; go_simp; exact hK.out _ _ rfl (Below.refl _ _)
                · intro a wx hB hold hdep K hK; have t134 := dep_eq wx (hdep 14 rfl _ 134 rfl rfl); have t143 := dep_eq wx (hdep 23 rfl _ 143 rfl rfl); clear hold hdep; go_simp; exact hK.out _ _ rfl (Below.refl _ _)
                · intro a wx hB hold hdep K hK; have t134 := dep_eq wx (hdep 14 rfl _ 134 rfl rfl); have t144 := dep_eq wx (hdep 24 rfl _ 144 rfl rfl); clear hold hdep; go_simp; exact hK.out _ _ rfl (Below.refl _ _)
                · intro a wx hB hold hdep K hK; have t134 := dep_eq wx (hdep 14 rfl _ 134 rfl rfl); have t145 := dep_eq wx (hdep 25 rfl _ 145 rfl rfl); obtain ⟨g4, g5⟩ := HC.out; have q4 := (hB.cell (p := ⟨b, off + j * 7 + 4, none⟩) HZ.out).trans g4; have q5 := (hB.cell (p := ⟨b, off + j * 7 + 5, none⟩) HZ.out).trans g5; clear g4 g5; clear hold hdep; go_simp; exact hK.out _ _ rfl (Below.refl _ _)
                · intro a wx hB hold hdep K hK; have t134 := dep_eq wx (hdep 14 rfl _ 134 rfl rfl); have t139 := dep_eq wx (hdep 19 rfl _ 139 rfl rfl); have t146 := dep_eq wx (hdep 26 rfl _ 146 rfl rfl); clear hold hdep; go_simp; refine (HW2.out wx hB).mono ?_; rintro e w1 ⟨rfl, hb⟩; exact hK.out _ _ rfl hb
                · intro a wx hB hold hdep K hK; have t134 := dep_eq wx (hdep 14 rfl _ 134 rfl rfl); have t147 := dep_eq wx (hdep 27 rfl _ 147 rfl rfl); clear hold hdep; go_simp; exact hK.out _ _ rfl (Below.refl _ _)
                · intro a wx hB hold hdep K hK; have t134 := dep_eq wx (hdep 14 rfl _ 134 rfl rfl); have t148 := dep_eq wx (hdep 28 rfl _ 148 rfl rfl); clear hold hdep; go_simp; exact hK.out _ _ rfl (Below.refl _ _)
              · intro a wx hB hold hgot
                (obtain ⟨v149, t149, p149⟩ := hgot 29 _ 149 rfl rfl; have e149 : v149 = (.bool false) := p149; subst e149; obtain ⟨tm, df⟩ := a; obtain ⟨ys, hys, htm, rfl⟩ := frame_mid 120 30 (by kernel_rfl) (Nat.le_of_ble_eq_true rfl) hold; obtain ⟨x120, x121, x122, x123, x124, x125, x126, x127, x128, x129, x130, x131, x132, x133, x134, x135, x136, x137, x138, x139, x140, x141, x142, x143, x144, x145, x146, x147, x148, x149, rfl⟩ := rowOf30 ys hys; simp only [List.take_succ_cons, List.take_zero, List.drop_succ_cons, List.drop_zero, List.cons_append, List.nil_append] at htm; subst htm; obtain rfl : x149 = _ := someInj t149; clear hys hold hgot t149 p149; have B2 := below_join HBr.out hB; go_wp2_with fail; go_roundg (ss.length - (j + 1)))
                case measure => have := HG.out; omega
                case rel => exact ⟨j + 1, by omega, rfl, by go_num, B2, HNX⟩
        · have hge : ¬ (j : Int) < (ss.length : Int) := by omega
          have H0 : Hid (T = 0) := by
            have := HTj.out; (rw [List.drop_of_length_le (by have := HLE.out; omega)] at this); (rw [show kidsC [] (ss.drop j) = 0 by cases ss.drop j <;> rfl] at this); exact this
          clear HTj; go_wp2_with fail; go_ret; (exact ⟨by rw [H0.out]; rfl, BR.out⟩)
end Go.Proofs.YtpmogojpdigbmabGreat
