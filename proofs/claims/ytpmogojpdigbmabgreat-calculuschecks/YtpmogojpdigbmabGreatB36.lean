/- Texts of one proof, one behind the other: YC1W. -/
import Derived.Test.YtpmogojpdigbmabGreatB35
/- Walks: the yardstick's stepCode, a part (made by gen/yc1.py). -/
namespace Go.Proofs.YtpmogojpdigbmabGreat
open Go.RowKit

set_option maxRecDepth 20000 in
set_option maxHeartbeats 16000000 in
theorem stepR_W (i : Bool) (p : Pf) (HA0 : Hid (p.lawT = weakT)) (hsm : SmallP p) (v : Value) (w : World) (hv : PRep w p v) :
    Calls Tryz.prog 22 #[v, .bool i] w fun e w' => e = .returned (.int .i64 (stepC i p)) ∧ Below w.heap.size w w' := by
  obtain ⟨a, ⟨k, n, kf⟩, l, r, ks⟩ := p; have HW0 : Hid (a.data.toList = weakT) := HA0.out; clear HA0; obtain ⟨hl3, hr3, hk3, hsk⟩ := hsm.parts; obtain ⟨sf, cf, al, cl, ar, cr, sl, cap, rfl, ha, hf, hl, hr, hkc, hcm, hks⟩ := hv.parts; (have HF : Hid (Rep w (fun _ => True) (.mk k n kf) _) := hf); have HL : Hid (FL w (.slice al l.length cl) l) := hl; have HR : Hid (FL w (.slice ar r.length cr) r) := hr; have HK : Hid (ks ≠ [] → ∃ b off, sl = some ⟨b, off, none⟩ ∧ PReps w b off ks) := hks; have HSK : Hid (∀ k ∈ ks, SmallP k) := hsk; (have hkI : (ks.length : Int) ≤ 1200 := by omega); (have hrI : (r.length : Int) ≤ 300 := by omega); obtain ⟨T, hT⟩ : ∃ T, T = stepC i (.mk a (.mk k n kf) l r ks) := ⟨_, rfl⟩; rw [← hT]; have HT : Hid (T = stepC i (.mk a (.mk k n kf) l r ks)) := hT; obtain ⟨O, hO⟩ : ∃ O, O = Obj.cells #[.string a, .int .i64 k, .string n, .slice sf kf.length cf, .slice al l.length cl, .slice ar r.length cr, .slice sl ks.length cap] 29 (0, 0) := ⟨_, rfl⟩; have p1 : (w.alloc O).heap[w.heap.size]? = some O := blk_new w O; rw [hO] at p1; have P1 : Hid ((w.alloc (.cells #[.string a, .int .i64 k, .string n, .slice sf kf.length cf, .slice al l.length cl, .slice ar r.length cr, .slice sl ks.length cap] 29 (0, 0))).heap[w.heap.size]? = some _) := p1; have B0 := below_more (Below.refl _ w) (.cells #[.string a, .int .i64 k, .string n, .slice sf kf.length cf, .slice al l.length cl, .slice ar r.length cr, .slice sl ks.length cap] 29 (0, 0)); (have hsq := fun wx (hb : Below w.heap.size w wx) => seqFault_any l r (by omega) (by omega) _ _ wx (HL.out.up hb) (HR.out.up hb)); (have HS0 : Hid ((seqCode l r).1 ≠ 0 → T = 5) := fun h => by rw [HT.out, stepC, if_pos (Or.inl h)]); (have HS1 : Hid (i = true → 1 < r.length → T = 5) := fun h1 h2 => by rw [HT.out, stepC, if_pos (Or.inr ⟨h1, h2⟩)])
  have HS2 : Hid ((seqCode l r).1 = 0 → ¬ (i = true ∧ 1 < r.length) → T = if a.data.toList = weakT then weakC (.mk k n kf) l r ks else match ruleOf i a.data.toList with
      | none => 4
      | some q => if (Fm.mk k n kf).pcode.1 ≠ 0 then 5 else match prem i q (.mk k n kf) l r with
        | none => 7
        | some ss => if ks.length ≠ ss.length then 9 else kidsC ks ss) := fun h1 h2 => by
    (rw [HT.out, stepC, if_neg (fun e => e.elim (fun e => e h1) h2)]); rfl
  generalize seqCode l r = sq at *; obtain ⟨s1, s2⟩ := sq; have HSQ : Hid (∀ wx, Below w.heap.size w wx → Calls Tryz.prog 11 _ wx _) := hsq; (have hfc := fun a b w => fault_code a b w); clear hf hl hr hks hsk hv hsm hT hsq p1 hO
  go_enter Tryz.func22, Tryz.ntmps22
  go_upto_region 1 with fail
  go_cut [26] from 12 to 26 (fun v wc => ∃ c, v = .bool c ∧ Hid (c = true → T = 5) ∧ Hid (c = false → T = if a.data.toList = weakT then weakC (.mk k n kf) l r ks else match ruleOf i a.data.toList with
      | none => 4
      | some q => if (Fm.mk k n kf).pcode.1 ≠ 0 then 5 else match prem i q (.mk k n kf) l r with
        | none => 7
        | some ss => if ks.length ≠ ss.length then 9 else kidsC ks ss) ∧ Hid (Below w.heap.size w wc) ∧ Hid (wc.heap[w.heap.size]? = some (.cells #[.string a, .int .i64 k, .string n, .slice sf kf.length cf, .slice al l.length cl, .slice ar r.length cr, .slice sl ks.length cap] 29 (0, 0))))
  case first =>
    go_wp2_with fail; refine (HSQ.out _ B0).mono ?_; rintro e w1 ⟨rfl, hb1⟩; have B1 := below_join B0 hb1; have Q1 : Hid (w1.heap[w.heap.size]? = some _) := below_keep hb1 P1.out; obtain ⟨j0, j1, j2, j3, j4, j5, j6⟩ := blk7 Q1.out; clear hb1 P1 B0 HSQ; by_cases hs1 : s1 = 0
    case neg =>
      (have hsJ : (s1 != 0) = true := by simpa using hs1); have H5 : Hid (T = 5) := HS0.out hs1; go_wp2_with fail; go_meet; (exact ⟨true, rfl, fun _ => H5.out, (fun h => nomatch h), B1, Q1.out⟩)
    subst hs1
    cases i
    · have HN := HS2.out rfl (fun h => nomatch h.1)
      go_wp2_with fail; go_meet; (exact ⟨false, rfl, (fun h => nomatch h), fun _ => HN, B1, Q1.out⟩)
    · by_cases h1 : 1 < r.length
      · have h1I : (1 : Int) < (r.length : Int) := by omega
        have H5 : Hid (T = 5) := HS1.out rfl h1; go_wp2_with fail; go_meet; (exact ⟨true, rfl, fun _ => H5.out, (fun h => nomatch h), B1, Q1.out⟩)
      · have h1I : ¬ (1 : Int) < (r.length : Int) := by omega
        (have HN := HS2.out rfl (fun h => h1 h.2)); go_wp2_with fail; go_meet; (exact ⟨false, by rw [decide_eq_false (show ¬ (1 : Int) < (r.length : Int) by omega)], (fun h => nomatch h), fun _ => HN, B1, Q1.out⟩)
  obtain ⟨cc, rfl, H5, HN, B1, Q1⟩ := hcut; clear HS0 HS1 HS2 HSQ P1 B0; obtain ⟨w1, hw1⟩ : ∃ x, x = wc := ⟨_, rfl⟩; subst hw1; have B1 := B1.out; obtain ⟨j0, j1, j2, j3, j4, j5, j6⟩ := blk7 Q1.out
  cases cc
  case true =>
    have H6 : Hid (T = 5) := H5.out rfl; clear H5 HN; go_wp2_with fail; go_ret; (exact ⟨by rw [H6.out]; rfl, B1⟩)
  have HTT := HN.out rfl; clear HN H5; have hw := HW0.out; clear HW0
  · rw [if_pos hw] at HTT
    (have hae : a = ⟨#[119, 101, 97, 107]⟩ := by apply ByteArray.ext; apply Array.ext'; exact hw); subst hae; have HT1 : Hid (T = weakC (.mk k n kf) l r ks) := HTT; clear HTT hw HT
    all_goals
      by_cases hk : k = 0
      case neg =>
        (have H5 : Hid (T = 5) := HT1.out.trans (weakC_form fun h => hk (zero_fm.1 h).1)); (have hkJ : (k != 0) = true := by simpa using hk); go_wp2_with fail; go_ret; (exact ⟨by rw [H5.out]; rfl, B1⟩)
      subst hk; by_cases hn : n.data.toList = []
      case neg =>
        (have H5 : Hid (T = 5) := HT1.out.trans (weakC_form fun h => hn (zero_fm.1 h).2.1)); (have hnJ : (n.toList == ([] : List UInt8)) = false := by rw [ByteArray.toList_eq]; simpa using hn); (have hnE : (n.toList).isEmpty = false := by rw [ByteArray.toList_eq]; simpa using hn); clear hn; go_wp2_with fail; go_ret; (exact ⟨by rw [H5.out]; rfl, B1⟩)
      (have hn' : n = ⟨#[]⟩ := by apply ByteArray.ext; apply Array.ext'; exact hn); subst hn'; clear hn; by_cases hkf : kf = []
      case neg =>
        (have H5 : Hid (T = 5) := HT1.out.trans (weakC_form fun h => hkf (zero_fm.1 h).2.2)); (have hkJ : (0 : Int) < (kf.length : Int) := by have := List.length_pos_iff.2 hkf; omega); clear hkf; go_wp2_with fail; go_ret; (exact ⟨by rw [H5.out]; rfl, B1⟩)
      subst hkf; by_cases hk1 : ks.length = 1
      case neg =>
        have H9 : Hid (T = 9) := HT1.out.trans (weakC_size hk1); (have hkJ : ((ks.length : Int) != 1) = true := by simp; omega); clear hk1; go_wp2_with fail; go_ret; (exact ⟨by rw [H9.out]; rfl, B1⟩)
      obtain ⟨⟨ka, ⟨kk, kn, kkf⟩, kl, kr, kks⟩, hks1⟩ : ∃ x, ks = [x] := by
        match ks, hk1 with
        | [x], _ => exact ⟨x, rfl⟩
      have HKL : Hid (ks.length = 1) := hk1
      have HT2 : Hid (T = if within kl l && within kr r then 0 else 7) := by
        have := HT1.out; rw [hks1, weakC_one] at this; exact this
      (obtain ⟨b, off, rfl, hrs⟩ := HK.out (by rw [hks1]; simp)); (obtain ⟨hkl3, hkr3, -, -⟩ := (HSK.out (.mk ka (.mk kk kn kkf) kl kr kks) (by rw [hks1]; exact List.mem_cons_self)).parts); (obtain ⟨sf2, cf2, al2, cl2, ar2, cr2, sl2, cap2, x0, x1, x2, x3, x4, x5, x6, hrep⟩ := hrs.at 0 ka kk kn kkf kl kr kks (by rw [hks1]; rfl)); simp only [Nat.zero_mul, Nat.add_zero] at x0 x1 x2 x3 x4 x5 x6; obtain ⟨_, _, _, _, _, _, _, _, hpe, -, -, hkl, hkr, -⟩ := hrep.parts; simp only [Value.agg.injEq, Array.mk.injEq, List.cons.injEq, Value.slice.injEq, and_true, true_and] at hpe; obtain ⟨⟨rfl, rfl⟩, ⟨rfl, rfl⟩, ⟨rfl, rfl⟩, ⟨rfl, rfl⟩⟩ := hpe; have HZ : Hid (b < w1.heap.size) := Nat.lt_of_lt_of_le (lt_of_cell x4) B1.size; have HC : Hid (w1.cell? ⟨b, off + 4, none⟩ = some (.slice al2 kl.length cl2) ∧ w1.cell? ⟨b, off + 5, none⟩ = some (.slice ar2 kr.length cr2)) := ⟨(B1.cell (p := ⟨b, off + 4, none⟩) (lt_of_cell x4)).trans x4, (B1.cell (p := ⟨b, off + 5, none⟩) (lt_of_cell x5)).trans x5⟩; (have HW1' : Hid (∀ wx, Below w1.heap.size w1 wx → Calls Tryz.prog 37 #[.slice al2 kl.length cl2, .slice al l.length cl] wx fun e w' => e = .returned (.bool (within kl l)) ∧ Below wx.heap.size wx w') := fun wx hb => noMore_any kl l (by omega) (by omega) _ _ wx (hkl.up (below_join B1 hb)) (HL.out.up (below_join B1 hb))); (have HW2' : Hid (∀ wx, Below w1.heap.size w1 wx → Calls Tryz.prog 37 #[.slice ar2 kr.length cr2, .slice ar r.length cr] wx fun e w' => e = .returned (.bool (within kr r)) ∧ Below wx.heap.size wx w') := fun wx hb => noMore_any kr r (by omega) (by omega) _ _ wx (hkr.up (below_join B1 hb)) (HR.out.up (below_join B1 hb))); generalize within kl l = e1 at *; generalize within kr r = e2 at *; (have hc1 : (1 : Int) ≤ (cap : Int) := by omega); (have hc0 : (0 : Int) < (cap : Int) := by omega); (have hl0 : (0 : Int) < (ks.length : Int) := by omega); (have hl0N : 0 < ks.length := by omega); (have hl1 : ((ks.length : Int) != 1) = false := by simp; omega); have HBP : Hid (w1.heap[w.heap.size]? = some _) := Q1.out; have BW : Hid (Below w.heap.size w w1) := B1; clear hrs HK hrep hkl hkr HL HR hks1 HSK x0 x1 x2 x3 x4 x5 x6 HT1 Q1
      cases e1
      · have HW1 : Hid (∀ wx, Below w1.heap.size w1 wx → Calls Tryz.prog 37 #[.slice al2 kl.length cl2, .slice al l.length cl] wx fun e w' => e = .returned (.bool false) ∧ Below wx.heap.size wx w') := HW1'
        have HT0 : Hid (T = 7) := HT2.out; clear HW1' HW2' HT2; go_wp2_with fail; clear j0 j1 j2 j3 j4 j5 j6 hl1 hk1; (refine wp_region_free (by kernel_rfl) [kEq (.pointer (some ⟨w.heap.size, 6, none⟩)), kEq (.slice (some ⟨b, off, none⟩) ks.length cap), kEq (.pointer (some ⟨b, off, none⟩)), kEq (.pointer (some ⟨b, off + 4, none⟩)), kEq (.pointer (some ⟨b, off + 4, none⟩)), kEq (.slice al2 kl.length cl2), kEq (.pointer (some ⟨w.heap.size, 4, none⟩)), kEq (.pointer (some ⟨w.heap.size, 4, none⟩)), kEq (.slice al l.length cl), kEq (.bool false), kEq (.bool true), kEq (.bool true), kAny, kAny, kAny, kAny, kAny, kAny, kAny, kAny, kAny, kAny, kAny, kEq (.bool true)] ?_ (by kernel_rfl) (by kernel_rfl) 150 rfl (by kernel_rfl) ?_ ?_)
        · intro p hp
          simp only [List.mem_cons, List.not_mem_nil, or_false] at hp
          rcases hp with rfl | rfl | rfl | rfl | rfl | rfl | rfl | rfl | rfl | rfl | rfl | rfl | rfl | rfl | rfl | rfl | rfl | rfl | rfl | rfl | rfl | rfl | rfl | rfl
          all_goals first | exact kEq_stays _ | exact kAny_stays
        · refine ⟨?_, ?_, ?_, ?_, ?_, ?_, ?_, ?_, ?_, ?_, ?_, ?_, ?_, ?_, ?_, ?_, ?_, ?_, ?_, ?_, ?_, ?_, ?_, ?_, trivial⟩
          · intro a wx hB hold hdep K hK; have t2 : a.tmps[2]? = some (.pointer (some ⟨w.heap.size, 0, none⟩)) := hold.2.2 2 rfl; clear hold hdep; go_simp; exact hK.out _ _ rfl (Below.refl _ _)
          · intro a wx hB hold hdep K hK; have t51 := dep_eq wx (hdep 0 rfl _ 51 rfl rfl); obtain ⟨k0, k1, k2', k3, k4, k5, k6⟩ := blk7 (below_keep hB HBP.out); clear hold hdep; go_simp; exact hK.out _ _ rfl (Below.refl _ _)
          · intro a wx hB hold hdep K hK; have t52 := dep_eq wx (hdep 1 rfl _ 52 rfl rfl); clear hold hdep; go_simp; exact hK.out _ _ rfl (Below.refl _ _)
          · intro a wx hB hold hdep K hK; have t53 := dep_eq wx (hdep 2 rfl _ 53 rfl rfl); clear hold hdep; go_simp; exact hK.out _ _ rfl (Below.refl _ _)
          · intro a wx hB hold hdep K hK; have t54 := dep_eq wx (hdep 3 rfl _ 54 rfl rfl); clear hold hdep; go_simp; exact hK.out _ _ rfl (Below.refl _ _)
          · intro a wx hB hold hdep K hK; have t55 := dep_eq wx (hdep 4 rfl _ 55 rfl rfl); obtain ⟨g4, g5⟩ := HC.out; have q4 := (hB.cell (p := ⟨b, off + 4, none⟩) HZ.out).trans g4; have q5 := (hB.cell (p := ⟨b, off + 5, none⟩) HZ.out).trans g5; clear g4 g5; clear hold hdep; go_simp; exact hK.out _ _ rfl (Below.refl _ _)
          · intro a wx hB hold hdep K hK; have t2 : a.tmps[2]? = some (.pointer (some ⟨w.heap.size, 0, none⟩)) := hold.2.2 2 rfl; clear hold hdep; go_simp; exact hK.out _ _ rfl (Below.refl _ _)
          · intro a wx hB hold hdep K hK; have t57 := dep_eq wx (hdep 6 rfl _ 57 rfl rfl); clear hold hdep; go_simp; exact hK.out _ _ rfl (Below.refl _ _)
          · intro a wx hB hold hdep K hK; have t58 := dep_eq wx (hdep 7 rfl _ 58 rfl rfl); obtain ⟨k0, k1, k2', k3, k4, k5, k6⟩ := blk7 (below_keep hB HBP.out); clear hold hdep; go_simp; exact hK.out _ _ rfl (Below.refl _ _)
          · intro a wx hB hold hdep K hK; have t56 := dep_eq wx (hdep 5 rfl _ 56 rfl rfl); have t59 := dep_eq wx (hdep 8 rfl _ 59 rfl rfl); clear hold hdep; go_simp; refine (HW1.out wx hB).mono ?_; rintro e w1 ⟨rfl, hb⟩; exact hK.out _ _ rfl hb
          · intro a wx hB hold hdep K hK; have t60 := dep_eq wx (hdep 9 rfl _ 60 rfl rfl); clear hold hdep; go_simp; exact hK.out _ _ rfl (Below.refl _ _)
          · intro a wx hB hold hdep K hK; have t61 := dep_eq wx (hdep 10 rfl _ 61 rfl rfl); clear hold hdep; go_simp; exact hK.out _ _ rfl (Below.refl _ _)
          iterate 11 (· intro a wx hB hold hdep K hK; have t62 := dep_eq wx (hdep 11 rfl _ 62 rfl rfl); clear hold hdep; go_simp; exact hK.out _ _ trivial (Below.refl _ _))
          · intro a wx hB hold hdep K hK; have t62 := dep_eq wx (hdep 11 rfl _ 62 rfl rfl); clear hold hdep; go_simp; exact hK.out _ _ rfl (Below.refl _ _)
        · intro a wx hB hold hgot
          (obtain ⟨v74, t74, p74⟩ := hgot 23 _ 74 rfl rfl; have e74 : v74 = (.bool true) := p74; subst e74; obtain ⟨tm, df⟩ := a; obtain ⟨ys, hys, htm, rfl⟩ := frame_mid 51 24 (by kernel_rfl) (Nat.le_of_ble_eq_true rfl) hold; obtain ⟨x51, x52, x53, x54, x55, x56, x57, x58, x59, x60, x61, x62, x63, x64, x65, x66, x67, x68, x69, x70, x71, x72, x73, x74, rfl⟩ := rowOf24 ys hys; simp only [List.take_succ_cons, List.take_zero, List.drop_succ_cons, List.drop_zero, List.cons_append, List.nil_append] at htm; subst htm; obtain rfl : x74 = _ := someInj t74; clear hys hold hgot t74 p74; have B2 := below_join BW.out hB; go_wp2_with fail; go_ret; (exact ⟨by rw [HT0.out]; rfl, B2⟩))
      · have HW1 : Hid (∀ wx, Below w1.heap.size w1 wx → Calls Tryz.prog 37 #[.slice al2 kl.length cl2, .slice al l.length cl] wx fun e w' => e = .returned (.bool true) ∧ Below wx.heap.size wx w') := HW1'
        cases e2
        · have HW2 : Hid (∀ wx, Below w1.heap.size w1 wx → Calls Tryz.prog 37 #[.slice ar2 kr.length cr2, .slice ar r.length cr] wx fun e w' => e = .returned (.bool false) ∧ Below wx.heap.size wx w') := HW2'
          have HT0 : Hid (T = 7) := HT2.out; clear HW1' HW2' HT2; go_wp2_with fail; clear j0 j1 j2 j3 j4 j5 j6 hl1 hk1; (refine wp_region_free (by kernel_rfl) [kEq (.pointer (some ⟨w.heap.size, 6, none⟩)), kEq (.slice (some ⟨b, off, none⟩) ks.length cap), kEq (.pointer (some ⟨b, off, none⟩)), kEq (.pointer (some ⟨b, off + 4, none⟩)), kEq (.pointer (some ⟨b, off + 4, none⟩)), kEq (.slice al2 kl.length cl2), kEq (.pointer (some ⟨w.heap.size, 4, none⟩)), kEq (.pointer (some ⟨w.heap.size, 4, none⟩)), kEq (.slice al l.length cl), kEq (.bool true), kEq (.bool false), kEq (.bool false), kEq (.pointer (some ⟨w.heap.size, 6, none⟩)), kEq (.slice (some ⟨b, off, none⟩) ks.length cap), kEq (.pointer (some ⟨b, off, none⟩)), kEq (.pointer (some ⟨b, off + 4, none⟩)), kEq (.pointer (some ⟨b, off + 5, none⟩)), kEq (.slice ar2 kr.length cr2), kEq (.pointer (some ⟨w.heap.size, 4, none⟩)), kEq (.pointer (some ⟨w.heap.size, 5, none⟩)), kEq (.slice ar r.length cr), kEq (.bool false), kEq (.bool true), kEq (.bool true)] ?_ (by kernel_rfl) (by kernel_rfl) 150 rfl (by kernel_rfl) ?_ ?_)
          · intro p hp
            simp only [List.mem_cons, List.not_mem_nil, or_false] at hp
            rcases hp with rfl | rfl | rfl | rfl | rfl | rfl | rfl | rfl | rfl | rfl | rfl | rfl | rfl | rfl | rfl | rfl | rfl | rfl | rfl | rfl | rfl | rfl | rfl | rfl
            all_goals first | exact kEq_stays _ | exact kAny_stays
          · refine ⟨?_, ?_, ?_, ?_, ?_, ?_, ?_, ?_, ?_, ?_, ?_, ?_, ?_, ?_, ?_, ?_, ?_, ?_, ?_, ?_, ?_, ?_, ?_, ?_, trivial⟩
            · intro a wx hB hold hdep K hK; have t2 : a.tmps[2]? = some (.pointer (some ⟨w.heap.size, 0, none⟩)) := hold.2.2 2 rfl; clear hold hdep; go_simp; exact hK.out _ _ rfl (Below.refl _ _)
            · intro a wx hB hold hdep K hK; have t51 := dep_eq wx (hdep 0 rfl _ 51 rfl rfl); obtain ⟨k0, k1, k2', k3, k4, k5, k6⟩ := blk7 (below_keep hB HBP.out); clear hold hdep; go_simp; exact hK.out _ _ rfl (Below.refl _ _)
            · intro a wx hB hold hdep K hK; have t52 := dep_eq wx (hdep 1 rfl _ 52 rfl rfl); clear hold hdep; go_simp; exact hK.out _ _ rfl (Below.refl _ _)
            · intro a wx hB hold hdep K hK; have t53 := dep_eq wx (hdep 2 rfl _ 53 rfl rfl); clear hold hdep; go_simp; exact hK.out _ _ rfl (Below.refl _ _)
            · intro a wx hB hold hdep K hK; have t54 := dep_eq wx (hdep 3 rfl _ 54 rfl rfl); clear hold hdep; go_simp; exact hK.out _ _ rfl (Below.refl _ _)
            · intro a wx hB hold hdep K hK; have t55 := dep_eq wx (hdep 4 rfl _ 55 rfl rfl); obtain ⟨g4, g5⟩ := HC.out; have q4 := (hB.cell (p := ⟨b, off + 4, none⟩) HZ.out).trans g4; have q5 := (hB.cell (p := ⟨b, off + 5, none⟩) HZ.out).trans g5; clear g4 g5; clear hold hdep; go_simp; exact hK.out _ _ rfl (Below.refl _ _)
            · intro a wx hB hold hdep K hK; have t2 : a.tmps[2]? = some (.pointer (some ⟨w.heap.size, 0, none⟩)) := hold.2.2 2 rfl; clear hold hdep; go_simp; exact hK.out _ _ rfl (Below.refl _ _)
            · intro a wx hB hold hdep K hK; have t57 := dep_eq wx (hdep 6 rfl _ 57 rfl rfl); clear hold hdep; go_simp; exact hK.out _ _ rfl (Below.refl _ _)
            · intro a wx hB hold hdep K hK; have t58 := dep_eq wx (hdep 7 rfl _ 58 rfl rfl); obtain ⟨k0, k1, k2', k3, k4, k5, k6⟩ := blk7 (below_keep hB HBP.out); clear hold hdep; go_simp; exact hK.out _ _ rfl (Below.refl _ _)
            · intro a wx hB hold hdep K hK; have t56 := dep_eq wx (hdep 5 rfl _ 56 rfl rfl); have t59 := dep_eq wx (hdep 8 rfl _ 59 rfl rfl); clear hold hdep; go_simp; refine (HW1.out wx hB).mono ?_; rintro e w1 ⟨rfl, hb⟩; exact hK.out _ _ rfl hb
            · intro a wx hB hold hdep K hK; have t60 := dep_eq wx (hdep 9 rfl _ 60 rfl rfl); clear hold hdep; go_simp; exact hK.out _ _ rfl (Below.refl _ _)
            · intro a wx hB hold hdep K hK; have t61 := dep_eq wx (hdep 10 rfl _ 61 rfl rfl); clear hold hdep; go_simp; exact hK.out _ _ rfl (Below.refl _ _)
            · intro a wx hB hold hdep K hK; have t62 := dep_eq wx (hdep 11 rfl _ 62 rfl rfl); have t2 : a.tmps[2]? = some (.pointer (some ⟨w.heap.size, 0, none⟩)) := hold.2.2 2 rfl; clear hold hdep; go_simp; exact hK.out _ _ rfl (Below.refl _ _)
            · intro a wx hB hold hdep K hK; have t62 := dep_eq wx (hdep 11 rfl _ 62 rfl rfl); have t63 := dep_eq wx (hdep 12 rfl _ 63 rfl rfl); obtain ⟨k0, k1, k2', k3, k4, k5, k6⟩ := blk7 (below_keep hB HBP.out); clear hold hdep; go_simp; exact hK.out _ _ rfl (Below.refl _ _)
            · intro a wx hB hold hdep K hK; have t62 := dep_eq wx (hdep 11 rfl _ 62 rfl rfl); have t64 := dep_eq wx (hdep 13 rfl _ 64 rfl rfl); clear hold hdep; go_simp; exact hK.out _ _ rfl (Below.refl _ _)
            · intro a wx hB hold hdep K hK; have t62 := dep_eq wx (hdep 11 rfl _ 62 rfl rfl); have t65 := dep_eq wx (hdep 14 rfl _ 65 rfl rfl); clear hold hdep; go_simp; exact hK.out _ _ rfl (Below.refl _ _)
            · intro a wx hB hold hdep K hK; have t62 := dep_eq wx (hdep 11 rfl _ 62 rfl rfl); have t66 := dep_eq wx (hdep 15 rfl _ 66 rfl rfl); clear hold hdep; go_simp; exact hK.out _ _ rfl (Below.refl _ _)
            · intro a wx hB hold hdep K hK; have t62 := dep_eq wx (hdep 11 rfl _ 62 rfl rfl); have t67 := dep_eq wx (hdep 16 rfl _ 67 rfl rfl); obtain ⟨g4, g5⟩ := HC.out; have q4 := (hB.cell (p := ⟨b, off + 4, none⟩) HZ.out).trans g4; have q5 := (hB.cell (p := ⟨b, off + 5, none⟩) HZ.out).trans g5; clear g4 g5; clear hold hdep; go_simp; exact hK.out _ _ rfl (Below.refl _ _)
            · intro a wx hB hold hdep K hK; have t62 := dep_eq wx (hdep 11 rfl _ 62 rfl rfl); have t2 : a.tmps[2]? = some (.pointer (some ⟨w.heap.size, 0, none⟩)) := hold.2.2 2 rfl; clear hold hdep; go_simp; exact hK.out _ _ rfl (Below.refl _ _)
            · intro a wx hB hold hdep K hK; have t62 := dep_eq wx (hdep 11 rfl _ 62 rfl rfl); have t69 := dep_eq wx (hdep 18 rfl _ 69 rfl rfl); clear hold hdep; go_simp; exact hK.out _ _ rfl (Below.refl _ _)
            · intro a wx hB hold hdep K hK; have t62 := dep_eq wx (hdep 11 rfl _ 62 rfl rfl); have t70 := dep_eq wx (hdep 19 rfl _ 70 rfl rfl); obtain ⟨k0, k1, k2', k3, k4, k5, k6⟩ := blk7 (below_keep hB HBP.out); clear hold hdep; go_simp; exact hK.out _ _ rfl (Below.refl _ _)
            · intro a wx hB hold hdep K hK; have t62 := dep_eq wx (hdep 11 rfl _ 62 rfl rfl); have t68 := dep_eq wx (hdep 17 rfl _ 68 rfl rfl); have t71 := dep_eq wx (hdep 20 rfl _ 71 rfl rfl); clear hold hdep; go_simp; refine (HW2.out wx hB).mono ?_; rintro e w1 ⟨rfl, hb⟩; exact hK.out _ _ rfl hb
            · intro a wx hB hold hdep K hK; have t62 := dep_eq wx (hdep 11 rfl _ 62 rfl rfl); have t72 := dep_eq wx (hdep 21 rfl _ 72 rfl rfl); clear hold hdep; go_simp; exact hK.out _ _ rfl (Below.refl _ _)
            · intro a wx hB hold hdep K hK; have t62 := dep_eq wx (hdep 11 rfl _ 62 rfl rfl); have t73 := dep_eq wx (hdep 22 rfl _ 73 rfl rfl); clear hold hdep; go_simp; exact hK.out _ _ rfl (Below.refl _ _)
          · intro a wx hB hold hgot
            (obtain ⟨v74, t74, p74⟩ := hgot 23 _ 74 rfl rfl; have e74 : v74 = (.bool true) := p74; subst e74; obtain ⟨tm, df⟩ := a; obtain ⟨ys, hys, htm, rfl⟩ := frame_mid 51 24 (by kernel_rfl) (Nat.le_of_ble_eq_true rfl) hold; obtain ⟨x51, x52, x53, x54, x55, x56, x57, x58, x59, x60, x61, x62, x63, x64, x65, x66, x67, x68, x69, x70, x71, x72, x73, x74, rfl⟩ := rowOf24 ys hys; simp only [List.take_succ_cons, List.take_zero, List.drop_succ_cons, List.drop_zero, List.cons_append, List.nil_append] at htm; subst htm; obtain rfl : x74 = _ := someInj t74; clear hys hold hgot t74 p74; have B2 := below_join BW.out hB; go_wp2_with fail; go_ret; (exact ⟨by rw [HT0.out]; rfl, B2⟩))
        · have HW2 : Hid (∀ wx, Below w1.heap.size w1 wx → Calls Tryz.prog 37 #[.slice ar2 kr.length cr2, .slice ar r.length cr] wx fun e w' => e = .returned (.bool true) ∧ Below wx.heap.size wx w') := HW2'
          have HT0 : Hid (T = 0) := HT2.out; clear HW1' HW2' HT2; go_wp2_with fail; clear j0 j1 j2 j3 j4 j5 j6 hl1 hk1; (refine wp_region_free (by kernel_rfl) [kEq (.pointer (some ⟨w.heap.size, 6, none⟩)), kEq (.slice (some ⟨b, off, none⟩) ks.length cap), kEq (.pointer (some ⟨b, off, none⟩)), kEq (.pointer (some ⟨b, off + 4, none⟩)), kEq (.pointer (some ⟨b, off + 4, none⟩)), kEq (.slice al2 kl.length cl2), kEq (.pointer (some ⟨w.heap.size, 4, none⟩)), kEq (.pointer (some ⟨w.heap.size, 4, none⟩)), kEq (.slice al l.length cl), kEq (.bool true), kEq (.bool false), kEq (.bool false), kEq (.pointer (some ⟨w.heap.size, 6, none⟩)), kEq (.slice (some ⟨b, off, none⟩) ks.length cap), kEq (.pointer (some ⟨b, off, none⟩)), kEq (.pointer (some ⟨b, off + 4, none⟩)), kEq (.pointer (some ⟨b, off + 5, none⟩)), kEq (.slice ar2 kr.length cr2), kEq (.pointer (some ⟨w.heap.size, 4, none⟩)), kEq (.pointer (some ⟨w.heap.size, 5, none⟩)), kEq (.slice ar r.length cr), kEq (.bool true), kEq (.bool false), kEq (.bool false)] ?_ (by kernel_rfl) (by kernel_rfl) 150 rfl (by kernel_rfl) ?_ ?_)
          · intro p hp
            simp only [List.mem_cons, List.not_mem_nil, or_false] at hp
            rcases hp with rfl | rfl | rfl | rfl | rfl | rfl | rfl | rfl | rfl | rfl | rfl | rfl | rfl | rfl | rfl | rfl | rfl | rfl | rfl | rfl | rfl | rfl | rfl | rfl
            all_goals first | exact kEq_stays _ | exact kAny_stays
          · refine ⟨?_, ?_, ?_, ?_, ?_, ?_, ?_, ?_, ?_, ?_, ?_, ?_, ?_, ?_, ?_, ?_, ?_, ?_, ?_, ?_, ?_, ?_, ?_, ?_, trivial⟩
            · intro a wx hB hold hdep K hK; have t2 : a.tmps[2]? = some (.pointer (some ⟨w.heap.size, 0, none⟩)) := hold.2.2 2 rfl; clear hold hdep; go_simp; exact hK.out _ _ rfl (Below.refl _ _)
            · intro a wx hB hold hdep K hK; have t51 := dep_eq wx (hdep 0 rfl _ 51 rfl rfl); obtain ⟨k0, k1, k2', k3, k4, k5, k6⟩ := blk7 (below_keep hB HBP.out); clear hold hdep; go_simp; exact hK.out _ _ rfl (Below.refl _ _)
            · intro a wx hB hold hdep K hK; have t52 := dep_eq wx (hdep 1 rfl _ 52 rfl rfl); clear hold hdep; go_simp; exact hK.out _ _ rfl (Below.refl _ _)
            · intro a wx hB hold hdep K hK; have t53 := dep_eq wx (hdep 2 rfl _ 53 rfl rfl); clear hold hdep; go_simp; exact hK.out _ _ rfl (Below.refl _ _)
            · intro a wx hB hold hdep K hK; have t54 := dep_eq wx (hdep 3 rfl _ 54 rfl rfl); clear hold hdep; go_simp; exact hK.out _ _ rfl (Below.refl _ _)
            · intro a wx hB hold hdep K hK; have t55 := dep_eq wx (hdep 4 rfl _ 55 rfl rfl); obtain ⟨g4, g5⟩ := HC.out; have q4 := (hB.cell (p := ⟨b, off + 4, none⟩) HZ.out).trans g4; have q5 := (hB.cell (p := ⟨b, off + 5, none⟩) HZ.out).trans g5; clear g4 g5; clear hold hdep; go_simp; exact hK.out _ _ rfl (Below.refl _ _)
            · intro a wx hB hold hdep K hK; have t2 : a.tmps[2]? = some (.pointer (some ⟨w.heap.size, 0, none⟩)) := hold.2.2 2 rfl; clear hold hdep; go_simp; exact hK.out _ _ rfl (Below.refl _ _)
            · intro a wx hB hold hdep K hK; have t57 := dep_eq wx (hdep 6 rfl _ 57 rfl rfl); clear hold hdep; go_simp; exact hK.out _ _ rfl (Below.refl _ _)
            · intro a wx hB hold hdep K hK; have t58 := dep_eq wx (hdep 7 rfl _ 58 rfl rfl); obtain ⟨k0, k1, k2', k3, k4, k5, k6⟩ := blk7 (below_keep hB HBP.out); clear hold hdep; go_simp; exact hK.out _ _ rfl (Below.refl _ _)
            · intro a wx hB hold hdep K hK; have t56 := dep_eq wx (hdep 5 rfl _ 56 rfl rfl); have t59 := dep_eq wx (hdep 8 rfl _ 59 rfl rfl); clear hold hdep; go_simp; refine (HW1.out wx hB).mono ?_; rintro e w1 ⟨rfl, hb⟩; exact hK.out _ _ rfl hb
            · intro a wx hB hold hdep K hK; have t60 := dep_eq wx (hdep 9 rfl _ 60 rfl rfl); clear hold hdep; go_simp; exact hK.out _ _ rfl (Below.refl _ _)
            · intro a wx hB hold hdep K hK; have t61 := dep_eq wx (hdep 10 rfl _ 61 rfl rfl); clear hold hdep; go_simp; exact hK.out _ _ rfl (Below.refl _ _)
            · intro a wx hB hold hdep K hK; have t62 := dep_eq wx (hdep 11 rfl _ 62 rfl rfl); have t2 : a.tmps[2]? = some (.pointer (some ⟨w.heap.size, 0, none⟩)) := hold.2.2 2 rfl; clear hold hdep; go_simp; exact hK.out _ _ rfl (Below.refl _ _)
            · intro a wx hB hold hdep K hK; have t62 := dep_eq wx (hdep 11 rfl _ 62 rfl rfl); have t63 := dep_eq wx (hdep 12 rfl _ 63 rfl rfl); obtain ⟨k0, k1, k2', k3, k4, k5, k6⟩ := blk7 (below_keep hB HBP.out); clear hold hdep; go_simp; exact hK.out _ _ rfl (Below.refl _ _)
            · intro a wx hB hold hdep K hK; have t62 := dep_eq wx (hdep 11 rfl _ 62 rfl rfl); have t64 := dep_eq wx (hdep 13 rfl _ 64 rfl rfl); clear hold hdep; go_simp; exact hK.out _ _ rfl (Below.refl _ _)
            · intro a wx hB hold hdep K hK; have t62 := dep_eq wx (hdep 11 rfl _ 62 rfl rfl); have t65 := dep_eq wx (hdep 14 rfl _ 65 rfl rfl); clear hold hdep; go_simp; exact hK.out _ _ rfl (Below.refl _ _)
            · intro a wx hB hold hdep K hK; have t62 := dep_eq wx (hdep 11 rfl _ 62 rfl rfl); have t66 := dep_eq wx (hdep 15 rfl _ 66 rfl rfl); clear hold hdep; go_simp; exact hK.out _ _ rfl (Below.refl _ _)
            · intro a wx hB hold hdep K hK; have t62 := dep_eq wx (hdep 11 rfl _ 62 rfl rfl); have t67 := dep_eq wx (hdep 16 rfl _ 67 rfl rfl); obtain ⟨g4, g5⟩ := HC.out; have q4 := (hB.cell (p := ⟨b, off + 4, none⟩) HZ.out).trans g4; have q5 := (hB.cell (p := ⟨b, off + 5, none⟩) HZ.out).trans g5; clear g4 g5; clear hold hdep; go_simp; exact hK.out _ _ rfl (Below.refl _ _)
            · intro a wx hB hold hdep K hK; have t62 := dep_eq wx (hdep 11 rfl _ 62 rfl rfl); have t2 : a.tmps[2]? = some (.pointer (some ⟨w.heap.size, 0, none⟩)) := hold.2.2 2 rfl; clear hold hdep; go_simp; exact hK.out _ _ rfl (Below.refl _ _)
            · intro a wx hB hold hdep K hK; have t62 := dep_eq wx (hdep 11 rfl _ 62 rfl rfl); have t69 := dep_eq wx (hdep 18 rfl _ 69 rfl rfl); clear hold hdep; go_simp; exact hK.out _ _ rfl (Below.refl _ _)
            · intro a wx hB hold hdep K hK; have t62 := dep_eq wx (hdep 11 rfl _ 62 rfl rfl); have t70 := dep_eq wx (hdep 19 rfl _ 70 rfl rfl); obtain ⟨k0, k1, k2', k3, k4, k5, k6⟩ := blk7 (below_keep hB HBP.out); clear hold hdep; go_simp; exact hK.out _ _ rfl (Below.refl _ _)
            · intro a wx hB hold hdep K hK; have t62 := dep_eq wx (hdep 11 rfl _ 62 rfl rfl); have t68 := dep_eq wx (hdep 17 rfl _ 68 rfl rfl); have t71 := dep_eq wx (hdep 20 rfl _ 71 rfl rfl); clear hold hdep; go_simp; refine (HW2.out wx hB).mono ?_; rintro e w1 ⟨rfl, hb⟩; exact hK.out _ _ rfl hb
            · intro a wx hB hold hdep K hK; have t62 := dep_eq wx (hdep 11 rfl _ 62 rfl rfl); have t72 := dep_eq wx (hdep 21 rfl _ 72 rfl rfl); clear hold hdep; go_simp; exact hK.out _ _ rfl (Below.refl _ _)
            · intro a wx hB hold hdep K hK; have t62 := dep_eq wx (hdep 11 rfl _ 62 rfl rfl); have t73 := dep_eq wx (hdep 22 rfl _ 73 rfl rfl); clear hold hdep; go_simp; exact hK.out _ _ rfl (Below.refl _ _)
          · intro a wx hB hold hgot
            (obtain ⟨v74, t74, p74⟩ := hgot 23 _ 74 rfl rfl; have e74 : v74 = (.bool false) := p74; subst e74; obtain ⟨tm, df⟩ := a; obtain ⟨ys, hys, htm, rfl⟩ := frame_mid 51 24 (by kernel_rfl) (Nat.le_of_ble_eq_true rfl) hold; obtain ⟨x51, x52, x53, x54, x55, x56, x57, x58, x59, x60, x61, x62, x63, x64, x65, x66, x67, x68, x69, x70, x71, x72, x73, x74, rfl⟩ := rowOf24 ys hys; simp only [List.take_succ_cons, List.take_zero, List.drop_succ_cons, List.drop_zero, List.cons_append, List.nil_append] at htm; subst htm; obtain rfl : x74 = _ := someInj t74; clear hys hold hgot t74 p74; have B2 := below_join BW.out hB; go_wp2_with fail; go_ret; (exact ⟨by rw [HT0.out]; rfl, B2⟩))
end Go.Proofs.YtpmogojpdigbmabGreat
