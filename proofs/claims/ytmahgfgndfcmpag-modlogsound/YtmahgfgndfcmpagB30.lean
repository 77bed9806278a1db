/- Texts of one proof, one behind the other: MLL. -/
import Derived.Test.YtmahgfgndfcmpagB29
import Derived.Test.YtmahgfgndfcmpagB14
import Derived.Test.YtmahgfgndfcmpagB04
/- Walks: modlogBegun. -/
namespace Go.Proofs.Ytmahgfgndfcmpag
open Go.RowKit Go.Sort

/-- Loeb's formula. -/
def loebF : Fm := im (bx (im (bx fPm) fPm)) (bx fPm)
theorem loeb_code : loebF.code = (0, 0) := six_code (k := 5) (by decide)
theorem loeb_size : loebF.size ≤ 10 := by decide
theorem loeb_fine : Fine loebF := by
  obtain ⟨s, hs⟩ := code_chk loeb_code; exact fine_of_chk _ 0 s hs
theorem loeb_gl : ValidM 8 loebF := fun N R p ho u hu => by
  have h5 : sh5 N R = true := ho; (have hv := val5.2 h5 (fun u => p u nPm.data.toList) u hu); (have e1 : mtv (seeR N R) p fPm = fun u => p u nPm.data.toList := by funext u; rw [fPm, mtv, mtvs]; rfl); (have e2 : mtv (seeR N R) (fun u _ => p u nPm.data.toList) fPm = fun u => p u nPm.data.toList := by funext u; rw [fPm, mtv, mtvs]; rfl)
  have e3 : mtv (seeR N R) p loebF = mtv (seeR N R) (fun u _ => p u nPm.data.toList) loebF := by
    simp only [loebF, im, bx, mtv_then, mtv_box, e1, e2]
  rw [e3]; exact hv
theorem loeb_s4 : ¬ ValidM 5 loebF := fun h => by
  (have := h 1 (fun _ _ => true) (fun _ _ => false) (by decide) 0 (by decide))
  revert this
  (have e1 : mtv (seeR 1 fun _ _ => true) (fun _ _ => false) fPm = fun _ => false := by funext u; rw [fPm, mtv, mtvs]; rfl); simp only [loebF, im, bx, mtv_then, mtv_box, e1]
  decide
set_option maxRecDepth 10000 in
set_option maxHeartbeats 8000000 in
theorem modlogBegun_any (w : World) : Calls Try.prog 28 #[] w fun e w' => e = .returned (.bool true) ∧ Below w.heap.size w w' := by
  (have HNa : Hid (∀ W, Calls Try.prog 23 #[.string nPm] W _) := fun W => named_any nPm W); (have HOf : Hid (∀ W, Calls Try.prog 24 #[.int .i64 8, .agg #[.int .i64 1, .string nPm, .slice none 0 0]] W _) := fun W => ofP_any (fun _ => True) 8 fPm _ W (fun _ _ => trivial) (Rep.leaf (by decide))); (have HD8 : Hid (∀ v W, Rep W (fun _ => True) loebF v → Calls Try.prog 30 #[.int .i64 8, v] W _) := fun v W h => decide_any 8 loebF v W h); (have HD5 : Hid (∀ v W, Rep W (fun _ => True) loebF v → Calls Try.prog 30 #[.int .i64 5, v] W _) := fun v W h => decide_any 5 loebF v W h)
  go_enter Try.func28, Try.ntmps28
  go_wp2_with fail; refine (HNa.out _).mono ?_; rintro _ w1 ⟨rfl, hb1⟩; obtain ⟨W1, hW1⟩ : ∃ V, V = w1.alloc (.cells #[.int .i64 1, .string nPm, .slice none 0 0] 28 (0, 0)) := ⟨_, rfl⟩; (have HBW1 : Hid (Below w.heap.size w W1) := by rw [hW1]; exact below_more hb1 _); (have HW1p : Hid (W1.heap[w1.heap.size]? = some (.cells #[.int .i64 1, .string nPm, .slice none 0 0] 28 (0, 0))) := by rw [hW1]; exact blk_new _ _); obtain ⟨b1, hb1e⟩ : ∃ b, b = w1.heap.size := ⟨_, rfl⟩; clear hb1; go_wp2_with fail; rw [← hW1]; clear hW1; refine (HOf.out W1).mono ?_; rintro _ w2 ⟨x2, rfl, hr2, hb2⟩; (have HR2 : Hid (Rep w2 (fun _ => True) (bx fPm) x2) := hr2); obtain ⟨slB, cpB, rfl⟩ := slice_shape HR2.out; simp only [List.length_cons, List.length_nil, Nat.zero_add] at HR2 ⊢; obtain ⟨X, hX⟩ : ∃ V, V = w2.alloc (.cells #[.int .i64 8, .string ⟨#[]⟩, .slice slB 1 cpB] 28 (0, 0)) := ⟨_, rfl⟩; (have hbX : Below W1.heap.size W1 X := by rw [hX]; exact below_more hb2 _); have HBX : Hid (Below w.heap.size w X) := below_join HBW1.out hbX; (have HPp : Hid (X.heap[b1]? = some (.cells #[.int .i64 1, .string nPm, .slice none 0 0] 28 (0, 0))) := by rw [hb1e]; exact below_keep hbX HW1p.out); (have HBb : Hid (X.heap[w2.heap.size]? = some (.cells #[.int .i64 8, .string ⟨#[]⟩, .slice slB 1 cpB] 28 (0, 0))) := by rw [hX]; exact blk_new _ _); (have HBr : Hid (Rep X (fun _ => True) (bx fPm) (.agg #[.int .i64 8, .string ⟨#[]⟩, .slice slB 1 cpB])) := HR2.out.up (by rw [hX]; exact below_more (Below.refl _ _) _)); rw [← hb1e]; obtain ⟨b2, hb2e⟩ : ∃ b, b = w2.heap.size := ⟨_, rfl⟩; rw [← hb2e] at HBb; clear hb2 hr2 hbX hb1e; go_wp2_with fail; rw [← hX, ← hb2e]; clear hX hb2e; (refine wp_region_last (by kernel_rfl) [fun v _ => v = (.agg #[.int .i64 8, .string ⟨#[]⟩, .slice slB 1 cpB]), fun v _ => v = (.agg #[.int .i64 1, .string nPm, .slice none 0 0]), kR (im (bx fPm) fPm), kR (bx (im (bx fPm) fPm)), fun v _ => v = (.agg #[.int .i64 8, .string ⟨#[]⟩, .slice slB 1 cpB]), kR (loebF), kZf X.heap.size] ?_ (by kernel_rfl) (by kernel_rfl) 46 rfl (by kernel_rfl) 7 _ rfl rfl (by kernel_rfl) ?_ ?_)
  · intro p hp
    simp only [List.mem_cons, List.not_mem_nil, or_false] at hp
    rcases hp with rfl | rfl | rfl | rfl | rfl | rfl | rfl
    · exact fun _ _ _ h _ => h
    · exact fun _ _ _ h _ => h
    · exact kR_stays _
    · exact kR_stays _
    · exact fun _ _ _ h _ => h
    · exact kR_stays _
    · exact kZf_stays _
  · refine ⟨?_, ?_, ?_, ?_, ?_, ?_, ?_, trivial⟩
    · intro a wx hB hold hdep K hK
      have t2 : a.tmps[2]? = some (.pointer (some ⟨b2, 0, none⟩)) := hold.2.2 2 rfl; obtain ⟨k0, k1, k2, -⟩ := blk3 (below_keep hB HBb.out); clear hold hdep; go_simp; exact hK.out _ _ rfl (Below.refl _ _)
    · intro a wx hB hold hdep K hK
      have t1 : a.tmps[1]? = some (.pointer (some ⟨b1, 0, none⟩)) := hold.2.2 1 rfl; obtain ⟨k0, k1, k2, -⟩ := blk3 (below_keep hB HPp.out); clear hold hdep; go_simp; exact hK.out _ _ rfl (Below.refl _ _)
    · intro a wx hB hold hdep K hK
      obtain ⟨v13, t13, p13⟩ := hdep 0 rfl _ 13 rfl rfl; have e13 : v13 = (.agg #[.int .i64 8, .string ⟨#[]⟩, .slice slB 1 cpB]) := p13; subst e13; obtain ⟨v14, t14, p14⟩ := hdep 1 rfl _ 14 rfl rfl; have e14 : v14 = (.agg #[.int .i64 1, .string nPm, .slice none 0 0]) := p14; subst e14; (have HW : Hid (Calls Try.prog 25 #[.int .i64 7, .agg #[.int .i64 8, .string ⟨#[]⟩, .slice slB 1 cpB], .agg #[.int .i64 1, .string nPm, .slice none 0 0]] wx _) := bothP_any (fun _ => True) 7 (bx fPm) fPm _ _ wx (fun _ _ => trivial) (HBr.out.up hB) (Rep.leaf (by decide))); clear hold hdep; go_simp; refine HW.out.mono ?_; rintro _ w9 ⟨x9, rfl, hr9, hb9⟩; (have H9 : Hid (Rep w9 (fun _ => True) (im (bx fPm) fPm) x9) := hr9); clear hr9; go_simp; exact hK.out _ _ H9.out hb9
    · intro a wx hB hold hdep K hK
      obtain ⟨v15, t15, p15⟩ := hdep 2 rfl _ 15 rfl rfl; have P15 : Hid ((kR (im (bx fPm) fPm)) v15 wx) := p15; clear p15; (have HW : Hid (Calls Try.prog 24 #[.int .i64 8, v15] wx _) := ofP_any (fun _ => True) 8 (im (bx fPm) fPm) _ wx (fun _ _ => trivial) P15.out); clear hold hdep; go_simp; refine HW.out.mono ?_; rintro _ w9 ⟨x9, rfl, hr9, hb9⟩; (have H9 : Hid (Rep w9 (fun _ => True) (bx (im (bx fPm) fPm)) x9) := hr9); clear hr9; go_simp; exact hK.out _ _ H9.out hb9
    · intro a wx hB hold hdep K hK
      have t2 : a.tmps[2]? = some (.pointer (some ⟨b2, 0, none⟩)) := hold.2.2 2 rfl; obtain ⟨k0, k1, k2, -⟩ := blk3 (below_keep hB HBb.out); clear hold hdep; go_simp; exact hK.out _ _ rfl (Below.refl _ _)
    · intro a wx hB hold hdep K hK
      obtain ⟨v16, t16, p16⟩ := hdep 3 rfl _ 16 rfl rfl; have P16 : Hid ((kR (bx (im (bx fPm) fPm))) v16 wx) := p16; clear p16; obtain ⟨v17, t17, p17⟩ := hdep 4 rfl _ 17 rfl rfl; have e17 : v17 = (.agg #[.int .i64 8, .string ⟨#[]⟩, .slice slB 1 cpB]) := p17; subst e17; (have HW : Hid (Calls Try.prog 25 #[.int .i64 7, v16, .agg #[.int .i64 8, .string ⟨#[]⟩, .slice slB 1 cpB]] wx _) := bothP_any (fun _ => True) 7 (bx (im (bx fPm) fPm)) (bx fPm) _ _ wx (fun _ _ => trivial) P16.out (HBr.out.up hB)); clear hold hdep; go_simp; refine HW.out.mono ?_; rintro _ w9 ⟨x9, rfl, hr9, hb9⟩; (have H9 : Hid (Rep w9 (fun _ => True) (loebF) x9) := hr9); clear hr9; go_simp; exact hK.out _ _ H9.out hb9
    · intro a wx hB hold hdep K hK
      have HA : Hid (X.heap.size ≤ wx.heap.size) := hB.size; clear hold hdep; go_simp; exact hK.out _ _ ⟨_, rfl, HA.out, blk_new _ _⟩ (below_more (Below.refl _ _) _)
  · intro a wx hB hold hgot K hK
    (obtain ⟨vL, tvL, pvL⟩ := hgot 5 _ 18 (by omega) rfl rfl); (obtain ⟨vP, tvP, pvP⟩ := hgot 6 _ 3 (by omega) rfl rfl); obtain ⟨b3, rfl, hA3, hZ3⟩ := pvP; (have HLr : Hid (Rep wx (fun _ => True) loebF vL) := pvL); obtain ⟨slL, cpL, rfl⟩ := slice_shape HLr.out; have HBx : Hid (Below X.heap.size X wx) := hB; have HZ3 : Hid (wx.heap[b3]? = some (.cells #[.int .i64 0, .string ⟨#[]⟩, .slice none 0 0] 28 (0, 0))) := hZ3; have HA3 : Hid (X.heap.size ≤ b3) := hA3; obtain ⟨d0, d1, d2, e0, e1, e2⟩ := blk3 HZ3.out; obtain ⟨tm, df⟩ := a; (obtain ⟨ys, zs, hys, hzs, htm, rfl⟩ := frame_two 3 1 9 6 4 13 19 rfl rfl rfl (by kernel_rfl) (Nat.le_of_ble_eq_true rfl) hold); obtain ⟨y3, rfl⟩ := rowE1 ys hys; obtain ⟨y13, y14, y15, y16, y17, y18, rfl⟩ := rowE6 zs hzs; simp only [List.take_succ_cons, List.take_zero, List.drop_succ_cons, List.drop_zero, List.cons_append, List.nil_append] at htm; subst htm; obtain rfl : y3 = _ := someInjM tvP; obtain rfl : y18 = _ := someInjM tvL; clear hys hzs hold hgot tvL tvP pvL hB hA3 hZ3; simp only [List.length_cons, List.length_nil, Nat.zero_add] at HLr ⊢; go_simp; refine hK.out _ _ ?_; clear hK d0 d1 d2 e0 e1 e2; obtain ⟨V, hV⟩ : ∃ V, V = ((wx.setCell ⟨b3, 0, none⟩ (.int .i64 7)).setCell ⟨b3, 1, none⟩ (.string ⟨#[]⟩)).setCell ⟨b3, 2, none⟩ (.slice slL 2 cpL) := ⟨_, rfl⟩; (have HV3 : Hid (V.heap[b3]? = some (.cells #[.int .i64 7, .string ⟨#[]⟩, .slice slL 2 cpL] 28 (0, 0))) := by rw [hV]; exact set3M HZ3.out _ _ _); (have HVr : Hid (Rep V (fun _ => True) loebF (.agg #[.int .i64 7, .string ⟨#[]⟩, .slice slL 2 cpL])) := by rw [hV]; exact rep_put3 HZ3.out loeb_fine HLr.out _ _ _); (have HVB : Hid (Below w.heap.size w V) := by rw [hV]; exact below_join HBX.out (((HBx.out.setCell (p := ⟨b3, 0, none⟩) HA3.out _).setCell (p := ⟨b3, 1, none⟩) HA3.out _).setCell (p := ⟨b3, 2, none⟩) HA3.out _))
    try rw [← hV]
    clear hV HZ3 HLr HBx; obtain ⟨q0, q1, q2, -⟩ := blk3 HV3.out; go_wp2_with fail; refine (HD8.out _ V HVr.out).mono ?_; rintro _ u1 ⟨⟨r1, m1, c1, d1, rfl, ⟨n1, a1, s1, p1, a2, s2, p2, rfl⟩, h1, h2⟩, hb1⟩; (obtain rfl : c1 = 0 := h2 loeb_code (by decide) (by decide) loeb_size); obtain rfl : r1 = true := (h1 rfl).2.2.2.2 loeb_gl; clear h1 h2 q0 q1 q2; obtain ⟨U1, hU1⟩ : ∃ U, U = (u1.alloc (.cells #[.int .i64 n1, .slice a1 s1 p1, .slice a2 s2 p2] 25 (0, 0))).alloc (.cells #[.int .i64 0, .int .i64 d1] 34 (0, 0)) := ⟨_, rfl⟩; (have hbU : Below V.heap.size V U1 := by rw [hU1]; exact below_more (below_more hb1 _) _); have HU3 : Hid (U1.heap[b3]? = some (.cells #[.int .i64 7, .string ⟨#[]⟩, .slice slL 2 cpL] 28 (0, 0))) := below_keep hbU HV3.out; (have HUr : Hid (Rep U1 (fun _ => True) loebF (.agg #[.int .i64 7, .string ⟨#[]⟩, .slice slL 2 cpL])) := HVr.out.up hbU); have HUB : Hid (Below w.heap.size w U1) := below_join HVB.out hbU; (have HUe : Hid (U1.heap[u1.heap.size + 1]? = some (.cells #[.int .i64 0, .int .i64 d1] 34 (0, 0))) := by rw [hU1]; exact blk_secE _ _ _); clear hb1 hbU; obtain ⟨q0, q1, q2, -⟩ := blk3 HU3.out; have hU1e := hU1.symm; clear hU1; go_wp2_with fail
    try rw [hU1e]
    refine (HD5.out _ U1 HUr.out).mono ?_; rintro _ u2 ⟨⟨r2, m2, c2, d2, rfl, ⟨n2, a3, s3, p3, a4, s4, p4, rfl⟩, h1, h2⟩, hb2⟩; (obtain rfl : c2 = 0 := h2 loeb_code (by decide) (by decide) loeb_size)
    obtain rfl : r2 = false := by
      cases r2 with
      | false => rfl
      | true => exact absurd ((h1 rfl).2.2.2.1 rfl) loeb_s4
    clear h1 h2 q0 q1 q2 hU1e; obtain ⟨U2, hU2⟩ : ∃ U, U = (u2.alloc (.cells #[.int .i64 n2, .slice a3 s3 p3, .slice a4 s4 p4] 25 (0, 0))).alloc (.cells #[.int .i64 0, .int .i64 d2] 34 (0, 0)) := ⟨_, rfl⟩; (have hbU2 : Below U1.heap.size U1 U2 := by rw [hU2]; exact below_more (below_more hb2 _) _); have HUB2 : Hid (Below w.heap.size w U2) := below_join HUB.out hbU2; obtain ⟨q0, q1, -⟩ := blk2 (below_keep hbU2 HUe.out); (obtain ⟨q2, q3, -⟩ := blk2 (show U2.heap[u2.heap.size + 1]? = some (.cells #[.int .i64 0, .int .i64 d2] 34 (0, 0)) by rw [hU2]; exact blk_secE _ _ _)); have hU2e := hU2.symm; clear hU2 hb2 hbU2; go_wp2_with fail; go_ret; exact ⟨rfl, HUB2.out⟩
end Go.Proofs.Ytmahgfgndfcmpag
