/- Texts of one proof, one behind the other: TV4. -/
import Derived.Test.YtlmjnglcdgkomaaB28
import Derived.Deep.RegionHeld3
/- Walks: TruthValues of a plain formula, row by row. -/
namespace Go.Proofs.Ytlmjnglcdgkomaa
open Go.RowKit Go.Sort

set_option maxRecDepth 10000 in
set_option maxHeartbeats 8000000 in
theorem values_fine (f : Fm) (l : List (List UInt8)) (hmx : ∀ t ∈ l, t.length ≤ maxLen) (v u : Value) (w : World) (hrep : Rep w (fun _ => True) f v) (hu : SL w u l) (hpc : f.pcode = (0, 0)) (h6 : (nmsU f).length ≤ 6) :
    Calls Try.prog 8 #[v, u] w fun e w' => e = .returned (.bool true) ∧ Below w.heap.size w w' := by
  (have hva := fun v w h => vast2_any f v w h); (have hpf := fun v (w : World) h => plainR_any [f] (by simp) v w h); rw [pfirst_one, hpc] at hpf; (have hval := fun v u (w : World) h h' => value_any f l hmx v u w h h'); (have hro := fun v (w : World) h => rows_any f v w h); (have hvd := fun v (w : World) h => valid_any f v w h); (obtain ⟨⟨s, hs⟩, hpl, -⟩ := pcode_ok (f := f) (by rw [hpc])); have hfi := fine_of_chk f 0 s hs; (have hni := fun v (w : World) h => namesIn_any f (chk_size hs) v w h); (have htr := fun v u (w : World) h h' => trueR_any l f v u w hfi h h'); (have hvc := fun h => vcode_plain hpc l h); (have hvc2 : 1000 < l.length → vcode f l = (2, 0) := fun h => by unfold vcode; rw [hpc, if_pos rfl, if_pos h]); (have hnc : f.ncode = (0, 0) := by unfold Fm.ncode; rw [hpc, if_pos rfl, if_neg (by omega)]); (have hcol : f.col = colL f (nmsU f) := by unfold Fm.col; rw [hnc]; rfl); (have hwit : f.wit = if false ∈ colL f (nmsU f) then rowN ((colL f (nmsU f)).idxOf false) (nmsU f) 0 else [] := by unfold Fm.wit; rw [hnc]; rfl); (have hisv : f.isV = decide (false ∉ colL f (nmsU f)) := by unfold Fm.isV; rw [hnc]; simp); rw [hcol, hnc] at hro; rw [hwit, hnc, hisv] at hvd; (have hsub : ∀ t ∈ nmsT f, t ∈ nmsU f := fun t ht => (nmsU_mem f t).2 ht)
  have hcg : ∀ r, r < 2 ^ (nmsU f).length → (colL f (nmsU f))[r]? = some (tv (fun t => decide (t ∈ rowN r (nmsU f) 0)) f) := fun r hr => by
    rw [colL_get f _ r hr, tv_row hfi _ (nmsU_nodup f) hsub]
  have hcl := colL_len f (nmsU f); (have htrr := fun r v u (w : World) h h' => trueR_any (rowN r (nmsU f) 0) f v u w hfi h h'); (have hrow := fun r (hr : r ≤ 100000) u (w : World) h => row_any r hr (nmsU f) (by omega) u w h); obtain ⟨hw, hM1, hM2⟩ := shl_row (nmsU f).length h6; generalize colL f (nmsU f) = C at *; (obtain ⟨R0, hR0⟩ : ∃ R0, R0 = if false ∈ C then rowN (C.idxOf false) (nmsU f) 0 else [] := ⟨_, rfl⟩); rw [← hR0] at hvd; (have HR0 : Hid (R0 = if false ∈ C then rowN (C.idxOf false) (nmsU f) 0 else []) := hR0); clear hR0 hwit hisv hcol hsub; have hlU := h6; generalize nmsU f = U at *; (generalize tv (fun t => decide (t ∈ l)) f = tb at *); generalize vcode f l = vc at *; obtain ⟨vc1, vc2⟩ := vc; obtain ⟨k, n, ks⟩ := f; obtain ⟨sl, cap, rfl⟩ := slice_shape hrep; have HU : Hid (SL w u l) := hu; obtain ⟨adU, cpU, rfl, hl1, hl2, hl3⟩ := hu; (have hlI : (l.length : Int) ≤ 9223372036854775807 := by unfold maxLen at hl2; omega); have HL3 : Hid (l ≠ [] → ∃ g off, adU = some ⟨g, off, none⟩ ∧ ∀ (j : Nat) (t : List UInt8), l[j]? = some t → w.cell? ⟨g, off + j, none⟩ = some (.string ⟨t.toArray⟩)) := hl3; have HMx : Hid (∀ t ∈ l, t.length ≤ maxLen) := hmx; (have H1 : Hid (∀ v w, Rep w (fun _ => True) (.mk k n ks) v → Calls Try.prog 10 _ w _) := hva); have H2 : Hid (∀ v w, FL w v [.mk k n ks] → Calls Try.prog 37 _ w _) := hpf; (have HV : Hid (∀ v u w, Rep w (fun _ => True) (.mk k n ks) v → SL w u l → Calls Try.prog 34 #[v, u] w _) := hval); (have HRo : Hid (∀ v w, Rep w (fun _ => True) (.mk k n ks) v → Calls Try.prog 35 #[v] w _) := hro); (have HVd : Hid (∀ v w, Rep w (fun _ => True) (.mk k n ks) v → Calls Try.prog 36 #[v] w _) := hvd); have HNi : Hid (∀ v w, FL w v [.mk k n ks] → Calls Try.prog 24 #[v] w _) := hni; (have HTr : Hid (∀ v u w, Rep w (fun _ => True) (.mk k n ks) v → SL w u l → Calls Try.prog 38 #[v, u] w _) := htr); have HVC : Hid (l.length ≤ 1000 → ((vc1, vc2) : Int × Int) = badTo l l.length) := hvc; have HVC2 : Hid (1000 < l.length → ((vc1, vc2) : Int × Int) = (2, 0)) := hvc2; (have HTR : Hid (∀ r v u w, Rep w (fun _ => True) (.mk k n ks) v → SL w u (rowN r U 0) → Calls Try.prog 38 #[v, u] w _) := htrr); have HRw : Hid (∀ r, r ≤ 100000 → ∀ u w, SL w u U → Calls Try.prog 39 #[u, .int .i64 (r : Nat)] w _) := hrow; (have HCG : Hid ((∀ r, r < 2 ^ U.length → C[r]? = some (tv (fun t => decide (t ∈ rowN r U 0)) (.mk k n ks))) ∧ C.length = 2 ^ U.length ∧ 1 ≤ 2 ^ U.length ∧ 2 ^ U.length ≤ 64) := ⟨hcg, hcl, hM1, hM2⟩); have HSh : Hid (wrap64 ((2 : Int) ^ U.length) = ((2 ^ U.length : Nat) : Int)) := hw; (have HB : Hid (∀ w, Calls Try.prog 33 #[] w _) := fun w => truthBegun_any w); (have HRep : Hid (Rep w (fun _ => True) (.mk k n ks) (.agg #[.int .i64 k, .string n, .slice sl ks.length cap])) := hrep); clear hva hpf hval hro hvd hni htr hvc hvc2 hmx hpc hrep hl3 hs hpl hfi hnc htrr hrow hcg hcl hw hM1 hM2
  go_enter Try.func8, Try.ntmps8
  go_wp2_with fail; refine (HB.out _).mono ?_; rintro e w1 ⟨rfl, hb1⟩; have q1 : Hid _ := below_keep hb1 (blk_new w _); have B1 := below_join (below_more (Below.refl _ w) _) hb1; obtain ⟨a0, a1, a2, -⟩ := blk3 q1.out; go_wp2_with fail; refine (H1.out _ _ (HRep.out.up B1)).mono ?_; rintro e w2 ⟨⟨b1, rfl, hs1⟩, hb2⟩; clear hs1; have q2 : Hid _ := below_keep hb2 q1.out; have B2 := below_join B1 hb2; clear a0 a1 a2
  cases b1
  case true =>
    go_wp2_with fail; go_ret; exact ⟨rfl, B2⟩
  obtain ⟨a0, a1, a2, -⟩ := blk3 q2.out; go_wp2_with fail; refine (HV.out _ _ _ (HRep.out.up B2) (HU.out.up B2)).mono ?_; rintro e w3 ⟨rfl, hb3⟩; have q3 : Hid _ := below_keep hb3 q2.out; have B3 := below_join B2 hb3; clear a0 a1 a2; obtain ⟨a0, a1, a2, -⟩ := blk3 q3.out; have l3 := lt_of_block q3.out; go_wp2_with fail; refine (HRo.out _ _ (HRep.out.up (below_more B3 _))).mono ?_; rintro e w4 ⟨xl, rfl, hbl, hb4⟩; have HBl : Hid (BL w4 xl C) := hbl; obtain ⟨adC, cpC, rfl, -⟩ := hbl; have q4 : Hid _ := below_keep hb4 (alloc_keep q3.out _); have r4 : Hid _ := below_keep hb4 (blk_new w3 _); have B4 := below_join (below_more B3 _) hb4; clear a0 a1 a2; obtain ⟨a0, a1, a2, -⟩ := blk3 q4.out; have l4 := lt_of_block q4.out; have l4r := lt_of_block r4.out; go_wp2_with fail; refine (HVd.out _ _ (HRep.out.up (below_more B4 _))).mono ?_; rintro e w5 ⟨xc, rfl, htl, hb5⟩; have HTl : Hid (TL w5 xc R0) := htl; obtain ⟨adW, cpW, rfl, -⟩ := htl; have q5 : Hid _ := below_keep hb5 (alloc_keep q4.out _); have r5 : Hid _ := below_keep hb5 (alloc_keep r4.out _); have s5 : Hid _ := below_keep hb5 (blk_new w4 _); have B5 := below_join (below_more B4 _) hb5; clear a0 a1 a2; obtain ⟨a0, a1, a2, -⟩ := blk3 q5.out; have l5 := lt_of_block q5.out; have l5s := lt_of_block s5.out; go_wp2_with fail; have nb := blk_sec w5 (.cells #[.int .i64 0, .int .i64 0] 29 (0, 0)) (.cells #[.int .i64 k, .string n, .slice sl ks.length cap] 24 (0, 0)); refine (H2.out _ _ (FL.alone nb (HRep.out.up (below_more (below_more B5 _) _)))).mono ?_; rintro e w6 ⟨rfl, hb6⟩; have q6 : Hid _ := below_keep hb6 (alloc_keep (alloc_keep q5.out _) _); have r6 : Hid _ := below_keep hb6 (alloc_keep (alloc_keep r5.out _) _); have s6 : Hid _ := below_keep hb6 (alloc_keep (alloc_keep s5.out _) _); have t6 : Hid _ := below_keep hb6 (alloc_keep (blk_new w5 _) _); have l6 := lt_of_block t6.out; have B6 := below_join (below_more (below_more B5 _) _) hb6; clear a0 a1 a2 nb
  have VS0 : VS w (.cells #[.int .i64 k, .string n, .slice sl ks.length cap] 24 (0, 0)) w3.heap.size w4.heap.size w5.heap.size w6.heap.size (w6.heap.size + 1) (vc1, vc2) (0, 0) (0, 0) (0, 0) (.slice adC C.length cpC) (.slice adW R0.length cpW) C R0 ((w6.alloc (.cells #[.int .i64 0, .int .i64 0] 29 (0, 0))).alloc (.cells #[.int .i64 0, .int .i64 0] 29 (0, 0))) :=
    ⟨below_more (below_more B6 _) _, alloc_keep (alloc_keep q6.out _) _, alloc_keep (alloc_keep r6.out _) _, alloc_keep (alloc_keep s6.out _) _, alloc_keep (alloc_keep t6.out _) _, alloc_keep (blk_new w6 _) _, blk_sec w6 _ _, ((((HBl.out.up ((Below.refl _ w4).alloc (Nat.le_refl _) _)).up hb5).up (below_more (below_more (Below.refl _ w5) _) _)).up hb6).up (below_more (below_more (Below.refl _ w6) _) _), ((HTl.out.up (below_more (below_more (Below.refl _ w5) _) _)).up hb6).up (below_more (below_more (Below.refl _ w6) _) _)⟩
  have HVS0 : Hid (VS _ _ _ _ _ _ _ _ _ _ _ _ _ _ _ _) := VS0; clear VS0 q1 q2 q3 q4 q5 q6 r4 r5 r6 s5 s6 t6 B1 B2 B3 B4 B5 B6 HBl HTl hb1 hb2 hb3 hb4 hb5 hb6 HB H1 H2 HV HRo HVd; by_cases h1000 : 1000 < l.length
  · have h1000I : (1000 : Int) < (l.length : Int) := by omega
    (obtain ⟨rfl, rfl⟩ : vc1 = 2 ∧ vc2 = 0 := by have := HVC2.out h1000; simpa using this); go_wp2_with fail; generalize (w6.alloc (.cells #[.int .i64 0, .int .i64 0] 29 (0, 0))).alloc (.cells #[.int .i64 0, .int .i64 0] 29 (0, 0)) = W at *; refine (mkF_any 2 0 _).mono ?_; rintro e w8 ⟨rfl, hb8⟩; have V8 : Hid (VS _ _ _ _ _ _ _ _ _ _ _ _ _ _ _ _) := HVS0.out.up hb8; have j13 := blk2 (show w8.heap[w6.heap.size + 1]? = some (.cells #[.int .i64 0, .int .i64 0] 29 (0, 0)) from V8.out.w13); obtain ⟨k1, k2, k3, k4⟩ := j13; (have V9 : VS w _ _ _ _ _ _ _ _ _ _ _ _ _ _ ((w8.setCell ⟨w6.heap.size + 1, 0, none⟩ (.int .i64 2)).setCell ⟨w6.heap.size + 1, 1, none⟩ (.int .i64 0)) := V8.out.set13 (by omega) (by omega) (by omega) (by omega) (by omega) (2, 0)); go_wp2_with fail; generalize World.setCell _ _ _ = X at V9 ⊢; have V9' : Hid (VS _ _ _ _ _ _ _ _ _ _ _ _ _ _ _ _) := V9; clear k1 k2 k3 k4 V9; have x6 := blk2 (show X.heap[w3.heap.size]? = some (.cells #[.int .i64 2, .int .i64 0] 29 (0, 0)) from V9'.out.e1); have x13 := blk2 (show X.heap[w6.heap.size + 1]? = some (.cells #[.int .i64 2, .int .i64 0] 29 (0, 0)) from V9'.out.w13); have x12 := blk2 (show X.heap[w6.heap.size]? = some (.cells #[.int .i64 0, .int .i64 0] 29 (0, 0)) from V9'.out.w12); have xbx := blk3 (show X.heap[w.heap.size]? = some (.cells #[.int .i64 k, .string n, .slice sl ks.length cap] 24 (0, 0)) from V9'.out.box); obtain ⟨x60, x61, -⟩ := x6; obtain ⟨x130, x131, x132, x133⟩ := x13; obtain ⟨x120, x121, -⟩ := x12; obtain ⟨xb0, xb1, xb2, -⟩ := xbx
    go_loopg [14] 1 (fun g c wr => g = 1 ∧ c = .int .i64 0 ∧ wr = X)
    case atStart => exact ⟨rfl, rfl, rfl⟩
    case round =>
      obtain ⟨hg, rfl, hw⟩ := hrel; have hw' := hw.symm; subst hw'; clear hg; (have h0I : (0 : Int) < (l.length : Int) := by omega); go_wp2_with fail; refine (HNi.out _ _ (FL.alone (blk_new X _) ((HRep.out.up V9'.out.below).more _))).mono ?_; rintro e w10 ⟨xn, rfl, htn, hb10⟩; have HTn : Hid (TL w10 xn U) := htn; obtain ⟨adN, cpN, rfl, -⟩ := htn; have V10 : Hid (VS _ _ _ _ _ _ _ _ _ _ _ _ _ _ _ _) := (V9'.out.up ((Below.refl _ X).alloc (Nat.le_refl _) _)).up hb10; (have h6I : ¬ (6 : Int) < (U.length : Int) := by omega); (have hUI : (U.length : Int) ≤ 6 := by omega); clear x60 x61 x130 x131 x132 x133 x120 x121 xb0 xb1 xb2; have y12 := blk2 (show w10.heap[w6.heap.size]? = some (.cells #[.int .i64 0, .int .i64 0] 29 (0, 0)) from V10.out.w12); have y8 := blk2 (show w10.heap[w4.heap.size]? = some (.cells #[.int .i64 0, .int .i64 0] 29 (0, 0)) from V10.out.e2); have y11 := blk2 (show w10.heap[w5.heap.size]? = some (.cells #[.int .i64 0, .int .i64 0] 29 (0, 0)) from V10.out.e3); obtain ⟨y120, y121, -⟩ := y12; obtain ⟨y80, y81, -⟩ := y8; obtain ⟨y110, y111, -⟩ := y11; go_wp2_with fail; clear y120 y121 y80 y81 y110 y111
      go_loopg [18, 16, 17] (2 ^ U.length) (fun g c o x wr => ∃ r ad cy, r ≤ 2 ^ U.length ∧ g = 2 ^ U.length - r ∧ c = .int .i64 (r : Nat) ∧ o = .slice ad (C.take r).length cy ∧ x = .int .i64 (fIdx (C.take r) false) ∧ Below w10.heap.size w10 wr ∧ Hid (KB w10.heap.size wr ad cy (C.take r)))
      case atStart => exact ⟨0, none, 0, Nat.zero_le _, rfl, rfl, rfl, rfl, Below.refl _ _, KB.nil⟩
      case round =>
        obtain ⟨r, ad, cy, hrle, hg, rfl, rfl, rfl, hbr, HK⟩ := hrel; have HG : Hid (gk = 2 ^ U.length - r ∧ r ≤ 2 ^ U.length) := ⟨hg, hrle⟩; clear hg hrle; have HV : Hid (VS _ _ _ _ _ _ _ _ _ _ _ _ _ _ _ _) := V10.out.up hbr; by_cases hlt : r < 2 ^ U.length
        · have hltI : (r : Int) < wrap64 ((2 : Int) ^ U.length) := by rw [HSh.out]; exact Int.ofNat_lt.2 hlt
          have q1 : wr.heap[w.heap.size]? = some (.cells #[.int .i64 k, .string n, .slice sl ks.length cap] 24 (0, 0)) := HV.out.box; obtain ⟨a0, a1, a2, -⟩ := blk3 q1; (have HRr : Hid (Rep wr (fun _ => True) (.mk k n ks) (.agg #[.int .i64 k, .string n, .slice sl ks.length cap])) := HRep.out.up HV.out.below); have HSr : Hid (SL wr (.slice adN U.length cpN) U) := (HTn.out.up hbr).sl; have HCr := HCG.out.1 r hlt; (have hT : C.take (r + 1) = C.take r ++ [tv (fun t => decide (t ∈ rowN r U 0)) (.mk k n ks)] := by rw [List.take_add_one, HCr]; rfl); (have HTq : Hid (∀ v u w, Rep w (fun _ => True) (.mk k n ks) v → SL w u (rowN r U 0) → Calls Try.prog 38 #[v, u] w _) := HTR.out r); (have hr64 : r ≤ 64 := by have := HCG.out.2.2.2; omega); (have hRl : (C.take r).length = r := by rw [List.length_take, HCG.out.2.1]; exact Nat.min_eq_left (Nat.le_of_lt hlt)); (have HT : Hid (C.take (r + 1) = C.take r ++ [tv (fun t => decide (t ∈ rowN r U 0)) (.mk k n ks)]) := hT); clear hT HCr; (generalize tv (fun t => decide (t ∈ rowN r U 0)) (.mk k n ks) = y at HT HTq); (have HFx : Hid (fIdx (C.take r ++ [y]) false = if fIdx (C.take r) false < 0 ∧ y = false then ((C.take r).length : Int) else fIdx (C.take r) false) := fIdx_snoc _ _); generalize fIdx (C.take r) false = fi at *; have HRL : Hid ((C.take r).length = r) := hRl; (have hRl2 : (C.take r).length ≤ 64 := by omega); clear hRl; generalize C.take r = R at *; obtain ⟨i0, hi, hz0, hz1, hz2⟩ := infoBool; go_wp2_with fail; clear hltI
          go_region_held3 (fun w' => w'.cell? ⟨w.heap.size, 0, none⟩ = some (.int .i64 k) ∧ w'.cell? ⟨w.heap.size, 1, none⟩ = some (.string n) ∧ w'.cell? ⟨w.heap.size, 2, none⟩ = some (.slice sl ks.length cap)) (go_keep)
            (first
             | (go_at_call 39
                (refine (HRw.out r (by omega) _ _ (HSr.out.up (Below.refl _ wr).drew)).mono ?_); rintro e w11 ⟨x, rfl, ht11, hb11'⟩; have hb11 : Below wr.heap.size wr w11 := (Below.refl _ wr).drew.trans hb11'; obtain ⟨ad11, cp11, rfl, -⟩ := (id ht11); have HS11 : Hid (SL w11 _ (rowN r U 0)) := ht11.sl; have q2 := below_keep hb11 q1; obtain ⟨c0, c1, c2, -⟩ := blk3 q2
                clear ht11 hb11')
             | (go_at_call 38
                refine (HTq.out _ _ _ (HRr.out.up hb11) HS11.out).mono ?_; rintro e w12 ⟨rfl, hb12⟩; have B12 := below_join hb11 hb12; have q3 := below_keep hb12 q2; clear c0 c1 c2; obtain ⟨c0, c1, c2, -⟩ := blk3 q3
                have HK2 : Hid (KB w10.heap.size w12 ad cy R) := HK.out.up B12)
             | fail)
          all_goals
            have BX := below_join hbr B12; have zX : w10.heap.size ≤ w12.heap.size := BX.size; clear a0 a1 a2 c0 c1 c2 q1 q2 q3
            have hcs : (y = false ∧ fi < 0) ∨ y = true ∨ (y = false ∧ ¬ fi < 0) := by
              cases y
              · by_cases h : fi < 0
                · exact Or.inl ⟨rfl, h⟩
                · exact Or.inr (Or.inr ⟨rfl, h⟩)
              · exact Or.inr (Or.inl rfl)
            rcases hcs with ⟨rfl, hfi0⟩ | rfl | ⟨rfl, hfi0⟩
            · rw [if_pos ⟨hfi0, rfl⟩] at HFx
              go_wp2_with (first
                | (at_builtin
                   (refine wpList_append_lies _ rfl _ _ 58 rfl w10.heap.size 4 i0 (.bool false) 1 1 Try.underlying58 hi hz0 hz1 hz2 rfl (by decide) _ _ _ rfl (owns_up HK2.out ((Below.refl _ w12).alloc (Nat.le_refl _) (.cells #[.bool false] 4 (0, 0)))) ⟨w12.heap.size, 0, none⟩ 1 1 [.bool false] rfl rfl ?_ ?_ (by omega) (by unfold maxLen; omega) (by omega) (by simp; omega) _ rfl ?_)
                   · intro j u hu
                     rw [add_none, Nat.zero_add, blk_cell (blk_new w12 _)]; simpa using hu
                   · intro u hu
                     simp at hu
                     rcases hu with rfl; rfl
                   intro g5 cp5 w13 hown5 hgrow5 hat5 hlt5; (have BB := below_grown (show Below w10.heap.size w12 w12 from Below.refl _ _) (by omega) HK2.out hgrow5); have BF := BX.trans BB
                   have HKN : Hid (KB w10.heap.size w13 (some ⟨g5, 0, none⟩) cp5 (R ++ [false])) := by
                     show KB _ _ _ _ _; unfold KB; rw [List.map_append, List.length_append]; exact hown5
                   clear hown5 hgrow5 hat5)
                | fail)
              go_roundg (2 ^ U.length - (r + 1))
              case measure => have := HG.out; omega
              case rel => exact ⟨r + 1, some ⟨g5, 0, none⟩, cp5, hlt, rfl, by go_num, by rw [HT.out, List.length_append]; rfl, by rw [HT.out, HFx.out, HRL.out], BF, by show KB _ _ _ _ _; rw [HT.out]; exact HKN.out⟩
            · rw [if_neg (fun h => Bool.noConfusion h.2)] at HFx
              go_wp2_with (first
                | (at_builtin
                   (refine wpList_append_lies _ rfl _ _ 58 rfl w10.heap.size 4 i0 (.bool false) 1 1 Try.underlying58 hi hz0 hz1 hz2 rfl (by decide) _ _ _ rfl (owns_up HK2.out ((Below.refl _ w12).alloc (Nat.le_refl _) (.cells #[.bool true] 4 (0, 0)))) ⟨w12.heap.size, 0, none⟩ 1 1 [.bool true] rfl rfl ?_ ?_ (by omega) (by unfold maxLen; omega) (by omega) (by simp; omega) _ rfl ?_)
                   · intro j u hu
                     rw [add_none, Nat.zero_add, blk_cell (blk_new w12 _)]; simpa using hu
                   · intro u hu
                     simp at hu
                     rcases hu with rfl; rfl
                   intro g5 cp5 w13 hown5 hgrow5 hat5 hlt5; (have BB := below_grown (show Below w10.heap.size w12 w12 from Below.refl _ _) (by omega) HK2.out hgrow5); have BF := BX.trans BB
                   have HKN : Hid (KB w10.heap.size w13 (some ⟨g5, 0, none⟩) cp5 (R ++ [true])) := by
                     show KB _ _ _ _ _; unfold KB; rw [List.map_append, List.length_append]; exact hown5
                   clear hown5 hgrow5 hat5)
                | fail)
              go_roundg (2 ^ U.length - (r + 1))
              case measure => have := HG.out; omega
              case rel => exact ⟨r + 1, some ⟨g5, 0, none⟩, cp5, hlt, rfl, by go_num, by rw [HT.out, List.length_append]; rfl, by rw [HT.out, HFx.out], BF, by show KB _ _ _ _ _; rw [HT.out]; exact HKN.out⟩
            · rw [if_neg (fun h => hfi0 h.1)] at HFx
              go_wp2_with (first
                | (at_builtin
                   (refine wpList_append_lies _ rfl _ _ 58 rfl w10.heap.size 4 i0 (.bool false) 1 1 Try.underlying58 hi hz0 hz1 hz2 rfl (by decide) _ _ _ rfl (owns_up HK2.out ((Below.refl _ w12).alloc (Nat.le_refl _) (.cells #[.bool false] 4 (0, 0)))) ⟨w12.heap.size, 0, none⟩ 1 1 [.bool false] rfl rfl ?_ ?_ (by omega) (by unfold maxLen; omega) (by omega) (by simp; omega) _ rfl ?_)
                   · intro j u hu
                     rw [add_none, Nat.zero_add, blk_cell (blk_new w12 _)]; simpa using hu
                   · intro u hu
                     simp at hu
                     rcases hu with rfl; rfl
                   intro g5 cp5 w13 hown5 hgrow5 hat5 hlt5; (have BB := below_grown (show Below w10.heap.size w12 w12 from Below.refl _ _) (by omega) HK2.out hgrow5); have BF := BX.trans BB
                   have HKN : Hid (KB w10.heap.size w13 (some ⟨g5, 0, none⟩) cp5 (R ++ [false])) := by
                     show KB _ _ _ _ _; unfold KB; rw [List.map_append, List.length_append]; exact hown5
                   clear hown5 hgrow5 hat5)
                | fail)
              go_roundg (2 ^ U.length - (r + 1))
              case measure => have := HG.out; omega
              case rel => exact ⟨r + 1, some ⟨g5, 0, none⟩, cp5, hlt, rfl, by go_num, by rw [HT.out, List.length_append]; rfl, by rw [HT.out, HFx.out], BF, by show KB _ _ _ _ _; rw [HT.out]; exact HKN.out⟩
        · have hrM : r = 2 ^ U.length := by have := HG.out; omega
          (have hltI : ¬ (r : Int) < wrap64 ((2 : Int) ^ U.length) := by rw [HSh.out]; exact fun h => hlt (Int.ofNat_lt.1 h)); (have hTE : C.take r = C := List.take_of_length_le (by rw [HCG.out.2.1]; omega)); rw [hTE] at HK ⊢; have HBt : Hid (Calls Try.prog 40 _ wr _) := bits_same C _ _ wr HV.out.rows HK.out.list; clear hTE hrM; by_cases hm : false ∈ C
          · have hfi : fIdx C false = ((C.idxOf false : Nat) : Int) := by unfold fIdx; rw [if_pos hm]
            have hq : C.idxOf false < C.length := List.idxOf_lt_length_iff.2 hm; (have hq2 : C.idxOf false ≤ 100000 := by have := HCG.out.2; omega); have hR := HR0.out; rw [if_pos hm] at hR; rw [hfi]; clear hfi hq; generalize C.idxOf false = q at *; have HR : Hid (R0 = rowN q U 0) := hR; clear hR; go_wp2_with fail; refine HBt.out.mono ?_; rintro e w14 ⟨rfl, hb14⟩; have V14 : Hid (VS _ _ _ _ _ _ _ _ _ _ _ _ _ _ _ _) := HV.out.up hb14; go_wp2_with fail; refine (HRw.out q hq2 _ _ ((HTn.out.up hbr).up hb14).sl).mono ?_; rintro e w15 ⟨x, rfl, ht15, hb15⟩; have V15 : Hid (VS _ _ _ _ _ _ _ _ _ _ _ _ _ _ _ _) := V14.out.up hb15; (have HTx : Hid (Calls Try.prog 23 _ w15 _) := texts_same R0 _ _ w15 V15.out.wit (by rw [HR.out]; exact ht15)); clear ht15; go_wp2_with fail; refine HTx.out.mono ?_; rintro e w16 ⟨rfl, hb16⟩; go_wp2_with fail; go_ret; exact ⟨rfl, (V15.out.up hb16).below⟩
          · have hfi : fIdx C false = -1 := by unfold fIdx; rw [if_neg hm]
            have hR := HR0.out; rw [if_neg hm] at hR; rw [hfi]; clear hfi; (have hR2 : R0.length = 0 := by rw [hR]; rfl); clear hR; go_wp2_with fail; refine HBt.out.mono ?_; rintro e w14 ⟨rfl, hb14⟩; have V14 : Hid (VS _ _ _ _ _ _ _ _ _ _ _ _ _ _ _ _) := HV.out.up hb14; go_wp2_with fail; go_ret; exact ⟨rfl, V14.out.below⟩
  · have h1000I : ¬ (1000 : Int) < (l.length : Int) := by omega
    (have hl1000 : l.length ≤ 1000 := by omega); have HVC' : Hid (((vc1, vc2) : Int × Int) = badTo l l.length) := HVC.out hl1000; go_wp2_with fail; generalize (w6.alloc (.cells #[.int .i64 0, .int .i64 0] 29 (0, 0))).alloc (.cells #[.int .i64 0, .int .i64 0] 29 (0, 0)) = W at *
    go_loopg [14] l.length (fun g c wr => ∃ i, i ≤ l.length ∧ g = l.length - i ∧ c = .int .i64 (i : Nat) ∧ Hid (VS w (.cells #[.int .i64 k, .string n, .slice sl ks.length cap] 24 (0, 0)) w3.heap.size w4.heap.size w5.heap.size w6.heap.size (w6.heap.size + 1) (vc1, vc2) (0, 0) (0, 0) (badTo l i) (.slice adC C.length cpC) (.slice adW R0.length cpW) C R0 wr))
    case atStart => exact ⟨0, by omega, by omega, rfl, HVS0.out⟩
    case round =>
      obtain ⟨i, hi, hg, rfl, HV1⟩ := hrel; have HG : Hid (gk = l.length - i) := hg; clear hg HVS0; by_cases hlt : i < l.length
      · have hltI : (i : Int) < (l.length : Int) := by omega
        rcases hb : (l.take i).any (fun t => !isNm t) with _ | _
        · have hb0 : badTo l i = (0, 0) := by unfold badTo; rw [hb]; rfl
          obtain ⟨t, ht⟩ : ∃ x, l[i]? = some x := ⟨_, List.getElem?_eq_getElem hlt⟩; have hnx := badTo_next ht hb; rw [hb0] at HV1; (obtain ⟨g, off, rfl, hcs⟩ := HL3.out (fun e => by rw [e] at hlt; simp at hlt)); have g0 := (HV1.out.below.cell (p := ⟨g, off + i, none⟩) (lt_of_cell (hcs i t ht))).trans (hcs i t ht); (have hlc : (i : Int) < (cpU : Int) := by omega); have htm := HMx.out t (List.mem_of_getElem? ht); (have hrn := fun w => refName_any ⟨t.toArray⟩ (by simpa [ByteArray.size] using htm) w); (have hrn' : ∀ w, Calls Try.prog 27 #[.string ⟨t.toArray⟩] w fun e w' => e = .returned (.bool (isNm t)) ∧ w' = w := hrn); have z13 := blk2 (show wr.heap[w6.heap.size + 1]? = some (.cells #[.int .i64 0, .int .i64 0] 29 (0, 0)) from HV1.out.w13); obtain ⟨z0, z1, z2, z3⟩ := z13; have HRn : Hid (∀ w, Calls Try.prog 27 #[.string ⟨t.toArray⟩] w _) := hrn'; generalize (⟨t.toArray⟩ : ByteArray) = T at *; clear hcs ht hrn hrn' htm hb hb0 HL3
          rcases hn : isNm t with _ | _
          · rw [hn] at hnx HRn
            have HNx : Hid (badTo l (i + 1) = (8, ((i : Nat) : Int))) := hnx; clear hnx hn; go_wp2_with fail; refine (HRn.out _).mono ?_; rintro e w8 ⟨rfl, hw8⟩; have hw9 := hw8.symm; subst hw9; go_wp2_with fail; refine (mkF_any 8 (i : Nat) _).mono ?_; rintro e w9 ⟨rfl, hb9⟩; have V9 : Hid (VS _ _ _ _ _ _ _ _ _ _ _ _ _ _ _ _) := HV1.out.up hb9; clear z0 z1 z2 z3; have z13 := blk2 (show w9.heap[w6.heap.size + 1]? = some (.cells #[.int .i64 0, .int .i64 0] 29 (0, 0)) from V9.out.w13); obtain ⟨z0, z1, z2, z3⟩ := z13; (have V10 : VS w _ _ _ _ _ _ _ _ _ _ _ _ _ _ ((w9.setCell ⟨w6.heap.size + 1, 0, none⟩ (.int .i64 8)).setCell ⟨w6.heap.size + 1, 1, none⟩ (.int .i64 (i : Nat))) := V9.out.set13 (by omega) (by omega) (by omega) (by omega) (by omega) (8, ((i : Nat) : Int))); go_wp2_with fail
            go_roundg (l.length - (i + 1))
            case measure => have := HG.out; omega
            case rel => exact ⟨i + 1, by omega, rfl, by go_num, by show VS _ _ _ _ _ _ _ _ _ _ _ _ _ _ _ _; rw [HNx.out]; exact V10⟩
          · rw [hn] at hnx HRn
            have HNx : Hid (badTo l (i + 1) = (0, 0)) := hnx; clear hnx hn; go_wp2_with fail; refine (HRn.out _).mono ?_; rintro e w8 ⟨rfl, hw8⟩; have hw9 := hw8.symm; subst hw9; go_wp2_with fail
            go_roundg (l.length - (i + 1))
            case measure => have := HG.out; omega
            case rel => exact ⟨i + 1, by omega, rfl, by go_num, by show VS _ _ _ _ _ _ _ _ _ _ _ _ _ _ _ _; rw [HNx.out]; exact HV1.out⟩
        · have hst := badTo_stay hb hi
          (have hb8 : ∃ j : Int, badTo l i = (8, j) := ⟨_, by unfold badTo; rw [hb]; rfl⟩); obtain ⟨j, hj⟩ := hb8; have hvj := HVC'.out; rw [hst, hj] at hvj; (obtain ⟨rfl, rfl⟩ : vc1 = 8 ∧ vc2 = j := by simpa using hvj); rw [hj] at HV1; clear hst hj hvj hb HVC HVC2 HVC'; have x6 := blk2 (show wr.heap[w3.heap.size]? = some (.cells #[.int .i64 8, .int .i64 vc2] 29 (0, 0)) from HV1.out.e1); have x13 := blk2 (show wr.heap[w6.heap.size + 1]? = some (.cells #[.int .i64 8, .int .i64 vc2] 29 (0, 0)) from HV1.out.w13); have x12 := blk2 (show wr.heap[w6.heap.size]? = some (.cells #[.int .i64 0, .int .i64 0] 29 (0, 0)) from HV1.out.w12); have xbx := blk3 (show wr.heap[w.heap.size]? = some (.cells #[.int .i64 k, .string n, .slice sl ks.length cap] 24 (0, 0)) from HV1.out.box); obtain ⟨x60, x61, -⟩ := x6; obtain ⟨x130, x131, x132, x133⟩ := x13; obtain ⟨x120, x121, -⟩ := x12; obtain ⟨xb0, xb1, xb2, -⟩ := xbx; go_wp2_with fail; refine (HNi.out _ _ (FL.alone (blk_new wr _) ((HRep.out.up HV1.out.below).more _))).mono ?_; rintro e w10 ⟨xn, rfl, htn, hb10⟩; have HTn : Hid (TL w10 xn U) := htn; obtain ⟨adN, cpN, rfl, -⟩ := htn; have V10 : Hid (VS _ _ _ _ _ _ _ _ _ _ _ _ _ _ _ _) := (HV1.out.up ((Below.refl _ wr).alloc (Nat.le_refl _) _)).up hb10; (have h6I : ¬ (6 : Int) < (U.length : Int) := by omega); (have hUI : (U.length : Int) ≤ 6 := by omega); clear x60 x61 x130 x131 x132 x133 x120 x121 xb0 xb1 xb2; have y12 := blk2 (show w10.heap[w6.heap.size]? = some (.cells #[.int .i64 0, .int .i64 0] 29 (0, 0)) from V10.out.w12); have y8 := blk2 (show w10.heap[w4.heap.size]? = some (.cells #[.int .i64 0, .int .i64 0] 29 (0, 0)) from V10.out.e2); have y11 := blk2 (show w10.heap[w5.heap.size]? = some (.cells #[.int .i64 0, .int .i64 0] 29 (0, 0)) from V10.out.e3); obtain ⟨y120, y121, -⟩ := y12; obtain ⟨y80, y81, -⟩ := y8; obtain ⟨y110, y111, -⟩ := y11; go_wp2_with fail; clear y120 y121 y80 y81 y110 y111
          go_loopg [18, 16, 17] (2 ^ U.length) (fun g c o x wr => ∃ r ad cy, r ≤ 2 ^ U.length ∧ g = 2 ^ U.length - r ∧ c = .int .i64 (r : Nat) ∧ o = .slice ad (C.take r).length cy ∧ x = .int .i64 (fIdx (C.take r) false) ∧ Below w10.heap.size w10 wr ∧ Hid (KB w10.heap.size wr ad cy (C.take r)))
          case atStart => exact ⟨0, none, 0, Nat.zero_le _, rfl, rfl, rfl, rfl, Below.refl _ _, KB.nil⟩
          case round =>
            obtain ⟨r, ad, cy, hrle, hg, rfl, rfl, rfl, hbr, HK⟩ := hrel; have HG : Hid (gk = 2 ^ U.length - r ∧ r ≤ 2 ^ U.length) := ⟨hg, hrle⟩; clear hg hrle; have HV : Hid (VS _ _ _ _ _ _ _ _ _ _ _ _ _ _ _ _) := V10.out.up hbr; by_cases hlt : r < 2 ^ U.length
            · have hltI : (r : Int) < wrap64 ((2 : Int) ^ U.length) := by rw [HSh.out]; exact Int.ofNat_lt.2 hlt
              have q1 : wr.heap[w.heap.size]? = some (.cells #[.int .i64 k, .string n, .slice sl ks.length cap] 24 (0, 0)) := HV.out.box; obtain ⟨a0, a1, a2, -⟩ := blk3 q1; (have HRr : Hid (Rep wr (fun _ => True) (.mk k n ks) (.agg #[.int .i64 k, .string n, .slice sl ks.length cap])) := HRep.out.up HV.out.below); have HSr : Hid (SL wr (.slice adN U.length cpN) U) := (HTn.out.up hbr).sl; have HCr := HCG.out.1 r hlt; (have hT : C.take (r + 1) = C.take r ++ [tv (fun t => decide (t ∈ rowN r U 0)) (.mk k n ks)] := by rw [List.take_add_one, HCr]; rfl); (have HTq : Hid (∀ v u w, Rep w (fun _ => True) (.mk k n ks) v → SL w u (rowN r U 0) → Calls Try.prog 38 #[v, u] w _) := HTR.out r); (have hr64 : r ≤ 64 := by have := HCG.out.2.2.2; omega); (have hRl : (C.take r).length = r := by rw [List.length_take, HCG.out.2.1]; exact Nat.min_eq_left (Nat.le_of_lt hlt)); (have HT : Hid (C.take (r + 1) = C.take r ++ [tv (fun t => decide (t ∈ rowN r U 0)) (.mk k n ks)]) := hT); clear hT HCr; (generalize tv (fun t => decide (t ∈ rowN r U 0)) (.mk k n ks) = y at HT HTq); (have HFx : Hid (fIdx (C.take r ++ [y]) false = if fIdx (C.take r) false < 0 ∧ y = false then ((C.take r).length : Int) else fIdx (C.take r) false) := fIdx_snoc _ _); generalize fIdx (C.take r) false = fi at *; have HRL : Hid ((C.take r).length = r) := hRl; (have hRl2 : (C.take r).length ≤ 64 := by omega); clear hRl; generalize C.take r = R at *; obtain ⟨i0, hi, hz0, hz1, hz2⟩ := infoBool; go_wp2_with fail; clear hltI
              go_region_held3 (fun w' => w'.cell? ⟨w.heap.size, 0, none⟩ = some (.int .i64 k) ∧ w'.cell? ⟨w.heap.size, 1, none⟩ = some (.string n) ∧ w'.cell? ⟨w.heap.size, 2, none⟩ = some (.slice sl ks.length cap)) (go_keep)
                (first
                 | (go_at_call 39
                    (refine (HRw.out r (by omega) _ _ (HSr.out.up (Below.refl _ wr).drew)).mono ?_); rintro e w11 ⟨x, rfl, ht11, hb11'⟩; have hb11 : Below wr.heap.size wr w11 := (Below.refl _ wr).drew.trans hb11'; obtain ⟨ad11, cp11, rfl, -⟩ := (id ht11); have HS11 : Hid (SL w11 _ (rowN r U 0)) := ht11.sl; have q2 := below_keep hb11 q1; obtain ⟨c0, c1, c2, -⟩ := blk3 q2
                    clear ht11 hb11')
                 | (go_at_call 38
                    refine (HTq.out _ _ _ (HRr.out.up hb11) HS11.out).mono ?_; rintro e w12 ⟨rfl, hb12⟩; have B12 := below_join hb11 hb12; have q3 := below_keep hb12 q2; clear c0 c1 c2; obtain ⟨c0, c1, c2, -⟩ := blk3 q3
                    have HK2 : Hid (KB w10.heap.size w12 ad cy R) := HK.out.up B12)
                 | fail)
              all_goals
                have BX := below_join hbr B12; have zX : w10.heap.size ≤ w12.heap.size := BX.size; clear a0 a1 a2 c0 c1 c2 q1 q2 q3
                have hcs : (y = false ∧ fi < 0) ∨ y = true ∨ (y = false ∧ ¬ fi < 0) := by
                  cases y
                  · by_cases h : fi < 0
                    · exact Or.inl ⟨rfl, h⟩
                    · exact Or.inr (Or.inr ⟨rfl, h⟩)
                  · exact Or.inr (Or.inl rfl)
                rcases hcs with ⟨rfl, hfi0⟩ | rfl | ⟨rfl, hfi0⟩
                · rw [if_pos ⟨hfi0, rfl⟩] at HFx
                  go_wp2_with (first
                    | (at_builtin
                       (refine wpList_append_lies _ rfl _ _ 58 rfl w10.heap.size 4 i0 (.bool false) 1 1 Try.underlying58 hi hz0 hz1 hz2 rfl (by decide) _ _ _ rfl (owns_up HK2.out ((Below.refl _ w12).alloc (Nat.le_refl _) (.cells #[.bool false] 4 (0, 0)))) ⟨w12.heap.size, 0, none⟩ 1 1 [.bool false] rfl rfl ?_ ?_ (by omega) (by unfold maxLen; omega) (by omega) (by simp; omega) _ rfl ?_)
                       · intro j u hu
                         rw [add_none, Nat.zero_add, blk_cell (blk_new w12 _)]; simpa using hu
                       · intro u hu
                         simp at hu
                         rcases hu with rfl; rfl
                       intro g5 cp5 w13 hown5 hgrow5 hat5 hlt5; (have BB := below_grown (show Below w10.heap.size w12 w12 from Below.refl _ _) (by omega) HK2.out hgrow5); have BF := BX.trans BB
                       have HKN : Hid (KB w10.heap.size w13 (some ⟨g5, 0, none⟩) cp5 (R ++ [false])) := by
                         show KB _ _ _ _ _; unfold KB; rw [List.map_append, List.length_append]; exact hown5
                       clear hown5 hgrow5 hat5)
                    | fail)
                  go_roundg (2 ^ U.length - (r + 1))
                  case measure => have := HG.out; omega
                  case rel => exact ⟨r + 1, some ⟨g5, 0, none⟩, cp5, hlt, rfl, by go_num, by rw [HT.out, List.length_append]; rfl, by rw [HT.out, HFx.out, HRL.out], BF, by show KB _ _ _ _ _; rw [HT.out]; exact HKN.out⟩
                · rw [if_neg (fun h => Bool.noConfusion h.2)] at HFx
                  go_wp2_with (first
                    | (at_builtin
                       (refine wpList_append_lies _ rfl _ _ 58 rfl w10.heap.size 4 i0 (.bool false) 1 1 Try.underlying58 hi hz0 hz1 hz2 rfl (by decide) _ _ _ rfl (owns_up HK2.out ((Below.refl _ w12).alloc (Nat.le_refl _) (.cells #[.bool true] 4 (0, 0)))) ⟨w12.heap.size, 0, none⟩ 1 1 [.bool true] rfl rfl ?_ ?_ (by omega) (by unfold maxLen; omega) (by omega) (by simp; omega) _ rfl ?_)
                       · intro j u hu
                         rw [add_none, Nat.zero_add, blk_cell (blk_new w12 _)]; simpa using hu
                       · intro u hu
                         simp at hu
                         rcases hu with rfl; rfl
                       intro g5 cp5 w13 hown5 hgrow5 hat5 hlt5; (have BB := below_grown (show Below w10.heap.size w12 w12 from Below.refl _ _) (by omega) HK2.out hgrow5); have BF := BX.trans BB
                       have HKN : Hid (KB w10.heap.size w13 (some ⟨g5, 0, none⟩) cp5 (R ++ [true])) := by
                         show KB _ _ _ _ _; unfold KB; rw [List.map_append, List.length_append]; exact hown5
                       clear hown5 hgrow5 hat5)
                    | fail)
                  go_roundg (2 ^ U.length - (r + 1))
                  case measure => have := HG.out; omega
                  case rel => exact ⟨r + 1, some ⟨g5, 0, none⟩, cp5, hlt, rfl, by go_num, by rw [HT.out, List.length_append]; rfl, by rw [HT.out, HFx.out], BF, by show KB _ _ _ _ _; rw [HT.out]; exact HKN.out⟩
                · rw [if_neg (fun h => hfi0 h.1)] at HFx
                  go_wp2_with (first
                    | (at_builtin
                       (refine wpList_append_lies _ rfl _ _ 58 rfl w10.heap.size 4 i0 (.bool false) 1 1 Try.underlying58 hi hz0 hz1 hz2 rfl (by decide) _ _ _ rfl (owns_up HK2.out ((Below.refl _ w12).alloc (Nat.le_refl _) (.cells #[.bool false] 4 (0, 0)))) ⟨w12.heap.size, 0, none⟩ 1 1 [.bool false] rfl rfl ?_ ?_ (by omega) (by unfold maxLen; omega) (by omega) (by simp; omega) _ rfl ?_)
                       · intro j u hu
                         rw [add_none, Nat.zero_add, blk_cell (blk_new w12 _)]; simpa using hu
                       · intro u hu
                         simp at hu
                         rcases hu with rfl; rfl
                       intro g5 cp5 w13 hown5 hgrow5 hat5 hlt5; (have BB := below_grown (show Below w10.heap.size w12 w12 from Below.refl _ _) (by omega) HK2.out hgrow5); have BF := BX.trans BB
                       have HKN : Hid (KB w10.heap.size w13 (some ⟨g5, 0, none⟩) cp5 (R ++ [false])) := by
                         show KB _ _ _ _ _; unfold KB; rw [List.map_append, List.length_append]; exact hown5
                       clear hown5 hgrow5 hat5)
                    | fail)
                  go_roundg (2 ^ U.length - (r + 1))
                  case measure => have := HG.out; omega
                  case rel => exact ⟨r + 1, some ⟨g5, 0, none⟩, cp5, hlt, rfl, by go_num, by rw [HT.out, List.length_append]; rfl, by rw [HT.out, HFx.out], BF, by show KB _ _ _ _ _; rw [HT.out]; exact HKN.out⟩
            · have hrM : r = 2 ^ U.length := by have := HG.out; omega
              (have hltI : ¬ (r : Int) < wrap64 ((2 : Int) ^ U.length) := by rw [HSh.out]; exact fun h => hlt (Int.ofNat_lt.1 h)); (have hTE : C.take r = C := List.take_of_length_le (by rw [HCG.out.2.1]; omega)); rw [hTE] at HK ⊢; have HBt : Hid (Calls Try.prog 40 _ wr _) := bits_same C _ _ wr HV.out.rows HK.out.list; clear hTE hrM; by_cases hm : false ∈ C
              · have hfi : fIdx C false = ((C.idxOf false : Nat) : Int) := by unfold fIdx; rw [if_pos hm]
                have hq : C.idxOf false < C.length := List.idxOf_lt_length_iff.2 hm; (have hq2 : C.idxOf false ≤ 100000 := by have := HCG.out.2; omega); have hR := HR0.out; rw [if_pos hm] at hR; rw [hfi]; clear hfi hq; generalize C.idxOf false = q at *; have HR : Hid (R0 = rowN q U 0) := hR; clear hR; go_wp2_with fail; refine HBt.out.mono ?_; rintro e w14 ⟨rfl, hb14⟩; have V14 : Hid (VS _ _ _ _ _ _ _ _ _ _ _ _ _ _ _ _) := HV.out.up hb14; go_wp2_with fail; refine (HRw.out q hq2 _ _ ((HTn.out.up hbr).up hb14).sl).mono ?_; rintro e w15 ⟨x, rfl, ht15, hb15⟩; have V15 : Hid (VS _ _ _ _ _ _ _ _ _ _ _ _ _ _ _ _) := V14.out.up hb15; (have HTx : Hid (Calls Try.prog 23 _ w15 _) := texts_same R0 _ _ w15 V15.out.wit (by rw [HR.out]; exact ht15)); clear ht15; go_wp2_with fail; refine HTx.out.mono ?_; rintro e w16 ⟨rfl, hb16⟩; go_wp2_with fail; go_ret; exact ⟨rfl, (V15.out.up hb16).below⟩
              · have hfi : fIdx C false = -1 := by unfold fIdx; rw [if_neg hm]
                have hR := HR0.out; rw [if_neg hm] at hR; rw [hfi]; clear hfi; (have hR2 : R0.length = 0 := by rw [hR]; rfl); clear hR; go_wp2_with fail; refine HBt.out.mono ?_; rintro e w14 ⟨rfl, hb14⟩; have V14 : Hid (VS _ _ _ _ _ _ _ _ _ _ _ _ _ _ _ _) := HV.out.up hb14; go_wp2_with fail; go_ret; exact ⟨rfl, V14.out.below⟩
      · have hge : decide ((i : Int) < (l.length : Int)) = false := decide_eq_false (by omega)
        (have hge2 : ¬ (i : Int) < (l.length : Int) := by omega); (have hil : i = l.length := by omega); have hvj := HVC'.out; rw [← hil] at hvj; rw [← hvj] at HV1
        have hcs : (vc1 = 0 ∧ vc2 = 0) ∨ vc1 = 8 := by
          have h8 := hvj; unfold badTo at h8
          split at h8
          · exact Or.inr (Prod.mk.inj h8).1
          · exact Or.inl ⟨(Prod.mk.inj h8).1, (Prod.mk.inj h8).2⟩
        clear hvj HVC HVC2 HVC' hil hlt
        rcases hcs with ⟨rfl, rfl⟩ | rfl
        · have x6 := blk2 (show wr.heap[w3.heap.size]? = some (.cells #[.int .i64 0, .int .i64 0] 29 (0, 0)) from HV1.out.e1)
          have x13 := blk2 (show wr.heap[w6.heap.size + 1]? = some (.cells #[.int .i64 0, .int .i64 0] 29 (0, 0)) from HV1.out.w13); have x12 := blk2 (show wr.heap[w6.heap.size]? = some (.cells #[.int .i64 0, .int .i64 0] 29 (0, 0)) from HV1.out.w12); have xbx := blk3 (show wr.heap[w.heap.size]? = some (.cells #[.int .i64 k, .string n, .slice sl ks.length cap] 24 (0, 0)) from HV1.out.box); obtain ⟨x60, x61, -⟩ := x6; obtain ⟨x130, x131, x132, x133⟩ := x13; obtain ⟨x120, x121, -⟩ := x12; obtain ⟨xb0, xb1, xb2, -⟩ := xbx; go_wp2_with fail; refine (HTr.out _ _ _ (HRep.out.up HV1.out.below) (HU.out.up HV1.out.below)).mono ?_; rintro e w9 ⟨rfl, hb9⟩; have V9 : Hid (VS _ _ _ _ _ _ _ _ _ _ _ _ _ _ _ _) := HV1.out.up hb9; clear x60 x61 x130 x131 x132 x133 x120 x121 xb0 xb1 xb2; have x6 := blk2 (show w9.heap[w3.heap.size]? = some (.cells #[.int .i64 0, .int .i64 0] 29 (0, 0)) from V9.out.e1); have x13 := blk2 (show w9.heap[w6.heap.size + 1]? = some (.cells #[.int .i64 0, .int .i64 0] 29 (0, 0)) from V9.out.w13); have x12 := blk2 (show w9.heap[w6.heap.size]? = some (.cells #[.int .i64 0, .int .i64 0] 29 (0, 0)) from V9.out.w12); have xbx := blk3 (show w9.heap[w.heap.size]? = some (.cells #[.int .i64 k, .string n, .slice sl ks.length cap] 24 (0, 0)) from V9.out.box); obtain ⟨x60, x61, -⟩ := x6; obtain ⟨x130, x131, x132, x133⟩ := x13; obtain ⟨x120, x121, -⟩ := x12; obtain ⟨xb0, xb1, xb2, -⟩ := xbx; go_wp2_with fail; refine (HNi.out _ _ (FL.alone (blk_new w9 _) ((HRep.out.up V9.out.below).more _))).mono ?_; rintro e w10 ⟨xn, rfl, htn, hb10⟩; have HTn : Hid (TL w10 xn U) := htn; obtain ⟨adN, cpN, rfl, -⟩ := htn; have V10 : Hid (VS _ _ _ _ _ _ _ _ _ _ _ _ _ _ _ _) := (V9.out.up ((Below.refl _ w9).alloc (Nat.le_refl _) _)).up hb10; (have h6I : ¬ (6 : Int) < (U.length : Int) := by omega); (have hUI : (U.length : Int) ≤ 6 := by omega); clear x60 x61 x130 x131 x132 x133 x120 x121 xb0 xb1 xb2; have y12 := blk2 (show w10.heap[w6.heap.size]? = some (.cells #[.int .i64 0, .int .i64 0] 29 (0, 0)) from V10.out.w12); have y8 := blk2 (show w10.heap[w4.heap.size]? = some (.cells #[.int .i64 0, .int .i64 0] 29 (0, 0)) from V10.out.e2); have y11 := blk2 (show w10.heap[w5.heap.size]? = some (.cells #[.int .i64 0, .int .i64 0] 29 (0, 0)) from V10.out.e3); obtain ⟨y120, y121, -⟩ := y12; obtain ⟨y80, y81, -⟩ := y8; obtain ⟨y110, y111, -⟩ := y11; go_wp2_with fail; clear y120 y121 y80 y81 y110 y111
          go_loopg [18, 16, 17] (2 ^ U.length) (fun g c o x wr => ∃ r ad cy, r ≤ 2 ^ U.length ∧ g = 2 ^ U.length - r ∧ c = .int .i64 (r : Nat) ∧ o = .slice ad (C.take r).length cy ∧ x = .int .i64 (fIdx (C.take r) false) ∧ Below w10.heap.size w10 wr ∧ Hid (KB w10.heap.size wr ad cy (C.take r)))
          case atStart => exact ⟨0, none, 0, Nat.zero_le _, rfl, rfl, rfl, rfl, Below.refl _ _, KB.nil⟩
          case round =>
            obtain ⟨r, ad, cy, hrle, hg, rfl, rfl, rfl, hbr, HK⟩ := hrel; have HG : Hid (gk = 2 ^ U.length - r ∧ r ≤ 2 ^ U.length) := ⟨hg, hrle⟩; clear hg hrle; have HV : Hid (VS _ _ _ _ _ _ _ _ _ _ _ _ _ _ _ _) := V10.out.up hbr; by_cases hlt : r < 2 ^ U.length
            · have hltI : (r : Int) < wrap64 ((2 : Int) ^ U.length) := by rw [HSh.out]; exact Int.ofNat_lt.2 hlt
              have q1 : wr.heap[w.heap.size]? = some (.cells #[.int .i64 k, .string n, .slice sl ks.length cap] 24 (0, 0)) := HV.out.box; obtain ⟨a0, a1, a2, -⟩ := blk3 q1; (have HRr : Hid (Rep wr (fun _ => True) (.mk k n ks) (.agg #[.int .i64 k, .string n, .slice sl ks.length cap])) := HRep.out.up HV.out.below); have HSr : Hid (SL wr (.slice adN U.length cpN) U) := (HTn.out.up hbr).sl; have HCr := HCG.out.1 r hlt; (have hT : C.take (r + 1) = C.take r ++ [tv (fun t => decide (t ∈ rowN r U 0)) (.mk k n ks)] := by rw [List.take_add_one, HCr]; rfl); (have HTq : Hid (∀ v u w, Rep w (fun _ => True) (.mk k n ks) v → SL w u (rowN r U 0) → Calls Try.prog 38 #[v, u] w _) := HTR.out r); (have hr64 : r ≤ 64 := by have := HCG.out.2.2.2; omega); (have hRl : (C.take r).length = r := by rw [List.length_take, HCG.out.2.1]; exact Nat.min_eq_left (Nat.le_of_lt hlt)); (have HT : Hid (C.take (r + 1) = C.take r ++ [tv (fun t => decide (t ∈ rowN r U 0)) (.mk k n ks)]) := hT); clear hT HCr; (generalize tv (fun t => decide (t ∈ rowN r U 0)) (.mk k n ks) = y at HT HTq); (have HFx : Hid (fIdx (C.take r ++ [y]) false = if fIdx (C.take r) false < 0 ∧ y = false then ((C.take r).length : Int) else fIdx (C.take r) false) := fIdx_snoc _ _); generalize fIdx (C.take r) false = fi at *; have HRL : Hid ((C.take r).length = r) := hRl; (have hRl2 : (C.take r).length ≤ 64 := by omega); clear hRl; generalize C.take r = R at *; obtain ⟨i0, hi, hz0, hz1, hz2⟩ := infoBool; go_wp2_with fail; clear hltI
              go_region_held3 (fun w' => w'.cell? ⟨w.heap.size, 0, none⟩ = some (.int .i64 k) ∧ w'.cell? ⟨w.heap.size, 1, none⟩ = some (.string n) ∧ w'.cell? ⟨w.heap.size, 2, none⟩ = some (.slice sl ks.length cap)) (go_keep)
                (first
                 | (go_at_call 39
                    (refine (HRw.out r (by omega) _ _ (HSr.out.up (Below.refl _ wr).drew)).mono ?_); rintro e w11 ⟨x, rfl, ht11, hb11'⟩; have hb11 : Below wr.heap.size wr w11 := (Below.refl _ wr).drew.trans hb11'; obtain ⟨ad11, cp11, rfl, -⟩ := (id ht11); have HS11 : Hid (SL w11 _ (rowN r U 0)) := ht11.sl; have q2 := below_keep hb11 q1; obtain ⟨c0, c1, c2, -⟩ := blk3 q2
                    clear ht11 hb11')
                 | (go_at_call 38
                    refine (HTq.out _ _ _ (HRr.out.up hb11) HS11.out).mono ?_; rintro e w12 ⟨rfl, hb12⟩; have B12 := below_join hb11 hb12; have q3 := below_keep hb12 q2; clear c0 c1 c2; obtain ⟨c0, c1, c2, -⟩ := blk3 q3
                    have HK2 : Hid (KB w10.heap.size w12 ad cy R) := HK.out.up B12)
                 | fail)
              all_goals
                have BX := below_join hbr B12; have zX : w10.heap.size ≤ w12.heap.size := BX.size; clear a0 a1 a2 c0 c1 c2 q1 q2 q3
                have hcs : (y = false ∧ fi < 0) ∨ y = true ∨ (y = false ∧ ¬ fi < 0) := by
                  cases y
                  · by_cases h : fi < 0
                    · exact Or.inl ⟨rfl, h⟩
                    · exact Or.inr (Or.inr ⟨rfl, h⟩)
                  · exact Or.inr (Or.inl rfl)
                rcases hcs with ⟨rfl, hfi0⟩ | rfl | ⟨rfl, hfi0⟩
                · rw [if_pos ⟨hfi0, rfl⟩] at HFx
                  go_wp2_with (first
                    | (at_builtin
                       (refine wpList_append_lies _ rfl _ _ 58 rfl w10.heap.size 4 i0 (.bool false) 1 1 Try.underlying58 hi hz0 hz1 hz2 rfl (by decide) _ _ _ rfl (owns_up HK2.out ((Below.refl _ w12).alloc (Nat.le_refl _) (.cells #[.bool false] 4 (0, 0)))) ⟨w12.heap.size, 0, none⟩ 1 1 [.bool false] rfl rfl ?_ ?_ (by omega) (by unfold maxLen; omega) (by omega) (by simp; omega) _ rfl ?_)
                       · intro j u hu
                         rw [add_none, Nat.zero_add, blk_cell (blk_new w12 _)]; simpa using hu
                       · intro u hu
                         simp at hu
                         rcases hu with rfl; rfl
                       intro g5 cp5 w13 hown5 hgrow5 hat5 hlt5; (have BB := below_grown (show Below w10.heap.size w12 w12 from Below.refl _ _) (by omega) HK2.out hgrow5); have BF := BX.trans BB
                       have HKN : Hid (KB w10.heap.size w13 (some ⟨g5, 0, none⟩) cp5 (R ++ [false])) := by
                         show KB _ _ _ _ _; unfold KB; rw [List.map_append, List.length_append]; exact hown5
                       clear hown5 hgrow5 hat5)
                    | fail)
                  go_roundg (2 ^ U.length - (r + 1))
                  case measure => have := HG.out; omega
                  case rel => exact ⟨r + 1, some ⟨g5, 0, none⟩, cp5, hlt, rfl, by go_num, by rw [HT.out, List.length_append]; rfl, by rw [HT.out, HFx.out, HRL.out], BF, by show KB _ _ _ _ _; rw [HT.out]; exact HKN.out⟩
                · rw [if_neg (fun h => Bool.noConfusion h.2)] at HFx
                  go_wp2_with (first
                    | (at_builtin
                       (refine wpList_append_lies _ rfl _ _ 58 rfl w10.heap.size 4 i0 (.bool false) 1 1 Try.underlying58 hi hz0 hz1 hz2 rfl (by decide) _ _ _ rfl (owns_up HK2.out ((Below.refl _ w12).alloc (Nat.le_refl _) (.cells #[.bool true] 4 (0, 0)))) ⟨w12.heap.size, 0, none⟩ 1 1 [.bool true] rfl rfl ?_ ?_ (by omega) (by unfold maxLen; omega) (by omega) (by simp; omega) _ rfl ?_)
                       · intro j u hu
                         rw [add_none, Nat.zero_add, blk_cell (blk_new w12 _)]; simpa using hu
                       · intro u hu
                         simp at hu
                         rcases hu with rfl; rfl
                       intro g5 cp5 w13 hown5 hgrow5 hat5 hlt5; (have BB := below_grown (show Below w10.heap.size w12 w12 from Below.refl _ _) (by omega) HK2.out hgrow5); have BF := BX.trans BB
                       have HKN : Hid (KB w10.heap.size w13 (some ⟨g5, 0, none⟩) cp5 (R ++ [true])) := by
                         show KB _ _ _ _ _; unfold KB; rw [List.map_append, List.length_append]; exact hown5
                       clear hown5 hgrow5 hat5)
                    | fail)
                  go_roundg (2 ^ U.length - (r + 1))
                  case measure => have := HG.out; omega
                  case rel => exact ⟨r + 1, some ⟨g5, 0, none⟩, cp5, hlt, rfl, by go_num, by rw [HT.out, List.length_append]; rfl, by rw [HT.out, HFx.out], BF, by show KB _ _ _ _ _; rw [HT.out]; exact HKN.out⟩
                · rw [if_neg (fun h => hfi0 h.1)] at HFx
                  go_wp2_with (first
                    | (at_builtin
                       (refine wpList_append_lies _ rfl _ _ 58 rfl w10.heap.size 4 i0 (.bool false) 1 1 Try.underlying58 hi hz0 hz1 hz2 rfl (by decide) _ _ _ rfl (owns_up HK2.out ((Below.refl _ w12).alloc (Nat.le_refl _) (.cells #[.bool false] 4 (0, 0)))) ⟨w12.heap.size, 0, none⟩ 1 1 [.bool false] rfl rfl ?_ ?_ (by omega) (by unfold maxLen; omega) (by omega) (by simp; omega) _ rfl ?_)
                       · intro j u hu
                         rw [add_none, Nat.zero_add, blk_cell (blk_new w12 _)]; simpa using hu
                       · intro u hu
                         simp at hu
                         rcases hu with rfl; rfl
                       intro g5 cp5 w13 hown5 hgrow5 hat5 hlt5; (have BB := below_grown (show Below w10.heap.size w12 w12 from Below.refl _ _) (by omega) HK2.out hgrow5); have BF := BX.trans BB
                       have HKN : Hid (KB w10.heap.size w13 (some ⟨g5, 0, none⟩) cp5 (R ++ [false])) := by
                         show KB _ _ _ _ _; unfold KB; rw [List.map_append, List.length_append]; exact hown5
                       clear hown5 hgrow5 hat5)
                    | fail)
                  go_roundg (2 ^ U.length - (r + 1))
                  case measure => have := HG.out; omega
                  case rel => exact ⟨r + 1, some ⟨g5, 0, none⟩, cp5, hlt, rfl, by go_num, by rw [HT.out, List.length_append]; rfl, by rw [HT.out, HFx.out], BF, by show KB _ _ _ _ _; rw [HT.out]; exact HKN.out⟩
            · have hrM : r = 2 ^ U.length := by have := HG.out; omega
              (have hltI : ¬ (r : Int) < wrap64 ((2 : Int) ^ U.length) := by rw [HSh.out]; exact fun h => hlt (Int.ofNat_lt.1 h)); (have hTE : C.take r = C := List.take_of_length_le (by rw [HCG.out.2.1]; omega)); rw [hTE] at HK ⊢; have HBt : Hid (Calls Try.prog 40 _ wr _) := bits_same C _ _ wr HV.out.rows HK.out.list; clear hTE hrM; by_cases hm : false ∈ C
              · have hfi : fIdx C false = ((C.idxOf false : Nat) : Int) := by unfold fIdx; rw [if_pos hm]
                have hq : C.idxOf false < C.length := List.idxOf_lt_length_iff.2 hm; (have hq2 : C.idxOf false ≤ 100000 := by have := HCG.out.2; omega); have hR := HR0.out; rw [if_pos hm] at hR; rw [hfi]; clear hfi hq; generalize C.idxOf false = q at *; have HR : Hid (R0 = rowN q U 0) := hR; clear hR; go_wp2_with fail; refine HBt.out.mono ?_; rintro e w14 ⟨rfl, hb14⟩; have V14 : Hid (VS _ _ _ _ _ _ _ _ _ _ _ _ _ _ _ _) := HV.out.up hb14; go_wp2_with fail; refine (HRw.out q hq2 _ _ ((HTn.out.up hbr).up hb14).sl).mono ?_; rintro e w15 ⟨x, rfl, ht15, hb15⟩; have V15 : Hid (VS _ _ _ _ _ _ _ _ _ _ _ _ _ _ _ _) := V14.out.up hb15; (have HTx : Hid (Calls Try.prog 23 _ w15 _) := texts_same R0 _ _ w15 V15.out.wit (by rw [HR.out]; exact ht15)); clear ht15; go_wp2_with fail; refine HTx.out.mono ?_; rintro e w16 ⟨rfl, hb16⟩; go_wp2_with fail; go_ret; exact ⟨rfl, (V15.out.up hb16).below⟩
              · have hfi : fIdx C false = -1 := by unfold fIdx; rw [if_neg hm]
                have hR := HR0.out; rw [if_neg hm] at hR; rw [hfi]; clear hfi; (have hR2 : R0.length = 0 := by rw [hR]; rfl); clear hR; go_wp2_with fail; refine HBt.out.mono ?_; rintro e w14 ⟨rfl, hb14⟩; have V14 : Hid (VS _ _ _ _ _ _ _ _ _ _ _ _ _ _ _ _) := HV.out.up hb14; go_wp2_with fail; go_ret; exact ⟨rfl, V14.out.below⟩
        · have x6 := blk2 (show wr.heap[w3.heap.size]? = some (.cells #[.int .i64 8, .int .i64 vc2] 29 (0, 0)) from HV1.out.e1)
          have x13 := blk2 (show wr.heap[w6.heap.size + 1]? = some (.cells #[.int .i64 8, .int .i64 vc2] 29 (0, 0)) from HV1.out.w13); have x12 := blk2 (show wr.heap[w6.heap.size]? = some (.cells #[.int .i64 0, .int .i64 0] 29 (0, 0)) from HV1.out.w12); have xbx := blk3 (show wr.heap[w.heap.size]? = some (.cells #[.int .i64 k, .string n, .slice sl ks.length cap] 24 (0, 0)) from HV1.out.box); obtain ⟨x60, x61, -⟩ := x6; obtain ⟨x130, x131, x132, x133⟩ := x13; obtain ⟨x120, x121, -⟩ := x12; obtain ⟨xb0, xb1, xb2, -⟩ := xbx; go_wp2_with fail; refine (HNi.out _ _ (FL.alone (blk_new wr _) ((HRep.out.up HV1.out.below).more _))).mono ?_; rintro e w10 ⟨xn, rfl, htn, hb10⟩; have HTn : Hid (TL w10 xn U) := htn; obtain ⟨adN, cpN, rfl, -⟩ := htn; have V10 : Hid (VS _ _ _ _ _ _ _ _ _ _ _ _ _ _ _ _) := (HV1.out.up ((Below.refl _ wr).alloc (Nat.le_refl _) _)).up hb10; (have h6I : ¬ (6 : Int) < (U.length : Int) := by omega); (have hUI : (U.length : Int) ≤ 6 := by omega); clear x60 x61 x130 x131 x132 x133 x120 x121 xb0 xb1 xb2; have y12 := blk2 (show w10.heap[w6.heap.size]? = some (.cells #[.int .i64 0, .int .i64 0] 29 (0, 0)) from V10.out.w12); have y8 := blk2 (show w10.heap[w4.heap.size]? = some (.cells #[.int .i64 0, .int .i64 0] 29 (0, 0)) from V10.out.e2); have y11 := blk2 (show w10.heap[w5.heap.size]? = some (.cells #[.int .i64 0, .int .i64 0] 29 (0, 0)) from V10.out.e3); obtain ⟨y120, y121, -⟩ := y12; obtain ⟨y80, y81, -⟩ := y8; obtain ⟨y110, y111, -⟩ := y11; go_wp2_with fail; clear y120 y121 y80 y81 y110 y111
          go_loopg [18, 16, 17] (2 ^ U.length) (fun g c o x wr => ∃ r ad cy, r ≤ 2 ^ U.length ∧ g = 2 ^ U.length - r ∧ c = .int .i64 (r : Nat) ∧ o = .slice ad (C.take r).length cy ∧ x = .int .i64 (fIdx (C.take r) false) ∧ Below w10.heap.size w10 wr ∧ Hid (KB w10.heap.size wr ad cy (C.take r)))
          case atStart => exact ⟨0, none, 0, Nat.zero_le _, rfl, rfl, rfl, rfl, Below.refl _ _, KB.nil⟩
          case round =>
            obtain ⟨r, ad, cy, hrle, hg, rfl, rfl, rfl, hbr, HK⟩ := hrel; have HG : Hid (gk = 2 ^ U.length - r ∧ r ≤ 2 ^ U.length) := ⟨hg, hrle⟩; clear hg hrle; have HV : Hid (VS _ _ _ _ _ _ _ _ _ _ _ _ _ _ _ _) := V10.out.up hbr; by_cases hlt : r < 2 ^ U.length
            · have hltI : (r : Int) < wrap64 ((2 : Int) ^ U.length) := by rw [HSh.out]; exact Int.ofNat_lt.2 hlt
              have q1 : wr.heap[w.heap.size]? = some (.cells #[.int .i64 k, .string n, .slice sl ks.length cap] 24 (0, 0)) := HV.out.box; obtain ⟨a0, a1, a2, -⟩ := blk3 q1; (have HRr : Hid (Rep wr (fun _ => True) (.mk k n ks) (.agg #[.int .i64 k, .string n, .slice sl ks.length cap])) := HRep.out.up HV.out.below); have HSr : Hid (SL wr (.slice adN U.length cpN) U) := (HTn.out.up hbr).sl; have HCr := HCG.out.1 r hlt; (have hT : C.take (r + 1) = C.take r ++ [tv (fun t => decide (t ∈ rowN r U 0)) (.mk k n ks)] := by rw [List.take_add_one, HCr]; rfl); (have HTq : Hid (∀ v u w, Rep w (fun _ => True) (.mk k n ks) v → SL w u (rowN r U 0) → Calls Try.prog 38 #[v, u] w _) := HTR.out r); (have hr64 : r ≤ 64 := by have := HCG.out.2.2.2; omega); (have hRl : (C.take r).length = r := by rw [List.length_take, HCG.out.2.1]; exact Nat.min_eq_left (Nat.le_of_lt hlt)); (have HT : Hid (C.take (r + 1) = C.take r ++ [tv (fun t => decide (t ∈ rowN r U 0)) (.mk k n ks)]) := hT); clear hT HCr; (generalize tv (fun t => decide (t ∈ rowN r U 0)) (.mk k n ks) = y at HT HTq); (have HFx : Hid (fIdx (C.take r ++ [y]) false = if fIdx (C.take r) false < 0 ∧ y = false then ((C.take r).length : Int) else fIdx (C.take r) false) := fIdx_snoc _ _); generalize fIdx (C.take r) false = fi at *; have HRL : Hid ((C.take r).length = r) := hRl; (have hRl2 : (C.take r).length ≤ 64 := by omega); clear hRl; generalize C.take r = R at *; obtain ⟨i0, hi, hz0, hz1, hz2⟩ := infoBool; go_wp2_with fail; clear hltI
              go_region_held3 (fun w' => w'.cell? ⟨w.heap.size, 0, none⟩ = some (.int .i64 k) ∧ w'.cell? ⟨w.heap.size, 1, none⟩ = some (.string n) ∧ w'.cell? ⟨w.heap.size, 2, none⟩ = some (.slice sl ks.length cap)) (go_keep)
                (first
                 | (go_at_call 39
                    (refine (HRw.out r (by omega) _ _ (HSr.out.up (Below.refl _ wr).drew)).mono ?_); rintro e w11 ⟨x, rfl, ht11, hb11'⟩; have hb11 : Below wr.heap.size wr w11 := (Below.refl _ wr).drew.trans hb11'; obtain ⟨ad11, cp11, rfl, -⟩ := (id ht11); have HS11 : Hid (SL w11 _ (rowN r U 0)) := ht11.sl; have q2 := below_keep hb11 q1; obtain ⟨c0, c1, c2, -⟩ := blk3 q2
                    clear ht11 hb11')
                 | (go_at_call 38
                    refine (HTq.out _ _ _ (HRr.out.up hb11) HS11.out).mono ?_; rintro e w12 ⟨rfl, hb12⟩; have B12 := below_join hb11 hb12; have q3 := below_keep hb12 q2; clear c0 c1 c2; obtain ⟨c0, c1, c2, -⟩ := blk3 q3
                    have HK2 : Hid (KB w10.heap.size w12 ad cy R) := HK.out.up B12)
                 | fail)
              all_goals
                have BX := below_join hbr B12; have zX : w10.heap.size ≤ w12.heap.size := BX.size; clear a0 a1 a2 c0 c1 c2 q1 q2 q3
                have hcs : (y = false ∧ fi < 0) ∨ y = true ∨ (y = false ∧ ¬ fi < 0) := by
                  cases y
                  · by_cases h : fi < 0
                    · exact Or.inl ⟨rfl, h⟩
                    · exact Or.inr (Or.inr ⟨rfl, h⟩)
                  · exact Or.inr (Or.inl rfl)
                rcases hcs with ⟨rfl, hfi0⟩ | rfl | ⟨rfl, hfi0⟩
                · rw [if_pos ⟨hfi0, rfl⟩] at HFx
                  go_wp2_with (first
                    | (at_builtin
                       (refine wpList_append_lies _ rfl _ _ 58 rfl w10.heap.size 4 i0 (.bool false) 1 1 Try.underlying58 hi hz0 hz1 hz2 rfl (by decide) _ _ _ rfl (owns_up HK2.out ((Below.refl _ w12).alloc (Nat.le_refl _) (.cells #[.bool false] 4 (0, 0)))) ⟨w12.heap.size, 0, none⟩ 1 1 [.bool false] rfl rfl ?_ ?_ (by omega) (by unfold maxLen; omega) (by omega) (by simp; omega) _ rfl ?_)
                       · intro j u hu
                         rw [add_none, Nat.zero_add, blk_cell (blk_new w12 _)]; simpa using hu
                       · intro u hu
                         simp at hu
                         rcases hu with rfl; rfl
                       intro g5 cp5 w13 hown5 hgrow5 hat5 hlt5; (have BB := below_grown (show Below w10.heap.size w12 w12 from Below.refl _ _) (by omega) HK2.out hgrow5); have BF := BX.trans BB
                       have HKN : Hid (KB w10.heap.size w13 (some ⟨g5, 0, none⟩) cp5 (R ++ [false])) := by
                         show KB _ _ _ _ _; unfold KB; rw [List.map_append, List.length_append]; exact hown5
                       clear hown5 hgrow5 hat5)
                    | fail)
                  go_roundg (2 ^ U.length - (r + 1))
                  case measure => have := HG.out; omega
                  case rel => exact ⟨r + 1, some ⟨g5, 0, none⟩, cp5, hlt, rfl, by go_num, by rw [HT.out, List.length_append]; rfl, by rw [HT.out, HFx.out, HRL.out], BF, by show KB _ _ _ _ _; rw [HT.out]; exact HKN.out⟩
                · rw [if_neg (fun h => Bool.noConfusion h.2)] at HFx
                  go_wp2_with (first
                    | (at_builtin
                       (refine wpList_append_lies _ rfl _ _ 58 rfl w10.heap.size 4 i0 (.bool false) 1 1 Try.underlying58 hi hz0 hz1 hz2 rfl (by decide) _ _ _ rfl (owns_up HK2.out ((Below.refl _ w12).alloc (Nat.le_refl _) (.cells #[.bool true] 4 (0, 0)))) ⟨w12.heap.size, 0, none⟩ 1 1 [.bool true] rfl rfl ?_ ?_ (by omega) (by unfold maxLen; omega) (by omega) (by simp; omega) _ rfl ?_)
                       · intro j u hu
                         rw [add_none, Nat.zero_add, blk_cell (blk_new w12 _)]; simpa using hu
                       · intro u hu
                         simp at hu
                         rcases hu with rfl; rfl
                       intro g5 cp5 w13 hown5 hgrow5 hat5 hlt5; (have BB := below_grown (show Below w10.heap.size w12 w12 from Below.refl _ _) (by omega) HK2.out hgrow5); have BF := BX.trans BB
                       have HKN : Hid (KB w10.heap.size w13 (some ⟨g5, 0, none⟩) cp5 (R ++ [true])) := by
                         show KB _ _ _ _ _; unfold KB; rw [List.map_append, List.length_append]; exact hown5
                       clear hown5 hgrow5 hat5)
                    | fail)
                  go_roundg (2 ^ U.length - (r + 1))
                  case measure => have := HG.out; omega
                  case rel => exact ⟨r + 1, some ⟨g5, 0, none⟩, cp5, hlt, rfl, by go_num, by rw [HT.out, List.length_append]; rfl, by rw [HT.out, HFx.out], BF, by show KB _ _ _ _ _; rw [HT.out]; exact HKN.out⟩
                · rw [if_neg (fun h => hfi0 h.1)] at HFx
                  go_wp2_with (first
                    | (at_builtin
                       (refine wpList_append_lies _ rfl _ _ 58 rfl w10.heap.size 4 i0 (.bool false) 1 1 Try.underlying58 hi hz0 hz1 hz2 rfl (by decide) _ _ _ rfl (owns_up HK2.out ((Below.refl _ w12).alloc (Nat.le_refl _) (.cells #[.bool false] 4 (0, 0)))) ⟨w12.heap.size, 0, none⟩ 1 1 [.bool false] rfl rfl ?_ ?_ (by omega) (by unfold maxLen; omega) (by omega) (by simp; omega) _ rfl ?_)
                       · intro j u hu
                         rw [add_none, Nat.zero_add, blk_cell (blk_new w12 _)]; simpa using hu
                       · intro u hu
                         simp at hu
                         rcases hu with rfl; rfl
                       intro g5 cp5 w13 hown5 hgrow5 hat5 hlt5; (have BB := below_grown (show Below w10.heap.size w12 w12 from Below.refl _ _) (by omega) HK2.out hgrow5); have BF := BX.trans BB
                       have HKN : Hid (KB w10.heap.size w13 (some ⟨g5, 0, none⟩) cp5 (R ++ [false])) := by
                         show KB _ _ _ _ _; unfold KB; rw [List.map_append, List.length_append]; exact hown5
                       clear hown5 hgrow5 hat5)
                    | fail)
                  go_roundg (2 ^ U.length - (r + 1))
                  case measure => have := HG.out; omega
                  case rel => exact ⟨r + 1, some ⟨g5, 0, none⟩, cp5, hlt, rfl, by go_num, by rw [HT.out, List.length_append]; rfl, by rw [HT.out, HFx.out], BF, by show KB _ _ _ _ _; rw [HT.out]; exact HKN.out⟩
            · have hrM : r = 2 ^ U.length := by have := HG.out; omega
              (have hltI : ¬ (r : Int) < wrap64 ((2 : Int) ^ U.length) := by rw [HSh.out]; exact fun h => hlt (Int.ofNat_lt.1 h)); (have hTE : C.take r = C := List.take_of_length_le (by rw [HCG.out.2.1]; omega)); rw [hTE] at HK ⊢; have HBt : Hid (Calls Try.prog 40 _ wr _) := bits_same C _ _ wr HV.out.rows HK.out.list; clear hTE hrM; by_cases hm : false ∈ C
              · have hfi : fIdx C false = ((C.idxOf false : Nat) : Int) := by unfold fIdx; rw [if_pos hm]
                have hq : C.idxOf false < C.length := List.idxOf_lt_length_iff.2 hm; (have hq2 : C.idxOf false ≤ 100000 := by have := HCG.out.2; omega); have hR := HR0.out; rw [if_pos hm] at hR; rw [hfi]; clear hfi hq; generalize C.idxOf false = q at *; have HR : Hid (R0 = rowN q U 0) := hR; clear hR; go_wp2_with fail; refine HBt.out.mono ?_; rintro e w14 ⟨rfl, hb14⟩; have V14 : Hid (VS _ _ _ _ _ _ _ _ _ _ _ _ _ _ _ _) := HV.out.up hb14; go_wp2_with fail; refine (HRw.out q hq2 _ _ ((HTn.out.up hbr).up hb14).sl).mono ?_; rintro e w15 ⟨x, rfl, ht15, hb15⟩; have V15 : Hid (VS _ _ _ _ _ _ _ _ _ _ _ _ _ _ _ _) := V14.out.up hb15; (have HTx : Hid (Calls Try.prog 23 _ w15 _) := texts_same R0 _ _ w15 V15.out.wit (by rw [HR.out]; exact ht15)); clear ht15; go_wp2_with fail; refine HTx.out.mono ?_; rintro e w16 ⟨rfl, hb16⟩; go_wp2_with fail; go_ret; exact ⟨rfl, (V15.out.up hb16).below⟩
              · have hfi : fIdx C false = -1 := by unfold fIdx; rw [if_neg hm]
                have hR := HR0.out; rw [if_neg hm] at hR; rw [hfi]; clear hfi; (have hR2 : R0.length = 0 := by rw [hR]; rfl); clear hR; go_wp2_with fail; refine HBt.out.mono ?_; rintro e w14 ⟨rfl, hb14⟩; have V14 : Hid (VS _ _ _ _ _ _ _ _ _ _ _ _ _ _ _ _) := HV.out.up hb14; go_wp2_with fail; go_ret; exact ⟨rfl, V14.out.below⟩
end Go.Proofs.Ytlmjnglcdgkomaa
