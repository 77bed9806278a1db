/- Texts of one proof, one behind the other: YC2, YC3. -/
import Derived.Test.YtpmogojpdigbmabGreatB38
import Derived.Test.YtpmogojpdigbmabGreatB21
/- Walks: the yardstick's ProofFault, and what the checker says. -/
namespace Go.Proofs.YtpmogojpdigbmabGreat
open Go.RowKit

mutual
theorem look_scan (i : Bool) : ∀ (p : Pf) (d s c : Nat) (M : List (Pf × Nat)), scan i (p.nodesD d ++ M) s = if (look i p d s c).1.1 ≠ 0 then (look i p d s c).1 else scan i M (look i p d s c).2.1
  | .mk a f l r ks, d, s, c, M => by
    rw [Pf.nodesD, List.cons_append, scan, look_def]; by_cases h1 : s = 20000 ∨ 400 < d
    · rw [if_pos h1, if_pos h1]
      rfl
    · rw [if_neg h1, if_neg h1]
      by_cases h2 : stepC i (.mk a f l r ks) ≠ 0
      · rw [if_pos h2, if_pos h2, if_pos h2]
      · rw [if_neg h2, if_neg h2]
        exact looks_scan i ks (d + 1) (s + 1) _ M
theorem looks_scan (i : Bool) : ∀ (ks : List Pf) (d s c : Nat) (M : List (Pf × Nat)), scan i (Pf.nodesDL ks d ++ M) s = if (looks i ks d s c).1.1 ≠ 0 then (looks i ks d s c).1 else scan i M (looks i ks d s c).2.1
  | [], d, s, c, M => by
    rw [Pf.nodesDL, looks, List.nil_append]
    rfl
  | k :: ks, d, s, c, M => by
    rw [Pf.nodesDL, List.append_assoc, look_scan i k d s c, looks]; by_cases h : (look i k d s c).1.1 ≠ 0
    · rw [if_pos h, if_pos h, if_pos h]
    · rw [if_neg h, if_neg h]
      exact looks_scan i ks d _ _ M
end
/-- What the yardstick says, is what the checker says. -/
theorem scan_look (i : Bool) (p : Pf) : scan i (p.stepsL 1 20001) 0 = ((look i p 1 0 0).1.1, if (look i p 1 0 0).1.1 ≠ 0 then (look i p 1 0 0).1.2 else 0) := by
  (rw [scan_agree (steps_agree p 1 20001) (by omega) (by omega)]); have h := look_scan i p 1 0 0 []; rw [List.append_nil] at h; rw [h]
  split
  · rfl
  · rename_i hn
    (have : (look i p 1 0 0).1.1 = 0 := Classical.byContradiction fun e => hn e); rw [this, scan]
mutual
theorem stepsL_small : ∀ (p : Pf) (d m : Nat), SmallP p → ∀ x ∈ p.stepsL d m, SmallP x.1
  | .mk a f l r ks, d, m, h, x, hx => by
    rw [Pf.stepsL] at hx
    rcases List.mem_cons.1 hx with rfl | hx
    · exact h
    · exact stepsLs_small ks d m 1 h.parts.2.2.2 x hx
theorem stepsLs_small : ∀ (ks : List Pf) (d m n : Nat), (∀ k ∈ ks, SmallP k) → ∀ x ∈ Pf.stepsLs ks d m n, SmallP x.1
  | [], d, m, n, _, x, hx => by rw [Pf.stepsLs] at hx; cases hx
  | k :: ks, d, m, n, h, x, hx => by
    rw [Pf.stepsLs] at hx
    split at hx
    · rcases List.mem_append.1 hx with hx | hx
      · exact stepsL_small k _ _ (h k List.mem_cons_self) x hx
      · exact stepsLs_small ks _ _ _ (fun y hy => h y (List.mem_cons_of_mem _ hy)) x hx
    · cases hx
end
mutual
theorem stepsL_deep : ∀ (p : Pf) (d m : Nat), d ≤ 402 → ∀ x ∈ p.stepsL d m, x.2 ≤ 403
  | .mk a f l r ks, d, m, h, x, hx => by
    rw [Pf.stepsL] at hx
    rcases List.mem_cons.1 hx with rfl | hx
    · show d ≤ 403; omega
    · exact stepsLs_deep ks d m 1 x hx
theorem stepsLs_deep : ∀ (ks : List Pf) (d m n : Nat), ∀ x ∈ Pf.stepsLs ks d m n, x.2 ≤ 403
  | [], d, m, n, x, hx => by rw [Pf.stepsLs] at hx; cases hx
  | k :: ks, d, m, n, x, hx => by
    rw [Pf.stepsLs] at hx
    split at hx
    · rename_i h
      rcases List.mem_append.1 hx with hx | hx
      · exact stepsL_deep k _ _ (by omega) x hx
      · exact stepsLs_deep ks _ _ _ x hx
    · cases hx
end
theorem scan_drop {i : Bool} {L : List (Pf × Nat)} {j : Nat} {x : Pf × Nat} (h : L[j]? = some x) : scan i (L.drop j) j = if j = 20000 ∨ 400 < x.2 then (2, 0) else if stepC i x.1 ≠ 0 then (stepC i x.1, ((j : Nat) : Int)) else scan i (L.drop (j + 1)) (j + 1) := by
  have hi := (List.getElem?_eq_some_iff.1 h).1; rw [List.drop_eq_getElem_cons hi, scan]; rw [List.getElem?_eq_getElem hi] at h; rw [Option.some.inj h]

set_option maxRecDepth 10000 in
set_option maxHeartbeats 8000000 in
theorem proofFault_any (i : Bool) (p : Pf) (hsm : SmallP p) (v : Value) (w : World) (hv : PRep w p v) :
    Calls Tryz.prog 9 #[v, .bool i] w fun e w' => e = .returned (.agg #[.int .i64 (scan i (p.stepsL 1 20001) 0).1, .int .i64 (scan i (p.stepsL 1 20001) 0).2]) ∧ Below w.heap.size w w' := by
  have HV : Hid (PRep w p v) := hv; (have hst := fun wx (hb : Below w.heap.size w wx) => stepsq_all wx.heap.size (p.size + 1) p v wx 1 20001 (Nat.lt_succ_self _) hsm (by omega) (by omega) (Nat.le_refl _) (PRep.low _ _ (PRep.up hb _ _ hv))); have HSM : Hid (∀ x ∈ p.stepsL 1 20001, SmallP x.1) := stepsL_small p 1 20001 hsm; (have HDP : Hid (∀ x ∈ p.stepsL 1 20001, x.2 ≤ 403) := stepsL_deep p 1 20001 (by omega)); have hlen := (stepsL_len p 1 20001).1; generalize p.stepsL 1 20001 = L at *; obtain ⟨T, hT⟩ : ∃ T, T = scan i L 0 := ⟨_, rfl⟩; rw [← hT]; have HT0 : Hid (T = scan i (L.drop 0) 0) := hT; obtain ⟨a, ⟨k, n, kf⟩, l, r, ks⟩ := p; obtain ⟨sf, cf, al, cl, ar, cr, sl, cap, rfl, -⟩ := hv.parts; (have HST : Hid (∀ wx, Below w.heap.size w wx → Calls Tryz.prog 21 _ wx fun e w' => ∃ ad cp ad' cp', e = .returned (.tuple #[.slice ad L.length cp, .slice ad' L.length cp']) ∧ KF (· < wx.heap.size) wx.heap.size w' ad cp (L.map Prod.fst) ∧ KD wx.heap.size w' ad' cp' (L.map Prod.snd) ∧ Below wx.heap.size wx w') := hst); (have hLI : (L.length : Int) ≤ 20002 := by omega); have B0 := below_more (below_more (Below.refl _ w) (.cells #[.string a, .int .i64 k, .string n, .slice sf kf.length cf, .slice al l.length cl, .slice ar r.length cr, .slice sl ks.length cap] 29 (0, 0))) (.cells #[.int .i64 0, .int .i64 0] 34 (0, 0)); have N1 : Hid (_ = _) := blk_two w (.cells #[.string a, .int .i64 k, .string n, .slice sf kf.length cf, .slice al l.length cl, .slice ar r.length cr, .slice sl ks.length cap] 29 (0, 0)) (.cells #[.int .i64 0, .int .i64 0] 34 (0, 0)); clear hv hst hT hlen hsm
  go_enter Tryz.func9, Tryz.ntmps9
  go_wp2_with fail; refine (HST.out _ B0).mono ?_; rintro e w1 ⟨ad, cp, ad', cp', rfl, hkf, hkd, hb1⟩; have B1 := below_join B0 hb1; have Q1 : Hid (w1.heap[w.heap.size + 1]? = some (.cells #[.int .i64 0, .int .i64 0] 34 (0, 0))) := below_keep hb1 N1.out
  have hkf' : KF (fun _ => True) 0 w1 ad cp (L.map Prod.fst) := by
    obtain ⟨cs, ho, hp⟩ := hkf.low (Nat.zero_le _); (exact ⟨cs, ho, PQ.move (fun b _ h => ⟨rfl, trivial, h.2⟩) hp⟩)
  (obtain ⟨hc1, hc2, hc3⟩ := hkf'.rep fun _ _ => trivial); rw [List.length_map] at hc1; (have HC3 : Hid (L.map Prod.fst ≠ [] → ∃ b off, ad = some ⟨b, off, none⟩ ∧ True ∧ PRps (fun _ => True) w1 b off (L.map Prod.fst)) := hc3); (have hkd' : w1.ownsRow 0 3 1 (.slice ad' (L.map Prod.snd).length cp') (L.map Prod.snd).length ((L.map Prod.snd).map fun d => Value.int .i64 (d : Nat)) := hkd.low (Nat.zero_le _)); rw [List.length_map] at hkd'; (have HKD : Hid (0 < L.length → ∃ g, ad' = some ⟨g, 0, none⟩ ∧ (∀ j u, ((L.map Prod.snd).map fun d => Value.int .i64 ((d : Nat) : Int))[j]? = some u → w1.cell? ((⟨g, 0, none⟩ : Addr).add j) = some u)) := fun h => row_cells hkd' h)
  have hcD : L.length ≤ cp' := by
    rcases hkd'.2 with ⟨hv, h0⟩ | ⟨g, cap', cur, hv, -, -, h1, -⟩
    · simp only [Value.slice.injEq] at hv
      omega
    · simp only [Value.slice.injEq, true_and] at hv
      omega
  clear hkf hkf' hkd hkd' hc3 hb1 B0 HST N1; go_wp2_with fail
  go_loopg [7] L.length (fun gg c wr => ∃ j, j ≤ L.length ∧ gg = L.length - j ∧ c = .int .i64 (j : Nat) ∧ Hid (Below w1.heap.size w1 wr) ∧ Hid (T = scan i (L.drop j) j))
  case atStart => exact ⟨0, by omega, by omega, rfl, Below.refl _ _, HT0⟩
  case round =>
    obtain ⟨j, hj, hg, rfl, HBr, HT⟩ := hrel; have HG : Hid (gk = L.length - j) := hg; clear hg HT0; have BR := below_join B1 HBr.out; have QR := below_keep HBr.out Q1.out; have zr := lt_of_block QR; by_cases hlt : j < L.length
    · obtain ⟨⟨⟨ka, ⟨kk, kn, kkf⟩, kl, kr, kks⟩, dj⟩, hki⟩ : ∃ f, L[j]? = some f := ⟨_, List.getElem?_eq_getElem hlt⟩
      (have hltI : (j : Int) < (L.length : Int) := by omega); (have hlc : (j : Int) < (cp : Int) := by omega); (have hld : (j : Int) < (cp' : Int) := by omega); (obtain ⟨b, off, rfl, -, hrs⟩ := HC3.out (fun e => by rw [List.map_eq_nil_iff] at e; rw [e] at hlt; simp at hlt)); (have hrs' : PRps (fun _ => True) wr b off (L.map Prod.fst) := hrs.move trivial fun q hq hp => ⟨HBr.out.block q hq, hp⟩); (obtain ⟨sf2, cf2, al2, cl2, ar2, cr2, sl2, cap2, y0, y1, y2, y3, y4, y5, y6, hrep2⟩ := hrs'.at j ka kk kn kkf kl kr kks (by rw [List.getElem?_map, hki]; rfl)); (obtain ⟨gd, rfl, hdc⟩ := HKD.out (by omega)); (have hd1 := hdc j (.int .i64 (dj : Nat)) (by rw [List.getElem?_map, List.getElem?_map, hki]; rfl)); rw [add_none, Nat.zero_add] at hd1; have d1 := (HBr.out.cell (p := ⟨gd, j, none⟩) (lt_of_cell hd1)).trans hd1; (have hdj : (dj : Int) ≤ 403 := by have := HDP.out _ (List.mem_of_getElem? hki); have : dj ≤ 403 := this; omega); have hsc := HT.out; rw [scan_drop hki] at hsc; (have hsr := fun wx (hb : Below wr.heap.size wr wx) => stepR_any i (.mk ka (.mk kk kn kkf) kl kr kks) (HSM.out _ (List.mem_of_getElem? hki)) _ wx (PRep.up hb _ _ (PRp.rep _ _ hrep2))); generalize stepC i (.mk ka (.mk kk kn kkf) kl kr kks) = sc at *; have HSR : Hid (∀ wx, Below wr.heap.size wr wx → Calls Tryz.prog 22 _ wx _) := hsr; (have HSC : Hid (T = if j = 20000 ∨ 400 < dj then (2, 0) else if sc ≠ 0 then (sc, ((j : Nat) : Int)) else scan i (L.drop (j + 1)) (j + 1)) := hsc); (have HF2 : Hid (∀ w, Calls Tryz.prog 15 #[.int .i64 2, .int .i64 0] w _) := fun w => mkF_any 2 0 w); (have HFc : Hid (∀ w, Calls Tryz.prog 15 #[.int .i64 sc, .int .i64 (j : Nat)] w _) := fun w => mkF_any sc (j : Nat) w); have HQR : Hid (wr.heap[w.heap.size + 1]? = some _) := QR; have HBR : Hid (Below w.heap.size w wr) := BR; clear hki hrs hrs' hrep2 hsc hsr HT HC3 HKD hdc hd1 HSM HDP QR BR HV; by_cases hs : j = 20000 ∨ 400 < dj
      · have H2 : Hid (T = (2, 0)) := by
          show _ = _; rw [HSC.out, if_pos hs]
        clear HSC HSR HFc; by_cases hj2 : j = 20000
        · have hjI : (j : Int) = 20000 := by omega
          (have hjq : ((j : Int) == 20000) = true := by rw [hjI]; rfl); clear hjI hj2 hs; go_wp2_with fail; refine (HF2.out _).mono ?_; rintro e w2 ⟨rfl, hb2⟩; have q2 := below_keep hb2 HQR.out; obtain ⟨z1, z2, z3, z4⟩ := blk2 q2; clear y0 y1 y2 y3 y4 y5 y6; go_wp2_with fail; have f2 := set2 q2 (.int .i64 2) (.int .i64 0); (have b2 := ((below_join HBR.out hb2).setCell (p := ⟨w.heap.size + 1, 0, none⟩) (by simp) (.int .i64 2)).setCell (p := ⟨w.heap.size + 1, 1, none⟩) (by simp) (.int .i64 0)); generalize World.setCell _ _ _ = F at f2 b2 ⊢; clear z1 z2 z3 z4; obtain ⟨k1, k2, -⟩ := blk2 f2; (exact bodyPost_ret (v := .agg #[.int .i64 2, .int .i64 0]) (by simp [results, Tryz.results9, go_sem, k1, k2]) rfl ⟨by rw [H2.out], b2⟩)
        · have hjq : ((j : Int) == 20000) = false := by rw [beq_eq_false_iff_ne]; omega
          (have hdq : (400 : Int) < (dj : Int) := by omega); clear hj2 hs; go_wp2_with fail; refine (HF2.out _).mono ?_; rintro e w2 ⟨rfl, hb2⟩; have q2 := below_keep hb2 HQR.out; obtain ⟨z1, z2, z3, z4⟩ := blk2 q2; clear y0 y1 y2 y3 y4 y5 y6; go_wp2_with fail; have f2 := set2 q2 (.int .i64 2) (.int .i64 0); (have b2 := ((below_join HBR.out hb2).setCell (p := ⟨w.heap.size + 1, 0, none⟩) (by simp) (.int .i64 2)).setCell (p := ⟨w.heap.size + 1, 1, none⟩) (by simp) (.int .i64 0)); generalize World.setCell _ _ _ = F at f2 b2 ⊢; clear z1 z2 z3 z4; obtain ⟨k1, k2, -⟩ := blk2 f2; (exact bodyPost_ret (v := .agg #[.int .i64 2, .int .i64 0]) (by simp [results, Tryz.results9, go_sem, k1, k2]) rfl ⟨by rw [H2.out], b2⟩)
      · have hjq : ((j : Int) == 20000) = false := by rw [beq_eq_false_iff_ne]; omega
        (have hdq : ¬ (400 : Int) < (dj : Int) := by omega)
        have HS2 : Hid (T = if sc ≠ 0 then (sc, ((j : Nat) : Int)) else scan i (L.drop (j + 1)) (j + 1)) := by
          show _ = _; rw [HSC.out, if_neg hs]
        clear HSC hs HF2; go_wp2_with fail; refine (HSR.out _ (Below.refl _ _)).mono ?_; rintro e w2 ⟨rfl, hb2⟩; have q2 : Hid (w2.heap[w.heap.size + 1]? = some _) := below_keep hb2 HQR.out; have B2 : Hid (Below w1.heap.size w1 w2) := below_join HBr.out hb2; have B3 : Hid (Below w.heap.size w w2) := below_join HBR.out hb2; clear y0 y1 y2 y3 y4 y5 y6 d1 hb2; by_cases hz : sc = 0
        · subst hz
          have HT2 : Hid (T = scan i (L.drop (j + 1)) (j + 1)) := by
            have := HS2.out
            rwa [if_neg (fun h => h rfl)] at this
          clear HS2; go_wp2_with fail
          go_roundg (L.length - (j + 1))
          case measure => have := HG.out; omega
          case rel => exact ⟨j + 1, by omega, rfl, by go_num, B2, HT2⟩
        · have hzJ : (sc != 0) = true := by simpa using hz
          have HT2 : Hid (T = (sc, ((j : Nat) : Int))) := by
            have := HS2.out
            rwa [if_pos hz] at this
          clear HS2 hz; go_wp2_with fail; refine (HFc.out _).mono ?_; rintro e w3 ⟨rfl, hb3⟩; have q3 := below_keep hb3 q2.out; obtain ⟨z1, z2, z3, z4⟩ := blk2 q3; go_wp2_with fail; have f2 := set2 q3 (.int .i64 sc) (.int .i64 (j : Nat)); (have b2 := ((below_join B3.out hb3).setCell (p := ⟨w.heap.size + 1, 0, none⟩) (by simp) (.int .i64 sc)).setCell (p := ⟨w.heap.size + 1, 1, none⟩) (by simp) (.int .i64 (j : Nat))); generalize World.setCell _ _ _ = F at f2 b2 ⊢; clear z1 z2 z3 z4; obtain ⟨k1, k2, -⟩ := blk2 f2; (exact bodyPost_ret (v := .agg #[.int .i64 sc, .int .i64 (j : Nat)]) (by simp [results, Tryz.results9, go_sem, k1, k2]) rfl ⟨by rw [HT2.out], b2⟩)
    · have hge : ¬ (j : Int) < (L.length : Int) := by omega
      have H0 : Hid (T = (0, 0)) := by
        have := HT.out; (rw [List.drop_of_length_le (by omega), scan] at this); exact this
      obtain ⟨z1, z2, z3, z4⟩ := blk2 QR; clear HT HC3 HKD HSM HDP; go_wp2_with fail; have f2 := set2 QR (.int .i64 0) (.int .i64 0); (have b2 := (BR.setCell (p := ⟨w.heap.size + 1, 0, none⟩) (by simp) (.int .i64 0)).setCell (p := ⟨w.heap.size + 1, 1, none⟩) (by simp) (.int .i64 0)); generalize World.setCell _ _ _ = F at f2 b2 ⊢; clear z1 z2 z3 z4; obtain ⟨k1, k2, -⟩ := blk2 f2; (exact bodyPost_ret (v := .agg #[.int .i64 0, .int .i64 0]) (by simp [results, Tryz.results9, go_sem, k1, k2]) rfl ⟨by rw [H0.out], b2⟩)
end Go.Proofs.YtpmogojpdigbmabGreat
/- Walks: the yardstick's CutsIn. -/
namespace Go.Proofs.YtpmogojpdigbmabGreat
open Go.RowKit

def isCut (x : Pf × Nat) : Bool := decide (x.1.rule.data.toList = Ru.cut.text)
mutual
theorem nodesD_len : ∀ (p : Pf) (d : Nat), (p.nodesD d).length = p.size
  | .mk a f l r ks, d => by rw [Pf.nodesD, Pf.size, List.length_cons, nodesDL_len ks]
theorem nodesDL_len : ∀ (ks : List Pf) (d : Nat), (Pf.nodesDL ks d).length = Pf.sizes ks
  | [], d => by rw [Pf.nodesDL, Pf.sizes]; rfl
  | k :: ks, d => by rw [Pf.nodesDL, Pf.sizes, List.length_append, nodesD_len k, nodesDL_len ks]
end
mutual
theorem nodesD_deep : ∀ (p : Pf) (d : Nat), ∀ x ∈ p.nodesD d, x.2 < d + p.deep
  | .mk a f l r ks, d, x, hx => by
    rw [Pf.nodesD] at hx; rw [Pf.deep]
    rcases List.mem_cons.1 hx with rfl | hx
    · show d < _; omega
    · have := nodesDL_deep ks (d + 1) x hx
      omega
theorem nodesDL_deep : ∀ (ks : List Pf) (d : Nat), ∀ x ∈ Pf.nodesDL ks d, x.2 < d + Pf.deeps ks
  | [], d, x, hx => by rw [Pf.nodesDL] at hx; cases hx
  | k :: ks, d, x, hx => by
    rw [Pf.nodesDL] at hx; rw [Pf.deeps]
    rcases List.mem_append.1 hx with hx | hx
    · have := nodesD_deep k d x hx; omega
    · have := nodesDL_deep ks d x hx; omega
end
mutual
theorem look_cuts (i : Bool) : ∀ (p : Pf) (d s c : Nat), (look i p d s c).1.1 = 0 → (look i p d s c).2.2 = c + (p.nodesD d).countP isCut
  | .mk a f l r ks, d, s, c, h => by
    rw [look_def] at h ⊢
    split at h
    · cases h
    · rename_i h1
      rw [if_neg h1]
      split at h
      · rename_i h2; exact absurd h h2
      · rename_i h2
        rw [if_neg h2, looks_cuts i ks _ _ _ h, Pf.nodesD, List.countP_cons]; have e : isCut (Pf.mk a f l r ks, d) = decide (a.data.toList = Ru.cut.text) := rfl; rw [e]; by_cases hc : a.data.toList = Ru.cut.text
        · rw [if_pos hc, decide_eq_true hc, if_pos rfl]; omega
        · rw [if_neg hc, decide_eq_false hc, if_neg (by decide)]; omega
theorem looks_cuts (i : Bool) : ∀ (ks : List Pf) (d s c : Nat), (looks i ks d s c).1.1 = 0 → (looks i ks d s c).2.2 = c + (Pf.nodesDL ks d).countP isCut
  | [], d, s, c, h => by rw [Pf.nodesDL, looks]; simp
  | k :: ks, d, s, c, h => by
    rw [looks] at h ⊢
    split at h
    · rename_i hn; exact absurd h hn
    · rename_i hn
      (have hn' : (look i k d s c).1.1 = 0 := Classical.byContradiction fun e => hn e); rw [if_neg hn, looks_cuts i ks _ _ _ h, look_cuts i k d s c hn', Pf.nodesDL, List.countP_append]; omega
end
theorem cuts_look (i : Bool) (p : Pf) (h : (look i p 1 0 0).1.1 = 0) : (p.stepsL 1 20001).countP isCut = (look i p 1 0 0).2.2 := by
  have h5 := look_size i p 1 0 0 h; (have h6 := look_le i p 1 0 0 (by omega) (by omega))
  have e : p.stepsL 1 20001 = p.nodesD 1 := by
    rcases steps_agree p 1 20001 with e | ⟨P, X, Y, -, e, h7⟩
    · exact e
    · exfalso
      rcases h7 with h7 | ⟨x, hx, h8⟩
      · have := nodesD_len p 1
        rw [e, List.length_append] at this; omega
      · have := nodesD_deep p 1 x (by rw [e]; exact List.mem_append_left _ hx)
        omega
  rw [e, look_cuts i p 1 0 0 h]; omega

set_option maxRecDepth 10000 in
set_option maxHeartbeats 4000000 in
theorem cutsIn_any (p : Pf) (hsm : SmallP p) (v : Value) (w : World) (hv : PRep w p v) :
    Calls Tryz.prog 13 #[v] w fun e w' => e = .returned (.int .i64 (((p.stepsL 1 20001).countP isCut : Nat) : Int)) ∧ Below w.heap.size w w' := by
  (have hst := fun wx (hb : Below w.heap.size w wx) => stepsq_all wx.heap.size (p.size + 1) p v wx 1 20001 (Nat.lt_succ_self _) hsm (by omega) (by omega) (Nat.le_refl _) (PRep.low _ _ (PRep.up hb _ _ hv))); have hlen := (stepsL_len p 1 20001).1; generalize p.stepsL 1 20001 = L at *; obtain ⟨a, ⟨k, n, kf⟩, l, r, ks⟩ := p; obtain ⟨sf, cf, al, cl, ar, cr, sl, cap, rfl, -⟩ := hv.parts; (have HST : Hid (∀ wx, Below w.heap.size w wx → Calls Tryz.prog 21 _ wx fun e w' => ∃ ad cp ad' cp', e = .returned (.tuple #[.slice ad L.length cp, .slice ad' L.length cp']) ∧ KF (· < wx.heap.size) wx.heap.size w' ad cp (L.map Prod.fst) ∧ KD wx.heap.size w' ad' cp' (L.map Prod.snd) ∧ Below wx.heap.size wx w') := hst); (have hLI : (L.length : Int) ≤ 20002 := by omega); have B0 := below_more (Below.refl _ w) (.cells #[.string a, .int .i64 k, .string n, .slice sf kf.length cf, .slice al l.length cl, .slice ar r.length cr, .slice sl ks.length cap] 29 (0, 0)); clear hv hst hlen hsm
  go_enter Tryz.func13, Tryz.ntmps13
  go_wp2_with fail; refine (HST.out _ B0).mono ?_; rintro e w1 ⟨ad, cp, ad', cp', rfl, hkf, -, hb1⟩; have B1 := below_join B0 hb1
  have hkf' : KF (fun _ => True) 0 w1 ad cp (L.map Prod.fst) := by
    obtain ⟨cs, ho, hp⟩ := hkf.low (Nat.zero_le _); (exact ⟨cs, ho, PQ.move (fun b _ h => ⟨rfl, trivial, h.2⟩) hp⟩)
  (obtain ⟨hc1, hc2, hc3⟩ := hkf'.rep fun _ _ => trivial); rw [List.length_map] at hc1; (have HC3 : Hid (L.map Prod.fst ≠ [] → ∃ b off, ad = some ⟨b, off, none⟩ ∧ True ∧ PRps (fun _ => True) w1 b off (L.map Prod.fst)) := hc3); clear hkf hkf' hc3 hb1 B0 HST; go_wp2_with fail
  go_loopg [5, 6] L.length (fun gg o c wr => ∃ j n, j ≤ L.length ∧ n ≤ j ∧ gg = L.length - j ∧ c = .int .i64 (j : Nat) ∧ o = .int .i64 (n : Nat) ∧ wr = w1 ∧ Hid (n = (L.take j).countP isCut))
  case atStart => exact ⟨0, 0, by omega, by omega, by omega, rfl, rfl, rfl, by show _ = _; simp⟩
  case round =>
    obtain ⟨j, n, hj, hnj, hg, rfl, rfl, hw, HN⟩ := hrel; have hw' := hw.symm; subst hw'; have HG : Hid (gk = L.length - j) := hg; clear hg; (have hnI : (n : Int) ≤ 20002 := by omega); by_cases hlt : j < L.length
    · obtain ⟨⟨⟨ka, ⟨kk, kn, kkf⟩, kl, kr, kks⟩, dj⟩, hki⟩ : ∃ f, L[j]? = some f := ⟨_, List.getElem?_eq_getElem hlt⟩
      (have hltI : (j : Int) < (L.length : Int) := by omega); (have hlc : (j : Int) < (cp : Int) := by omega); (obtain ⟨b, off, rfl, -, hrs⟩ := HC3.out (fun e => by rw [List.map_eq_nil_iff] at e; rw [e] at hlt; simp at hlt)); (obtain ⟨sf2, cf2, al2, cl2, ar2, cr2, sl2, cap2, y0, y1, y2, y3, y4, y5, y6, -⟩ := hrs.at j ka kk kn kkf kl kr kks (by rw [List.getElem?_map, hki]; rfl))
      have hnx : (L.take (j + 1)).countP isCut = n + if ka.data.toList = Ru.cut.text then 1 else 0 := by
        rw [List.take_add_one, hki, List.countP_append, ← HN.out]; show n + [_].countP isCut = _; rw [List.countP_cons, List.countP_nil]; by_cases hc : ka.data.toList = Ru.cut.text
        · rw [if_pos hc, if_pos (show isCut (Pf.mk ka (.mk kk kn kkf) kl kr kks, dj) = true from decide_eq_true hc)]
        · rw [if_neg hc, if_neg (by rw [show isCut (Pf.mk ka (.mk kk kn kkf) kl kr kks, dj) = false from decide_eq_false hc]; decide)]
      (have HNX : Hid ((L.take (j + 1)).countP isCut = n + if ka.data.toList = Ru.cut.text then 1 else 0) := hnx); clear hki hrs hnx y1 y2 y3 y4 y5 y6; by_cases hc : ka.data.toList = Ru.cut.text
      · have hae : ka = ⟨#[99, 117, 116]⟩ := by apply ByteArray.ext; apply Array.ext'; exact hc
        have HN2 : Hid (n + 1 = (L.take (j + 1)).countP isCut) := by
          have := HNX.out; rw [if_pos hc] at this; exact this.symm
        clear HNX hc; subst hae; go_wp2_with fail
        go_roundg (L.length - (j + 1))
        case measure => have := HG.out; omega
        case rel => exact ⟨j + 1, n + 1, by omega, by omega, rfl, by go_num, by go_num, rfl, HN2⟩
      · have hcj : (ka.toList == ([99, 117, 116] : List UInt8)) = false := by rw [ByteArray.toList_eq]; simpa [Ru.text] using hc
        have HN2 : Hid (n = (L.take (j + 1)).countP isCut) := by
          have := HNX.out; rw [if_neg hc] at this; exact this.symm
        clear HNX hc; go_wp2_with fail
        go_roundg (L.length - (j + 1))
        case measure => have := HG.out; omega
        case rel => exact ⟨j + 1, n, by omega, by omega, rfl, by go_num, by go_num, rfl, HN2⟩
    · have hge : ¬ (j : Int) < (L.length : Int) := by omega
      have HT : Hid ((n : Int) = ((L.countP isCut : Nat) : Int)) := by
        have := HN.out; (rw [List.take_of_length_le (by omega)] at this); show _ = _; rw [this]
      clear HC3 HN; go_wp2_with fail; go_ret; (exact ⟨by show Ending.returned (.int .i64 (n : Int)) = _; rw [HT.out], B1⟩)
end Go.Proofs.YtpmogojpdigbmabGreat
