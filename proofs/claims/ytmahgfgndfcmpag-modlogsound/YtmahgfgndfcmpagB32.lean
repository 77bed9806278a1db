/- Texts of one proof, one behind the other: MLP. -/
import Derived.Test.YtmahgfgndfcmpagB19
import Derived.Test.YtmahgfgndfcmpagB31
import Derived.Test.YtmahgfgndfcmpagB07
/- The law ModlogSound, walked. -/
namespace Go.Proofs.Ytmahgfgndfcmpag
open Go.RowKit Go.Sort

set_option maxRecDepth 10000 in
set_option maxHeartbeats 16000000 in
theorem sound_law (k : Int) (f : Fm) (m : Mdl) (v u : Value) (w : World) (_ : (Lit.int .i64 k).wf = true) (hv : Rep w (fun _ => True) f v) (hu : MR w m u) :
    Calls Try.prog 7 #[.int .i64 k, v, u] w fun e w' => e = .returned (.bool true) ∧ Below w.heap.size w w' := by
  (have HBe : Hid (∀ W, Calls Try.prog 28 #[] W _) := fun W => modlogBegun_any W); (have HVf : Hid (∀ v W, Rep W (fun _ => True) f v → Calls Try.prog 9 #[v, .int .i64 0] W _) := fun v W h => vast2_any f v W h); (have HDe : Hid (∀ (v : Value) (W : World), Rep W (fun _ => True) f v → Calls Try.prog 30 #[.int .i64 k, v] W _) := fun v W h => decide_short k f v W h); (have HMf : Hid (∀ v W, MR W m v → Calls Try.prog 14 #[v, .int .i64 40, .int .i64 2000] W _) := fun v W h => modelFault_any 40 2000 m (by decide) (by decide) v W h)
  have HIn : Hid ((mdcode 40 2000 m).1 = 0 → ∃ (N : Nat) (o : Bool) (T : Nat → Bool), m.n = (N : Int) ∧ N ≤ 40 ∧ (1 ≤ k → k ≤ 8 → ∀ v W, MR W m v → Calls Try.prog 29 #[v, .int .i64 k] W fun e w' => e = .returned (.bool o) ∧ Below W.heap.size W w') ∧
      (f.code = (0, 0) → ∀ v u W, MR W m v → Rep W (fun _ => True) f u → Calls Try.prog 19 #[v, u] W fun e w' => ∃ g, e = .returned (.slice (some ⟨g, 0, none⟩) N N) ∧ W.heap.size ≤ g ∧ w'.heap[g]? = some (.cells (outC N N T) 4 (0, 0)) ∧ Below W.heap.size W w') ∧
      (o = true → vB f k.toNat = true → ∀ i, i < N → T i = true)) := fun h0 => by
    obtain ⟨N, hn, hN1, hN, hr, ht, hin⟩ := mdcode_in h0; obtain ⟨n, rel, tr⟩ := m; simp only at hn hr ht hin; subst hn; (refine ⟨N, ofB k.toNat N (relB rel), mtv (seeR N (relB rel)) (pT tr) f, rfl, by omega, ?_, ?_, ?_⟩)
    · intro h1 h8 v W h
      (have h9 := ofLogic_any N (by omega) rel (by omega) hin tr k.toNat (by omega) (by omega) v W h)
      rwa [Int.toNat_of_nonneg (by omega)] at h9
    · intro hc v u W h1 h2
      obtain ⟨s, hs⟩ := code_chk hc; (exact allAt_any N (by omega) (by omega) rel (by omega) hin tr ht f v u W (fine_of_chk f 0 s hs) h1 h2)
    · intro h1 h2 i hi
      exact vB_iff.1 h2 N (relB rel) (pT tr) h1 i hi
  (have HRf : Hid (Rep w (fun _ => True) f v) := hv); have HRm : Hid (MR w m u) := hu; generalize (mdcode 40 2000 m).1 = mc at *; generalize (mdcode 40 2000 m).2 = md at *; obtain ⟨kf, nf, ksf⟩ := f; obtain ⟨sf, cf, rfl⟩ := slice_shape hv; obtain ⟨n, rel, tr⟩ := m; obtain ⟨ra, rc, ta, tc, rfl, -, -, -⟩ := hu; clear hv; simp only at HIn HRm ⊢; obtain ⟨W, hW⟩ : ∃ X, X = (w.alloc (.cells #[.int .i64 kf, .string nf, .slice sf ksf.length cf] 28 (0, 0))).alloc (.cells #[.int .i64 n, .slice ra rel.length rc, .slice ta tr.length tc] 25 (0, 0)) := ⟨_, rfl⟩; (have HBW : Hid (Below w.heap.size w W) := by rw [hW]; exact below_more (below_more (Below.refl _ _) _) _); (have HFW : Hid (W.heap[w.heap.size]? = some (.cells #[.int .i64 kf, .string nf, .slice sf ksf.length cf] 28 (0, 0))) := by rw [hW]; exact alloc_keep (blk_new _ _) _); (have HGW : Hid (W.heap[w.heap.size + 1]? = some (.cells #[.int .i64 n, .slice ra rel.length rc, .slice ta tr.length tc] 25 (0, 0))) := by rw [hW]; exact blk_secE _ _ _)
  go_enter Try.func7, Try.ntmps7
  go_wp2_with fail; rw [← hW]; clear hW; refine (HBe.out _).mono ?_; rintro _ w1 ⟨rfl, hb1⟩; have HBw1 : Hid (Below w.heap.size w w1) := below_join HBW.out hb1; have HFw1 : Hid (w1.heap[w.heap.size]? = some (.cells #[.int .i64 kf, .string nf, .slice sf ksf.length cf] 28 (0, 0))) := below_keep hb1 HFW.out; have HGw1 : Hid (w1.heap[w.heap.size + 1]? = some (.cells #[.int .i64 n, .slice ra rel.length rc, .slice ta tr.length tc] 25 (0, 0))) := below_keep hb1 HGW.out; obtain ⟨f0, f1, f2, -⟩ := blk3 HFw1.out; clear hb1 HBe; go_wp2_with fail; refine (HVf.out _ _ (HRf.out.up HBw1.out)).mono ?_; rintro _ w2 ⟨⟨bb, rfl, -⟩, hb2⟩; have HBw2 : Hid (Below w.heap.size w w2) := below_join HBw1.out hb2; have HFw2 : Hid (w2.heap[w.heap.size]? = some (.cells #[.int .i64 kf, .string nf, .slice sf ksf.length cf] 28 (0, 0))) := below_keep hb2 HFw1.out; have HGw2 : Hid (w2.heap[w.heap.size + 1]? = some (.cells #[.int .i64 n, .slice ra rel.length rc, .slice ta tr.length tc] 25 (0, 0))) := below_keep hb2 HGw1.out; obtain ⟨g0, g1, g2, -⟩ := blk3 HGw2.out; clear hb2 HVf f0 f1 f2
  cases bb
  case true =>
    go_wp2_with fail; go_ret; exact ⟨rfl, HBw2.out⟩
  go_wp2_with fail; refine (HMf.out _ _ (HRm.out.up HBw2.out)).mono ?_; rintro _ w3 ⟨rfl, hb3⟩; have HBw3 : Hid (Below w.heap.size w w3) := below_join HBw2.out hb3; have HFw3 : Hid (w3.heap[w.heap.size]? = some (.cells #[.int .i64 kf, .string nf, .slice sf ksf.length cf] 28 (0, 0))) := below_keep hb3 HFw2.out; have HGw3 : Hid (w3.heap[w.heap.size + 1]? = some (.cells #[.int .i64 n, .slice ra rel.length rc, .slice ta tr.length tc] 25 (0, 0))) := below_keep hb3 HGw2.out; clear hb3 HMf g0 g1 g2; have hfld := fault_code mc md; by_cases hc : mc = 0
  case neg =>
    (have hcn : (mc != 0) = true := by simpa using hc); go_wp2_with fail; go_ret; exact ⟨rfl, HBw3.out⟩
  subst hc; obtain ⟨N, o, T, rfl, hN, hOf, hAl, hTr⟩ := HIn.out rfl; clear HIn; (have hc0 : ((0 : Int) != 0) = false := by simp); by_cases hk1 : k < 1
  · go_wp2_with fail
    go_ret; exact ⟨rfl, HBw3.out⟩
  (have hk1' : decide (k < 1) = false := by simpa using hk1); by_cases hk8 : 8 < k
  · go_wp2_with fail
    go_ret; exact ⟨rfl, HBw3.out⟩
  (have hk8' : decide (8 < k) = false := by simpa using hk8); (have HOf : Hid (∀ v W, MR W ⟨(N : Int), rel, tr⟩ v → Calls Try.prog 29 #[v, .int .i64 k] W _) := hOf (by omega) (by omega)); (have HAl : Hid (Fm.code (.mk kf nf ksf) = (0, 0) → ∀ v u W, MR W ⟨(N : Int), rel, tr⟩ v → Rep W (fun _ => True) (.mk kf nf ksf) u → Calls Try.prog 19 #[v, u] W _) := hAl); have HTr : Hid (o = true → vB (.mk kf nf ksf) k.toNat = true → ∀ i, i < N → T i = true) := hTr; have HN : Hid (N ≤ 40) := hN; obtain ⟨g0, g1, g2, -⟩ := blk3 HGw3.out; clear hOf hAl hTr hN hk1 hk8; go_wp2_with fail; refine (HOf.out _ _ (HRm.out.up HBw3.out)).mono ?_; rintro _ w4 ⟨rfl, hb4⟩; have HBw4 : Hid (Below w.heap.size w w4) := below_join HBw3.out hb4; have HFw4 : Hid (w4.heap[w.heap.size]? = some (.cells #[.int .i64 kf, .string nf, .slice sf ksf.length cf] 28 (0, 0))) := below_keep hb4 HFw3.out; have HGw4 : Hid (w4.heap[w.heap.size + 1]? = some (.cells #[.int .i64 (N : Nat), .slice ra rel.length rc, .slice ta tr.length tc] 25 (0, 0))) := below_keep hb4 HGw3.out; obtain ⟨f0, f1, f2, -⟩ := blk3 HFw4.out; clear hb4 HOf g0 g1 g2 hk1' hk8' hc0 hfld
  cases o
  case false =>
    go_wp2_with fail; go_ret; exact ⟨rfl, HBw4.out⟩
  go_wp2_with fail; refine (HDe.out _ _ (HRf.out.up HBw4.out)).mono ?_; rintro _ u1 ⟨⟨r, n1, a1, p1, q1, b1, s1, t1, c1, d1, rfl, hcr⟩, hb5⟩; have HC : Hid (c1 = 0 → r = vB (.mk kf nf ksf) k.toNat ∧ Fm.code (.mk kf nf ksf) = (0, 0)) := hcr; obtain ⟨V, hV⟩ : ∃ X, X = (u1.alloc (.cells #[.int .i64 n1, .slice a1 p1 q1, .slice b1 s1 t1] 25 (0, 0))).alloc (.cells #[.int .i64 c1, .int .i64 d1] 34 (0, 0)) := ⟨_, rfl⟩; (have hbV : Below w4.heap.size w4 V := by rw [hV]; exact below_more (below_more hb5 _) _); have HBV : Hid (Below w.heap.size w V) := below_join HBw4.out hbV; have HFV : Hid (V.heap[w.heap.size]? = some (.cells #[.int .i64 kf, .string nf, .slice sf ksf.length cf] 28 (0, 0))) := below_keep hbV HFw4.out; have HGV : Hid (V.heap[w.heap.size + 1]? = some (.cells #[.int .i64 (N : Nat), .slice ra rel.length rc, .slice ta tr.length tc] 25 (0, 0))) := below_keep hbV HGw4.out; (obtain ⟨e0, e1, -⟩ := blk2 (show V.heap[u1.heap.size + 1]? = some (.cells #[.int .i64 c1, .int .i64 d1] 34 (0, 0)) by rw [hV]; exact blk_secE _ _ _)); have hVe := hV.symm; clear hcr hb5 hbV hV f0 f1 f2 HDe; by_cases hc : c1 = 0
  case neg =>
    (have hcn : (c1 != 0) = true := by simpa using hc); go_wp2_with fail; go_ret; exact ⟨rfl, HBV.out⟩
  subst hc; obtain ⟨rfl, hcode⟩ := HC.out rfl; (have hc0 : ((0 : Int) != 0) = false := by simp); (have HAl' : Hid (∀ v u W, MR W ⟨(N : Int), rel, tr⟩ v → Rep W (fun _ => True) (.mk kf nf ksf) u → Calls Try.prog 19 #[v, u] W _) := HAl.out hcode); clear HC hcode HAl; (have HT : Hid (vB (.mk kf nf ksf) k.toNat = true → ∀ i, i < N → T i = true) := HTr.out (by simp)); clear HTr; generalize vB (.mk kf nf ksf) k.toNat = r at *
  cases r
  case false =>
    go_wp2_with fail; go_ret; exact ⟨rfl, HBV.out⟩
  have HT' : Hid (∀ i, i < N → T i = true) := HT.out rfl; clear HT; obtain ⟨f0, f1, f2, -⟩ := blk3 HFV.out; obtain ⟨g0, g1, g2, -⟩ := blk3 HGV.out; go_wp2_with fail; refine (HAl'.out _ _ _ (HRm.out.up HBV.out) (HRf.out.up HBV.out)).mono ?_; rintro _ Z ⟨g, rfl, hg, hgb, hb6⟩; have HBZ : Hid (Below w.heap.size w Z) := below_join HBV.out hb6; have HGZ : Hid (Z.heap[w.heap.size + 1]? = some (.cells #[.int .i64 (N : Nat), .slice ra rel.length rc, .slice ta tr.length tc] 25 (0, 0))) := below_keep hb6 HGV.out; have HLZ : Hid (Z.heap[g]? = some (.cells (outC N N T) 4 (0, 0))) := hgb; clear hg hgb hb6 HAl' f0 f1 f2 g0 g1 g2 e0 e1 hVe hc0; go_wp2_with fail
  go_loopg [11] N (fun gg cc wr => ∃ i : Nat, i ≤ N ∧ gg = N - i ∧ cc = .int .i64 (i : Nat) ∧ Hid (Below Z.heap.size Z wr))
  case atStart => exact ⟨0, by omega, rfl, rfl, Below.refl _ _⟩
  case round =>
    obtain ⟨i, hi, hg, rfl, HBr⟩ := hrel; have HGk : Hid (gk = N - i) := hg; have HGr : Hid (wr.heap[w.heap.size + 1]? = some (.cells #[.int .i64 (N : Nat), .slice ra rel.length rc, .slice ta tr.length tc] 25 (0, 0))) := below_keep HBr.out HGZ.out; have HLr : Hid (wr.heap[g]? = some (.cells (outC N N T) 4 (0, 0))) := below_keep HBr.out HLZ.out; obtain ⟨g0, -, -, -⟩ := blk3 HGr.out; clear hg; by_cases hlt : i < N
    · have l0 := (blk_cell HLr.out i).trans (outC_full hlt)
      rw [HT'.out i hlt] at l0; (have hlI : (i : Int) < (N : Int) := by omega); have HLt : Hid (i < N) := hlt; have HIi : Hid (i ≤ N) := hi; (have hi40 : (i : Int) < 40 := by have := HN.out; omega); clear hi; go_wp2_with fail
      go_roundg (N - (i + 1))
      case measure => have := HGk.out; have := HLt.out; omega
      case rel => exact ⟨i + 1, HLt.out, rfl, by go_num, HBr⟩
    · obtain rfl : i = N := by omega
      (have hd : decide ((i : Int) < (i : Int)) = false := by simp); clear hlt hi; go_wp2_with fail; go_ret; exact ⟨rfl, below_join HBZ.out HBr.out⟩
end Go.Proofs.Ytmahgfgndfcmpag
