/- Texts of one proof, one behind the other: SB9, SBA, SBB. -/
import Derived.Test.YtclinobfbdljhahB27
import Derived.Test.YtclinobfbdljhahB28
import Derived.Deep.RegionHeld3
/- Walks: what a world of a view sees (seen, classesSeen). -/
namespace Go.Proofs.Ytclinobfbdljhah
open Go.RowKit

set_option maxRecDepth 10000 in
set_option maxHeartbeats 4000000 in
theorem vseen_any {N : Nat} (hN : N ≤ 40) (R : Nat → Nat → Bool) (nss : List (List (List UInt8))) (u : Nat) (hu : u < N) (v : Value) (w : World) (hv : VwR w N R nss v) :
    Calls Try.prog 100 #[v, .int .i64 (u : Nat)] w fun e w' => ∃ x, e = .returned x ∧ NL w' x (memTo (R u) N) ∧ Below w.heap.size w w' := by
  obtain ⟨g, h, rfl, h2, -⟩ := hv; (have hNI : (N : Int) ≤ 40 := by omega); (have huI : (u : Int) < (N : Int) := by omega); have c9 := h2 u hu; (have HM : Hid (∀ w, Calls Try.prog 75 #[.int .u64 (bm N (R u) : Nat), .int .i64 (N : Nat)] w fun e w' => ∃ x, e = .returned x ∧ NL w' x (memTo (R u) N) ∧ Below w.heap.size w w') := fun w => set_members hN (R u) w); generalize bm N (R u) = s at *; obtain ⟨X, hX⟩ : ∃ X, X = w.alloc (.cells #[.slice (some ⟨g, 0, none⟩) N N, .slice (some ⟨h, 0, none⟩) N N] 84 (0, 0)) := ⟨_, rfl⟩; (have HB0 : Hid (Below w.heap.size w X) := by rw [hX]; exact below_more (Below.refl _ w) _); (obtain ⟨q0, q1, -⟩ := blk2 (show X.heap[w.heap.size]? = some (.cells #[.slice (some ⟨g, 0, none⟩) N N, .slice (some ⟨h, 0, none⟩) N N] 84 (0, 0)) by rw [hX]; exact blk_new _ _)); have q9 : X.cell? ⟨g, u, none⟩ = some (.int .u64 (s : Nat)) := (HB0.out.cell (lt_of_cell c9)).trans c9; have zg : g < X.heap.size := lt_of_cell q9; have zw : w.heap.size < X.heap.size := lt_of_cell q0; have HXe : Hid (w.alloc (.cells #[.slice (some ⟨g, 0, none⟩) N N, .slice (some ⟨h, 0, none⟩) N N] 84 (0, 0)) = X) := hX.symm; clear hX c9 h2 hN
  go_enter Try.func100, Try.ntmps100
  go_upto_region 1 with fail
  rw [HXe.out]
  go_region_held3 (fun w' => w'.cell? ⟨w.heap.size, 0, none⟩ = some (.slice (some ⟨g, 0, none⟩) N N) ∧ w'.cell? ⟨g, u, none⟩ = some (.int .u64 (s : Nat))) (go_keep)
    (first
     | (go_at_call 75
        refine (HM.out _).mono ?_; rintro e w2 ⟨x2, rfl, hx2, hb2⟩; have HX2 : Hid (NL w2 x2 (memTo (R u) N)) := hx2; have HB2 : Hid (Below w.heap.size w w2) := below_join HB0.out.drew hb2; have k0 := (hb2.cell (p := ⟨w.heap.size, 0, none⟩) zw).trans q0; have k1 := (hb2.cell (p := ⟨g, u, none⟩) zg).trans q9
        clear hx2 hb2)
     | fail)
  go_wp2_with fail; go_ret; exact ⟨_, rfl, HX2.out, HB2.out⟩
theorem NL.at {w : World} {v : Value} {l : List Nat} (h : NL w v l) : ∃ ad cap, v = .slice ad l.length cap ∧ l.length ≤ cap ∧ ∀ (j n : Nat), l[j]? = some n → ∃ b, ad = some ⟨b, 0, none⟩ ∧ w.cell? ⟨b, j, none⟩ = some (.int .i64 (n : Nat)) := by
  obtain ⟨ad, cap, e, h1, -, h3⟩ := h; (refine ⟨ad, cap, e, h1, fun j n hj => ?_⟩); (obtain ⟨b, e2, hc⟩ := h3 (fun e => by rw [e] at hj; cases hj)); exact ⟨b, e2, hc j n hj⟩
theorem memTo_lt {P : Nat → Bool} {N n : Nat} (h : n ∈ memTo P N) : n < N := by
  rw [memTo, List.mem_filter, List.mem_range] at h; exact h.1
theorem getD_of {l : List Nat} {i n : Nat} (h : l[i]? = some n) : l.getD i 0 = n := by rw [List.getD_eq_getElem?_getD, h]; rfl
set_option maxRecDepth 10000 in
set_option maxHeartbeats 4000000 in
theorem cseen_any {N : Nat} (hN : N ≤ 40) (R : Nat → Nat → Bool) (nss : List (List (List UInt8))) (u : Nat) (hu : u < N) (cl : List Nat) (hcl : cl.length = N) (hlt : ∀ n ∈ cl, n < N) (v vc : Value) (w : World) (hv : VwR w N R nss v) (hc : NL w vc cl) :
    Calls Try.prog 74 #[v, .int .i64 (u : Nat), vc] w fun e w' => e = .returned (.int .u64 (bm N (seesC N R cl u) : Nat)) ∧ Below w.heap.size w w' := by
  (have HS : Hid (∀ W, Below w.heap.size w W → Calls Try.prog 100 #[v, .int .i64 (u : Nat)] W fun e w' => ∃ x, e = .returned x ∧ NL w' x (memTo (R u) N) ∧ Below W.heap.size W w') := fun W hW => vseen_any hN R nss u hu v W (hv.up hW)); have HN : Hid (N ≤ 40) := hN; have HCl : Hid (cl.length = N) := hcl; have HLt : Hid (∀ n ∈ cl, n < N) := hlt; obtain ⟨g, h, rfl, -⟩ := hv; obtain ⟨ac, cc, rfl, hcc, hca⟩ := hc.at; have HCa : Hid (∀ (j n : Nat), cl[j]? = some n → ∃ b, ac = some ⟨b, 0, none⟩ ∧ w.cell? ⟨b, j, none⟩ = some (.int .i64 (n : Nat))) := hca; (have hclI : (cl.length : Int) = (N : Int) := by omega); (have hccI : (cl.length : Int) ≤ (cc : Int) := by omega)
  have HSc : Hid (bm N (fun c => (memTo (R u) N).any fun v => cl.getD v 0 == c) = bm N (seesC N R cl u)) := by
    show _ = _; (refine bm_ext fun c _ => ?_); rw [seesC, memTo, List.any_filter]
  have HMl : Hid ((memTo (R u) N).length ≤ N) := memTo_len _ _; (have HMt : Hid (∀ n ∈ memTo (R u) N, n < N) := fun n hn => memTo_lt hn); generalize memTo (R u) N = ms at *; obtain ⟨X, hX⟩ : ∃ X, X = w.alloc (.cells #[.slice (some ⟨g, 0, none⟩) N N, .slice (some ⟨h, 0, none⟩) N N] 84 (0, 0)) := ⟨_, rfl⟩; (have HB0 : Hid (Below w.heap.size w X) := by rw [hX]; exact below_more (Below.refl _ w) _); (obtain ⟨q0, q1, -⟩ := blk2 (show X.heap[w.heap.size]? = some (.cells #[.slice (some ⟨g, 0, none⟩) N N, .slice (some ⟨h, 0, none⟩) N N] 84 (0, 0)) by rw [hX]; exact blk_new _ _)); have HXe : Hid (w.alloc (.cells #[.slice (some ⟨g, 0, none⟩) N N, .slice (some ⟨h, 0, none⟩) N N] 84 (0, 0)) = X) := hX.symm; clear hX hca hc hN hlt hcl
  go_enter Try.func74, Try.ntmps74
  go_upto_region 1 with fail
  rw [HXe.out]; go_wp2_with fail; refine (HS.out X HB0.out).mono ?_; rintro _ w1 ⟨x1, rfl, hx1, hb1⟩; have HB1 : Hid (Below w.heap.size w w1) := below_join HB0.out hb1; obtain ⟨am, cm, rfl, hmm, hma⟩ := hx1.at; have HMa : Hid (∀ (j n : Nat), ms[j]? = some n → ∃ b, am = some ⟨b, 0, none⟩ ∧ w1.cell? ⟨b, j, none⟩ = some (.int .i64 (n : Nat))) := hma; (have hmmI : (ms.length : Int) ≤ (cm : Int) := by omega); (have hmlI : (ms.length : Int) ≤ 40 := by have := HMl.out; have := HN.out; omega); clear hb1 hx1 hma q0 q1 hmm; go_wp2_with fail
  go_loopg [14, 7] ms.length (fun gg c s wr => ∃ i x, i ≤ ms.length ∧ gg = ms.length - i ∧ c = .int .i64 (i : Nat) ∧ s = .int .u64 (x : Nat) ∧ Hid (x = bm N fun c => (ms.take i).any fun v => cl.getD v 0 == c) ∧ Hid (Below w1.heap.size w1 wr))
  case atStart => exact ⟨0, 0, by omega, by omega, rfl, rfl, by show _ = _; rw [List.take_zero]; exact (bm_none _).symm, Below.refl _ _⟩
  case round =>
    obtain ⟨i, x, hi, hg, rfl, rfl, HX, HB⟩ := hrel; have HGk : Hid (gk = ms.length - i) := hg; clear hg; by_cases hlt : i < ms.length
    · obtain ⟨m, hm⟩ : ∃ m, ms[i]? = some m := ⟨_, List.getElem?_eq_getElem hlt⟩
      have hmN := HMt.out m (List.mem_of_getElem? hm); (obtain ⟨n, hn⟩ : ∃ n, cl[m]? = some n := ⟨_, List.getElem?_eq_getElem (by rw [HCl.out]; exact hmN)⟩); have hnN := HLt.out n (List.mem_of_getElem? hn); obtain ⟨b, rfl, hc1⟩ := HMa.out i m hm; obtain ⟨b2, rfl, hc2⟩ := HCa.out m n hn; have g0 := (HB.out.cell (lt_of_cell hc1)).trans hc1; have g1 := ((HB1.out.trans (HB.out.mono HB1.out.size)).cell (lt_of_cell hc2)).trans hc2; (have hltI : (i : Int) < (ms.length : Int) := by omega); (have hltc : (i : Int) < (cm : Int) := by omega); (have hmI : (m : Int) < (cl.length : Int) := by omega); (have hmc : (m : Int) < (cc : Int) := by omega); have HI : Hid (i < ms.length) := hlt; (obtain ⟨y, hy⟩ : ∃ y, y = bm N fun c => ((ms.take i).any fun v => cl.getD v 0 == c) || c == n := ⟨_, rfl⟩)
      have HY : Hid (y = bm N fun c => (ms.take (i + 1)).any fun v => cl.getD v 0 == c) := by
        show _ = _; rw [hy]; (refine bm_ext fun c _ => ?_); rw [List.take_add_one, hm, List.any_append, Option.toList_some]
        congr 1
        simp only [List.any_cons, List.any_nil, Bool.or_false, getD_of hn]; rw [Bool.eq_iff_iff, beq_iff_eq, beq_iff_eq]; exact eq_comm
      have HW : Hid (∀ (b : Nat) (W : World), W.cell? ⟨b, 0, none⟩ = some (.int .i64 (n : Nat)) → Calls Try.prog 68 #[.int .u64 (x : Nat), .slice (some ⟨b, 0, none⟩) 1 1] W fun e w' => e = .returned (.int .u64 (y : Nat)) ∧ w' = W) := fun b W hcW => by
        rw [HX.out, hy]; exact set_with1 HN.out _ n b hnN W hcW
      (have k9 := fun (o : Obj) => (HB.out.cell (lt_of_cell hc1))); clear hlt hi hm hn hc1 hc2 hy k9 hnN hmN; go_wp2_with fail; (refine (HW.out _ _ (by simp)).mono ?_); rintro _ w9 ⟨rfl, rfl⟩; go_wp2_with fail
      go_roundg (ms.length - (i + 1))
      case measure => have := HGk.out; have := HI.out; omega
      case rel => exact ⟨i + 1, y, HI.out, rfl, by go_num, rfl, HY, below_more HB.out _⟩
    · have hii : i = ms.length := by omega
      subst hii; (have hge : ¬ (ms.length : Int) < (ms.length : Int) := by omega); rw [List.take_length, HSc.out] at HX; clear hlt hi; go_wp2_with fail; go_ret; (exact ⟨congrArg (fun x : Nat => Ending.returned (Value.int .u64 (x : Int))) HX.out, below_join HB1.out HB.out⟩)
end Go.Proofs.Ytclinobfbdljhah
/- Walks: worlds parted by what they see (parted). -/
namespace Go.Proofs.Ytclinobfbdljhah
open Go.RowKit Go.Maps Go.WideMaps

set_option maxRecDepth 10000 in
set_option maxHeartbeats 8000000 in
theorem parted_any {N : Nat} (hN : N ≤ 40) (R : Nat → Nat → Bool) (nss : List (List (List UInt8))) (cl : List Nat) (hcl : cl.length = N) (hlt : ∀ n ∈ cl, n < N) (v vc : Value) (w : World) (hv : VwR w N R nss v) (hc : NL w vc cl) :
    Calls Try.prog 97 #[v, vc] w fun e w' => ∃ ad cp, e = .returned (.slice ad N cp) ∧ OwnN w.heap.size w' ad cp (partK N R cl) ∧ Below w.heap.size w w' := by
  (have hNI : (N : Int) ≤ 40 := by omega); have hmm := @run_makeMap Try.prog; (have HC : Hid (∀ u W, u < N → Below w.heap.size w W → Calls Try.prog 74 #[v, .int .i64 (u : Nat), vc] W fun e w' => e = .returned (.int .u64 (bm N (seesC N R cl u) : Nat)) ∧ Below W.heap.size W w') := fun u W hu hW => cseen_any hN R nss u hu cl hcl hlt v vc W (hv.up hW) (hc.up hW))
  have HSm : Hid (∀ u, u < N → OkS2 (sightK N N R cl u)) := fun u hu => ⟨by
    show cl.getD u 0 < _; (rw [List.getD_eq_getElem?_getD, List.getElem?_eq_getElem (by omega)]); (have := hlt _ (List.getElem_mem (l := cl) (n := u) (by omega))); simp only [Option.getD_some]
    omega, bm_small hN _⟩
  obtain ⟨g, h, rfl, h2, -⟩ := hv; obtain ⟨ac, cc, rfl, hcc, hca⟩ := hc.at; have HCa : Hid (∀ (j n : Nat), cl[j]? = some n → ∃ b, ac = some ⟨b, 0, none⟩ ∧ w.cell? ⟨b, j, none⟩ = some (.int .i64 (n : Nat))) := hca; rw [hcl] at HC ⊢; (have hccI : (N : Int) ≤ (cc : Int) := by omega); obtain ⟨ks, hks⟩ : ∃ ks, ks = (List.range N).map (sightK N N R cl) := ⟨_, rfl⟩; (have hkl : ks.length = N := by rw [hks, List.length_map, List.length_range]); (have HBy : Hid (partK N R cl = numK ks) := by rw [hks]; rfl); (have HKg : Hid (∀ u, u < N → ks[u]? = some (sightK N N R cl u)) := fun u hu => by rw [hks, List.getElem?_map, range_get hu]; rfl); have HKl : Hid (ks.length = N) := hkl; have HCl : Hid (cl.length = N) := hcl; obtain ⟨X, hX⟩ : ∃ X, X = (w.alloc (.cells #[.slice (some ⟨g, 0, none⟩) N N, .slice (some ⟨h, 0, none⟩) N N] 84 (0, 0))).alloc (.map #[] 0) := ⟨_, rfl⟩; (have HB0 : Hid (Below w.heap.size w X) := by rw [hX]; exact below_more (below_more (Below.refl _ w) _) _)
  have HM0 : Hid (NuS X (w.heap.size + 1) []) := by
    have := NuM.nil (kt := 165) (key := sightKey) (Ok := OkS2) (w := w.alloc (.cells #[.slice (some ⟨g, 0, none⟩) N N, .slice (some ⟨h, 0, none⟩) N N] 84 (0, 0))); rw [World.size_alloc] at this; rw [hX]; exact this
  (have HV : Hid (X.heap[w.heap.size]? = some (.cells #[.slice (some ⟨g, 0, none⟩) N N, .slice (some ⟨h, 0, none⟩) N N] 84 (0, 0))) := by rw [hX]; exact alloc_keep (blk_new _ _) _); have HXe : Hid ((w.alloc (.cells #[.slice (some ⟨g, 0, none⟩) N N, .slice (some ⟨h, 0, none⟩) N N] 84 (0, 0))).alloc (.map #[] 0) = X) := hX.symm; clear h2 hX hkl hks hca hc hlt hcl hN
  go_enter Try.func97, Try.ntmps97
  go_upto_region 3 with fail
  rw [HXe.out]; clear hmm; go_wp2_with fail
  go_loopg [12, 6, 7, 8] N (fun gg cc x y z wr => ∃ i ad cp, i ≤ N ∧ gg = N - i ∧ cc = .int .i64 (i : Nat) ∧ x = .slice ad (numK (ks.take i)).length cp ∧ Hid (OwnN w.heap.size wr ad cp (numK (ks.take i))) ∧ Hid (NuS wr (w.heap.size + 1) (extK [] (ks.take i))) ∧ Hid (wr.heap[w.heap.size]? = some (.cells #[.slice (some ⟨g, 0, none⟩) N N, .slice (some ⟨h, 0, none⟩) N N] 84 (0, 0))) ∧ Hid (Below w.heap.size w wr))
  case atStart => exact ⟨0, none, 0, by omega, by omega, rfl, rfl, OwnN.nil, HM0, HV, HB0⟩
  case round =>
    obtain ⟨i, ad, cp, hi, hg, rfl, rfl, HOw, HMp, HVr, HB⟩ := hrel; have HGk : Hid (gk = N - i) := hg; clear hg; by_cases hlt : i < N
    · have hltI : (i : Int) < (N : Int) := by omega
      have HI : Hid (i < N) := hlt; (obtain ⟨n, hn⟩ : ∃ n, cl[i]? = some n := ⟨_, List.getElem?_eq_getElem (by rw [HCl.out]; exact hlt)⟩); have hk := HKg.out i hlt; have hok := HSm.out i hlt; (have hsg : sightK N N R cl i = (n, bm N (seesC N R cl i)) := by rw [sightK, getD_of hn]); rw [hsg] at hk hok; have HC1 := HC.out i wr hlt HB.out; obtain ⟨b, rfl, hcb⟩ := HCa.out i n hn; have c1 := (HB.out.cell (lt_of_cell hcb)).trans hcb; (have hic : (i : Int) < (cc : Int) := by omega); obtain ⟨q0, q1, -⟩ := blk2 HVr.out; obtain ⟨hn1, hn2⟩ := take_num hk; generalize bm N (seesC N R cl i) = ss at *; obtain ⟨sg, hsge⟩ : ∃ sg, sg = (n, ss) := ⟨_, rfl⟩; rw [← hsge] at hn1 hn2 hok; have HT1 : Hid (numK (ks.take (i + 1)) = numK (ks.take i) ++ [nuK (extK [] (ks.take i)) sg]) := hn1; have HT2 : Hid (extK [] (ks.take (i + 1)) = extK (extK [] (ks.take i)) [sg]) := hn2; (have hll : (numK (ks.take i)).length = i := by rw [numK_len, List.length_take, HKl.out]; omega)
      have hel : (extK [] (ks.take i)).length ≤ 1000 := by
        have := extK_len (ks.take i) ([] : List (Nat × Nat)); rw [List.length_take] at this; simp at this; omega
      have HNu : Hid (∀ W, NuS W (w.heap.size + 1) (extK [] (ks.take i)) → Calls Try.prog 113 #[.agg #[.int .i64 (n : Nat), .int .u64 (ss : Nat)], .map (some (w.heap.size + 1))] W fun e w' => e = .returned (.int .i64 (nuK (extK [] (ks.take i)) sg : Nat)) ∧ NuS w' (w.heap.size + 1) (extK (extK [] (ks.take i)) [sg]) ∧ Kept (fun x => x ≠ w.heap.size + 1) W w') := fun W hW => by
        have := numberS_any sg hok (w.heap.size + 1) _ hel W hW; rw [hsge] at this ⊢; exact this
      generalize hLL : numK (ks.take i) = LL at *; generalize nuK (extK [] (ks.take i)) sg = nn at *; generalize extK [] (ks.take i) = kn at *; have HLn : Hid (LL.length = i) := hll; (have hlnI : (LL.length : Int) ≤ 40 := by omega); clear hlt hi hk hn hn1 hn2 hcb hel hLL hll hsg hsge hok; go_wp2_with fail; refine HC1.mono ?_; rintro _ w1 ⟨rfl, hb1⟩; have HO1 : Hid (OwnN w.heap.size w1 ad cp LL) := rowM_up HOw.out hb1; have HM1 : Hid (NuS w1 (w.heap.size + 1) kn) := NuM.same HMp.out (hb1.block _ (NuM.lt HMp.out)); have HV1 : Hid (w1.heap[w.heap.size]? = some (.cells #[.slice (some ⟨g, 0, none⟩) N N, .slice (some ⟨h, 0, none⟩) N N] 84 (0, 0))) := below_keep hb1 HVr.out; have HB1 : Hid (Below w.heap.size w w1) := HB.out.trans (hb1.mono HB.out.size); clear hb1 HC1 q0 q1 c1; go_wp2_with fail; refine (HNu.out w1 HM1.out).mono ?_; rintro _ w2 ⟨rfl, hm2, hk2⟩; have HO2 : Hid (OwnN w.heap.size w2 ad cp LL) := OwnN.kept HO1.out hk2 (NuM.noCells HM1.out); have HM2 : Hid (NuS w2 (w.heap.size + 1) (extK kn [sg])) := hm2; (have HB2 : Hid (Below w.heap.size w w2) := below_kept HB1.out hk2 HB1.out.size (by omega)); (have HV2 : Hid (w2.heap[w.heap.size]? = some (.cells #[.slice (some ⟨g, 0, none⟩) N N, .slice (some ⟨h, 0, none⟩) N N] 84 (0, 0))) := (hk2.block _ (lt_of_block HV1.out) (by omega)).trans HV1.out); clear hm2 hk2; obtain ⟨i0, hi0, hz0, hz1, hz2⟩ := infoI9
      go_wp2_with (first
        | (at_builtin
           have hsz := HB2.out.size; have hown := rowM_up HO2.out ((Below.refl _ w2).alloc (Nat.le_refl _) (.cells #[.int .i64 (nn : Nat)] 3 (0, 0))); (refine wpList_append_lies _ rfl _ _ 45 rfl w.heap.size 3 i0 (.int .i64 0) 1 8 Try.underlying45 hi0 hz0 hz1 hz2 rfl (by decide) (.slice ad LL.length cp) LL.length (LL.map encI) rfl hown ⟨w2.heap.size, 0, none⟩ 1 1 [.int .i64 (nn : Nat)] rfl rfl ?_ ?_ (by omega) (by unfold maxLen; omega) (by omega) (by simp; omega) _ rfl ?_)
           · intro j u hu
             rw [add_none, Nat.zero_add, blk_cell (blk_new w2 _)]; simpa using hu
           · intro u hu
             simp at hu; subst hu; rfl
           intro g3 cp3 w3 hown3 hgrow hat hlt3; have hgrow' : (w2.alloc (.cells #[.int .i64 (nn : Nat)] 3 (0, 0))).grownBy w3 (Value.slice ad LL.length cp).ownBlock := hgrow; have hlt' := World.ownsRow.lt HO2.out; (have HB3 : Hid (Below w.heap.size w w3) := ((HB2.out.alloc hsz _).grown hgrow' (by simp; omega) fun k hk => by have := (hlt' k hk).1; omega))
           have HM3 : Hid (NuS w3 (w.heap.size + 1) (extK kn [sg])) := NuM.same HM2.out ((hgrow'.block _ (by have := NuM.lt HM2.out; simp; omega) fun e => by
             rcases HO2.out.2 with ⟨h5, -⟩ | ⟨g5, cap5, cur5, hv5, -, hh5, -⟩
             · rw [h5] at e; cases e
             · rw [hv5] at e
               simp only [Value.ownBlock, Option.some.injEq] at e; rw [← e] at hh5
               exact NuM.noCells HM2.out _ _ _ hh5).trans (Below.heap_alloc _ _ _ (NuM.lt HM2.out)))
           have HV3 : Hid (w3.heap[w.heap.size]? = some (.cells #[.slice (some ⟨g, 0, none⟩) N N, .slice (some ⟨h, 0, none⟩) N N] 84 (0, 0))) := (hgrow'.block _ (by have := lt_of_block HV2.out; simp; omega) fun e => by
             rcases HO2.out.2 with ⟨h5, -⟩ | ⟨g5, cap5, cur5, hv5, -, hh5, -⟩
             · rw [h5] at e; cases e
             · rw [hv5] at e
               simp only [Value.ownBlock, Option.some.injEq] at e; rw [← e, HV2.out] at hh5
               simp at hh5).trans (alloc_keep HV2.out _)
           have HOw3 : Hid (w3.ownsRow w.heap.size 3 1 (.slice (some ⟨g3, 0, none⟩) (LL.length + 1) cp3) (LL.length + 1) (LL.map encI ++ [.int .i64 (nn : Nat)])) := hown3
           clear hgrow hgrow' hat hown3 hown hlt' hsz hlt3 hi0 hz0 hz1 hz2)
        | fail)
      (have hl9 : (numK (ks.take (i + 1))).length = LL.length + 1 := by rw [HT1.out]; simp)
      go_roundg (N - (i + 1))
      case measure => have := HGk.out; have := HI.out; omega
      case rel =>
        (refine ⟨i + 1, some ⟨g3, 0, none⟩, cp3, HI.out, rfl, by go_num, by rw [hl9], ?_, by rw [HT2.out]; exact HM3, HV3, HB3⟩); show OwnN _ _ _ _ _; unfold OwnN; rw [hl9, HT1.out, List.map_append]; exact HOw3.out
    · have hii : i = N := by omega
      subst hii; (have hge : ¬ (i : Int) < (i : Int) := by omega); (have htk : ks.take i = ks := List.take_of_length_le (by rw [HKl.out]; exact Nat.le_refl _)); rw [htk] at HOw ⊢; (have HLn : Hid ((numK ks).length = i) := by show _ = _; rw [numK_len, HKl.out]); clear hlt hi htk; go_wp2_with fail; go_ret; (exact ⟨ad, cp, by rw [← HLn.out]; rfl, by rw [HBy.out]; exact HOw.out, HB.out⟩)
end Go.Proofs.Ytclinobfbdljhah
/- Walks: worlds parted ever further (levelsOf, classes). -/
namespace Go.Proofs.Ytclinobfbdljhah
open Go.RowKit Go.Maps Go.WideMaps

theorem NL.getD {w : World} {b n cap : Nat} {l : List Nat} (h : NL w (.slice (some ⟨b, 0, none⟩) n cap) l) : ∀ j, j < (l.map Int.ofNat).length → w.cell? ⟨b, 0 + j, none⟩ = some (.int .i64 ((l.map Int.ofNat).getD j 0)) := fun j hj => by
  rw [List.length_map] at hj; obtain ⟨ad, cp, e, -, hc⟩ := h.at; obtain ⟨b', e2, hc⟩ := hc j l[j] (List.getElem?_eq_getElem hj); simp only [Value.slice.injEq] at e; rw [e2] at e; obtain ⟨e3, -⟩ := e
  cases e3
  rw [Nat.zero_add, hc, List.getD_eq_getElem?_getD, List.getElem?_map, List.getElem?_eq_getElem hj]; rfl
theorem eqN_any {N : Nat} (h0 : 0 < N) (hN : N ≤ 40) (l m : List Nat) (hl : l.length = N) (hm : m.length = N) (a1 a2 : Option Addr) (c1 c2 : Nat) (w : World) (h1 : NL w (.slice a1 N c1) l) (h2 : NL w (.slice a2 N c2) m) :
    Calls Try.prog 98 #[.slice a1 N c1, .slice a2 N c2] w fun e w' => e = .returned (.bool (decide (l = m))) ∧ Below w.heap.size w w' := by
  obtain ⟨b1, rfl⟩ : ∃ b, a1 = some ⟨b, 0, none⟩ := by
    obtain ⟨ad, cp, e, -, hc⟩ := h1.at; (obtain ⟨b', e2, -⟩ := hc 0 l[0] (List.getElem?_eq_getElem (by omega))); simp only [Value.slice.injEq] at e; exact ⟨b', e.1.trans e2⟩
  obtain ⟨b2, rfl⟩ : ∃ b, a2 = some ⟨b, 0, none⟩ := by
    obtain ⟨ad, cp, e, -, hc⟩ := h2.at; (obtain ⟨b', e2, -⟩ := hc 0 m[0] (List.getElem?_eq_getElem (by omega))); simp only [Value.slice.injEq] at e; exact ⟨b', e.1.trans e2⟩
  (refine (Try.slices_Equal_int b1 0 N c1 b2 0 N c2 (l.map Int.ofNat) (m.map Int.ofNat) w (by simp [hl]) (by simp [hm]) (by omega) (by omega) (h1.getD) (h2.getD)).mono ?_); rintro _ w' ⟨rfl, q, rfl⟩; (refine ⟨congrArg (fun b => Ending.returned (Value.bool b)) ?_, below_drewN (Below.refl _ w) q⟩); (rw [List.take_of_length_le (by simp [hl]), List.take_of_length_le (by simp [hm]), Bool.eq_iff_iff, beq_iff_eq, decide_eq_true_iff])
  constructor
  · intro e
    (exact (List.map_inj_right (fun a b h => Int.ofNat.inj h)).1 e)
  · rintro rfl; rfl
theorem infoIs : ∃ i, Try.prog.info? 45 = some i ∧ i.zero = some (.slice none 0 0) ∧ i.size = 1 ∧ i.bytes = 24 := by
  (obtain ⟨i, hi, h⟩ := Option.map_eq_some_iff.1 (show (Try.prog.info? 45).map (fun i => (i.zero, i.size, i.bytes)) = some (some (.slice none 0 0), 1, 24) by kernel_rfl)); simp only [Prod.mk.injEq] at h; exact ⟨i, hi, h.1, h.2.1, h.2.2⟩
/-- Levels in memory: rows of one's own in a row of one's own. -/
structure LvR (B : Nat) (w : World) (ad : Option Addr) (cp : Nat) (ls : List (List Nat)) (vs : List Value) : Prop where
  row : w.ownsRow B 45 1 (.slice ad vs.length cp) vs.length vs
  len : vs.length = ls.length
  each : ∀ (j : Nat) (u : Value) (l : List Nat), vs[j]? = some u → ls[j]? = some l → ∃ a c, u = .slice a l.length c ∧ OwnN B w a c l
theorem OwnN.move {B : Nat} {w w' : World} {ad : Option Addr} {cp : Nat} {l : List Nat} (h : OwnN B w ad cp l) (hk : ∀ (g : Nat) (cur : Array Value), w.heap[g]? = some (.cells cur 3 (0, 0)) → w'.heap[g]? = w.heap[g]?) : OwnN B w' ad cp l :=
  rowM_move h fun g cur _ hh => hk g cur hh
theorem LvR.up {B : Nat} {w w' : World} {ad : Option Addr} {cp : Nat} {ls : List (List Nat)} {vs : List Value} (h : LvR B w ad cp ls vs) (hb : Below w.heap.size w w') : LvR B w' ad cp ls vs :=
  ⟨rowM_up h.row hb, h.len, fun j u l hu hl => by
    obtain ⟨a, c, e, ho⟩ := h.each j u l hu hl
    exact ⟨a, c, e, rowM_up ho hb⟩⟩
/-- When the levels end. -/
structure EndK (N : Nat) (R : Nat → Nat → Bool) (c0 : List Nat) (k : Nat) : Prop where
  before : ∀ i, i < k → levK N R c0 (i + 1) ≠ levK N R c0 i
def levs (N : Nat) (R : Nat → Nat → Bool) (c0 : List Nat) (k : Nat) : List (List Nat) := (List.range (k + 1)).map (levK N R c0)
theorem levs_len (N : Nat) (R : Nat → Nat → Bool) (c0 : List Nat) (k : Nat) : (levs N R c0 k).length = k + 1 := by simp [levs]
theorem levs_get {N : Nat} {R : Nat → Nat → Bool} {c0 : List Nat} {k j : Nat} (h : j ≤ k) : (levs N R c0 k)[j]? = some (levK N R c0 j) := by
  (rw [levs, List.getElem?_map, range_get (by omega)]; rfl)
theorem levs_succ (N : Nat) (R : Nat → Nat → Bool) (c0 : List Nat) (k : Nat) : levs N R c0 (k + 1) = levs N R c0 k ++ [levK N R c0 (k + 1)] := by
  rw [levs, List.range_succ, List.map_append]; rfl
set_option maxRecDepth 10000 in
set_option maxHeartbeats 8000000 in
theorem levels_any {N : Nat} (h0 : 0 < N) (hN : N ≤ 40) (R : Nat → Nat → Bool) (nss : List (List (List UInt8))) (hns : ∀ r ∈ nss, r.length ≤ 30 ∧ ∀ t ∈ r, t.length ≤ 8) (v : Value) (w : World) (hv : VwR w N R nss v) :
    Calls Try.prog 72 #[v] w fun e w' => ∃ k ad cp vs, e = .returned (.slice ad (k + 1) cp) ∧ vs.length = k + 1 ∧ LvR w.heap.size w' ad cp (levs N R (byN nss) k) vs ∧ EndK N R (byN nss) k ∧ levK N R (byN nss) (k + 1) = levK N R (byN nss) k ∧ Below w.heap.size w w' := by
  (have hnl : nss.length = N := by obtain ⟨_, _, -, -, h, -⟩ := hv; exact h); (have HBn : Hid (∀ W, Below w.heap.size w W → Calls Try.prog 96 #[v] W fun e w' => ∃ ad cp, e = .returned (.slice ad N cp) ∧ OwnN W.heap.size w' ad cp (byN nss) ∧ Below W.heap.size W w') := fun W hW => byNames_any hN R nss hns v W (hv.up hW)); (have HPa : Hid (∀ cl vc W, cl.length = N → (∀ n ∈ cl, n < N) → NL W vc cl → Below w.heap.size w W → Calls Try.prog 97 #[v, vc] W fun e w' => ∃ ad cp, e = .returned (.slice ad N cp) ∧ OwnN W.heap.size w' ad cp (partK N R cl) ∧ Below W.heap.size W w') := fun cl vc W h1 h2 h3 hW => parted_any hN R nss cl h1 h2 v vc W (hv.up hW) h3); have HN : Hid (0 < N ∧ N ≤ 40) := ⟨h0, hN⟩; (have hbl : (byN nss).length = N := by rw [byN, numK_len, List.length_map, hnl]); have HLl : Hid (∀ k, (levK N R (byN nss) k).length = N) := levK_len hbl
  have HLt : Hid (∀ k, ∀ n ∈ levK N R (byN nss) k, n < N) := levK_lt fun n hn => by
    have := numK_lt hn; rw [List.length_map, hnl] at this; exact this
  have HTg : Hid (∀ k, (∀ i, i < k → levK N R (byN nss) (i + 1) ≠ levK N R (byN nss) i) → k ≤ N * N) := fun k hk => by
    (have := tog_drop (R := R) hbl (by rw [byN]; exact numK_idem _) k hk); omega
  have HL0 : Hid (byN nss = levK N R (byN nss) 0) := rfl; (have HLs : Hid (∀ k, partK N R (levK N R (byN nss) k) = levK N R (byN nss) (k + 1)) := fun _ => rfl); obtain ⟨g, h, rfl, -⟩ := hv; generalize byN nss = c0 at *; obtain ⟨X, hX⟩ : ∃ X, X = w.alloc (.cells #[.slice (some ⟨g, 0, none⟩) N N, .slice (some ⟨h, 0, none⟩) N N] 84 (0, 0)) := ⟨_, rfl⟩; (have HB0 : Hid (Below w.heap.size w X) := by rw [hX]; exact below_more (Below.refl _ w) _); (have HV0 : Hid (X.heap[w.heap.size]? = some (.cells #[.slice (some ⟨g, 0, none⟩) N N, .slice (some ⟨h, 0, none⟩) N N] 84 (0, 0))) := by rw [hX]; exact blk_new _ _); obtain ⟨q0, q1, -⟩ := blk2 HV0.out; have HXe : Hid (w.alloc (.cells #[.slice (some ⟨g, 0, none⟩) N N, .slice (some ⟨h, 0, none⟩) N N] 84 (0, 0)) = X) := hX.symm; have hNN : N * N ≤ 1600 := Nat.mul_le_mul hN hN; have HNN : Hid (N * N ≤ 1600) := hNN; clear hX hbl hnl h0 hN hns hNN
  go_enter Try.func72, Try.ntmps72
  go_upto_region 1 with fail
  rw [HXe.out]; go_wp2_with fail; refine (HBn.out X HB0.out).mono ?_; rintro _ w1 ⟨ad1, cp1, rfl, ho1, hb1⟩; have HV1 : Hid (w1.heap[w.heap.size]? = some (.cells #[.slice (some ⟨g, 0, none⟩) N N, .slice (some ⟨h, 0, none⟩) N N] 84 (0, 0))) := below_keep hb1 HV0.out; have HB1 : Hid (Below w.heap.size w w1) := below_join HB0.out hb1; have HO1 : Hid (OwnN w.heap.size w1 ad1 cp1 c0) := rowM_low ho1 HB0.out.size; clear ho1 hb1 q0 q1; go_wp2_with fail; obtain ⟨Y, hY⟩ : ∃ Y, Y = w1.alloc (.cells #[.slice ad1 N cp1] 45 (0, 0)) := ⟨_, rfl⟩; have HYe : Hid (w1.alloc (.cells #[.slice ad1 N cp1] 45 (0, 0)) = Y) := hY.symm; rw [← hY]; (have HBY : Hid (Below w.heap.size w Y) := by rw [hY]; exact below_more HB1.out _); (have HVY : Hid (Y.heap[w.heap.size]? = some (.cells #[.slice (some ⟨g, 0, none⟩) N N, .slice (some ⟨h, 0, none⟩) N N] 84 (0, 0))) := by rw [hY]; exact alloc_keep HV1.out _)
  have HL1 : Hid (LvR w.heap.size Y (some ⟨w1.heap.size, 0, none⟩) 1 (levs N R c0 0) [.slice ad1 N cp1]) := by
    (refine ⟨⟨rfl, Or.inr ⟨w1.heap.size, 1, #[.slice ad1 N cp1], rfl, HB1.out.size, by rw [hY]; exact blk_new _ _, by simp, by unfold maxLen; omega, rfl, rfl⟩⟩, by rw [levs_len]; rfl, fun j u l hu hl => ?_⟩)
    have hj : j = 0 := by
      rcases Nat.eq_zero_or_pos j with h | h
      · exact h
      · rw [List.getElem?_eq_none (by simp; omega)] at hu; cases hu
    subst hj; rw [levs_get (Nat.le_refl _)] at hl
    cases hl
    simp at hu; subst hu; have := HLl.out 0; rw [← HL0.out] at this ⊢; (exact ⟨ad1, cp1, by rw [this], by rw [hY]; exact rowM_up HO1.out (below_more (Below.refl _ w1) _)⟩)
  have HY0 : Hid (Below w.heap.size w Y) := HBY.out; clear hY
  go_loopg [3, 4, 5] (N * N + 1) (fun gg x y z wr => ∃ k ad cp vs, gg = N * N + 1 - k ∧ x = .slice ad (k + 1) cp ∧ Hid (vs.length = k + 1) ∧ Hid (LvR w.heap.size wr ad cp (levs N R c0 k) vs) ∧ Hid (EndK N R c0 k) ∧ Hid (wr.heap[w.heap.size]? = some (.cells #[.slice (some ⟨g, 0, none⟩) N N, .slice (some ⟨h, 0, none⟩) N N] 84 (0, 0))) ∧ Hid (Below w.heap.size w wr))
  case atStart => exact ⟨0, _, _, _, by omega, rfl, by show _ = _; rfl, HL1, ⟨fun i hi => by omega⟩, HVY, HY0⟩
  case round =>
    obtain ⟨k, ad, cp, vs, hg, rfl, HVl, HLv, HEk, HVr, HB⟩ := hrel; have HGk : Hid (gk = N * N + 1 - k) := hg; have hkN := HTg.out k HEk.out.before; (have hkI : (k : Int) ≤ 1600 := by have := HNN.out; omega); clear hg; obtain ⟨q0, q1, -⟩ := blk2 HVr.out; (obtain ⟨u, hu⟩ : ∃ u, vs[k]? = some u := ⟨_, List.getElem?_eq_getElem (by have := HVl.out; omega)⟩); obtain ⟨au, cu, hue, hou⟩ := HLv.out.each k u _ hu (levs_get (Nat.le_refl _)); rw [HLl.out k] at hue; subst hue; have hrw := HLv.out.row; obtain ⟨hc1, hc2⟩ := rowM_caps hrw; (obtain ⟨b, rfl, hcb⟩ := rowM_cells hrw (by have := HVl.out; omega)); have c1 := hcb k _ hu; rw [Nat.zero_add] at c1; (have hkc : (k : Int) < (cp : Int) := by have := HVl.out; omega); have HOu : Hid (OwnN w.heap.size wr au cu (levK N R c0 k)) := hou; (have HNu : Hid (NL wr (.slice au N cu) (levK N R c0 k)) := by have := hou.nl; rwa [HLl.out k] at this); have HPc := HPa.out (levK N R c0 k) (.slice au N cu) wr (HLl.out k) (HLt.out k) HNu.out HB.out; clear hkN hu hou hrw hc1 hc2 hcb; go_wp2_with fail; refine HPc.mono ?_; rintro _ w2 ⟨ad2, cp2, rfl, ho2, hb2⟩; rw [HLs.out k] at ho2; have HV2 : Hid (w2.heap[w.heap.size]? = some (.cells #[.slice (some ⟨g, 0, none⟩) N N, .slice (some ⟨h, 0, none⟩) N N] 84 (0, 0))) := below_keep hb2 HVr.out; have HB2 : Hid (Below w.heap.size w w2) := below_join HB.out hb2; have HO2 : Hid (OwnN w.heap.size w2 ad2 cp2 (levK N R c0 (k + 1))) := rowM_low ho2 HB.out.size; have HLv2 : Hid (LvR w.heap.size w2 (some ⟨b, 0, none⟩) cp (levs N R c0 k) vs) := HLv.out.up hb2; have HNu2 : Hid (NL w2 (.slice au N cu) (levK N R c0 k)) := NL.up HNu.out hb2; (have HNw : Hid (NL w2 (.slice ad2 N cp2) (levK N R c0 (k + 1))) := by have := HO2.out.nl; rwa [HLl.out (k + 1)] at this); have HEq := eqN_any HN.out.1 HN.out.2 (levK N R c0 (k + 1)) (levK N R c0 k) (HLl.out _) (HLl.out _) ad2 au cp2 cu w2 HNw.out HNu2.out; clear ho2 hb2 HPc c1 q0 q1; go_wp2_with fail; refine HEq.mono ?_; rintro _ w3 ⟨rfl, hb3⟩; have HV3 : Hid (w3.heap[w.heap.size]? = some (.cells #[.slice (some ⟨g, 0, none⟩) N N, .slice (some ⟨h, 0, none⟩) N N] 84 (0, 0))) := below_keep hb3 HV2.out; have HB3 : Hid (Below w.heap.size w w3) := below_join HB2.out hb3; have HO3 : Hid (OwnN w.heap.size w3 ad2 cp2 (levK N R c0 (k + 1))) := rowM_up HO2.out hb3; have HLv3 : Hid (LvR w.heap.size w3 (some ⟨b, 0, none⟩) cp (levs N R c0 k) vs) := HLv2.out.up hb3; clear hb3 HEq; by_cases he : levK N R c0 (k + 1) = levK N R c0 k
    · rw [decide_eq_true he]
      have HE : Hid (levK N R c0 (k + 1) = levK N R c0 k) := he; clear he; go_wp2_with fail; go_ret; exact ⟨k, _, _, vs, rfl, HVl.out, HLv3.out, HEk.out, HE.out, HB3.out⟩
    · rw [decide_eq_false he]
      have HE : Hid (levK N R c0 (k + 1) ≠ levK N R c0 k) := he
      have HEk1 : Hid (EndK N R c0 (k + 1)) := ⟨fun i hi => by
        rcases Nat.lt_or_ge i k with h1 | h1
        · exact HEk.out.before i h1
        · have : i = k := by omega
          rw [this]; exact he⟩
      clear he; obtain ⟨i0, hi0, hz0, hz1, hz2⟩ := infoIs; have hvl := HVl.out
      go_wp2_with (first
        | (at_builtin
           have hsz := HB3.out.size; have hown := rowM_up HLv3.out.row ((Below.refl _ w3).alloc (Nat.le_refl _) (.cells #[.slice ad2 N cp2] 45 (0, 0))); rw [hvl] at hown; (refine wpList_append_lies _ rfl _ _ 91 rfl w.heap.size 45 i0 (.slice none 0 0) 1 24 Try.underlying91 hi0 hz0 hz1 hz2 rfl (by decide) (.slice (some ⟨b, 0, none⟩) (k + 1) cp) (k + 1) vs rfl hown ⟨w3.heap.size, 0, none⟩ 1 1 [.slice ad2 N cp2] rfl rfl ?_ ?_ (by omega) (by unfold maxLen; omega) (by omega) (by simp; omega) _ rfl ?_)
           · intro j u hu
             rw [add_none, Nat.zero_add, blk_cell (blk_new w3 _)]; simpa using hu
           · intro u hu
             simp at hu; subst hu; rfl
           intro g3 cp3 w4 hown3 hgrow hat hlt3; have hgrow' : (w3.alloc (.cells #[.slice ad2 N cp2] 45 (0, 0))).grownBy w4 (some b) := hgrow
           obtain ⟨curb, hcurb⟩ : ∃ cur, w3.heap[b]? = some (.cells cur 45 (0, 0)) := by
             rcases HLv3.out.row.2 with ⟨h5, -⟩ | ⟨g5, cap5, cur5, hv5, -, hh5, -⟩
             · cases h5
             · simp only [Value.slice.injEq, Option.some.injEq] at hv5
               obtain ⟨e5, -⟩ := hv5
               cases e5
               exact ⟨_, hh5⟩
           have hlb : w.heap.size ≤ b := (World.ownsRow.lt HLv3.out.row b rfl).1; (have HB4 : Hid (Below w.heap.size w w4) := ((HB3.out.alloc hsz _).grown hgrow' (by simp; omega) fun k hk => by cases hk; exact hlb))
           have HMv : Hid (∀ (q : Nat) (cur : Array Value), w3.heap[q]? = some (.cells cur 3 (0, 0)) → w4.heap[q]? = w3.heap[q]?) := fun q cur hq => (hgrow'.block q (by have := lt_of_block hq; simp; omega) fun e => by
             cases e
             rw [hcurb] at hq
             simp at hq).trans (Below.heap_alloc _ _ q (lt_of_block hq))
           have HV4 : Hid (w4.heap[w.heap.size]? = some (.cells #[.slice (some ⟨g, 0, none⟩) N N, .slice (some ⟨h, 0, none⟩) N N] 84 (0, 0))) := (hgrow'.block _ (by have := lt_of_block HV3.out; simp; omega) fun e => by
             cases e
             rw [hcurb] at HV3; have := HV3.out
             simp at this).trans (alloc_keep HV3.out _)
           have HOw3 : Hid (w4.ownsRow w.heap.size 45 1 (.slice (some ⟨g3, 0, none⟩) (k + 1 + 1) cp3) (k + 1 + 1) (vs ++ [.slice ad2 N cp2])) := hown3
           clear hgrow hgrow' hat hown3 hown hsz hlt3 hi0 hz0 hz1 hz2 hcurb hlb)
        | fail)
      have HLv4 : Hid (LvR w.heap.size w4 (some ⟨g3, 0, none⟩) cp3 (levs N R c0 (k + 1)) (vs ++ [.slice ad2 N cp2])) := by
        (refine ⟨?_, by rw [List.length_append, levs_len, hvl]; rfl, fun j u l hu hl => ?_⟩)
        · rw [List.length_append, hvl]
          exact HOw3.out
        · rcases Nat.lt_or_ge j vs.length with hj | hj
          · rw [List.getElem?_append_left hj] at hu
            (rw [levs_succ, List.getElem?_append_left (by rw [levs_len]; omega)] at hl); obtain ⟨a, c, e, ho⟩ := HLv3.out.each j u l hu hl; exact ⟨a, c, e, ho.move HMv.out⟩
          · have hj2 : j = k + 1 := by
              have := (List.getElem?_eq_some_iff.1 hl).1; rw [levs_len] at this; omega
            subst hj2; rw [levs_get (Nat.le_refl _)] at hl
            cases hl
            (rw [List.getElem?_append_right (by omega), hvl] at hu); simp at hu; subst hu; (exact ⟨ad2, cp2, by rw [HLl.out], HO3.out.move HMv.out⟩)
      have hkN := HTg.out (k + 1) HEk1.out.before
      go_roundg (N * N + 1 - (k + 1))
      case measure => have := HGk.out; omega
      case rel => exact ⟨k + 1, _, _, _, rfl, by go_num, by show _ = _; rw [List.length_append, hvl]; rfl, HLv4, HEk1, HV4, HB4⟩
end Go.Proofs.Ytclinobfbdljhah
