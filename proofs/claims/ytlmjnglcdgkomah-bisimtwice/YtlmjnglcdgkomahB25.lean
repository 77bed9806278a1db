/- Texts of one proof, one behind the other: SBE, SBG, SBH. -/
import Derived.Test.YtlmjnglcdgkomahB24
import Derived.Test.YtlmjnglcdgkomahB20
import Derived.Deep.QuietTactic
import Derived.BigQuiet
/- Walks: bisim.Classes. -/
namespace Go.Proofs.Ytlmjnglcdgkomah
open Go.RowKit

theorem wfirst_twoS : ∀ (ls : List (List (List UInt8))) (i : Nat), (wfirst ls i).1 = 0 → (wfirst ls i).2 = 0
  | [], _, _ => rfl
  | l :: ls, i, h => by
    rw [wfirst] at h ⊢
    split
    · rename_i h1
      rw [if_pos h1] at h; exact wfirst_twoS ls (i + 1) h
    · rename_i h1
      rw [if_neg h1] at h; exact absurd h h1
theorem mdcode_twoS {W P : Int} {m : Mdl} (h0 : (mdcode W P m).1 = 0) : mdcode W P m = (0, 0) := by
  refine Prod.ext h0 ?_; unfold mdcode at h0 ⊢
  split at h0
  · cases h0
  rename_i h1
  rw [if_neg h1]
  split at h0
  · cases h0
  rename_i h2
  rw [if_neg h2]
  split at h0
  · cases h0
  rename_i h3
  rw [if_neg h3]; exact wfirst_twoS _ _ h0
theorem isNm_eight {t : List UInt8} (h : isNm t = true) : t.length ≤ 8 := by
  unfold isNm at h; simp only [Bool.and_eq_true, decide_eq_true_iff] at h; exact h.1.2
theorem nmz_mem {r : List (List UInt8)} {t : List UInt8} (h : t ∈ nmz r) : t ∈ r := by
  have h1 : t ∈ srt r := (compact_mem _ _).1 h; exact (List.mem_mergeSort).1 h1
theorem nmz_small {r : List (List UInt8)} (h : r.length ≤ 30 ∧ ∀ t ∈ r, isNm t = true) : (nmz r).length ≤ 30 ∧ ∀ t ∈ nmz r, t.length ≤ 8 := by
  (refine ⟨?_, fun t ht => isNm_eight (h.2 t (nmz_mem ht))⟩); have h1 := compact_small (srt r); have h2 : (srt r).length = r.length := List.length_mergeSort ..; have := h.1; unfold nmz; omega
set_option maxRecDepth 10000 in
set_option maxHeartbeats 4000000 in
theorem Classes_bad (m : Mdl) (h0 : (mdcode 40 2000 m).1 ≠ 0) (v : Value) (w : World) (hv : MR w m v) :
    Calls Try.prog 17 #[v] w fun e w' => e = .returned (.tuple #[.slice none 0 0, .agg #[.int .i64 (mdcode 40 2000 m).1, .int .i64 (mdcode 40 2000 m).2]]) ∧ Below w.heap.size w w' := by
  (have HCk : Hid (∀ w, MR w m v → Calls Try.prog 38 #[v] w fun e w' => e = .returned (.agg #[.int .i64 (mdcode 40 2000 m).1, .int .i64 (mdcode 40 2000 m).2]) ∧ Below w.heap.size w w') := fun w h => kCheck_any m v w h); have HV : Hid (MR w m v) := hv; obtain ⟨ra, rc, ta, tc, rfl, -⟩ := hv; generalize mdcode 40 2000 m = md at *; obtain ⟨c, a⟩ := md; (have hcn : (c != 0) = true := by simpa using h0); obtain ⟨W, hW⟩ : ∃ W, W = (w.alloc (.cells #[.int .i64 m.n, .slice ra m.rel.length rc, .slice ta m.tr.length tc] 30 (0, 0))).alloc (.cells #[.int .i64 0, .int .i64 0] 32 (0, 0)) := ⟨_, rfl⟩; (have HB0 : Hid (Below w.heap.size w W) := by rw [hW]; exact below_more (below_more (Below.refl _ w) _) _); (have HQ2 : Hid (W.heap[w.heap.size + 1]? = some (.cells #[.int .i64 0, .int .i64 0] 32 (0, 0))) := by rw [hW]; exact blk_secE _ _ _); clear h0
  go_enter Try.func17, Try.ntmps17
  go_wp2_with fail; rw [← hW]; refine (HCk.out _ (HV.out.up HB0.out)).mono ?_; rintro _ w1 ⟨rfl, hb1⟩; have HB1 : Hid (Below w.heap.size w w1) := below_join HB0.out hb1; have HR2 : Hid (w1.heap[w.heap.size + 1]? = some (.cells #[.int .i64 0, .int .i64 0] 32 (0, 0))) := below_keep hb1 HQ2.out; clear hb1 hW; obtain ⟨X, hX⟩ : ∃ X, w1.alloc (.cells #[.int .i64 c, .int .i64 a] 32 (0, 0)) = X := ⟨_, rfl⟩; (have HX2 : Hid (X.heap[w.heap.size + 1]? = some (.cells #[.int .i64 0, .int .i64 0] 32 (0, 0))) := by rw [← hX]; exact alloc_keep HR2.out _); obtain ⟨q20, q21, q22, q23⟩ := blk2 HX2.out; (obtain ⟨q30, q31, -⟩ := blk2 (show X.heap[w1.heap.size]? = some _ by rw [← hX]; exact blk_new _ _)); (have HBX : Hid (Below w.heap.size w X) := by rw [← hX]; exact below_more HB1.out _); have zb2 := lt_of_block HR2.out; (have n3 : ¬ w1.heap.size = w.heap.size + 1 := by omega); (have n4 : ¬ w.heap.size + 1 = w1.heap.size := by omega); go_wp2_with fail
  go_region
  all_goals
    go_wp2_with fail; obtain ⟨F, hF⟩ : ∃ F, F = (X.setCell ⟨w.heap.size + 1, 0, none⟩ (.int .i64 c)).setCell ⟨w.heap.size + 1, 1, none⟩ (.int .i64 a) := ⟨_, rfl⟩; (have HF2 : Hid (F.heap[w.heap.size + 1]? = some (.cells #[.int .i64 c, .int .i64 a] 32 (0, 0))) := by rw [hF]; exact set2 HX2.out _ _); (have HF3 : Hid (Below w.heap.size w F) := by rw [hF]; exact (HBX.out.setCell (p := ⟨w.heap.size + 1, 0, none⟩) (by simp) _).setCell (p := ⟨w.heap.size + 1, 1, none⟩) (by simp) _); rw [← hF]; clear hF q20 q21 q22 q23; obtain ⟨o6, o7, -⟩ := blk2 HF2.out; (exact bodyPost_ret (v := .tuple #[.slice none 0 0, .agg #[.int .i64 c, .int .i64 a]]) (by simp [results, Try.results17, go_sem, o6, o7]) rfl ⟨rfl, HF3.out.drew⟩)
set_option maxRecDepth 10000 in
set_option maxHeartbeats 4000000 in
theorem Classes_ok (N : Nat) (rel : List (Int × Int)) (tr : List (List (List UInt8))) (h0 : mdcode 40 2000 ⟨(N : Int), rel, tr⟩ = (0, 0)) (v : Value) (w : World) (hv : MR w ⟨(N : Int), rel, tr⟩ v) :
    Calls Try.prog 17 #[v] w fun e w' => ∃ ad cp, e = .returned (.tuple #[.slice ad N cp, .agg #[.int .i64 0, .int .i64 0]]) ∧ OwnN w.heap.size w' ad cp (clsK N (relB rel) (tr.map nmz)) ∧ Below w.heap.size w w' := by
  (obtain ⟨N', hN', hN1, hN2, hrl, htl, hin⟩ := mdcode_in (show (mdcode 40 2000 ⟨(N : Int), rel, tr⟩).1 = 0 by rw [h0])); (have hnn : N' = N := by simp only at hN'; omega); subst hnn; (have hnm := mdcode_names (show (mdcode 40 2000 ⟨(N' : Int), rel, tr⟩).1 = 0 by rw [h0])); simp only at hrl htl hin hnm; (have hN40 : N' ≤ 40 := by omega); obtain ⟨ec, hec⟩ : ∃ ec : Int, (0 : Int) = ec := ⟨_, rfl⟩; obtain ⟨ea, hea⟩ : ∃ ea : Int, ((0 : Int), (0 : Int)).2 = ea := ⟨_, rfl⟩
  have HCk : Hid (∀ w, MR w ⟨(N' : Int), rel, tr⟩ v → Calls Try.prog 38 #[v] w fun e w' => e = .returned (.agg #[.int .i64 ec, .int .i64 ea]) ∧ Below w.heap.size w w') := fun w h => by
    have := kCheck_any _ v w h; rw [h0] at this; rw [← hec, ← hea]; exact this
  (have hcn : (ec != 0) = false := by rw [← hec]; rfl); have HV : Hid (MR w ⟨(N' : Int), rel, tr⟩ v) := hv; obtain ⟨ra, rc, ta, tc, rfl, hpl, hsl, -⟩ := hv; simp only at hpl hsl HCk HV ⊢; (have HVo : Hid (∀ wx, Below w.heap.size w wx → Calls Try.prog 39 #[.agg #[.int .i64 (N' : Nat), .slice ra rel.length rc, .slice ta tr.length tc]] wx _) := fun wx hb => viewOf_any N' hN1 hN40 rel (by omega) hin tr htl (fun r hr => (hnm r hr).1) ra ta rc tc wx (hpl.up hb) (hsl.upM hb))
  have HCl : Hid (∀ x wx, VwR wx N' (relB rel) (tr.map nmz) x → Calls Try.prog 40 #[x] wx _) := fun x wx h => vclasses_any hN1 hN40 (relB rel) (tr.map nmz) (fun r hr => by
    obtain ⟨r0, hr0, rfl⟩ := List.mem_map.1 hr
    exact nmz_small (hnm r0 hr0)) x wx h
  generalize clsK N' (relB rel) (tr.map nmz) = cl at *; obtain ⟨W, hW⟩ : ∃ W, W = (w.alloc (.cells #[.int .i64 (N' : Nat), .slice ra rel.length rc, .slice ta tr.length tc] 30 (0, 0))).alloc (.cells #[.int .i64 0, .int .i64 0] 32 (0, 0)) := ⟨_, rfl⟩; (have HB0 : Hid (Below w.heap.size w W) := by rw [hW]; exact below_more (below_more (Below.refl _ w) _) _); (have HQ0 : Hid (W.heap[w.heap.size]? = some (.cells #[.int .i64 (N' : Nat), .slice ra rel.length rc, .slice ta tr.length tc] 30 (0, 0))) := by rw [hW]; exact alloc_keep (blk_new _ _) _); (have HQ2 : Hid (W.heap[w.heap.size + 1]? = some (.cells #[.int .i64 0, .int .i64 0] 32 (0, 0))) := by rw [hW]; exact blk_secE _ _ _); clear h0 hec hea hpl hsl hrl hin hnm htl hN1 hN2 hN40 hN'
  go_enter Try.func17, Try.ntmps17
  go_wp2_with fail; rw [← hW]; refine (HCk.out _ (HV.out.up HB0.out)).mono ?_; rintro _ w1 ⟨rfl, hb1⟩; have HB1 : Hid (Below w.heap.size w w1) := below_join HB0.out hb1; have HR0 : Hid (w1.heap[w.heap.size]? = some (.cells #[.int .i64 (N' : Nat), .slice ra rel.length rc, .slice ta tr.length tc] 30 (0, 0))) := below_keep hb1 HQ0.out; have HR2 : Hid (w1.heap[w.heap.size + 1]? = some (.cells #[.int .i64 0, .int .i64 0] 32 (0, 0))) := below_keep hb1 HQ2.out; clear hb1 hW; obtain ⟨X, hX⟩ : ∃ X, w1.alloc (.cells #[.int .i64 ec, .int .i64 ea] 32 (0, 0)) = X := ⟨_, rfl⟩; (have HX2 : Hid (X.heap[w.heap.size + 1]? = some (.cells #[.int .i64 0, .int .i64 0] 32 (0, 0))) := by rw [← hX]; exact alloc_keep HR2.out _); (obtain ⟨q0, q1, q2, -⟩ := blk3 (show X.heap[w.heap.size]? = some _ by rw [← hX]; exact alloc_keep HR0.out _)); (obtain ⟨q30, q31, -⟩ := blk2 (show X.heap[w1.heap.size]? = some _ by rw [← hX]; exact blk_new _ _)); (have HBX : Hid (Below w.heap.size w X) := by rw [← hX]; exact below_more HB1.out _); go_wp2_with fail; refine (HVo.out X HBX.out).mono ?_; rintro _ w2 ⟨x, rfl, hx, hb2⟩; have HX3 : Hid (VwR w2 N' (relB rel) (tr.map nmz) x) := hx; have HB2 : Hid (Below w.heap.size w w2) := below_join HBX.out hb2; have HS2 : Hid (w2.heap[w.heap.size + 1]? = some (.cells #[.int .i64 0, .int .i64 0] 32 (0, 0))) := below_keep hb2 HX2.out; clear hb2 hx q0 q1 q2 q30 q31 hX; go_wp2_with fail; refine (HCl.out x w2 HX3.out).mono ?_; rintro _ w3 ⟨ad, cp, rfl, ho3, hb3⟩; have HO3 : Hid (OwnN w.heap.size w3 ad cp cl) := rowM_low ho3 HB2.out.size; have HB3 : Hid (Below w.heap.size w w3) := below_join HB2.out hb3; have HS3 : Hid (w3.heap[w.heap.size + 1]? = some (.cells #[.int .i64 0, .int .i64 0] 32 (0, 0))) := below_keep hb3 HS2.out; obtain ⟨r0, r1, r2, r3⟩ := blk2 HS3.out; clear hb3 ho3; go_wp2_with fail; obtain ⟨F, hF⟩ : ∃ F, F = (w3.setCell ⟨w.heap.size + 1, 0, none⟩ (.int .i64 0)).setCell ⟨w.heap.size + 1, 1, none⟩ (.int .i64 0) := ⟨_, rfl⟩; (have HF2 : Hid (F.heap[w.heap.size + 1]? = some (.cells #[.int .i64 0, .int .i64 0] 32 (0, 0))) := by rw [hF]; exact set2 HS3.out _ _); (have HF3 : Hid (Below w.heap.size w F) := by rw [hF]; exact (HB3.out.setCell (p := ⟨w.heap.size + 1, 0, none⟩) (by simp) _).setCell (p := ⟨w.heap.size + 1, 1, none⟩) (by simp) _)
  have HFo : Hid (OwnN w.heap.size F ad cp cl) := OwnN.move HO3.out fun q cur hq => by
    (rw [hF, blk_otherS _ (fun e => by rw [e, HS3.out] at hq; simp at hq), blk_otherS _ (fun e => by rw [e, HS3.out] at hq; simp at hq)])
  rw [← hF]; clear hF r0 r1 r2 r3; obtain ⟨o6, o7, -⟩ := blk2 HF2.out; (exact bodyPost_ret (v := .tuple #[.slice ad N' cp, .agg #[.int .i64 0, .int .i64 0]]) (by simp [results, Try.results17, go_sem, o6, o7]) rfl ⟨ad, cp, rfl, HFo.out, HF3.out⟩)
end Go.Proofs.Ytlmjnglcdgkomah
/- Two copies of a model beside each other, as data: they have the classes of one. -/
namespace Go.Proofs.Ytlmjnglcdgkomah
open Go.RowKit

theorem bm_more {N M : Nat} (h : N ≤ M) (P : Nat → Bool) (hP : ∀ i, N ≤ i → P i = false) : bm M P = bm N P := by
  (refine (bm_eq fun i => ?_).symm); rw [bm_bit]; by_cases h1 : i < N
  · rw [decide_eq_true h1, decide_eq_true (show i < M by omega)]
  · rw [hP i (by omega)]; simp
structure TwoR (N : Nat) (R S : Nat → Nat → Bool) : Prop where
  aa : ∀ u v, u < N → v < N → S u v = R u v
  ab : ∀ u v, u < N → v < N → S u (N + v) = false
  ba : ∀ u v, u < N → v < N → S (N + u) v = false
  bb : ∀ u v, u < N → v < N → S (N + u) (N + v) = R u v
theorem any_range_two (N : Nat) (p : Nat → Bool) : (List.range (2 * N)).any p = ((List.range N).any p || (List.range N).any fun v => p (N + v)) := by
  rw [Nat.two_mul, List.range_add, List.any_append, List.any_map]; rfl
theorem getD_left {c : List Nat} {N u : Nat} (hc : c.length = N) (h : u < N) : (c ++ c).getD u 0 = c.getD u 0 := by
  (rw [List.getD_eq_getElem?_getD, List.getD_eq_getElem?_getD, List.getElem?_append_left (by omega)])
theorem getD_right {c : List Nat} {N : Nat} (hc : c.length = N) (u : Nat) : (c ++ c).getD (N + u) 0 = c.getD u 0 := by
  (rw [List.getD_eq_getElem?_getD, List.getD_eq_getElem?_getD, List.getElem?_append_right (by omega), hc])
  congr 2
  omega
theorem any_congr {N : Nat} {p q : Nat → Bool} (h : ∀ v, v < N → p v = q v) : (List.range N).any p = (List.range N).any q := by
  rw [Bool.eq_iff_iff, List.any_eq_true, List.any_eq_true]
  constructor
  · rintro ⟨v, hv, e⟩; exact ⟨v, hv, by rw [← h v (List.mem_range.1 hv)]; exact e⟩
  · rintro ⟨v, hv, e⟩; exact ⟨v, hv, by rw [h v (List.mem_range.1 hv)]; exact e⟩
theorem any_none {N : Nat} {p : Nat → Bool} (h : ∀ v, v < N → p v = false) : (List.range N).any p = false := by
  rw [List.any_eq_false]; intro v hv; rw [h v (List.mem_range.1 hv)]
  simp
theorem sees_two {N : Nat} {R S : Nat → Nat → Bool} (h : TwoR N R S) {c : List Nat} (hc : c.length = N) (u k : Nat) (hu : u < N) : seesC (2 * N) S (c ++ c) u k = seesC N R c u k ∧ seesC (2 * N) S (c ++ c) (N + u) k = seesC N R c u k := by
  unfold seesC; rw [any_range_two, any_range_two]
  constructor
  · rw [any_none (p := fun v => S u (N + v) && _) fun v hv => by rw [h.ab u v hu hv]; rfl, Bool.or_false]
    (exact any_congr fun v hv => by rw [h.aa u v hu hv, getD_left hc hv])
  · rw [any_none (p := fun v => S (N + u) v && _) fun v hv => by rw [h.ba u v hu hv]; rfl, Bool.false_or]
    (exact any_congr fun v hv => by rw [h.bb u v hu hv, getD_right hc])
theorem sees_high {N : Nat} {R : Nat → Nat → Bool} {c : List Nat} (hc : c.length = N) (hl : ∀ n ∈ c, n < N) (u k : Nat) (hk : N ≤ k) : seesC N R c u k = false := by
  unfold seesC; (refine any_none fun v hv => ?_)
  have : c.getD v 0 < N := by
    (rw [List.getD_eq_getElem?_getD, List.getElem?_eq_getElem (by omega)]); exact hl _ (List.getElem_mem _)
  (have h2 : (c.getD v 0 == k) = false := beq_eq_false_iff_ne.2 (by omega)); rw [h2, Bool.and_false]
theorem part_two {N : Nat} {R S : Nat → Nat → Bool} (h : TwoR N R S) {c : List Nat} (hc : c.length = N) (hl : ∀ n ∈ c, n < N) : partK (2 * N) S (c ++ c) = partK N R c ++ partK N R c := by
  have e : (List.range (2 * N)).map (sightK (2 * N) (2 * N) S (c ++ c)) = (List.range N).map (sightK N N R c) ++ (List.range N).map (sightK N N R c) := by
    rw [Nat.two_mul, List.range_add, List.map_append, List.map_map, ← Nat.two_mul]
    congr 1
    · refine List.map_congr_left fun u hu => ?_
      have hu := List.mem_range.1 hu; rw [sightK, sightK, getD_left hc hu]
      congr 1
      (rw [← bm_more (M := 2 * N) (by omega) _ fun i hi => sees_high hc hl u i hi]); (exact bm_ext fun i _ => (sees_two h hc u i hu).1)
    · refine List.map_congr_left fun u hu => ?_
      have hu := List.mem_range.1 hu; show sightK (2 * N) (2 * N) S (c ++ c) (N + u) = _; rw [sightK, sightK, getD_right hc]
      congr 1
      (rw [← bm_more (M := 2 * N) (by omega) _ fun i hi => sees_high hc hl u i hi]); (exact bm_ext fun i _ => (sees_two h hc u i hu).2)
  unfold partK; rw [e]; exact numK_twice _
theorem lev_two {N : Nat} {R S : Nat → Nat → Bool} (h : TwoR N R S) {c : List Nat} (hc : c.length = N) (hl : ∀ n ∈ c, n < N) : ∀ k, levK (2 * N) S (c ++ c) k = levK N R c k ++ levK N R c k
  | 0 => rfl
  | k + 1 => by
    rw [levK, lev_two h hc hl k, part_two h (levK_len hc k) (levK_lt hl k)]; rfl
/-- The levels come to an end. -/
theorem lev_end {N : Nat} {R : Nat → Nat → Bool} {c : List Nat} (hc : c.length = N) (hn : numK c = c) : ∃ k, k ≤ N * N ∧ levK N R c (k + 1) = levK N R c k := by
  apply Classical.byContradiction; intro hno; (have := tog_drop (R := R) hc hn (N * N + 1) fun i hi e => hno ⟨i, by omega, e⟩); omega
theorem last_at {N : Nat} {R : Nat → Nat → Bool} {c : List Nat} (hc : c.length = N) (hn : numK c = c) {j : Nat} (hj : N * N ≤ j) : levK N R c j = lastK N R c := by
  obtain ⟨k, hk, e⟩ := lev_end (R := R) hc hn; (rw [lastK, levK_still e j (by omega), levK_still e (N * N + 1) (by omega)])
theorem byN_two (nss : List (List (List UInt8))) : byN (nss ++ nss) = byN nss ++ byN nss := by
  unfold byN; rw [List.map_append]; exact numK_twice _
theorem byN_len (nss : List (List (List UInt8))) : (byN nss).length = nss.length := by rw [byN, numK_len, List.length_map]
theorem byN_lt {nss : List (List (List UInt8))} : ∀ n ∈ byN nss, n < nss.length := fun n hn => by
  have := numK_lt hn
  rwa [List.length_map] at this
theorem cls_two {N : Nat} {R S : Nat → Nat → Bool} (h : TwoR N R S) (nss : List (List (List UInt8))) (hl : nss.length = N) : clsK (2 * N) S (nss ++ nss) = clsK N R nss ++ clsK N R nss := by
  (have h1 : (byN nss).length = N := by rw [byN_len, hl]); (have h2 : ∀ n ∈ byN nss, n < N := by rw [← hl]; exact byN_lt); (have h3 : numK (byN nss) = byN nss := by rw [byN]; exact numK_idem _); unfold clsK
  rw [byN_two, lastK, lev_two h h1 h2, last_at h1 h3 (by
    (have : N * N ≤ 2 * N * (2 * N) := Nat.mul_le_mul (by omega) (by omega))
    omega)]
/-- The pairs of two copies. -/
def relTwo (N : Nat) (rel : List (Int × Int)) : List (Int × Int) := rel ++ rel.map fun p => (p.1 + (N : Int), p.2 + (N : Int))
theorem mem_rel {rel : List (Int × Int)} {u v : Nat} : relB rel u v = true ↔ ((u : Int), (v : Int)) ∈ rel := by
  unfold relB; exact List.contains_iff_mem
theorem relTwo_ok {N : Nat} {rel : List (Int × Int)} (hin : InR N rel) : TwoR N (relB rel) (relB (relTwo N rel)) := by
  have hup : ∀ x y : Int, (x, y) ∈ (rel.map fun p => (p.1 + (N : Int), p.2 + (N : Int))) ↔ (x - N, y - N) ∈ rel := fun x y => by
    rw [List.mem_map]
    constructor
    · rintro ⟨⟨a, b⟩, hp, e⟩
      simp only [Prod.mk.injEq] at e; (have e1 : x - N = a := by omega); (have e2 : y - N = b := by omega); rw [e1, e2]; exact hp
    · intro hp
      (exact ⟨_, hp, by simp only [Prod.mk.injEq]; omega⟩)
  (have hr : ∀ x y : Int, (x, y) ∈ rel → 0 ≤ x ∧ x < N ∧ 0 ≤ y ∧ y < N := fun x y hp => hin _ hp); (refine ⟨fun u v hu hv => ?_, fun u v hu hv => ?_, fun u v hu hv => ?_, fun u v hu hv => ?_⟩)
  · rw [Bool.eq_iff_iff, mem_rel, mem_rel, relTwo, List.mem_append, hup]
    constructor
    · rintro (h | h)
      · exact h
      · have := hr _ _ h; omega
    · exact Or.inl
  · rw [Bool.eq_false_iff]
    intro e; rw [mem_rel, relTwo, List.mem_append, hup] at e
    rcases e with h | h
    · have := hr _ _ h; omega
    · have := hr _ _ h; omega
  · rw [Bool.eq_false_iff]
    intro e; rw [mem_rel, relTwo, List.mem_append, hup] at e
    rcases e with h | h
    · have := hr _ _ h; omega
    · have := hr _ _ h; omega
  · rw [Bool.eq_iff_iff, mem_rel, mem_rel, relTwo, List.mem_append, hup]
    (have e1 : ((N + u : Nat) : Int) - N = u := by omega); (have e2 : ((N + v : Nat) : Int) - N = v := by omega); rw [e1, e2]
    constructor
    · rintro (h | h)
      · have := hr _ _ h; omega
      · exact h
    · exact Or.inr
theorem wfirst_app : ∀ (a b : List (List (List UInt8))) (i : Nat), (∀ l ∈ a, wcode l = 0) → (∀ l ∈ b, wcode l = 0) → wfirst (a ++ b) i = (0, 0)
  | [], [], _, _, _ => rfl
  | [], l :: b, i, ha, hb => by
    show wfirst (l :: b) i = _; (rw [wfirst, if_pos (hb l (by simp))])
    exact wfirst_app [] b (i + 1) ha fun x hx => hb x (by simp [hx])
  | l :: a, b, i, ha, hb => by
    show wfirst (l :: (a ++ b)) i = _; (rw [wfirst, if_pos (ha l (by simp))]); (exact wfirst_app a b (i + 1) (fun x hx => ha x (by simp [hx])) hb)
theorem md_two {N : Nat} {rel : List (Int × Int)} {tr : List (List (List UInt8))} (h0 : mdcode 40 2000 ⟨(N : Int), rel, tr⟩ = (0, 0)) (hN : N ≤ 20) (hr : rel.length ≤ 1000) : mdcode 40 2000 ⟨((2 * N : Nat) : Int), relTwo N rel, tr ++ tr⟩ = (0, 0) := by
  (obtain ⟨N', hN', hN1, hN2, hrl, htl, hin⟩ := mdcode_in (show (mdcode 40 2000 ⟨(N : Int), rel, tr⟩).1 = 0 by rw [h0])); (have hnn : N' = N := by simp only at hN'; omega); subst hnn
  have hz : ∀ l ∈ tr, wcode l = 0 := by
    refine wfirst_zero tr 0 ?_; unfold mdcode at h0
    split at h0
    · cases h0
    split at h0
    · cases h0
    split at h0
    · cases h0
    rw [h0]
  simp only at hrl htl hin; unfold mdcode; (have hlen : (relTwo N' rel).length = 2 * rel.length := by rw [relTwo, List.length_append, List.length_map]; omega); (rw [if_neg (by simp only [hlen]; omega), if_neg (by simp only [List.length_append]; omega), if_neg ?_])
  · exact wfirst_app tr tr 0 hz hz
  · rw [Bool.not_eq_true, List.any_eq_false]
    intro p hp; simp only at hp
    have hb : 0 ≤ p.1 ∧ p.1 < ((2 * N' : Nat) : Int) ∧ 0 ≤ p.2 ∧ p.2 < ((2 * N' : Nat) : Int) := by
      rw [relTwo, List.mem_append, List.mem_map] at hp
      rcases hp with h | ⟨q, hq, rfl⟩
      · have := hin p h; omega
      · have := hin q hq; simp only; omega
    unfold pairBad; simp only [Bool.or_eq_true, decide_eq_true_iff]; omega
end Go.Proofs.Ytlmjnglcdgkomah
/- Walks: sameNumbers. -/
namespace Go.Proofs.Ytlmjnglcdgkomah
open Go.RowKit

theorem take_same {l m : List Nat} {i x y : Nat} (h : l.take i = m.take i) (hx : l[i]? = some x) (hy : m[i]? = some y) : l.take (i + 1) = m.take (i + 1) ↔ x = y := by
  rw [List.take_add_one, List.take_add_one, h, hx, hy]
  simp
set_option maxRecDepth 10000 in
set_option maxHeartbeats 4000000 in
theorem sameN_any (l m : List Nat) (hll : l.length ≤ 100000) (hml : m.length ≤ 100000) (v u : Value) (w : World) (hv : NL w v l) (hu : NL w u m) :
    Calls Try.prog 25 #[v, u] w fun e w' => e = .returned (.bool (decide (l = m))) ∧ Below w.heap.size w w' := by
  obtain ⟨a1, c1, rfl, k1, hc1⟩ := hv.at; obtain ⟨a2, c2, rfl, k2, hc2⟩ := hu.at; have H1 : Hid (∀ (j n : Nat), l[j]? = some n → ∃ b, a1 = some ⟨b, 0, none⟩ ∧ w.cell? ⟨b, j, none⟩ = some (.int .i64 (n : Nat))) := hc1; have H2 : Hid (∀ (j n : Nat), m[j]? = some n → ∃ b, a2 = some ⟨b, 0, none⟩ ∧ w.cell? ⟨b, j, none⟩ = some (.int .i64 (n : Nat))) := hc2; (have hlI : (l.length : Int) ≤ 100000 := by omega); (have hmI : (m.length : Int) ≤ 100000 := by omega); (have hk1 : (l.length : Int) ≤ (c1 : Int) := by omega); (have hk2 : (m.length : Int) ≤ (c2 : Int) := by omega); clear hc1 hc2 hv hu hll hml k1 k2; by_cases hlen : l.length = m.length
  · have HL : Hid (l.length = m.length) := hlen
    (have hne : ((l.length : Int) != (m.length : Int)) = false := by rw [hlen]; simp); (have hk3 : (l.length : Int) ≤ (c2 : Int) := by omega); obtain ⟨ml, hml⟩ : ∃ ml, ml = m.length := ⟨_, rfl⟩; rw [← hml] at hne ⊢; (have hlm : (l.length : Int) ≤ (ml : Int) := by omega); clear hlen hml hmI hk2
    go_enter Try.func25, Try.ntmps25
    go_wp2_with fail
    go_loopg [5] l.length (fun g c wr => ∃ i, i ≤ l.length ∧ g = l.length - i ∧ c = .int .i64 (i : Nat) ∧ Hid (l.take i = m.take i) ∧ Hid (Below w.heap.size w wr))
    case atStart => exact ⟨0, by omega, by omega, rfl, by show _ = _; simp, Below.refl _ _⟩
    case round =>
      obtain ⟨i, hi, hg, rfl, HT, HB⟩ := hrel; have HGk : Hid (gk = l.length - i) := hg; clear hg; by_cases hlt : i < l.length
      · obtain ⟨x, hx⟩ : ∃ x, l[i]? = some x := ⟨_, List.getElem?_eq_getElem hlt⟩
        (obtain ⟨y, hy⟩ : ∃ y, m[i]? = some y := ⟨_, List.getElem?_eq_getElem (by have := HL.out; omega)⟩); obtain ⟨b1, rfl, d1⟩ := H1.out i x hx; obtain ⟨b2, rfl, d2⟩ := H2.out i y hy; have g1 := (HB.out.cell (lt_of_cell d1)).trans d1; have g2 := (HB.out.cell (lt_of_cell d2)).trans d2; have HTs : Hid (l.take (i + 1) = m.take (i + 1) ↔ x = y) := take_same HT.out hx hy; (have hltI : (i : Int) < (l.length : Int) := by omega); (have hltM : (i : Int) < (ml : Int) := by omega); (have hltc : (i : Int) < (c1 : Int) := by omega); (have hltd : (i : Int) < (c2 : Int) := by omega); have HI : Hid (i < l.length) := hlt; clear hlt hi hx hy d1 d2; by_cases he : x = y
        · subst he
          (have hnq : ((x : Int) != (x : Int)) = false := by simp); go_wp2_with fail
          go_quiet (fail)
          go_wp2_with fail
          go_roundg (l.length - (i + 1))
          case measure => have := HGk.out; have := HI.out; omega
          case rel => exact ⟨i + 1, HI.out, rfl, by go_num, HTs.out.2 (by first | rfl | trivial), below_drewN HB.out _⟩
        · have hnq : ((x : Int) != (y : Int)) = true := by simp; omega
          (have HNe : Hid (decide (l = m) = false) := decide_eq_false fun e => he (HTs.out.1 (by rw [e]))); clear he; go_wp2_with fail
          go_quiet (fail)
          go_wp2_with fail; go_ret; (exact ⟨by rw [HNe.out]; rfl, below_drewN HB.out _⟩)
      · have hii : i = l.length := by omega
        subst hii; (have hge : ¬ (l.length : Int) < (l.length : Int) := by omega)
        have HEq : Hid (decide (l = m) = true) := decide_eq_true (by
          have := HT.out; rw [List.take_length, HL.out, List.take_length] at this
          exact this)
        clear hlt hi; go_wp2_with fail; go_ret; (exact ⟨by rw [HEq.out]; rfl, HB.out⟩)
  · have hne : ((l.length : Int) != (m.length : Int)) = true := by simp; omega
    (have HNe : Hid (decide (l = m) = false) := decide_eq_false fun e => hlen (by rw [e])); clear hlen
    go_enter Try.func25, Try.ntmps25
    go_wp2_with fail; go_ret; (exact ⟨by rw [HNe.out]; rfl, Below.refl _ _⟩)
end Go.Proofs.Ytlmjnglcdgkomah
