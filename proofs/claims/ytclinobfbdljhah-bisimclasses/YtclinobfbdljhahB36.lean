/- Texts of one proof, one behind the other: SBE, SBG, SC1. -/
import Derived.Test.YtclinobfbdljhahB33
import Derived.Test.YtclinobfbdljhahB26
import Derived.Test.YtclinobfbdljhahB22
/- Walks: bisim.Classes. -/
namespace Go.Proofs.Ytclinobfbdljhah
open Go.RowKit

theorem isNm_eight {t : List UInt8} (h : isNm t = true) : t.length ≤ 8 := by
  unfold isNm at h; simp only [Bool.and_eq_true, decide_eq_true_iff] at h; exact h.1.2
theorem nmz_mem {r : List (List UInt8)} {t : List UInt8} (h : t ∈ nmz r) : t ∈ r := by
  have h1 : t ∈ srt r := (compact_mem _ _).1 h; exact (List.mem_mergeSort).1 h1
theorem nmz_small {r : List (List UInt8)} (h : r.length ≤ 30 ∧ ∀ t ∈ r, isNm t = true) : (nmz r).length ≤ 30 ∧ ∀ t ∈ nmz r, t.length ≤ 8 := by
  (refine ⟨?_, fun t ht => isNm_eight (h.2 t (nmz_mem ht))⟩); have h1 := compact_small (srt r); have h2 : (srt r).length = r.length := List.length_mergeSort ..; have := h.1; unfold nmz; omega
set_option maxRecDepth 10000 in
set_option maxHeartbeats 4000000 in
theorem Classes_bad (m : Mdl) (h0 : (mdcode 40 2000 m).1 ≠ 0) (v : Value) (w : World) (hv : MR w m v) :
    Calls Try.prog 17 #[v] w fun e w' => e = .returned (.tuple #[.slice none 0 0, .agg #[.int .i64 (mdcode 40 2000 m).1, .int .i64 (mdcode 40 2000 m).2]]) ∧ Below w.heap.size w w' := by
  (have HCk : Hid (∀ w, MR w m v → Calls Try.prog 38 #[v] w fun e w' => e = .returned (.agg #[.int .i64 (mdcode 40 2000 m).1, .int .i64 (mdcode 40 2000 m).2]) ∧ Below w.heap.size w w') := fun w h => kCheck_any m v w h); have HV : Hid (MR w m v) := hv; obtain ⟨ra, rc, ta, tc, rfl, -⟩ := hv; generalize mdcode 40 2000 m = md at *; obtain ⟨c, a⟩ := md; (have hcn : (c != 0) = true := by simpa using h0); obtain ⟨W, hW⟩ : ∃ W, W = (w.alloc (.cells #[.int .i64 m.n, .slice ra m.rel.length rc, .slice ta m.tr.length tc] 30 (0, 0))).alloc (.cells #[.int .i64 0, .int .i64 0] 32 (0, 0)) := ⟨_, rfl⟩; (have HB0 : Hid (Below w.heap.size w W) := by rw [hW]; exact below_more (below_more (Below.refl _ w) _) _); (have HQ2 : Hid (W.heap[w.heap.size + 1]? = some (.cells #[.int .i64 0, .int .i64 0] 32 (0, 0))) := by rw [hW]; exact blk_secE _ _ _); clear h0
  go_enter Try.func17, Try.ntmps17
  go_wp2_with fail; rw [← hW]; refine (HCk.out _ (HV.out.up HB0.out)).mono ?_; rintro _ w1 ⟨rfl, hb1⟩; have HB1 : Hid (Below w.heap.size w w1) := below_join HB0.out hb1; have HR2 : Hid (w1.heap[w.heap.size + 1]? = some (.cells #[.int .i64 0, .int .i64 0] 32 (0, 0))) := below_keep hb1 HQ2.out; clear hb1 hW; obtain ⟨X, hX⟩ : ∃ X, w1.alloc (.cells #[.int .i64 c, .int .i64 a] 32 (0, 0)) = X := ⟨_, rfl⟩; (have HX2 : Hid (X.heap[w.heap.size + 1]? = some (.cells #[.int .i64 0, .int .i64 0] 32 (0, 0))) := by rw [← hX]; exact alloc_keep HR2.out _); obtain ⟨q20, q21, q22, q23⟩ := blk2 HX2.out; (obtain ⟨q30, q31, -⟩ := blk2 (show X.heap[w1.heap.size]? = some _ by rw [← hX]; exact blk_new _ _)); (have HBX : Hid (Below w.heap.size w X) := by rw [← hX]; exact below_more HB1.out _); have zb2 := lt_of_block HR2.out; (have n3 : ¬ w1.heap.size = w.heap.size + 1 := by omega); (have n4 : ¬ w.heap.size + 1 = w1.heap.size := by omega); go_wp2_with fail
  go_region
  all_goals
    go_wp2_with fail; obtain ⟨F, hF⟩ : ∃ F, F = (X.setCell ⟨w.heap.size + 1, 0, none⟩ (.int .i64 c)).setCell ⟨w.heap.size + 1, 1, none⟩ (.int .i64 a) := ⟨_, rfl⟩; (have HF2 : Hid (F.heap[w.heap.size + 1]? = some (.cells #[.int .i64 c, .int .i64 a] 32 (0, 0))) := by rw [hF]; exact set2 HX2.out _ _); (have HF3 : Hid (Below w.heap.size w F) := by rw [hF]; exact (HBX.out.setCell (p := ⟨w.heap.size + 1, 0, none⟩) (by simp) _).setCell (p := ⟨w.heap.size + 1, 1, none⟩) (by simp) _); rw [← hF]; clear hF q20 q21 q22 q23; obtain ⟨o6, o7, -⟩ := blk2 HF2.out; (exact bodyPost_ret (v := .tuple #[.slice none 0 0, .agg #[.int .i64 c, .int .i64 a]]) (by simp [results, Try.results17, go_sem, o6, o7]) rfl ⟨rfl, HF3.out.drew⟩)
set_option maxRecDepth 10000 in
set_option maxHeartbeats 4000000 in
theorem Classes_ok (N : Nat) (rel : List (Int × Int)) (tr : List (List (List UInt8))) (h0 : mdcode 40 2000 ⟨(N : Int), rel, tr⟩ = (0, 0)) (v : Value) (w : World) (hv : MR w ⟨(N : Int), rel, tr⟩ v) :
    Calls Try.prog 17 #[v] w fun e w' => ∃ ad cp, e = .returned (.tuple #[.slice ad N cp, .agg #[.int .i64 0, .int .i64 0]]) ∧ OwnN w.heap.size w' ad cp (clsK N (relB rel) (tr.map nmz)) ∧ Below w.heap.size w w' := by
  (obtain ⟨N', hN', hN1, hN2, hrl, htl, hin⟩ := mdcode_in (show (mdcode 40 2000 ⟨(N : Int), rel, tr⟩).1 = 0 by rw [h0])); (have hnn : N' = N := by simp only at hN'; omega); subst hnn; (have hnm := mdcode_names (show (mdcode 40 2000 ⟨(N' : Int), rel, tr⟩).1 = 0 by rw [h0])); simp only at hrl htl hin hnm; (have hN40 : N' ≤ 40 := by omega); obtain ⟨ec, hec⟩ : ∃ ec : Int, (0 : Int) = ec := ⟨_, rfl⟩; obtain ⟨ea, hea⟩ : ∃ ea : Int, ((0 : Int), (0 : Int)).2 = ea := ⟨_, rfl⟩
  have HCk : Hid (∀ w, MR w ⟨(N' : Int), rel, tr⟩ v → Calls Try.prog 38 #[v] w fun e w' => e = .returned (.agg #[.int .i64 ec, .int .i64 ea]) ∧ Below w.heap.size w w') := fun w h => by
    have := kCheck_any _ v w h; rw [h0] at this; rw [← hec, ← hea]; exact this
  (have hcn : (ec != 0) = false := by rw [← hec]; rfl); have HV : Hid (MR w ⟨(N' : Int), rel, tr⟩ v) := hv; obtain ⟨ra, rc, ta, tc, rfl, hpl, hsl, -⟩ := hv; simp only at hpl hsl HCk HV ⊢; (have HVo : Hid (∀ wx, Below w.heap.size w wx → Calls Try.prog 39 #[.agg #[.int .i64 (N' : Nat), .slice ra rel.length rc, .slice ta tr.length tc]] wx _) := fun wx hb => viewOf_any N' hN1 hN40 rel (by omega) hin tr htl (fun r hr => (hnm r hr).1) ra ta rc tc wx (hpl.up hb) (hsl.upM hb))
  have HCl : Hid (∀ x wx, VwR wx N' (relB rel) (tr.map nmz) x → Calls Try.prog 40 #[x] wx _) := fun x wx h => vclasses_any hN1 hN40 (relB rel) (tr.map nmz) (fun r hr => by
    obtain ⟨r0, hr0, rfl⟩ := List.mem_map.1 hr
    exact nmz_small (hnm r0 hr0)) x wx h
  generalize clsK N' (relB rel) (tr.map nmz) = cl at *; obtain ⟨W, hW⟩ : ∃ W, W = (w.alloc (.cells #[.int .i64 (N' : Nat), .slice ra rel.length rc, .slice ta tr.length tc] 30 (0, 0))).alloc (.cells #[.int .i64 0, .int .i64 0] 32 (0, 0)) := ⟨_, rfl⟩; (have HB0 : Hid (Below w.heap.size w W) := by rw [hW]; exact below_more (below_more (Below.refl _ w) _) _); (have HQ0 : Hid (W.heap[w.heap.size]? = some (.cells #[.int .i64 (N' : Nat), .slice ra rel.length rc, .slice ta tr.length tc] 30 (0, 0))) := by rw [hW]; exact alloc_keep (blk_new _ _) _); (have HQ2 : Hid (W.heap[w.heap.size + 1]? = some (.cells #[.int .i64 0, .int .i64 0] 32 (0, 0))) := by rw [hW]; exact blk_secE _ _ _); clear h0 hec hea hpl hsl hrl hin hnm htl hN1 hN2 hN40 hN'
  go_enter Try.func17, Try.ntmps17
  go_wp2_with fail; rw [← hW]; refine (HCk.out _ (HV.out.up HB0.out)).mono ?_; rintro _ w1 ⟨rfl, hb1⟩; have HB1 : Hid (Below w.heap.size w w1) := below_join HB0.out hb1; have HR0 : Hid (w1.heap[w.heap.size]? = some (.cells #[.int .i64 (N' : Nat), .slice ra rel.length rc, .slice ta tr.length tc] 30 (0, 0))) := below_keep hb1 HQ0.out; have HR2 : Hid (w1.heap[w.heap.size + 1]? = some (.cells #[.int .i64 0, .int .i64 0] 32 (0, 0))) := below_keep hb1 HQ2.out; clear hb1 hW; obtain ⟨X, hX⟩ : ∃ X, w1.alloc (.cells #[.int .i64 ec, .int .i64 ea] 32 (0, 0)) = X := ⟨_, rfl⟩; (have HX2 : Hid (X.heap[w.heap.size + 1]? = some (.cells #[.int .i64 0, .int .i64 0] 32 (0, 0))) := by rw [← hX]; exact alloc_keep HR2.out _); (obtain ⟨q0, q1, q2, -⟩ := blk3 (show X.heap[w.heap.size]? = some _ by rw [← hX]; exact alloc_keep HR0.out _)); (obtain ⟨q30, q31, -⟩ := blk2 (show X.heap[w1.heap.size]? = some _ by rw [← hX]; exact blk_new _ _)); (have HBX : Hid (Below w.heap.size w X) := by rw [← hX]; exact below_more HB1.out _); go_wp2_with fail; refine (HVo.out X HBX.out).mono ?_; rintro _ w2 ⟨x, rfl, hx, hb2⟩; have HX3 : Hid (VwR w2 N' (relB rel) (tr.map nmz) x) := hx; have HB2 : Hid (Below w.heap.size w w2) := below_join HBX.out hb2; have HS2 : Hid (w2.heap[w.heap.size + 1]? = some (.cells #[.int .i64 0, .int .i64 0] 32 (0, 0))) := below_keep hb2 HX2.out; clear hb2 hx q0 q1 q2 q30 q31 hX; go_wp2_with fail; refine (HCl.out x w2 HX3.out).mono ?_; rintro _ w3 ⟨ad, cp, rfl, ho3, hb3⟩; have HO3 : Hid (OwnN w.heap.size w3 ad cp cl) := rowM_low ho3 HB2.out.size; have HB3 : Hid (Below w.heap.size w w3) := below_join HB2.out hb3; have HS3 : Hid (w3.heap[w.heap.size + 1]? = some (.cells #[.int .i64 0, .int .i64 0] 32 (0, 0))) := below_keep hb3 HS2.out; obtain ⟨r0, r1, r2, r3⟩ := blk2 HS3.out; clear hb3 ho3; go_wp2_with fail; obtain ⟨F, hF⟩ : ∃ F, F = (w3.setCell ⟨w.heap.size + 1, 0, none⟩ (.int .i64 0)).setCell ⟨w.heap.size + 1, 1, none⟩ (.int .i64 0) := ⟨_, rfl⟩; (have HF2 : Hid (F.heap[w.heap.size + 1]? = some (.cells #[.int .i64 0, .int .i64 0] 32 (0, 0))) := by rw [hF]; exact set2 HS3.out _ _); (have HF3 : Hid (Below w.heap.size w F) := by rw [hF]; exact (HB3.out.setCell (p := ⟨w.heap.size + 1, 0, none⟩) (by simp) _).setCell (p := ⟨w.heap.size + 1, 1, none⟩) (by simp) _)
  have HFo : Hid (OwnN w.heap.size F ad cp cl) := OwnN.move HO3.out fun q cur hq => by
    (rw [hF, blk_otherS _ (fun e => by rw [e, HS3.out] at hq; simp at hq), blk_otherS _ (fun e => by rw [e, HS3.out] at hq; simp at hq)])
  rw [← hF]; clear hF r0 r1 r2 r3; obtain ⟨o6, o7, -⟩ := blk2 HF2.out; (exact bodyPost_ret (v := .tuple #[.slice ad N' cp, .agg #[.int .i64 0, .int .i64 0]]) (by simp [results, Try.results17, go_sem, o6, o7]) rfl ⟨ad, cp, rfl, HFo.out, HF3.out⟩)
end Go.Proofs.Ytclinobfbdljhah
/- Two copies of a model beside each other, as data: they have the classes of one. -/
namespace Go.Proofs.Ytclinobfbdljhah
open Go.RowKit

/-- The levels come to an end. -/
theorem lev_end {N : Nat} {R : Nat → Nat → Bool} {c : List Nat} (hc : c.length = N) (hn : numK c = c) : ∃ k, k ≤ N * N ∧ levK N R c (k + 1) = levK N R c k := by
  apply Classical.byContradiction; intro hno; (have := tog_drop (R := R) hc hn (N * N + 1) fun i hi e => hno ⟨i, by omega, e⟩); omega
theorem last_at {N : Nat} {R : Nat → Nat → Bool} {c : List Nat} (hc : c.length = N) (hn : numK c = c) {j : Nat} (hj : N * N ≤ j) : levK N R c j = lastK N R c := by
  obtain ⟨k, hk, e⟩ := lev_end (R := R) hc hn; (rw [lastK, levK_still e j (by omega), levK_still e (N * N + 1) (by omega)])
theorem byN_len (nss : List (List (List UInt8))) : (byN nss).length = nss.length := by rw [byN, numK_len, List.length_map]
theorem byN_lt {nss : List (List (List UInt8))} : ∀ n ∈ byN nss, n < nss.length := fun n hn => by
  have := numK_lt hn
  rwa [List.length_map] at this
end Go.Proofs.Ytclinobfbdljhah
/- Which worlds are alike, as data: the greatest relation, and the classes. -/
namespace Go.Proofs.Ytclinobfbdljhah
open Go.RowKit

/-- Two lists have the same texts. -/
def sameT (a b : List (List UInt8)) : Bool := a.all (fun t => b.contains t) && b.all (fun t => a.contains t)
theorem sameT_iff {a b : List (List UInt8)} : sameT a b = true ↔ ∀ t, t ∈ a ↔ t ∈ b := by
  unfold sameT; simp only [Bool.and_eq_true, List.all_eq_true, List.contains_iff_mem]
  constructor
  · rintro ⟨h1, h2⟩ t
    exact ⟨h1 t, h2 t⟩
  · intro h
    (exact ⟨fun t ht => (h t).1 ht, fun t ht => (h t).2 ht⟩)
theorem nmz_memI (r : List (List UInt8)) (t : List UInt8) : t ∈ nmz r ↔ t ∈ r := by
  unfold nmz; rw [compact_mem]; exact List.mem_mergeSort
theorem nmz_eq {a b : List (List UInt8)} : nmz a = nmz b ↔ sameT a b = true := by
  rw [sameT_iff]
  constructor
  · intro e t
    rw [← nmz_memI a, ← nmz_memI b, e]
  · intro h
    exact rising_ext (uniq_rising a) (uniq_rising b) fun t => by
      show t ∈ nmz a ↔ t ∈ nmz b; rw [nmz_memI, nmz_memI]; exact h t
/-- No blank in it, and not nothing. -/
def OkW (t : List UInt8) : Prop := t ≠ [] ∧ ∀ c ∈ t, c ≠ 32
theorem letters_low : ∀ {l : List UInt8}, (letters l).length = l.length → ∀ c ∈ l, lower c = true
  | [], _, c, hc => by cases hc
  | x :: l, h, c, hc => by
    unfold letters at h
    split at h
    · rename_i hx
      rcases List.mem_cons.1 hc with rfl | hc
      · exact hx
      · exact letters_low (by simpa using h) c hc
    · simp at h
theorem isNm_okW {t : List UInt8} (h : isNm t = true) : OkW t := by
  unfold isNm at h; simp only [Bool.and_eq_true, decide_eq_true_iff] at h; (refine ⟨h.1.1, fun c hc e => ?_⟩); have := letters_low h.2 c hc; rw [e] at this; (exact absurd this (by decide))
theorem split_eq : ∀ {a b : List UInt8} {s t : List UInt8}, (∀ c ∈ a, c ≠ 32) → (∀ c ∈ b, c ≠ 32) → (s = [] ∨ ∃ u, s = 32 :: u) → (t = [] ∨ ∃ u, t = 32 :: u) → a ++ s = b ++ t → a = b ∧ s = t
  | [], [], s, t, _, _, _, _, e => ⟨rfl, e⟩
  | [], y :: b, s, t, _, hb, hs, _, e => by
    rcases hs with rfl | ⟨u, rfl⟩
    · cases e
    · have e2 : (32 : UInt8) = y := (List.cons.inj e).1
      exact absurd e2.symm (hb y (by simp))
  | x :: a, [], s, t, ha, _, _, ht, e => by
    rcases ht with rfl | ⟨u, rfl⟩
    · cases e
    · have e2 : x = (32 : UInt8) := (List.cons.inj e).1
      exact absurd e2 (ha x (by simp))
  | x :: a, y :: b, s, t, ha, hb, hs, ht, e => by
    obtain ⟨e1, e2⟩ := List.cons.inj e; (obtain ⟨h1, h2⟩ := split_eq (fun c hc => ha c (by simp [hc])) (fun c hc => hb c (by simp [hc])) hs ht e2); (exact ⟨by rw [e1, h1], h2⟩)
theorem tail_form (r : List (List UInt8)) : Lib.joinTail [32] r = [] ∨ ∃ u, Lib.joinTail [32] r = 32 :: u := by
  cases r with
  | nil => exact Or.inl rfl
  | cons x r => exact Or.inr ⟨x ++ Lib.joinTail [32] r, by unfold Lib.joinTail; simp only [List.map_cons, List.flatten_cons, List.cons_append, List.nil_append]⟩
theorem tail_cons (x : List UInt8) (r : List (List UInt8)) : Lib.joinTail [32] (x :: r) = 32 :: (x ++ Lib.joinTail [32] r) := by
  unfold Lib.joinTail; simp only [List.map_cons, List.flatten_cons, List.cons_append, List.nil_append]
theorem tail_inj : ∀ {a b : List (List UInt8)}, (∀ t ∈ a, OkW t) → (∀ t ∈ b, OkW t) → Lib.joinTail [32] a = Lib.joinTail [32] b → a = b
  | [], [], _, _, _ => rfl
  | [], y :: b, _, _, e => by rw [tail_cons] at e; cases e
  | x :: a, [], _, _, e => by rw [tail_cons] at e; cases e
  | x :: a, y :: b, ha, hb, e => by
    rw [tail_cons, tail_cons] at e; (obtain ⟨h1, h2⟩ := split_eq (ha x (by simp)).2 (hb y (by simp)).2 (tail_form a) (tail_form b) (List.cons.inj e).2); (rw [h1, tail_inj (fun t ht => ha t (by simp [ht])) (fun t ht => hb t (by simp [ht])) h2])
theorem keyN_inj {a b : List (List UInt8)} (ha : ∀ t ∈ a, OkW t) (hb : ∀ t ∈ b, OkW t) (e : keyN a = keyN b) : a = b := by
  unfold keyN at e
  cases a with
  | nil =>
    cases b with
    | nil => rfl
    | cons y b =>
      rw [Lib.join_nil, Lib.join_cons] at e; (have := (hb y (by simp)).1)
      cases y with
      | nil => exact absurd rfl this
      | cons c y => cases e
  | cons x a =>
    cases b with
    | nil =>
      rw [Lib.join_nil, Lib.join_cons] at e; (have := (ha x (by simp)).1)
      cases x with
      | nil => exact absurd rfl this
      | cons c y => cases e
    | cons y b =>
      rw [Lib.join_cons, Lib.join_cons] at e; (obtain ⟨h1, h2⟩ := split_eq (ha x (by simp)).2 (hb y (by simp)).2 (tail_form a) (tail_form b) e); (rw [h1, tail_inj (fun t ht => ha t (by simp [ht])) (fun t ht => hb t (by simp [ht])) h2])
/-- A world's names. -/
def nmAt (tr : List (List (List UInt8))) (u : Nat) : List (List UInt8) := tr.getD u []
/-- Worlds that see what is alike. -/
def covM (N : Nat) (R : Nat → Nat → Bool) (M : Nat → Nat → Bool) (u v : Nat) : Bool := (List.range N).all fun x => !R u x || (List.range N).any fun y => R v y && M x y
theorem covM_iff {N : Nat} {R M : Nat → Nat → Bool} {u v : Nat} : covM N R M u v = true ↔ ∀ x, x < N → R u x = true → ∃ y, y < N ∧ R v y = true ∧ M x y = true := by
  unfold covM; simp only [List.all_eq_true, List.mem_range, Bool.or_eq_true, Bool.not_eq_true', List.any_eq_true, Bool.and_eq_true]
  constructor
  · intro h x hx hr
    rcases h x hx with h1 | ⟨y, h1, h2⟩
    · rw [hr] at h1; cases h1
    · exact ⟨y, h1, h2⟩
  · intro h x hx
    cases hr : R u x with
    | false => exact Or.inl rfl
    | true =>
      obtain ⟨y, h1, h2⟩ := h x hx hr; exact Or.inr ⟨y, h1, h2⟩
theorem byN_at {tr : List (List (List UInt8))} {N u v : Nat} (htl : tr.length = N) (hnm : ∀ l ∈ tr, ∀ t ∈ l, isNm t = true) (hu : u < N) (hv : v < N) : (byN (tr.map nmz)).getD u 0 = (byN (tr.map nmz)).getD v 0 ↔ sameT (nmAt tr u) (nmAt tr v) = true := by
  (obtain ⟨a, ha⟩ : ∃ a, tr[u]? = some a := ⟨_, List.getElem?_eq_getElem (by omega)⟩); (obtain ⟨b, hb⟩ : ∃ b, tr[v]? = some b := ⟨_, List.getElem?_eq_getElem (by omega)⟩); (have h1 : ((tr.map nmz).map keyN)[u]? = some (keyN (nmz a)) := by rw [List.getElem?_map, List.getElem?_map, ha]; rfl); (have h2 : ((tr.map nmz).map keyN)[v]? = some (keyN (nmz b)) := by rw [List.getElem?_map, List.getElem?_map, hb]; rfl); (have e1 : nmAt tr u = a := by rw [nmAt, List.getD_eq_getElem?_getD, ha]; rfl); (have e2 : nmAt tr v = b := by rw [nmAt, List.getD_eq_getElem?_getD, hb]; rfl); (have ok : ∀ {r}, r ∈ tr → ∀ t ∈ nmz r, OkW t := fun {r} hr t ht => isNm_okW (hnm r hr t (nmz_mem ht))); rw [e1, e2, ← nmz_eq]; have := numK_iff h1 h2; rw [numK_get h1, numK_get h2] at this; unfold byN; rw [List.getD_eq_getElem?_getD, List.getD_eq_getElem?_getD, numK_get h1, numK_get h2, Option.getD_some, Option.getD_some]
  constructor
  · intro e
    (exact keyN_inj (ok (List.mem_of_getElem? ha)) (ok (List.mem_of_getElem? hb)) (this.1 (by rw [e])))
  · intro e
    (exact Option.some.inj (this.2 (by rw [e])))
/-- The last level parts no more. -/
theorem last_stable {N : Nat} {R : Nat → Nat → Bool} {c : List Nat} (hc : c.length = N) (hn : numK c = c) : partK N R (lastK N R c) = lastK N R c := by
  (have h1 := last_at (R := R) hc hn (j := N * N + 1 + 1) (by omega)); rw [levK] at h1; (rw [← last_at (R := R) hc hn (j := N * N + 1) (by omega)] at h1 ⊢); exact h1
theorem getD_lt {c : List Nat} {N v : Nat} (hc : c.length = N) (hl : ∀ n ∈ c, n < N) (hv : v < N) : c.getD v 0 < N := by
  (rw [List.getD_eq_getElem?_getD, List.getElem?_eq_getElem (by omega)]); exact hl _ (List.getElem_mem _)
theorem sees_iff {N : Nat} {R : Nat → Nat → Bool} {c : List Nat} {u k : Nat} : seesC N R c u k = true ↔ ∃ x, x < N ∧ R u x = true ∧ c.getD x 0 = k := by
  unfold seesC; simp only [List.any_eq_true, List.mem_range, Bool.and_eq_true, beq_iff_eq]
theorem sight_iff {N : Nat} {R : Nat → Nat → Bool} {c : List Nat} (hc : c.length = N) (hl : ∀ n ∈ c, n < N) {u v : Nat} : sightK N N R c u = sightK N N R c v ↔ c.getD u 0 = c.getD v 0 ∧ (∀ x, x < N → R u x = true → ∃ y, y < N ∧ R v y = true ∧ c.getD x 0 = c.getD y 0) ∧ (∀ x, x < N → R v x = true → ∃ y, y < N ∧ R u y = true ∧ c.getD x 0 = c.getD y 0) := by
  unfold sightK; rw [Prod.mk.injEq]; (refine and_congr_right fun _ => ?_)
  constructor
  · intro e
    have h := bm_inj e; (refine ⟨fun x hx hr => ?_, fun x hx hr => ?_⟩)
    · have h1 := h (c.getD x 0) (getD_lt hc hl hx)
      rw [sees_iff.2 ⟨x, hx, hr, rfl⟩] at h1; obtain ⟨y, h2, h3, h4⟩ := sees_iff.1 h1.symm; exact ⟨y, h2, h3, h4.symm⟩
    · have h1 := h (c.getD x 0) (getD_lt hc hl hx)
      rw [sees_iff.2 ⟨x, hx, hr, rfl⟩] at h1; obtain ⟨y, h2, h3, h4⟩ := sees_iff.1 h1; exact ⟨y, h2, h3, h4.symm⟩
  · rintro ⟨h1, h2⟩
    (refine bm_ext fun k hk => ?_); rw [Bool.eq_iff_iff, sees_iff, sees_iff]
    constructor
    · rintro ⟨x, hx, hr, rfl⟩
      obtain ⟨y, a, b, e⟩ := h1 x hx hr; exact ⟨y, a, b, e.symm⟩
    · rintro ⟨x, hx, hr, rfl⟩
      obtain ⟨y, a, b, e⟩ := h2 x hx hr; exact ⟨y, a, b, e.symm⟩
/-- Two numbers are the same. -/
def eqC (c : List Nat) (u v : Nat) : Bool := decide (c.getD u 0 = c.getD v 0)
/-- A relation between worlds on its way down to being alike. -/
structure AlM (N : Nat) (R : Nat → Nat → Bool) (tr : List (List (List UInt8))) (cl : List Nat) (M : Nat → Nat → Bool) : Prop where
  sym : ∀ u v, u < N → v < N → M u v = M v u
  low : ∀ u v, u < N → v < N → cl.getD u 0 = cl.getD v 0 → M u v = true
  up : ∀ u v, u < N → v < N → M u v = true → sameT (nmAt tr u) (nmAt tr v) = true
theorem AlM.done {N : Nat} {R : Nat → Nat → Bool} {tr : List (List (List UInt8))} {M : Nat → Nat → Bool} (htl : tr.length = N) (hnm : ∀ l ∈ tr, ∀ t ∈ l, isNm t = true) (h : AlM N R tr (clsK N R (tr.map nmz)) M) (hcov : ∀ u v, u < N → v < N → M u v = true → covM N R M u v = true ∧ covM N R M v u = true) (u v : Nat) (hu : u < N) (hv : v < N) : M u v = eqC (clsK N R (tr.map nmz)) u v := by
  (have hl0 : (byN (tr.map nmz)).length = N := by rw [byN_len, List.length_map, htl]); (have hlt : ∀ n ∈ byN (tr.map nmz), n < N := fun n hn => by have := byN_lt n hn; rwa [List.length_map, htl] at this)
  have hlev : ∀ k u v, u < N → v < N → M u v = true → (levK N R (byN (tr.map nmz)) k).getD u 0 = (levK N R (byN (tr.map nmz)) k).getD v 0 := by
    intro k
    induction k with
    | zero => exact fun u v hu hv hm => (byN_at htl hnm hu hv).2 (h.up u v hu hv hm)
    | succ k ih =>
      intro u v hu hv hm; rw [levK, partK_iff hu hv, sight_iff (levK_len hl0 k) (levK_lt hlt k)]; obtain ⟨c1, c2⟩ := hcov u v hu hv hm; rw [covM_iff] at c1 c2; (refine ⟨ih u v hu hv hm, fun x hx hr => ?_, fun x hx hr => ?_⟩)
      · obtain ⟨y, a, b, e⟩ := c1 x hx hr
        exact ⟨y, a, b, ih x y hx a e⟩
      · obtain ⟨y, a, b, e⟩ := c2 x hx hr
        exact ⟨y, a, b, ih x y hx a e⟩
  rw [Bool.eq_iff_iff, eqC, decide_eq_true_iff]; (exact ⟨fun hm => hlev _ u v hu hv hm, h.low u v hu hv⟩)
theorem cls_cov {N : Nat} {R : Nat → Nat → Bool} {tr : List (List (List UInt8))} (htl : tr.length = N) {u v : Nat} (hu : u < N) (hv : v < N) (e : (clsK N R (tr.map nmz)).getD u 0 = (clsK N R (tr.map nmz)).getD v 0) (x : Nat) (hx : x < N) (hr : R u x = true) : ∃ y, y < N ∧ R v y = true ∧ (clsK N R (tr.map nmz)).getD x 0 = (clsK N R (tr.map nmz)).getD y 0 := by
  (have hl0 : (byN (tr.map nmz)).length = N := by rw [byN_len, List.length_map, htl]); (have hlt : ∀ n ∈ byN (tr.map nmz), n < N := fun n hn => by have := byN_lt n hn; rwa [List.length_map, htl] at this); (have hst := last_stable (R := R) hl0 (by rw [byN]; exact numK_idem _))
  have e2 : (partK N R (clsK N R (tr.map nmz))).getD u 0 = (partK N R (clsK N R (tr.map nmz))).getD v 0 := by
    unfold clsK at e ⊢; rw [hst]; exact e
  have e3 := (sight_iff (R := R) (c := clsK N R (tr.map nmz)) (levK_len (R := R) hl0 (N * N + 1)) (levK_lt (R := R) hlt (N * N + 1))).1 ((partK_iff hu hv).1 e2); exact e3.2.1 x hx hr
/-- One pair goes. -/
def cutM (M : Nat → Nat → Bool) (u v : Nat) : Nat → Nat → Bool := fun a b => M a b && !((a == u && b == v) || (a == v && b == u))
theorem AlM.cut {N : Nat} {R : Nat → Nat → Bool} {tr : List (List (List UInt8))} {M : Nat → Nat → Bool} (htl : tr.length = N) (h : AlM N R tr (clsK N R (tr.map nmz)) M) {u v : Nat} (hu : u < N) (hv : v < N) (hno : (covM N R M u v && covM N R M v u) = false) : AlM N R tr (clsK N R (tr.map nmz)) (cutM M u v) := by
  have hne : ¬ (clsK N R (tr.map nmz)).getD u 0 = (clsK N R (tr.map nmz)).getD v 0 := fun e => by
    have h1 : covM N R M u v = true := covM_iff.2 fun x hx hr => by
      obtain ⟨y, a, b, e2⟩ := cls_cov htl hu hv e x hx hr; exact ⟨y, a, b, h.low x y hx a e2⟩
    have h2 : covM N R M v u = true := covM_iff.2 fun x hx hr => by
      obtain ⟨y, a, b, e2⟩ := cls_cov htl hv hu e.symm x hx hr; exact ⟨y, a, b, h.low x y hx a e2⟩
    rw [h1, h2] at hno
    cases hno
  (refine ⟨fun a b ha hb => ?_, fun a b ha hb e => ?_, fun a b ha hb hm => h.up a b ha hb ?_⟩)
  · unfold cutM
    rw [h.sym a b ha hb]
    congr 2
    rw [Bool.or_comm]
    congr 1 <;> exact Bool.and_comm _ _
  · unfold cutM
    rw [h.low a b ha hb e, Bool.true_and, Bool.not_eq_true']; rw [Bool.eq_false_iff]; intro hh; simp only [Bool.or_eq_true, Bool.and_eq_true, beq_iff_eq] at hh
    rcases hh with ⟨rfl, rfl⟩ | ⟨rfl, rfl⟩
    · exact hne e
    · exact hne e.symm
  · unfold cutM at hm
    exact (Bool.and_eq_true_iff.1 hm).1
theorem AlM.start {N : Nat} {R : Nat → Nat → Bool} {tr : List (List (List UInt8))} (htl : tr.length = N) (hnm : ∀ l ∈ tr, ∀ t ∈ l, isNm t = true) : AlM N R tr (clsK N R (tr.map nmz)) (fun u v => sameT (nmAt tr u) (nmAt tr v)) := by
  (have hl0 : (byN (tr.map nmz)).length = N := by rw [byN_len, List.length_map, htl])
  have hdown : ∀ k u v, u < N → v < N → (levK N R (byN (tr.map nmz)) k).getD u 0 = (levK N R (byN (tr.map nmz)) k).getD v 0 → (byN (tr.map nmz)).getD u 0 = (byN (tr.map nmz)).getD v 0 := by
    intro k
    induction k with
    | zero => exact fun u v _ _ e => e
    | succ k ih =>
      intro u v hu hv e; rw [levK, partK_iff hu hv] at e; exact ih u v hu hv (Prod.mk.inj e).1
  (refine ⟨fun u v _ _ => ?_, fun u v hu hv e => ?_, fun u v _ _ h => h⟩)
  · rw [Bool.eq_iff_iff, sameT_iff, sameT_iff]
    (exact ⟨fun h t => (h t).symm, fun h t => (h t).symm⟩)
  · exact (byN_at htl hnm hu hv).1 (hdown _ u v hu hv e)
/-- How many pairs are left. -/
def cntM (N : Nat) (M : Nat → Nat → Bool) : Nat := (List.range (N * N)).countP fun p => M (p / N) (p % N)
theorem cntM_cut {N : Nat} {M : Nat → Nat → Bool} {u v : Nat} (hu : u < N) (hv : v < N) (hm : M u v = true) : cntM N (cutM M u v) < cntM N M := by
  (refine countP_less (fun p _ h => (Bool.and_eq_true_iff.1 h).1) (a := u * N + v) ?_ ?_ ?_)
  · rw [List.mem_range]
    calc u * N + v < u * N + N := by omega
      _ = (u + 1) * N := by rw [Nat.add_mul, Nat.one_mul]
      _ ≤ N * N := Nat.mul_le_mul_right _ hu
  · rw [Nat.mul_comm u N, Nat.mul_add_div (by omega), Nat.div_eq_of_lt hv, Nat.mul_add_mod, Nat.mod_eq_of_lt hv]
    simpa using hm
  · rw [Nat.mul_comm u N, Nat.mul_add_div (by omega), Nat.div_eq_of_lt hv, Nat.mul_add_mod, Nat.mod_eq_of_lt hv]
    simp [cutM]
end Go.Proofs.Ytclinobfbdljhah
