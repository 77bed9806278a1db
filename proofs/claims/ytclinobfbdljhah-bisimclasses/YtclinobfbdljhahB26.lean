/- Texts of one proof, one behind the other: ME5, ME7, ME8, ME9, SB1, SB6. -/
import Derived.Test.YtclinobfbdljhahB17
import Derived.Test.YtclinobfbdljhahB25
import Derived.Test.YtclinobfbdljhahB13
import Derived.Laws.BitsLemmas
import Derived.Deep.RegionHeld3
import Derived.Test.YtclinobfbdljhahB24
import Derived.Test.YtclinobfbdljhahB07
import Derived.Test.YtclinobfbdljhahB16
import Derived.RegionTactic
import Derived.Maps.OwnSet
import Derived.Maps.OwnOps
import Derived.DeepKeys4
/- Walks: what a model's worlds see, as sets. -/
namespace Go.Proofs.Ytclinobfbdljhah
open Go.RowKit

/-- Which pairs stand in a list. -/
def relB (rs : List (Int × Int)) (u v : Nat) : Bool := rs.contains ((u : Int), (v : Int))
theorem seeR_eq {N : Nat} {rel : List (Int × Int)} (hin : InR N rel) (u : Nat) : seeR N (relB rel) u = seenTo N rel u N := by
  rw [seeR, seenTo]; (refine List.filter_congr fun v hv => ?_); rw [List.mem_range] at hv; rw [Bool.eq_iff_iff, bitP_mem hin hv, relB, List.contains_iff_mem]
/-- Rows of pairs as sets, cell by cell. -/
def frC (N : Nat) (rs : List (Int × Int)) : Array Value := ((List.range N).map fun u => Value.int .u64 ((bm N (relB rs u) : Nat) : Int)).toArray
theorem frC_size (N : Nat) (rs : List (Int × Int)) : (frC N rs).size = N := by simp [frC]
theorem frC_get {N u : Nat} (rs : List (Int × Int)) (h : u < N) : (frC N rs)[u]? = some (.int .u64 (bm N (relB rs u) : Nat)) := by
  simp [frC, h]
theorem frC_zero (N : Nat) : madeCells #[Value.int .u64 0] N = frC N [] := by
  apply Array.ext'; rw [toList_madeCells_one]; (have : ∀ u, bm N (relB [] u) = 0 := fun u => bm_none N); simp [frC, this, List.map_const']
theorem relB_snoc (rs : List (Int × Int)) (x y u v : Nat) : relB (rs ++ [((x : Int), (y : Int))]) u v = (relB rs u v || (u == x && v == y)) := by
  unfold relB; rw [Bool.eq_iff_iff]; simp [Int.natCast_inj]
theorem frC_set {N x y : Nat} {rs : List (Int × Int)} : (frC N rs).setIfInBounds x (.int .u64 (bm N (fun v => relB rs x v || v == y) : Nat)) = frC N (rs ++ [((x : Int), (y : Int))]) := by
  apply Array.ext_getElem?; intro j; by_cases hj : j < N
  · rw [frC_get _ hj]
    by_cases e : x = j
    · subst e
      (rw [Array.getElem?_setIfInBounds_self_of_lt (by rw [frC_size]; exact hj)])
      congr 3
      (exact bm_ext fun v _ => by rw [relB_snoc]; simp)
    · rw [Array.getElem?_setIfInBounds_ne e, frC_get _ hj]
      (have e2 : ¬ j = x := fun h => e h.symm)
      congr 3
      (exact bm_ext fun v _ => by rw [relB_snoc]; simp [e2])
  · rw [Array.getElem?_eq_none (by simp [frC_size]; omega), Array.getElem?_eq_none (by simp [frC_size]; omega)]
end Go.Proofs.Ytclinobfbdljhah
/- Walks: what is wrong with a model or a formula first. -/
namespace Go.Proofs.Ytclinobfbdljhah
open Go.RowKit

/-- What is wrong with a model, or else with a formula. -/
def mfcode (m : Mdl) (f : Fm) : Int × Int := if (mdcode 40 2000 m).1 = 0 then f.code else mdcode 40 2000 m
end Go.Proofs.Ytclinobfbdljhah
/- Walks: modal.Eval. -/
namespace Go.Proofs.Ytclinobfbdljhah
open Go.RowKit Go.Maps Go.WideMaps

/-- The names of a world, by its number. -/
def pT (tr : List (List (List UInt8))) (u : Nat) (s : List UInt8) : Bool := (tr.getD u []).contains s
/-- The names of a model that is fine. -/
theorem wfirst_zero : ∀ (ls : List (List (List UInt8))) (i : Nat), (wfirst ls i).1 = 0 → ∀ l ∈ ls, wcode l = 0
  | [], _, _, l, h => by cases h
  | l :: ls, i, h, l', hl => by
    rw [wfirst] at h
    split at h
    · rename_i h0
      rcases List.mem_cons.1 hl with rfl | h2
      · exact h0
      · exact wfirst_zero ls (i + 1) h l' h2
    · rename_i h0
      exact absurd h h0
theorem mdcode_names {W P : Int} {m : Mdl} (h : (mdcode W P m).1 = 0) : ∀ l ∈ m.tr, l.length ≤ 30 ∧ ∀ t ∈ l, isNm t = true := by
  intro l hl
  have h2 : wcode l = 0 := by
    unfold mdcode at h
    split at h
    · cases h
    split at h
    · cases h
    split at h
    · cases h
    exact wfirst_zero _ _ h l hl
  unfold wcode at h2
  split at h2
  · cases h2
  rename_i h3
  split at h2
  · cases h2
  rename_i h4
  (refine ⟨by omega, fun t ht => ?_⟩); (have := List.any_eq_false.1 (by simpa using h4 : (l.any fun t => !isNm t) = false) t ht); simpa using this
theorem nm8 {t : List UInt8} (h : isNm t = true) : t.length ≤ 8 := by
  unfold isNm at h; simp at h; exact h.1.2
end Go.Proofs.Ytclinobfbdljhah
/- Walks: modal.Eval, whole. -/
namespace Go.Proofs.Ytclinobfbdljhah
open Go.RowKit

/-- A model and a formula in which nothing is wrong. -/
theorem mf_ok {m : Mdl} {f : Fm} (h : (mfcode m f).1 = 0) : mfcode m f = (0, 0) ∧ (mdcode 40 2000 m).1 = 0 ∧ f.code = (0, 0) ∧ Fine f := by
  unfold mfcode at h ⊢
  split at h
  · rename_i h1
    have h2 := code_zero h; obtain ⟨s, hs⟩ := code_chk h2; rw [if_pos h1]; exact ⟨h2, h1, h2, fine_of_chk f 0 s hs⟩
  · rename_i h1
    exact absurd h h1
end Go.Proofs.Ytclinobfbdljhah
/- Worlds parted level by level, as data: numbers in the order in which keys come first; levels; two copies of a model. -/
namespace Go.Proofs.Ytclinobfbdljhah
open Go.RowKit

/-- Keys, each once, in the order in which they come first. -/
def extK {α : Type} [DecidableEq α] (kn : List α) (ks : List α) : List α := ks.foldl (fun a k => if k ∈ a then a else a ++ [k]) kn
theorem extK_cons {α : Type} [DecidableEq α] (kn : List α) (k : α) (ks : List α) : extK kn (k :: ks) = extK (if k ∈ kn then kn else kn ++ [k]) ks := rfl
theorem extK_app {α : Type} [DecidableEq α] (kn a b : List α) : extK kn (a ++ b) = extK (extK kn a) b := by simp [extK, List.foldl_append]
theorem extK_snoc {α : Type} [DecidableEq α] (kn a : List α) (k : α) : extK kn (a ++ [k]) = if k ∈ extK kn a then extK kn a else extK kn a ++ [k] := by rw [extK_app]; rfl
theorem extK_pre {α : Type} [DecidableEq α] : ∀ (ks kn : List α), ∃ r, extK kn ks = kn ++ r
  | [], kn => ⟨[], by simp [extK]⟩
  | k :: ks, kn => by
    rw [extK_cons]
    split
    · exact extK_pre ks kn
    · obtain ⟨r, hr⟩ := extK_pre ks (kn ++ [k])
      (exact ⟨k :: r, by rw [hr]; simp⟩)
theorem extK_mem {α : Type} [DecidableEq α] : ∀ (ks kn : List α) (x : α), x ∈ extK kn ks ↔ x ∈ kn ∨ x ∈ ks
  | [], kn, x => by simp [extK]
  | k :: ks, kn, x => by
    rw [extK_cons, extK_mem ks]
    split
    · rename_i h
      simp only [List.mem_cons]
      constructor
      · rintro (h1 | h1)
        · exact Or.inl h1
        · exact Or.inr (Or.inr h1)
      · rintro (h1 | rfl | h1)
        · exact Or.inl h1
        · exact Or.inl h
        · exact Or.inr h1
    · simp only [List.mem_append, List.mem_cons, List.not_mem_nil, or_false]
      constructor
      · rintro ((h1 | h1) | h1)
        · exact Or.inl h1
        · exact Or.inr (Or.inl h1)
        · exact Or.inr (Or.inr h1)
      · rintro (h1 | h1 | h1)
        · exact Or.inl (Or.inl h1)
        · exact Or.inl (Or.inr h1)
        · exact Or.inr h1
theorem extK_len {α : Type} [DecidableEq α] : ∀ (ks kn : List α), (extK kn ks).length ≤ kn.length + ks.length
  | [], kn => by simp [extK]
  | k :: ks, kn => by
    rw [extK_cons]
    split
    · have := extK_len ks kn
      simp; omega
    · have := extK_len ks (kn ++ [k])
      simp at this ⊢; omega
theorem idxOf_pre {α : Type} [DecidableEq α] {kn r : List α} {k : α} (h : k ∈ kn) : (kn ++ r).idxOf k = kn.idxOf k := by
  rw [List.idxOf_append, if_pos h]
theorem idxOf_new {α : Type} [DecidableEq α] {kn : List α} {k : α} (h : ¬ k ∈ kn) : (kn ++ [k]).idxOf k = kn.length := by
  rw [List.idxOf_append, if_neg h]
  simp
theorem idxOf_inj {α : Type} [DecidableEq α] {kn : List α} {a b : α} (ha : a ∈ kn) (hb : b ∈ kn) (e : kn.idxOf a = kn.idxOf b) : a = b := by
  have h1 := List.getElem_idxOf (List.idxOf_lt_length_of_mem ha); have h2 := List.getElem_idxOf (List.idxOf_lt_length_of_mem hb); rw [← h1, ← h2]; simp only [e]
/-- Of each key its number. -/
def numK {α : Type} [DecidableEq α] (ks : List α) : List Nat := ks.map fun k => (extK [] ks).idxOf k
theorem numK_len {α : Type} [DecidableEq α] (ks : List α) : (numK ks).length = ks.length := by simp [numK]
theorem numK_snoc {α : Type} [DecidableEq α] (ks : List α) (k : α) : numK (ks ++ [k]) = numK ks ++ [if k ∈ extK [] ks then (extK [] ks).idxOf k else (extK [] ks).length] := by
  unfold numK; rw [extK_snoc, List.map_append]; (have hm : ∀ x ∈ ks, x ∈ extK [] ks := fun x hx => (extK_mem ks [] x).2 (Or.inr hx))
  split
  · simp
  · rename_i h
    simp only [List.map_cons, List.map_nil, idxOf_new h]
    congr 1
    (exact List.map_congr_left fun x hx => idxOf_pre (hm x hx))
theorem numK_get {α : Type} [DecidableEq α] {ks : List α} {i : Nat} {k : α} (h : ks[i]? = some k) : (numK ks)[i]? = some ((extK [] ks).idxOf k) := by
  rw [numK, List.getElem?_map, h]; rfl
theorem numK_iff {α : Type} [DecidableEq α] {ks : List α} {i j : Nat} {a b : α} (ha : ks[i]? = some a) (hb : ks[j]? = some b) : (numK ks)[i]? = (numK ks)[j]? ↔ a = b := by
  rw [numK_get ha, numK_get hb]
  constructor
  · intro e
    exact idxOf_inj ((extK_mem ks [] a).2 (Or.inr (List.mem_of_getElem? ha))) ((extK_mem ks [] b).2 (Or.inr (List.mem_of_getElem? hb))) (Option.some.inj e)
  · rintro rfl; rfl
theorem numK_lt {α : Type} [DecidableEq α] {ks : List α} {n : Nat} (h : n ∈ numK ks) : n < ks.length := by
  obtain ⟨k, hk, rfl⟩ := List.mem_map.1 h; have h1 := List.idxOf_lt_length_of_mem ((extK_mem ks [] k).2 (Or.inr hk)); have h2 := extK_len ks ([] : List α); simp at h2; omega
/-- Only which keys are the same matters. -/
theorem ext_zip {α β : Type} [DecidableEq α] [DecidableEq β] : ∀ (l kn : List (α × β)), (∀ p ∈ kn ++ l, ∀ q ∈ kn ++ l, (p.1 = q.1 ↔ p.2 = q.2)) → ∃ r : List (α × β), (∀ p ∈ r, p ∈ kn ++ l) ∧ extK (kn.map Prod.fst) (l.map Prod.fst) = r.map Prod.fst ∧ extK (kn.map Prod.snd) (l.map Prod.snd) = r.map Prod.snd
  | [], kn, _ => ⟨kn, fun p hp => by simpa using hp, rfl, rfl⟩
  | x :: l, kn, h => by
    have hx : x.1 ∈ kn.map Prod.fst ↔ x.2 ∈ kn.map Prod.snd := by
      simp only [List.mem_map]
      constructor
      · rintro ⟨q, hq, e⟩
        (exact ⟨q, hq, (h q (by simp [hq]) x (by simp)).1 e⟩)
      · rintro ⟨q, hq, e⟩
        (exact ⟨q, hq, (h q (by simp [hq]) x (by simp)).2 e⟩)
    rw [List.map_cons, List.map_cons, extK_cons, extK_cons]; by_cases hm : x.1 ∈ kn.map Prod.fst
    · rw [if_pos hm, if_pos (hx.1 hm)]
      (obtain ⟨r, h1, h2, h3⟩ := ext_zip l kn fun p hp q hq => h p (by simp at hp ⊢; rcases hp with hp | hp <;> simp [hp]) q (by simp at hq ⊢; rcases hq with hq | hq <;> simp [hq])); (exact ⟨r, fun p hp => by have := h1 p hp; simp at this ⊢; rcases this with hp | hp <;> simp [hp], h2, h3⟩)
    · rw [if_neg hm, if_neg fun e => hm (hx.2 e)]
      (obtain ⟨r, h1, h2, h3⟩ := ext_zip l (kn ++ [x]) (by simpa using h)); simp only [List.map_append, List.map_cons, List.map_nil] at h2 h3; (exact ⟨r, by simpa using h1, h2, h3⟩)
theorem idx_zip {α β : Type} [DecidableEq α] [DecidableEq β] : ∀ (r : List (α × β)) (x : α × β), (∀ p ∈ r, (p.1 = x.1 ↔ p.2 = x.2)) → (r.map Prod.fst).idxOf x.1 = (r.map Prod.snd).idxOf x.2
  | [], _, _ => rfl
  | p :: r, x, h => by
    (have h1 := h p (by simp)); simp only [List.map_cons, List.idxOf_cons]; by_cases e : p.1 = x.1
    · have e2 := h1.1 e
      simp [e, e2]
    · have e2 : ¬ p.2 = x.2 := fun h => e (h1.2 h)
      (have h3 := idx_zip r x fun q hq => h q (by simp [hq])); (have e3 : (p.1 == x.1) = false := by simpa using e); (have e4 : (p.2 == x.2) = false := by simpa using e2); rw [e3, e4, h3]
theorem numK_zip {α β : Type} [DecidableEq α] [DecidableEq β] (l : List (α × β)) (h : ∀ p ∈ l, ∀ q ∈ l, (p.1 = q.1 ↔ p.2 = q.2)) : numK (l.map Prod.fst) = numK (l.map Prod.snd) := by
  (obtain ⟨r, h1, h2, h3⟩ := ext_zip l [] (by simpa using h)); unfold numK; simp only [List.map_nil] at h2 h3; rw [h2, h3, List.map_map, List.map_map]; (refine List.map_congr_left fun x hx => ?_); (exact idx_zip r x fun p hp => h p (by simpa using h1 p hp) x hx)
/-- What keys the numbers themselves are: their own. -/
theorem numK_same {α β : Type} [DecidableEq α] [DecidableEq β] {a : List α} {b : List β} (hl : a.length = b.length) (h : ∀ (i j : Nat) x y u v, a[i]? = some x → a[j]? = some y → b[i]? = some u → b[j]? = some v → (x = y ↔ u = v)) : numK a = numK b := by
  (have h1 : a = (a.zip b).map Prod.fst := by rw [List.map_fst_zip]; omega); (have h2 : b = (a.zip b).map Prod.snd := by rw [List.map_snd_zip]; omega)
  have := numK_zip (a.zip b) fun p hp q hq => by
    obtain ⟨i, hi⟩ := List.getElem?_of_mem hp; obtain ⟨j, hj⟩ := List.getElem?_of_mem hq; rw [List.getElem?_zip_eq_some] at hi hj; exact h i j _ _ _ _ hi.1 hj.1 hi.2 hj.2
  rwa [← h1, ← h2] at this
/-- Numbers of numbers are the same numbers. -/
theorem numK_idem {α : Type} [DecidableEq α] (ks : List α) : numK (numK ks) = numK ks := by
  (refine numK_same (numK_len ks) fun i j x y u v hx hy hu hv => ?_); rw [numK_get hu] at hx; rw [numK_get hv] at hy; have := numK_iff hu hv; rw [numK_get hu, numK_get hv, hx, hy] at this; simpa using this
/-- The classes that a world sees. -/
def seesC (N : Nat) (R : Nat → Nat → Bool) (cl : List Nat) (u c : Nat) : Bool := (List.range N).any fun v => R u v && cl.getD v 0 == c
/-- What parts worlds at a level. -/
def sightK (N M : Nat) (R : Nat → Nat → Bool) (cl : List Nat) (u : Nat) : Nat × Nat := (cl.getD u 0, bm M (seesC N R cl u))
def partK (N : Nat) (R : Nat → Nat → Bool) (cl : List Nat) : List Nat := numK ((List.range N).map (sightK N N R cl))
def levK (N : Nat) (R : Nat → Nat → Bool) (c0 : List Nat) : Nat → List Nat
  | 0 => c0
  | k + 1 => partK N R (levK N R c0 k)
theorem partK_len (N : Nat) (R : Nat → Nat → Bool) (cl : List Nat) : (partK N R cl).length = N := by simp [partK, numK_len]
theorem partK_lt {N : Nat} {R : Nat → Nat → Bool} {cl : List Nat} {n : Nat} (h : n ∈ partK N R cl) : n < N := by simpa using numK_lt h
theorem range_get {N i : Nat} (h : i < N) : (List.range N)[i]? = some i := by rw [List.getElem?_range h]
theorem partK_iff {N : Nat} {R : Nat → Nat → Bool} {cl : List Nat} {i j : Nat} (hi : i < N) (hj : j < N) : (partK N R cl).getD i 0 = (partK N R cl).getD j 0 ↔ sightK N N R cl i = sightK N N R cl j := by
  (have h1 : ((List.range N).map (sightK N N R cl))[i]? = some (sightK N N R cl i) := by rw [List.getElem?_map, range_get hi]; rfl); (have h2 : ((List.range N).map (sightK N N R cl))[j]? = some (sightK N N R cl j) := by rw [List.getElem?_map, range_get hj]; rfl); rw [← numK_iff h1 h2, List.getD_eq_getElem?_getD, List.getD_eq_getElem?_getD, partK, numK_get h1, numK_get h2]
  simp
/-- How many pairs of worlds are in one class. -/
def togK (N : Nat) (cl : List Nat) : Nat := (List.range (N * N)).countP fun p => cl.getD (p / N) 0 == cl.getD (p % N) 0
theorem togK_le (N : Nat) (cl : List Nat) : togK N cl ≤ N * N := by
  (have := List.countP_le_length (p := fun p => cl.getD (p / N) 0 == cl.getD (p % N) 0) (l := List.range (N * N))); simpa [togK] using this
theorem countP_less {α : Type} {p q : α → Bool} : ∀ {l : List α} (_ : ∀ x ∈ l, p x = true → q x = true) {a : α} (_ : a ∈ l) (_ : q a = true) (_ : p a = false), l.countP p < l.countP q
  | [], _, a, ha, _, _ => by cases ha
  | x :: l, h, a, ha, hq, hp => by
    (have h' : ∀ y ∈ l, p y = true → q y = true := fun y hy => h y (by simp [hy])); have hle := List.countP_mono_left h'; rw [List.countP_cons, List.countP_cons]
    rcases List.mem_cons.1 ha with rfl | ha
    · rw [hq, hp]; simp; omega
    · have := countP_less h' ha hq hp
      (have hx := h x (by simp))
      cases hpx : p x <;> cases hqx : q x
      · simp; omega
      · simp; omega
      · rw [hpx, hqx] at hx; exact absurd (hx rfl) (by simp)
      · simp; omega
/-- A level that is not the same has fewer pairs in one class. -/
theorem partK_less {N : Nat} {R : Nat → Nat → Bool} {cl : List Nat} (hl : cl.length = N) (hc : numK cl = cl) (hne : partK N R cl ≠ cl) : togK N (partK N R cl) < togK N cl := by
  (have href : ∀ i j, i < N → j < N → (partK N R cl).getD i 0 = (partK N R cl).getD j 0 → cl.getD i 0 = cl.getD j 0 := fun i j hi hj e => (Prod.mk.inj ((partK_iff hi hj).1 e)).1); by_cases hall : ∀ i j, i < N → j < N → cl.getD i 0 = cl.getD j 0 → (partK N R cl).getD i 0 = (partK N R cl).getD j 0
  · refine absurd ?_ hne
    have e : numK (partK N R cl) = numK cl := numK_same (by rw [partK_len, hl]) fun i j x y u v hx hy hu hv => by
      (have hi : i < N := by have := (List.getElem?_eq_some_iff.1 hu).1; omega); (have hj : j < N := by have := (List.getElem?_eq_some_iff.1 hv).1; omega); have k1 := href i j hi hj; have k2 := hall i j hi hj; simp only [List.getD_eq_getElem?_getD, hx, hy, hu, hv, Option.getD_some] at k1 k2; exact ⟨k1, k2⟩
    rw [hc] at e; (have e2 : partK N R cl = numK (partK N R cl) := by rw [partK]; exact (numK_idem _).symm); exact e2.trans e
  · simp only [Classical.not_forall] at hall
    obtain ⟨i, j, hi, hj, e, hn⟩ := hall; (refine countP_less (fun p hp h => ?_) (a := i * N + j) ?_ ?_ ?_)
    · simp only [beq_iff_eq] at h ⊢
      have hp' := List.mem_range.1 hp; (have hN : 0 < N := by omega); exact href _ _ (Nat.div_lt_of_lt_mul hp') (Nat.mod_lt _ hN) h
    · rw [List.mem_range]
      calc i * N + j < i * N + N := by omega
        _ = (i + 1) * N := by rw [Nat.add_mul, Nat.one_mul]
        _ ≤ N * N := Nat.mul_le_mul_right _ hi
    · simp only [beq_iff_eq]
      (rw [Nat.mul_comm i N, Nat.mul_add_div (by omega), Nat.div_eq_of_lt hj, Nat.mul_add_mod, Nat.mod_eq_of_lt hj]); simpa using e
    · rw [Nat.mul_comm i N, Nat.mul_add_div (by omega), Nat.div_eq_of_lt hj, Nat.mul_add_mod, Nat.mod_eq_of_lt hj]
      simpa using hn
theorem levK_num {N : Nat} {R : Nat → Nat → Bool} {c0 : List Nat} (h : numK c0 = c0) : ∀ k, numK (levK N R c0 k) = levK N R c0 k
  | 0 => h
  | k + 1 => by rw [levK, partK]; exact numK_idem _
theorem levK_len {N : Nat} {R : Nat → Nat → Bool} {c0 : List Nat} (h : c0.length = N) : ∀ k, (levK N R c0 k).length = N
  | 0 => h
  | _ + 1 => partK_len _ _ _
theorem levK_lt {N : Nat} {R : Nat → Nat → Bool} {c0 : List Nat} (h : ∀ n ∈ c0, n < N) : ∀ k, ∀ n ∈ levK N R c0 k, n < N
  | 0 => h
  | _ + 1 => fun _ hn => partK_lt hn
theorem levK_still {N : Nat} {R : Nat → Nat → Bool} {c0 : List Nat} {k : Nat} (h : levK N R c0 (k + 1) = levK N R c0 k) : ∀ j, k ≤ j → levK N R c0 j = levK N R c0 k
  | 0, hj => by rw [Nat.le_zero.1 hj]
  | j + 1, hj => by
    rcases Nat.lt_or_ge j k with h1 | h1
    · have : k = j + 1 := by omega
      rw [this]
    · rw [levK, levK_still h j h1]
      exact h
/-- The last level. -/
def lastK (N : Nat) (R : Nat → Nat → Bool) (c0 : List Nat) : List Nat := levK N R c0 (N * N + 1)
theorem tog_drop {N : Nat} {R : Nat → Nat → Bool} {c0 : List Nat} (hl : c0.length = N) (hc : numK c0 = c0) : ∀ k, (∀ i, i < k → levK N R c0 (i + 1) ≠ levK N R c0 i) → togK N (levK N R c0 k) + k ≤ N * N
  | 0, _ => togK_le _ _
  | k + 1, h => by
    (have h1 := tog_drop hl hc k fun i hi => h i (by omega)); (have h2 := partK_less (R := R) (levK_len hl k) (levK_num hc k) (h k (by omega))); rw [levK]; omega
theorem lastK_of {N : Nat} {R : Nat → Nat → Bool} {c0 : List Nat} (hl : c0.length = N) (hc : numK c0 = c0) {k : Nat} (hb : ∀ i, i < k → levK N R c0 (i + 1) ≠ levK N R c0 i) (h : levK N R c0 (k + 1) = levK N R c0 k) : lastK N R c0 = levK N R c0 k := by
  have := tog_drop (R := R) hl hc k hb; (exact levK_still h _ (by omega))
end Go.Proofs.Ytclinobfbdljhah
/- Walks: numbers given out in the order in which keys come first (numberOf), for texts and for what worlds see. -/
namespace Go.Proofs.Ytclinobfbdljhah
open Go.RowKit Go.Maps Go.WideMaps

/-- Where a key stands. -/
def ixK {α : Type} [DecidableEq α] (l : List α) (k : α) : Nat := l.idxOf k
/-- Keys and their numbers, in a map. -/
def NuM {α : Type} [DecidableEq α] (kt : TypeId) (key : α → Lit) (Ok : α → Prop) (w : World) (b : Nat) (l : List α) : Prop := ∃ (n : Nat) (D : DataW Unit), w.ownsMap Try.prog kt (plainElem Try.prog 3) b n D ∧ n ≤ l.length ∧ Maps.size D = l.length ∧ (∀ s, Ok s → Maps.has D (key s) = decide (s ∈ l)) ∧ (∀ s, s ∈ l → Ok s) ∧ ∀ s, s ∈ l → ∀ z, D.atKey (key s) z = .lit (.int .i64 (ixK l s : Nat))
theorem NuM.nil {α : Type} [DecidableEq α] {kt : TypeId} {key : α → Lit} {Ok : α → Prop} {w : World} : NuM kt key Ok (w.alloc (.map #[] 0)) w.heap.size [] :=
  ⟨0, .map [], World.ownsMap_made _ _ _ _, Nat.le_refl _, rfl, fun s _ => by simp [has_eq], fun s h => (by cases h), fun s h => (by cases h)⟩
theorem NuM.snoc {α : Type} [DecidableEq α] {kt : TypeId} {key : α → Lit} {Ok : α → Prop} (hinj : ∀ a b, Ok a → Ok b → key a = key b → a = b) (hlit : ∀ a, WideAt.IsKeyLit (key a)) {w' : World} {b : Nat} {l : List α} {t : α} {n : Nat} {D : DataW Unit} (ht : Ok t) (htl : t ∉ l) (hn : n ≤ l.length) (hD : Tidy D) (hM : IsMap D) (h0 : Maps.size D = l.length) (h1 : ∀ s, Ok s → Maps.has D (key s) = decide (s ∈ l)) (h2 : ∀ s, s ∈ l → Ok s) (h3 : ∀ s, s ∈ l → ∀ z, D.atKey (key s) z = .lit (.int .i64 (ixK l s : Nat)))
    (h : w'.ownsMap Try.prog kt (plainElem Try.prog 3) b (n + 1) (D.put (key t) (.lit (.int .i64 (l.length : Nat))))) : NuM kt key Ok w' b (l ++ [t]) := by
  (refine ⟨n + 1, _, h, by simp; omega, ?_, fun s hs => ?_, fun s hs => ?_, fun s hs z => ?_⟩)
  · rw [Go.Maps.size_put hD, h1 t ht, decide_eq_false htl]
    simp [h0]
  · by_cases e : s = t
    · subst e; rw [has_put_same hM (hlit _)]; simp
    · rw [has_put_other (fun h => e (by first | exact hinj _ _ hs ht h | exact (hinj _ _ ht hs h).symm)), h1 s hs]; simp [e]
  · rcases List.mem_append.1 hs with h4 | h4
    · exact h2 s h4
    · simp at h4; rw [h4]; exact ht
  · by_cases e : s = t
    · subst e
      rw [atKey_put_same hM (hlit _) _ z, ixK, idxOf_new htl]
    · have hs' : s ∈ l := by simpa [e] using hs
      (rw [atKey_put_other (fun h => e (by first | exact hinj _ _ (h2 s hs') ht h | exact (hinj _ _ ht (h2 s hs') h).symm)), h3 s hs' z, ixK, ixK, idxOf_pre hs'])
theorem NuM.same {α : Type} [DecidableEq α] {kt : TypeId} {key : α → Lit} {Ok : α → Prop} {w w' : World} {b : Nat} {l : List α} (h : NuM kt key Ok w b l) (e : w'.heap[b]? = w.heap[b]?) : NuM kt key Ok w' b l := by
  obtain ⟨n, D, ⟨es, clock, hb, r⟩, r2⟩ := h; exact ⟨n, D, ⟨es, clock, e.trans hb, r⟩, r2⟩
theorem NuM.lt {α : Type} [DecidableEq α] {kt : TypeId} {key : α → Lit} {Ok : α → Prop} {w : World} {b : Nat} {l : List α} (h : NuM kt key Ok w b l) : b < w.heap.size := by
  obtain ⟨n, D, ⟨es, clock, hb, r⟩, r2⟩ := h; exact lt_of_block hb
/-- The number that a key has or gets. -/
def nuK {α : Type} [DecidableEq α] (l : List α) (k : α) : Nat := if k ∈ l then ixK l k else l.length
theorem extK_one {α : Type} [DecidableEq α] (l : List α) (k : α) : extK l [k] = if k ∈ l then l else l ++ [k] := rfl
/-- Look-ups in such a map. -/
theorem NuM.look {α : Type} [DecidableEq α] {kt mt : TypeId} {key : α → Lit} {Ok : α → Prop} (K : Keyed Try.prog kt) (hmt : Try.prog.underlying mt = some (.map kt 3)) {w : World} {b : Nat} {l : List α} (h : NuM kt key Ok w b l) {k : α} (hk : Ok k) {kv : Value} (hkey : keyOf Try.prog kt kv = some (key k)) :
    ∃ (c : Int) (d : Bool), (k ∈ l → c = (ixK l k : Nat) ∧ d = true) ∧ (k ∉ l → d = false) ∧ ∀ x, (Instr.lookup mt (.map (some b)) kv true).run Try.prog (w.drewN x) = .ok (.tuple #[.int .i64 c, .bool d]) (w.drewN x) := by
  obtain ⟨nn, D, hmap, -, -, hh1, -, hh3⟩ := h
  have look : ∀ x, ∃ c, (Instr.lookup mt (.map (some b)) kv true).run Try.prog (w.drewN x) = .ok (.tuple #[.int .i64 c, .bool (Maps.has D (key k))]) (w.drewN x) ∧ D.atKey (key k) (.lit (.int .i64 0)) = .lit (.int .i64 c) ∧ (Lit.int .i64 c).wf = true := fun x => by
    have hm : (w.drewN x).ownsMap Try.prog kt (plainElem Try.prog 3) b nn D := hmap; (obtain ⟨v, pl, hrun, hv⟩ := hm.look_ok K hmt (zeroInt _) (plainElem_int Try.underlying3 (WalkArith.wf_i64 (by omega))) hkey); obtain ⟨c, rfl, hz, hw⟩ := plainElem_int_inv Try.underlying3 hv; (exact ⟨c, hrun, by injection hz, hw⟩)
  obtain ⟨c, -, hat, hcw⟩ := look 0; (refine ⟨c, Maps.has D (key k), fun hin => ⟨?_, by rw [hh1 k hk]; exact decide_eq_true hin⟩, fun hin => by rw [hh1 k hk]; exact decide_eq_false hin, fun x => ?_⟩)
  · have h1 := (hh3 k hin (.lit (.int .i64 0))).symm.trans hat
    exact (Lit.int.inj (DataW.lit.inj h1)).2.symm
  · obtain ⟨c', hrun, hat', -⟩ := look x
    rw [hat] at hat'; have : c = c' := (Lit.int.inj (DataW.lit.inj hat')).2; rw [this]; exact hrun
theorem kept_reflS (ok : Nat → Prop) (w : World) : Kept ok w w := ⟨rfl, rfl, rfl, Nat.le_refl _, fun _ _ _ => rfl⟩
theorem kept_grownS {w w' : World} {b : Nat} (h : w.grownBy w' (some b)) : Kept (fun x => x ≠ b) w w' := ⟨h.os, h.tape, h.output, h.size, fun x hx hn => h.block x hx fun e => hn (Option.some.inj e)⟩
def OkT (t : List UInt8) : Prop := t.length ≤ maxLen
abbrev NuT (w : World) (b : Nat) (l : List (List UInt8)) : Prop := NuM 9 (fun t => Lit.string t) OkT w b l
set_option maxRecDepth 10000 in
set_option maxHeartbeats 4000000 in
theorem numberT_any (k : List UInt8) (hk : k.length ≤ 1000) (b : Nat) (l : List (List UInt8)) (hl : l.length ≤ 1000) (w : World) (h : NuT w b l) :
    Calls Try.prog 111 #[.string ⟨k.toArray⟩, .map (some b)] w fun e w' => e = .returned (.int .i64 (nuK l k : Nat)) ∧ NuT w' b (extK l [k]) ∧ Kept (fun x => x ≠ b) w w' := by
  (have hok : OkT k := by unfold OkT maxLen; omega); have hkey := keyStr k hok; obtain ⟨c, d, hci, hcn, hlk⟩ := NuM.look strKeyed Try.underlying159 h hok hkey; have hlk0 : (Instr.lookup 159 (.map (some b)) (.string ⟨k.toArray⟩) true).run Try.prog w = .ok (.tuple #[.int .i64 c, .bool d]) w := hlk 0; obtain ⟨n, D, hown, hn, hsz, hh1, hh2, hh3⟩ := h; have HM : Hid (NuT w b l) := ⟨n, D, hown, hn, hsz, hh1, hh2, hh3⟩; (have HN : Hid (k ∉ l → ∀ w', w'.ownsMap Try.prog 9 (plainElem Try.prog 3) b (n + 1) (D.put (.string k) (.lit (.int .i64 (l.length : Nat)))) → NuT w' b (l ++ [k])) := fun hnl w' hw' => NuM.snoc (key := fun t => Lit.string t) (fun a b _ _ e => by injection e) (fun a => by first | trivial | exact True.intro | simp [WideAt.IsKeyLit]) hok hnl hn (hown.tidy strKeyed) hown.isMap hsz hh1 hh2 hh3 hw'); (have hnm : n < maxLen := by unfold maxLen; omega); generalize (⟨k.toArray⟩ : ByteArray) = T at *; clear hlk hh1 hh2 hh3
  go_enter Try.func111, Try.ntmps111
  by_cases hin : k ∈ l
  · obtain ⟨rfl, rfl⟩ := hci hin
    (have HR : Hid (nuK l k = ixK l k) := by show _ = _; rw [nuK, if_pos hin]); (have HE : Hid (extK l [k] = l) := by show _ = _; rw [extK_one, if_pos hin]); clear hci hcn hin hown hkey hsz; go_wp2_with fail; go_ret; (exact ⟨by rw [HR.out]; rfl, by rw [HE.out]; exact HM.out, kept_reflS _ _⟩)
  · have hd := hcn hin
    subst hd; (have HR : Hid (nuK l k = l.length) := by show _ = _; rw [nuK, if_neg hin]); (have HE : Hid (extK l [k] = l ++ [k]) := by show _ = _; rw [extK_one, if_neg hin]); have HN2 := HN.out hin; clear hci hcn hin
    go_wp2_with (first
      | (at_len; refine wpList_len_own _ rfl _ 159 rfl 9 3 Try.underlying159 _ b n D rfl hown ?_; rw [hsz])
      | (at_mapUpdate
         (refine wpList_mapUpdate_own _ rfl _ _ _ 159 rfl 9 3 strKeyed Try.underlying159 _ b n _ rfl hown hnm _ _ _ rfl rfl hkey _ [] (plainElem_int Try.underlying3 (WalkArith.wf_i64 (by omega))) ?_); intro w1 hown1 hgrow1; have HR1 : Hid (NuT w1 b (l ++ [k])) := HN2 _ hown1; have HG1 : Hid (w.grownBy w1 (some b)) := hgrow1
         clear hown1 hgrow1)
      | fail)
    go_ret; (exact ⟨by rw [HR.out]; rfl, by rw [HE.out]; exact HR1.out, kept_grownS HG1.out⟩)
end Go.Proofs.Ytclinobfbdljhah
