/- Texts of one proof, one behind the other: CB5, Free4, MD6, MD7, MD8, ME5, SB1. -/
import Derived.Test.YtlmjnglcdgkomahB14
import Derived.Test.YtlmjnglcdgkomahB10
import Derived.Test.YtlmjnglcdgkomahB08
import Derived.Deep.RegionLaw
import Derived.Deep.DeepCutAuto
import Derived.Test.YtlmjnglcdgkomahB04
import Derived.Lib.AppendZerosOnto
import Derived.Test.YtlmjnglcdgkomahB13
import Derived.Test.YtlmjnglcdgkomahB09
import Derived.Test.YtlmjnglcdgkomahB06
import Derived.Lib.SliceRun
import Derived.Maps.OwnSet
import Derived.Shelf.SlMaps.Copy
import Derived.Deep.OwnRows
import Derived.Test.YtlmjnglcdgkomahB12
/- Walks: bag.Without. -/
namespace Go.Proofs.Ytlmjnglcdgkomah
open Go.RowKit

theorem wrap_small (n : Nat) (h : n < 9223372036854775808) : IntKind.i64.wrap (n : Int) = (n : Int) := by
  (have h1 : (n : Int).toNat = n := by omega); simp [IntKind.wrap, IntKind.bits, IntKind.signed]; omega

end Go.Proofs.Ytlmjnglcdgkomah
/- A frame behind a drawn region whose slots lie in a row. -/
namespace Go.Proofs.Ytlmjnglcdgkomah
open Go.RowKit

theorem frame_mid2 {ops : Array Oper} {tm : Array Value} {df : List Deferred} {a0 : Act} (lo n : Nat) (hin : (ops.toList.all fun o => match o.dst with | some d => decide (lo ≤ d ∧ lo + n > d) | none => true) = true) (hlen : lo + n ≤ a0.tmps.size) (h : OldSlots ops a0 ⟨tm, df⟩) : ∃ ys : List Value, ys.length = n ∧ tm = ⟨a0.tmps.toList.take lo ++ (ys ++ a0.tmps.toList.drop (lo + n))⟩ ∧ df = a0.defers := by
  obtain ⟨h1, h2, h3⟩ := h; have h1' : tm.toList.length = a0.tmps.toList.length := h1; have hl : lo + n ≤ a0.tmps.toList.length := hlen
  have old : ∀ t, (t < lo ∨ lo + n ≤ t) → tm.toList[t]? = a0.tmps.toList[t]? := fun t ht => by
    have := h3 t (by
      rw [List.all_eq_true] at hin ⊢; intro o ho; have := hin o ho
      cases hd : o.dst with
      | none => rfl
      | some d =>
        rw [hd] at this; have := of_decide_eq_true this; (refine bne_iff_ne.2 fun e => ?_); have e2 : d = t := Option.some.inj e; subst e2
        omega)
    simpa using this
  (refine ⟨(tm.toList.drop lo).take n, by rw [List.length_take, List.length_drop]; omega, ?_, h2⟩); apply Array.ext'; apply List.ext_getElem?; intro t
  rcases Nat.lt_or_ge t lo with ht | ht
  · rw [List.getElem?_append_left (by rw [List.length_take]; omega), List.getElem?_take_of_lt ht]
    exact old t (Or.inl ht)
  · rw [List.getElem?_append_right (by rw [List.length_take]; omega), List.length_take, Nat.min_eq_left (by omega)]
    rcases Nat.lt_or_ge t (lo + n) with ht2 | ht2
    · rw [List.getElem?_append_left (by rw [List.length_take, List.length_drop]; omega), List.getElem?_take_of_lt (by omega), List.getElem?_drop]
      congr 1
      omega
    · rw [List.getElem?_append_right (by rw [List.length_take, List.length_drop]; omega), List.length_take, List.length_drop, Nat.min_eq_left (by omega), List.getElem?_drop, old t (Or.inr ht2)]
      congr 1
      omega
end Go.Proofs.Ytlmjnglcdgkomah
/- Walks: a model of one's own. -/
namespace Go.Proofs.Ytlmjnglcdgkomah
open Go.RowKit Go.Sort

theorem cons_lenM {n : Nat} {l : List Value} (h : l.length = n + 1) : ∃ v t, l = v :: t ∧ t.length = n := by
  cases l with
  | nil => cases h
  | cons v t => exact ⟨v, t, rfl, by simpa using h⟩
theorem someInjM {x y : Value} (h : some x = some y) : x = y := Option.some.inj h
theorem eval_tmpM {a : Act} {n : Nat} {v : Value} (h : a.tmps[n]? = some v) : a.eval (.tmp n) = v := by
  simp [Act.eval, h]
theorem set3M {w : World} {b : Nat} {x0 x1 x2 : Value} {T : TypeId} (h : w.heap[b]? = some (.cells #[x0, x1, x2] T (0, 0))) (y0 y1 y2 : Value) : (((w.setCell ⟨b, 0, none⟩ y0).setCell ⟨b, 1, none⟩ y1).setCell ⟨b, 2, none⟩ y2).heap[b]? = some (.cells #[y0, y1, y2] T (0, 0)) := by
  simp [World.setCell, Array.getElem?_modify, h]
theorem farM {W : World} {b x i : Nat} (h : x ≠ b) (v : Value) : (W.setCell ⟨b, i, none⟩ v).heap[x]? = W.heap[x]? := Below.heap_setCell _ _ _ _ (by simpa using h)
theorem rowM_ne {B : Nat} {w : World} {T T' : TypeId} {sz n g : Nat} {v : Value} {cs : List Value} {cur : Array Value} (h : w.ownsRow B T sz v n cs) (hg : w.heap[g]? = some (.cells cur T' (0, 0))) (hT : T' ≠ T) : v.ownBlock ≠ some g := fun e => by
  rcases h.2 with ⟨rfl, -⟩ | ⟨g', cap, cur', rfl, -, hh, -⟩
  · cases e
  · have : g' = g := by simpa [Value.ownBlock] using e
    subst this; rw [hh] at hg; simp only [Option.some.injEq, Obj.cells.injEq] at hg; exact hT hg.2.1.symm
end Go.Proofs.Ytlmjnglcdgkomah
/- Walks: which worlds each world sees. -/
namespace Go.Proofs.Ytlmjnglcdgkomah
open Go.RowKit Go.Sort

theorem infoI9 : ∃ i, Try.prog.info? 3 = some i ∧ i.zero = some (.int .i64 0) ∧ i.size = 1 ∧ i.bytes = 8 := by
  (obtain ⟨i, hi, h⟩ := Option.map_eq_some_iff.1 (show (Try.prog.info? 3).map (fun i => (i.zero, i.size, i.bytes)) = some (some (.int .i64 0), 1, 8) by kernel_rfl)); simp only [Prod.mk.injEq] at h; exact ⟨i, hi, h.1, h.2.1, h.2.2⟩
def encI (k : Nat) : Value := .int .i64 (k : Nat)
end Go.Proofs.Ytlmjnglcdgkomah
/- Which worlds each world sees: what it says, and its rows as they are read. -/
namespace Go.Proofs.Ytlmjnglcdgkomah
open Go.RowKit Go.Sort

/-- The pairs lie among so many worlds. -/
def InR (N : Nat) (rs : List (Int × Int)) : Prop := ∀ p ∈ rs, 0 ≤ p.1 ∧ p.1 < N ∧ 0 ≤ p.2 ∧ p.2 < N
/-- The pairs of a model that is fine lie among its worlds. -/
theorem mdcode_in {W P : Int} {m : Mdl} (h : (mdcode W P m).1 = 0) : ∃ N : Nat, m.n = (N : Int) ∧ 1 ≤ N ∧ (N : Int) ≤ W ∧ (m.rel.length : Int) ≤ P ∧ m.tr.length = N ∧ InR N m.rel := by
  unfold mdcode at h
  split at h
  · cases h
  rename_i h1
  split at h
  · cases h
  rename_i h2
  split at h
  · cases h
  rename_i h3
  (refine ⟨m.n.toNat, by omega, by omega, by omega, by omega, by omega, fun p hp => ?_⟩)
  have h4 : pairBad m.n p = false := by
    (have := List.any_eq_false.1 (by simpa using h3 : m.rel.any (pairBad m.n) = false) p hp); simpa using this
  simp [pairBad] at h4; omega
end Go.Proofs.Ytlmjnglcdgkomah
/- Walks: what a model's worlds see, as sets. -/
namespace Go.Proofs.Ytlmjnglcdgkomah
open Go.RowKit

/-- Which pairs stand in a list. -/
def relB (rs : List (Int × Int)) (u v : Nat) : Bool := rs.contains ((u : Int), (v : Int))
/-- Rows of pairs as sets, cell by cell. -/
def frC (N : Nat) (rs : List (Int × Int)) : Array Value := ((List.range N).map fun u => Value.int .u64 ((bm N (relB rs u) : Nat) : Int)).toArray
theorem frC_size (N : Nat) (rs : List (Int × Int)) : (frC N rs).size = N := by simp [frC]
theorem frC_get {N u : Nat} (rs : List (Int × Int)) (h : u < N) : (frC N rs)[u]? = some (.int .u64 (bm N (relB rs u) : Nat)) := by
  simp [frC, h]
theorem frC_zero (N : Nat) : madeCells #[Value.int .u64 0] N = frC N [] := by
  apply Array.ext'; rw [toList_madeCells_one]; (have : ∀ u, bm N (relB [] u) = 0 := fun u => bm_none N); simp [frC, this, List.map_const']
theorem relB_snoc (rs : List (Int × Int)) (x y u v : Nat) : relB (rs ++ [((x : Int), (y : Int))]) u v = (relB rs u v || (u == x && v == y)) := by
  unfold relB; rw [Bool.eq_iff_iff]; simp [Int.natCast_inj]
theorem frC_set {N x y : Nat} {rs : List (Int × Int)} : (frC N rs).setIfInBounds x (.int .u64 (bm N (fun v => relB rs x v || v == y) : Nat)) = frC N (rs ++ [((x : Int), (y : Int))]) := by
  apply Array.ext_getElem?; intro j; by_cases hj : j < N
  · rw [frC_get _ hj]
    by_cases e : x = j
    · subst e
      (rw [Array.getElem?_setIfInBounds_self_of_lt (by rw [frC_size]; exact hj)])
      congr 3
      (exact bm_ext fun v _ => by rw [relB_snoc]; simp)
    · rw [Array.getElem?_setIfInBounds_ne e, frC_get _ hj]
      (have e2 : ¬ j = x := fun h => e h.symm)
      congr 3
      (exact bm_ext fun v _ => by rw [relB_snoc]; simp [e2])
  · rw [Array.getElem?_eq_none (by simp [frC_size]; omega), Array.getElem?_eq_none (by simp [frC_size]; omega)]
end Go.Proofs.Ytlmjnglcdgkomah
/- Worlds parted level by level, as data: numbers in the order in which keys come first; levels; two copies of a model. -/
namespace Go.Proofs.Ytlmjnglcdgkomah
open Go.RowKit

/-- Keys, each once, in the order in which they come first. -/
def extK {α : Type} [DecidableEq α] (kn : List α) (ks : List α) : List α := ks.foldl (fun a k => if k ∈ a then a else a ++ [k]) kn
theorem extK_cons {α : Type} [DecidableEq α] (kn : List α) (k : α) (ks : List α) : extK kn (k :: ks) = extK (if k ∈ kn then kn else kn ++ [k]) ks := rfl
theorem extK_app {α : Type} [DecidableEq α] (kn a b : List α) : extK kn (a ++ b) = extK (extK kn a) b := by simp [extK, List.foldl_append]
theorem extK_snoc {α : Type} [DecidableEq α] (kn a : List α) (k : α) : extK kn (a ++ [k]) = if k ∈ extK kn a then extK kn a else extK kn a ++ [k] := by rw [extK_app]; rfl
theorem extK_mem {α : Type} [DecidableEq α] : ∀ (ks kn : List α) (x : α), x ∈ extK kn ks ↔ x ∈ kn ∨ x ∈ ks
  | [], kn, x => by simp [extK]
  | k :: ks, kn, x => by
    rw [extK_cons, extK_mem ks]
    split
    · rename_i h
      simp only [List.mem_cons]
      constructor
      · rintro (h1 | h1)
        · exact Or.inl h1
        · exact Or.inr (Or.inr h1)
      · rintro (h1 | rfl | h1)
        · exact Or.inl h1
        · exact Or.inl h
        · exact Or.inr h1
    · simp only [List.mem_append, List.mem_cons, List.not_mem_nil, or_false]
      constructor
      · rintro ((h1 | h1) | h1)
        · exact Or.inl h1
        · exact Or.inr (Or.inl h1)
        · exact Or.inr (Or.inr h1)
      · rintro (h1 | h1 | h1)
        · exact Or.inl (Or.inl h1)
        · exact Or.inl (Or.inr h1)
        · exact Or.inr h1
theorem extK_len {α : Type} [DecidableEq α] : ∀ (ks kn : List α), (extK kn ks).length ≤ kn.length + ks.length
  | [], kn => by simp [extK]
  | k :: ks, kn => by
    rw [extK_cons]
    split
    · have := extK_len ks kn
      simp; omega
    · have := extK_len ks (kn ++ [k])
      simp at this ⊢; omega
theorem extK_known {α : Type} [DecidableEq α] : ∀ (ks kn : List α), (∀ k ∈ ks, k ∈ kn) → extK kn ks = kn
  | [], kn, _ => rfl
  | k :: ks, kn, h => by
    (rw [extK_cons, if_pos (h k (by simp))]); (exact extK_known ks kn fun x hx => h x (by simp [hx]))
theorem idxOf_pre {α : Type} [DecidableEq α] {kn r : List α} {k : α} (h : k ∈ kn) : (kn ++ r).idxOf k = kn.idxOf k := by
  rw [List.idxOf_append, if_pos h]
theorem idxOf_new {α : Type} [DecidableEq α] {kn : List α} {k : α} (h : ¬ k ∈ kn) : (kn ++ [k]).idxOf k = kn.length := by
  rw [List.idxOf_append, if_neg h]
  simp
theorem idxOf_inj {α : Type} [DecidableEq α] {kn : List α} {a b : α} (ha : a ∈ kn) (hb : b ∈ kn) (e : kn.idxOf a = kn.idxOf b) : a = b := by
  have h1 := List.getElem_idxOf (List.idxOf_lt_length_of_mem ha); have h2 := List.getElem_idxOf (List.idxOf_lt_length_of_mem hb); rw [← h1, ← h2]; simp only [e]
/-- Of each key its number. -/
def numK {α : Type} [DecidableEq α] (ks : List α) : List Nat := ks.map fun k => (extK [] ks).idxOf k
theorem numK_len {α : Type} [DecidableEq α] (ks : List α) : (numK ks).length = ks.length := by simp [numK]
theorem numK_snoc {α : Type} [DecidableEq α] (ks : List α) (k : α) : numK (ks ++ [k]) = numK ks ++ [if k ∈ extK [] ks then (extK [] ks).idxOf k else (extK [] ks).length] := by
  unfold numK; rw [extK_snoc, List.map_append]; (have hm : ∀ x ∈ ks, x ∈ extK [] ks := fun x hx => (extK_mem ks [] x).2 (Or.inr hx))
  split
  · simp
  · rename_i h
    simp only [List.map_cons, List.map_nil, idxOf_new h]
    congr 1
    (exact List.map_congr_left fun x hx => idxOf_pre (hm x hx))
theorem numK_get {α : Type} [DecidableEq α] {ks : List α} {i : Nat} {k : α} (h : ks[i]? = some k) : (numK ks)[i]? = some ((extK [] ks).idxOf k) := by
  rw [numK, List.getElem?_map, h]; rfl
theorem numK_iff {α : Type} [DecidableEq α] {ks : List α} {i j : Nat} {a b : α} (ha : ks[i]? = some a) (hb : ks[j]? = some b) : (numK ks)[i]? = (numK ks)[j]? ↔ a = b := by
  rw [numK_get ha, numK_get hb]
  constructor
  · intro e
    exact idxOf_inj ((extK_mem ks [] a).2 (Or.inr (List.mem_of_getElem? ha))) ((extK_mem ks [] b).2 (Or.inr (List.mem_of_getElem? hb))) (Option.some.inj e)
  · rintro rfl; rfl
theorem numK_lt {α : Type} [DecidableEq α] {ks : List α} {n : Nat} (h : n ∈ numK ks) : n < ks.length := by
  obtain ⟨k, hk, rfl⟩ := List.mem_map.1 h; have h1 := List.idxOf_lt_length_of_mem ((extK_mem ks [] k).2 (Or.inr hk)); have h2 := extK_len ks ([] : List α); simp at h2; omega
theorem numK_twice {α : Type} [DecidableEq α] (ks : List α) : numK (ks ++ ks) = numK ks ++ numK ks := by
  unfold numK; (rw [extK_app, extK_known ks _ fun k hk => (extK_mem ks [] k).2 (Or.inr hk), List.map_append])
/-- Only which keys are the same matters. -/
theorem ext_zip {α β : Type} [DecidableEq α] [DecidableEq β] : ∀ (l kn : List (α × β)), (∀ p ∈ kn ++ l, ∀ q ∈ kn ++ l, (p.1 = q.1 ↔ p.2 = q.2)) → ∃ r : List (α × β), (∀ p ∈ r, p ∈ kn ++ l) ∧ extK (kn.map Prod.fst) (l.map Prod.fst) = r.map Prod.fst ∧ extK (kn.map Prod.snd) (l.map Prod.snd) = r.map Prod.snd
  | [], kn, _ => ⟨kn, fun p hp => by simpa using hp, rfl, rfl⟩
  | x :: l, kn, h => by
    have hx : x.1 ∈ kn.map Prod.fst ↔ x.2 ∈ kn.map Prod.snd := by
      simp only [List.mem_map]
      constructor
      · rintro ⟨q, hq, e⟩
        (exact ⟨q, hq, (h q (by simp [hq]) x (by simp)).1 e⟩)
      · rintro ⟨q, hq, e⟩
        (exact ⟨q, hq, (h q (by simp [hq]) x (by simp)).2 e⟩)
    rw [List.map_cons, List.map_cons, extK_cons, extK_cons]; by_cases hm : x.1 ∈ kn.map Prod.fst
    · rw [if_pos hm, if_pos (hx.1 hm)]
      (obtain ⟨r, h1, h2, h3⟩ := ext_zip l kn fun p hp q hq => h p (by simp at hp ⊢; rcases hp with hp | hp <;> simp [hp]) q (by simp at hq ⊢; rcases hq with hq | hq <;> simp [hq])); (exact ⟨r, fun p hp => by have := h1 p hp; simp at this ⊢; rcases this with hp | hp <;> simp [hp], h2, h3⟩)
    · rw [if_neg hm, if_neg fun e => hm (hx.2 e)]
      (obtain ⟨r, h1, h2, h3⟩ := ext_zip l (kn ++ [x]) (by simpa using h)); simp only [List.map_append, List.map_cons, List.map_nil] at h2 h3; (exact ⟨r, by simpa using h1, h2, h3⟩)
theorem idx_zip {α β : Type} [DecidableEq α] [DecidableEq β] : ∀ (r : List (α × β)) (x : α × β), (∀ p ∈ r, (p.1 = x.1 ↔ p.2 = x.2)) → (r.map Prod.fst).idxOf x.1 = (r.map Prod.snd).idxOf x.2
  | [], _, _ => rfl
  | p :: r, x, h => by
    (have h1 := h p (by simp)); simp only [List.map_cons, List.idxOf_cons]; by_cases e : p.1 = x.1
    · have e2 := h1.1 e
      simp [e, e2]
    · have e2 : ¬ p.2 = x.2 := fun h => e (h1.2 h)
      (have h3 := idx_zip r x fun q hq => h q (by simp [hq])); (have e3 : (p.1 == x.1) = false := by simpa using e); (have e4 : (p.2 == x.2) = false := by simpa using e2); rw [e3, e4, h3]
theorem numK_zip {α β : Type} [DecidableEq α] [DecidableEq β] (l : List (α × β)) (h : ∀ p ∈ l, ∀ q ∈ l, (p.1 = q.1 ↔ p.2 = q.2)) : numK (l.map Prod.fst) = numK (l.map Prod.snd) := by
  (obtain ⟨r, h1, h2, h3⟩ := ext_zip l [] (by simpa using h)); unfold numK; simp only [List.map_nil] at h2 h3; rw [h2, h3, List.map_map, List.map_map]; (refine List.map_congr_left fun x hx => ?_); (exact idx_zip r x fun p hp => h p (by simpa using h1 p hp) x hx)
/-- What keys the numbers themselves are: their own. -/
theorem numK_same {α β : Type} [DecidableEq α] [DecidableEq β] {a : List α} {b : List β} (hl : a.length = b.length) (h : ∀ (i j : Nat) x y u v, a[i]? = some x → a[j]? = some y → b[i]? = some u → b[j]? = some v → (x = y ↔ u = v)) : numK a = numK b := by
  (have h1 : a = (a.zip b).map Prod.fst := by rw [List.map_fst_zip]; omega); (have h2 : b = (a.zip b).map Prod.snd := by rw [List.map_snd_zip]; omega)
  have := numK_zip (a.zip b) fun p hp q hq => by
    obtain ⟨i, hi⟩ := List.getElem?_of_mem hp; obtain ⟨j, hj⟩ := List.getElem?_of_mem hq; rw [List.getElem?_zip_eq_some] at hi hj; exact h i j _ _ _ _ hi.1 hj.1 hi.2 hj.2
  rwa [← h1, ← h2] at this
/-- Numbers of numbers are the same numbers. -/
theorem numK_idem {α : Type} [DecidableEq α] (ks : List α) : numK (numK ks) = numK ks := by
  (refine numK_same (numK_len ks) fun i j x y u v hx hy hu hv => ?_); rw [numK_get hu] at hx; rw [numK_get hv] at hy; have := numK_iff hu hv; rw [numK_get hu, numK_get hv, hx, hy] at this; simpa using this
/-- The classes that a world sees. -/
def seesC (N : Nat) (R : Nat → Nat → Bool) (cl : List Nat) (u c : Nat) : Bool := (List.range N).any fun v => R u v && cl.getD v 0 == c
/-- What parts worlds at a level. -/
def sightK (N M : Nat) (R : Nat → Nat → Bool) (cl : List Nat) (u : Nat) : Nat × Nat := (cl.getD u 0, bm M (seesC N R cl u))
def partK (N : Nat) (R : Nat → Nat → Bool) (cl : List Nat) : List Nat := numK ((List.range N).map (sightK N N R cl))
def levK (N : Nat) (R : Nat → Nat → Bool) (c0 : List Nat) : Nat → List Nat
  | 0 => c0
  | k + 1 => partK N R (levK N R c0 k)
theorem partK_len (N : Nat) (R : Nat → Nat → Bool) (cl : List Nat) : (partK N R cl).length = N := by simp [partK, numK_len]
theorem partK_lt {N : Nat} {R : Nat → Nat → Bool} {cl : List Nat} {n : Nat} (h : n ∈ partK N R cl) : n < N := by simpa using numK_lt h
theorem range_get {N i : Nat} (h : i < N) : (List.range N)[i]? = some i := by rw [List.getElem?_range h]
theorem partK_iff {N : Nat} {R : Nat → Nat → Bool} {cl : List Nat} {i j : Nat} (hi : i < N) (hj : j < N) : (partK N R cl).getD i 0 = (partK N R cl).getD j 0 ↔ sightK N N R cl i = sightK N N R cl j := by
  (have h1 : ((List.range N).map (sightK N N R cl))[i]? = some (sightK N N R cl i) := by rw [List.getElem?_map, range_get hi]; rfl); (have h2 : ((List.range N).map (sightK N N R cl))[j]? = some (sightK N N R cl j) := by rw [List.getElem?_map, range_get hj]; rfl); rw [← numK_iff h1 h2, List.getD_eq_getElem?_getD, List.getD_eq_getElem?_getD, partK, numK_get h1, numK_get h2]
  simp
/-- How many pairs of worlds are in one class. -/
def togK (N : Nat) (cl : List Nat) : Nat := (List.range (N * N)).countP fun p => cl.getD (p / N) 0 == cl.getD (p % N) 0
theorem togK_le (N : Nat) (cl : List Nat) : togK N cl ≤ N * N := by
  (have := List.countP_le_length (p := fun p => cl.getD (p / N) 0 == cl.getD (p % N) 0) (l := List.range (N * N))); simpa [togK] using this
theorem countP_less {α : Type} {p q : α → Bool} : ∀ {l : List α} (_ : ∀ x ∈ l, p x = true → q x = true) {a : α} (_ : a ∈ l) (_ : q a = true) (_ : p a = false), l.countP p < l.countP q
  | [], _, a, ha, _, _ => by cases ha
  | x :: l, h, a, ha, hq, hp => by
    (have h' : ∀ y ∈ l, p y = true → q y = true := fun y hy => h y (by simp [hy])); have hle := List.countP_mono_left h'; rw [List.countP_cons, List.countP_cons]
    rcases List.mem_cons.1 ha with rfl | ha
    · rw [hq, hp]; simp; omega
    · have := countP_less h' ha hq hp
      (have hx := h x (by simp))
      cases hpx : p x <;> cases hqx : q x
      · simp; omega
      · simp; omega
      · rw [hpx, hqx] at hx; exact absurd (hx rfl) (by simp)
      · simp; omega
/-- A level that is not the same has fewer pairs in one class. -/
theorem partK_less {N : Nat} {R : Nat → Nat → Bool} {cl : List Nat} (hl : cl.length = N) (hc : numK cl = cl) (hne : partK N R cl ≠ cl) : togK N (partK N R cl) < togK N cl := by
  (have href : ∀ i j, i < N → j < N → (partK N R cl).getD i 0 = (partK N R cl).getD j 0 → cl.getD i 0 = cl.getD j 0 := fun i j hi hj e => (Prod.mk.inj ((partK_iff hi hj).1 e)).1); by_cases hall : ∀ i j, i < N → j < N → cl.getD i 0 = cl.getD j 0 → (partK N R cl).getD i 0 = (partK N R cl).getD j 0
  · refine absurd ?_ hne
    have e : numK (partK N R cl) = numK cl := numK_same (by rw [partK_len, hl]) fun i j x y u v hx hy hu hv => by
      (have hi : i < N := by have := (List.getElem?_eq_some_iff.1 hu).1; omega); (have hj : j < N := by have := (List.getElem?_eq_some_iff.1 hv).1; omega); have k1 := href i j hi hj; have k2 := hall i j hi hj; simp only [List.getD_eq_getElem?_getD, hx, hy, hu, hv, Option.getD_some] at k1 k2; exact ⟨k1, k2⟩
    rw [hc] at e; (have e2 : partK N R cl = numK (partK N R cl) := by rw [partK]; exact (numK_idem _).symm); exact e2.trans e
  · simp only [Classical.not_forall] at hall
    obtain ⟨i, j, hi, hj, e, hn⟩ := hall; (refine countP_less (fun p hp h => ?_) (a := i * N + j) ?_ ?_ ?_)
    · simp only [beq_iff_eq] at h ⊢
      have hp' := List.mem_range.1 hp; (have hN : 0 < N := by omega); exact href _ _ (Nat.div_lt_of_lt_mul hp') (Nat.mod_lt _ hN) h
    · rw [List.mem_range]
      calc i * N + j < i * N + N := by omega
        _ = (i + 1) * N := by rw [Nat.add_mul, Nat.one_mul]
        _ ≤ N * N := Nat.mul_le_mul_right _ hi
    · simp only [beq_iff_eq]
      (rw [Nat.mul_comm i N, Nat.mul_add_div (by omega), Nat.div_eq_of_lt hj, Nat.mul_add_mod, Nat.mod_eq_of_lt hj]); simpa using e
    · rw [Nat.mul_comm i N, Nat.mul_add_div (by omega), Nat.div_eq_of_lt hj, Nat.mul_add_mod, Nat.mod_eq_of_lt hj]
      simpa using hn
theorem levK_num {N : Nat} {R : Nat → Nat → Bool} {c0 : List Nat} (h : numK c0 = c0) : ∀ k, numK (levK N R c0 k) = levK N R c0 k
  | 0 => h
  | k + 1 => by rw [levK, partK]; exact numK_idem _
theorem levK_len {N : Nat} {R : Nat → Nat → Bool} {c0 : List Nat} (h : c0.length = N) : ∀ k, (levK N R c0 k).length = N
  | 0 => h
  | _ + 1 => partK_len _ _ _
theorem levK_lt {N : Nat} {R : Nat → Nat → Bool} {c0 : List Nat} (h : ∀ n ∈ c0, n < N) : ∀ k, ∀ n ∈ levK N R c0 k, n < N
  | 0 => h
  | _ + 1 => fun _ hn => partK_lt hn
theorem levK_still {N : Nat} {R : Nat → Nat → Bool} {c0 : List Nat} {k : Nat} (h : levK N R c0 (k + 1) = levK N R c0 k) : ∀ j, k ≤ j → levK N R c0 j = levK N R c0 k
  | 0, hj => by rw [Nat.le_zero.1 hj]
  | j + 1, hj => by
    rcases Nat.lt_or_ge j k with h1 | h1
    · have : k = j + 1 := by omega
      rw [this]
    · rw [levK, levK_still h j h1]
      exact h
/-- The last level. -/
def lastK (N : Nat) (R : Nat → Nat → Bool) (c0 : List Nat) : List Nat := levK N R c0 (N * N + 1)
theorem tog_drop {N : Nat} {R : Nat → Nat → Bool} {c0 : List Nat} (hl : c0.length = N) (hc : numK c0 = c0) : ∀ k, (∀ i, i < k → levK N R c0 (i + 1) ≠ levK N R c0 i) → togK N (levK N R c0 k) + k ≤ N * N
  | 0, _ => togK_le _ _
  | k + 1, h => by
    (have h1 := tog_drop hl hc k fun i hi => h i (by omega)); (have h2 := partK_less (R := R) (levK_len hl k) (levK_num hc k) (h k (by omega))); rw [levK]; omega
theorem lastK_of {N : Nat} {R : Nat → Nat → Bool} {c0 : List Nat} (hl : c0.length = N) (hc : numK c0 = c0) {k : Nat} (hb : ∀ i, i < k → levK N R c0 (i + 1) ≠ levK N R c0 i) (h : levK N R c0 (k + 1) = levK N R c0 k) : lastK N R c0 = levK N R c0 k := by
  have := tog_drop (R := R) hl hc k hb; (exact levK_still h _ (by omega))
end Go.Proofs.Ytlmjnglcdgkomah
