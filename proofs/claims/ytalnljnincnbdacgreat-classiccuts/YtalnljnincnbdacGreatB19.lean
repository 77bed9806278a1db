/- Texts of one proof, one behind the other: KM3, KM4, KF0, KF1. -/
import Derived.Test.YtalnljnincnbdacGreatB14
import Derived.Test.YtalnljnincnbdacGreatB18
/- The state of a search: plain. -/
namespace Go.Proofs.YtalnljnincnbdacGreat

/-- What is put in: it is here then; what is fresh of it. -/
def inStep (s : List Nat × List Nat) (i : Nat) : List Nat × List Nat := if s.1.getD i 0 = 0 then (s.1.set i 1, s.2 ++ [i]) else s
def inF (wh items : List Nat) : List Nat × List Nat := items.foldl inStep (wh, [])
def backF (wh fr : List Nat) : List Nat := fr.foldl (fun u i => u.set i 0) wh
theorem getD_set (l : List Nat) (i j v : Nat) (hi : i < l.length) : (l.set i v).getD j 0 = if j = i then v else l.getD j 0 := by
  rw [List.getD_eq_getElem?_getD, List.getD_eq_getElem?_getD, List.getElem?_set]; by_cases h : i = j
  · subst h; simp [hi]
  · rw [if_neg h, if_neg (fun e => h e.symm)]
structure PutOk (wh items : List Nat) (s : List Nat × List Nat) : Prop where
  len : s.1.length = wh.length
  get : ∀ j, s.1.getD j 0 = if j ∈ s.2 then 1 else wh.getD j 0
  fresh : ∀ j ∈ s.2, wh.getD j 0 = 0 ∧ j ∈ items
  nodup : s.2.Nodup
  all : ∀ j ∈ items, s.1.getD j 0 ≠ 0
theorem putOk_snoc {wh items : List Nat} {s : List Nat × List Nat} (h : PutOk wh items s) {i : Nat} (hi : i < wh.length) : PutOk wh (items ++ [i]) (inStep s i) := by
  unfold inStep; by_cases h0 : s.1.getD i 0 = 0
  · rw [if_pos h0]
    have hn : i ∉ s.2 := fun hm => by
      have := h.get i; rw [if_pos hm] at this; omega
    have hw : wh.getD i 0 = 0 := by
      have := h.get i; rw [if_neg hn] at this; omega
    (refine ⟨by simp [h.len], fun j => ?_, fun j hj => ?_, ?_, fun j hj => ?_⟩)
    · show (s.1.set i 1).getD j 0 = if j ∈ s.2 ++ [i] then 1 else wh.getD j 0
      (rw [getD_set _ _ _ _ (by rw [h.len]; exact hi), h.get j]); by_cases e : j = i
      · simp [e]
      · simp [e]
    · rcases List.mem_append.1 hj with hj | hj
      · exact ⟨(h.fresh j hj).1, List.mem_append_left _ (h.fresh j hj).2⟩
      · rw [List.mem_singleton.1 hj]; exact ⟨hw, by simp⟩
    · show (s.2 ++ [i]).Nodup
      rw [List.nodup_append]; (exact ⟨h.nodup, by simp, fun a ha b hb e => hn (by rw [← List.mem_singleton.1 hb, ← e]; exact ha)⟩)
    · show (s.1.set i 1).getD j 0 ≠ 0
      (rw [getD_set _ _ _ _ (by rw [h.len]; exact hi)]); by_cases e : j = i
      · simp [e]
      · rw [if_neg e]
        rcases List.mem_append.1 hj with hj | hj
        · exact h.all j hj
        · exact absurd (List.mem_singleton.1 hj) e
  · rw [if_neg h0]
    (refine ⟨h.len, h.get, fun j hj => ⟨(h.fresh j hj).1, List.mem_append_left _ (h.fresh j hj).2⟩, h.nodup, fun j hj => ?_⟩)
    rcases List.mem_append.1 hj with hj | hj
    · exact h.all j hj
    · rw [List.mem_singleton.1 hj]; exact h0
theorem inF_snoc (wh items : List Nat) (i : Nat) : inF wh (items ++ [i]) = inStep (inF wh items) i := by
  unfold inF; rw [List.foldl_append]; rfl
theorem inF_ok (wh : List Nat) : ∀ (n : Nat) (items : List Nat), items.length = n → (∀ i ∈ items, i < wh.length) → PutOk wh items (inF wh items)
  | 0, items, hl, _ => by
    have : items = [] := List.length_eq_zero_iff.1 hl; subst this
    exact ⟨rfl, fun j => by simp [inF], fun j hj => by simp [inF] at hj, by simp [inF], fun j hj => by cases hj⟩
  | n + 1, items, hl, hb => by
    (have hne : items ≠ [] := fun e => by rw [e] at hl; simp at hl); have he := (List.dropLast_concat_getLast hne).symm; rw [he] at hb ⊢; rw [inF_snoc]; (refine putOk_snoc (inF_ok wh n items.dropLast (by simp; omega) fun i hi => hb i (List.mem_append_left _ hi)) (hb _ (by simp)))
theorem backF_get (wh fr : List Nat) (hf : ∀ i ∈ fr, i < wh.length) (j : Nat) : (backF wh fr).getD j 0 = if j ∈ fr then 0 else wh.getD j 0 := by
  induction fr generalizing wh with
  | nil => simp [backF]
  | cons x fr ih =>
    (have hx := hf x (by simp)); (rw [show backF wh (x :: fr) = backF (wh.set x 0) fr from rfl, ih (wh.set x 0) fun i hi => by simp; exact hf i (by simp [hi]), getD_set _ _ _ _ hx]); by_cases e : j = x
    · subst e; simp
    · simp [e]
theorem backF_len (wh fr : List Nat) : (backF wh fr).length = wh.length := by
  induction fr generalizing wh with
  | nil => rfl
  | cons x fr ih => rw [show backF wh (x :: fr) = backF (wh.set x 0) fr from rfl, ih]; simp
theorem backF_snoc (wh fr : List Nat) (i : Nat) : backF wh (fr ++ [i]) = (backF wh fr).set i 0 := by
  unfold backF; rw [List.foldl_append]; rfl
theorem getD_ext {a b : List Nat} (hl : a.length = b.length) (h : ∀ j, a.getD j 0 = b.getD j 0) : a = b := by
  apply List.ext_getElem hl; intro i h1 h2; have := h i; rw [List.getD_eq_getElem?_getD, List.getD_eq_getElem?_getD, List.getElem?_eq_getElem h1, List.getElem?_eq_getElem h2] at this; exact this
/-- What was put last goes: all is as it was. -/
theorem back_put {wh items : List Nat} (hb : ∀ i ∈ items, i < wh.length) : backF (inF wh items).1 (inF wh items).2 = wh := by
  have h := inF_ok wh _ items rfl hb; (have hf : ∀ i ∈ (inF wh items).2, i < (inF wh items).1.length := fun i hi => by rw [h.len]; exact hb i (h.fresh i hi).2); (refine getD_ext (by rw [backF_len, h.len]) fun j => ?_); rw [backF_get _ _ hf, h.get]; by_cases e : j ∈ (inF wh items).2
  · rw [if_pos e, (h.fresh j e).1]
  · rw [if_neg e, if_neg e]

/-! How much is here. -/
def muF (f : Nat → Nat) : Nat → List Nat → Nat
  | _, [] => 0
  | k, x :: xs => (if x = 1 then f k else 0) + muF f (k + 1) xs
theorem muF_set (f : Nat → Nat) : ∀ (xs : List Nat) (k i v : Nat), i < xs.length → muF f k (xs.set i v) + (if xs.getD i 0 = 1 then f (k + i) else 0) = muF f k xs + (if v = 1 then f (k + i) else 0)
  | [], k, i, v, h => by simp at h
  | x :: xs, k, 0, v, _ => by
    rw [List.set_cons_zero, muF, muF]; simp only [List.getD_cons_zero, Nat.add_zero]
    omega
  | x :: xs, k, i + 1, v, h => by
    (have := muF_set f xs (k + 1) i v (by simpa using h)); rw [List.set_cons_succ, muF, muF, List.getD_cons_succ]; (rw [show k + 1 + i = k + (i + 1) by omega] at this); omega
theorem muF_put (f : Nat → Nat) (wh : List Nat) : ∀ (items : List Nat) (s : List Nat × List Nat), s.1.length = wh.length → (∀ i ∈ items, i < wh.length) → muF f 0 (items.foldl inStep s).1 ≤ muF f 0 s.1 + (items.map f).sum
  | [], s, _, _ => by simp
  | x :: items, s, hl, hb => by
    rw [List.foldl_cons, List.map_cons, List.sum_cons]; (have hx := hb x (by simp))
    have h1 : (inStep s x).1.length = wh.length ∧ muF f 0 (inStep s x).1 ≤ muF f 0 s.1 + f x := by
      unfold inStep
      split
      · rename_i h0
        (refine ⟨by simp [hl], ?_⟩); (have := muF_set f s.1 0 x 1 (by omega)); (rw [if_neg (by omega), if_pos rfl, Nat.zero_add] at this); show muF f 0 (s.1.set x 1) ≤ _; omega
      · exact ⟨hl, by omega⟩
    (have := muF_put f wh items _ h1.1 fun i hi => hb i (by simp [hi])); omega
/-- What a search may cost. -/
def Gf : Nat → Nat
  | 0 => 1
  | 1 => 2
  | n + 2 => 1 + max (Gf (n + 1)) (2 * Gf n)
theorem Gf_pos : ∀ n, 1 ≤ Gf n
  | 0 => by simp [Gf]
  | 1 => by simp [Gf]
  | n + 2 => by rw [Gf]; omega
theorem Gf_succ : ∀ n, Gf n + 1 ≤ Gf (n + 1)
  | 0 => by simp [Gf]
  | n + 1 => by rw [Gf]; omega
theorem Gf_mono {a b : Nat} (h : a ≤ b) : Gf a ≤ Gf b := by
  induction h with
  | refl => omega
  | step _ ih => exact Nat.le_trans ih (Nat.le_trans (Nat.le_succ _) (Gf_succ _))
theorem Gf_two (n : Nat) : 2 * Gf n + 1 ≤ Gf (n + 2) := by rw [Gf]; omega
/-- An item's premises have fewer nodes. -/
theorem way_sizes {ps : List PartM} {fs : List Fm} (h : TabOk ps fs) {i : Nat} {p : PartM} (hp : ps[i / 2]? = some p) (hpl : Pl (fs.getD (i / 2) zeroF)) :
    (wayOf ps i).2.length ≤ 2 ∧ ∀ pr ∈ (wayOf ps i).2, pr.length ≤ 2 ∧ (pr.map fun j => (itF fs j).size).sum + (wayOf ps i).2.length ≤ (itF fs i).size := by
  have hw : wayOf ps i = if itR i then wayR p.kind p.k0 p.k1 else wayL p.kind p.k0 p.k1 := by
    unfold wayOf; rw [hp]
  rw [hw]; rw [show itF fs i = fs.getD (i / 2) zeroF from rfl]; obtain ⟨n, hn⟩ : ∃ n, n = i / 2 := ⟨_, rfl⟩; rw [← hn] at hp hpl ⊢; (have pos : ∀ f : Fm, 1 ≤ f.size := fun f => by cases f; rw [Fm.size]; omega)
  rcases part_forms h hp hpl with ⟨hk, -, -⟩ | ⟨hk, -, -⟩ | ⟨hk, -, -⟩ | ⟨hk, a, hks, ha, hf, pa⟩ | ⟨hk, a, b, hks, ha, hb, hf, pa, pb⟩
  · unfold wayL wayR; rw [hk]; simp
  · unfold wayL wayR; rw [hk]; simp
  · unfold wayL wayR; rw [hk]; simp
  · have hk0 : p.k0 = a := by unfold PartM.k0; rw [hks]; rfl
    (have hs : (fs.getD n zeroF).size = (fs.getD a zeroF).size + 1 := by rw [hf, Fm.size, Fm.sizes, Fm.sizes]); rw [hs]; unfold wayL wayR; rw [hk, hk0]; have e1 := (itF_two fs a).1; have e2 := (itF_two fs a).2
    cases itR i <;> simp [e1, e2]
  · have hk0 : p.k0 = a := by unfold PartM.k0; rw [hks]; rfl
    (have hk1 : p.k1 = b := by unfold PartM.k1; rw [hks]; rfl); (have hs : (fs.getD n zeroF).size = (fs.getD a zeroF).size + (fs.getD b zeroF).size + 1 := by rw [hf, Fm.size, Fm.sizes, Fm.sizes, Fm.sizes]; omega); rw [hs]; have p1 := pos (fs.getD a zeroF); have p2 := pos (fs.getD b zeroF); unfold wayL wayR; rw [hk0, hk1]; have e1 := (itF_two fs a).1; have e2 := (itF_two fs a).2; have e3 := (itF_two fs b).1; have e4 := (itF_two fs b).2; generalize fs.getD a zeroF = fa at *; generalize fs.getD b zeroF = fb at *
    rcases hk with hk | hk | hk <;> rw [hk] <;> cases itR i <;> simp [e1, e2, e3, e4] <;> omega
/-- By which rule without premises an item ends. -/
def closeR (ps : List PartM) (wh : List Nat) (i : Nat) : List UInt8 :=
  match ps[i / 2]? with
  | none => []
  | some p => if p.kind = 2 ∧ itR i = true then Ru.tr.text else if p.kind = 3 ∧ itR i = false then Ru.fa.text else if wh.getD (if itR i then i - 1 else i + 1) 0 = 1 then Ru.ax.text else []
/-- Can it be taken apart, with something fresh in each premise? -/
def tellB (ps : List PartM) (wh : List Nat) (i : Nat) : Bool := !(wayOf ps i).2.isEmpty && (wayOf ps i).2.all fun pr => pr.any fun j => wh.getD j 0 == 0
end Go.Proofs.YtalnljnincnbdacGreat
/- What stays so in a search: plain. -/
namespace Go.Proofs.YtalnljnincnbdacGreat

/-- The state of a search, of which the fresh items are not looked at yet. -/
structure SInv (ps : List PartM) (wh br fresh : List Nat) : Prop where
  mem : ∀ i, i ∈ br ↔ wh.getD i 0 ≠ 0
  nodup : br.Nodup
  two : ∀ i, wh.getD i 0 ≤ 2
  apart : ∀ i, wh.getD i 0 = 2 → ∃ pr ∈ (wayOf ps i).2, ∀ j ∈ pr, wh.getD j 0 ≠ 0
  calm : ∀ i p, wh.getD i 0 ≠ 0 → i ∉ fresh → ps[i / 2]? = some p → ¬ (p.kind = 2 ∧ itR i = true) ∧ ¬ (p.kind = 3 ∧ itR i = false)
  far : ∀ n p, ps[n]? = some p → p.kind = 1 → wh.getD (2 * n) 0 ≠ 0 → wh.getD (2 * n + 1) 0 ≠ 0 → 2 * n ∈ fresh ∨ 2 * n + 1 ∈ fresh
  fresh : ∀ i ∈ fresh, wh.getD i 0 = 1
/-- What is open. -/
structure OpenS (ps : List PartM) (wh : List Nat) : Prop where
  ways : ∀ i, wh.getD i 0 ≠ 0 → (wayOf ps i).2 ≠ [] → ∃ pr ∈ (wayOf ps i).2, ∀ j ∈ pr, wh.getD j 0 ≠ 0
  calm : ∀ i p, wh.getD i 0 ≠ 0 → ps[i / 2]? = some p → ¬ (p.kind = 2 ∧ itR i = true) ∧ ¬ (p.kind = 3 ∧ itR i = false)
  far : ∀ n p, ps[n]? = some p → p.kind = 1 → ¬ (wh.getD (2 * n) 0 ≠ 0 ∧ wh.getD (2 * n + 1) 0 ≠ 0)
theorem wayOf_var {ps : List PartM} {i : Nat} {p : PartM} (hp : ps[i / 2]? = some p) (hk : p.kind = 1) : (wayOf ps i).2 = [] := by
  unfold wayOf wayL wayR; rw [hp]; simp only [hk]
  cases itR i <;> simp
theorem half_two (n : Nat) : 2 * n / 2 = n ∧ (2 * n + 1) / 2 = n := by omega
theorem SInv.one {ps : List PartM} {wh br fresh : List Nat} (h : SInv ps wh br fresh) {i : Nat} {p : PartM} (hp : ps[i / 2]? = some p) (hk : p.kind = 1) (h0 : wh.getD i 0 ≠ 0) : wh.getD i 0 = 1 := by
  have h2 := h.two i
  rcases Nat.lt_or_ge (wh.getD i 0) 2 with h3 | h3
  · omega
  · obtain ⟨pr, hpr, -⟩ := h.apart i (by omega)
    rw [wayOf_var hp hk] at hpr
    cases hpr
/-- None of the fresh ones ends the branch. -/
theorem SInv.quiet {ps : List PartM} {wh br fresh : List Nat} (h : SInv ps wh br fresh) (hc : ∀ i ∈ fresh, closeR ps wh i = []) : SInv ps wh br [] := by
  (refine ⟨h.mem, h.nodup, h.two, h.apart, fun i p h0 _ hp => ?_, fun n p hp hk h1 h2 => ?_, fun i hi => by cases hi⟩)
  · by_cases hf : i ∈ fresh
    · have := hc i hf
      unfold closeR at this; rw [hp] at this; simp only at this; by_cases e1 : p.kind = 2 ∧ itR i = true
      · rw [if_pos e1] at this; cases this
      · rw [if_neg e1] at this
        by_cases e2 : p.kind = 3 ∧ itR i = false
        · rw [if_pos e2] at this; cases this
        · exact ⟨e1, e2⟩
    · exact h.calm i p h0 hf hp
  · exfalso
    (have a1 := h.one (i := 2 * n) (p := p) (by rw [(half_two n).1]; exact hp) hk h1); (have a2 := h.one (i := 2 * n + 1) (p := p) (by rw [(half_two n).2]; exact hp) hk h2)
    rcases h.far n p hp hk h1 h2 with hf | hf
    · have := hc _ hf
      unfold closeR at this; rw [(half_two n).1, hp] at this; simp only [(itR_two n).1, hk] at this; (rw [if_neg (by simp), if_neg (by simp), if_neg (show ¬ (false = true) by simp), if_pos a2] at this)
      cases this
    · have := hc _ hf
      unfold closeR at this; rw [(half_two n).2, hp] at this; simp only [(itR_two n).2, hk] at this; (rw [if_neg (by simp), if_neg (by simp), if_pos trivial, show 2 * n + 1 - 1 = 2 * n by omega, if_pos a1] at this)
      cases this
/-- Nothing is left to be taken apart. -/
theorem SInv.opened {ps : List PartM} {wh br : List Nat} (h : SInv ps wh br []) (ht : ∀ i ∈ br, wh.getD i 0 = 1 → tellB ps wh i = false) : OpenS ps wh := by
  (refine ⟨fun i h0 hne => ?_, fun i p h0 hp => h.calm i p h0 (by simp) hp, fun n p hp hk hh => ?_⟩)
  · have h2 := h.two i
    by_cases h1 : wh.getD i 0 = 1
    · have := ht i ((h.mem i).2 h0) h1
      unfold tellB at this; rw [Bool.and_eq_false_iff] at this
      rcases this with this | this
      · simp at this; exact absurd this hne
      · obtain ⟨pr, hpr, hx⟩ := List.all_eq_false.1 this
        (refine ⟨pr, hpr, fun j hj e => ?_⟩); apply hx; (exact List.any_eq_true.2 ⟨j, hj, by rw [e]; rfl⟩)
    · exact h.apart i (by omega)
  · rcases h.far n p hp hk hh.1 hh.2 with h | h <;> cases h
/-- An item is taken apart, and what is in a premise comes. -/
theorem SInv.step {ps : List PartM} {wh br : List Nat} (h : SInv ps wh br []) {i : Nat} {pr : List Nat} (hi : i < wh.length) (h1 : wh.getD i 0 = 1) (hpr : pr ∈ (wayOf ps i).2) (hb : ∀ j ∈ pr, j < wh.length) :
    SInv ps (inF (wh.set i 2) pr).1 (br ++ (inF (wh.set i 2) pr).2) (inF (wh.set i 2) pr).2 := by
  (have P := inF_ok (wh.set i 2) _ pr rfl (by simpa using hb)); generalize inF (wh.set i 2) pr = s at P; (have g : ∀ j, (wh.set i 2).getD j 0 = if j = i then 2 else wh.getD j 0 := fun j => getD_set _ _ _ _ hi)
  have nz : ∀ j, s.1.getD j 0 ≠ 0 ↔ j ∈ s.2 ∨ wh.getD j 0 ≠ 0 := fun j => by
    rw [P.get, g]; by_cases e : j ∈ s.2
    · simp [e]
    · by_cases e2 : j = i
      · subst e2
        rw [if_neg e, if_pos rfl]; (exact ⟨fun _ => Or.inr (by omega), fun _ => by omega⟩)
      · simp [e, e2]
  have nf : ∀ j ∈ s.2, wh.getD j 0 = 0 := fun j hj => by
    have := (P.fresh j hj).1; rw [g] at this; by_cases e2 : j = i
    · rw [if_pos e2] at this; omega
    · rwa [if_neg e2] at this
  (refine ⟨fun j => ?_, ?_, fun j => ?_, fun j hj => ?_, fun j p h0 hf hp => ?_, fun n p hp hk e1 e2 => ?_, fun j hj => by rw [P.get, if_pos hj]⟩)
  · rw [List.mem_append, nz, h.mem]
    exact Or.comm
  · rw [List.nodup_append]
    (refine ⟨h.nodup, P.nodup, fun a ha b hb' e => ?_⟩); subst e; exact (h.mem a).1 ha (nf a hb')
  · rw [P.get, g]
    have := h.two j
    split
    · omega
    · split <;> omega
  · rw [P.get, g] at hj
    by_cases e : j ∈ s.2
    · rw [if_pos e] at hj; omega
    · rw [if_neg e] at hj
      by_cases e2 : j = i
      · subst e2
        (exact ⟨pr, hpr, fun x hx => P.all x hx⟩)
      · rw [if_neg e2] at hj
        obtain ⟨q, hq, hall⟩ := h.apart j hj; (exact ⟨q, hq, fun x hx => (nz x).2 (Or.inr (hall x hx))⟩)
  · rcases (nz j).1 h0 with h2 | h2
    · exact absurd h2 hf
    · exact h.calm j p h2 (by simp) hp
  · rcases (nz _).1 e1 with h2 | h2
    · exact Or.inl h2
    · rcases (nz _).1 e2 with h3 | h3
      · exact Or.inr h3
      · rcases h.far n p hp hk h2 h3 with h | h <;> cases h
/-- How much is here then. -/
theorem mu_step {ps : List PartM} {fs : List Fm} (ht : TabOk ps fs) {wh : List Nat} {i : Nat} {p : PartM} {pr : List Nat} (hp : ps[i / 2]? = some p) (hpl : Pl (fs.getD (i / 2) zeroF)) (hi : i < wh.length) (h1 : wh.getD i 0 = 1) (hpr : pr ∈ (wayOf ps i).2) (hb : ∀ j ∈ pr, j < wh.length) :
    muF (fun j => (itF fs j).size) 0 (inF (wh.set i 2) pr).1 + (wayOf ps i).2.length ≤ muF (fun j => (itF fs j).size) 0 wh := by
  (have a := muF_set (fun j => (itF fs j).size) wh 0 i 2 hi); (rw [if_pos h1, if_neg (by omega), Nat.zero_add] at a); (have b := muF_put (fun j => (itF fs j).size) (wh.set i 2) pr (wh.set i 2, []) rfl (by simpa using hb)); have c := ((way_sizes ht hp hpl).2 pr hpr).2; unfold inF; simp only at a b c ⊢; omega
/-- The items of a sequent, put in first. -/
theorem SInv.start (ps : List PartM) (n : Nat) (items : List Nat) (hb : ∀ j ∈ items, j < n) : SInv ps (inF (List.replicate n 0) items).1 (inF (List.replicate n 0) items).2 (inF (List.replicate n 0) items).2 := by
  (have P := inF_ok (List.replicate n 0) _ items rfl (by simpa using hb)); generalize inF (List.replicate n 0) items = s at P
  have z : ∀ j, (List.replicate n 0).getD j 0 = 0 := fun j => by
    rw [List.getD_eq_getElem?_getD, List.getElem?_replicate]
    split <;> rfl
  have nz : ∀ j, s.1.getD j 0 ≠ 0 ↔ j ∈ s.2 := fun j => by
    rw [P.get, z]; (by_cases e : j ∈ s.2 <;> simp [e])
  (refine ⟨fun j => (nz j).symm, P.nodup, fun j => ?_, fun j hj => ?_, fun j p h0 hf hp => absurd ((nz j).1 h0) hf, fun n p hp hk e1 e2 => Or.inl ((nz _).1 e1), fun j hj => by rw [P.get, if_pos hj]⟩)
  · rw [P.get, z]
    split <;> omega
  · rw [P.get, z] at hj
    split at hj <;> omega
theorem nodup_len {n : Nat} {l : List Nat} (hd : l.Nodup) (hb : ∀ j ∈ l, j < n) : l.length ≤ n := by
  (have h := List.Nodup.length_le_of_subset (l₂ := List.range n) hd fun j hj => List.mem_range.2 (hb j hj))
  rwa [List.length_range] at h
theorem SInv.len {ps : List PartM} {wh br fresh : List Nat} (h : SInv ps wh br fresh) : br.length ≤ wh.length := nodup_len h.nodup fun j hj => by
  have h0 := (h.mem j).1 hj
  rcases Nat.lt_or_ge j wh.length with h1 | h1
  · exact h1
  · rw [List.getD_eq_getElem?_getD, List.getElem?_eq_none h1] at h0
    exact absurd rfl h0
theorem SInv.lt {ps : List PartM} {wh br fresh : List Nat} (h : SInv ps wh br fresh) {j : Nat} (hj : j ∈ br) : j < wh.length := by
  have h0 := (h.mem j).1 hj
  rcases Nat.lt_or_ge j wh.length with h1 | h1
  · exact h1
  · rw [List.getD_eq_getElem?_getD, List.getElem?_eq_none h1] at h0
    exact absurd rfl h0
/-- What a plan needs: each once. -/
inductive PlanN : Plan → Prop
  | mk (a : ByteArray) (i : Nat) (needs : List Nat) (kids : List Plan) (hn : needs.Nodup) (hk : ∀ k ∈ kids, PlanN k) (hi : ∀ k ∈ kids, i ∉ k.needs) : PlanN (.mk a i needs kids)
/-- What is taken apart is here as before. -/
theorem OpenS.back {ps : List PartM} {wh : List Nat} (h : OpenS ps wh) {i : Nat} (hi : i < wh.length) (h0 : wh.getD i 0 ≠ 0) : OpenS ps (wh.set i 1) := by
  have g : ∀ j, (wh.set i 1).getD j 0 ≠ 0 ↔ wh.getD j 0 ≠ 0 := fun j => by
    rw [getD_set _ _ _ _ hi]; by_cases e : j = i
    · subst e
      rw [if_pos rfl]; (exact ⟨fun _ => h0, fun _ => by omega⟩)
    · rw [if_neg e]
  (refine ⟨fun j hj hne => ?_, fun j p hj hp => h.calm j p ((g j).1 hj) hp, fun n p hp hk hh => h.far n p hp hk ⟨(g _).1 hh.1, (g _).1 hh.2⟩⟩); obtain ⟨pr, hpr, hall⟩ := h.ways j ((g j).1 hj) hne; (exact ⟨pr, hpr, fun x hx => (g x).2 (hall x hx)⟩)
end Go.Proofs.YtalnljnincnbdacGreat
/- Plans in memory. -/
namespace Go.Proofs.YtalnljnincnbdacGreat
open Go.RowKit

/-- A plan in memory, in blocks for which P holds. -/
inductive PlanR (P : Nat → Prop) (w : World) : Plan → Value → Prop
  | mk (a : ByteArray) (i : Nat) (needs : List Nat) (kids : List Plan) (vn : Value) (sl : Option Addr) (cap b off : Nat) (cs : Nat → Value) (ha : a.size ≤ maxLen) (hn : IRow P w vn needs) (h1 : kids.length ≤ cap) (h2 : cap ≤ maxLen) (hs : kids ≠ [] → sl = some ⟨b, off, none⟩ ∧ P b) (hc : ∀ j, j < kids.length * 4 → w.cell? ⟨b, off + j, none⟩ = some (cs j))
    (hk : ∀ (j : Nat) (k : Plan), kids[j]? = some k → PlanR P w k (.agg #[cs (j * 4), cs (j * 4 + 1), cs (j * 4 + 2), cs (j * 4 + 3)])) : PlanR P w (.mk a i needs kids) (.agg #[.string a, .int .i64 (i : Nat), vn, .slice sl kids.length cap])
theorem PlanR.move {P P' : Nat → Prop} {w w' : World} {p : Plan} {v : Value} (h : PlanR P w p v) (hb : ∀ b, b < w.heap.size → P b → w'.heap[b]? = w.heap[b]? ∧ P' b) : PlanR P' w' p v := by
  induction h with
  | mk a i needs kids vn sl cap b off cs ha hn h1 h2 hs hc hk ih =>
    by_cases hne : kids = []
    · subst hne
      (exact PlanR.mk a i needs [] vn sl cap b off cs ha (hn.move hb) h1 h2 (fun h => absurd rfl h) (fun j hj => by simp at hj) (fun j k hj => by simp at hj))
    · have hpos := List.length_pos_iff.2 hne
      (have hlt := lt_of_cell (hc 0 (by omega))); simp only at hlt; obtain ⟨e, hp⟩ := hs hne; (exact PlanR.mk a i needs kids vn sl cap b off cs ha (hn.move hb) h1 h2 (fun _ => ⟨e, (hb b hlt hp).2⟩) (fun j hj => (cell_of_block (a := ⟨b, off + j, none⟩) (hb b hlt hp).1).trans (hc j hj)) ih)
/-- Plans' cells, one behind the other. -/
def PlQ (P : Nat → Prop) (w : World) (cs : List Value) (ps : List Plan) : Prop := cs.length = ps.length * 4 ∧ ∀ (j : Nat) (k : Plan), ps[j]? = some k → PlanR P w k (.agg #[cs.getD (j * 4) (.bool false), cs.getD (j * 4 + 1) (.bool false), cs.getD (j * 4 + 2) (.bool false), cs.getD (j * 4 + 3) (.bool false)])
theorem PlQ.nil {P : Nat → Prop} {w : World} : PlQ P w [] [] := ⟨rfl, fun j k h => by simp at h⟩
theorem PlQ.move {P P' : Nat → Prop} {w w' : World} {cs : List Value} {ps : List Plan} (h : PlQ P w cs ps) (hb : ∀ b, b < w.heap.size → P b → w'.heap[b]? = w.heap[b]? ∧ P' b) : PlQ P' w' cs ps := ⟨h.1, fun j k hj => (h.2 j k hj).move hb⟩
theorem PlQ.snoc {P : Nat → Prop} {w : World} {cs : List Value} {ps : List Plan} {k : Plan} {c0 c1 c2 c3 : Value} (h : PlQ P w cs ps) (hk : PlanR P w k (.agg #[c0, c1, c2, c3])) : PlQ P w (cs ++ [c0, c1, c2, c3]) (ps ++ [k]) := by
  (refine ⟨by simp [h.1]; omega, fun j q hq => ?_⟩)
  rcases Nat.lt_or_ge j ps.length with hj | hj
  · rw [List.getElem?_append_left hj] at hq
    have e : ∀ x, x < 4 → (cs ++ [c0, c1, c2, c3]).getD (j * 4 + x) (.bool false) = cs.getD (j * 4 + x) (.bool false) := fun x hx => by
      (rw [List.getD_eq_getElem?_getD, List.getD_eq_getElem?_getD, List.getElem?_append_left (by rw [h.1]; omega)])
    (have e0 := e 0 (by omega)); rw [Nat.add_zero] at e0; (rw [e0, e 1 (by omega), e 2 (by omega), e 3 (by omega)]); exact h.2 j q hq
  · rw [List.getElem?_append_right hj] at hq
    have hj0 : j - ps.length = 0 := by
      rcases Nat.eq_zero_or_pos (j - ps.length) with h0 | h0
      · exact h0
      · rw [List.getElem?_eq_none (by simp; omega)] at hq; cases hq
    rw [hj0] at hq; (have hkq : k = q := by simpa using hq); subst hkq; (have ej : j * 4 = cs.length := by rw [h.1]; omega)
    have e : ∀ x, (cs ++ [c0, c1, c2, c3]).getD (j * 4 + x) (.bool false) = [c0, c1, c2, c3].getD x (.bool false) := fun x => by
      (rw [List.getD_eq_getElem?_getD, List.getD_eq_getElem?_getD, List.getElem?_append_right (by omega), ej, Nat.add_sub_cancel_left])
    have e0 := e 0; rw [Nat.add_zero] at e0; rw [e0, e 1, e 2, e 3]; exact hk
/-- A plan's value, with its parts shown. -/
theorem PlanR.parts {P : Nat → Prop} {w : World} {a : ByteArray} {i : Nat} {needs : List Nat} {kids : List Plan} {v : Value} (h : PlanR P w (.mk a i needs kids) v) : ∃ an cn sl cap, v = .agg #[.string a, .int .i64 (i : Nat), .slice an needs.length cn, .slice sl kids.length cap] ∧ a.size ≤ maxLen ∧ IRow P w (.slice an needs.length cn) needs ∧ kids.length ≤ cap ∧ cap ≤ maxLen ∧ (kids ≠ [] → ∃ (b off : Nat) (cs : Nat → Value), sl = some ⟨b, off, none⟩ ∧ P b ∧ (∀ j, j < kids.length * 4 → w.cell? ⟨b, off + j, none⟩ = some (cs j)) ∧ ∀ (j : Nat) (k : Plan), kids[j]? = some k → PlanR P w k (.agg #[cs (j * 4), cs (j * 4 + 1), cs (j * 4 + 2), cs (j * 4 + 3)])) := by
  cases h with
  | mk _ _ _ _ vn sl cap b off cs ha hn h1 h2 hs hc hk =>
    have hn' := hn; obtain ⟨an, cn, rfl, -⟩ := hn'; (exact ⟨an, cn, sl, cap, rfl, ha, hn, h1, h2, fun hne => ⟨b, off, cs, (hs hne).1, (hs hne).2, hc, hk⟩⟩)
theorem PlQ.plan {P : Nat → Prop} {w : World} {cs : List Value} {ps : List Plan} (h : PlQ P w cs ps) {a : ByteArray} {i : Nat} {needs : List Nat} {vn : Value} {sl : Option Addr} {cap b : Nat} (ha : a.size ≤ maxLen) (hn : IRow P w vn needs) (h1 : ps.length ≤ cap) (h2 : cap ≤ maxLen) (hs : ps ≠ [] → sl = some ⟨b, 0, none⟩ ∧ P b) (hc : ∀ (j : Nat) (u : Value), cs[j]? = some u → w.cell? ⟨b, j, none⟩ = some u) : PlanR P w (.mk a i needs ps) (.agg #[.string a, .int .i64 (i : Nat), vn, .slice sl ps.length cap]) := by
  (refine PlanR.mk a i needs ps vn sl cap b 0 (fun j => cs.getD j (.bool false)) ha hn h1 h2 hs (fun j hj => ?_) h.2); rw [Nat.zero_add]; refine hc j _ ?_; (rw [List.getD_eq_getElem?_getD, List.getElem?_eq_getElem (by rw [h.1]; exact hj)]); rfl
end Go.Proofs.YtalnljnincnbdacGreat
/- The search in memory. -/
namespace Go.Proofs.YtalnljnincnbdacGreat
open Go.RowKit

/-- The ways of all items, in memory. -/
def WaysR (P : Nat → Prop) (w : World) (v : Value) (ps : List PartM) : Prop := ∃ ad cap, v = .slice ad (2 * ps.length) cap ∧ 2 * ps.length ≤ cap ∧ cap ≤ maxLen ∧ (ps ≠ [] → ∃ b, ad = some ⟨b, 0, none⟩ ∧ P b ∧ ∀ i, i < 2 * ps.length → ∃ s u, w.cell? ⟨b, i * 2, none⟩ = some (.string s) ∧ w.cell? ⟨b, i * 2 + 1, none⟩ = some u ∧ s.data.toList = (wayOf ps i).1 ∧ PRows P w u (wayOf ps i).2)
theorem WaysR.move {P P' : Nat → Prop} {w w' : World} {v : Value} {ps : List PartM} (h : WaysR P w v ps) (hb : ∀ b, b < w.heap.size → P b → w'.heap[b]? = w.heap[b]? ∧ P' b) : WaysR P' w' v ps := by
  obtain ⟨ad, cap, h1, h2, h3, h4⟩ := h; (refine ⟨ad, cap, h1, h2, h3, fun hne => ?_⟩); obtain ⟨b, h5, h6, h7⟩ := h4 hne; (have hpos : 0 < 2 * ps.length := by have := List.length_pos_iff.2 hne; omega); obtain ⟨s, u, hs, -⟩ := h7 0 hpos; have hlt := lt_of_cell hs; simp only at hlt; (refine ⟨b, h5, (hb b hlt h6).2, fun i hi => ?_⟩); obtain ⟨s, u, hs, hu, he, hr⟩ := h7 i hi; exact ⟨s, u, (cell_of_block (a := ⟨b, i * 2, none⟩) (hb b hlt h6).1).trans hs, (cell_of_block (a := ⟨b, i * 2 + 1, none⟩) (hb b hlt h6).1).trans hu, he, hr.move hb⟩
/-- What stays the same in a search: K: memory that is only read, T: the table's. -/
structure Fx where
  Ph : Fm → Prop
  K : Nat → Prop
  T : Nat → Prop
  bf : Nat
  bt : Nat
  bw : Nat
  L : Nat
  vW : Value
  ps : List PartM
  fs : List Fm
/-- The search: M: what it may write. -/
structure FinSt (x : Fx) (w : World) (M : Nat → Prop) (wh br : List Nat) (wk : Nat) (op : Bool) : Prop where
  tab : Tab x.Ph w x.T x.bt x.ps x.fs
  ways : WaysR x.K w x.vW x.ps
  fin : ∃ adB cB, w.heap[x.bf]? = some (.cells #[.pointer (some ⟨x.bt, 0, none⟩), x.vW, .slice (some ⟨x.bw, 0, none⟩) x.L x.L, .slice adB br.length cB, .int .i64 (wk : Nat), .bool op] 92 (0, 0)) ∧ w.ownsRow 0 82 1 (.slice adB br.length cB) br.length (br.map fun i => .int .i64 (i : Nat)) ∧ ∀ b, (Value.slice adB br.length cB).ownBlock = some b → M b ∧ b ≠ x.bf ∧ b ≠ x.bw
  whb : w.heap[x.bw]? = some (.cells (wh.map fun x => (.int .i64 (x : Nat) : Value)).toArray 3 (0, 0))
  mf : M x.bf
  mw : M x.bw
  ne : x.bf ≠ x.bw
  tk : ∀ b, x.T b → x.K b
  km : ∀ b, x.K b → ¬ M b ∧ b < w.heap.size
  old : ∀ b, M b → b < w.heap.size
  wlen : wh.length = x.L
  l2 : x.L = 2 * x.ps.length
  plen : x.ps.length ≤ 100000
theorem owns_same {B : Nat} {w w' : World} {sz n : Nat} {τ : TypeId} {v : Value} {cs : List Value} (h : w.ownsRow B τ sz v n cs) (hk : ∀ b, v.ownBlock = some b → w'.heap[b]? = w.heap[b]?) : w'.ownsRow B τ sz v n cs := by
  obtain ⟨g1, g2⟩ := h; refine ⟨g1, ?_⟩
  rcases g2 with g2 | ⟨g, cap, cur, hv, hg, hh, r⟩
  · exact Or.inl g2
  · exact Or.inr ⟨g, cap, cur, hv, hg, (hk g (by rw [hv]; rfl)).trans hh, r⟩
theorem FinSt.next {x : Fx} {w w' : World} {M : Nat → Prop} {wh br : List Nat} {wk : Nat} {op : Bool} (h : FinSt x w M wh br wk op) (hb : ∀ b, b < w.heap.size → x.K b ∨ M b → w'.heap[b]? = w.heap[b]?) (hs : w.heap.size ≤ w'.heap.size) : FinSt x w' M wh br wk op := by
  obtain ⟨adB, cB, h1, h2, h3⟩ := h.fin; (exact ⟨h.tab.same (fun b ht hl => hb b hl (Or.inl (h.tk b ht))) hs, h.ways.move fun b hl hp => ⟨hb b hl (Or.inl hp), hp⟩, ⟨adB, cB, (hb _ (lt_of_block h1) (Or.inr h.mf)).trans h1, owns_same h2 fun b e => hb b (h.old b (h3 b e).1) (Or.inr (h3 b e).1), h3⟩, (hb _ (lt_of_block h.whb) (Or.inr h.mw)).trans h.whb, h.mf, h.mw, h.ne, h.tk, fun b hk => ⟨(h.km b hk).1, Nat.lt_of_lt_of_le (h.km b hk).2 hs⟩, fun b hm => Nat.lt_of_lt_of_le (h.old b hm) hs, h.wlen, h.l2, h.plen⟩)
theorem FinSt.up {x : Fx} {w w' : World} {M : Nat → Prop} {wh br : List Nat} {wk : Nat} {op : Bool} (h : FinSt x w M wh br wk op) (hb : Below w.heap.size w w') : FinSt x w' M wh br wk op := h.next (fun b hl _ => hb.block b hl) hb.size
/-- Where an item is. -/
theorem FinSt.wcell {x : Fx} {w : World} {M : Nat → Prop} {wh br : List Nat} {wk : Nat} {op : Bool} (h : FinSt x w M wh br wk op) {i : Nat} (hi : i < x.L) : w.cell? ⟨x.bw, i, none⟩ = some (.int .i64 ((wh.getD i 0 : Nat) : Int)) ∧ w.frozen? ⟨x.bw, i, none⟩ = false := by
  refine ⟨(blk_cell h.whb i).trans ?_, blk_fz h.whb i⟩; (rw [List.getElem?_toArray, List.getElem?_map, List.getD_eq_getElem?_getD, List.getElem?_eq_getElem (by rw [h.wlen]; exact hi)]); rfl
theorem blk6 {w : World} {b : Nat} {c0 c1 c2 c3 c4 c5 : Value} {T : TypeId} (h : w.heap[b]? = some (.cells #[c0, c1, c2, c3, c4, c5] T (0, 0))) : w.cell? ⟨b, 0, none⟩ = some c0 ∧ w.cell? ⟨b, 1, none⟩ = some c1 ∧ w.cell? ⟨b, 2, none⟩ = some c2 ∧ w.cell? ⟨b, 3, none⟩ = some c3 ∧ w.cell? ⟨b, 4, none⟩ = some c4 ∧ w.cell? ⟨b, 5, none⟩ = some c5 :=
  ⟨blk_cell h 0, blk_cell h 1, blk_cell h 2, blk_cell h 3, blk_cell h 4, blk_cell h 5⟩
/-- A cell of a block is written. -/
theorem blk_set {w : World} {b i : Nat} {cs : Array Value} {T : TypeId} (h : w.heap[b]? = some (.cells cs T (0, 0))) (v : Value) : (w.setCell ⟨b, i, none⟩ v).heap[b]? = some (.cells (cs.setIfInBounds i v) T (0, 0)) := by
  simp [World.setCell, Array.getElem?_modify, h]
theorem blk_other {w : World} {b b' i : Nat} (v : Value) (h : b' ≠ b) : (w.setCell ⟨b, i, none⟩ v).heap[b']? = w.heap[b']? := by
  simp [World.setCell, Array.getElem?_modify, Ne.symm h]
theorem size_set (w : World) (a : Addr) (v : Value) : (w.setCell a v).heap.size = w.heap.size := by
  simp [World.setCell]
theorem kept_set {w : World} {b i : Nat} {v : Value} {ok : Nat → Prop} (h : ∀ c, ok c → c ≠ b) : Kept ok w (w.setCell ⟨b, i, none⟩ v) :=
  ⟨rfl, rfl, rfl, by rw [size_set]; exact Nat.le_refl _, fun c _ hc => blk_other v (h c hc)⟩
/-- Where an item is, written. -/
theorem FinSt.put {x : Fx} {w : World} {M : Nat → Prop} {wh br : List Nat} {wk : Nat} {op : Bool} (h : FinSt x w M wh br wk op) (i v : Nat) : FinSt x (w.setCell ⟨x.bw, i, none⟩ (.int .i64 (v : Nat))) M (wh.set i v) br wk op := by
  obtain ⟨adB, cB, h1, h2, h3⟩ := h.fin; (have k : ∀ b, b ≠ x.bw → (w.setCell ⟨x.bw, i, none⟩ (.int .i64 (v : Nat))).heap[b]? = w.heap[b]? := fun b hb => blk_other _ hb); (have nm : ∀ b, x.K b → b ≠ x.bw := fun b hb e => (h.km b hb).1 (e ▸ h.mw)); (refine ⟨h.tab.same (fun b hb _ => k b (nm b (h.tk b hb))) (by rw [size_set]; exact Nat.le_refl _), h.ways.move fun b _ hp => ⟨k b (nm b hp), hp⟩, ⟨adB, cB, ?_, owns_same h2 fun b e => k b (h3 b e).2.2, h3⟩, ?_, h.mf, h.mw, h.ne, h.tk, fun b hk => by rw [size_set]; exact h.km b hk, fun b hm => by rw [size_set]; exact h.old b hm, by simpa using h.wlen, h.l2, h.plen⟩)
  · rw [k _ h.ne]
    exact h1
  · rw [blk_set h.whb, List.map_set]
    simp
/-- The branch, and what else stands in the search's own block, written. -/
theorem FinSt.fins {x : Fx} {w w' : World} {M M' : Nat → Prop} {wh br br' : List Nat} {wk wk' : Nat} {op op' : Bool} (h : FinSt x w M wh br wk op) (hb : ∀ b, b < w.heap.size → x.K b ∨ b = x.bw → w'.heap[b]? = w.heap[b]?) (hs : w.heap.size ≤ w'.heap.size) {adB : Option Addr} {cB : Nat}
    (h1 : w'.heap[x.bf]? = some (.cells #[.pointer (some ⟨x.bt, 0, none⟩), x.vW, .slice (some ⟨x.bw, 0, none⟩) x.L x.L, .slice adB br'.length cB, .int .i64 (wk' : Nat), .bool op'] 92 (0, 0))) (h2 : w'.ownsRow 0 82 1 (.slice adB br'.length cB) br'.length (br'.map fun i => .int .i64 (i : Nat)))
    (h3 : ∀ b, (Value.slice adB br'.length cB).ownBlock = some b → M' b ∧ b ≠ x.bf ∧ b ≠ x.bw) (hm : ∀ b, M b → M' b) (hm' : ∀ b, M' b → M b ∨ w.heap.size ≤ b) (ho : ∀ b, M' b → b < w'.heap.size) : FinSt x w' M' wh br' wk' op' :=
  ⟨h.tab.same (fun b ht hl => hb b hl (Or.inl (h.tk b ht))) hs, h.ways.move fun b hl hp => ⟨hb b hl (Or.inl hp), hp⟩, ⟨adB, cB, h1, h2, h3⟩, (hb _ (lt_of_block h.whb) (Or.inr rfl)).trans h.whb, hm _ h.mf, hm _ h.mw, h.ne, h.tk, fun b hk => ⟨fun hx => by
    rcases hm' b hx with h4 | h4
    · exact (h.km b hk).1 h4
    · have := (h.km b hk).2
      omega, Nat.lt_of_lt_of_le (h.km b hk).2 hs⟩, ho, h.wlen, h.l2, h.plen⟩
end Go.Proofs.YtalnljnincnbdacGreat
