/- Texts of one proof, one behind the other: Math6, Math7, Math9, Math11, TMath1. -/
import Derived.Test.YtmahgfgndfcmpabB01
/- The plain mathematics of layer 1, six: what is read is as it should be. -/
namespace Go.Proofs.Ytmahgfgndfcmpab

theorem fine_two (k : Int) (f g : Fm) (h : k = 5 ∨ k = 6 ∨ k = 7) (hf : Fine f) (hg : Fine g) : Fine (.mk k e0 [f, g]) :=
  Fine.mk _ _ _ (by rcases h with rfl | rfl | rfl <;> (show nodeF _ e0 2 = none; decide)) (fun i x hx => by
    match i, hx with
    | 0, hx => simp at hx; subst hx; exact hf
    | 1, hx => simp at hx; subst hx; exact hg
    | i + 2, hx => simp at hx)
theorem fine_name {l : List UInt8} (h : isNm l = true) : Fine (nmF l) :=
  Fine.mk _ _ _ (by
    (have : nodeF 1 ⟨l.toArray⟩ 0 = none := by simp [nodeF, kindB, kidsN, nameB, h])
    exact this) (fun i f hf => by simp at hf)

mutual
theorem chk_fine : ∀ (f : Fm) (s : Nat), Fine f → s + f.size ≤ 200 → chk f s = .ok (s + f.size)
  | .mk k n ks, s, h, hs => by
    rw [Fm.size] at hs; (rw [chk, if_neg (by omega), h.node, Fm.size]); (have := chks_fine ks (s + 1) (h.kid) (by omega)); simp only [this]
    congr 1; omega
theorem chks_fine : ∀ (fs : List Fm) (s : Nat), (∀ (i : Nat) (f : Fm), fs[i]? = some f → Fine f) → s + Fm.sizes fs ≤ 200 → chks fs s = .ok (s + Fm.sizes fs)
  | [], s, _, _ => by rw [chks, Fm.sizes]; rfl
  | f :: fs, s, h, hs => by
    rw [Fm.sizes] at hs; (rw [chks, chk_fine f s (h 0 f rfl) (by omega), Fm.sizes]); (have := chks_fine fs (s + f.size) (fun i g hg => h (i + 1) g (by simpa using hg)) (by omega)); simp only [this]
    congr 1; omega
end
end Go.Proofs.Ytmahgfgndfcmpab
/- The plain mathematics of layer 1, seven: the yardstick's tokens. -/
namespace Go.Proofs.Ytmahgfgndfcmpab

def allLow (l : List UInt8) : Bool := l.all lower
theorem letters_of_all : ∀ (l : List UInt8), allLow l = true → letters l = l
  | [], _ => rfl
  | c :: l, h => by
    simp only [allLow, List.all_cons, Bool.and_eq_true] at h; rw [letters, if_pos h.1, letters_of_all l h.2]
theorem all_of_letters : ∀ (l : List UInt8), (letters l).length = l.length → allLow l = true
  | [], _ => rfl
  | c :: l, h => by
    rw [letters] at h
    split at h
    · rename_i hc
      simp only [allLow, List.all_cons, Bool.and_eq_true]; (exact ⟨hc, all_of_letters l (by simpa using h)⟩)
    · simp at h
theorem isNm_all (l : List UInt8) : isNm l = (allLow l && decide (0 < l.length) && decide (l.length < 9)) := by
  unfold isNm
  rcases h : allLow l with _ | _
  · have : ¬ (letters l).length = l.length := fun e => by rw [all_of_letters l e] at h; cases h
    simp [this]
  · rw [letters_of_all l h]
    have e1 : (l ≠ []) ↔ 0 < l.length := List.length_pos_iff.symm; (have e2 : (l.length ≤ 8) ↔ l.length < 9 := by omega); rw [Bool.eq_iff_iff]; simp only [Bool.and_eq_true, decide_eq_true_eq, e1, e2, Bool.true_and, and_true]
end Go.Proofs.Ytmahgfgndfcmpab
/- The plain mathematics of layer 1, nine: a formula's nodes, at most so many. -/
namespace Go.Proofs.Ytmahgfgndfcmpab

mutual
def walkL : Fm → Nat → List Fm
  | .mk k n ks, most => .mk k n ks :: walkK ks most 1
def walkK : List Fm → Nat → Nat → List Fm
  | [], _, _ => []
  | f :: fs, most, c => if c ≤ most then walkL f (most - c) ++ walkK fs most (c + (walkL f (most - c)).length) else []
end

mutual
theorem walkL_le : ∀ (f : Fm) (most : Nat), (walkL f most).length ≤ most + 1
  | .mk k n ks, most => by
    rw [walkL, List.length_cons]; (have := walkK_le ks most 1 (by omega)); omega
theorem walkK_le : ∀ (fs : List Fm) (most c : Nat), c ≤ most + 1 → c + (walkK fs most c).length ≤ most + 1
  | [], most, c, h => by rw [walkK]; simpa using h
  | f :: fs, most, c, h => by
    rw [walkK]
    split
    · rename_i hc
      have a := walkL_le f (most - c); (have b := walkK_le fs most (c + (walkL f (most - c)).length) (by omega)); rw [List.length_append]; omega
    · simpa using h
end

/-! All nodes, each ahead of its kids. -/
mutual
def allN : Fm → List Fm
  | .mk k n ks => .mk k n ks :: allNs ks
def allNs : List Fm → List Fm
  | [] => []
  | f :: fs => allN f ++ allNs fs
end
mutual
theorem allN_len : ∀ f : Fm, (allN f).length = f.size
  | .mk k n ks => by rw [allN, List.length_cons, allNs_len ks, Fm.size]
theorem allNs_len : ∀ fs : List Fm, (allNs fs).length = Fm.sizes fs
  | [] => by rw [allNs, Fm.sizes]; rfl
  | f :: fs => by rw [allNs, List.length_append, allN_len f, allNs_len fs, Fm.sizes]
end

theorem take_app {α : Type} (a b : List α) (n : Nat) : (a ++ b).take n = a.take n ++ b.take (n - a.length) := List.take_append
mutual
theorem walkL_take : ∀ (f : Fm) (most : Nat), walkL f most = (allN f).take (most + 1)
  | .mk k n ks, most => by
    (rw [walkL, allN, List.take_succ_cons, walkK_take ks most 1 (by omega)]); rfl
theorem walkK_take : ∀ (fs : List Fm) (most c : Nat), c ≤ most + 1 → walkK fs most c = (allNs fs).take (most + 1 - c)
  | [], most, c, _ => by rw [walkK, allNs]; simp
  | f :: fs, most, c, h => by
    rw [walkK, allNs]
    split
    · rename_i hc
      (have e : most - c + 1 = most + 1 - c := by omega); have hl := walkL_le f (most - c); have hL := walkL_take f (most - c); rw [e] at hL; (rw [walkK_take fs most (c + (walkL f (most - c)).length) (by omega), take_app, ← hL])
      congr 1
      by_cases hlt : (allN f).length ≤ most + 1 - c
      · have : (walkL f (most - c)).length = (allN f).length := by rw [hL, List.length_take]; omega
        rw [this]; congr 1; omega
      · have : (walkL f (most - c)).length = most + 1 - c := by rw [hL, List.length_take]; omega
        (rw [this, show most + 1 - (c + (most + 1 - c)) = 0 by omega, show most + 1 - c - (allN f).length = 0 by omega])
    · have : most + 1 - c = 0 := by omega
      rw [this]; simp
end

end Go.Proofs.Ytmahgfgndfcmpab
/- The plain mathematics of layer 1, eleven: Check, node by node in a list. -/
namespace Go.Proofs.Ytmahgfgndfcmpab

/-- The first fault of a list of nodes, from number s on. -/
def run : List Fm → Nat → Chk
  | [], s => .ok s
  | .mk k n ks :: fs, s => if s = 200 then .bad 2 0 else match nodeF k n ks.length with
    | some c => .bad c s
    | none => run fs (s + 1)

mutual
theorem run_all : ∀ (f : Fm) (rest : List Fm) (s : Nat), run (allN f ++ rest) s = match chk f s with | .bad c a => .bad c a | .ok s' => run rest s'
  | .mk k n ks, rest, s => by
    rw [allN, List.cons_append, run, chk]; by_cases h : s = 200
    · rw [if_pos h, if_pos h]
    · rw [if_neg h, if_neg h]
      cases nodeF k n ks.length with
      | some c => rfl
      | none => exact runs_all ks rest (s + 1)
theorem runs_all : ∀ (fs : List Fm) (rest : List Fm) (s : Nat), run (allNs fs ++ rest) s = match chks fs s with | .bad c a => .bad c a | .ok s' => run rest s'
  | [], rest, s => by rw [allNs, chks]; rfl
  | f :: fs, rest, s => by
    rw [allNs, List.append_assoc, run_all f _ s, chks]
    cases chk f s with
    | bad c a => rfl
    | ok s' => exact runs_all fs rest s'
end

theorem run_take : ∀ (l : List Fm) (m s : Nat), 201 ≤ m + s → s ≤ 200 → run (l.take m) s = run l s
  | [], m, s, _, _ => by simp
  | .mk k n ks :: l, m, s, h, hs => by
    cases m with
    | zero => omega
    | succ m =>
      rw [List.take_succ_cons, run, run]; by_cases h2 : s = 200
      · rw [if_pos h2, if_pos h2]
      · rw [if_neg h2, if_neg h2]
        cases nodeF k n ks.length with
        | some c => rfl
        | none => exact run_take l m (s + 1) (by omega) (by omega)

theorem run_walk (f : Fm) : run (walkL f 201) 0 = chk f 0 := by
  (rw [walkL_take, run_take _ _ _ (by omega) (by omega)]); have := run_all f [] 0; rw [List.append_nil] at this; rw [this]
  cases chk f 0 <;> rfl

theorem run_drop {l : List Fm} {i : Nat} {k : Int} {n : ByteArray} {ks : List Fm} (h : l[i]? = some (.mk k n ks)) (s : Nat) : run (l.drop i) s = if s = 200 then .bad 2 0 else match nodeF k n ks.length with
    | some c => .bad c s
    | none => run (l.drop (i + 1)) (s + 1) := by
  have hi : i < l.length := by
    rcases Nat.lt_or_ge i l.length with h' | h'
    · exact h'
    · rw [List.getElem?_eq_none h'] at h; cases h
  rw [List.drop_eq_getElem_cons hi]; rw [List.getElem?_eq_getElem hi] at h; rw [Option.some.inj h, run]
end Go.Proofs.Ytmahgfgndfcmpab
/- The plain mathematics of layer 2: where a formula is true; the first node that is a box or a diamond. -/
namespace Go.Proofs.Ytmahgfgndfcmpab

def val (k : Int) (pn : Bool) (l : List Bool) : Bool :=
  if k = 1 then pn else if k = 4 then !(l.getD 0 false) else if k = 5 then l.getD 0 false && l.getD 1 false else if k = 6 then l.getD 0 false || l.getD 1 false else if k = 7 then !(l.getD 0 false) || l.getD 1 false else decide (k = 2)

mutual
def tv (p : List UInt8 → Bool) : Fm → Bool
  | .mk k n ks => val k (p n.data.toList) (tvs p ks)
def tvs (p : List UInt8 → Bool) : List Fm → List Bool
  | [] => []
  | f :: fs => tv p f :: tvs p fs
end

theorem tv_name (p : List UInt8 → Bool) (n : ByteArray) : tv p (.mk 1 n []) = p n.data.toList := by rw [tv]; rfl
theorem tv_true (p : List UInt8 → Bool) : tv p (.mk 2 ⟨#[]⟩ []) = true := by rw [tv]; rfl
theorem tv_false (p : List UInt8 → Bool) : tv p (.mk 3 ⟨#[]⟩ []) = false := by rw [tv]; rfl
theorem tv_not (p : List UInt8 → Bool) (f : Fm) : tv p (.mk 4 ⟨#[]⟩ [f]) = !tv p f := by rw [tv, tvs, tvs]; rfl
theorem tv_and (p : List UInt8 → Bool) (f g : Fm) : tv p (.mk 5 ⟨#[]⟩ [f, g]) = (tv p f && tv p g) := by rw [tv, tvs, tvs, tvs]; rfl
theorem tv_or (p : List UInt8 → Bool) (f g : Fm) : tv p (.mk 6 ⟨#[]⟩ [f, g]) = (tv p f || tv p g) := by rw [tv, tvs, tvs, tvs]; rfl
theorem tv_then (p : List UInt8 → Bool) (f g : Fm) : tv p (.mk 7 ⟨#[]⟩ [f, g]) = (!tv p f || tv p g) := by rw [tv, tvs, tvs, tvs]; rfl

def isM (k : Int) : Bool := decide (k = 8) || decide (k = 9)

mutual
def modal : Fm → Nat → Nat × Bool
  | .mk k _ ks, a => if isM k then (a, true) else modals ks (a + 1)
def modals : List Fm → Nat → Nat × Bool
  | [], a => (a, false)
  | f :: fs, a => if (modal f a).2 then ((modal f a).1, true) else modals fs (modal f a).1
end

/-- The first of these nodes. -/
def mIdx : List Fm → Nat → Nat × Bool
  | [], a => (a, false)
  | f :: fs, a => if isM f.kind then (a, true) else mIdx fs (a + 1)

theorem mIdx_append : ∀ (l m : List Fm) (a : Nat), mIdx (l ++ m) a = if (mIdx l a).2 then mIdx l a else mIdx m (mIdx l a).1
  | [], m, a => by simp [mIdx]
  | f :: fs, m, a => by
    rw [List.cons_append, mIdx, mIdx]
    split
    · simp
    · exact mIdx_append fs m (a + 1)

mutual
theorem modal_idx : ∀ (f : Fm) (a : Nat), modal f a = mIdx (allN f) a
  | .mk k n ks, a => by
    rw [modal, allN, mIdx, modals_idx ks (a + 1)]; rfl
theorem modals_idx : ∀ (fs : List Fm) (a : Nat), modals fs a = mIdx (allNs fs) a
  | [], a => by rw [modals, allNs, mIdx]
  | f :: fs, a => by
    rw [modals, allNs, mIdx_append, modal_idx f a, modals_idx fs]
    split
    · rename_i h
      rw [← h]
    · rfl
end

theorem mIdx_le : ∀ (l : List Fm) (a : Nat), a ≤ (mIdx l a).1 ∧ (mIdx l a).1 ≤ a + l.length ∧ ((mIdx l a).2 = false → (mIdx l a).1 = a + l.length)
  | [], a => by simp [mIdx]
  | f :: fs, a => by
    rw [mIdx]; have := mIdx_le fs (a + 1)
    split
    · simp
    · simp only [List.length_cons]
      (exact ⟨by omega, by omega, fun h => by have := this.2.2 h; omega⟩)

theorem modal_le (f : Fm) (a : Nat) : a ≤ (modal f a).1 ∧ (modal f a).1 ≤ a + f.size := by
  rw [modal_idx]; have := mIdx_le (allN f) a; rw [allN_len] at this; exact ⟨this.1, this.2.1⟩

/-- No box, no diamond anywhere. -/
def Plain (f : Fm) : Prop := (mIdx (allN f) 0).2 = false

theorem mIdx_no : ∀ (l : List Fm) (a : Nat), (mIdx l a).2 = false ↔ ∀ f ∈ l, isM f.kind = false
  | [], a => by simp [mIdx]
  | f :: fs, a => by
    rw [mIdx]
    split
    · rename_i h; simp [h]
    · rename_i h
      rw [mIdx_no fs (a + 1)]; simp [h]

theorem plain_iff (f : Fm) : Plain f ↔ ∀ g ∈ allN f, isM g.kind = false := mIdx_no _ _
theorem Plain.kind {k : Int} {n : ByteArray} {ks : List Fm} (h : Plain (.mk k n ks)) : isM k = false := by
  rw [plain_iff] at h; (exact h (.mk k n ks) (by rw [allN]; simp))
theorem allNs_mem {ks : List Fm} {g x : Fm} (h : g ∈ ks) (hx : x ∈ allN g) : x ∈ allNs ks := by
  induction ks with
  | nil => cases h
  | cons k ks ih =>
    rw [allNs, List.mem_append]
    rcases List.mem_cons.1 h with rfl | h
    · exact Or.inl hx
    · exact Or.inr (ih h)
theorem Plain.kid {k : Int} {n : ByteArray} {ks : List Fm} (h : Plain (.mk k n ks)) {g : Fm} (hg : g ∈ ks) : Plain g := by
  rw [plain_iff] at *; intro x hx; (exact h x (by rw [allN]; exact List.mem_cons_of_mem _ (allNs_mem hg hx)))
end Go.Proofs.Ytmahgfgndfcmpab
