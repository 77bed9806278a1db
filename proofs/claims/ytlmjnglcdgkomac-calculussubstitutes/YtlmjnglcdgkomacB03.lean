/- Texts of one proof, one behind the other: Math3, Math4, Math6, Math7, Math9, TMath1. -/
import Derived.Test.YtlmjnglcdgkomacB01
/- The plain mathematics of layer 1, three: what Check says. -/
namespace Go.Proofs.Ytlmjnglcdgkomac

def kidsN (k : Int) : Int := if k = 4 ∨ k = 8 ∨ k = 9 then 1 else if k = 5 ∨ k = 6 ∨ k = 7 then 2 else 0
def kindB (k : Int) : Bool := decide (1 ≤ k) && decide (k ≤ 9)
def nameB (k : Int) (n : ByteArray) : Bool := if k = 1 then !isNm n.data.toList else !n.data.toList.isEmpty

/-- What is wrong at a node, if something is. -/
def nodeF (k : Int) (n : ByteArray) (len : Nat) : Option Int :=
  if kindB k = false then some 4 else if (len : Int) ≠ kidsN k then some 9 else if nameB k n = true then some 8 else none

inductive Chk where
  | ok (seen : Nat)
  | bad (code : Int) (at_ : Nat)

mutual
def chk : Fm → Nat → Chk
  | .mk k n ks, s => if s = 200 then .bad 2 0 else match nodeF k n ks.length with
    | some c => .bad c s
    | none => chks ks (s + 1)
def chks : List Fm → Nat → Chk
  | [], s => .ok s
  | f :: fs, s => match chk f s with
    | .bad c a => .bad c a
    | .ok s' => chks fs s'
end

mutual
theorem chk_le : ∀ (f : Fm) (s s' : Nat), chk f s = .ok s' → s ≤ 200 → s' ≤ 200 ∧ s' = s + f.size
  | .mk k n ks, s, s', h, hs => by
    rw [chk] at h
    split at h
    · cases h
    · rename_i h2
      split at h
      · cases h
      · have := chks_le ks (s + 1) s' h (by omega)
        rw [Fm.size]; omega
theorem chks_le : ∀ (fs : List Fm) (s s' : Nat), chks fs s = .ok s' → s ≤ 200 → s' ≤ 200 ∧ s' = s + Fm.sizes fs
  | [], s, s', h, hs => by rw [chks] at h; cases h; simp [Fm.sizes]; exact hs
  | f :: fs, s, s', h, hs => by
    rw [chks] at h
    split at h
    · cases h
    · rename_i s1 h1
      have a := chk_le f s s1 h1 hs; have b := chks_le fs s1 s' h a.1; rw [Fm.sizes]; omega
end

/-- What Check answers. -/
def Fm.code (f : Fm) : Int × Int := match chk f 0 with
  | .ok _ => (0, 0)
  | .bad c a => (c, a)
end Go.Proofs.Ytlmjnglcdgkomac
/- The plain mathematics of layer 1, four: what Print writes. -/
namespace Go.Proofs.Ytlmjnglcdgkomac

/-- Each node is as it should be. -/
inductive Fine : Fm → Prop
  | mk (k : Int) (n : ByteArray) (ks : List Fm) (h : nodeF k n ks.length = none) (hk : ∀ (i : Nat) (f : Fm), ks[i]? = some f → Fine f) : Fine (.mk k n ks)

theorem Fine.node {k : Int} {n : ByteArray} {ks : List Fm} (h : Fine (.mk k n ks)) : nodeF k n ks.length = none := by cases h; assumption
theorem Fine.kid {k : Int} {n : ByteArray} {ks : List Fm} (h : Fine (.mk k n ks)) (i : Nat) (f : Fm) (hi : ks[i]? = some f) : Fine f := by
  cases h with
  | mk _ _ _ _ hk => exact hk i f hi

mutual
theorem fine_of_chk : ∀ (f : Fm) (s s' : Nat), chk f s = .ok s' → Fine f
  | .mk k n ks, s, s', h => by
    rw [chk] at h
    split at h
    · cases h
    · split at h
      · cases h
      · rename_i hn
        exact Fine.mk k n ks hn (fine_of_chks ks (s + 1) s' h)
theorem fine_of_chks : ∀ (fs : List Fm) (s s' : Nat), chks fs s = .ok s' → ∀ (i : Nat) (f : Fm), fs[i]? = some f → Fine f
  | [], _, _, _ => fun i f hf => by simp at hf
  | g :: gs, s, s', h => fun i f hf => by
    rw [chks] at h
    split at h
    · cases h
    · rename_i s1 h1
      cases i with
      | zero => simp at hf; subst hf; exact fine_of_chk g s s1 h1
      | succ i => exact fine_of_chks gs s1 s' h i f (by simpa using hf)
end

theorem nodeF_parts {k : Int} {n : ByteArray} {len : Nat} (h : nodeF k n len = none) : 1 ≤ k ∧ k ≤ 9 ∧ (len : Int) = kidsN k ∧ nameB k n = false := by
  unfold nodeF at h
  split at h
  · cases h
  · rename_i h1
    (have h1 : kindB k = true := by simpa using h1); simp [kindB] at h1
    split at h
    · cases h
    · rename_i h2
      split at h
      · cases h
      · rename_i h3
        (exact ⟨h1.1, h1.2, by simpa using h2, by simpa using h3⟩)

/-- A formula that is as it should be is one of three forms. -/
theorem Fine.forms {f : Fm} (h : Fine f) : (∃ n, f = .mk 1 n [] ∧ isNm n.data.toList = true) ∨ (f = .mk 2 ⟨#[]⟩ []) ∨ (f = .mk 3 ⟨#[]⟩ []) ∨ (∃ k g, (k = 4 ∨ k = 8 ∨ k = 9) ∧ f = .mk k ⟨#[]⟩ [g] ∧ Fine g) ∨ (∃ k g g', (k = 5 ∨ k = 6 ∨ k = 7) ∧ f = .mk k ⟨#[]⟩ [g, g'] ∧ Fine g ∧ Fine g') := by
  obtain ⟨k, n, ks⟩ := f; obtain ⟨h1, h2, h3, h4⟩ := nodeF_parts h.node
  have hn : k ≠ 1 → n = ⟨#[]⟩ := fun hk => by
    simp [nameB, hk] at h4; apply ByteArray.ext; exact h4
  (have hlen : k = 1 ∨ k = 2 ∨ k = 3 ∨ k = 4 ∨ k = 5 ∨ k = 6 ∨ k = 7 ∨ k = 8 ∨ k = 9 := by omega)
  have kid1 : ∀ ks : List Fm, ((ks.length : Nat) : Int) = 1 → ∃ g, ks = [g] := fun ks h => by
    match ks, h with
    | [g], _ => exact ⟨g, rfl⟩
    | [], h => simp at h
    | _ :: _ :: _, h => simp at h; omega
  have kid2 : ∀ ks : List Fm, ((ks.length : Nat) : Int) = 2 → ∃ g g', ks = [g, g'] := fun ks h => by
    match ks, h with
    | [g, g'], _ => exact ⟨g, g', rfl⟩
    | [], h => simp at h
    | [_], h => simp at h
    | _ :: _ :: _ :: _, h => simp at h; omega
  have kid0 : ∀ ks : List Fm, ((ks.length : Nat) : Int) = 0 → ks = [] := fun ks h => by
    cases ks with
    | nil => rfl
    | cons _ _ => simp at h; omega
  rcases hlen with e | e | e | e | e | e | e | e | e <;> subst e
  · obtain rfl := kid0 ks (h3.trans rfl); exact Or.inl ⟨n, rfl, by simpa [nameB] using h4⟩
  · obtain rfl := kid0 ks (h3.trans rfl); rw [hn (by decide)]; exact Or.inr (Or.inl rfl)
  · obtain rfl := kid0 ks (h3.trans rfl); rw [hn (by decide)]; exact Or.inr (Or.inr (Or.inl rfl))
  · obtain ⟨g, rfl⟩ := kid1 ks (h3.trans rfl); rw [hn (by decide)]; exact Or.inr (Or.inr (Or.inr (Or.inl ⟨4, g, Or.inl rfl, rfl, h.kid 0 g rfl⟩)))
  · obtain ⟨g, g', rfl⟩ := kid2 ks (h3.trans rfl); rw [hn (by decide)]; exact Or.inr (Or.inr (Or.inr (Or.inr ⟨5, g, g', Or.inl rfl, rfl, h.kid 0 g rfl, h.kid 1 g' rfl⟩)))
  · obtain ⟨g, g', rfl⟩ := kid2 ks (h3.trans rfl); rw [hn (by decide)]; exact Or.inr (Or.inr (Or.inr (Or.inr ⟨6, g, g', Or.inr (Or.inl rfl), rfl, h.kid 0 g rfl, h.kid 1 g' rfl⟩)))
  · obtain ⟨g, g', rfl⟩ := kid2 ks (h3.trans rfl); rw [hn (by decide)]; exact Or.inr (Or.inr (Or.inr (Or.inr ⟨7, g, g', Or.inr (Or.inr rfl), rfl, h.kid 0 g rfl, h.kid 1 g' rfl⟩)))
  · obtain ⟨g, rfl⟩ := kid1 ks (h3.trans rfl); rw [hn (by decide)]; exact Or.inr (Or.inr (Or.inr (Or.inl ⟨8, g, Or.inr (Or.inl rfl), rfl, h.kid 0 g rfl⟩)))
  · obtain ⟨g, rfl⟩ := kid1 ks (h3.trans rfl); rw [hn (by decide)]; exact Or.inr (Or.inr (Or.inr (Or.inl ⟨9, g, Or.inr (Or.inr rfl), rfl, h.kid 0 g rfl⟩)))

theorem isNm_bd {l : List UInt8} (h : isNm l = true) : 1 ≤ l.length ∧ l.length ≤ 8 := by
  simp [isNm] at h
  cases l with
  | nil => simp at h
  | cons c l => simp at h ⊢; omega

mutual
theorem chk_code : ∀ (f : Fm) (s : Nat) (c : Int) (a : Nat), chk f s = .bad c a → c ≠ 0
  | .mk k n ks, s, c, a, h => by
    rw [chk] at h
    split at h
    · cases h; decide
    · split at h
      · rename_i c' hc
        cases h
        unfold nodeF at hc
        split at hc
        · cases hc; decide
        · split at hc
          · cases hc; decide
          · split at hc
            · cases hc; decide
            · cases hc
      · exact chks_code ks (s + 1) c a h
theorem chks_code : ∀ (fs : List Fm) (s : Nat) (c : Int) (a : Nat), chks fs s = .bad c a → c ≠ 0
  | [], s, c, a, h => by rw [chks] at h; cases h
  | f :: fs, s, c, a, h => by
    rw [chks] at h
    split at h
    · rename_i c' a' h1
      cases h
      exact chk_code f s c a h1
    · rename_i s1 h1
      exact chks_code fs s1 c a h
end
end Go.Proofs.Ytlmjnglcdgkomac
/- The plain mathematics of layer 1, six: what is read is as it should be. -/
namespace Go.Proofs.Ytlmjnglcdgkomac

theorem fine_name {l : List UInt8} (h : isNm l = true) : Fine (nmF l) :=
  Fine.mk _ _ _ (by
    (have : nodeF 1 ⟨l.toArray⟩ 0 = none := by simp [nodeF, kindB, kidsN, nameB, h])
    exact this) (fun i f hf => by simp at hf)

mutual
theorem chk_fine : ∀ (f : Fm) (s : Nat), Fine f → s + f.size ≤ 200 → chk f s = .ok (s + f.size)
  | .mk k n ks, s, h, hs => by
    rw [Fm.size] at hs; (rw [chk, if_neg (by omega), h.node, Fm.size]); (have := chks_fine ks (s + 1) (h.kid) (by omega)); simp only [this]
    congr 1; omega
theorem chks_fine : ∀ (fs : List Fm) (s : Nat), (∀ (i : Nat) (f : Fm), fs[i]? = some f → Fine f) → s + Fm.sizes fs ≤ 200 → chks fs s = .ok (s + Fm.sizes fs)
  | [], s, _, _ => by rw [chks, Fm.sizes]; rfl
  | f :: fs, s, h, hs => by
    rw [Fm.sizes] at hs; (rw [chks, chk_fine f s (h 0 f rfl) (by omega), Fm.sizes]); (have := chks_fine fs (s + f.size) (fun i g hg => h (i + 1) g (by simpa using hg)) (by omega)); simp only [this]
    congr 1; omega
end
end Go.Proofs.Ytlmjnglcdgkomac
/- The plain mathematics of layer 1, seven: the yardstick's tokens. -/
namespace Go.Proofs.Ytlmjnglcdgkomac

def allLow (l : List UInt8) : Bool := l.all lower
theorem letters_of_all : ∀ (l : List UInt8), allLow l = true → letters l = l
  | [], _ => rfl
  | c :: l, h => by
    simp only [allLow, List.all_cons, Bool.and_eq_true] at h; rw [letters, if_pos h.1, letters_of_all l h.2]
theorem all_of_letters : ∀ (l : List UInt8), (letters l).length = l.length → allLow l = true
  | [], _ => rfl
  | c :: l, h => by
    rw [letters] at h
    split at h
    · rename_i hc
      simp only [allLow, List.all_cons, Bool.and_eq_true]; (exact ⟨hc, all_of_letters l (by simpa using h)⟩)
    · simp at h
theorem isNm_all (l : List UInt8) : isNm l = (allLow l && decide (0 < l.length) && decide (l.length < 9)) := by
  unfold isNm
  rcases h : allLow l with _ | _
  · have : ¬ (letters l).length = l.length := fun e => by rw [all_of_letters l e] at h; cases h
    simp [this]
  · rw [letters_of_all l h]
    have e1 : (l ≠ []) ↔ 0 < l.length := List.length_pos_iff.symm; (have e2 : (l.length ≤ 8) ↔ l.length < 9 := by omega); rw [Bool.eq_iff_iff]; simp only [Bool.and_eq_true, decide_eq_true_eq, e1, e2, Bool.true_and, and_true]
end Go.Proofs.Ytlmjnglcdgkomac
/- The plain mathematics of layer 1, nine: a formula's nodes, at most so many. -/
namespace Go.Proofs.Ytlmjnglcdgkomac

mutual
def walkL : Fm → Nat → List Fm
  | .mk k n ks, most => .mk k n ks :: walkK ks most 1
def walkK : List Fm → Nat → Nat → List Fm
  | [], _, _ => []
  | f :: fs, most, c => if c ≤ most then walkL f (most - c) ++ walkK fs most (c + (walkL f (most - c)).length) else []
end

mutual
theorem walkL_le : ∀ (f : Fm) (most : Nat), (walkL f most).length ≤ most + 1
  | .mk k n ks, most => by
    rw [walkL, List.length_cons]; (have := walkK_le ks most 1 (by omega)); omega
theorem walkK_le : ∀ (fs : List Fm) (most c : Nat), c ≤ most + 1 → c + (walkK fs most c).length ≤ most + 1
  | [], most, c, h => by rw [walkK]; simpa using h
  | f :: fs, most, c, h => by
    rw [walkK]
    split
    · rename_i hc
      have a := walkL_le f (most - c); (have b := walkK_le fs most (c + (walkL f (most - c)).length) (by omega)); rw [List.length_append]; omega
    · simpa using h
end

/-! All nodes, each ahead of its kids. -/
mutual
def allN : Fm → List Fm
  | .mk k n ks => .mk k n ks :: allNs ks
def allNs : List Fm → List Fm
  | [] => []
  | f :: fs => allN f ++ allNs fs
end
mutual
theorem allN_len : ∀ f : Fm, (allN f).length = f.size
  | .mk k n ks => by rw [allN, List.length_cons, allNs_len ks, Fm.size]
theorem allNs_len : ∀ fs : List Fm, (allNs fs).length = Fm.sizes fs
  | [] => by rw [allNs, Fm.sizes]; rfl
  | f :: fs => by rw [allNs, List.length_append, allN_len f, allNs_len fs, Fm.sizes]
end

theorem take_app {α : Type} (a b : List α) (n : Nat) : (a ++ b).take n = a.take n ++ b.take (n - a.length) := List.take_append
mutual
theorem walkL_take : ∀ (f : Fm) (most : Nat), walkL f most = (allN f).take (most + 1)
  | .mk k n ks, most => by
    (rw [walkL, allN, List.take_succ_cons, walkK_take ks most 1 (by omega)]); rfl
theorem walkK_take : ∀ (fs : List Fm) (most c : Nat), c ≤ most + 1 → walkK fs most c = (allNs fs).take (most + 1 - c)
  | [], most, c, _ => by rw [walkK, allNs]; simp
  | f :: fs, most, c, h => by
    rw [walkK, allNs]
    split
    · rename_i hc
      (have e : most - c + 1 = most + 1 - c := by omega); have hl := walkL_le f (most - c); have hL := walkL_take f (most - c); rw [e] at hL; (rw [walkK_take fs most (c + (walkL f (most - c)).length) (by omega), take_app, ← hL])
      congr 1
      by_cases hlt : (allN f).length ≤ most + 1 - c
      · have : (walkL f (most - c)).length = (allN f).length := by rw [hL, List.length_take]; omega
        rw [this]; congr 1; omega
      · have : (walkL f (most - c)).length = most + 1 - c := by rw [hL, List.length_take]; omega
        (rw [this, show most + 1 - (c + (most + 1 - c)) = 0 by omega, show most + 1 - c - (allN f).length = 0 by omega])
    · have : most + 1 - c = 0 := by omega
      rw [this]; simp
end

end Go.Proofs.Ytlmjnglcdgkomac
/- The plain mathematics of layer 2: where a formula is true; the first node that is a box or a diamond. -/
namespace Go.Proofs.Ytlmjnglcdgkomac

def val (k : Int) (pn : Bool) (l : List Bool) : Bool :=
  if k = 1 then pn else if k = 4 then !(l.getD 0 false) else if k = 5 then l.getD 0 false && l.getD 1 false else if k = 6 then l.getD 0 false || l.getD 1 false else if k = 7 then !(l.getD 0 false) || l.getD 1 false else decide (k = 2)

mutual
def tv (p : List UInt8 → Bool) : Fm → Bool
  | .mk k n ks => val k (p n.data.toList) (tvs p ks)
def tvs (p : List UInt8 → Bool) : List Fm → List Bool
  | [] => []
  | f :: fs => tv p f :: tvs p fs
end

theorem tv_name (p : List UInt8 → Bool) (n : ByteArray) : tv p (.mk 1 n []) = p n.data.toList := by rw [tv]; rfl
theorem tv_true (p : List UInt8 → Bool) : tv p (.mk 2 ⟨#[]⟩ []) = true := by rw [tv]; rfl
theorem tv_false (p : List UInt8 → Bool) : tv p (.mk 3 ⟨#[]⟩ []) = false := by rw [tv]; rfl
theorem tv_not (p : List UInt8 → Bool) (f : Fm) : tv p (.mk 4 ⟨#[]⟩ [f]) = !tv p f := by rw [tv, tvs, tvs]; rfl
theorem tv_and (p : List UInt8 → Bool) (f g : Fm) : tv p (.mk 5 ⟨#[]⟩ [f, g]) = (tv p f && tv p g) := by rw [tv, tvs, tvs, tvs]; rfl
theorem tv_or (p : List UInt8 → Bool) (f g : Fm) : tv p (.mk 6 ⟨#[]⟩ [f, g]) = (tv p f || tv p g) := by rw [tv, tvs, tvs, tvs]; rfl
theorem tv_then (p : List UInt8 → Bool) (f g : Fm) : tv p (.mk 7 ⟨#[]⟩ [f, g]) = (!tv p f || tv p g) := by rw [tv, tvs, tvs, tvs]; rfl

def isM (k : Int) : Bool := decide (k = 8) || decide (k = 9)

mutual
def modal : Fm → Nat → Nat × Bool
  | .mk k _ ks, a => if isM k then (a, true) else modals ks (a + 1)
def modals : List Fm → Nat → Nat × Bool
  | [], a => (a, false)
  | f :: fs, a => if (modal f a).2 then ((modal f a).1, true) else modals fs (modal f a).1
end

/-- The first of these nodes. -/
def mIdx : List Fm → Nat → Nat × Bool
  | [], a => (a, false)
  | f :: fs, a => if isM f.kind then (a, true) else mIdx fs (a + 1)

theorem mIdx_append : ∀ (l m : List Fm) (a : Nat), mIdx (l ++ m) a = if (mIdx l a).2 then mIdx l a else mIdx m (mIdx l a).1
  | [], m, a => by simp [mIdx]
  | f :: fs, m, a => by
    rw [List.cons_append, mIdx, mIdx]
    split
    · simp
    · exact mIdx_append fs m (a + 1)

mutual
theorem modal_idx : ∀ (f : Fm) (a : Nat), modal f a = mIdx (allN f) a
  | .mk k n ks, a => by
    rw [modal, allN, mIdx, modals_idx ks (a + 1)]; rfl
theorem modals_idx : ∀ (fs : List Fm) (a : Nat), modals fs a = mIdx (allNs fs) a
  | [], a => by rw [modals, allNs, mIdx]
  | f :: fs, a => by
    rw [modals, allNs, mIdx_append, modal_idx f a, modals_idx fs]
    split
    · rename_i h
      rw [← h]
    · rfl
end

theorem mIdx_le : ∀ (l : List Fm) (a : Nat), a ≤ (mIdx l a).1 ∧ (mIdx l a).1 ≤ a + l.length ∧ ((mIdx l a).2 = false → (mIdx l a).1 = a + l.length)
  | [], a => by simp [mIdx]
  | f :: fs, a => by
    rw [mIdx]; have := mIdx_le fs (a + 1)
    split
    · simp
    · simp only [List.length_cons]
      (exact ⟨by omega, by omega, fun h => by have := this.2.2 h; omega⟩)

theorem modal_le (f : Fm) (a : Nat) : a ≤ (modal f a).1 ∧ (modal f a).1 ≤ a + f.size := by
  rw [modal_idx]; have := mIdx_le (allN f) a; rw [allN_len] at this; exact ⟨this.1, this.2.1⟩

/-- No box, no diamond anywhere. -/
def Plain (f : Fm) : Prop := (mIdx (allN f) 0).2 = false

theorem mIdx_no : ∀ (l : List Fm) (a : Nat), (mIdx l a).2 = false ↔ ∀ f ∈ l, isM f.kind = false
  | [], a => by simp [mIdx]
  | f :: fs, a => by
    rw [mIdx]
    split
    · rename_i h; simp [h]
    · rename_i h
      rw [mIdx_no fs (a + 1)]; simp [h]

theorem plain_iff (f : Fm) : Plain f ↔ ∀ g ∈ allN f, isM g.kind = false := mIdx_no _ _
theorem Plain.kind {k : Int} {n : ByteArray} {ks : List Fm} (h : Plain (.mk k n ks)) : isM k = false := by
  rw [plain_iff] at h; (exact h (.mk k n ks) (by rw [allN]; simp))
theorem allNs_mem {ks : List Fm} {g x : Fm} (h : g ∈ ks) (hx : x ∈ allN g) : x ∈ allNs ks := by
  induction ks with
  | nil => cases h
  | cons k ks ih =>
    rw [allNs, List.mem_append]
    rcases List.mem_cons.1 h with rfl | h
    · exact Or.inl hx
    · exact Or.inr (ih h)
theorem Plain.kid {k : Int} {n : ByteArray} {ks : List Fm} (h : Plain (.mk k n ks)) {g : Fm} (hg : g ∈ ks) : Plain g := by
  rw [plain_iff] at *; intro x hx; (exact h x (by rw [allN]; exact List.mem_cons_of_mem _ (allNs_mem hg hx)))
end Go.Proofs.Ytlmjnglcdgkomac
