/- Texts of one proof, one behind the other: Math3, Math4, Math6, Math7. -/
import Derived.Test.YtmahgfgndfcmpabB01
/- The plain mathematics of layer 1, three: what Check says. -/
namespace Go.Proofs.Ytmahgfgndfcmpab

def kidsN (k : Int) : Int := if k = 4 ∨ k = 8 ∨ k = 9 then 1 else if k = 5 ∨ k = 6 ∨ k = 7 then 2 else 0
def kindB (k : Int) : Bool := decide (1 ≤ k) && decide (k ≤ 9)
def nameB (k : Int) (n : ByteArray) : Bool := if k = 1 then !isNm n.data.toList else !n.data.toList.isEmpty

/-- What is wrong at a node, if something is. -/
def nodeF (k : Int) (n : ByteArray) (len : Nat) : Option Int :=
  if kindB k = false then some 4 else if (len : Int) ≠ kidsN k then some 9 else if nameB k n = true then some 8 else none

inductive Chk where
  | ok (seen : Nat)
  | bad (code : Int) (at_ : Nat)

mutual
def chk : Fm → Nat → Chk
  | .mk k n ks, s => if s = 200 then .bad 2 0 else match nodeF k n ks.length with
    | some c => .bad c s
    | none => chks ks (s + 1)
def chks : List Fm → Nat → Chk
  | [], s => .ok s
  | f :: fs, s => match chk f s with
    | .bad c a => .bad c a
    | .ok s' => chks fs s'
end

mutual
theorem chk_le : ∀ (f : Fm) (s s' : Nat), chk f s = .ok s' → s ≤ 200 → s' ≤ 200 ∧ s' = s + f.size
  | .mk k n ks, s, s', h, hs => by
    rw [chk] at h
    split at h
    · cases h
    · rename_i h2
      split at h
      · cases h
      · have := chks_le ks (s + 1) s' h (by omega)
        rw [Fm.size]; omega
theorem chks_le : ∀ (fs : List Fm) (s s' : Nat), chks fs s = .ok s' → s ≤ 200 → s' ≤ 200 ∧ s' = s + Fm.sizes fs
  | [], s, s', h, hs => by rw [chks] at h; cases h; simp [Fm.sizes]; exact hs
  | f :: fs, s, s', h, hs => by
    rw [chks] at h
    split at h
    · cases h
    · rename_i s1 h1
      have a := chk_le f s s1 h1 hs; have b := chks_le fs s1 s' h a.1; rw [Fm.sizes]; omega
end

/-- What Check answers. -/
def Fm.code (f : Fm) : Int × Int := match chk f 0 with
  | .ok _ => (0, 0)
  | .bad c a => (c, a)
end Go.Proofs.Ytmahgfgndfcmpab
/- The plain mathematics of layer 1, four: what Print writes. -/
namespace Go.Proofs.Ytmahgfgndfcmpab

/-- Each node is as it should be. -/
inductive Fine : Fm → Prop
  | mk (k : Int) (n : ByteArray) (ks : List Fm) (h : nodeF k n ks.length = none) (hk : ∀ (i : Nat) (f : Fm), ks[i]? = some f → Fine f) : Fine (.mk k n ks)

theorem Fine.node {k : Int} {n : ByteArray} {ks : List Fm} (h : Fine (.mk k n ks)) : nodeF k n ks.length = none := by cases h; assumption
theorem Fine.kid {k : Int} {n : ByteArray} {ks : List Fm} (h : Fine (.mk k n ks)) (i : Nat) (f : Fm) (hi : ks[i]? = some f) : Fine f := by
  cases h with
  | mk _ _ _ _ hk => exact hk i f hi

mutual
theorem fine_of_chk : ∀ (f : Fm) (s s' : Nat), chk f s = .ok s' → Fine f
  | .mk k n ks, s, s', h => by
    rw [chk] at h
    split at h
    · cases h
    · split at h
      · cases h
      · rename_i hn
        exact Fine.mk k n ks hn (fine_of_chks ks (s + 1) s' h)
theorem fine_of_chks : ∀ (fs : List Fm) (s s' : Nat), chks fs s = .ok s' → ∀ (i : Nat) (f : Fm), fs[i]? = some f → Fine f
  | [], _, _, _ => fun i f hf => by simp at hf
  | g :: gs, s, s', h => fun i f hf => by
    rw [chks] at h
    split at h
    · cases h
    · rename_i s1 h1
      cases i with
      | zero => simp at hf; subst hf; exact fine_of_chk g s s1 h1
      | succ i => exact fine_of_chks gs s1 s' h i f (by simpa using hf)
end

theorem nodeF_parts {k : Int} {n : ByteArray} {len : Nat} (h : nodeF k n len = none) : 1 ≤ k ∧ k ≤ 9 ∧ (len : Int) = kidsN k ∧ nameB k n = false := by
  unfold nodeF at h
  split at h
  · cases h
  · rename_i h1
    (have h1 : kindB k = true := by simpa using h1); simp [kindB] at h1
    split at h
    · cases h
    · rename_i h2
      split at h
      · cases h
      · rename_i h3
        (exact ⟨h1.1, h1.2, by simpa using h2, by simpa using h3⟩)

/-- A formula that is as it should be is one of three forms. -/
theorem Fine.forms {f : Fm} (h : Fine f) : (∃ n, f = .mk 1 n [] ∧ isNm n.data.toList = true) ∨ (f = .mk 2 ⟨#[]⟩ []) ∨ (f = .mk 3 ⟨#[]⟩ []) ∨ (∃ k g, (k = 4 ∨ k = 8 ∨ k = 9) ∧ f = .mk k ⟨#[]⟩ [g] ∧ Fine g) ∨ (∃ k g g', (k = 5 ∨ k = 6 ∨ k = 7) ∧ f = .mk k ⟨#[]⟩ [g, g'] ∧ Fine g ∧ Fine g') := by
  obtain ⟨k, n, ks⟩ := f; obtain ⟨h1, h2, h3, h4⟩ := nodeF_parts h.node
  have hn : k ≠ 1 → n = ⟨#[]⟩ := fun hk => by
    simp [nameB, hk] at h4; apply ByteArray.ext; exact h4
  (have hlen : k = 1 ∨ k = 2 ∨ k = 3 ∨ k = 4 ∨ k = 5 ∨ k = 6 ∨ k = 7 ∨ k = 8 ∨ k = 9 := by omega)
  have kid1 : ∀ ks : List Fm, ((ks.length : Nat) : Int) = 1 → ∃ g, ks = [g] := fun ks h => by
    match ks, h with
    | [g], _ => exact ⟨g, rfl⟩
    | [], h => simp at h
    | _ :: _ :: _, h => simp at h; omega
  have kid2 : ∀ ks : List Fm, ((ks.length : Nat) : Int) = 2 → ∃ g g', ks = [g, g'] := fun ks h => by
    match ks, h with
    | [g, g'], _ => exact ⟨g, g', rfl⟩
    | [], h => simp at h
    | [_], h => simp at h
    | _ :: _ :: _ :: _, h => simp at h; omega
  have kid0 : ∀ ks : List Fm, ((ks.length : Nat) : Int) = 0 → ks = [] := fun ks h => by
    cases ks with
    | nil => rfl
    | cons _ _ => simp at h; omega
  rcases hlen with e | e | e | e | e | e | e | e | e <;> subst e
  · obtain rfl := kid0 ks (h3.trans rfl); exact Or.inl ⟨n, rfl, by simpa [nameB] using h4⟩
  · obtain rfl := kid0 ks (h3.trans rfl); rw [hn (by decide)]; exact Or.inr (Or.inl rfl)
  · obtain rfl := kid0 ks (h3.trans rfl); rw [hn (by decide)]; exact Or.inr (Or.inr (Or.inl rfl))
  · obtain ⟨g, rfl⟩ := kid1 ks (h3.trans rfl); rw [hn (by decide)]; exact Or.inr (Or.inr (Or.inr (Or.inl ⟨4, g, Or.inl rfl, rfl, h.kid 0 g rfl⟩)))
  · obtain ⟨g, g', rfl⟩ := kid2 ks (h3.trans rfl); rw [hn (by decide)]; exact Or.inr (Or.inr (Or.inr (Or.inr ⟨5, g, g', Or.inl rfl, rfl, h.kid 0 g rfl, h.kid 1 g' rfl⟩)))
  · obtain ⟨g, g', rfl⟩ := kid2 ks (h3.trans rfl); rw [hn (by decide)]; exact Or.inr (Or.inr (Or.inr (Or.inr ⟨6, g, g', Or.inr (Or.inl rfl), rfl, h.kid 0 g rfl, h.kid 1 g' rfl⟩)))
  · obtain ⟨g, g', rfl⟩ := kid2 ks (h3.trans rfl); rw [hn (by decide)]; exact Or.inr (Or.inr (Or.inr (Or.inr ⟨7, g, g', Or.inr (Or.inr rfl), rfl, h.kid 0 g rfl, h.kid 1 g' rfl⟩)))
  · obtain ⟨g, rfl⟩ := kid1 ks (h3.trans rfl); rw [hn (by decide)]; exact Or.inr (Or.inr (Or.inr (Or.inl ⟨8, g, Or.inr (Or.inl rfl), rfl, h.kid 0 g rfl⟩)))
  · obtain ⟨g, rfl⟩ := kid1 ks (h3.trans rfl); rw [hn (by decide)]; exact Or.inr (Or.inr (Or.inr (Or.inl ⟨9, g, Or.inr (Or.inr rfl), rfl, h.kid 0 g rfl⟩)))

theorem isNm_bd {l : List UInt8} (h : isNm l = true) : 1 ≤ l.length ∧ l.length ≤ 8 := by
  simp [isNm] at h
  cases l with
  | nil => simp at h
  | cons c l => simp at h ⊢; omega

mutual
theorem chk_code : ∀ (f : Fm) (s : Nat) (c : Int) (a : Nat), chk f s = .bad c a → c ≠ 0
  | .mk k n ks, s, c, a, h => by
    rw [chk] at h
    split at h
    · cases h; decide
    · split at h
      · rename_i c' hc
        cases h
        unfold nodeF at hc
        split at hc
        · cases hc; decide
        · split at hc
          · cases hc; decide
          · split at hc
            · cases hc; decide
            · cases hc
      · exact chks_code ks (s + 1) c a h
theorem chks_code : ∀ (fs : List Fm) (s : Nat) (c : Int) (a : Nat), chks fs s = .bad c a → c ≠ 0
  | [], s, c, a, h => by rw [chks] at h; cases h
  | f :: fs, s, c, a, h => by
    rw [chks] at h
    split at h
    · rename_i c' a' h1
      cases h
      exact chk_code f s c a h1
    · rename_i s1 h1
      exact chks_code fs s1 c a h
end
end Go.Proofs.Ytmahgfgndfcmpab
/- The plain mathematics of layer 1, six: what is read is as it should be. -/
namespace Go.Proofs.Ytmahgfgndfcmpab

theorem fine_leaf (k : Int) (h : k = 2 ∨ k = 3) : Fine (.mk k e0 []) :=
  Fine.mk _ _ _ (by rcases h with rfl | rfl <;> decide) (fun i f hf => by simp at hf)
theorem fine_one (k : Int) (f : Fm) (h : k = 4 ∨ k = 8 ∨ k = 9) (hf : Fine f) : Fine (.mk k e0 [f]) :=
  Fine.mk _ _ _ (by rcases h with rfl | rfl | rfl <;> (show nodeF _ e0 1 = none; decide)) (fun i g hg => by
    cases i with
    | zero => simp at hg; subst hg; exact hf
    | succ i => simp at hg)
theorem fine_two (k : Int) (f g : Fm) (h : k = 5 ∨ k = 6 ∨ k = 7) (hf : Fine f) (hg : Fine g) : Fine (.mk k e0 [f, g]) :=
  Fine.mk _ _ _ (by rcases h with rfl | rfl | rfl <;> (show nodeF _ e0 2 = none; decide)) (fun i x hx => by
    match i, hx with
    | 0, hx => simp at hx; subst hx; exact hf
    | 1, hx => simp at hx; subst hx; exact hg
    | i + 2, hx => simp at hx)
theorem fine_name {l : List UInt8} (h : isNm l = true) : Fine (nmF l) :=
  Fine.mk _ _ _ (by
    (have : nodeF 1 ⟨l.toArray⟩ 0 = none := by simp [nodeF, kindB, kidsN, nameB, h])
    exact this) (fun i f hf => by simp at hf)

mutual
theorem chk_fine : ∀ (f : Fm) (s : Nat), Fine f → s + f.size ≤ 200 → chk f s = .ok (s + f.size)
  | .mk k n ks, s, h, hs => by
    rw [Fm.size] at hs; (rw [chk, if_neg (by omega), h.node, Fm.size]); (have := chks_fine ks (s + 1) (h.kid) (by omega)); simp only [this]
    congr 1; omega
theorem chks_fine : ∀ (fs : List Fm) (s : Nat), (∀ (i : Nat) (f : Fm), fs[i]? = some f → Fine f) → s + Fm.sizes fs ≤ 200 → chks fs s = .ok (s + Fm.sizes fs)
  | [], s, _, _ => by rw [chks, Fm.sizes]; rfl
  | f :: fs, s, h, hs => by
    rw [Fm.sizes] at hs; (rw [chks, chk_fine f s (h 0 f rfl) (by omega), Fm.sizes]); (have := chks_fine fs (s + f.size) (fun i g hg => h (i + 1) g (by simpa using hg)) (by omega)); simp only [this]
    congr 1; omega
end
end Go.Proofs.Ytmahgfgndfcmpab
/- The plain mathematics of layer 1, seven: the yardstick's tokens. -/
namespace Go.Proofs.Ytmahgfgndfcmpab

def allLow (l : List UInt8) : Bool := l.all lower
theorem letters_of_all : ∀ (l : List UInt8), allLow l = true → letters l = l
  | [], _ => rfl
  | c :: l, h => by
    simp only [allLow, List.all_cons, Bool.and_eq_true] at h; rw [letters, if_pos h.1, letters_of_all l h.2]
theorem all_of_letters : ∀ (l : List UInt8), (letters l).length = l.length → allLow l = true
  | [], _ => rfl
  | c :: l, h => by
    rw [letters] at h
    split at h
    · rename_i hc
      simp only [allLow, List.all_cons, Bool.and_eq_true]; (exact ⟨hc, all_of_letters l (by simpa using h)⟩)
    · simp at h
theorem isNm_all (l : List UInt8) : isNm l = (allLow l && decide (0 < l.length) && decide (l.length < 9)) := by
  unfold isNm
  rcases h : allLow l with _ | _
  · have : ¬ (letters l).length = l.length := fun e => by rw [all_of_letters l e] at h; cases h
    simp [this]
  · rw [letters_of_all l h]
    have e1 : (l ≠ []) ↔ 0 < l.length := List.length_pos_iff.symm; (have e2 : (l.length ≤ 8) ↔ l.length < 9 := by omega); rw [Bool.eq_iff_iff]; simp only [Bool.and_eq_true, decide_eq_true_eq, e1, e2, Bool.true_and, and_true]
end Go.Proofs.Ytmahgfgndfcmpab
