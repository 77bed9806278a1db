/- Texts of one proof, one behind the other: Math3, Math4. -/
import Derived.Test.YtffkoiemnchdgaaB01
/- The plain mathematics of layer 1, three: what Check says. -/
namespace Go.Proofs.Ytffkoiemnchdgaa

def kidsN (k : Int) : Int := if k = 4 ∨ k = 8 ∨ k = 9 then 1 else if k = 5 ∨ k = 6 ∨ k = 7 then 2 else 0
def kindB (k : Int) : Bool := decide (1 ≤ k) && decide (k ≤ 9)
def nameB (k : Int) (n : ByteArray) : Bool := if k = 1 then !isNm n.data.toList else !n.data.toList.isEmpty

/-- What is wrong at a node, if something is. -/
def nodeF (k : Int) (n : ByteArray) (len : Nat) : Option Int :=
  if kindB k = false then some 4 else if (len : Int) ≠ kidsN k then some 9 else if nameB k n = true then some 8 else none

inductive Chk where
  | ok (seen : Nat)
  | bad (code : Int) (at_ : Nat)

mutual
def chk : Fm → Nat → Chk
  | .mk k n ks, s => if s = 200 then .bad 2 0 else match nodeF k n ks.length with
    | some c => .bad c s
    | none => chks ks (s + 1)
def chks : List Fm → Nat → Chk
  | [], s => .ok s
  | f :: fs, s => match chk f s with
    | .bad c a => .bad c a
    | .ok s' => chks fs s'
end

mutual
theorem chk_le : ∀ (f : Fm) (s s' : Nat), chk f s = .ok s' → s ≤ 200 → s' ≤ 200 ∧ s' = s + f.size
  | .mk k n ks, s, s', h, hs => by
    rw [chk] at h
    split at h
    · cases h
    · rename_i h2
      split at h
      · cases h
      · have := chks_le ks (s + 1) s' h (by omega)
        rw [Fm.size]; omega
theorem chks_le : ∀ (fs : List Fm) (s s' : Nat), chks fs s = .ok s' → s ≤ 200 → s' ≤ 200 ∧ s' = s + Fm.sizes fs
  | [], s, s', h, hs => by rw [chks] at h; cases h; simp [Fm.sizes]; exact hs
  | f :: fs, s, s', h, hs => by
    rw [chks] at h
    split at h
    · cases h
    · rename_i s1 h1
      have a := chk_le f s s1 h1 hs; have b := chks_le fs s1 s' h a.1; rw [Fm.sizes]; omega
end

/-- What Check answers. -/
def Fm.code (f : Fm) : Int × Int := match chk f 0 with
  | .ok _ => (0, 0)
  | .bad c a => (c, a)
end Go.Proofs.Ytffkoiemnchdgaa
/- The plain mathematics of layer 1, four: what Print writes. -/
namespace Go.Proofs.Ytffkoiemnchdgaa

def bindI (k : Int) : Int := if k = 7 then 0 else if k = 6 then 1 else if k = 5 then 2 else 3
def sign1 (k : Int) : List UInt8 := if k = 4 then [126] else if k = 8 then [91, 93] else [60, 62]
def sign2 (k : Int) : List UInt8 := if k = 5 then [32, 38, 32] else if k = 6 then [32, 124, 32] else [32, 45, 62, 32]
def leftB (k : Int) : Int := if k = 5 then 2 else 1
def rightB (k : Int) : Int := if k = 5 then 3 else if k = 6 then 2 else 0
def leafS (k : Int) (n : ByteArray) : List UInt8 := if k = 1 then n.data.toList else if k = 2 then [49] else [48]
def brk (b : Bool) (s : List UInt8) : List UInt8 := if b then s else [40] ++ s ++ [41]

/-- What is written of a formula where signs must bind so closely. -/
def pr : Int → Fm → List UInt8
  | least, .mk k n [] => brk (decide (least ≤ bindI k)) (leafS k n)
  | least, .mk k _ [f] => brk (decide (least ≤ bindI k)) (sign1 k ++ pr 3 f)
  | least, .mk k _ (f :: g :: _) => brk (decide (least ≤ bindI k)) (pr (leftB k) f ++ sign2 k ++ pr (rightB k) g)

def bareS : Fm → List UInt8
  | .mk k n [] => leafS k n
  | .mk k _ [f] => sign1 k ++ pr 3 f
  | .mk k _ (f :: g :: _) => pr (leftB k) f ++ sign2 k ++ pr (rightB k) g

theorem pr_bare (least : Int) (f : Fm) : pr least f = brk (decide (least ≤ bindI f.kind)) (bareS f) := by
  obtain ⟨k, n, ks⟩ := f
  match ks with
  | [] => rw [pr, bareS]; rfl
  | [f] => rw [pr, bareS]; rfl
  | f :: g :: _ => rw [pr, bareS]; rfl

/-- Each node is as it should be. -/
inductive Fine : Fm → Prop
  | mk (k : Int) (n : ByteArray) (ks : List Fm) (h : nodeF k n ks.length = none) (hk : ∀ (i : Nat) (f : Fm), ks[i]? = some f → Fine f) : Fine (.mk k n ks)

theorem Fine.node {k : Int} {n : ByteArray} {ks : List Fm} (h : Fine (.mk k n ks)) : nodeF k n ks.length = none := by cases h; assumption
theorem Fine.kid {k : Int} {n : ByteArray} {ks : List Fm} (h : Fine (.mk k n ks)) (i : Nat) (f : Fm) (hi : ks[i]? = some f) : Fine f := by
  cases h with
  | mk _ _ _ _ hk => exact hk i f hi

mutual
theorem fine_of_chk : ∀ (f : Fm) (s s' : Nat), chk f s = .ok s' → Fine f
  | .mk k n ks, s, s', h => by
    rw [chk] at h
    split at h
    · cases h
    · split at h
      · cases h
      · rename_i hn
        exact Fine.mk k n ks hn (fine_of_chks ks (s + 1) s' h)
theorem fine_of_chks : ∀ (fs : List Fm) (s s' : Nat), chks fs s = .ok s' → ∀ (i : Nat) (f : Fm), fs[i]? = some f → Fine f
  | [], _, _, _ => fun i f hf => by simp at hf
  | g :: gs, s, s', h => fun i f hf => by
    rw [chks] at h
    split at h
    · cases h
    · rename_i s1 h1
      cases i with
      | zero => simp at hf; subst hf; exact fine_of_chk g s s1 h1
      | succ i => exact fine_of_chks gs s1 s' h i f (by simpa using hf)
end

theorem nodeF_parts {k : Int} {n : ByteArray} {len : Nat} (h : nodeF k n len = none) : 1 ≤ k ∧ k ≤ 9 ∧ (len : Int) = kidsN k ∧ nameB k n = false := by
  unfold nodeF at h
  split at h
  · cases h
  · rename_i h1
    (have h1 : kindB k = true := by simpa using h1); simp [kindB] at h1
    split at h
    · cases h
    · rename_i h2
      split at h
      · cases h
      · rename_i h3
        (exact ⟨h1.1, h1.2, by simpa using h2, by simpa using h3⟩)

/-- A formula that is as it should be is one of three forms. -/
theorem Fine.forms {f : Fm} (h : Fine f) : (∃ n, f = .mk 1 n [] ∧ isNm n.data.toList = true) ∨ (f = .mk 2 ⟨#[]⟩ []) ∨ (f = .mk 3 ⟨#[]⟩ []) ∨ (∃ k g, (k = 4 ∨ k = 8 ∨ k = 9) ∧ f = .mk k ⟨#[]⟩ [g] ∧ Fine g) ∨ (∃ k g g', (k = 5 ∨ k = 6 ∨ k = 7) ∧ f = .mk k ⟨#[]⟩ [g, g'] ∧ Fine g ∧ Fine g') := by
  obtain ⟨k, n, ks⟩ := f; obtain ⟨h1, h2, h3, h4⟩ := nodeF_parts h.node
  have hn : k ≠ 1 → n = ⟨#[]⟩ := fun hk => by
    simp [nameB, hk] at h4; apply ByteArray.ext; exact h4
  (have hlen : k = 1 ∨ k = 2 ∨ k = 3 ∨ k = 4 ∨ k = 5 ∨ k = 6 ∨ k = 7 ∨ k = 8 ∨ k = 9 := by omega)
  have kid1 : ∀ ks : List Fm, ((ks.length : Nat) : Int) = 1 → ∃ g, ks = [g] := fun ks h => by
    match ks, h with
    | [g], _ => exact ⟨g, rfl⟩
    | [], h => simp at h
    | _ :: _ :: _, h => simp at h; omega
  have kid2 : ∀ ks : List Fm, ((ks.length : Nat) : Int) = 2 → ∃ g g', ks = [g, g'] := fun ks h => by
    match ks, h with
    | [g, g'], _ => exact ⟨g, g', rfl⟩
    | [], h => simp at h
    | [_], h => simp at h
    | _ :: _ :: _ :: _, h => simp at h; omega
  have kid0 : ∀ ks : List Fm, ((ks.length : Nat) : Int) = 0 → ks = [] := fun ks h => by
    cases ks with
    | nil => rfl
    | cons _ _ => simp at h; omega
  rcases hlen with e | e | e | e | e | e | e | e | e <;> subst e
  · obtain rfl := kid0 ks (h3.trans rfl); exact Or.inl ⟨n, rfl, by simpa [nameB] using h4⟩
  · obtain rfl := kid0 ks (h3.trans rfl); rw [hn (by decide)]; exact Or.inr (Or.inl rfl)
  · obtain rfl := kid0 ks (h3.trans rfl); rw [hn (by decide)]; exact Or.inr (Or.inr (Or.inl rfl))
  · obtain ⟨g, rfl⟩ := kid1 ks (h3.trans rfl); rw [hn (by decide)]; exact Or.inr (Or.inr (Or.inr (Or.inl ⟨4, g, Or.inl rfl, rfl, h.kid 0 g rfl⟩)))
  · obtain ⟨g, g', rfl⟩ := kid2 ks (h3.trans rfl); rw [hn (by decide)]; exact Or.inr (Or.inr (Or.inr (Or.inr ⟨5, g, g', Or.inl rfl, rfl, h.kid 0 g rfl, h.kid 1 g' rfl⟩)))
  · obtain ⟨g, g', rfl⟩ := kid2 ks (h3.trans rfl); rw [hn (by decide)]; exact Or.inr (Or.inr (Or.inr (Or.inr ⟨6, g, g', Or.inr (Or.inl rfl), rfl, h.kid 0 g rfl, h.kid 1 g' rfl⟩)))
  · obtain ⟨g, g', rfl⟩ := kid2 ks (h3.trans rfl); rw [hn (by decide)]; exact Or.inr (Or.inr (Or.inr (Or.inr ⟨7, g, g', Or.inr (Or.inr rfl), rfl, h.kid 0 g rfl, h.kid 1 g' rfl⟩)))
  · obtain ⟨g, rfl⟩ := kid1 ks (h3.trans rfl); rw [hn (by decide)]; exact Or.inr (Or.inr (Or.inr (Or.inl ⟨8, g, Or.inr (Or.inl rfl), rfl, h.kid 0 g rfl⟩)))
  · obtain ⟨g, rfl⟩ := kid1 ks (h3.trans rfl); rw [hn (by decide)]; exact Or.inr (Or.inr (Or.inr (Or.inl ⟨9, g, Or.inr (Or.inr rfl), rfl, h.kid 0 g rfl⟩)))

theorem brk_len (b : Bool) (s : List UInt8) : s.length ≤ (brk b s).length ∧ (brk b s).length ≤ s.length + 2 := by
  cases b <;> simp [brk] <;> omega
theorem isNm_bd {l : List UInt8} (h : isNm l = true) : 1 ≤ l.length ∧ l.length ≤ 8 := by
  simp [isNm] at h
  cases l with
  | nil => simp at h
  | cons c l => simp at h ⊢; omega

theorem pr_len : ∀ (m : Nat) (f : Fm) (least : Int), f.size ≤ m → Fine f → 1 ≤ (pr least f).length ∧ (pr least f).length ≤ 10 * f.size
  | 0, .mk k n ks, _, h, _ => by rw [Fm.size] at h; omega
  | m + 1, f, least, h, hf => by
    rw [pr_bare]; have hb := brk_len (decide (least ≤ bindI f.kind)) (bareS f)
    rcases hf.forms with ⟨n, rfl, hn⟩ | rfl | rfl | ⟨k, g, hk, rfl, hg⟩ | ⟨k, g, g', hk, rfl, hg, hg'⟩
    · have h1 := isNm_bd hn
      have h2 : (bareS (.mk 1 n [])).length = n.data.toList.length := rfl; rw [size_leaf]; omega
    · have h2 : (bareS (.mk 2 ⟨#[]⟩ [])).length = 1 := rfl
      rw [size_leaf]; omega
    · have h2 : (bareS (.mk 3 ⟨#[]⟩ [])).length = 1 := rfl
      rw [size_leaf]; omega
    · rw [size_one] at h ⊢
      (have ih := pr_len m g 3 (by omega) hg); (have h2 : (bareS (.mk k ⟨#[]⟩ [g])).length = (sign1 k).length + (pr 3 g).length := by simp [bareS]); (have h3 : (sign1 k).length ≤ 2 := by unfold sign1; split <;> (try split) <;> simp); omega
    · rw [size_two] at h ⊢
      (have ih := pr_len m g (leftB k) (by omega) hg); (have ih' := pr_len m g' (rightB k) (by omega) hg'); (have h2 : (bareS (.mk k ⟨#[]⟩ [g, g'])).length = (pr (leftB k) g).length + (sign2 k).length + (pr (rightB k) g').length := by simp [bareS]; omega); (have h3 : (sign2 k).length ≤ 4 := by unfold sign2; split <;> (try split) <;> simp); omega

mutual
theorem chk_code : ∀ (f : Fm) (s : Nat) (c : Int) (a : Nat), chk f s = .bad c a → c ≠ 0
  | .mk k n ks, s, c, a, h => by
    rw [chk] at h
    split at h
    · cases h; decide
    · split at h
      · rename_i c' hc
        cases h
        unfold nodeF at hc
        split at hc
        · cases hc; decide
        · split at hc
          · cases hc; decide
          · split at hc
            · cases hc; decide
            · cases hc
      · exact chks_code ks (s + 1) c a h
theorem chks_code : ∀ (fs : List Fm) (s : Nat) (c : Int) (a : Nat), chks fs s = .bad c a → c ≠ 0
  | [], s, c, a, h => by rw [chks] at h; cases h
  | f :: fs, s, c, a, h => by
    rw [chks] at h
    split at h
    · rename_i c' a' h1
      cases h
      exact chk_code f s c a h1
    · rename_i s1 h1
      exact chks_code fs s1 c a h
end
end Go.Proofs.Ytffkoiemnchdgaa
