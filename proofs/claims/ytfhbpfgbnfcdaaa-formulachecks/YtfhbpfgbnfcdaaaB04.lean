/- Texts of one proof, one behind the other: Math3, Math4, Math5, Math6. -/
import Derived.Test.YtfhbpfgbnfcdaaaB01
/- The plain mathematics of layer 1, three: what Check says. -/
namespace Go.Proofs.Ytfhbpfgbnfcdaaa

def kidsN (k : Int) : Int := if k = 4 ∨ k = 8 ∨ k = 9 then 1 else if k = 5 ∨ k = 6 ∨ k = 7 then 2 else 0
def kindB (k : Int) : Bool := decide (1 ≤ k) && decide (k ≤ 9)
def nameB (k : Int) (n : ByteArray) : Bool := if k = 1 then !isNm n.data.toList else !n.data.toList.isEmpty

/-- What is wrong at a node, if something is. -/
def nodeF (k : Int) (n : ByteArray) (len : Nat) : Option Int :=
  if kindB k = false then some 4 else if (len : Int) ≠ kidsN k then some 9 else if nameB k n = true then some 8 else none

inductive Chk where
  | ok (seen : Nat)
  | bad (code : Int) (at_ : Nat)

mutual
def chk : Fm → Nat → Chk
  | .mk k n ks, s => if s = 200 then .bad 2 0 else match nodeF k n ks.length with
    | some c => .bad c s
    | none => chks ks (s + 1)
def chks : List Fm → Nat → Chk
  | [], s => .ok s
  | f :: fs, s => match chk f s with
    | .bad c a => .bad c a
    | .ok s' => chks fs s'
end

mutual
theorem chk_le : ∀ (f : Fm) (s s' : Nat), chk f s = .ok s' → s ≤ 200 → s' ≤ 200 ∧ s' = s + f.size
  | .mk k n ks, s, s', h, hs => by
    rw [chk] at h
    split at h
    · cases h
    · rename_i h2
      split at h
      · cases h
      · have := chks_le ks (s + 1) s' h (by omega)
        rw [Fm.size]; omega
theorem chks_le : ∀ (fs : List Fm) (s s' : Nat), chks fs s = .ok s' → s ≤ 200 → s' ≤ 200 ∧ s' = s + Fm.sizes fs
  | [], s, s', h, hs => by rw [chks] at h; cases h; simp [Fm.sizes]; exact hs
  | f :: fs, s, s', h, hs => by
    rw [chks] at h
    split at h
    · cases h
    · rename_i s1 h1
      have a := chk_le f s s1 h1 hs; have b := chks_le fs s1 s' h a.1; rw [Fm.sizes]; omega
end

/-- What Check answers. -/
def Fm.code (f : Fm) : Int × Int := match chk f 0 with
  | .ok _ => (0, 0)
  | .bad c a => (c, a)
end Go.Proofs.Ytfhbpfgbnfcdaaa
/- The plain mathematics of layer 1, four: what Print writes. -/
namespace Go.Proofs.Ytfhbpfgbnfcdaaa

def bindI (k : Int) : Int := if k = 7 then 0 else if k = 6 then 1 else if k = 5 then 2 else 3
def sign1 (k : Int) : List UInt8 := if k = 4 then [126] else if k = 8 then [91, 93] else [60, 62]
def sign2 (k : Int) : List UInt8 := if k = 5 then [32, 38, 32] else if k = 6 then [32, 124, 32] else [32, 45, 62, 32]
def leftB (k : Int) : Int := if k = 5 then 2 else 1
def rightB (k : Int) : Int := if k = 5 then 3 else if k = 6 then 2 else 0
def leafS (k : Int) (n : ByteArray) : List UInt8 := if k = 1 then n.data.toList else if k = 2 then [49] else [48]
def brk (b : Bool) (s : List UInt8) : List UInt8 := if b then s else [40] ++ s ++ [41]

/-- What is written of a formula where signs must bind so closely. -/
def pr : Int → Fm → List UInt8
  | least, .mk k n [] => brk (decide (least ≤ bindI k)) (leafS k n)
  | least, .mk k _ [f] => brk (decide (least ≤ bindI k)) (sign1 k ++ pr 3 f)
  | least, .mk k _ (f :: g :: _) => brk (decide (least ≤ bindI k)) (pr (leftB k) f ++ sign2 k ++ pr (rightB k) g)

def bareS : Fm → List UInt8
  | .mk k n [] => leafS k n
  | .mk k _ [f] => sign1 k ++ pr 3 f
  | .mk k _ (f :: g :: _) => pr (leftB k) f ++ sign2 k ++ pr (rightB k) g

theorem pr_bare (least : Int) (f : Fm) : pr least f = brk (decide (least ≤ bindI f.kind)) (bareS f) := by
  obtain ⟨k, n, ks⟩ := f
  match ks with
  | [] => rw [pr, bareS]; rfl
  | [f] => rw [pr, bareS]; rfl
  | f :: g :: _ => rw [pr, bareS]; rfl

/-- Each node is as it should be. -/
inductive Fine : Fm → Prop
  | mk (k : Int) (n : ByteArray) (ks : List Fm) (h : nodeF k n ks.length = none) (hk : ∀ (i : Nat) (f : Fm), ks[i]? = some f → Fine f) : Fine (.mk k n ks)

theorem Fine.node {k : Int} {n : ByteArray} {ks : List Fm} (h : Fine (.mk k n ks)) : nodeF k n ks.length = none := by cases h; assumption
theorem Fine.kid {k : Int} {n : ByteArray} {ks : List Fm} (h : Fine (.mk k n ks)) (i : Nat) (f : Fm) (hi : ks[i]? = some f) : Fine f := by
  cases h with
  | mk _ _ _ _ hk => exact hk i f hi

mutual
theorem fine_of_chk : ∀ (f : Fm) (s s' : Nat), chk f s = .ok s' → Fine f
  | .mk k n ks, s, s', h => by
    rw [chk] at h
    split at h
    · cases h
    · split at h
      · cases h
      · rename_i hn
        exact Fine.mk k n ks hn (fine_of_chks ks (s + 1) s' h)
theorem fine_of_chks : ∀ (fs : List Fm) (s s' : Nat), chks fs s = .ok s' → ∀ (i : Nat) (f : Fm), fs[i]? = some f → Fine f
  | [], _, _, _ => fun i f hf => by simp at hf
  | g :: gs, s, s', h => fun i f hf => by
    rw [chks] at h
    split at h
    · cases h
    · rename_i s1 h1
      cases i with
      | zero => simp at hf; subst hf; exact fine_of_chk g s s1 h1
      | succ i => exact fine_of_chks gs s1 s' h i f (by simpa using hf)
end

theorem nodeF_parts {k : Int} {n : ByteArray} {len : Nat} (h : nodeF k n len = none) : 1 ≤ k ∧ k ≤ 9 ∧ (len : Int) = kidsN k ∧ nameB k n = false := by
  unfold nodeF at h
  split at h
  · cases h
  · rename_i h1
    (have h1 : kindB k = true := by simpa using h1); simp [kindB] at h1
    split at h
    · cases h
    · rename_i h2
      split at h
      · cases h
      · rename_i h3
        (exact ⟨h1.1, h1.2, by simpa using h2, by simpa using h3⟩)

/-- A formula that is as it should be is one of three forms. -/
theorem Fine.forms {f : Fm} (h : Fine f) : (∃ n, f = .mk 1 n [] ∧ isNm n.data.toList = true) ∨ (f = .mk 2 ⟨#[]⟩ []) ∨ (f = .mk 3 ⟨#[]⟩ []) ∨ (∃ k g, (k = 4 ∨ k = 8 ∨ k = 9) ∧ f = .mk k ⟨#[]⟩ [g] ∧ Fine g) ∨ (∃ k g g', (k = 5 ∨ k = 6 ∨ k = 7) ∧ f = .mk k ⟨#[]⟩ [g, g'] ∧ Fine g ∧ Fine g') := by
  obtain ⟨k, n, ks⟩ := f; obtain ⟨h1, h2, h3, h4⟩ := nodeF_parts h.node
  have hn : k ≠ 1 → n = ⟨#[]⟩ := fun hk => by
    simp [nameB, hk] at h4; apply ByteArray.ext; exact h4
  (have hlen : k = 1 ∨ k = 2 ∨ k = 3 ∨ k = 4 ∨ k = 5 ∨ k = 6 ∨ k = 7 ∨ k = 8 ∨ k = 9 := by omega)
  have kid1 : ∀ ks : List Fm, ((ks.length : Nat) : Int) = 1 → ∃ g, ks = [g] := fun ks h => by
    match ks, h with
    | [g], _ => exact ⟨g, rfl⟩
    | [], h => simp at h
    | _ :: _ :: _, h => simp at h; omega
  have kid2 : ∀ ks : List Fm, ((ks.length : Nat) : Int) = 2 → ∃ g g', ks = [g, g'] := fun ks h => by
    match ks, h with
    | [g, g'], _ => exact ⟨g, g', rfl⟩
    | [], h => simp at h
    | [_], h => simp at h
    | _ :: _ :: _ :: _, h => simp at h; omega
  have kid0 : ∀ ks : List Fm, ((ks.length : Nat) : Int) = 0 → ks = [] := fun ks h => by
    cases ks with
    | nil => rfl
    | cons _ _ => simp at h; omega
  rcases hlen with e | e | e | e | e | e | e | e | e <;> subst e
  · obtain rfl := kid0 ks (h3.trans rfl); exact Or.inl ⟨n, rfl, by simpa [nameB] using h4⟩
  · obtain rfl := kid0 ks (h3.trans rfl); rw [hn (by decide)]; exact Or.inr (Or.inl rfl)
  · obtain rfl := kid0 ks (h3.trans rfl); rw [hn (by decide)]; exact Or.inr (Or.inr (Or.inl rfl))
  · obtain ⟨g, rfl⟩ := kid1 ks (h3.trans rfl); rw [hn (by decide)]; exact Or.inr (Or.inr (Or.inr (Or.inl ⟨4, g, Or.inl rfl, rfl, h.kid 0 g rfl⟩)))
  · obtain ⟨g, g', rfl⟩ := kid2 ks (h3.trans rfl); rw [hn (by decide)]; exact Or.inr (Or.inr (Or.inr (Or.inr ⟨5, g, g', Or.inl rfl, rfl, h.kid 0 g rfl, h.kid 1 g' rfl⟩)))
  · obtain ⟨g, g', rfl⟩ := kid2 ks (h3.trans rfl); rw [hn (by decide)]; exact Or.inr (Or.inr (Or.inr (Or.inr ⟨6, g, g', Or.inr (Or.inl rfl), rfl, h.kid 0 g rfl, h.kid 1 g' rfl⟩)))
  · obtain ⟨g, g', rfl⟩ := kid2 ks (h3.trans rfl); rw [hn (by decide)]; exact Or.inr (Or.inr (Or.inr (Or.inr ⟨7, g, g', Or.inr (Or.inr rfl), rfl, h.kid 0 g rfl, h.kid 1 g' rfl⟩)))
  · obtain ⟨g, rfl⟩ := kid1 ks (h3.trans rfl); rw [hn (by decide)]; exact Or.inr (Or.inr (Or.inr (Or.inl ⟨8, g, Or.inr (Or.inl rfl), rfl, h.kid 0 g rfl⟩)))
  · obtain ⟨g, rfl⟩ := kid1 ks (h3.trans rfl); rw [hn (by decide)]; exact Or.inr (Or.inr (Or.inr (Or.inl ⟨9, g, Or.inr (Or.inr rfl), rfl, h.kid 0 g rfl⟩)))

theorem brk_len (b : Bool) (s : List UInt8) : s.length ≤ (brk b s).length ∧ (brk b s).length ≤ s.length + 2 := by
  cases b <;> simp [brk] <;> omega
theorem isNm_bd {l : List UInt8} (h : isNm l = true) : 1 ≤ l.length ∧ l.length ≤ 8 := by
  simp [isNm] at h
  cases l with
  | nil => simp at h
  | cons c l => simp at h ⊢; omega

theorem pr_len : ∀ (m : Nat) (f : Fm) (least : Int), f.size ≤ m → Fine f → 1 ≤ (pr least f).length ∧ (pr least f).length ≤ 10 * f.size
  | 0, .mk k n ks, _, h, _ => by rw [Fm.size] at h; omega
  | m + 1, f, least, h, hf => by
    rw [pr_bare]; have hb := brk_len (decide (least ≤ bindI f.kind)) (bareS f)
    rcases hf.forms with ⟨n, rfl, hn⟩ | rfl | rfl | ⟨k, g, hk, rfl, hg⟩ | ⟨k, g, g', hk, rfl, hg, hg'⟩
    · have h1 := isNm_bd hn
      have h2 : (bareS (.mk 1 n [])).length = n.data.toList.length := rfl; rw [size_leaf]; omega
    · have h2 : (bareS (.mk 2 ⟨#[]⟩ [])).length = 1 := rfl
      rw [size_leaf]; omega
    · have h2 : (bareS (.mk 3 ⟨#[]⟩ [])).length = 1 := rfl
      rw [size_leaf]; omega
    · rw [size_one] at h ⊢
      (have ih := pr_len m g 3 (by omega) hg); (have h2 : (bareS (.mk k ⟨#[]⟩ [g])).length = (sign1 k).length + (pr 3 g).length := by simp [bareS]); (have h3 : (sign1 k).length ≤ 2 := by unfold sign1; split <;> (try split) <;> simp); omega
    · rw [size_two] at h ⊢
      (have ih := pr_len m g (leftB k) (by omega) hg); (have ih' := pr_len m g' (rightB k) (by omega) hg'); (have h2 : (bareS (.mk k ⟨#[]⟩ [g, g'])).length = (pr (leftB k) g).length + (sign2 k).length + (pr (rightB k) g').length := by simp [bareS]; omega); (have h3 : (sign2 k).length ≤ 4 := by unfold sign2; split <;> (try split) <;> simp); omega

mutual
theorem chk_code : ∀ (f : Fm) (s : Nat) (c : Int) (a : Nat), chk f s = .bad c a → c ≠ 0
  | .mk k n ks, s, c, a, h => by
    rw [chk] at h
    split at h
    · cases h; decide
    · split at h
      · rename_i c' hc
        cases h
        unfold nodeF at hc
        split at hc
        · cases hc; decide
        · split at hc
          · cases hc; decide
          · split at hc
            · cases hc; decide
            · cases hc
      · exact chks_code ks (s + 1) c a h
theorem chks_code : ∀ (fs : List Fm) (s : Nat) (c : Int) (a : Nat), chks fs s = .bad c a → c ≠ 0
  | [], s, c, a, h => by rw [chks] at h; cases h
  | f :: fs, s, c, a, h => by
    rw [chks] at h
    split at h
    · rename_i c' a' h1
      cases h
      exact chk_code f s c a h1
    · rename_i s1 h1
      exact chks_code fs s1 c a h
end
end Go.Proofs.Ytfhbpfgbnfcdaaa
/- The plain mathematics of layer 1, five: what is written is read as it was. -/
namespace Go.Proofs.Ytfhbpfgbnfcdaaa

theorem takeS_blank (s l : List UInt8) : takeS s (32 :: l) = takeS s l := by simp [takeS, skipB, blank]
theorem mName_blank (l : List UInt8) : mName (32 :: l) = mName l := by simp [mName, skipB, blank]
theorem mNot_blank (k : Nat) (l : List UInt8) : mNot k (32 :: l) = mNot k l := by
  cases k with
  | zero => rw [mNot, mNot]
  | succ k => simp only [mNot, takeS_blank, mName_blank]
theorem mAnd_blank (k : Nat) (l : List UInt8) : mAnd k (32 :: l) = mAnd k l := by
  cases k with
  | zero => rw [mAnd, mAnd]
  | succ k => simp only [mAnd, mNot_blank]
theorem mOr_blank (k : Nat) (l : List UInt8) : mOr k (32 :: l) = mOr k l := by
  cases k with
  | zero => rw [mOr, mOr]
  | succ k => simp only [mOr, mAnd_blank]
theorem mThen_blank (k : Nat) (l : List UInt8) : mThen k (32 :: l) = mThen k l := by
  cases k with
  | zero => rw [mThen, mThen]
  | succ k => simp only [mThen, mOr_blank]

theorem ev_blank {K : Nat → List UInt8 → Option Res} (hK : ∀ k l, K k (32 :: l) = K k l) {l : List UInt8} {x : Res} (h : Ev (K · l) x) : Ev (K · (32 :: l)) x := by
  obtain ⟨N, hN⟩ := h; (exact ⟨N, fun k hk => (hK k l).trans (hN k hk)⟩)

/-- No letter is next. -/
def Stop (l : List UInt8) : Prop := letters l = []

/-- No sign of these three is next. -/
theorem takeS_head {c d : UInt8} {l r : List UInt8} (hb : blank c = false) (hd : (d == c) = false) : takeS (d :: r) (c :: l) = none := by
  simp [takeS, skipB, hb, List.isPrefixOf, hd]

theorem lower_blank {c : UInt8} (h : lower c = true) : blank c = false := by
  simp only [lower, Bool.and_eq_true, decide_eq_true_eq] at h; simp only [blank, Bool.or_eq_false_iff, beq_eq_false_iff_ne, ne_eq]
  constructor <;> (intro e; subst e; revert h; decide)
theorem lower_ne {c d : UInt8} (h : lower c = true) (hd : lower d = false) : (d == c) = false := by
  simp only [beq_eq_false_iff_ne, ne_eq]; intro e; subst e; rw [h] at hd; cases hd

theorem letters_all : ∀ (l : List UInt8), (letters l).length = l.length → letters l = l
  | [], _ => rfl
  | c :: l, h => by
    simp only [letters] at h ⊢
    split at h
    · rename_i hc
      (rw [if_pos hc, letters_all l (by simpa using h)])
    · simp at h
theorem letters_append : ∀ (l r : List UInt8), letters l = l → letters (l ++ r) = l ++ letters r
  | [], r, _ => rfl
  | c :: l, r, h => by
    simp only [letters, List.cons_append] at h ⊢
    split at h
    · rename_i hc
      rw [if_pos hc, letters_append l r (List.cons.inj h).2]
    · cases h

def AN (f : Fm) : Prop := ∀ rest, Stop rest → Ev (mNot · (pr 3 f ++ rest)) (.ok f rest)
def AA (f : Fm) : Prop := ∀ rest x, Stop rest → Ev (mAnds · f rest) x → Ev (mAnd · (pr 2 f ++ rest)) x
def AO (f : Fm) : Prop := ∀ rest x, Stop rest → takeS [38] rest = none → Ev (mOrs · f (skipB rest)) x → Ev (mOr · (pr 1 f ++ rest)) x
def AT (f : Fm) : Prop := ∀ rest, Stop rest → takeS [38] rest = none → takeS [124] rest = none → takeS [45, 62] rest = none → Ev (mThen · (pr 0 f ++ rest)) (.ok f (skipB rest))

theorem ao_of_aa {f : Fm} (he : pr 1 f = pr 2 f) (h : AA f) : AO f := fun rest x hs h1 hx => by
  rw [he]; exact ev_or_ok (h rest _ hs (ev_ands_no h1)) hx
theorem at_of_ao {f : Fm} (he : pr 0 f = pr 1 f) (h : AO f) : AT f := fun rest hs h1 h2 h3 => by
  rw [he]; (have a := ev_then_no (h rest _ hs h1 (ev_ors_no (by rw [takeS_skip]; exact h2))) (by rw [takeS_skip, takeS_skip]; exact h3))
  rwa [skipB_idem, skipB_idem] at a
theorem aa_of_an {f : Fm} (he : pr 2 f = pr 3 f) (h : AN f) : AA f := fun rest x hs hx => by
  rw [he]; exact ev_and_ok (h rest hs) hx

theorem stop_one (c : UInt8) (l : List UInt8) (h : lower c = false) : Stop (c :: l) := by simp [Stop, letters, h]

theorem bind_pr {f : Fm} {a b : Int} (h : (a ≤ bindI f.kind) ↔ (b ≤ bindI f.kind)) : pr a f = pr b f := by
  rw [pr_bare, pr_bare]
  congr 1
  exact decide_eq_decide.2 h

/-- Signs between two. -/
theorem aa_five {g h : Fm} (ag : AA g) (nh : AN h) : AA (.mk 5 e0 [g, h]) := fun rest x hs hx => by
  have e : pr 2 (.mk 5 e0 [g, h]) ++ rest = pr 2 g ++ (32 :: 38 :: 32 :: (pr 3 h ++ rest)) := by
    rw [pr_bare]; show (pr 2 g ++ [32, 38, 32] ++ pr 3 h) ++ rest = _
    simp
  rw [e]; refine ag _ x (stop_one _ _ rfl) (ev_ands_ok (r := 32 :: (pr 3 h ++ rest)) ?_ (ev_blank mNot_blank (nh rest hs)) hx); rw [takeS_blank]; simp [takeS, skipB, blank]
theorem ao_six {g h : Fm} (og : AO g) (ah : AA h) : AO (.mk 6 e0 [g, h]) := fun rest x hs h1 hx => by
  have e : pr 1 (.mk 6 e0 [g, h]) ++ rest = pr 1 g ++ (32 :: 124 :: 32 :: (pr 2 h ++ rest)) := by
    rw [pr_bare]; show (pr 1 g ++ [32, 124, 32] ++ pr 2 h) ++ rest = _
    simp
  rw [e]; refine og _ x (stop_one _ _ rfl) ?_ (ev_ors_ok (r := 32 :: (pr 2 h ++ rest)) (r1 := skipB rest) ?_ (ev_blank mAnd_blank (ah rest _ hs (ev_ands_no h1))) hx)
  · rw [takeS_blank]; exact takeS_head rfl rfl
  · rw [takeS_skip, takeS_blank]
    simp [takeS, skipB, blank]
theorem at_seven {g h : Fm} (og : AO g) (th : AT h) : AT (.mk 7 e0 [g, h]) := fun rest hs h1 h2 h3 => by
  have e : pr 0 (.mk 7 e0 [g, h]) ++ rest = pr 1 g ++ (32 :: 45 :: 62 :: 32 :: (pr 0 h ++ rest)) := by
    rw [pr_bare]; show (pr 1 g ++ [32, 45, 62, 32] ++ pr 0 h) ++ rest = _
    simp
  rw [e]; refine ev_then_ok (og _ _ (stop_one _ _ rfl) ?_ (ev_ors_no ?_)) (r1 := 32 :: (pr 0 h ++ rest)) ?_ (ev_blank mThen_blank (th rest hs h1 h2 h3))
  · rw [takeS_blank]; exact takeS_head rfl rfl
  · rw [takeS_skip, takeS_blank]; exact takeS_head rfl rfl
  · rw [takeS_skip, takeS_skip, takeS_blank]
    simp [takeS, skipB, blank]

/-- In brackets. -/
theorem an_brackets {f : Fm} (hk : bindI f.kind < 3) (h : AT f) : AN f := fun rest hs => by
  have e0 : pr 0 f = bareS f := by
    rw [pr_bare]; (have : (0 : Int) ≤ bindI f.kind := by unfold bindI; split <;> (try split) <;> (try split) <;> decide); simp [brk, this]
  have e : pr 3 f ++ rest = 40 :: (pr 0 f ++ (41 :: rest)) := by
    rw [pr_bare, e0]; (have : ¬ (3 ≤ bindI f.kind) := by omega); simp [brk, this]
  rw [e]; have t := h (41 :: rest) (stop_one _ _ rfl) (takeS_head rfl rfl) (takeS_head rfl rfl) (takeS_head rfl rfl); (have a := ev_not4 (l := 40 :: (pr 0 f ++ (41 :: rest))) (r := pr 0 f ++ (41 :: rest)) (takeS_head rfl rfl) (takeS_head rfl rfl) (takeS_head rfl rfl) (by simp [takeS, skipB, blank]) t)
  have hh : (Res.ok f (skipB (41 :: rest))).shut = .ok f rest := by
    simp [Res.shut, skipB, blank, takeS]
  rwa [hh] at a

theorem an_name {n : ByteArray} (hn : isNm n.data.toList = true) : AN (.mk 1 n []) := fun rest hs => by
  (have e : pr 3 (.mk 1 n []) = n.data.toList := by rw [pr_bare]; rfl); rw [e]; (have hl : (letters n.data.toList).length = n.data.toList.length := by simp [isNm] at hn; simpa using hn.2); have hl := letters_all _ hl; have hap := letters_append _ rest hl; rw [show letters rest = [] from hs, List.append_nil] at hap
  obtain ⟨c, l, hc⟩ : ∃ c l, n.data.toList = c :: l := by
    cases h : n.data.toList with
    | nil => rw [h] at hn; simp [isNm] at hn
    | cons c l => exact ⟨c, l, rfl⟩
  have hlow : lower c = true := by
    rw [hc, letters] at hl
    split at hl
    · assumption
    · cases hl
  have hb := lower_blank hlow
  have tk : ∀ d r, lower d = false → takeS (d :: r) (n.data.toList ++ rest) = none := fun d r hd => by
    rw [hc, List.cons_append]; exact takeS_head hb (lower_ne hlow hd)
  (have hsk : skipB (n.data.toList ++ rest) = n.data.toList ++ rest := by rw [hc, List.cons_append, skipB, if_neg (by rw [hb]; decide)])
  have hm : mName (n.data.toList ++ rest) = .ok (.mk 1 n []) rest := by
    simp only [mName, hsk, hap, hn, if_true, nmF]
    simp
  have := ev_not7 (l := n.data.toList ++ rest) (tk _ _ rfl) (tk _ _ rfl) (tk _ _ rfl) (tk _ _ rfl) (tk _ _ rfl) (tk _ _ rfl)
  rwa [hm] at this
theorem an_true : AN (.mk 2 e0 []) := fun rest _ =>
  ev_not5 (l := 49 :: rest) (takeS_head rfl rfl) (takeS_head rfl rfl) (takeS_head rfl rfl) (takeS_head rfl rfl) (by simp [takeS, skipB, blank])
theorem an_false : AN (.mk 3 e0 []) := fun rest _ =>
  ev_not6 (l := 48 :: rest) (takeS_head rfl rfl) (takeS_head rfl rfl) (takeS_head rfl rfl) (takeS_head rfl rfl) (takeS_head rfl rfl) (by simp [takeS, skipB, blank])
theorem an_un {k : Int} {g : Fm} (hk : k = 4 ∨ k = 8 ∨ k = 9) (h : AN g) : AN (.mk k e0 [g]) := fun rest hs => by
  have hg := h rest hs
  rcases hk with rfl | rfl | rfl
  · have e : pr 3 (.mk 4 e0 [g]) ++ rest = 126 :: (pr 3 g ++ rest) := by rw [pr_bare]; rfl
    (rw [e]; exact ev_not1 (x := .ok g rest) (by simp [takeS, skipB, blank]) hg)
  · have e : pr 3 (.mk 8 e0 [g]) ++ rest = 91 :: 93 :: (pr 3 g ++ rest) := by rw [pr_bare]; rfl
    (rw [e]; exact ev_not2 (x := .ok g rest) (takeS_head rfl rfl) (by simp [takeS, skipB, blank]) hg)
  · have e : pr 3 (.mk 9 e0 [g]) ++ rest = 60 :: 62 :: (pr 3 g ++ rest) := by rw [pr_bare]; rfl
    (rw [e]; exact ev_not3 (x := .ok g rest) (takeS_head rfl rfl) (takeS_head rfl rfl) (by simp [takeS, skipB, blank]) hg)

theorem all_of_an {f : Fm} (hk : bindI f.kind = 3) (h : AN f) : AN f ∧ AA f ∧ AO f ∧ AT f := by
  (have a := aa_of_an (bind_pr (by omega)) h); (have o := ao_of_aa (bind_pr (by omega)) a); (exact ⟨h, a, o, at_of_ao (bind_pr (by omega)) o⟩)

/-- What is written is read as it was. -/
theorem back_all : ∀ (m : Nat) (f : Fm), f.size ≤ m → Fine f → AN f ∧ AA f ∧ AO f ∧ AT f
  | 0, .mk k n ks, h, _ => by rw [Fm.size] at h; omega
  | m + 1, f, h, hf => by
    rcases hf.forms with ⟨n, rfl, hn⟩ | rfl | rfl | ⟨k, g, hk, rfl, hg⟩ | ⟨k, g, g', hk, rfl, hg, hg'⟩
    · exact all_of_an rfl (an_name hn)
    · exact all_of_an rfl an_true
    · exact all_of_an rfl an_false
    · rw [size_one] at h
      (obtain ⟨n1, -⟩ := back_all m g (by omega) hg); have hn := an_un hk n1
      rcases hk with rfl | rfl | rfl
      · exact all_of_an rfl hn
      · exact all_of_an rfl hn
      · exact all_of_an rfl hn
    · rw [size_two] at h
      (obtain ⟨n1, a1, o1, t1⟩ := back_all m g (by omega) hg); (obtain ⟨n2, a2, o2, t2⟩ := back_all m g' (by omega) hg')
      rcases hk with rfl | rfl | rfl
      · have a := aa_five a1 n2
        (have o := ao_of_aa (bind_pr (by simp [Fm.kind, bindI])) a); (have t := at_of_ao (bind_pr (by simp [Fm.kind, bindI])) o); (exact ⟨an_brackets (by simp [Fm.kind, bindI]) t, a, o, t⟩)
      · have o := ao_six o1 a2
        (have t := at_of_ao (bind_pr (by simp [Fm.kind, bindI])) o); (have n := an_brackets (by simp [Fm.kind, bindI]) t); (exact ⟨n, aa_of_an (bind_pr (by simp [Fm.kind, bindI])) n, o, t⟩)
      · have t := at_seven o1 t2
        (have n := an_brackets (by simp [Fm.kind, bindI]) t); (have a := aa_of_an (bind_pr (by simp [Fm.kind, bindI])) n); (exact ⟨n, a, ao_of_aa (bind_pr (by simp [Fm.kind, bindI])) a, t⟩)

theorem read_back {f : Fm} (hf : Fine f) : Ev (mThen · (pr 0 f)) (.ok f []) := by
  have := (back_all f.size f (Nat.le_refl _) hf).2.2.2 [] rfl rfl rfl rfl; rw [List.append_nil] at this; exact this
end Go.Proofs.Ytfhbpfgbnfcdaaa
/- The plain mathematics of layer 1, six: what is read is as it should be. -/
namespace Go.Proofs.Ytfhbpfgbnfcdaaa

theorem fine_leaf (k : Int) (h : k = 2 ∨ k = 3) : Fine (.mk k e0 []) :=
  Fine.mk _ _ _ (by rcases h with rfl | rfl <;> decide) (fun i f hf => by simp at hf)
theorem fine_one (k : Int) (f : Fm) (h : k = 4 ∨ k = 8 ∨ k = 9) (hf : Fine f) : Fine (.mk k e0 [f]) :=
  Fine.mk _ _ _ (by rcases h with rfl | rfl | rfl <;> (show nodeF _ e0 1 = none; decide)) (fun i g hg => by
    cases i with
    | zero => simp at hg; subst hg; exact hf
    | succ i => simp at hg)
theorem fine_two (k : Int) (f g : Fm) (h : k = 5 ∨ k = 6 ∨ k = 7) (hf : Fine f) (hg : Fine g) : Fine (.mk k e0 [f, g]) :=
  Fine.mk _ _ _ (by rcases h with rfl | rfl | rfl <;> (show nodeF _ e0 2 = none; decide)) (fun i x hx => by
    match i, hx with
    | 0, hx => simp at hx; subst hx; exact hf
    | 1, hx => simp at hx; subst hx; exact hg
    | i + 2, hx => simp at hx)
theorem fine_name {l : List UInt8} (h : isNm l = true) : Fine (nmF l) :=
  Fine.mk _ _ _ (by
    (have : nodeF 1 ⟨l.toArray⟩ 0 = none := by simp [nodeF, kindB, kidsN, nameB, h])
    exact this) (fun i f hf => by simp at hf)

def Res.fine : Res → Prop
  | .ok f _ => Fine f
  | .bad _ => True

theorem fine_mName (l : List UInt8) : (mName l).fine := by
  simp only [mName]
  split
  · rename_i h; exact fine_name h
  · trivial
theorem fine_un {k : Int} (h : k = 4 ∨ k = 8 ∨ k = 9) (x : Res) (hx : x.fine) : (x.un k).fine := by
  cases x with
  | ok f r => exact fine_one k f h hx
  | bad r => trivial
theorem fine_shut (x : Res) (hx : x.fine) : x.shut.fine := by
  cases x with
  | ok f r =>
    simp only [Res.shut]
    split
    · exact hx
    · trivial
  | bad r => trivial

theorem fine_fuel : ∀ k, (∀ l x, mNot k l = some x → x.fine) ∧ (∀ l x, mAnd k l = some x → x.fine) ∧ (∀ g l x, Fine g → mAnds k g l = some x → x.fine) ∧ (∀ l x, mOr k l = some x → x.fine) ∧ (∀ g l x, Fine g → mOrs k g l = some x → x.fine) ∧ (∀ l x, mThen k l = some x → x.fine)
  | 0 => by
    refine ⟨?_, ?_, ?_, ?_, ?_, ?_⟩
    · intro l x h; rw [mNot] at h; cases h
    · intro l x h; rw [mAnd] at h; cases h
    · intro g l x _ h; rw [mAnds] at h; cases h
    · intro l x h; rw [mOr] at h; cases h
    · intro g l x _ h; rw [mOrs] at h; cases h
    · intro l x h; rw [mThen] at h; cases h
  | k + 1 => by
    obtain ⟨hN, hA, hAs, hO, hOs, hT⟩ := fine_fuel k; refine ⟨?_, ?_, ?_, ?_, ?_, ?_⟩
    · intro l x h
      rw [mNot] at h
      split at h
      · obtain ⟨y, hy, rfl⟩ := Option.map_eq_some_iff.1 h
        (exact fine_un (by simp) _ (hN _ _ hy))
      · split at h
        · obtain ⟨y, hy, rfl⟩ := Option.map_eq_some_iff.1 h
          (exact fine_un (by simp) _ (hN _ _ hy))
        · split at h
          · obtain ⟨y, hy, rfl⟩ := Option.map_eq_some_iff.1 h
            (exact fine_un (by simp) _ (hN _ _ hy))
          · split at h
            · obtain ⟨y, hy, rfl⟩ := Option.map_eq_some_iff.1 h
              exact fine_shut _ (hT _ _ hy)
            · split at h
              · cases h; exact fine_leaf 2 (by simp)
              · split at h
                · cases h; exact fine_leaf 3 (by simp)
                · cases h; exact fine_mName l
    · intro l x h
      rw [mAnd] at h
      split at h
      · cases h
      · cases h; trivial
      · rename_i f r hf; exact hAs f r x (hN _ _ hf) h
    · intro g l x hg h
      rw [mAnds] at h
      split at h
      · cases h; exact hg
      · split at h
        · cases h
        · cases h; trivial
        · rename_i f r hf; exact hAs _ r x (fine_two 5 g f (by simp) hg (hN _ _ hf)) h
    · intro l x h
      rw [mOr] at h
      split at h
      · cases h
      · cases h; trivial
      · rename_i f r hf; exact hOs f r x (hA _ _ hf) h
    · intro g l x hg h
      rw [mOrs] at h
      split at h
      · cases h; exact hg
      · split at h
        · cases h
        · cases h; trivial
        · rename_i f r hf; exact hOs _ r x (fine_two 6 g f (by simp) hg (hA _ _ hf)) h
    · intro l x h
      rw [mThen] at h
      split at h
      · cases h
      · cases h; trivial
      · rename_i f r hf
        split at h
        · cases h; exact hO _ (.ok f r) hf
        · split at h
          · cases h
          · cases h; trivial
          · rename_i g r2 hg; cases h; exact fine_two 7 f g (by simp) (hO _ (.ok f r) hf) (hT _ (.ok g r2) hg)

theorem ev_fine {l : List UInt8} {f : Fm} {r : List UInt8} (h : Ev (mThen · l) (.ok f r)) : Fine f := by
  obtain ⟨N, hN⟩ := h; exact (fine_fuel N).2.2.2.2.2 l (.ok f r) (hN N (Nat.le_refl _))

mutual
theorem chk_fine : ∀ (f : Fm) (s : Nat), Fine f → s + f.size ≤ 200 → chk f s = .ok (s + f.size)
  | .mk k n ks, s, h, hs => by
    rw [Fm.size] at hs; (rw [chk, if_neg (by omega), h.node, Fm.size]); (have := chks_fine ks (s + 1) (h.kid) (by omega)); simp only [this]
    congr 1; omega
theorem chks_fine : ∀ (fs : List Fm) (s : Nat), (∀ (i : Nat) (f : Fm), fs[i]? = some f → Fine f) → s + Fm.sizes fs ≤ 200 → chks fs s = .ok (s + Fm.sizes fs)
  | [], s, _, _ => by rw [chks, Fm.sizes]; rfl
  | f :: fs, s, h, hs => by
    rw [Fm.sizes] at hs; (rw [chks, chk_fine f s (h 0 f rfl) (by omega), Fm.sizes]); (have := chks_fine fs (s + f.size) (fun i g hg => h (i + 1) g (by simpa using hg)) (by omega)); simp only [this]
    congr 1; omega
end
end Go.Proofs.Ytfhbpfgbnfcdaaa
