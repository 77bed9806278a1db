/- Texts of one proof, one behind the other: Math7, Math8, Math9, Math11. -/
import Derived.Test.YtfhbpfgbnfcdaaaB04
/- The plain mathematics of layer 1, seven: the yardstick's tokens. -/
namespace Go.Proofs.Ytfhbpfgbnfcdaaa

/-- The signs, in the yardstick's order. -/
def sg (k : Nat) : List UInt8 := [[45, 62], [91, 93], [60, 62], [126], [38], [124], [40], [41], [49], [48]].getD k []

/-- The first sign from number k on with which r begins. -/
def signAt : Nat → Nat → List UInt8 → Option Nat
  | 0, _, _ => none
  | m + 1, k, r => if (sg k).isPrefixOf r then some k else signAt m (k + 1) r

/-- A token: its text, and what is left from it on and behind it. -/
def tok (l : List UInt8) : List UInt8 × List UInt8 × List UInt8 :=
  let r := skipB l
  if r = [] then ([], r, r) else
  match signAt 10 0 r with
  | some k => (sg k, r, r.drop (sg k).length)
  | none => if isNm (letters r) then (letters r, r, r.drop (letters r).length) else ([63], r, r.drop 1)

theorem sg_len (k : Nat) : (sg k).length ≤ 2 := by
  rcases Nat.lt_or_ge k 10 with h | h
  · have : k = 0 ∨ k = 1 ∨ k = 2 ∨ k = 3 ∨ k = 4 ∨ k = 5 ∨ k = 6 ∨ k = 7 ∨ k = 8 ∨ k = 9 := by omega
    rcases this with e | e | e | e | e | e | e | e | e | e <;> subst e <;> decide
  · have : sg k = [] := by
      unfold sg; (rw [List.getD_eq_getElem?_getD, List.getElem?_eq_none (by simpa using h)]; rfl)
    rw [this]; simp

def allLow (l : List UInt8) : Bool := l.all lower
theorem letters_of_all : ∀ (l : List UInt8), allLow l = true → letters l = l
  | [], _ => rfl
  | c :: l, h => by
    simp only [allLow, List.all_cons, Bool.and_eq_true] at h; rw [letters, if_pos h.1, letters_of_all l h.2]
theorem all_of_letters : ∀ (l : List UInt8), (letters l).length = l.length → allLow l = true
  | [], _ => rfl
  | c :: l, h => by
    rw [letters] at h
    split at h
    · rename_i hc
      simp only [allLow, List.all_cons, Bool.and_eq_true]; (exact ⟨hc, all_of_letters l (by simpa using h)⟩)
    · simp at h
theorem isNm_all (l : List UInt8) : isNm l = (allLow l && decide (0 < l.length) && decide (l.length < 9)) := by
  unfold isNm
  rcases h : allLow l with _ | _
  · have : ¬ (letters l).length = l.length := fun e => by rw [all_of_letters l e] at h; cases h
    simp [this]
  · rw [letters_of_all l h]
    have e1 : (l ≠ []) ↔ 0 < l.length := List.length_pos_iff.symm; (have e2 : (l.length ≤ 8) ↔ l.length < 9 := by omega); rw [Bool.eq_iff_iff]; simp only [Bool.and_eq_true, decide_eq_true_eq, e1, e2, Bool.true_and, and_true]
end Go.Proofs.Ytfhbpfgbnfcdaaa
/- The plain mathematics of layer 1, eight: reading by climbing. -/
namespace Go.Proofs.Ytfhbpfgbnfcdaaa

/-! ### What hangs on the blanks ahead alone -/
theorem takeS_congr {s l l' : List UInt8} (h : skipB l = skipB l') : takeS s l = takeS s l' := by unfold takeS; rw [h]
theorem mAnds_congr (k : Nat) (f : Fm) {l l' : List UInt8} (h : skipB l = skipB l') : mAnds k f l = mAnds k f l' := by
  cases k with
  | zero => rw [mAnds, mAnds]
  | succ k => simp only [mAnds, takeS_congr h, h]
theorem mOrs_congr (k : Nat) (f : Fm) {l l' : List UInt8} (h : skipB l = skipB l') : mOrs k f l = mOrs k f l' := by
  cases k with
  | zero => rw [mOrs, mOrs]
  | succ k => simp only [mOrs, takeS_congr h, h]
theorem ev_congr {K K' : Nat → Option Res} {x : Res} (h : ∀ k, K k = K' k) (hx : Ev K x) : Ev K' x := by
  obtain ⟨N, hN⟩ := hx; (exact ⟨N, fun k hk => by rw [← h]; exact hN k hk⟩)
theorem evA {f : Fm} {l l' : List UInt8} {x : Res} (h : skipB l = skipB l') (hx : Ev (mAnds · f l) x) : Ev (mAnds · f l') x := ev_congr (fun k => mAnds_congr k f h) hx
theorem evO {f : Fm} {l l' : List UInt8} {x : Res} (h : skipB l = skipB l') (hx : Ev (mOrs · f l) x) : Ev (mOrs · f l') x := ev_congr (fun k => mOrs_congr k f h) hx

/-! ### What stands behind a reading -/
def Behind (a o t : Bool) : Res → Prop
  | .ok _ r => skipB r = r ∧ (a = true → takeS [38] r = none) ∧ (o = true → takeS [124] r = none) ∧ (t = true → takeS [45, 62] r = none)
  | .bad _ => True

theorem behind_fuel : ∀ k, (∀ l x, mAnd k l = some x → Behind true false false x) ∧ (∀ g l x, mAnds k g l = some x → Behind true false false x) ∧ (∀ l x, mOr k l = some x → Behind true true false x) ∧ (∀ g l x, takeS [38] l = none → mOrs k g l = some x → Behind true true false x) ∧ (∀ l x, mThen k l = some x → Behind true true true x)
  | 0 => by
    refine ⟨?_, ?_, ?_, ?_, ?_⟩
    · intro l x h; rw [mAnd] at h; cases h
    · intro g l x h; rw [mAnds] at h; cases h
    · intro l x h; rw [mOr] at h; cases h
    · intro g l x _ h; rw [mOrs] at h; cases h
    · intro l x h; rw [mThen] at h; cases h
  | k + 1 => by
    obtain ⟨hA, hAs, hO, hOs, hT⟩ := behind_fuel k; refine ⟨?_, ?_, ?_, ?_, ?_⟩
    · intro l x h
      rw [mAnd] at h
      split at h
      · cases h
      · cases h; trivial
      · exact hAs _ _ x h
    · intro g l x h
      rw [mAnds] at h
      split at h
      · rename_i ht
        cases h
        (exact ⟨skipB_idem l, fun _ => by rw [takeS_skip]; exact ht, (fun h => nomatch h), (fun h => nomatch h)⟩)
      · split at h
        · cases h
        · cases h; trivial
        · exact hAs _ _ x h
    · intro l x h
      rw [mOr] at h
      split at h
      · cases h
      · cases h; trivial
      · rename_i f r hf
        exact hOs f r x ((hA _ (.ok f r) hf).2.1 rfl) h
    · intro g l x ha h
      rw [mOrs] at h
      split at h
      · rename_i ht
        cases h
        (exact ⟨skipB_idem l, fun _ => by rw [takeS_skip]; exact ha, fun _ => by rw [takeS_skip]; exact ht, (fun h => nomatch h)⟩)
      · split at h
        · cases h
        · cases h; trivial
        · rename_i f r hf
          exact hOs _ r x ((hA _ (.ok f r) hf).2.1 rfl) h
    · intro l x h
      rw [mThen] at h
      split at h
      · cases h
      · cases h; trivial
      · rename_i f r hf
        have hb := hO _ (.ok f r) hf
        split at h
        · rename_i ht
          cases h
          (exact ⟨skipB_idem r, fun _ => by rw [takeS_skip]; exact hb.2.1 rfl, fun _ => by rw [takeS_skip]; exact hb.2.2.1 rfl, fun _ => by rw [takeS_skip]; exact ht⟩)
        · split at h
          · cases h
          · cases h; trivial
          · rename_i g r2 hg
            cases h
            exact hT _ (.ok g r2) hg

theorem behind_and {l : List UInt8} {x : Res} (h : Ev (mAnd · l) x) : Behind true false false x := by obtain ⟨N, hN⟩ := h; exact (behind_fuel N).1 l x (hN N (Nat.le_refl _))
theorem behind_then {l : List UInt8} {x : Res} (h : Ev (mThen · l) x) : Behind true true true x := by obtain ⟨N, hN⟩ := h; exact (behind_fuel N).2.2.2.2 l x (hN N (Nat.le_refl _))

/-! ### What is still to come at a level -/
def thenTail (f : Fm) (r : List UInt8) (x : Res) : Prop :=
  (takeS [45, 62] r = none ∧ x = .ok f (skipB r)) ∨ (∃ r1 g r2, takeS [45, 62] r = some r1 ∧ Ev (mThen · r1) (.ok g r2) ∧ x = .ok (.mk 7 e0 [f, g]) r2) ∨ (∃ r1 r2, takeS [45, 62] r = some r1 ∧ Ev (mThen · r1) (.bad r2) ∧ x = .bad r2)

def LS2 (f : Fm) (l : List UInt8) (x : Res) : Prop := (∃ f' r', Ev (mAnds · f l) (.ok f' r') ∧ Ev (mOrs · f' r') x) ∨ (∃ r, Ev (mAnds · f l) (.bad r) ∧ x = .bad r)
def LS1 (f : Fm) (l : List UInt8) (x : Res) : Prop := (∃ f' r', LS2 f l (.ok f' r') ∧ thenTail f' r' x) ∨ (∃ r, LS2 f l (.bad r) ∧ x = .bad r)

def LS : Nat → Fm → List UInt8 → Res → Prop
  | 1, f, l, x => LS1 f l x
  | 2, f, l, x => LS2 f l x
  | 3, f, l, x => Ev (mAnds · f l) x
  | _, f, l, x => x = .ok f (skipB l)

def tgt : Nat → Nat → List UInt8 → Option Res
  | 1 => mThen
  | 2 => mOr
  | 3 => mAnd
  | _ => mNot

def eqv : Res → Res → Prop
  | .ok f r, .ok g s => f = g ∧ skipB r = skipB s
  | .bad r, .bad s => r = s
  | _, _ => False
theorem eqv_refl (x : Res) : eqv x x := by cases x <;> simp [eqv]

theorem ls_start {least : Nat} (h1 : 1 ≤ least) (h4 : least ≤ 4) {l r l1 : List UInt8} {f : Fm} (hn : Ev (mNot · l) (.ok f r)) (hs : skipB l1 = skipB r) {x : Res} (hx : LS least f l1 x) : ∃ y, Ev (tgt least · l) y ∧ eqv y x := by
  (have : least = 1 ∨ least = 2 ∨ least = 3 ∨ least = 4 := by omega)
  rcases this with rfl | rfl | rfl | rfl
  · refine ⟨x, ?_, eqv_refl x⟩
    have e2 : ∀ {y}, LS2 f l1 y → Ev (mOr · l) y := fun {y} hy => by
      rcases hy with ⟨f', r', h, h'⟩ | ⟨r', h, rfl⟩
      · exact ev_or_ok (ev_and_ok hn (evA hs h)) h'
      · exact ev_or_bad (ev_and_ok hn (evA hs h))
    rcases hx with ⟨f', r', h2, ht⟩ | ⟨r', h2, rfl⟩
    · rcases ht with ⟨ht, rfl⟩ | ⟨r1, g, r2, ht, hy, rfl⟩ | ⟨r1, r2, ht, hy, rfl⟩
      · exact ev_then_no (e2 h2) ht
      · exact ev_then_ok (e2 h2) ht hy
      · exact ev_then_bad2 (e2 h2) ht hy
    · exact ev_then_bad (e2 h2)
  · refine ⟨x, ?_, eqv_refl x⟩
    rcases hx with ⟨f', r', h, h'⟩ | ⟨r', h, rfl⟩
    · exact ev_or_ok (ev_and_ok hn (evA hs h)) h'
    · exact ev_or_bad (ev_and_ok hn (evA hs h))
  · exact ⟨x, ev_and_ok hn (evA hs hx), eqv_refl x⟩
  · have hx : x = .ok f (skipB l1) := hx
    subst hx; (exact ⟨.ok f r, hn, rfl, by rw [skipB_idem]; exact hs.symm⟩)

theorem ls_bad {least : Nat} (h1 : 1 ≤ least) (h4 : least ≤ 4) {l r : List UInt8} (hn : Ev (mNot · l) (.bad r)) : Ev (tgt least · l) (.bad r) := by
  (have : least = 1 ∨ least = 2 ∨ least = 3 ∨ least = 4 := by omega)
  rcases this with rfl | rfl | rfl | rfl
  · exact ev_then_bad (ev_or_bad (ev_and_bad hn))
  · exact ev_or_bad (ev_and_bad hn)
  · exact ev_and_bad hn
  · exact hn

/-- The sign for 'and'. -/
theorem ls_and {least : Nat} (h1 : 1 ≤ least) (h3 : least ≤ 3) {f g : Fm} {l q r l2 : List UInt8} (ht : takeS [38] l = some q) (hn : Ev (mNot · q) (.ok g r)) (hs : skipB l2 = skipB r) {x : Res} (hx : LS least (.mk 5 e0 [f, g]) l2 x) : LS least f l x := by
  (have e3 : ∀ {y}, Ev (mAnds · (.mk 5 e0 [f, g]) l2) y → Ev (mAnds · f l) y := fun {y} hy => ev_ands_ok ht hn (evA hs hy))
  have e2 : ∀ {y}, LS2 (.mk 5 e0 [f, g]) l2 y → LS2 f l y := fun {y} hy => by
    rcases hy with ⟨f', r', h, h'⟩ | ⟨r', h, rfl⟩
    · exact Or.inl ⟨f', r', e3 h, h'⟩
    · exact Or.inr ⟨r', e3 h, rfl⟩
  (have : least = 1 ∨ least = 2 ∨ least = 3 := by omega)
  rcases this with rfl | rfl | rfl
  · rcases hx with ⟨f', r', h2, ht⟩ | ⟨r', h2, rfl⟩
    · exact Or.inl ⟨f', r', e2 h2, ht⟩
    · exact Or.inr ⟨r', e2 h2, rfl⟩
  · exact e2 hx
  · exact e3 hx
theorem ls_and_bad {least : Nat} (h1 : 1 ≤ least) (h3 : least ≤ 3) {f : Fm} {l q r : List UInt8} (ht : takeS [38] l = some q) (hn : Ev (mNot · q) (.bad r)) : LS least f l (.bad r) := by
  have e3 : Ev (mAnds · f l) (.bad r) := ev_ands_bad ht hn; have e2 : LS2 f l (.bad r) := Or.inr ⟨r, e3, rfl⟩; (have : least = 1 ∨ least = 2 ∨ least = 3 := by omega)
  rcases this with rfl | rfl | rfl
  · exact Or.inr ⟨r, e2, rfl⟩
  · exact e2
  · exact e3

/-- The sign for 'or'. -/
theorem ls_or {least : Nat} (h1 : 1 ≤ least) (h2 : least ≤ 2) {f g : Fm} {l q r l2 : List UInt8} (ha : takeS [38] l = none) (ht : takeS [124] l = some q) (hn : Ev (mAnd · q) (.ok g r)) (hs : skipB l2 = skipB r) {x : Res} (hx : LS least (.mk 6 e0 [f, g]) l2 x) : LS least f l x := by
  have hb := behind_and hn; (have hl2 : takeS [38] l2 = none := by rw [takeS_congr hs]; exact hb.2.1 rfl)
  have e2 : ∀ {y}, LS2 (.mk 6 e0 [f, g]) l2 y → LS2 f l y := fun {y} hy => by
    rcases hy with ⟨f', r', h, h'⟩ | ⟨r', h, rfl⟩
    · obtain ⟨rfl, rfl⟩ := Res.ok.inj (h.unique (ev_ands_no hl2))
      refine Or.inl ⟨f, skipB l, ev_ands_no ha, ?_⟩; (exact ev_ors_ok (by rw [takeS_skip]; exact ht) hn (evO (by rw [skipB_idem]; exact hs) h'))
    · cases h.unique (ev_ands_no hl2)
  (have : least = 1 ∨ least = 2 := by omega)
  rcases this with rfl | rfl
  · rcases hx with ⟨f', r', h2, ht⟩ | ⟨r', h2, rfl⟩
    · exact Or.inl ⟨f', r', e2 h2, ht⟩
    · exact Or.inr ⟨r', e2 h2, rfl⟩
  · exact e2 hx
theorem ls_or_bad {least : Nat} (h1 : 1 ≤ least) (h2 : least ≤ 2) {f : Fm} {l q r : List UInt8} (ha : takeS [38] l = none) (ht : takeS [124] l = some q) (hn : Ev (mAnd · q) (.bad r)) : LS least f l (.bad r) := by
  (have e2 : LS2 f l (.bad r) := Or.inl ⟨f, skipB l, ev_ands_no ha, ev_ors_bad (by rw [takeS_skip]; exact ht) hn⟩); (have : least = 1 ∨ least = 2 := by omega)
  rcases this with rfl | rfl
  · exact Or.inr ⟨r, e2, rfl⟩
  · exact e2

/-- The sign for 'then'. -/
theorem ls_two_no {f : Fm} {l : List UInt8} (ha : takeS [38] l = none) (ho : takeS [124] l = none) : LS2 f l (.ok f (skipB l)) := by
  (have := ev_ors_no (f := f) (l := skipB l) (by rw [takeS_skip]; exact ho)); rw [skipB_idem] at this; exact Or.inl ⟨f, skipB l, ev_ands_no ha, this⟩
theorem ls_then {f g : Fm} {l q r l2 : List UInt8} (ha : takeS [38] l = none) (ho : takeS [124] l = none) (ht : takeS [45, 62] l = some q) (hn : Ev (mThen · q) (.ok g r)) (hs : skipB l2 = skipB r) {x : Res} (hx : LS 1 (.mk 7 e0 [f, g]) l2 x) : LS 1 f l x := by
  have hb := behind_then hn; (have h1 : takeS [38] l2 = none := by rw [takeS_congr hs]; exact hb.2.1 rfl); (have h2 : takeS [124] l2 = none := by rw [takeS_congr hs]; exact hb.2.2.1 rfl); (have h3 : takeS [45, 62] l2 = none := by rw [takeS_congr hs]; exact hb.2.2.2 rfl); have hr : skipB l2 = r := hs.trans hb.1
  have key : x = .ok (.mk 7 e0 [f, g]) r := by
    have u2 : ∀ {y}, LS2 (.mk 7 e0 [f, g]) l2 y → y = .ok (.mk 7 e0 [f, g]) r := fun {y} hy => by
      rcases hy with ⟨f', r', h, h'⟩ | ⟨r', h, rfl⟩
      · obtain ⟨rfl, rfl⟩ := Res.ok.inj (h.unique (ev_ands_no h1))
        (have := h'.unique (ev_ors_no (by rw [takeS_skip]; exact h2))); rw [this, skipB_idem, hr]
      · cases h.unique (ev_ands_no h1)
    rcases hx with ⟨f', r', hh, ht⟩ | ⟨r', hh, rfl⟩
    · obtain ⟨rfl, rfl⟩ := Res.ok.inj (u2 hh)
      rcases ht with ⟨_, rfl⟩ | ⟨r1, g', r2, hc, _⟩ | ⟨r1, r2, hc, _⟩
      · rw [hb.1]
      · rw [← hr, takeS_skip, h3] at hc; cases hc
      · rw [← hr, takeS_skip, h3] at hc; cases hc
    · cases u2 hh
  subst key; (exact Or.inl ⟨f, skipB l, ls_two_no ha ho, Or.inr (Or.inl ⟨q, g, r, by rw [takeS_skip]; exact ht, hn, rfl⟩)⟩)
theorem ls_then_bad {f : Fm} {l q r : List UInt8} (ha : takeS [38] l = none) (ho : takeS [124] l = none) (ht : takeS [45, 62] l = some q) (hn : Ev (mThen · q) (.bad r)) : LS 1 f l (.bad r) :=
  Or.inl ⟨f, skipB l, ls_two_no ha ho, Or.inr (Or.inr ⟨q, r, by rw [takeS_skip]; exact ht, hn, rfl⟩)⟩

/-- Nothing more at this level. -/
theorem ls_end {least : Nat} (h1 : 1 ≤ least) (h4 : least ≤ 4) {f : Fm} {l : List UInt8} (ha : least ≤ 3 → takeS [38] l = none) (ho : least ≤ 2 → takeS [124] l = none) (ht : least ≤ 1 → takeS [45, 62] l = none) : LS least f l (.ok f (skipB l)) := by
  (have : least = 1 ∨ least = 2 ∨ least = 3 ∨ least = 4 := by omega)
  rcases this with rfl | rfl | rfl | rfl
  · exact Or.inl ⟨f, skipB l, ls_two_no (ha (by omega)) (ho (by omega)), Or.inl ⟨by rw [takeS_skip]; exact ht (by omega), by rw [skipB_idem]⟩⟩
  · exact ls_two_no (ha (by omega)) (ho (by omega))
  · exact ev_ands_no (ha (by omega))
  · rfl

/-! ### Tokens and signs -/
theorem tok_at (l : List UInt8) : (tok l).2.1 = skipB l := by
  unfold tok; simp only
  split
  · rfl
  · split
    · rfl
    · split <;> rfl

theorem tok_sign {k : Nat} (hk : k < 10) {l q : List UInt8} (h : takeS (sg k) l = some q) : tok l = (sg k, skipB l, q) := by
  unfold takeS at h
  split at h
  · rename_i hp
    have hq := Option.some.inj h
    have hs : signAt 10 0 (skipB l) = some k := by
      obtain ⟨r, hr⟩ := List.isPrefixOf_iff_prefix.1 hp; rw [← hr]; (have : k = 0 ∨ k = 1 ∨ k = 2 ∨ k = 3 ∨ k = 4 ∨ k = 5 ∨ k = 6 ∨ k = 7 ∨ k = 8 ∨ k = 9 := by omega)
      rcases this with e | e | e | e | e | e | e | e | e | e <;> subst e <;> simp [signAt, sg]
    have hne : skipB l ≠ [] := by
      intro e; rw [e] at hs; simp [signAt, sg] at hs
    simp only [tok, hne, if_false, hs, hq]
  · cases h

end Go.Proofs.Ytfhbpfgbnfcdaaa
/- The plain mathematics of layer 1, nine: a formula's nodes, at most so many. -/
namespace Go.Proofs.Ytfhbpfgbnfcdaaa

mutual
def walkL : Fm → Nat → List Fm
  | .mk k n ks, most => .mk k n ks :: walkK ks most 1
def walkK : List Fm → Nat → Nat → List Fm
  | [], _, _ => []
  | f :: fs, most, c => if c ≤ most then walkL f (most - c) ++ walkK fs most (c + (walkL f (most - c)).length) else []
end

mutual
theorem walkL_le : ∀ (f : Fm) (most : Nat), (walkL f most).length ≤ most + 1
  | .mk k n ks, most => by
    rw [walkL, List.length_cons]; (have := walkK_le ks most 1 (by omega)); omega
theorem walkK_le : ∀ (fs : List Fm) (most c : Nat), c ≤ most + 1 → c + (walkK fs most c).length ≤ most + 1
  | [], most, c, h => by rw [walkK]; simpa using h
  | f :: fs, most, c, h => by
    rw [walkK]
    split
    · rename_i hc
      have a := walkL_le f (most - c); (have b := walkK_le fs most (c + (walkL f (most - c)).length) (by omega)); rw [List.length_append]; omega
    · simpa using h
end

/-! All nodes, each ahead of its kids. -/
mutual
def allN : Fm → List Fm
  | .mk k n ks => .mk k n ks :: allNs ks
def allNs : List Fm → List Fm
  | [] => []
  | f :: fs => allN f ++ allNs fs
end
mutual
theorem allN_len : ∀ f : Fm, (allN f).length = f.size
  | .mk k n ks => by rw [allN, List.length_cons, allNs_len ks, Fm.size]
theorem allNs_len : ∀ fs : List Fm, (allNs fs).length = Fm.sizes fs
  | [] => by rw [allNs, Fm.sizes]; rfl
  | f :: fs => by rw [allNs, List.length_append, allN_len f, allNs_len fs, Fm.sizes]
end

theorem take_app {α : Type} (a b : List α) (n : Nat) : (a ++ b).take n = a.take n ++ b.take (n - a.length) := List.take_append
mutual
theorem walkL_take : ∀ (f : Fm) (most : Nat), walkL f most = (allN f).take (most + 1)
  | .mk k n ks, most => by
    (rw [walkL, allN, List.take_succ_cons, walkK_take ks most 1 (by omega)]); rfl
theorem walkK_take : ∀ (fs : List Fm) (most c : Nat), c ≤ most + 1 → walkK fs most c = (allNs fs).take (most + 1 - c)
  | [], most, c, _ => by rw [walkK, allNs]; simp
  | f :: fs, most, c, h => by
    rw [walkK, allNs]
    split
    · rename_i hc
      (have e : most - c + 1 = most + 1 - c := by omega); have hl := walkL_le f (most - c); have hL := walkL_take f (most - c); rw [e] at hL; (rw [walkK_take fs most (c + (walkL f (most - c)).length) (by omega), take_app, ← hL])
      congr 1
      by_cases hlt : (allN f).length ≤ most + 1 - c
      · have : (walkL f (most - c)).length = (allN f).length := by rw [hL, List.length_take]; omega
        rw [this]; congr 1; omega
      · have : (walkL f (most - c)).length = most + 1 - c := by rw [hL, List.length_take]; omega
        (rw [this, show most + 1 - (c + (most + 1 - c)) = 0 by omega, show most + 1 - c - (allN f).length = 0 by omega])
    · have : most + 1 - c = 0 := by omega
      rw [this]; simp
end

theorem walk_len (f : Fm) (most : Nat) : (walkL f most).length = min (most + 1) f.size := by
  rw [walkL_take, List.length_take, allN_len]
end Go.Proofs.Ytfhbpfgbnfcdaaa
/- The plain mathematics of layer 1, eleven: Check, node by node in a list. -/
namespace Go.Proofs.Ytfhbpfgbnfcdaaa

/-- The first fault of a list of nodes, from number s on. -/
def run : List Fm → Nat → Chk
  | [], s => .ok s
  | .mk k n ks :: fs, s => if s = 200 then .bad 2 0 else match nodeF k n ks.length with
    | some c => .bad c s
    | none => run fs (s + 1)

mutual
theorem run_all : ∀ (f : Fm) (rest : List Fm) (s : Nat), run (allN f ++ rest) s = match chk f s with | .bad c a => .bad c a | .ok s' => run rest s'
  | .mk k n ks, rest, s => by
    rw [allN, List.cons_append, run, chk]; by_cases h : s = 200
    · rw [if_pos h, if_pos h]
    · rw [if_neg h, if_neg h]
      cases nodeF k n ks.length with
      | some c => rfl
      | none => exact runs_all ks rest (s + 1)
theorem runs_all : ∀ (fs : List Fm) (rest : List Fm) (s : Nat), run (allNs fs ++ rest) s = match chks fs s with | .bad c a => .bad c a | .ok s' => run rest s'
  | [], rest, s => by rw [allNs, chks]; rfl
  | f :: fs, rest, s => by
    rw [allNs, List.append_assoc, run_all f _ s, chks]
    cases chk f s with
    | bad c a => rfl
    | ok s' => exact runs_all fs rest s'
end

theorem run_take : ∀ (l : List Fm) (m s : Nat), 201 ≤ m + s → s ≤ 200 → run (l.take m) s = run l s
  | [], m, s, _, _ => by simp
  | .mk k n ks :: l, m, s, h, hs => by
    cases m with
    | zero => omega
    | succ m =>
      rw [List.take_succ_cons, run, run]; by_cases h2 : s = 200
      · rw [if_pos h2, if_pos h2]
      · rw [if_neg h2, if_neg h2]
        cases nodeF k n ks.length with
        | some c => rfl
        | none => exact run_take l m (s + 1) (by omega) (by omega)

theorem run_walk (f : Fm) : run (walkL f 201) 0 = chk f 0 := by
  (rw [walkL_take, run_take _ _ _ (by omega) (by omega)]); have := run_all f [] 0; rw [List.append_nil] at this; rw [this]
  cases chk f 0 <;> rfl

theorem run_drop {l : List Fm} {i : Nat} {k : Int} {n : ByteArray} {ks : List Fm} (h : l[i]? = some (.mk k n ks)) (s : Nat) : run (l.drop i) s = if s = 200 then .bad 2 0 else match nodeF k n ks.length with
    | some c => .bad c s
    | none => run (l.drop (i + 1)) (s + 1) := by
  have hi : i < l.length := by
    rcases Nat.lt_or_ge i l.length with h' | h'
    · exact h'
    · rw [List.getElem?_eq_none h'] at h; cases h
  rw [List.drop_eq_getElem_cons hi]; rw [List.getElem?_eq_getElem hi] at h; rw [Option.some.inj h, run]
end Go.Proofs.Ytfhbpfgbnfcdaaa
