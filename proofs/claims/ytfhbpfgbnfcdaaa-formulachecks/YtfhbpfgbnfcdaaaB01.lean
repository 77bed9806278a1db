/- Texts of one proof, one behind the other: Math, Math2, Base. -/
import Derived.Test.YtfhbpfgbnfcdaaaChecked
import Derived.WalkKit
import Derived.WalkSpells
import Derived.WalkLawsBesides
import Derived.Deep.QuietTactic
import Derived.BigQuiet
/- The plain mathematics of layer 1: formulas as data, the reader and the writer as functions on lists of bytes. Nothing of the program's translation is named here. -/
namespace Go.Proofs.Ytfhbpfgbnfcdaaa

/-- A formula as data: kind, name, kids. -/
inductive Fm where
  | mk (kind : Int) (name : ByteArray) (kids : List Fm)

def Fm.kind : Fm → Int | .mk k _ _ => k
def Fm.name : Fm → ByteArray | .mk _ n _ => n
def Fm.kids : Fm → List Fm | .mk _ _ ks => ks

mutual
def Fm.size : Fm → Nat
  | .mk _ _ ks => Fm.sizes ks + 1
def Fm.sizes : List Fm → Nat
  | [] => 0
  | f :: fs => Fm.size f + Fm.sizes fs
end

/-! ### Reading -/

def blank (c : UInt8) : Bool := c == 32 || c == 10

def skipB : List UInt8 → List UInt8
  | [] => []
  | c :: l => if blank c then skipB l else c :: l

theorem skipB_length (l : List UInt8) : (skipB l).length ≤ l.length := by
  induction l with
  | nil => simp [skipB]
  | cons c l ih => simp only [skipB]; split <;> simp <;> omega

theorem skipB_idem (l : List UInt8) : skipB (skipB l) = skipB l := by
  induction l with
  | nil => rfl
  | cons c l ih =>
    simp only [skipB]
    split
    · exact ih
    · rename_i h; simp [skipB, h]

def takeS (s l : List UInt8) : Option (List UInt8) := if s.isPrefixOf (skipB l) then some ((skipB l).drop s.length) else none

def lower (c : UInt8) : Bool := decide (97 ≤ c.toNat) && decide (c.toNat ≤ 122)

def letters : List UInt8 → List UInt8
  | [] => []
  | c :: l => if lower c then c :: letters l else []

theorem letters_length (l : List UInt8) : (letters l).length ≤ l.length := by
  induction l with
  | nil => simp [letters]
  | cons c l ih => simp only [letters]; split <;> simp <;> omega

def isNm (l : List UInt8) : Bool := decide (l ≠ []) && decide (l.length ≤ 8) && decide ((letters l).length = l.length)

/-- What a reading answers: a formula and the rest, or what is left where it is wrong. -/
inductive Res where
  | ok (f : Fm) (rest : List UInt8)
  | bad (rest : List UInt8)

def nmF (l : List UInt8) : Fm := .mk 1 ⟨l.toArray⟩ []
def e0 : ByteArray := ⟨#[]⟩

def mName (l : List UInt8) : Res :=
  let r := skipB l
  let n := letters r
  if isNm n then .ok (nmF n) (r.drop n.length) else .bad r

def Res.un (k : Int) : Res → Res
  | .ok f r => .ok (.mk k e0 [f]) r
  | .bad r => .bad r

/-- Behind an opening bracket. -/
def Res.shut : Res → Res
  | .ok f r => match takeS [41] r with
    | some r1 => .ok f r1
    | none => .bad (skipB r)
  | .bad r => .bad r

mutual
def mNot : Nat → List UInt8 → Option Res
  | 0, _ => none
  | n + 1, l =>
    match takeS [126] l with
    | some r => (mNot n r).map (Res.un 4)
    | none =>
    match takeS [91, 93] l with
    | some r => (mNot n r).map (Res.un 8)
    | none =>
    match takeS [60, 62] l with
    | some r => (mNot n r).map (Res.un 9)
    | none =>
    match takeS [40] l with
    | some r => (mThen n r).map Res.shut
    | none =>
    match takeS [49] l with
    | some r => some (.ok (.mk 2 e0 []) r)
    | none =>
    match takeS [48] l with
    | some r => some (.ok (.mk 3 e0 []) r)
    | none => some (mName l)
def mAnd : Nat → List UInt8 → Option Res
  | 0, _ => none
  | n + 1, l =>
    match mNot n l with
    | none => none
    | some (.bad r) => some (.bad r)
    | some (.ok f r) => mAnds n f r
def mAnds : Nat → Fm → List UInt8 → Option Res
  | 0, _, _ => none
  | n + 1, f, l =>
    match takeS [38] l with
    | none => some (.ok f (skipB l))
    | some r =>
      match mNot n r with
      | none => none
      | some (.bad r1) => some (.bad r1)
      | some (.ok g r1) => mAnds n (.mk 5 e0 [f, g]) r1
def mOr : Nat → List UInt8 → Option Res
  | 0, _ => none
  | n + 1, l =>
    match mAnd n l with
    | none => none
    | some (.bad r) => some (.bad r)
    | some (.ok f r) => mOrs n f r
def mOrs : Nat → Fm → List UInt8 → Option Res
  | 0, _, _ => none
  | n + 1, f, l =>
    match takeS [124] l with
    | none => some (.ok f (skipB l))
    | some r =>
      match mAnd n r with
      | none => none
      | some (.bad r1) => some (.bad r1)
      | some (.ok g r1) => mOrs n (.mk 6 e0 [f, g]) r1
def mThen : Nat → List UInt8 → Option Res
  | 0, _ => none
  | n + 1, l =>
    match mOr n l with
    | none => none
    | some (.bad r) => some (.bad r)
    | some (.ok f r) =>
      match takeS [45, 62] r with
      | none => some (.ok f (skipB r))
      | some r1 =>
        match mThen n r1 with
        | none => none
        | some (.bad r2) => some (.bad r2)
        | some (.ok g r2) => some (.ok (.mk 7 e0 [f, g]) r2)
end
end Go.Proofs.Ytfhbpfgbnfcdaaa
/- The plain mathematics of layer 1, two: what the reader's functions answer at last. -/
namespace Go.Proofs.Ytfhbpfgbnfcdaaa

/-- What a function with fuel answers from some fuel on. -/
def Ev (K : Nat → Option Res) (r : Res) : Prop := ∃ N, ∀ k, N ≤ k → K k = some r

theorem Ev.unique {K : Nat → Option Res} {r s : Res} (h : Ev K r) (k : Ev K s) : r = s := by
  obtain ⟨N, hN⟩ := h; obtain ⟨M, hM⟩ := k; have a := hN (max N M) (Nat.le_max_left _ _); have b := hM (max N M) (Nat.le_max_right _ _); rw [a] at b; exact Option.some.inj b

theorem takeS_skip (s l : List UInt8) : takeS s (skipB l) = takeS s l := by unfold takeS; rw [skipB_idem]

theorem takeS_len {s l r : List UInt8} (h : takeS s l = some r) : r.length + s.length ≤ l.length := by
  unfold takeS at h
  split at h
  · rename_i hp
    have h1 := List.IsPrefix.length_le (List.isPrefixOf_iff_prefix.1 hp); have h2 := skipB_length l; have := Option.some.inj h; rw [← this, List.length_drop]; omega
  · cases h

theorem Ev.step {K K' : Nat → Option Res} {r x : Res} (h : Ev K r) (hs : ∀ k, K k = some r → K' (k + 1) = some x) : Ev K' x := by
  obtain ⟨N, hN⟩ := h; (refine ⟨N + 1, fun k hk => ?_⟩); (obtain ⟨k', rfl⟩ : ∃ k', k = k' + 1 := ⟨k - 1, by omega⟩); (exact hs k' (hN k' (by omega)))

theorem Ev.step2 {K K1 K' : Nat → Option Res} {r s x : Res} (h : Ev K r) (h1 : Ev K1 s) (hs : ∀ k, K k = some r → K1 k = some s → K' (k + 1) = some x) : Ev K' x := by
  obtain ⟨N, hN⟩ := h; obtain ⟨M, hM⟩ := h1; (refine ⟨max N M + 1, fun k hk => ?_⟩); (obtain ⟨k', rfl⟩ : ∃ k', k = k' + 1 := ⟨k - 1, by omega⟩); (exact hs k' (hN k' (by omega)) (hM k' (by omega)))

theorem Ev.now {K' : Nat → Option Res} {x : Res} (hs : ∀ k, K' (k + 1) = some x) : Ev K' x :=
  ⟨1, fun k hk => by obtain ⟨k', rfl⟩ : ∃ k', k = k' + 1 := ⟨k - 1, by omega⟩; exact hs k'⟩

theorem ev_not1 {l r : List UInt8} {x : Res} (t1 : takeS [126] l = some r) (h : Ev (mNot · r) x) : Ev (mNot · l) (x.un 4) :=
  h.step fun k hk => by simp only [mNot, t1, hk, Option.map]
theorem ev_not2 {l r : List UInt8} {x : Res} (t1 : takeS [126] l = none) (t2 : takeS [91, 93] l = some r) (h : Ev (mNot · r) x) : Ev (mNot · l) (x.un 8) :=
  h.step fun k hk => by simp only [mNot, t1, t2, hk, Option.map]
theorem ev_not3 {l r : List UInt8} {x : Res} (t1 : takeS [126] l = none) (t2 : takeS [91, 93] l = none) (t3 : takeS [60, 62] l = some r) (h : Ev (mNot · r) x) : Ev (mNot · l) (x.un 9) :=
  h.step fun k hk => by simp only [mNot, t1, t2, t3, hk, Option.map]
theorem ev_not4 {l r : List UInt8} {x : Res} (t1 : takeS [126] l = none) (t2 : takeS [91, 93] l = none) (t3 : takeS [60, 62] l = none) (t4 : takeS [40] l = some r) (h : Ev (mThen · r) x) : Ev (mNot · l) x.shut :=
  h.step fun k hk => by simp only [mNot, t1, t2, t3, t4, hk, Option.map]
theorem ev_not5 {l r : List UInt8} (t1 : takeS [126] l = none) (t2 : takeS [91, 93] l = none) (t3 : takeS [60, 62] l = none) (t4 : takeS [40] l = none) (t5 : takeS [49] l = some r) : Ev (mNot · l) (.ok (.mk 2 e0 []) r) :=
  Ev.now fun k => by simp only [mNot, t1, t2, t3, t4, t5]
theorem ev_not6 {l r : List UInt8} (t1 : takeS [126] l = none) (t2 : takeS [91, 93] l = none) (t3 : takeS [60, 62] l = none) (t4 : takeS [40] l = none) (t5 : takeS [49] l = none) (t6 : takeS [48] l = some r) : Ev (mNot · l) (.ok (.mk 3 e0 []) r) :=
  Ev.now fun k => by simp only [mNot, t1, t2, t3, t4, t5, t6]
theorem ev_not7 {l : List UInt8} (t1 : takeS [126] l = none) (t2 : takeS [91, 93] l = none) (t3 : takeS [60, 62] l = none) (t4 : takeS [40] l = none) (t5 : takeS [49] l = none) (t6 : takeS [48] l = none) : Ev (mNot · l) (mName l) :=
  Ev.now fun k => by simp only [mNot, t1, t2, t3, t4, t5, t6]

theorem ev_and_bad {l r : List UInt8} (h : Ev (mNot · l) (.bad r)) : Ev (mAnd · l) (.bad r) := h.step fun k hk => by simp only [mAnd, hk]
theorem ev_and_ok {l r : List UInt8} {f : Fm} {x : Res} (h : Ev (mNot · l) (.ok f r)) (h1 : Ev (mAnds · f r) x) : Ev (mAnd · l) x := h.step2 h1 fun k hk hk1 => by simp only [mAnd, hk, hk1]
theorem ev_ands_no {l : List UInt8} {f : Fm} (t : takeS [38] l = none) : Ev (mAnds · f l) (.ok f (skipB l)) := Ev.now fun k => by simp only [mAnds, t]
theorem ev_ands_bad {l r r1 : List UInt8} {f : Fm} (t : takeS [38] l = some r) (h : Ev (mNot · r) (.bad r1)) : Ev (mAnds · f l) (.bad r1) := h.step fun k hk => by simp only [mAnds, t, hk]
theorem ev_ands_ok {l r r1 : List UInt8} {f g : Fm} {x : Res} (t : takeS [38] l = some r) (h : Ev (mNot · r) (.ok g r1)) (h1 : Ev (mAnds · (.mk 5 e0 [f, g]) r1) x) : Ev (mAnds · f l) x := h.step2 h1 fun k hk hk1 => by simp only [mAnds, t, hk, hk1]

theorem ev_or_bad {l r : List UInt8} (h : Ev (mAnd · l) (.bad r)) : Ev (mOr · l) (.bad r) := h.step fun k hk => by simp only [mOr, hk]
theorem ev_or_ok {l r : List UInt8} {f : Fm} {x : Res} (h : Ev (mAnd · l) (.ok f r)) (h1 : Ev (mOrs · f r) x) : Ev (mOr · l) x := h.step2 h1 fun k hk hk1 => by simp only [mOr, hk, hk1]
theorem ev_ors_no {l : List UInt8} {f : Fm} (t : takeS [124] l = none) : Ev (mOrs · f l) (.ok f (skipB l)) := Ev.now fun k => by simp only [mOrs, t]
theorem ev_ors_bad {l r r1 : List UInt8} {f : Fm} (t : takeS [124] l = some r) (h : Ev (mAnd · r) (.bad r1)) : Ev (mOrs · f l) (.bad r1) := h.step fun k hk => by simp only [mOrs, t, hk]
theorem ev_ors_ok {l r r1 : List UInt8} {f g : Fm} {x : Res} (t : takeS [124] l = some r) (h : Ev (mAnd · r) (.ok g r1)) (h1 : Ev (mOrs · (.mk 6 e0 [f, g]) r1) x) : Ev (mOrs · f l) x := h.step2 h1 fun k hk hk1 => by simp only [mOrs, t, hk, hk1]

theorem ev_then_bad {l r : List UInt8} (h : Ev (mOr · l) (.bad r)) : Ev (mThen · l) (.bad r) := h.step fun k hk => by simp only [mThen, hk]
theorem ev_then_no {l r : List UInt8} {f : Fm} (h : Ev (mOr · l) (.ok f r)) (t : takeS [45, 62] r = none) : Ev (mThen · l) (.ok f (skipB r)) := h.step fun k hk => by simp only [mThen, hk, t]
theorem ev_then_bad2 {l r r1 r2 : List UInt8} {f : Fm} (h : Ev (mOr · l) (.ok f r)) (t : takeS [45, 62] r = some r1) (h1 : Ev (mThen · r1) (.bad r2)) : Ev (mThen · l) (.bad r2) := h.step2 h1 fun k hk hk1 => by simp only [mThen, hk, t, hk1]
theorem ev_then_ok {l r r1 r2 : List UInt8} {f g : Fm} (h : Ev (mOr · l) (.ok f r)) (t : takeS [45, 62] r = some r1) (h1 : Ev (mThen · r1) (.ok g r2)) : Ev (mThen · l) (.ok (.mk 7 e0 [f, g]) r2) := h.step2 h1 fun k hk hk1 => by simp only [mThen, hk, t, hk1]

def Res.rest : Res → List UInt8
  | .ok _ r => r
  | .bad r => r

def Tot (K : Nat → List UInt8 → Option Res) (m : Nat) : Prop := ∀ l : List UInt8, l.length ≤ m → ∃ r, Ev (K · l) r ∧ r.rest.length ≤ l.length

theorem un_rest (k : Int) (x : Res) : (x.un k).rest = x.rest := by cases x <;> rfl
theorem shut_rest (x : Res) : x.shut.rest.length ≤ x.rest.length := by
  cases x with
  | ok f r =>
    simp only [Res.shut]
    rcases h : takeS [41] r with _ | r1
    · exact skipB_length r
    · have := takeS_len h; simp [Res.rest]; omega
  | bad r => exact Nat.le_refl _
theorem mName_rest (l : List UInt8) : (mName l).rest.length ≤ l.length := by
  have := skipB_length l; simp only [mName]
  split <;> simp [Res.rest] <;> omega

theorem tot_not {m : Nat} (ihN : Tot mNot m) (ihT : Tot mThen m) : Tot mNot (m + 1) := by
  intro l hm
  rcases t1 : takeS [126] l with _ | r
  · rcases t2 : takeS [91, 93] l with _ | r
    · rcases t3 : takeS [60, 62] l with _ | r
      · rcases t4 : takeS [40] l with _ | r
        · rcases t5 : takeS [49] l with _ | r
          · rcases t6 : takeS [48] l with _ | r
            · exact ⟨_, ev_not7 t1 t2 t3 t4 t5 t6, mName_rest l⟩
            · have := takeS_len t6; exact ⟨_, ev_not6 t1 t2 t3 t4 t5 t6, by simp [Res.rest]; omega⟩
          · have := takeS_len t5; exact ⟨_, ev_not5 t1 t2 t3 t4 t5, by simp [Res.rest]; omega⟩
        · have := takeS_len t4
          simp at this; (obtain ⟨x, hx, hl⟩ := ihT r (by omega)); (exact ⟨_, ev_not4 t1 t2 t3 t4 hx, by have := shut_rest x; omega⟩)
      · have := takeS_len t3
        simp at this; (obtain ⟨x, hx, hl⟩ := ihN r (by omega)); (exact ⟨_, ev_not3 t1 t2 t3 hx, by rw [un_rest]; omega⟩)
    · have := takeS_len t2
      simp at this; (obtain ⟨x, hx, hl⟩ := ihN r (by omega)); (exact ⟨_, ev_not2 t1 t2 hx, by rw [un_rest]; omega⟩)
  · have := takeS_len t1
    simp at this; (obtain ⟨x, hx, hl⟩ := ihN r (by omega)); (exact ⟨_, ev_not1 t1 hx, by rw [un_rest]; omega⟩)

theorem tot_ands {m : Nat} (hN : Tot mNot m) : ∀ (k : Nat) (f : Fm) (l : List UInt8), l.length ≤ k → l.length ≤ m → ∃ r, Ev (mAnds · f l) r ∧ r.rest.length ≤ l.length
  | k, f, l, hk, hm => by
    rcases t : takeS [38] l with _ | r
    · exact ⟨_, ev_ands_no t, skipB_length l⟩
    · have hl := takeS_len t
      simp at hl; (obtain ⟨x, hx, hr⟩ := hN r (by omega))
      cases x with
      | bad r1 => exact ⟨_, ev_ands_bad t hx, by simp [Res.rest] at *; omega⟩
      | ok g r1 =>
        simp [Res.rest] at hr
        cases k with
        | zero => omega
        | succ k =>
          (obtain ⟨y, hy, hr2⟩ := tot_ands hN k (.mk 5 e0 [f, g]) r1 (by omega) (by omega)); (exact ⟨y, ev_ands_ok t hx hy, by omega⟩)
theorem tot_and {m : Nat} (hN : Tot mNot m) : Tot mAnd m := by
  intro l hm; obtain ⟨x, hx, hr⟩ := hN l hm
  cases x with
  | bad r1 => exact ⟨_, ev_and_bad hx, hr⟩
  | ok f r1 =>
    simp [Res.rest] at hr; (obtain ⟨y, hy, hr2⟩ := tot_ands hN _ f r1 (Nat.le_refl _) (by omega)); (exact ⟨y, ev_and_ok hx hy, by omega⟩)
theorem tot_ors {m : Nat} (hN : Tot mAnd m) : ∀ (k : Nat) (f : Fm) (l : List UInt8), l.length ≤ k → l.length ≤ m → ∃ r, Ev (mOrs · f l) r ∧ r.rest.length ≤ l.length
  | k, f, l, hk, hm => by
    rcases t : takeS [124] l with _ | r
    · exact ⟨_, ev_ors_no t, skipB_length l⟩
    · have hl := takeS_len t
      simp at hl; (obtain ⟨x, hx, hr⟩ := hN r (by omega))
      cases x with
      | bad r1 => exact ⟨_, ev_ors_bad t hx, by simp [Res.rest] at *; omega⟩
      | ok g r1 =>
        simp [Res.rest] at hr
        cases k with
        | zero => omega
        | succ k =>
          (obtain ⟨y, hy, hr2⟩ := tot_ors hN k (.mk 6 e0 [f, g]) r1 (by omega) (by omega)); (exact ⟨y, ev_ors_ok t hx hy, by omega⟩)
theorem tot_or {m : Nat} (hN : Tot mAnd m) : Tot mOr m := by
  intro l hm; obtain ⟨x, hx, hr⟩ := hN l hm
  cases x with
  | bad r1 => exact ⟨_, ev_or_bad hx, hr⟩
  | ok f r1 =>
    simp [Res.rest] at hr; (obtain ⟨y, hy, hr2⟩ := tot_ors hN _ f r1 (Nat.le_refl _) (by omega)); (exact ⟨y, ev_or_ok hx hy, by omega⟩)
theorem tot_then {m : Nat} (hO : Tot mOr (m + 1)) (ih : Tot mThen m) : Tot mThen (m + 1) := by
  intro l hm; obtain ⟨x, hx, hr⟩ := hO l hm
  cases x with
  | bad r1 => exact ⟨_, ev_then_bad hx, hr⟩
  | ok f r1 =>
    simp [Res.rest] at hr
    rcases t : takeS [45, 62] r1 with _ | r2
    · exact ⟨_, ev_then_no hx t, by have := skipB_length r1; simp [Res.rest]; omega⟩
    · have hl := takeS_len t
      simp at hl; (obtain ⟨y, hy, hr2⟩ := ih r2 (by omega))
      cases y with
      | bad r3 => exact ⟨_, ev_then_bad2 hx t hy, by simp [Res.rest] at *; omega⟩
      | ok g r3 => exact ⟨_, ev_then_ok hx t hy, by simp [Res.rest] at *; omega⟩

/-- At the text's end. -/
theorem tot_not0 : Tot mNot 0 := by
  intro l hl; (have : l = [] := by cases l with | nil => rfl | cons c l => simp at hl); subst this; exact ⟨_, ev_not7 rfl rfl rfl rfl rfl rfl, mName_rest []⟩
theorem tot_then0 : Tot mThen 0 := by
  intro l hl; obtain ⟨x, hx, hr⟩ := tot_or (tot_and tot_not0) l hl
  cases x with
  | bad r1 => exact ⟨_, ev_then_bad hx, hr⟩
  | ok f r1 =>
    simp [Res.rest] at hr
    rcases t : takeS [45, 62] r1 with _ | r2
    · exact ⟨_, ev_then_no hx t, by have := skipB_length r1; simp [Res.rest]; omega⟩
    · have hl := takeS_len t
      simp at hl; omega
theorem tot_all : ∀ m, Tot mNot m ∧ Tot mThen m
  | 0 => ⟨tot_not0, tot_then0⟩
  | m + 1 => by
    obtain ⟨h1, h2⟩ := tot_all m; have h3 := tot_not h1 h2; exact ⟨h3, tot_then (tot_or (tot_and h3)) h2⟩

theorem size_leaf (k : Int) (n : ByteArray) : (Fm.mk k n []).size = 1 := by simp [Fm.size, Fm.sizes]
theorem size_one (k : Int) (n : ByteArray) (f : Fm) : (Fm.mk k n [f]).size = f.size + 1 := by simp [Fm.size, Fm.sizes]
theorem size_two (k : Int) (n : ByteArray) (f g : Fm) : (Fm.mk k n [f, g]).size = f.size + g.size + 1 := by simp [Fm.size, Fm.sizes]
end Go.Proofs.Ytfhbpfgbnfcdaaa
/- What the walks over layer 1 share: formulas in memory, what a call leaves as it was, the reader's own block. -/
namespace Go.Proofs.Ytfhbpfgbnfcdaaa
open Go.RowKit

/-- The blocks of w for which 'ok' holds are as they were. -/
structure Kept (ok : Nat → Prop) (w w' : World) : Prop where
  os : w'.os = w.os
  tape : w'.tape = w.tape
  output : w'.output = w.output
  size : w.heap.size ≤ w'.heap.size
  block : ∀ k, k < w.heap.size → ok k → w'.heap[k]? = w.heap[k]?

theorem Kept.refl (ok : Nat → Prop) (w : World) : Kept ok w w := ⟨rfl, rfl, rfl, Nat.le_refl _, fun _ _ _ => rfl⟩
theorem Kept.trans {ok : Nat → Prop} {a b c : World} (h : Kept ok a b) (k : Kept ok b c) : Kept ok a c :=
  ⟨k.os.trans h.os, k.tape.trans h.tape, k.output.trans h.output, Nat.le_trans h.size k.size, fun i hi ho => (k.block i (Nat.lt_of_lt_of_le hi h.size) ho).trans (h.block i hi ho)⟩
theorem Kept.drew {ok : Nat → Prop} {a w : World} (h : Kept ok a w) : Kept ok a w.drew := ⟨h.os, h.tape, h.output, h.size, h.block⟩
theorem Kept.drewN {ok : Nat → Prop} {a w : World} (n : Nat) (h : Kept ok a w) : Kept ok a (w.drewN n) := ⟨h.os, h.tape, h.output, h.size, h.block⟩
theorem Kept.alloc {ok : Nat → Prop} {a w : World} (h : Kept ok a w) (o : Obj) : Kept ok a (w.alloc o) :=
  h.trans ⟨rfl, rfl, rfl, by simp, fun k hk _ => Below.heap_alloc _ _ _ hk⟩
theorem Kept.setCell {ok : Nat → Prop} {a w : World} (h : Kept ok a w) {p : Addr} (hp : p.block < a.heap.size → ¬ ok p.block) (u : Value) : Kept ok a (w.setCell p u) := by
  (refine ⟨h.os, h.tape, h.output, by simpa [World.setCell] using h.size, fun k hk ho => ?_⟩); (rw [Below.heap_setCell _ _ _ _ (fun e => by subst e; exact hp hk ho)]); exact h.block k hk ho
theorem Kept.mono {ok ok' : Nat → Prop} {a b : World} (h : Kept ok a b) (hi : ∀ k, k < a.heap.size → ok' k → ok k) : Kept ok' a b :=
  ⟨h.os, h.tape, h.output, h.size, fun k hk ho => h.block k hk (hi k hk ho)⟩
theorem Kept.below {ok : Nat → Prop} {a b : World} {B : Nat} (h : Kept ok a b) (hB : B ≤ a.heap.size) (hi : ∀ k, k < B → ok k) : Below B a b :=
  ⟨h.os, h.tape, h.output, h.size, fun k hk => h.block k (Nat.lt_of_lt_of_le hk hB) (hi k hk)⟩
theorem kept_of_below {ok : Nat → Prop} {a b : World} {B : Nat} (h : Below B a b) (hi : ∀ k, k < a.heap.size → ok k → k < B) : Kept ok a b :=
  ⟨h.os, h.tape, h.output, h.size, fun k hk ho => h.block k (hi k hk ho)⟩

theorem lt_of_block {w : World} {b : Nat} {o : Obj} (h : w.heap[b]? = some o) : b < w.heap.size := by
  rcases Nat.lt_or_ge b w.heap.size with h' | h'
  · exact h'
  · rw [Array.getElem?_eq_none h'] at h; cases h

theorem lt_of_cell {w : World} {a : Addr} {v : Value} (h : w.cell? a = some v) : a.block < w.heap.size := by
  rcases Nat.lt_or_ge a.block w.heap.size with h' | h'
  · exact h'
  · simp [World.cell?, Array.getElem?_eq_none h'] at h

theorem cell_of_block {w w' : World} {a : Addr} (h : w'.heap[a.block]? = w.heap[a.block]?) : w'.cell? a = w.cell? a := by
  simp only [World.cell?, h]

theorem blk_cell {w : World} {b : Nat} {cs : Array Value} {T : TypeId} (h : w.heap[b]? = some (.cells cs T (0, 0))) (o : Nat) : w.cell? ⟨b, o, none⟩ = cs[o]? := by simp [World.cell?, h]
theorem blk_fz {w : World} {b : Nat} {cs : Array Value} {T : TypeId} (h : w.heap[b]? = some (.cells cs T (0, 0))) (o : Nat) : w.frozen? ⟨b, o, none⟩ = false := by simp [World.frozen?, h]
/-- A block of three cells, as the walk wants it. -/
theorem blk3 {w : World} {b : Nat} {c0 c1 c2 : Value} {T : TypeId} (h : w.heap[b]? = some (.cells #[c0, c1, c2] T (0, 0))) : w.cell? ⟨b, 0, none⟩ = some c0 ∧ w.cell? ⟨b, 1, none⟩ = some c1 ∧ w.cell? ⟨b, 2, none⟩ = some c2 ∧ w.frozen? ⟨b, 0, none⟩ = false ∧ w.frozen? ⟨b, 1, none⟩ = false ∧ w.frozen? ⟨b, 2, none⟩ = false :=
  ⟨blk_cell h 0, blk_cell h 1, blk_cell h 2, blk_fz h 0, blk_fz h 1, blk_fz h 2⟩
theorem blk2 {w : World} {b : Nat} {c0 c1 : Value} {T : TypeId} (h : w.heap[b]? = some (.cells #[c0, c1] T (0, 0))) : w.cell? ⟨b, 0, none⟩ = some c0 ∧ w.cell? ⟨b, 1, none⟩ = some c1 ∧ w.frozen? ⟨b, 0, none⟩ = false ∧ w.frozen? ⟨b, 1, none⟩ = false :=
  ⟨blk_cell h 0, blk_cell h 1, blk_fz h 0, blk_fz h 1⟩
theorem blk_new (w : World) (o : Obj) : (w.alloc o).heap[w.heap.size]? = some o := by
  show (w.heap.push o)[w.heap.size]? = _
  simp

/-! ### Formulas in memory -/
mutual
def Rep (w : World) (ok : Nat → Prop) : Fm → Value → Prop
  | .mk k n ks, v => ∃ sl cap, v = .agg #[.int .i64 k, .string n, .slice sl ks.length cap] ∧ n.size ≤ maxLen ∧ ks.length ≤ cap ∧ cap ≤ maxLen ∧ (ks ≠ [] → ∃ b off, sl = some ⟨b, off, none⟩ ∧ ok b ∧ Reps w ok b off ks)
def Reps (w : World) (ok : Nat → Prop) (b : Nat) : Nat → List Fm → Prop
  | _, [] => True
  | off, f :: fs => (∃ c0 c1 c2, w.cell? ⟨b, off, none⟩ = some c0 ∧ w.cell? ⟨b, off + 1, none⟩ = some c1 ∧ w.cell? ⟨b, off + 2, none⟩ = some c2 ∧ Rep w ok f (.agg #[c0, c1, c2])) ∧ Reps w ok b (off + 3) fs
end

theorem Rep.def {w : World} {ok : Nat → Prop} {k : Int} {n : ByteArray} {ks : List Fm} {v : Value} : Rep w ok (.mk k n ks) v ↔ ∃ sl cap, v = .agg #[.int .i64 k, .string n, .slice sl ks.length cap] ∧ n.size ≤ maxLen ∧ ks.length ≤ cap ∧ cap ≤ maxLen ∧ (ks ≠ [] → ∃ b off, sl = some ⟨b, off, none⟩ ∧ ok b ∧ Reps w ok b off ks) := by
  rw [Rep]

theorem Reps.nil {w : World} {ok : Nat → Prop} {b off : Nat} : Reps w ok b off [] := by rw [Reps]; trivial

theorem Reps.cons {w : World} {ok : Nat → Prop} {b off : Nat} {f : Fm} {fs : List Fm} : Reps w ok b off (f :: fs) ↔ (∃ c0 c1 c2, w.cell? ⟨b, off, none⟩ = some c0 ∧ w.cell? ⟨b, off + 1, none⟩ = some c1 ∧ w.cell? ⟨b, off + 2, none⟩ = some c2 ∧ Rep w ok f (.agg #[c0, c1, c2])) ∧ Reps w ok b (off + 3) fs := by
  rw [Reps]

mutual
theorem Rep.keep {w w' : World} {ok ok' : Nat → Prop} (hc : ∀ a : Addr, ok a.block → a.block < w.heap.size → w'.cell? a = w.cell? a) (hi : ∀ k, k < w.heap.size → ok k → ok' k) :
    ∀ (f : Fm) (v : Value), Rep w ok f v → Rep w' ok' f v
  | .mk k n ks, v, h => by
    rw [Rep.def] at h ⊢; obtain ⟨sl, cap, hv, hn, hl, hc', hk⟩ := h; (refine ⟨sl, cap, hv, hn, hl, hc', fun hne => ?_⟩); obtain ⟨b, off, hsl, hb, hr⟩ := hk hne
    have hlt : b < w.heap.size := by
      cases ks with
      | nil => exact absurd rfl hne
      | cons g gs =>
        obtain ⟨⟨c0, _, _, h0, _⟩, _⟩ := Reps.cons.1 hr; exact lt_of_cell h0
    exact ⟨b, off, hsl, hi b hlt hb, Reps.keep hc hi hb hlt off ks hr⟩
theorem Reps.keep {w w' : World} {ok ok' : Nat → Prop} (hc : ∀ a : Addr, ok a.block → a.block < w.heap.size → w'.cell? a = w.cell? a) (hi : ∀ k, k < w.heap.size → ok k → ok' k) {b : Nat} (hb : ok b) (hlt : b < w.heap.size) :
    ∀ (off : Nat) (fs : List Fm), Reps w ok b off fs → Reps w' ok' b off fs
  | _, [], _ => Reps.nil
  | off, f :: fs, h => by
    rw [Reps.cons] at h ⊢; obtain ⟨⟨c0, c1, c2, h0, h1, h2, hr⟩, hrs⟩ := h; (exact ⟨⟨c0, c1, c2, by rw [hc _ hb hlt]; exact h0, by rw [hc _ hb hlt]; exact h1, by rw [hc _ hb hlt]; exact h2, Rep.keep hc hi f _ hr⟩, Reps.keep hc hi hb hlt (off + 3) fs hrs⟩)
end

theorem Rep.kept {w w' : World} {ok : Nat → Prop} {f : Fm} {v : Value} (h : Rep w ok f v) (hk : Kept ok w w') : Rep w' ok f v :=
  Rep.keep (fun _ ha hlt => cell_of_block (hk.block _ hlt ha)) (fun _ _ h => h) f v h
theorem Reps.kept {w w' : World} {ok : Nat → Prop} {b off : Nat} {fs : List Fm} (h : Reps w ok b off fs) (hb : ok b) (hk : Kept ok w w') : Reps w' ok b off fs := by
  cases fs with
  | nil => exact Reps.nil
  | cons f fs =>
    have hlt : b < w.heap.size := by
      obtain ⟨⟨c0, _, _, h0, _⟩, _⟩ := Reps.cons.1 h; exact lt_of_cell h0
    (exact Reps.keep (fun _ ha hlt => cell_of_block (hk.block _ hlt ha)) (fun _ _ h => h) hb hlt off _ h)

/-- The i-th of the kids. -/
theorem Reps.get {w : World} {ok : Nat → Prop} {b : Nat} : ∀ {off : Nat} {fs : List Fm} (_ : Reps w ok b off fs) (i : Nat) (f : Fm) (_ : fs[i]? = some f),
    ∃ c0 c1 c2, w.cell? ⟨b, off + i * 3, none⟩ = some c0 ∧ w.cell? ⟨b, off + i * 3 + 1, none⟩ = some c1 ∧ w.cell? ⟨b, off + i * 3 + 2, none⟩ = some c2 ∧ Rep w ok f (.agg #[c0, c1, c2])
  | off, [], _, i, f, hf => by simp at hf
  | off, g :: gs, h, i, f, hf => by
    obtain ⟨h1, h2⟩ := Reps.cons.1 h
    cases i with
    | zero => simp at hf; subst hf; simpa using h1
    | succ i =>
      (have := Reps.get h2 i f (by simpa using hf)); (have e : off + 3 + i * 3 = off + (i + 1) * 3 := by omega)
      rwa [e] at this

/-- .. with its parts shown. -/
theorem Reps.at {w : World} {ok : Nat → Prop} {b off : Nat} {fs : List Fm} (h : Reps w ok b off fs) (i : Nat) (k : Int) (n : ByteArray) (ks : List Fm) (hf : fs[i]? = some (.mk k n ks)) :
    ∃ sl cap, w.cell? ⟨b, off + i * 3, none⟩ = some (.int .i64 k) ∧ w.cell? ⟨b, off + i * 3 + 1, none⟩ = some (.string n) ∧ w.cell? ⟨b, off + i * 3 + 2, none⟩ = some (.slice sl ks.length cap) ∧ Rep w ok (.mk k n ks) (.agg #[.int .i64 k, .string n, .slice sl ks.length cap]) := by
  obtain ⟨c0, c1, c2, h0, h1, h2, hr⟩ := h.get i _ hf; obtain ⟨sl, cap, hv, hr'⟩ := Rep.def.1 hr; simp only [Value.agg.injEq, Array.mk.injEq, List.cons.injEq, and_true] at hv; obtain ⟨rfl, rfl, rfl⟩ := hv; exact ⟨sl, cap, h0, h1, h2, hr⟩

theorem Rep.leaf {w : World} {ok : Nat → Prop} {k : Int} {n : ByteArray} (h : n.size ≤ maxLen) : Rep w ok (.mk k n []) (.agg #[.int .i64 k, .string n, .slice none 0 0]) :=
  Rep.def.2 ⟨none, 0, rfl, h, by simp, by simp, fun h => absurd rfl h⟩

/-! ### The reader's block -/
def RS (br : Nat) (w : World) (t : ByteArray) (a n : Nat) : Prop := w.heap[br]? = some (.cells #[.string t, .int .i64 a, .int .i64 n] 82 (0, 0))

theorem RS.lt {br : Nat} {w : World} {t : ByteArray} {a n : Nat} (h : RS br w t a n) : br < w.heap.size := lt_of_block h
theorem RS.c0 {br : Nat} {w : World} {t : ByteArray} {a n : Nat} (h : RS br w t a n) : w.cell? ⟨br, 0, none⟩ = some (.string t) := by unfold RS at h; simp [World.cell?, h]
theorem RS.c1 {br : Nat} {w : World} {t : ByteArray} {a n : Nat} (h : RS br w t a n) : w.cell? ⟨br, 1, none⟩ = some (.int .i64 a) := by unfold RS at h; simp [World.cell?, h]
theorem RS.c2 {br : Nat} {w : World} {t : ByteArray} {a n : Nat} (h : RS br w t a n) : w.cell? ⟨br, 2, none⟩ = some (.int .i64 n) := by unfold RS at h; simp [World.cell?, h]
theorem RS.fz {br : Nat} {w : World} {t : ByteArray} {a n : Nat} (h : RS br w t a n) (o : Nat) : w.frozen? ⟨br, o, none⟩ = false := by unfold RS at h; simp [World.frozen?, h]
theorem RS.drew {br : Nat} {w : World} {t : ByteArray} {a n : Nat} (h : RS br w t a n) : RS br w.drew t a n := h
theorem RS.drewN {br : Nat} {w : World} {t : ByteArray} {a n : Nat} (h : RS br w t a n) (k : Nat) : RS br (w.drewN k) t a n := h
theorem RS.alloc {br : Nat} {w : World} {t : ByteArray} {a n : Nat} (h : RS br w t a n) (o : Obj) : RS br (w.alloc o) t a n := by
  unfold RS; rw [Below.heap_alloc _ _ _ h.lt]; exact h
theorem RS.set1 {br : Nat} {w : World} {t : ByteArray} {a n : Nat} (h : RS br w t a n) (a' : Nat) : RS br (w.setCell ⟨br, 1, none⟩ (.int .i64 a')) t a' n := by
  unfold RS at *; simp [World.setCell, Array.getElem?_modify, h]
theorem RS.set2 {br : Nat} {w : World} {t : ByteArray} {a n : Nat} (h : RS br w t a n) (n' : Nat) : RS br (w.setCell ⟨br, 2, none⟩ (.int .i64 n')) t a n' := by
  unfold RS at *; simp [World.setCell, Array.getElem?_modify, h]

theorem RS.other {br : Nat} {w : World} {t : ByteArray} {a n : Nat} (h : RS br w t a n) {p : Addr} (hp : p.block ≠ br) (v : Value) : RS br (w.setCell p v) t a n := by
  unfold RS; rw [Below.heap_setCell _ _ _ _ (Ne.symm hp)]; exact h
theorem RS.below {br : Nat} {w w' : World} {t : ByteArray} {a n : Nat} (h : RS br w t a n) (hb : Below w.heap.size w w') : RS br w' t a n := by
  unfold RS; rw [hb.block _ h.lt]; exact h

/-- From place a on the text reads l. -/
def At (t : ByteArray) (a : Nat) (l : List UInt8) : Prop := a ≤ t.size ∧ t.data.toList.drop a = l

theorem At.len {t : ByteArray} {a : Nat} {l : List UInt8} (h : At t a l) : a + l.length = t.size := by
  obtain ⟨h1, h2⟩ := h; have e : t.data.toList.length = t.size := Array.length_toList; rw [← h2, List.length_drop, e]; omega
theorem At.cons {t : ByteArray} {a : Nat} {c : UInt8} {l : List UInt8} (h : At t a (c :: l)) : At t (a + 1) l := by
  have := h.len; (refine ⟨by simp at this; omega, ?_⟩); rw [← List.drop_drop, h.2]; rfl
theorem At.drop {t : ByteArray} {a : Nat} {l : List UInt8} (h : At t a l) (k : Nat) (hk : k ≤ l.length) : At t (a + k) (l.drop k) := by
  have := h.len; (refine ⟨by omega, ?_⟩); rw [← List.drop_drop, h.2]
theorem At.head {t : ByteArray} {a : Nat} {c : UInt8} {l : List UInt8} (h : At t a (c :: l)) (hlt : a < t.size) : t[a] = c := by
  have h2 := h.2; have e : t.data.toList.length = t.size := Array.length_toList; (rw [List.drop_eq_getElem_cons (by omega)] at h2); have := (List.cons.inj h2).1; rw [← this]; rfl
end Go.Proofs.Ytfhbpfgbnfcdaaa
