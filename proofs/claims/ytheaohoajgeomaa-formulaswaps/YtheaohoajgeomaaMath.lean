/- The plain mathematics of layer 1: formulas as data, the reader and the writer as functions on lists of bytes. Nothing of the program's translation is named here. -/
namespace Go.Proofs.Ytheaohoajgeomaa

/-- A formula as data: kind, name, kids. -/
inductive Fm where
  | mk (kind : Int) (name : ByteArray) (kids : List Fm)

def Fm.kind : Fm → Int | .mk k _ _ => k
def Fm.name : Fm → ByteArray | .mk _ n _ => n
def Fm.kids : Fm → List Fm | .mk _ _ ks => ks

mutual
def Fm.size : Fm → Nat
  | .mk _ _ ks => Fm.sizes ks + 1
def Fm.sizes : List Fm → Nat
  | [] => 0
  | f :: fs => Fm.size f + Fm.sizes fs
end

/-! ### Reading -/

def blank (c : UInt8) : Bool := c == 32 || c == 10

def skipB : List UInt8 → List UInt8
  | [] => []
  | c :: l => if blank c then skipB l else c :: l

theorem skipB_length (l : List UInt8) : (skipB l).length ≤ l.length := by
  induction l with
  | nil => simp [skipB]
  | cons c l ih => simp only [skipB]; split <;> simp <;> omega

theorem skipB_idem (l : List UInt8) : skipB (skipB l) = skipB l := by
  induction l with
  | nil => rfl
  | cons c l ih =>
    simp only [skipB]
    split
    · exact ih
    · rename_i h; simp [skipB, h]

def takeS (s l : List UInt8) : Option (List UInt8) := if s.isPrefixOf (skipB l) then some ((skipB l).drop s.length) else none

def lower (c : UInt8) : Bool := decide (97 ≤ c.toNat) && decide (c.toNat ≤ 122)

def letters : List UInt8 → List UInt8
  | [] => []
  | c :: l => if lower c then c :: letters l else []

theorem letters_length (l : List UInt8) : (letters l).length ≤ l.length := by
  induction l with
  | nil => simp [letters]
  | cons c l ih => simp only [letters]; split <;> simp <;> omega

def isNm (l : List UInt8) : Bool := decide (l ≠ []) && decide (l.length ≤ 8) && decide ((letters l).length = l.length)

/-- What a reading answers: a formula and the rest, or what is left where it is wrong. -/
inductive Res where
  | ok (f : Fm) (rest : List UInt8)
  | bad (rest : List UInt8)

def nmF (l : List UInt8) : Fm := .mk 1 ⟨l.toArray⟩ []
def e0 : ByteArray := ⟨#[]⟩

def mName (l : List UInt8) : Res :=
  let r := skipB l
  let n := letters r
  if isNm n then .ok (nmF n) (r.drop n.length) else .bad r

def Res.un (k : Int) : Res → Res
  | .ok f r => .ok (.mk k e0 [f]) r
  | .bad r => .bad r

/-- Behind an opening bracket. -/
def Res.shut : Res → Res
  | .ok f r => match takeS [41] r with
    | some r1 => .ok f r1
    | none => .bad (skipB r)
  | .bad r => .bad r

mutual
def mNot : Nat → List UInt8 → Option Res
  | 0, _ => none
  | n + 1, l =>
    match takeS [126] l with
    | some r => (mNot n r).map (Res.un 4)
    | none =>
    match takeS [91, 93] l with
    | some r => (mNot n r).map (Res.un 8)
    | none =>
    match takeS [60, 62] l with
    | some r => (mNot n r).map (Res.un 9)
    | none =>
    match takeS [40] l with
    | some r => (mThen n r).map Res.shut
    | none =>
    match takeS [49] l with
    | some r => some (.ok (.mk 2 e0 []) r)
    | none =>
    match takeS [48] l with
    | some r => some (.ok (.mk 3 e0 []) r)
    | none => some (mName l)
def mAnd : Nat → List UInt8 → Option Res
  | 0, _ => none
  | n + 1, l =>
    match mNot n l with
    | none => none
    | some (.bad r) => some (.bad r)
    | some (.ok f r) => mAnds n f r
def mAnds : Nat → Fm → List UInt8 → Option Res
  | 0, _, _ => none
  | n + 1, f, l =>
    match takeS [38] l with
    | none => some (.ok f (skipB l))
    | some r =>
      match mNot n r with
      | none => none
      | some (.bad r1) => some (.bad r1)
      | some (.ok g r1) => mAnds n (.mk 5 e0 [f, g]) r1
def mOr : Nat → List UInt8 → Option Res
  | 0, _ => none
  | n + 1, l =>
    match mAnd n l with
    | none => none
    | some (.bad r) => some (.bad r)
    | some (.ok f r) => mOrs n f r
def mOrs : Nat → Fm → List UInt8 → Option Res
  | 0, _, _ => none
  | n + 1, f, l =>
    match takeS [124] l with
    | none => some (.ok f (skipB l))
    | some r =>
      match mAnd n r with
      | none => none
      | some (.bad r1) => some (.bad r1)
      | some (.ok g r1) => mOrs n (.mk 6 e0 [f, g]) r1
def mThen : Nat → List UInt8 → Option Res
  | 0, _ => none
  | n + 1, l =>
    match mOr n l with
    | none => none
    | some (.bad r) => some (.bad r)
    | some (.ok f r) =>
      match takeS [45, 62] r with
      | none => some (.ok f (skipB r))
      | some r1 =>
        match mThen n r1 with
        | none => none
        | some (.bad r2) => some (.bad r2)
        | some (.ok g r2) => some (.ok (.mk 7 e0 [f, g]) r2)
end
end Go.Proofs.Ytheaohoajgeomaa
