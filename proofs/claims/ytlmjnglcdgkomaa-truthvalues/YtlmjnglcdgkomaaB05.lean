/- Texts of one proof, one behind the other: TMath1. -/
import Derived.Test.YtlmjnglcdgkomaaB01
/- The plain mathematics of layer 2: where a formula is true; the first node that is a box or a diamond. -/
namespace Go.Proofs.Ytlmjnglcdgkomaa

def val (k : Int) (pn : Bool) (l : List Bool) : Bool :=
  if k = 1 then pn else if k = 4 then !(l.getD 0 false) else if k = 5 then l.getD 0 false && l.getD 1 false else if k = 6 then l.getD 0 false || l.getD 1 false else if k = 7 then !(l.getD 0 false) || l.getD 1 false else decide (k = 2)

mutual
def tv (p : List UInt8 → Bool) : Fm → Bool
  | .mk k n ks => val k (p n.data.toList) (tvs p ks)
def tvs (p : List UInt8 → Bool) : List Fm → List Bool
  | [] => []
  | f :: fs => tv p f :: tvs p fs
end

theorem tv_name (p : List UInt8 → Bool) (n : ByteArray) : tv p (.mk 1 n []) = p n.data.toList := by rw [tv]; rfl
theorem tv_true (p : List UInt8 → Bool) : tv p (.mk 2 ⟨#[]⟩ []) = true := by rw [tv]; rfl
theorem tv_false (p : List UInt8 → Bool) : tv p (.mk 3 ⟨#[]⟩ []) = false := by rw [tv]; rfl
theorem tv_not (p : List UInt8 → Bool) (f : Fm) : tv p (.mk 4 ⟨#[]⟩ [f]) = !tv p f := by rw [tv, tvs, tvs]; rfl
theorem tv_and (p : List UInt8 → Bool) (f g : Fm) : tv p (.mk 5 ⟨#[]⟩ [f, g]) = (tv p f && tv p g) := by rw [tv, tvs, tvs, tvs]; rfl
theorem tv_or (p : List UInt8 → Bool) (f g : Fm) : tv p (.mk 6 ⟨#[]⟩ [f, g]) = (tv p f || tv p g) := by rw [tv, tvs, tvs, tvs]; rfl
theorem tv_then (p : List UInt8 → Bool) (f g : Fm) : tv p (.mk 7 ⟨#[]⟩ [f, g]) = (!tv p f || tv p g) := by rw [tv, tvs, tvs, tvs]; rfl

def isM (k : Int) : Bool := decide (k = 8) || decide (k = 9)

mutual
def modal : Fm → Nat → Nat × Bool
  | .mk k _ ks, a => if isM k then (a, true) else modals ks (a + 1)
def modals : List Fm → Nat → Nat × Bool
  | [], a => (a, false)
  | f :: fs, a => if (modal f a).2 then ((modal f a).1, true) else modals fs (modal f a).1
end

/-- The first of these nodes. -/
def mIdx : List Fm → Nat → Nat × Bool
  | [], a => (a, false)
  | f :: fs, a => if isM f.kind then (a, true) else mIdx fs (a + 1)

theorem mIdx_append : ∀ (l m : List Fm) (a : Nat), mIdx (l ++ m) a = if (mIdx l a).2 then mIdx l a else mIdx m (mIdx l a).1
  | [], m, a => by simp [mIdx]
  | f :: fs, m, a => by
    rw [List.cons_append, mIdx, mIdx]
    split
    · simp
    · exact mIdx_append fs m (a + 1)

mutual
theorem modal_idx : ∀ (f : Fm) (a : Nat), modal f a = mIdx (allN f) a
  | .mk k n ks, a => by
    rw [modal, allN, mIdx, modals_idx ks (a + 1)]; rfl
theorem modals_idx : ∀ (fs : List Fm) (a : Nat), modals fs a = mIdx (allNs fs) a
  | [], a => by rw [modals, allNs, mIdx]
  | f :: fs, a => by
    rw [modals, allNs, mIdx_append, modal_idx f a, modals_idx fs]
    split
    · rename_i h
      rw [← h]
    · rfl
end

theorem mIdx_le : ∀ (l : List Fm) (a : Nat), a ≤ (mIdx l a).1 ∧ (mIdx l a).1 ≤ a + l.length ∧ ((mIdx l a).2 = false → (mIdx l a).1 = a + l.length)
  | [], a => by simp [mIdx]
  | f :: fs, a => by
    rw [mIdx]; have := mIdx_le fs (a + 1)
    split
    · simp
    · simp only [List.length_cons]
      (exact ⟨by omega, by omega, fun h => by have := this.2.2 h; omega⟩)

theorem modal_le (f : Fm) (a : Nat) : a ≤ (modal f a).1 ∧ (modal f a).1 ≤ a + f.size := by
  rw [modal_idx]; have := mIdx_le (allN f) a; rw [allN_len] at this; exact ⟨this.1, this.2.1⟩

/-- No box, no diamond anywhere. -/
def Plain (f : Fm) : Prop := (mIdx (allN f) 0).2 = false

theorem mIdx_no : ∀ (l : List Fm) (a : Nat), (mIdx l a).2 = false ↔ ∀ f ∈ l, isM f.kind = false
  | [], a => by simp [mIdx]
  | f :: fs, a => by
    rw [mIdx]
    split
    · rename_i h; simp [h]
    · rename_i h
      rw [mIdx_no fs (a + 1)]; simp [h]

theorem plain_iff (f : Fm) : Plain f ↔ ∀ g ∈ allN f, isM g.kind = false := mIdx_no _ _
theorem Plain.kind {k : Int} {n : ByteArray} {ks : List Fm} (h : Plain (.mk k n ks)) : isM k = false := by
  rw [plain_iff] at h; (exact h (.mk k n ks) (by rw [allN]; simp))
theorem allNs_mem {ks : List Fm} {g x : Fm} (h : g ∈ ks) (hx : x ∈ allN g) : x ∈ allNs ks := by
  induction ks with
  | nil => cases h
  | cons k ks ih =>
    rw [allNs, List.mem_append]
    rcases List.mem_cons.1 h with rfl | h
    · exact Or.inl hx
    · exact Or.inr (ih h)
theorem Plain.kid {k : Int} {n : ByteArray} {ks : List Fm} (h : Plain (.mk k n ks)) {g : Fm} (hg : g ∈ ks) : Plain g := by
  rw [plain_iff] at *; intro x hx; (exact h x (by rw [allN]; exact List.mem_cons_of_mem _ (allNs_mem hg hx)))
end Go.Proofs.Ytlmjnglcdgkomaa
