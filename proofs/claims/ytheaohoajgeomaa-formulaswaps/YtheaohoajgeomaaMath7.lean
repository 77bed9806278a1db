/- The plain mathematics of layer 1, seven: the yardstick's tokens. -/
import Derived.Test.YtheaohoajgeomaaMath6
namespace Go.Proofs.Ytheaohoajgeomaa

/-- The signs, in the yardstick's order. -/
def sg (k : Nat) : List UInt8 := [[45, 62], [91, 93], [60, 62], [126], [38], [124], [40], [41], [49], [48]].getD k []

/-- The first sign from number k on with which r begins. -/
def signAt : Nat → Nat → List UInt8 → Option Nat
  | 0, _, _ => none
  | m + 1, k, r => if (sg k).isPrefixOf r then some k else signAt m (k + 1) r

/-- A token: its text, and what is left from it on and behind it. -/
def tok (l : List UInt8) : List UInt8 × List UInt8 × List UInt8 :=
  let r := skipB l
  if r = [] then ([], r, r) else
  match signAt 10 0 r with
  | some k => (sg k, r, r.drop (sg k).length)
  | none => if isNm (letters r) then (letters r, r, r.drop (letters r).length) else ([63], r, r.drop 1)

theorem sg_len (k : Nat) : (sg k).length ≤ 2 := by
  rcases Nat.lt_or_ge k 10 with h | h
  · have : k = 0 ∨ k = 1 ∨ k = 2 ∨ k = 3 ∨ k = 4 ∨ k = 5 ∨ k = 6 ∨ k = 7 ∨ k = 8 ∨ k = 9 := by omega
    rcases this with e | e | e | e | e | e | e | e | e | e <;> subst e <;> decide
  · have : sg k = [] := by
      unfold sg
      rw [List.getD_eq_getElem?_getD, List.getElem?_eq_none (by simpa using h)]; rfl
    rw [this]; simp

def allLow (l : List UInt8) : Bool := l.all lower
theorem letters_of_all : ∀ (l : List UInt8), allLow l = true → letters l = l
  | [], _ => rfl
  | c :: l, h => by
    simp only [allLow, List.all_cons, Bool.and_eq_true] at h
    rw [letters, if_pos h.1, letters_of_all l h.2]
theorem all_of_letters : ∀ (l : List UInt8), (letters l).length = l.length → allLow l = true
  | [], _ => rfl
  | c :: l, h => by
    rw [letters] at h
    split at h
    · rename_i hc
      simp only [allLow, List.all_cons, Bool.and_eq_true]
      exact ⟨hc, all_of_letters l (by simpa using h)⟩
    · simp at h
theorem isNm_all (l : List UInt8) : isNm l = (allLow l && decide (0 < l.length) && decide (l.length < 9)) := by
  unfold isNm
  rcases h : allLow l with _ | _
  · have : ¬ (letters l).length = l.length := fun e => by rw [all_of_letters l e] at h; cases h
    simp [this]
  · rw [letters_of_all l h]
    have e1 : (l ≠ []) ↔ 0 < l.length := List.length_pos_iff.symm
    have e2 : (l.length ≤ 8) ↔ l.length < 9 := by omega
    rw [Bool.eq_iff_iff]
    simp only [Bool.and_eq_true, decide_eq_true_eq, e1, e2, Bool.true_and, and_true]
end Go.Proofs.Ytheaohoajgeomaa
