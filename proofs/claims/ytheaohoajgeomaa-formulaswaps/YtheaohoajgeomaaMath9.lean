/- The plain mathematics of layer 1, nine: a formula's nodes, at most so many. -/
import Derived.Test.YtheaohoajgeomaaMath8
namespace Go.Proofs.Ytheaohoajgeomaa

mutual
def walkL : Fm → Nat → List Fm
  | .mk k n ks, most => .mk k n ks :: walkK ks most 1
def walkK : List Fm → Nat → Nat → List Fm
  | [], _, _ => []
  | f :: fs, most, c => if c ≤ most then walkL f (most - c) ++ walkK fs most (c + (walkL f (most - c)).length) else []
end

mutual
theorem walkL_le : ∀ (f : Fm) (most : Nat), (walkL f most).length ≤ most + 1
  | .mk k n ks, most => by
    rw [walkL, List.length_cons]
    have := walkK_le ks most 1 (by omega)
    omega
theorem walkK_le : ∀ (fs : List Fm) (most c : Nat), c ≤ most + 1 → c + (walkK fs most c).length ≤ most + 1
  | [], most, c, h => by rw [walkK]; simpa using h
  | f :: fs, most, c, h => by
    rw [walkK]
    split
    · rename_i hc
      have a := walkL_le f (most - c)
      have b := walkK_le fs most (c + (walkL f (most - c)).length) (by omega)
      rw [List.length_append]; omega
    · simpa using h
end

/-! All nodes, each ahead of its kids. -/
mutual
def allN : Fm → List Fm
  | .mk k n ks => .mk k n ks :: allNs ks
def allNs : List Fm → List Fm
  | [] => []
  | f :: fs => allN f ++ allNs fs
end
mutual
theorem allN_len : ∀ f : Fm, (allN f).length = f.size
  | .mk k n ks => by rw [allN, List.length_cons, allNs_len ks, Fm.size]
theorem allNs_len : ∀ fs : List Fm, (allNs fs).length = Fm.sizes fs
  | [] => by rw [allNs, Fm.sizes]; rfl
  | f :: fs => by rw [allNs, List.length_append, allN_len f, allNs_len fs, Fm.sizes]
end

theorem take_app {α : Type} (a b : List α) (n : Nat) : (a ++ b).take n = a.take n ++ b.take (n - a.length) := List.take_append
mutual
theorem walkL_take : ∀ (f : Fm) (most : Nat), walkL f most = (allN f).take (most + 1)
  | .mk k n ks, most => by
    rw [walkL, allN, List.take_succ_cons, walkK_take ks most 1 (by omega)]
    rfl
theorem walkK_take : ∀ (fs : List Fm) (most c : Nat), c ≤ most + 1 → walkK fs most c = (allNs fs).take (most + 1 - c)
  | [], most, c, _ => by rw [walkK, allNs]; simp
  | f :: fs, most, c, h => by
    rw [walkK, allNs]
    split
    · rename_i hc
      have e : most - c + 1 = most + 1 - c := by omega
      have hl := walkL_le f (most - c)
      have hL := walkL_take f (most - c)
      rw [e] at hL
      rw [walkK_take fs most (c + (walkL f (most - c)).length) (by omega), take_app, ← hL]
      congr 1
      by_cases hlt : (allN f).length ≤ most + 1 - c
      · have : (walkL f (most - c)).length = (allN f).length := by rw [hL, List.length_take]; omega
        rw [this]; congr 1; omega
      · have : (walkL f (most - c)).length = most + 1 - c := by rw [hL, List.length_take]; omega
        rw [this, show most + 1 - (c + (most + 1 - c)) = 0 by omega, show most + 1 - c - (allN f).length = 0 by omega]
    · have : most + 1 - c = 0 := by omega
      rw [this]; simp
end

theorem walk_len (f : Fm) (most : Nat) : (walkL f most).length = min (most + 1) f.size := by
  rw [walkL_take, List.length_take, allN_len]
end Go.Proofs.Ytheaohoajgeomaa
