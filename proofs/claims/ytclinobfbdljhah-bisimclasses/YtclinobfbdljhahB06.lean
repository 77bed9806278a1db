/- Texts of one proof, one behind the other: Math9, Math11, MV1. -/
import Derived.Test.YtclinobfbdljhahB01
/- The plain mathematics of layer 1, nine: a formula's nodes, at most so many. -/
namespace Go.Proofs.Ytclinobfbdljhah

mutual
def walkL : Fm → Nat → List Fm
  | .mk k n ks, most => .mk k n ks :: walkK ks most 1
def walkK : List Fm → Nat → Nat → List Fm
  | [], _, _ => []
  | f :: fs, most, c => if c ≤ most then walkL f (most - c) ++ walkK fs most (c + (walkL f (most - c)).length) else []
end

mutual
theorem walkL_le : ∀ (f : Fm) (most : Nat), (walkL f most).length ≤ most + 1
  | .mk k n ks, most => by
    rw [walkL, List.length_cons]; (have := walkK_le ks most 1 (by omega)); omega
theorem walkK_le : ∀ (fs : List Fm) (most c : Nat), c ≤ most + 1 → c + (walkK fs most c).length ≤ most + 1
  | [], most, c, h => by rw [walkK]; simpa using h
  | f :: fs, most, c, h => by
    rw [walkK]
    split
    · rename_i hc
      have a := walkL_le f (most - c); (have b := walkK_le fs most (c + (walkL f (most - c)).length) (by omega)); rw [List.length_append]; omega
    · simpa using h
end

/-! All nodes, each ahead of its kids. -/
mutual
def allN : Fm → List Fm
  | .mk k n ks => .mk k n ks :: allNs ks
def allNs : List Fm → List Fm
  | [] => []
  | f :: fs => allN f ++ allNs fs
end

theorem take_app {α : Type} (a b : List α) (n : Nat) : (a ++ b).take n = a.take n ++ b.take (n - a.length) := List.take_append
mutual
theorem walkL_take : ∀ (f : Fm) (most : Nat), walkL f most = (allN f).take (most + 1)
  | .mk k n ks, most => by
    (rw [walkL, allN, List.take_succ_cons, walkK_take ks most 1 (by omega)]); rfl
theorem walkK_take : ∀ (fs : List Fm) (most c : Nat), c ≤ most + 1 → walkK fs most c = (allNs fs).take (most + 1 - c)
  | [], most, c, _ => by rw [walkK, allNs]; simp
  | f :: fs, most, c, h => by
    rw [walkK, allNs]
    split
    · rename_i hc
      (have e : most - c + 1 = most + 1 - c := by omega); have hl := walkL_le f (most - c); have hL := walkL_take f (most - c); rw [e] at hL; (rw [walkK_take fs most (c + (walkL f (most - c)).length) (by omega), take_app, ← hL])
      congr 1
      by_cases hlt : (allN f).length ≤ most + 1 - c
      · have : (walkL f (most - c)).length = (allN f).length := by rw [hL, List.length_take]; omega
        rw [this]; congr 1; omega
      · have : (walkL f (most - c)).length = most + 1 - c := by rw [hL, List.length_take]; omega
        (rw [this, show most + 1 - (c + (most + 1 - c)) = 0 by omega, show most + 1 - c - (allN f).length = 0 by omega])
    · have : most + 1 - c = 0 := by omega
      rw [this]; simp
end

end Go.Proofs.Ytclinobfbdljhah
/- The plain mathematics of layer 1, eleven: Check, node by node in a list. -/
namespace Go.Proofs.Ytclinobfbdljhah

/-- The first fault of a list of nodes, from number s on. -/
def run : List Fm → Nat → Chk
  | [], s => .ok s
  | .mk k n ks :: fs, s => if s = 200 then .bad 2 0 else match nodeF k n ks.length with
    | some c => .bad c s
    | none => run fs (s + 1)

mutual
theorem run_all : ∀ (f : Fm) (rest : List Fm) (s : Nat), run (allN f ++ rest) s = match chk f s with | .bad c a => .bad c a | .ok s' => run rest s'
  | .mk k n ks, rest, s => by
    rw [allN, List.cons_append, run, chk]; by_cases h : s = 200
    · rw [if_pos h, if_pos h]
    · rw [if_neg h, if_neg h]
      cases nodeF k n ks.length with
      | some c => rfl
      | none => exact runs_all ks rest (s + 1)
theorem runs_all : ∀ (fs : List Fm) (rest : List Fm) (s : Nat), run (allNs fs ++ rest) s = match chks fs s with | .bad c a => .bad c a | .ok s' => run rest s'
  | [], rest, s => by rw [allNs, chks]; rfl
  | f :: fs, rest, s => by
    rw [allNs, List.append_assoc, run_all f _ s, chks]
    cases chk f s with
    | bad c a => rfl
    | ok s' => exact runs_all fs rest s'
end

theorem run_take : ∀ (l : List Fm) (m s : Nat), 201 ≤ m + s → s ≤ 200 → run (l.take m) s = run l s
  | [], m, s, _, _ => by simp
  | .mk k n ks :: l, m, s, h, hs => by
    cases m with
    | zero => omega
    | succ m =>
      rw [List.take_succ_cons, run, run]; by_cases h2 : s = 200
      · rw [if_pos h2, if_pos h2]
      · rw [if_neg h2, if_neg h2]
        cases nodeF k n ks.length with
        | some c => rfl
        | none => exact run_take l m (s + 1) (by omega) (by omega)

theorem run_walk (f : Fm) : run (walkL f 201) 0 = chk f 0 := by
  (rw [walkL_take, run_take _ _ _ (by omega) (by omega)]); have := run_all f [] 0; rw [List.append_nil] at this; rw [this]
  cases chk f 0 <;> rfl

theorem run_drop {l : List Fm} {i : Nat} {k : Int} {n : ByteArray} {ks : List Fm} (h : l[i]? = some (.mk k n ks)) (s : Nat) : run (l.drop i) s = if s = 200 then .bad 2 0 else match nodeF k n ks.length with
    | some c => .bad c s
    | none => run (l.drop (i + 1)) (s + 1) := by
  have hi : i < l.length := by
    rcases Nat.lt_or_ge i l.length with h' | h'
    · exact h'
    · rw [List.getElem?_eq_none h'] at h; cases h
  rw [List.drop_eq_getElem_cons hi]; rw [List.getElem?_eq_getElem hi] at h; rw [Option.some.inj h, run]
end Go.Proofs.Ytclinobfbdljhah
/- Where a formula is true at worlds, plain: boxes and diamonds. -/
namespace Go.Proofs.Ytclinobfbdljhah

/-- A node of a formula at a world, by what its kids are there and elsewhere: boxes and diamonds. -/
def mval (S : Nat → List Nat) (k : Int) (pn : Nat → Bool) (l : List (Nat → Bool)) (u : Nat) : Bool :=
  if k = 1 then pn u else if k = 4 then !(l.getD 0 (fun _ => false) u) else if k = 5 then l.getD 0 (fun _ => false) u && l.getD 1 (fun _ => false) u else if k = 6 then l.getD 0 (fun _ => false) u || l.getD 1 (fun _ => false) u else if k = 7 then !(l.getD 0 (fun _ => false) u) || l.getD 1 (fun _ => false) u else if k = 8 then (S u).all (l.getD 0 fun _ => false) else if k = 9 then (S u).any (l.getD 0 fun _ => false) else decide (k = 2)
mutual
def mtv (S : Nat → List Nat) (p : Nat → List UInt8 → Bool) : Fm → Nat → Bool
  | .mk k n ks => mval S k (fun u => p u n.data.toList) (mtvs S p ks)
def mtvs (S : Nat → List Nat) (p : Nat → List UInt8 → Bool) : List Fm → List (Nat → Bool)
  | [] => []
  | f :: fs => mtv S p f :: mtvs S p fs
end
end Go.Proofs.Ytclinobfbdljhah
