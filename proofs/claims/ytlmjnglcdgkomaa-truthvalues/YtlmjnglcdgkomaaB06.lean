/- Texts of one proof, one behind the other: Math11. -/
import Derived.Test.YtlmjnglcdgkomaaB01
/- The plain mathematics of layer 1, eleven: Check, node by node in a list. -/
namespace Go.Proofs.Ytlmjnglcdgkomaa

/-- The first fault of a list of nodes, from number s on. -/
def run : List Fm → Nat → Chk
  | [], s => .ok s
  | .mk k n ks :: fs, s => if s = 200 then .bad 2 0 else match nodeF k n ks.length with
    | some c => .bad c s
    | none => run fs (s + 1)

mutual
theorem run_all : ∀ (f : Fm) (rest : List Fm) (s : Nat), run (allN f ++ rest) s = match chk f s with | .bad c a => .bad c a | .ok s' => run rest s'
  | .mk k n ks, rest, s => by
    rw [allN, List.cons_append, run, chk]; by_cases h : s = 200
    · rw [if_pos h, if_pos h]
    · rw [if_neg h, if_neg h]
      cases nodeF k n ks.length with
      | some c => rfl
      | none => exact runs_all ks rest (s + 1)
theorem runs_all : ∀ (fs : List Fm) (rest : List Fm) (s : Nat), run (allNs fs ++ rest) s = match chks fs s with | .bad c a => .bad c a | .ok s' => run rest s'
  | [], rest, s => by rw [allNs, chks]; rfl
  | f :: fs, rest, s => by
    rw [allNs, List.append_assoc, run_all f _ s, chks]
    cases chk f s with
    | bad c a => rfl
    | ok s' => exact runs_all fs rest s'
end

theorem run_take : ∀ (l : List Fm) (m s : Nat), 201 ≤ m + s → s ≤ 200 → run (l.take m) s = run l s
  | [], m, s, _, _ => by simp
  | .mk k n ks :: l, m, s, h, hs => by
    cases m with
    | zero => omega
    | succ m =>
      rw [List.take_succ_cons, run, run]; by_cases h2 : s = 200
      · rw [if_pos h2, if_pos h2]
      · rw [if_neg h2, if_neg h2]
        cases nodeF k n ks.length with
        | some c => rfl
        | none => exact run_take l m (s + 1) (by omega) (by omega)

theorem run_walk (f : Fm) : run (walkL f 201) 0 = chk f 0 := by
  (rw [walkL_take, run_take _ _ _ (by omega) (by omega)]); have := run_all f [] 0; rw [List.append_nil] at this; rw [this]
  cases chk f 0 <;> rfl

theorem run_drop {l : List Fm} {i : Nat} {k : Int} {n : ByteArray} {ks : List Fm} (h : l[i]? = some (.mk k n ks)) (s : Nat) : run (l.drop i) s = if s = 200 then .bad 2 0 else match nodeF k n ks.length with
    | some c => .bad c s
    | none => run (l.drop (i + 1)) (s + 1) := by
  have hi : i < l.length := by
    rcases Nat.lt_or_ge i l.length with h' | h'
    · exact h'
    · rw [List.getElem?_eq_none h'] at h; cases h
  rw [List.drop_eq_getElem_cons hi]; rw [List.getElem?_eq_getElem hi] at h; rw [Option.some.inj h, run]
end Go.Proofs.Ytlmjnglcdgkomaa
