/- Texts of one proof, one behind the other: CG1. -/
import Derived.Test.YtmahgfgndfcmpabB39
/- What look says of a proof, plain. -/
namespace Go.Proofs.Ytmahgfgndfcmpab
open Go.RowKit

mutual
def Pf.size : Pf → Nat
  | .mk _ _ _ _ ks => Pf.sizes ks + 1
def Pf.sizes : List Pf → Nat
  | [] => 0
  | k :: ks => k.size + Pf.sizes ks
end
theorem pfsizes_get : ∀ {ks : List Pf} {i : Nat} {k : Pf}, ks[i]? = some k → k.size ≤ Pf.sizes ks
  | [], i, k, h => by simp at h
  | x :: ks, 0, k, h => by simp at h; subst h; rw [Pf.sizes]; omega
  | x :: ks, i + 1, k, h => by
    (have := pfsizes_get (ks := ks) (i := i) (k := k) (by simpa using h)); rw [Pf.sizes]; omega
/-- Sides and kids are not too many. -/
def Small : Nat → Pf → Prop
  | 0, _ => True
  | n + 1, .mk _ _ l r ks => l.length ≤ 300 ∧ r.length ≤ 300 ∧ ks.length ≤ 1200 ∧ ∀ k ∈ ks, Small n k
def SmallP (p : Pf) : Prop := ∀ n, Small n p
theorem SmallP.parts {a : ByteArray} {f : Fm} {l r : List Fm} {ks : List Pf} (h : SmallP (.mk a f l r ks)) : l.length ≤ 300 ∧ r.length ≤ 300 ∧ ks.length ≤ 1200 ∧ ∀ k ∈ ks, SmallP k :=
  ⟨(h 1).1, (h 1).2.1, (h 1).2.2.1, fun k hk n => (h (n + 1)).2.2.2 k hk⟩

theorem look_def (i : Bool) (a : ByteArray) (f : Fm) (l r : List Fm) (ks : List Pf) (deep steps cuts : Nat) : look i (.mk a f l r ks) deep steps cuts =
    if steps = 20000 ∨ 400 < deep then ((2, 0), steps, cuts)
    else if stepC i (.mk a f l r ks) ≠ 0 then ((stepC i (.mk a f l r ks), ((steps : Nat) : Int)), steps + 1, cuts)
    else looks i ks (deep + 1) (steps + 1) (if a.data.toList = Ru.cut.text then cuts + 1 else cuts) := by rw [look]

mutual
theorem look_le (i : Bool) : ∀ (p : Pf) (d s c : Nat), s ≤ 20000 → c ≤ s → (look i p d s c).2.1 ≤ 20000 ∧ (look i p d s c).2.2 ≤ (look i p d s c).2.1
  | .mk a f l r ks, d, s, c, hs, hc => by
    rw [look_def]
    split
    · exact ⟨hs, hc⟩
    · split
      · exact ⟨by show s + 1 ≤ 20000; omega, by show c ≤ s + 1; omega⟩
      · exact looks_le i ks (d + 1) (s + 1) _ (by omega) (by split <;> omega)
theorem looks_le (i : Bool) : ∀ (ks : List Pf) (d s c : Nat), s ≤ 20000 → c ≤ s → (looks i ks d s c).2.1 ≤ 20000 ∧ (looks i ks d s c).2.2 ≤ (looks i ks d s c).2.1
  | [], d, s, c, hs, hc => by rw [looks]; exact ⟨hs, hc⟩
  | k :: ks, d, s, c, hs, hc => by
    have hk := look_le i k d s c hs hc; rw [looks]
    split
    · exact hk
    · exact looks_le i ks d _ _ hk.1 hk.2
end
theorem looks_drop {i : Bool} {ks : List Pf} {j : Nat} {k : Pf} (h : ks[j]? = some k) (d s c : Nat) : looks i (ks.drop j) d s c = if (look i k d s c).1.1 ≠ 0 then look i k d s c else looks i (ks.drop (j + 1)) d (look i k d s c).2.1 (look i k d s c).2.2 := by
  have hj : j < ks.length := (List.getElem?_eq_some_iff.1 h).1; rw [List.drop_eq_getElem_cons hj, looks]; rw [List.getElem?_eq_getElem hj] at h; rw [Option.some.inj h]

theorem ck_set2 {w : World} {bc m s c : Nat} {i : Bool} (h : Ck w bc i m s c) (s' : Nat) : Ck (w.setCell ⟨bc, 2, none⟩ (.int .i64 (s' : Nat))) bc i m s' c := by
  unfold Ck at *; simp [World.setCell, Array.getElem?_modify, h]
theorem ck_set3 {w : World} {bc m s c : Nat} {i : Bool} (h : Ck w bc i m s c) (c' : Nat) : Ck (w.setCell ⟨bc, 3, none⟩ (.int .i64 (c' : Nat))) bc i m s c' := by
  unfold Ck at *; simp [World.setCell, Array.getElem?_modify, h]
theorem ck_below {w w' : World} {bc m s c : Nat} {i : Bool} (h : Ck w bc i m s c) (hb : Below w.heap.size w w') : Ck w' bc i m s c := by
  unfold Ck at *; exact below_keep hb h
theorem ck_alloc {w : World} {bc m s c : Nat} {i : Bool} (h : Ck w bc i m s c) (o : Obj) : Ck (w.alloc o) bc i m s c := by
  unfold Ck at *; exact alloc_keep h o
theorem ck_lt {w : World} {bc m s c : Nat} {i : Bool} (h : Ck w bc i m s c) : bc < w.heap.size := lt_of_block h
theorem ck_other {w : World} {bc m s c : Nat} {i : Bool} (h : Ck w bc i m s c) {p : Addr} (hp : p.block ≠ bc) (v : Value) : Ck (w.setCell p v) bc i m s c := by
  unfold Ck at *; rw [Below.heap_setCell _ _ _ _ (Ne.symm hp)]; exact h
/-- All blocks but bc are as they were. -/
abbrev KB1 (bc : Nat) (w w' : World) : Prop := Kept (fun b => b ≠ bc) w w'
theorem kb_below {bc : Nat} {w w' : World} (h : Below w.heap.size w w') : KB1 bc w w' := kept_of_below h fun _ hk _ => hk
theorem kb_base {bc : Nat} {w0 w w' : World} (h : Below w0.heap.size w0 w) (hb : w0.heap.size ≤ bc) (k : KB1 bc w w') : Below w0.heap.size w0 w' :=
  ⟨k.os.trans h.os, k.tape.trans h.tape, k.output.trans h.output, Nat.le_trans h.size k.size, fun j hj => (k.block j (Nat.lt_of_lt_of_le hj h.size) (by omega)).trans (h.block j hj)⟩
theorem kb_keep {bc b : Nat} {w w' : World} {o : Obj} (k : KB1 bc w w') (hb : b ≠ bc) (h : w.heap[b]? = some o) : w'.heap[b]? = some o := (k.block b (lt_of_block h) hb).trans h
end Go.Proofs.Ytmahgfgndfcmpab
