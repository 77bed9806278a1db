/- Texts of one proof, one behind the other: CM1, CC1, CC3, Free4. -/
import Derived.Test.YtheiikkeelbjnajGreatB07
import Derived.Deep.RegionLaw
import Derived.Test.YtheiikkeelbjnajGreatB01
import Derived.Deep.DeepCutAuto
import Derived.Laws.BitsLemmas
import Derived.Deep.RegionHeld3
import Derived.Laws.EntriesVeiled
import Derived.Lib.AppendZerosOnto
import Derived.Lib.SliceRun
import Derived.Maps.OwnSet
import Derived.Shelf.SlMaps.Copy
/- Proofs as data, and what the checker says of them. -/
namespace Go.Proofs.YtheiikkeelbjnajGreat

instance : BEq Fm := ⟨sameB⟩
instance : LawfulBEq Fm where
  eq_of_beq := fun {a b} h => sameB_eq a b h
  rfl := fun {a} => sameB_refl a
instance : DecidableEq Fm := fun a b => if h : (a == b) = true then isTrue (eq_of_beq h) else isFalse fun e => h (by rw [e]; exact sameB_refl b)

def Fm.kidA : Fm → Fm
  | .mk _ _ (a :: _) => a
  | f => f
def Fm.kidB : Fm → Fm
  | .mk _ _ (_ :: b :: _) => b
  | f => f

/-! What is proved is true. -/
end Go.Proofs.YtheiikkeelbjnajGreat
/- Walks: calculus.CheckSequent, isNoEnd. -/
namespace Go.Proofs.YtheiikkeelbjnajGreat
open Go.RowKit

theorem blk_two (w : World) (o o' : Obj) : ((w.alloc o).alloc o').heap[w.heap.size + 1]? = some o' := by
  have := blk_new (w.alloc o) o'
  rwa [show (w.alloc o).heap.size = w.heap.size + 1 by simp] at this
end Go.Proofs.YtheiikkeelbjnajGreat
/- Sequents in memory; facts that stay. -/
namespace Go.Proofs.YtheiikkeelbjnajGreat
open Go.RowKit

/-! The facts on the way through a region. -/
def kEq (x : Value) : Value → World → Prop := fun v _ => v = x
theorem kEq_stays (x : Value) : Stays (kEq x) := fun _ _ _ h _ => h
end Go.Proofs.YtheiikkeelbjnajGreat
/- A frame behind a drawn region whose slots lie in a row. -/
namespace Go.Proofs.YtheiikkeelbjnajGreat
open Go.RowKit

theorem frame_mid2 {ops : Array Oper} {tm : Array Value} {df : List Deferred} {a0 : Act} (lo n : Nat) (hin : (ops.toList.all fun o => match o.dst with | some d => decide (lo ≤ d ∧ lo + n > d) | none => true) = true) (hlen : lo + n ≤ a0.tmps.size) (h : OldSlots ops a0 ⟨tm, df⟩) : ∃ ys : List Value, ys.length = n ∧ tm = ⟨a0.tmps.toList.take lo ++ (ys ++ a0.tmps.toList.drop (lo + n))⟩ ∧ df = a0.defers := by
  obtain ⟨h1, h2, h3⟩ := h; have h1' : tm.toList.length = a0.tmps.toList.length := h1; have hl : lo + n ≤ a0.tmps.toList.length := hlen
  have old : ∀ t, (t < lo ∨ lo + n ≤ t) → tm.toList[t]? = a0.tmps.toList[t]? := fun t ht => by
    have := h3 t (by
      rw [List.all_eq_true] at hin ⊢; intro o ho; have := hin o ho
      cases hd : o.dst with
      | none => rfl
      | some d =>
        rw [hd] at this; have := of_decide_eq_true this; (refine bne_iff_ne.2 fun e => ?_); have e2 : d = t := Option.some.inj e; subst e2
        omega)
    simpa using this
  (refine ⟨(tm.toList.drop lo).take n, by rw [List.length_take, List.length_drop]; omega, ?_, h2⟩); apply Array.ext'; apply List.ext_getElem?; intro t
  rcases Nat.lt_or_ge t lo with ht | ht
  · rw [List.getElem?_append_left (by rw [List.length_take]; omega), List.getElem?_take_of_lt ht]
    exact old t (Or.inl ht)
  · rw [List.getElem?_append_right (by rw [List.length_take]; omega), List.length_take, Nat.min_eq_left (by omega)]
    rcases Nat.lt_or_ge t (lo + n) with ht2 | ht2
    · rw [List.getElem?_append_left (by rw [List.length_take, List.length_drop]; omega), List.getElem?_take_of_lt (by omega), List.getElem?_drop]
      congr 1
      omega
    · rw [List.getElem?_append_right (by rw [List.length_take, List.length_drop]; omega), List.length_take, List.length_drop, Nat.min_eq_left (by omega), List.getElem?_drop, old t (Or.inr ht2)]
      congr 1
      omega
end Go.Proofs.YtheiikkeelbjnajGreat
