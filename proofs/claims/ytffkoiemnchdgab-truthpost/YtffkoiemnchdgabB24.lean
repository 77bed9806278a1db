/- Texts of one proof, one behind the other: TC1. -/
import Derived.Test.YtffkoiemnchdgabB23
/- Walks: tables; the classes of Post's, one by one. -/
namespace Go.Proofs.Ytffkoiemnchdgab
open Go.RowKit

/-- A table as data. -/
structure Tb where
  n : Nat
  bits : List Bool

/-- A table that is none is not asked of its class. -/
def Tb.Ok (t : Tb) : Prop := t.n ≤ 4 ∧ t.bits.length = 2 ^ t.n

def TR (w : World) (t : Tb) (v : Value) : Prop := ∃ ad cap, v = .agg #[.int .i64 (t.n : Nat), .slice ad t.bits.length cap] ∧ BL w (.slice ad t.bits.length cap) t.bits
theorem TR.up {w w' : World} {t : Tb} {v : Value} (h : TR w t v) (hb : Below w.heap.size w w') : TR w' t v := by
  obtain ⟨ad, cap, h1, h2⟩ := h; exact ⟨ad, cap, h1, h2.up hb⟩

def cls0 (l : List Bool) : Bool := !l.getD 0 false
def cls1 (l : List Bool) : Bool := l.getD (l.length - 1) false
def cls2 (l : List Bool) : Bool := (List.range l.length).all fun k => l.getD k false != l.getD (l.length - 1 - k) false
def cls3 (n : Nat) (l : List Bool) : Bool := (List.range l.length).all fun r => (List.range n).all fun i => !(l.getD r false && !l.getD (r ||| 2 ^ i) false)
def sumTo (l : List Bool) (r : Nat) : Nat → Bool
  | 0 => l.getD 0 false
  | i + 1 => if (l.getD (2 ^ i) false != l.getD 0 false) && r.testBit i then !sumTo l r i else sumTo l r i
def cls4 (n : Nat) (l : List Bool) : Bool := (List.range l.length).all fun r => !(sumTo l r n != l.getD r false)

theorem Tb.Ok.len {t : Tb} (h : t.Ok) : 1 ≤ t.bits.length ∧ t.bits.length ≤ 16 := by
  obtain ⟨h1, h2⟩ := h; rw [h2]; (have : t.n = 0 ∨ t.n = 1 ∨ t.n = 2 ∨ t.n = 3 ∨ t.n = 4 := by omega)
  rcases this with h | h | h | h | h <;> rw [h] <;> decide

/-- Its cells. -/
theorem TR.cells {w : World} {t : Tb} {v : Value} (h : TR w t v) (hok : t.Ok) : ∃ g off cap, v = .agg #[.int .i64 (t.n : Nat), .slice (some ⟨g, off, none⟩) t.bits.length cap] ∧ t.bits.length ≤ cap ∧ ∀ j, j < t.bits.length → w.cell? ⟨g, off + j, none⟩ = some (.bool (t.bits.getD j false)) := by
  obtain ⟨ad, cap, rfl, ad', cap', h1, h2, h3, h4⟩ := h; simp only [Value.slice.injEq, true_and] at h1; obtain ⟨rfl, rfl⟩ := h1; have := hok.len; (obtain ⟨g, off, rfl, h5⟩ := h4 (fun e => by rw [e] at this; simp at this)); (refine ⟨g, off, cap, rfl, h2, fun j hj => h5 j _ ?_⟩); rw [List.getD_eq_getElem?_getD, List.getElem?_eq_getElem hj]; rfl

theorem range_all_take (f : Nat → Bool) (n i : Nat) (hi : i < n) (_h : ∀ j, j < i → f j = true) (hf : f i = false) : (List.range n).all f = false := by
  rw [List.all_eq_false]; (exact ⟨i, List.mem_range.2 hi, by simp [hf]⟩)
theorem range_all (f : Nat → Bool) (n : Nat) (h : ∀ j, j < n → f j = true) : (List.range n).all f = true := by
  rw [List.all_eq_true]; (exact fun j hj => h j (List.mem_range.1 hj))

set_option maxHeartbeats 1000000 in
theorem class0_any (t : Tb) (hok : t.Ok) (v : Value) (w : World) (h : TR w t v) :
    Calls Try.prog 57 #[v] w fun e w' => e = .returned (.bool (cls0 t.bits)) ∧ Below w.heap.size w w' := by
  obtain ⟨g, off, cap, rfl, hc, hcells⟩ := h.cells hok; have hl := hok.len; have B0 := below_more (Below.refl _ w) (.cells #[.int .i64 (t.n : Nat), .slice (some ⟨g, off, none⟩) t.bits.length cap] 33 (0, 0)); (have c0 := (B0.cell (p := ⟨g, off + 0, none⟩) (lt_of_cell (hcells 0 (by omega)))).trans (hcells 0 (by omega))); rw [Nat.add_zero] at c0; have HR : Hid (cls0 t.bits = !t.bits.getD 0 false) := rfl; generalize t.bits.getD 0 false = bb at *; (have hlI : (1 : Int) ≤ (t.bits.length : Int) := by omega); (have hlc : (1 : Int) ≤ (cap : Int) := by omega); (have hlI0 : (0 : Int) < (t.bits.length : Int) := by omega); (have hlc0 : (0 : Int) < (cap : Int) := by omega); clear hcells h hok
  go_enter Try.func57, Try.ntmps57
  go_wp2_with fail; go_ret; (exact ⟨by rw [HR.out]; rfl, B0⟩)

set_option maxHeartbeats 1000000 in
theorem class1_any (t : Tb) (hok : t.Ok) (v : Value) (w : World) (h : TR w t v) :
    Calls Try.prog 58 #[v] w fun e w' => e = .returned (.bool (cls1 t.bits)) ∧ Below w.heap.size w w' := by
  obtain ⟨g, off, cap, rfl, hc, hcells⟩ := h.cells hok; have hl := hok.len; (obtain ⟨L, hL⟩ : ∃ L, t.bits.length = L + 1 := ⟨t.bits.length - 1, by omega⟩); have B0 := below_more (Below.refl _ w) (.cells #[.int .i64 (t.n : Nat), .slice (some ⟨g, off, none⟩) t.bits.length cap] 33 (0, 0)); (have c0 := (B0.cell (p := ⟨g, off + L, none⟩) (lt_of_cell (hcells L (by omega)))).trans (hcells L (by omega))); (have HR : Hid (cls1 t.bits = t.bits.getD L false) := by show _ = _; unfold cls1; rw [hL]; rfl); generalize t.bits.getD L false = bb at *; generalize t.bits.length = M at *; subst hL; (have hlI : (L : Int) ≤ 15 := by omega); (have hlc : (L : Int) < (cap : Int) := by omega); clear hcells h hok
  go_enter Try.func58, Try.ntmps58
  go_wp2_with fail; go_ret; (exact ⟨by rw [HR.out]; rfl, B0⟩)
end Go.Proofs.Ytffkoiemnchdgab
