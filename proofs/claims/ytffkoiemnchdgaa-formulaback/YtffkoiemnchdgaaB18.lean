/- Texts of one proof, one behind the other: Print1. -/
import Derived.Test.YtffkoiemnchdgaaB17
/- Walks: the writer. -/
namespace Go.Proofs.Ytffkoiemnchdgaa
open Go.RowKit

set_option maxHeartbeats 1000000 in
theorem bindOf_any (k : Int) (w : World) :
    Calls Try.prog 80 #[.int .i64 k] w fun e w' => e = .returned (.int .i64 (bindI k)) ∧ w' = w := by
  go_enter Try.func80, Try.ntmps80
  go_wp2
  all_goals
    go_ret; refine ⟨ret_int ?_, rfl⟩; simp only [beq_iff_eq, beq_eq_false_iff_ne, ne_eq] at *
    first
      | (subst_vars; decide)
      | (unfold bindI; rw [if_neg (by omega), if_neg (by omega), if_neg (by omega)])

/-- What a writing of s leaves. -/
def WPo (B b : Nat) (bs : List Value) (s : List UInt8) (w : World) (e : Ending) (w' : World) : Prop :=
  e = .returned (.tuple #[]) ∧ WR B b (bs ++ Lib.byteCells s) w' ∧ Below B w w' ∧ WK b w w'

def Writes (m : Nat) : Prop := ∀ (B b : Nat) (bs : List Value) (least : Int) (f : Fm) (v : Value) (w : World), f.size < m → Fine f → WR B b bs w → B ≤ w.heap.size → bs.length + (pr least f).length ≤ 100000 → Rep w (· < B) f v →
  Calls Try.prog 44 #[.pointer (some ⟨b, 0, none⟩), v, .int .i64 least] w (WPo B b bs (pr least f) w)

theorem WR.alloc {B b : Nat} {bs : List Value} {w : World} (h : WR B b bs w) (o : Obj) : WR B b bs (w.alloc o) := by
  have aux : ∀ p, Lib.BuilderAt 76 5 B b p bs w → Lib.BuilderAt 76 5 B b p bs (w.alloc o) := fun p h => by
    obtain ⟨h1, v, h2, h3, h4⟩ := h; (exact ⟨h1, v, by rw [Below.heap_alloc _ _ _ (lt_of_block h2)]; exact h2, h3.alloc _, h4⟩)
  rcases h with h | h
  · exact Or.inl (aux _ h)
  · exact Or.inr (aux _ h)

theorem Rep.low {w w' : World} {B : Nat} {f : Fm} {v : Value} (h : Rep w (· < B) f v) (hb : Below B w w') : Rep w' (· < B) f v :=
  h.move fun b _ hb2 => ⟨hb.block b hb2, hb2⟩

theorem Reps.low {w w' : World} {B b off : Nat} {fs : List Fm} (h : Reps w (· < B) b off fs) (hb : b < B) (hk : Below B w w') : Reps w' (· < B) b off fs :=
  h.kept hb (kept_of_below hk (fun _ _ h => h))

theorem WR.lt {B b : Nat} {bs : List Value} {w : World} (h : WR B b bs w) : b < w.heap.size := by
  rcases h with h | h
  · exact h.lt
  · exact h.lt

theorem strCells_eq (s : ByteArray) : Lib.strCells s = Lib.byteCells s.data.toList := rfl
theorem byteCells_append (a b : List UInt8) : Lib.byteCells (a ++ b) = Lib.byteCells a ++ Lib.byteCells b := by simp [Lib.byteCells]

set_option maxHeartbeats 1000000 in
theorem prefix_step (m : Nat) (ih : Writes m) (B b : Nat) (bs : List Value) (k : Int) (n s : ByteArray) (f : Fm) (sl : Option Addr) (cap : Nat) (w : World) (hf : f.size < m) (hfine : Fine f) (hw : WR B b bs w) (hB : B ≤ w.heap.size) (hlen : bs.length + (s.data.toList ++ pr 3 f).length ≤ 100000)
    (hrep : Rep w (· < B) (.mk k n [f]) (.agg #[.int .i64 k, .string n, .slice sl 1 cap])) :
    Calls Try.prog 104 #[.pointer (some ⟨b, 0, none⟩), .string s, .agg #[.int .i64 k, .string n, .slice sl 1 cap]] w (WPo B b bs (s.data.toList ++ pr 3 f) w) := by
  obtain ⟨_, _, hv, hx1, hx2, hx3, hx4⟩ := Rep.def.1 hrep; simp only [Value.agg.injEq, Array.mk.injEq, List.cons.injEq, Value.slice.injEq, and_true, true_and] at hv; obtain ⟨rfl, -, rfl⟩ := hv; (obtain ⟨kb, off, rfl, hkb, hrs⟩ := hx4 (by simp)); obtain ⟨k2, n2, ks2⟩ := f; rw [List.length_append] at hlen; (have hsz : bs.length + s.size ≤ 140737488355328 := by have : s.data.toList.length = s.size := Array.length_toList; omega); have HL : Hid (bs.length + (s.data.toList.length + (pr 3 (.mk k2 n2 ks2)).length) ≤ 100000) := hlen; clear hlen hx4
  go_enter Try.func104, Try.ntmps104
  go_wp2_with (first
    | (go_at_call 82
       (refine (write_string B b bs s _ (hw.alloc _) hsz (by simp; omega)).mono ?_); rintro e w1 ⟨rfl, hw1, hb1, hk1⟩; (have q1 := hk1.block _ _ (blk_new _ _) (by have := hw.lt; omega) (fun c fr h => by cases h)); have f2 := blk_cell q1 2; simp at f2; have hb2 : Below B w w1 := ((Below.refl B w).alloc hB _).trans hb1; obtain ⟨sl2, cap2, g0, g1, g2, hrep2⟩ := (hrs.low hkb hb2).at 0 k2 n2 ks2 rfl
       simp at g0 g1 g2)
    | (go_at_call 44
       (refine (ih B b _ 3 _ _ _ hf hfine hw1 (by have := hb1.size; simp at this; omega) (by have := HL.out; rw [List.length_append, strCells_eq, Lib.byteCells_length]; omega) hrep2).mono ?_)
       rintro e w2 ⟨rfl, hw2, hb3, hk2⟩)
    | fail)
  go_end0
  refine ⟨rfl, ?_, hb2.trans hb3, ((WK.refl b w).alloc _).trans (hk1.trans hk2)⟩; rw [strCells_eq, List.append_assoc, ← byteCells_append] at hw2; exact hw2
end Go.Proofs.Ytffkoiemnchdgaa
