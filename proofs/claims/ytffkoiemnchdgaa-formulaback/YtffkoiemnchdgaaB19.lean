/- Texts of one proof, one behind the other: Print2. -/
import Derived.Test.YtffkoiemnchdgaaB18
/- Walks: the writer, two. -/
namespace Go.Proofs.Ytffkoiemnchdgaa
open Go.RowKit

set_option maxHeartbeats 1000000 in
theorem infix_step (m : Nat) (ih : Writes m) (B b : Nat) (bs : List Value) (k lf rt : Int) (n s : ByteArray) (f g : Fm) (sl : Option Addr) (cap : Nat) (w : World) (hf : f.size < m) (hg : g.size < m) (hfine : Fine f) (gfine : Fine g) (hw : WR B b bs w) (hB : B ≤ w.heap.size) (hlen : bs.length + (pr lf f ++ s.data.toList ++ pr rt g).length ≤ 100000)
    (hrep : Rep w (· < B) (.mk k n [f, g]) (.agg #[.int .i64 k, .string n, .slice sl 2 cap])) :
    Calls Try.prog 105 #[.pointer (some ⟨b, 0, none⟩), .agg #[.int .i64 k, .string n, .slice sl 2 cap], .int .i64 lf, .string s, .int .i64 rt] w (WPo B b bs (pr lf f ++ s.data.toList ++ pr rt g) w) := by
  obtain ⟨_, _, hv, hx1, hx2, hx3, hx4⟩ := Rep.def.1 hrep; simp only [Value.agg.injEq, Array.mk.injEq, List.cons.injEq, Value.slice.injEq, and_true, true_and] at hv; obtain ⟨rfl, -, rfl⟩ := hv; (obtain ⟨kb, off, rfl, hkb, hrs⟩ := hx4 (by simp)); obtain ⟨k2, n2, ks2⟩ := f; obtain ⟨k3, n3, ks3⟩ := g; obtain ⟨sl2, cap2, g0, g1, g2, hrep2⟩ := (hrs.low hkb ((Below.refl B w).alloc hB (.cells #[.int .i64 k, .string n, .slice (some ⟨kb, off, none⟩) 2 cap] 24 (0, 0)))).at 0 k2 n2 ks2 rfl; simp at g0 g1 g2; rw [List.length_append, List.length_append] at hlen; have hsl : s.data.toList.length = s.size := Array.length_toList; (have hsz : (bs ++ Lib.byteCells (pr lf (.mk k2 n2 ks2))).length + s.size ≤ 140737488355328 := by rw [List.length_append, Lib.byteCells_length]; omega); have HL : Hid (bs.length + (((pr lf (.mk k2 n2 ks2)).length + s.data.toList.length) + (pr rt (.mk k3 n3 ks3)).length) ≤ 100000) := hlen; (have l1 : bs.length + (pr lf (.mk k2 n2 ks2)).length ≤ 100000 := by omega); have hbl := hw.lt; clear hlen hx4 hsl
  go_enter Try.func105, Try.ntmps105
  go_wp2_with (first
    | (go_at_call_of 44 (Value.agg #[Value.int .i64 k2, Value.string n2, Value.slice sl2 ks2.length cap2])
       (refine (ih B b bs lf _ _ _ hf hfine (hw.alloc _) (by simp; omega) l1 hrep2).mono ?_); rintro e w1 ⟨rfl, hw1, hb1, hk1⟩; have z1 := hb1.size; simp at z1
       have q1 := hk1.block _ _ (blk_new _ _) (by omega) (fun c fr h => by cases h))
    | (go_at_call 82
       (refine (write_string B b _ s _ hw1 hsz (by omega)).mono ?_); rintro e w2 ⟨rfl, hw2, hb2, hk2⟩; have z2 := hb2.size; (have q2 := hk2.block _ _ q1 (by omega) (fun c fr h => by cases h)); have f2 := blk_cell q2 2; simp at f2; obtain ⟨sl3, cap3, g3, g4, g5, hrep3⟩ := (hrs.low hkb ((((Below.refl B w).alloc hB _).trans hb1).trans hb2)).at 1 k3 n3 ks3 rfl
       simp at g3 g4 g5)
    | (go_at_call 44
       (refine (ih B b _ rt _ _ _ hg gfine hw2 (by omega) (by have := HL.out; rw [List.length_append, List.length_append, strCells_eq, Lib.byteCells_length, Lib.byteCells_length]; omega) hrep3).mono ?_)
       rintro e w3 ⟨rfl, hw3, hb3, hk3⟩)
    | fail)
  go_end0
  refine ⟨rfl, ?_, (((Below.refl B w).alloc hB _).trans hb1).trans (hb2.trans hb3), ((WK.refl b w).alloc _).trans (hk1.trans (hk2.trans hk3))⟩; rw [strCells_eq, List.append_assoc, List.append_assoc, ← byteCells_append, ← byteCells_append, ← List.append_assoc (pr lf _)] at hw3; exact hw3
end Go.Proofs.Ytffkoiemnchdgaa
