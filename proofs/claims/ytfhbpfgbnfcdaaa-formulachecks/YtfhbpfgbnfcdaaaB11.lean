/- Texts of one proof, one behind the other: Build, Print1, Print2. -/
import Derived.Test.YtfhbpfgbnfcdaaaB10
import Derived.Test.YtfhbpfgbnfcdaaaB04
import Derived.Lib.Builder
import Derived.Lib.AppendStr
import Derived.Lib.UnsafeStr
import Derived.Laws.Externs
/- Walks: the builder inside a writer: the same two cells, in a block of the writer's type. -/
namespace Go.Proofs.Ytfhbpfgbnfcdaaa
open Go.RowKit

/-- A writer in block b (from B on) that has written bs. -/
def WR (B b : Nat) (bs : List Value) (w : World) : Prop := Lib.IsBuilder 76 5 B b bs w

/-- All that was there is as it was, but the writer's own block and blocks of bytes. -/
structure WK (b : Nat) (w w' : World) : Prop where
  size : w.heap.size ≤ w'.heap.size
  block : ∀ k o, w.heap[k]? = some o → k ≠ b → (∀ c fr, o ≠ .cells c 5 fr) → w'.heap[k]? = some o

theorem WK.refl (b : Nat) (w : World) : WK b w w := ⟨Nat.le_refl _, fun _ _ h _ _ => h⟩
theorem WK.trans {b : Nat} {w w1 w2 : World} (h : WK b w w1) (k : WK b w1 w2) : WK b w w2 :=
  ⟨Nat.le_trans h.size k.size, fun i o hi hb ho => k.block i o (h.block i o hi hb ho) hb ho⟩
theorem WK.alloc {b : Nat} {w w1 : World} (h : WK b w w1) (o : Obj) : WK b w (w1.alloc o) :=
  h.trans ⟨by simp, fun k _ hk _ _ => (Below.heap_alloc _ _ _ (lt_of_block hk)).trans hk⟩
theorem WK.set {b : Nat} {w w1 : World} (h : WK b w w1) (o : Nat) (v : Value) : WK b w (w1.setCell ⟨b, o, none⟩ v) :=
  h.trans ⟨by simp [World.setCell], fun _ _ hk hb _ => (Below.heap_setCell _ _ _ _ hb).trans hk⟩
theorem WK.drew {b : Nat} {w w1 : World} (h : WK b w w1) : WK b w w1.drew := ⟨h.size, h.block⟩

theorem infoBuilder : ∃ j, Try.prog.info? 74 = some j ∧ j.size = 2 :=
  Option.map_eq_some_iff.1 (show (Try.prog.info? 74).map (·.size) = some 2 by kernel_rfl)

theorem liesIn : liesAt Try.prog Try.prog.depth 76 (2 / Try.prog.cellsOf 76) 0 74 1 = true := by kernel_rfl

set_option maxHeartbeats 1000000 in
set_option maxRecDepth 100000 in
theorem copy_used (b : Nat) (w : World) (h0 : w.cell? ⟨b, 0, none⟩ = some (.pointer (some ⟨b, 0, none⟩))) :
    Calls Try.prog 106 #[.pointer (some ⟨b, 0, none⟩)] w fun e w' => e = .returned (.tuple #[]) ∧ w' = w := by
  obtain ⟨j, hj, -⟩ := infoBuilder
  go_enter Try.func106, Try.ntmps106
  go_wp2; rw [Lib.run_neq_ptr_same w _ Try.underlying71 hj]; go_wp2
  go_end0
  exact ⟨rfl, rfl⟩

set_option maxHeartbeats 1000000 in
set_option maxRecDepth 100000 in
theorem copy_fresh (b : Nat) (w : World) (h0 : w.cell? ⟨b, 0, none⟩ = some (.pointer none)) (hsh : w.shape? b = some (76, 2)) (hfz : w.frozen? ⟨b, 0, none⟩ = false) :
    Calls Try.prog 106 #[.pointer (some ⟨b, 0, none⟩)] w fun e w' => e = .returned (.tuple #[]) ∧ w' = w.setCell ⟨b, 0, none⟩ (.pointer (some ⟨b, 0, none⟩)) := by
  obtain ⟨j, hj, hs⟩ := infoBuilder
  go_enter Try.func106, Try.ntmps106
  go_wp2; (rw [Lib.run_to_unsafe w ⟨b, 0, none⟩ Try.underlying71 Try.underlying153 hj (by rw [hs]; decide) hsh (Nat.zero_lt_succ 1)]); simp only [Result.andThen]; rw [Oper.upon_value]; go_wp2; (rw [run_callFunc_extern Try.func130 (by kernel_rfl) (by kernel_rfl) (by kernel_rfl) (e := Extern.AbiNoEscape.same) (by kernel_rfl), Lib.run_noEscape]); simp only [Result.andThen]; rw [Oper.upon_value]; go_wp2; rw [Lib.run_from_unsafe w ⟨b, 0, none⟩ Try.underlying153 Try.underlying71 hj hsh liesIn]; simp only [Result.andThen]; rw [Oper.upon_value]; go_wp2
  go_end0
  exact ⟨rfl, rfl⟩

theorem copy_any (B b : Nat) (bs : List Value) (w : World) (h : WR B b bs w) :
    Calls Try.prog 106 #[.pointer (some ⟨b, 0, none⟩)] w fun e w' => e = .returned (.tuple #[]) ∧ Lib.BuilderAt 76 5 B b (.pointer (some ⟨b, 0, none⟩)) bs w' ∧ Below B w w' ∧ WK b w w' := by
  rcases h with h | h
  · refine (copy_fresh b w h.cell0 h.shape h.frozen0).mono ?_
    rintro e w' ⟨rfl, rfl⟩; exact ⟨rfl, h.used _, (Below.refl B w).setCell (p := ⟨b, 0, none⟩) h.1 _, (WK.refl b w).set 0 _⟩
  · refine (copy_used b w h.cell0).mono ?_
    rintro e w' ⟨rfl, rfl⟩; exact ⟨rfl, h, Below.refl B _, WK.refl b _⟩

theorem infoByte : ∃ i, Try.prog.info? 5 = some i ∧ i.zero = some (.int .u8 0) ∧ i.size = 1 ∧ i.bytes = 1 := by
  (obtain ⟨i, hi, h⟩ := Option.map_eq_some_iff.1 (show (Try.prog.info? 5).map (fun i => (i.zero, i.size, i.bytes)) = some (some (.int .u8 0), 1, 1) by kernel_rfl)); simp only [Prod.mk.injEq] at h; exact ⟨i, hi, h.1, h.2.1, h.2.2⟩

set_option maxHeartbeats 2000000 in
set_option maxRecDepth 100000 in
theorem write_string (B b : Nat) (bs : List Value) (s : ByteArray) (w : World) (h : WR B b bs w) (hlen : bs.length + s.size ≤ 140737488355328) (hBw : B ≤ w.heap.size) :
    Calls Try.prog 82 #[.pointer (some ⟨b, 0, none⟩), .string s] w fun e w' => e = .returned (.tuple #[.int .i64 s.size, .nilIface]) ∧ WR B b (bs ++ Lib.strCells s) w' ∧ Below B w w' ∧ WK b w w' := by
  obtain ⟨i0, hi, hz0, hz1, hz2⟩ := infoByte
  go_enter Try.func82, Try.ntmps82
  go_wp2_with (go_at_call 106; refine (copy_any B b bs _ h).mono ?_); rintro e w1 ⟨rfl, ⟨hB, v, hbk, hown, hne⟩, hb1, hk1⟩; have c0 : w1.cell? ⟨b, 0, none⟩ = some (.pointer (some ⟨b, 0, none⟩)) := blk_cell hbk 0; have c1 : w1.cell? ⟨b, 1, none⟩ = some v := blk_cell hbk 1; have hz := hb1.size; go_wp2_with (at_builtin; refine Lib.wpList_append_own_string _ rfl _ _ 72 9 rfl B 5 i0 Try.underlying72 Try.underlying9 hi hz0 hz1 hz2 _ _ _ rfl hown s rfl ?c3 ?c4 ?c5 ?_)
  case c3 => unfold maxLen; omega
  case c4 => omega
  case c5 => omega
  intro v' w2 hown' hgrow _
  have hb2 : w2.heap[b]? = some (.cells #[.pointer (some ⟨b, 0, none⟩), v] 76 (0, 0)) := by
    (rw [hgrow.block b (lt_of_block hbk) (fun e => hne e.symm)]); exact hbk
  have d0 : w2.cell? ⟨b, 0, none⟩ = some (.pointer (some ⟨b, 0, none⟩)) := blk_cell hb2 0; have d1 : w2.cell? ⟨b, 1, none⟩ = some v := blk_cell hb2 1; have f1 : w2.frozen? ⟨b, 1, none⟩ = false := blk_fz hb2 1
  obtain ⟨ao, n', cap, rfl⟩ : ∃ ao n' cap, v' = .slice ao n' cap := by
    rcases hown'.2 with ⟨hv, _⟩ | ⟨g, cap, cur, hv, _⟩
    · exact ⟨_, _, _, hv⟩
    · exact ⟨_, _, _, hv⟩
  go_wp2; go_ret2
  have hg2 : WK b w1 w2 := ⟨hgrow.size, fun k o hk _ ho => (hgrow.block k (lt_of_block hk) (fun e => by
    rcases hown.2 with ⟨hv, _⟩ | ⟨g, cap, cur, hv, -, hcur, -⟩
    · rw [hv] at e; cases e
    · rw [hv] at e
      (have e : k = g := by simpa [Value.ownBlock] using e); rw [e, hcur] at hk
      exact ho _ _ (Option.some.inj hk).symm)).trans hk⟩
  refine ⟨rfl, Or.inr ?_, ?_, (hk1.trans hg2).set 1 _⟩
  · exact Lib.BuilderAt.put (T := 76) (e := 5) hB hb2 (bs' := bs ++ Lib.strCells s) (by simpa [Lib.strCells_length] using hown') (by decide)
  · exact (hb1.grown hgrow (by omega) (fun k hk => (hown.lt k hk).1)).setCell (p := ⟨b, 1, none⟩) hB _

set_option maxHeartbeats 1000000 in
set_option maxRecDepth 100000 in
/-- What has been written, as a string; something has been. -/
theorem string_any (B b : Nat) (l : List UInt8) (w : World) (h : WR B b (Lib.byteCells l) w) (h0 : l ≠ []) :
    Calls Try.prog 45 #[.pointer (some ⟨b, 0, none⟩)] w fun e w' => e = .returned (.string ⟨l.toArray⟩) ∧ Below B w w' := by
  obtain ⟨p, hB, v, hbk, hown, hne⟩ : ∃ p, Lib.BuilderAt 76 5 B b p (Lib.byteCells l) w := by
    rcases h with h | h
    · exact ⟨_, h⟩
    · exact ⟨_, h⟩
  (have hl0 : l.length ≠ 0 := by simpa using h0); rw [Lib.byteCells_length] at hown
  rcases hown.2 with ⟨-, hz⟩ | ⟨g, cap, cur, rfl, hbg, hg, hnc, hcm, hcs, htake⟩
  · exact absurd hz hl0
  have c1 : w.cell? ⟨b, 1, none⟩ = some (.slice (some ⟨g, 0, none⟩) l.length cap) := blk_cell hbk 1
  have hSD : (Builtin.unsafeSliceData_ #[72] 119 #[.slice (some ⟨g, 0, none⟩) l.length cap]).run Try.prog w.drew = .ok (.pointer (some ⟨g, 0, none⟩)) w.drew :=
    Lib.run_unsafeSliceData_row _ _ _ _ _ _ (by omega)
  have hUS : (Builtin.unsafeString_ #[119, 3] 9 #[.pointer (some ⟨g, 0, none⟩), .int .i64 l.length]).run Try.prog w.drew = .ok (.string ⟨l.toArray⟩) (w.drew.freeze ⟨g, 0, none⟩ l.length) := by
    have hg' : w.drew.heap[g]? = some (.cells cur 5 (0, 0)) := hg; (refine Lib.run_unsafeString_row w.drew 119 3 9 5 Try.underlying119 (by kernel_rfl) g cur.size (by simp [World.shape?, hg']) l h0 (by omega) (by unfold maxLen at hcm; omega) ?_); intro j x hx; (exact hown.cells (g := g) rfl j (.int .u8 x.toNat) (by simp [Lib.byteCells, hx]))
  go_enter Try.func45, Try.ntmps45
  go_wp2
  go_region
  all_goals (go_wp2; go_ret; exact ⟨rfl, Lib.below_freeze (Below.drew (Below.refl B w)) (p := ⟨g, 0, none⟩) hbg _⟩)
end Go.Proofs.Ytfhbpfgbnfcdaaa
/- Walks: the writer. -/
namespace Go.Proofs.Ytfhbpfgbnfcdaaa
open Go.RowKit

set_option maxHeartbeats 1000000 in
theorem bindOf_any (k : Int) (w : World) :
    Calls Try.prog 80 #[.int .i64 k] w fun e w' => e = .returned (.int .i64 (bindI k)) ∧ w' = w := by
  go_enter Try.func80, Try.ntmps80
  go_wp2
  all_goals
    go_ret; refine ⟨ret_int ?_, rfl⟩; simp only [beq_iff_eq, beq_eq_false_iff_ne, ne_eq] at *
    first
      | (subst_vars; decide)
      | (unfold bindI; rw [if_neg (by omega), if_neg (by omega), if_neg (by omega)])

/-- What a writing of s leaves. -/
def WPo (B b : Nat) (bs : List Value) (s : List UInt8) (w : World) (e : Ending) (w' : World) : Prop :=
  e = .returned (.tuple #[]) ∧ WR B b (bs ++ Lib.byteCells s) w' ∧ Below B w w' ∧ WK b w w'

def Writes (m : Nat) : Prop := ∀ (B b : Nat) (bs : List Value) (least : Int) (f : Fm) (v : Value) (w : World), f.size < m → Fine f → WR B b bs w → B ≤ w.heap.size → bs.length + (pr least f).length ≤ 100000 → Rep w (· < B) f v →
  Calls Try.prog 44 #[.pointer (some ⟨b, 0, none⟩), v, .int .i64 least] w (WPo B b bs (pr least f) w)

theorem WR.alloc {B b : Nat} {bs : List Value} {w : World} (h : WR B b bs w) (o : Obj) : WR B b bs (w.alloc o) := by
  have aux : ∀ p, Lib.BuilderAt 76 5 B b p bs w → Lib.BuilderAt 76 5 B b p bs (w.alloc o) := fun p h => by
    obtain ⟨h1, v, h2, h3, h4⟩ := h; (exact ⟨h1, v, by rw [Below.heap_alloc _ _ _ (lt_of_block h2)]; exact h2, h3.alloc _, h4⟩)
  rcases h with h | h
  · exact Or.inl (aux _ h)
  · exact Or.inr (aux _ h)

theorem Rep.low {w w' : World} {B : Nat} {f : Fm} {v : Value} (h : Rep w (· < B) f v) (hb : Below B w w') : Rep w' (· < B) f v :=
  h.move fun b _ hb2 => ⟨hb.block b hb2, hb2⟩

theorem Reps.low {w w' : World} {B b off : Nat} {fs : List Fm} (h : Reps w (· < B) b off fs) (hb : b < B) (hk : Below B w w') : Reps w' (· < B) b off fs :=
  h.kept hb (kept_of_below hk (fun _ _ h => h))

theorem WR.lt {B b : Nat} {bs : List Value} {w : World} (h : WR B b bs w) : b < w.heap.size := by
  rcases h with h | h
  · exact h.lt
  · exact h.lt

theorem strCells_eq (s : ByteArray) : Lib.strCells s = Lib.byteCells s.data.toList := rfl
theorem byteCells_append (a b : List UInt8) : Lib.byteCells (a ++ b) = Lib.byteCells a ++ Lib.byteCells b := by simp [Lib.byteCells]

set_option maxHeartbeats 1000000 in
theorem prefix_step (m : Nat) (ih : Writes m) (B b : Nat) (bs : List Value) (k : Int) (n s : ByteArray) (f : Fm) (sl : Option Addr) (cap : Nat) (w : World) (hf : f.size < m) (hfine : Fine f) (hw : WR B b bs w) (hB : B ≤ w.heap.size) (hlen : bs.length + (s.data.toList ++ pr 3 f).length ≤ 100000)
    (hrep : Rep w (· < B) (.mk k n [f]) (.agg #[.int .i64 k, .string n, .slice sl 1 cap])) :
    Calls Try.prog 104 #[.pointer (some ⟨b, 0, none⟩), .string s, .agg #[.int .i64 k, .string n, .slice sl 1 cap]] w (WPo B b bs (s.data.toList ++ pr 3 f) w) := by
  obtain ⟨_, _, hv, hx1, hx2, hx3, hx4⟩ := Rep.def.1 hrep; simp only [Value.agg.injEq, Array.mk.injEq, List.cons.injEq, Value.slice.injEq, and_true, true_and] at hv; obtain ⟨rfl, -, rfl⟩ := hv; (obtain ⟨kb, off, rfl, hkb, hrs⟩ := hx4 (by simp)); obtain ⟨k2, n2, ks2⟩ := f; rw [List.length_append] at hlen; (have hsz : bs.length + s.size ≤ 140737488355328 := by have : s.data.toList.length = s.size := Array.length_toList; omega); have HL : Hid (bs.length + (s.data.toList.length + (pr 3 (.mk k2 n2 ks2)).length) ≤ 100000) := hlen; clear hlen hx4
  go_enter Try.func104, Try.ntmps104
  go_wp2_with (first
    | (go_at_call 82
       (refine (write_string B b bs s _ (hw.alloc _) hsz (by simp; omega)).mono ?_); rintro e w1 ⟨rfl, hw1, hb1, hk1⟩; (have q1 := hk1.block _ _ (blk_new _ _) (by have := hw.lt; omega) (fun c fr h => by cases h)); have f2 := blk_cell q1 2; simp at f2; have hb2 : Below B w w1 := ((Below.refl B w).alloc hB _).trans hb1; obtain ⟨sl2, cap2, g0, g1, g2, hrep2⟩ := (hrs.low hkb hb2).at 0 k2 n2 ks2 rfl
       simp at g0 g1 g2)
    | (go_at_call 44
       (refine (ih B b _ 3 _ _ _ hf hfine hw1 (by have := hb1.size; simp at this; omega) (by have := HL.out; rw [List.length_append, strCells_eq, Lib.byteCells_length]; omega) hrep2).mono ?_)
       rintro e w2 ⟨rfl, hw2, hb3, hk2⟩)
    | fail)
  go_end0
  refine ⟨rfl, ?_, hb2.trans hb3, ((WK.refl b w).alloc _).trans (hk1.trans hk2)⟩; rw [strCells_eq, List.append_assoc, ← byteCells_append] at hw2; exact hw2
end Go.Proofs.Ytfhbpfgbnfcdaaa
/- Walks: the writer, two. -/
namespace Go.Proofs.Ytfhbpfgbnfcdaaa
open Go.RowKit

set_option maxHeartbeats 1000000 in
theorem infix_step (m : Nat) (ih : Writes m) (B b : Nat) (bs : List Value) (k lf rt : Int) (n s : ByteArray) (f g : Fm) (sl : Option Addr) (cap : Nat) (w : World) (hf : f.size < m) (hg : g.size < m) (hfine : Fine f) (gfine : Fine g) (hw : WR B b bs w) (hB : B ≤ w.heap.size) (hlen : bs.length + (pr lf f ++ s.data.toList ++ pr rt g).length ≤ 100000)
    (hrep : Rep w (· < B) (.mk k n [f, g]) (.agg #[.int .i64 k, .string n, .slice sl 2 cap])) :
    Calls Try.prog 105 #[.pointer (some ⟨b, 0, none⟩), .agg #[.int .i64 k, .string n, .slice sl 2 cap], .int .i64 lf, .string s, .int .i64 rt] w (WPo B b bs (pr lf f ++ s.data.toList ++ pr rt g) w) := by
  obtain ⟨_, _, hv, hx1, hx2, hx3, hx4⟩ := Rep.def.1 hrep; simp only [Value.agg.injEq, Array.mk.injEq, List.cons.injEq, Value.slice.injEq, and_true, true_and] at hv; obtain ⟨rfl, -, rfl⟩ := hv; (obtain ⟨kb, off, rfl, hkb, hrs⟩ := hx4 (by simp)); obtain ⟨k2, n2, ks2⟩ := f; obtain ⟨k3, n3, ks3⟩ := g; obtain ⟨sl2, cap2, g0, g1, g2, hrep2⟩ := (hrs.low hkb ((Below.refl B w).alloc hB (.cells #[.int .i64 k, .string n, .slice (some ⟨kb, off, none⟩) 2 cap] 24 (0, 0)))).at 0 k2 n2 ks2 rfl; simp at g0 g1 g2; rw [List.length_append, List.length_append] at hlen; have hsl : s.data.toList.length = s.size := Array.length_toList; (have hsz : (bs ++ Lib.byteCells (pr lf (.mk k2 n2 ks2))).length + s.size ≤ 140737488355328 := by rw [List.length_append, Lib.byteCells_length]; omega); have HL : Hid (bs.length + (((pr lf (.mk k2 n2 ks2)).length + s.data.toList.length) + (pr rt (.mk k3 n3 ks3)).length) ≤ 100000) := hlen; (have l1 : bs.length + (pr lf (.mk k2 n2 ks2)).length ≤ 100000 := by omega); have hbl := hw.lt; clear hlen hx4 hsl
  go_enter Try.func105, Try.ntmps105
  go_wp2_with (first
    | (go_at_call_of 44 (Value.agg #[Value.int .i64 k2, Value.string n2, Value.slice sl2 ks2.length cap2])
       (refine (ih B b bs lf _ _ _ hf hfine (hw.alloc _) (by simp; omega) l1 hrep2).mono ?_); rintro e w1 ⟨rfl, hw1, hb1, hk1⟩; have z1 := hb1.size; simp at z1
       have q1 := hk1.block _ _ (blk_new _ _) (by omega) (fun c fr h => by cases h))
    | (go_at_call 82
       (refine (write_string B b _ s _ hw1 hsz (by omega)).mono ?_); rintro e w2 ⟨rfl, hw2, hb2, hk2⟩; have z2 := hb2.size; (have q2 := hk2.block _ _ q1 (by omega) (fun c fr h => by cases h)); have f2 := blk_cell q2 2; simp at f2; obtain ⟨sl3, cap3, g3, g4, g5, hrep3⟩ := (hrs.low hkb ((((Below.refl B w).alloc hB _).trans hb1).trans hb2)).at 1 k3 n3 ks3 rfl
       simp at g3 g4 g5)
    | (go_at_call 44
       (refine (ih B b _ rt _ _ _ hg gfine hw2 (by omega) (by have := HL.out; rw [List.length_append, List.length_append, strCells_eq, Lib.byteCells_length, Lib.byteCells_length]; omega) hrep3).mono ?_)
       rintro e w3 ⟨rfl, hw3, hb3, hk3⟩)
    | fail)
  go_end0
  refine ⟨rfl, ?_, (((Below.refl B w).alloc hB _).trans hb1).trans (hb2.trans hb3), ((WK.refl b w).alloc _).trans (hk1.trans (hk2.trans hk3))⟩; rw [strCells_eq, List.append_assoc, List.append_assoc, ← byteCells_append, ← byteCells_append, ← List.append_assoc (pr lf _)] at hw3; exact hw3
end Go.Proofs.Ytfhbpfgbnfcdaaa
