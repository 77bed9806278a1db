/- Texts of one proof, one behind the other: Build. -/
import Derived.Test.YtffkoiemnchdgaaB16
import Derived.Test.YtffkoiemnchdgaaB04
import Derived.Lib.Builder
import Derived.Lib.AppendStr
import Derived.Lib.UnsafeStr
import Derived.Laws.Externs
/- Walks: the builder inside a writer: the same two cells, in a block of the writer's type. -/
namespace Go.Proofs.Ytffkoiemnchdgaa
open Go.RowKit

/-- A writer in block b (from B on) that has written bs. -/
def WR (B b : Nat) (bs : List Value) (w : World) : Prop := Lib.IsBuilder 76 5 B b bs w

/-- All that was there is as it was, but the writer's own block and blocks of bytes. -/
structure WK (b : Nat) (w w' : World) : Prop where
  size : w.heap.size ≤ w'.heap.size
  block : ∀ k o, w.heap[k]? = some o → k ≠ b → (∀ c fr, o ≠ .cells c 5 fr) → w'.heap[k]? = some o

theorem WK.refl (b : Nat) (w : World) : WK b w w := ⟨Nat.le_refl _, fun _ _ h _ _ => h⟩
theorem WK.trans {b : Nat} {w w1 w2 : World} (h : WK b w w1) (k : WK b w1 w2) : WK b w w2 :=
  ⟨Nat.le_trans h.size k.size, fun i o hi hb ho => k.block i o (h.block i o hi hb ho) hb ho⟩
theorem WK.alloc {b : Nat} {w w1 : World} (h : WK b w w1) (o : Obj) : WK b w (w1.alloc o) :=
  h.trans ⟨by simp, fun k _ hk _ _ => (Below.heap_alloc _ _ _ (lt_of_block hk)).trans hk⟩
theorem WK.set {b : Nat} {w w1 : World} (h : WK b w w1) (o : Nat) (v : Value) : WK b w (w1.setCell ⟨b, o, none⟩ v) :=
  h.trans ⟨by simp [World.setCell], fun _ _ hk hb _ => (Below.heap_setCell _ _ _ _ hb).trans hk⟩
theorem WK.drew {b : Nat} {w w1 : World} (h : WK b w w1) : WK b w w1.drew := ⟨h.size, h.block⟩

theorem infoBuilder : ∃ j, Try.prog.info? 74 = some j ∧ j.size = 2 :=
  Option.map_eq_some_iff.1 (show (Try.prog.info? 74).map (·.size) = some 2 by kernel_rfl)

theorem liesIn : liesAt Try.prog Try.prog.depth 76 (2 / Try.prog.cellsOf 76) 0 74 1 = true := by kernel_rfl

set_option maxHeartbeats 1000000 in
set_option maxRecDepth 100000 in
theorem copy_used (b : Nat) (w : World) (h0 : w.cell? ⟨b, 0, none⟩ = some (.pointer (some ⟨b, 0, none⟩))) :
    Calls Try.prog 106 #[.pointer (some ⟨b, 0, none⟩)] w fun e w' => e = .returned (.tuple #[]) ∧ w' = w := by
  obtain ⟨j, hj, -⟩ := infoBuilder
  go_enter Try.func106, Try.ntmps106
  go_wp2; rw [Lib.run_neq_ptr_same w _ Try.underlying71 hj]; go_wp2
  go_end0
  exact ⟨rfl, rfl⟩

set_option maxHeartbeats 1000000 in
set_option maxRecDepth 100000 in
theorem copy_fresh (b : Nat) (w : World) (h0 : w.cell? ⟨b, 0, none⟩ = some (.pointer none)) (hsh : w.shape? b = some (76, 2)) (hfz : w.frozen? ⟨b, 0, none⟩ = false) :
    Calls Try.prog 106 #[.pointer (some ⟨b, 0, none⟩)] w fun e w' => e = .returned (.tuple #[]) ∧ w' = w.setCell ⟨b, 0, none⟩ (.pointer (some ⟨b, 0, none⟩)) := by
  obtain ⟨j, hj, hs⟩ := infoBuilder
  go_enter Try.func106, Try.ntmps106
  go_wp2; (rw [Lib.run_to_unsafe w ⟨b, 0, none⟩ Try.underlying71 Try.underlying153 hj (by rw [hs]; decide) hsh (Nat.zero_lt_succ 1)]); simp only [Result.andThen]; rw [Oper.upon_value]; go_wp2; (rw [run_callFunc_extern Try.func130 (by kernel_rfl) (by kernel_rfl) (by kernel_rfl) (e := Extern.AbiNoEscape.same) (by kernel_rfl), Lib.run_noEscape]); simp only [Result.andThen]; rw [Oper.upon_value]; go_wp2; rw [Lib.run_from_unsafe w ⟨b, 0, none⟩ Try.underlying153 Try.underlying71 hj hsh liesIn]; simp only [Result.andThen]; rw [Oper.upon_value]; go_wp2
  go_end0
  exact ⟨rfl, rfl⟩

theorem copy_any (B b : Nat) (bs : List Value) (w : World) (h : WR B b bs w) :
    Calls Try.prog 106 #[.pointer (some ⟨b, 0, none⟩)] w fun e w' => e = .returned (.tuple #[]) ∧ Lib.BuilderAt 76 5 B b (.pointer (some ⟨b, 0, none⟩)) bs w' ∧ Below B w w' ∧ WK b w w' := by
  rcases h with h | h
  · refine (copy_fresh b w h.cell0 h.shape h.frozen0).mono ?_
    rintro e w' ⟨rfl, rfl⟩; exact ⟨rfl, h.used _, (Below.refl B w).setCell (p := ⟨b, 0, none⟩) h.1 _, (WK.refl b w).set 0 _⟩
  · refine (copy_used b w h.cell0).mono ?_
    rintro e w' ⟨rfl, rfl⟩; exact ⟨rfl, h, Below.refl B _, WK.refl b _⟩

theorem infoByte : ∃ i, Try.prog.info? 5 = some i ∧ i.zero = some (.int .u8 0) ∧ i.size = 1 ∧ i.bytes = 1 := by
  (obtain ⟨i, hi, h⟩ := Option.map_eq_some_iff.1 (show (Try.prog.info? 5).map (fun i => (i.zero, i.size, i.bytes)) = some (some (.int .u8 0), 1, 1) by kernel_rfl)); simp only [Prod.mk.injEq] at h; exact ⟨i, hi, h.1, h.2.1, h.2.2⟩

set_option maxHeartbeats 2000000 in
set_option maxRecDepth 100000 in
theorem write_string (B b : Nat) (bs : List Value) (s : ByteArray) (w : World) (h : WR B b bs w) (hlen : bs.length + s.size ≤ 140737488355328) (hBw : B ≤ w.heap.size) :
    Calls Try.prog 82 #[.pointer (some ⟨b, 0, none⟩), .string s] w fun e w' => e = .returned (.tuple #[.int .i64 s.size, .nilIface]) ∧ WR B b (bs ++ Lib.strCells s) w' ∧ Below B w w' ∧ WK b w w' := by
  obtain ⟨i0, hi, hz0, hz1, hz2⟩ := infoByte
  go_enter Try.func82, Try.ntmps82
  go_wp2_with (go_at_call 106; refine (copy_any B b bs _ h).mono ?_); rintro e w1 ⟨rfl, ⟨hB, v, hbk, hown, hne⟩, hb1, hk1⟩; have c0 : w1.cell? ⟨b, 0, none⟩ = some (.pointer (some ⟨b, 0, none⟩)) := blk_cell hbk 0; have c1 : w1.cell? ⟨b, 1, none⟩ = some v := blk_cell hbk 1; have hz := hb1.size; go_wp2_with (at_builtin; refine Lib.wpList_append_own_string _ rfl _ _ 72 9 rfl B 5 i0 Try.underlying72 Try.underlying9 hi hz0 hz1 hz2 _ _ _ rfl hown s rfl ?c3 ?c4 ?c5 ?_)
  case c3 => unfold maxLen; omega
  case c4 => omega
  case c5 => omega
  intro v' w2 hown' hgrow _
  have hb2 : w2.heap[b]? = some (.cells #[.pointer (some ⟨b, 0, none⟩), v] 76 (0, 0)) := by
    (rw [hgrow.block b (lt_of_block hbk) (fun e => hne e.symm)]); exact hbk
  have d0 : w2.cell? ⟨b, 0, none⟩ = some (.pointer (some ⟨b, 0, none⟩)) := blk_cell hb2 0; have d1 : w2.cell? ⟨b, 1, none⟩ = some v := blk_cell hb2 1; have f1 : w2.frozen? ⟨b, 1, none⟩ = false := blk_fz hb2 1
  obtain ⟨ao, n', cap, rfl⟩ : ∃ ao n' cap, v' = .slice ao n' cap := by
    rcases hown'.2 with ⟨hv, _⟩ | ⟨g, cap, cur, hv, _⟩
    · exact ⟨_, _, _, hv⟩
    · exact ⟨_, _, _, hv⟩
  go_wp2; go_ret2
  have hg2 : WK b w1 w2 := ⟨hgrow.size, fun k o hk _ ho => (hgrow.block k (lt_of_block hk) (fun e => by
    rcases hown.2 with ⟨hv, _⟩ | ⟨g, cap, cur, hv, -, hcur, -⟩
    · rw [hv] at e; cases e
    · rw [hv] at e
      (have e : k = g := by simpa [Value.ownBlock] using e); rw [e, hcur] at hk
      exact ho _ _ (Option.some.inj hk).symm)).trans hk⟩
  refine ⟨rfl, Or.inr ?_, ?_, (hk1.trans hg2).set 1 _⟩
  · exact Lib.BuilderAt.put (T := 76) (e := 5) hB hb2 (bs' := bs ++ Lib.strCells s) (by simpa [Lib.strCells_length] using hown') (by decide)
  · exact (hb1.grown hgrow (by omega) (fun k hk => (hown.lt k hk).1)).setCell (p := ⟨b, 1, none⟩) hB _

set_option maxHeartbeats 1000000 in
set_option maxRecDepth 100000 in
/-- What has been written, as a string; something has been. -/
theorem string_any (B b : Nat) (l : List UInt8) (w : World) (h : WR B b (Lib.byteCells l) w) (h0 : l ≠ []) :
    Calls Try.prog 45 #[.pointer (some ⟨b, 0, none⟩)] w fun e w' => e = .returned (.string ⟨l.toArray⟩) ∧ Below B w w' := by
  obtain ⟨p, hB, v, hbk, hown, hne⟩ : ∃ p, Lib.BuilderAt 76 5 B b p (Lib.byteCells l) w := by
    rcases h with h | h
    · exact ⟨_, h⟩
    · exact ⟨_, h⟩
  (have hl0 : l.length ≠ 0 := by simpa using h0); rw [Lib.byteCells_length] at hown
  rcases hown.2 with ⟨-, hz⟩ | ⟨g, cap, cur, rfl, hbg, hg, hnc, hcm, hcs, htake⟩
  · exact absurd hz hl0
  have c1 : w.cell? ⟨b, 1, none⟩ = some (.slice (some ⟨g, 0, none⟩) l.length cap) := blk_cell hbk 1
  have hSD : (Builtin.unsafeSliceData_ #[72] 119 #[.slice (some ⟨g, 0, none⟩) l.length cap]).run Try.prog w.drew = .ok (.pointer (some ⟨g, 0, none⟩)) w.drew :=
    Lib.run_unsafeSliceData_row _ _ _ _ _ _ (by omega)
  have hUS : (Builtin.unsafeString_ #[119, 3] 9 #[.pointer (some ⟨g, 0, none⟩), .int .i64 l.length]).run Try.prog w.drew = .ok (.string ⟨l.toArray⟩) (w.drew.freeze ⟨g, 0, none⟩ l.length) := by
    have hg' : w.drew.heap[g]? = some (.cells cur 5 (0, 0)) := hg; (refine Lib.run_unsafeString_row w.drew 119 3 9 5 Try.underlying119 (by kernel_rfl) g cur.size (by simp [World.shape?, hg']) l h0 (by omega) (by unfold maxLen at hcm; omega) ?_); intro j x hx; (exact hown.cells (g := g) rfl j (.int .u8 x.toNat) (by simp [Lib.byteCells, hx]))
  go_enter Try.func45, Try.ntmps45
  go_wp2
  go_region
  all_goals (go_wp2; go_ret; exact ⟨rfl, Lib.below_freeze (Below.drew (Below.refl B w)) (p := ⟨g, 0, none⟩) hbg _⟩)
end Go.Proofs.Ytffkoiemnchdgaa
