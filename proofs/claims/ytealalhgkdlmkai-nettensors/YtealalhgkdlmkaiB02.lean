/- Texts of one proof, one behind the other: Walk7, Walk8. -/
import Derived.Test.YtealalhgkdlmkaiB01
import Derived.Defers
import Derived.Recover
/- Walks: a fault that is caught. -/
namespace Go.Proofs.Ytealalhgkdlmkai
open Go.RowKit

theorem set2 {w : World} {b : Nat} {x0 x1 : Value} {T : TypeId} (h : w.heap[b]? = some (.cells #[x0, x1] T (0, 0))) (y0 y1 : Value) :
    ((w.setCell ⟨b, 0, none⟩ y0).setCell ⟨b, 1, none⟩ y1).heap[b]? = some (.cells #[y0, y1] T (0, 0)) := by
  simp [World.setCell, Array.getElem?_modify, h]

theorem assert_stop (v : Value) (w : World) : (Instr.typeAssert (.iface 93 v) 20 93 true).run Try.prog w = .ok (.tuple #[v, .bool true]) w := by kernel_rfl

set_option maxRecDepth 100000 in
theorem catch_stop (p : Nat) (x y code at_ : Int) (w : World) (hb : w.heap[p]? = some (.cells #[.int .i64 x, .int .i64 y] 28 (0, 0))) :
    CallsD Try.prog 56 #[.pointer (some ⟨p, 0, none⟩)] (.panicking [{ v := .iface 93 (.agg #[.int .i64 code, .int .i64 at_]), recovered := false }]) w fun e u' w' =>
      e = .returned (.tuple #[]) ∧ u' = .panicking [{ v := .iface 93 (.agg #[.int .i64 code, .int .i64 at_]), recovered := true }] ∧ w'.heap[p]? = some (.cells #[.int .i64 code, .int .i64 at_] 28 (0, 0)) ∧ Kept (· ≠ p) w w' := by
  obtain ⟨g1, g2, g3, g4⟩ := blk2 hb; have hlt := lt_of_block hb; (refine callsD_of_wpS Try.func56 rfl fun c₀ cs hu => ?_); apply wpS_seq; apply wpS_region; simp [wpOpsS, go_sem, recoverD, hu, Try.ntmps56, Exit.thenS]; apply wpS_of_wp; have HB : Hid (w.heap[p]? = some (.cells #[.int .i64 x, .int .i64 y] 28 (0, 0))) := hb; clear hb; clear hu; (generalize hQ : (fun (e : Exit) (a' : Act) (w' : World) => _) = Q); have HQ : Hid (_ = Q) := hQ; clear hQ
  change Code.wp _ _ _ { tmps := #[.pointer (some ⟨p, 0, none⟩), undef, undef, undef, .iface 93 (.agg #[.int .i64 code, .int .i64 at_]), undef, undef, undef, undef, undef, undef, undef], defers := [] } _
  have hta := assert_stop; go_wp2; rw [← HQ.out]; (refine ⟨rfl, _, rfl, .tuple #[], by simp [results, Try.results56, go_sem], rfl, rfl, ?_, ?_⟩)
  · rw [Below.heap_alloc _ _ _ (by simpa [World.setCell] using hlt)]
    exact set2 HB.out _ _
  · exact (((Kept.refl _ _).setCell (by simp) _).setCell (by simp) _).alloc _

set_option maxRecDepth 100000 in
theorem catch_idle (p : Addr) (w : World) :
    CallsD Try.prog 56 #[.pointer (some p)] .returning w fun e u' w' => e = .returned (.tuple #[]) ∧ u' = .returning ∧ w' = w := by
  (refine callsD_of_wpS Try.func56 rfl fun c₀ cs hu => ?_); apply wpS_seq; apply wpS_region; simp [wpOpsS, go_sem, recoverD, hu, Try.ntmps56, Exit.thenS]; apply wpS_of_wp; have HU : Hid (c₀.mode = .returning) := hu; clear hu; (generalize hQ : (fun (e : Exit) (a' : Act) (w' : World) => _) = Q); have HQ : Hid (_ = Q) := hQ; clear hQ
  change Code.wp _ _ _ { tmps := #[.pointer (some p), undef, undef, undef, .nilIface, undef, undef, undef, undef, undef, undef, undef], defers := [] } _
  go_wp2; rw [← HQ.out]; (refine ⟨rfl, .returning, ?_, .tuple #[], by simp [results, Try.results56, go_sem], rfl, rfl, rfl⟩); have := HU.out
  cases c₀
  simp_all

set_option maxRecDepth 100000 in
set_option maxHeartbeats 1000000 in
theorem caught_ok (g : Nat) (cap : Array Value) (w : World) (R : World → Prop) (hcf : ∀ w, (callFunc g cap).run Try.prog w = .ok (.enter g cap) w)
    (hw : Calls Try.prog g cap (w.alloc (.cells #[.int .i64 0, .int .i64 0] 28 (0, 0))) fun e w' => e = .returned (.tuple #[]) ∧ w'.heap[w.heap.size]? = some (.cells #[.int .i64 0, .int .i64 0] 28 (0, 0)) ∧ R w') :
    Calls Try.prog 34 #[.func (.func g) #[] cap] w fun e w' => e = .returned (.agg #[.int .i64 0, .int .i64 0]) ∧ ∃ w1, R w1 ∧ Kept (· ≠ w.heap.size) w1 w' := by
  (have hmf : ∀ (fn : Fn) (first cap : Array Value) (w : World), (Instr.makeFunc fn first cap).run Try.prog w = .ok (.func fn first cap) w := fun _ _ _ _ => rfl); have HW : Hid (Calls Try.prog g cap _ _) := hw; clear hw
  go_enter_defers Try.func34, Try.ntmps34
  go_wp2_with fail; refine HW.out.mono ?_; rintro e w1 ⟨rfl, q1, hR⟩; obtain ⟨g1, g2, g3, g4⟩ := blk2 q1; go_wp2_with fail; (refine leaves_cons (f := 56) (args := #[.pointer (some ⟨w.heap.size, 0, none⟩)]) (by simp) (by simp [go_sem]) ?_); refine (catch_idle ⟨w.heap.size, 0, none⟩ _).mono ?_; rintro e u' w'' ⟨rfl, rfl, rfl⟩; simp only [Leaves, settle]; (exact ⟨.agg #[.int .i64 0, .int .i64 0], by simp [results, Try.results34, go_sem, g1, g2], rfl, w1, hR, ((Kept.refl _ _).setCell (by simp) _).setCell (by simp) _⟩)

set_option maxRecDepth 100000 in
set_option maxHeartbeats 1000000 in
theorem caught_bad (g : Nat) (cap : Array Value) (w : World) (R : World → Prop) (code at_ : Int) (hcf : ∀ w, (callFunc g cap).run Try.prog w = .ok (.enter g cap) w)
    (hw : Calls Try.prog g cap (w.alloc (.cells #[.int .i64 0, .int .i64 0] 28 (0, 0))) fun e w' => e = .panicked (stopC code at_) ∧ w'.heap[w.heap.size]? = some (.cells #[.int .i64 0, .int .i64 0] 28 (0, 0)) ∧ R w') :
    Calls Try.prog 34 #[.func (.func g) #[] cap] w fun e w' => e = .returned (.agg #[.int .i64 code, .int .i64 at_]) ∧ ∃ w1, R w1 ∧ Kept (· ≠ w.heap.size) w1 w' := by
  (have hmf : ∀ (fn : Fn) (first cap : Array Value) (w : World), (Instr.makeFunc fn first cap).run Try.prog w = .ok (.func fn first cap) w := fun _ _ _ _ => rfl); have HW : Hid (Calls Try.prog g cap _ _) := hw; clear hw
  go_enter_defers Try.func34, Try.ntmps34
  go_wp2_with fail; refine HW.out.mono ?_; rintro e w1 ⟨rfl, q1, hR⟩; (refine leaves_cons (f := 56) (args := #[.pointer (some ⟨w.heap.size, 0, none⟩)]) (by simp) (by simp [go_sem]) ?_); refine (catch_stop w.heap.size 0 0 code at_ _ q1).mono ?_; rintro e u' w'' ⟨rfl, rfl, q2, hk⟩; obtain ⟨g1, g2, g3, g4⟩ := blk2 q2; simp only [settle]; (exact ⟨.agg #[.int .i64 code, .int .i64 at_], by simp [results, Try.results34, go_sem, g1, g2], rfl, w1, hR, hk⟩)
end Go.Proofs.Ytealalhgkdlmkai
/- Walks: a whole reading; Parse. -/
namespace Go.Proofs.Ytealalhgkdlmkai
open Go.RowKit

/-- What a call leaves that was handed a new block of its own. -/
theorem Kept.past {w w' : World} {o : Obj} (h : Kept (· ≠ w.heap.size) (w.alloc o) w') : Kept (fun _ => True) w w' :=
  ⟨h.os, h.tape, h.output, by have := h.size; simp at this; omega, fun k hk _ => (h.block k (by simp; omega) (by omega)).trans (Below.heap_alloc _ _ _ hk)⟩

end Go.Proofs.Ytealalhgkdlmkai
