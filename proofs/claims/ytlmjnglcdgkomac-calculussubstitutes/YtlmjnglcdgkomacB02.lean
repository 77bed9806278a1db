/- Texts of one proof, one behind the other: Walk6, Walk7, Walk8, Walk9. -/
import Derived.Test.YtlmjnglcdgkomacB01
import Derived.Defers
import Derived.Recover
import Derived.RegionTactic
/- Walks: a reader's 'and' and 'or'. -/
namespace Go.Proofs.Ytlmjnglcdgkomac
open Go.RowKit

theorem set3 {w : World} {b : Nat} {x0 x1 x2 : Value} {T : TypeId} (h : w.heap[b]? = some (.cells #[x0, x1, x2] T (0, 0))) (y0 y1 y2 : Value) :
    (((w.setCell ⟨b, 0, none⟩ y0).setCell ⟨b, 1, none⟩ y1).setCell ⟨b, 2, none⟩ y2).heap[b]? = some (.cells #[y0, y1, y2] T (0, 0)) := by
  simp [World.setCell, Array.getElem?_modify, h]

end Go.Proofs.Ytlmjnglcdgkomac
/- Walks: a fault that is caught. -/
namespace Go.Proofs.Ytlmjnglcdgkomac
open Go.RowKit

theorem set2 {w : World} {b : Nat} {x0 x1 : Value} {T : TypeId} (h : w.heap[b]? = some (.cells #[x0, x1] T (0, 0))) (y0 y1 : Value) :
    ((w.setCell ⟨b, 0, none⟩ y0).setCell ⟨b, 1, none⟩ y1).heap[b]? = some (.cells #[y0, y1] T (0, 0)) := by
  simp [World.setCell, Array.getElem?_modify, h]

theorem assert_stop (v : Value) (w : World) : (Instr.typeAssert (.iface 109 v) 20 109 true).run Try.prog w = .ok (.tuple #[v, .bool true]) w := by kernel_rfl

set_option maxRecDepth 100000 in
theorem catch_stop (p : Nat) (x y code at_ : Int) (w : World) (hb : w.heap[p]? = some (.cells #[.int .i64 x, .int .i64 y] 34 (0, 0))) :
    CallsD Try.prog 92 #[.pointer (some ⟨p, 0, none⟩)] (.panicking [{ v := .iface 109 (.agg #[.int .i64 code, .int .i64 at_]), recovered := false }]) w fun e u' w' =>
      e = .returned (.tuple #[]) ∧ u' = .panicking [{ v := .iface 109 (.agg #[.int .i64 code, .int .i64 at_]), recovered := true }] ∧ w'.heap[p]? = some (.cells #[.int .i64 code, .int .i64 at_] 34 (0, 0)) ∧ Kept (· ≠ p) w w' := by
  obtain ⟨g1, g2, g3, g4⟩ := blk2 hb; have hlt := lt_of_block hb; (refine callsD_of_wpS Try.func92 rfl fun c₀ cs hu => ?_); apply wpS_seq; apply wpS_region; simp [wpOpsS, go_sem, recoverD, hu, Try.ntmps92, Exit.thenS]; apply wpS_of_wp; have HB : Hid (w.heap[p]? = some (.cells #[.int .i64 x, .int .i64 y] 34 (0, 0))) := hb; clear hb; clear hu; (generalize hQ : (fun (e : Exit) (a' : Act) (w' : World) => _) = Q); have HQ : Hid (_ = Q) := hQ; clear hQ
  change Code.wp _ _ _ { tmps := #[.pointer (some ⟨p, 0, none⟩), undef, undef, undef, .iface 109 (.agg #[.int .i64 code, .int .i64 at_]), undef, undef, undef, undef, undef, undef, undef], defers := [] } _
  have hta := assert_stop; go_wp2; rw [← HQ.out]; (refine ⟨rfl, _, rfl, .tuple #[], by simp [results, Try.results92, go_sem], rfl, rfl, ?_, ?_⟩)
  · rw [Below.heap_alloc _ _ _ (by simpa [World.setCell] using hlt)]
    exact set2 HB.out _ _
  · exact (((Kept.refl _ _).setCell (by simp) _).setCell (by simp) _).alloc _

set_option maxRecDepth 100000 in
theorem catch_idle (p : Addr) (w : World) :
    CallsD Try.prog 92 #[.pointer (some p)] .returning w fun e u' w' => e = .returned (.tuple #[]) ∧ u' = .returning ∧ w' = w := by
  (refine callsD_of_wpS Try.func92 rfl fun c₀ cs hu => ?_); apply wpS_seq; apply wpS_region; simp [wpOpsS, go_sem, recoverD, hu, Try.ntmps92, Exit.thenS]; apply wpS_of_wp; have HU : Hid (c₀.mode = .returning) := hu; clear hu; (generalize hQ : (fun (e : Exit) (a' : Act) (w' : World) => _) = Q); have HQ : Hid (_ = Q) := hQ; clear hQ
  change Code.wp _ _ _ { tmps := #[.pointer (some p), undef, undef, undef, .nilIface, undef, undef, undef, undef, undef, undef, undef], defers := [] } _
  go_wp2; rw [← HQ.out]; (refine ⟨rfl, .returning, ?_, .tuple #[], by simp [results, Try.results92, go_sem], rfl, rfl, rfl⟩); have := HU.out
  cases c₀
  simp_all

set_option maxRecDepth 100000 in
set_option maxHeartbeats 1000000 in
theorem caught_ok (g : Nat) (cap : Array Value) (w : World) (R : World → Prop) (hcf : ∀ w, (callFunc g cap).run Try.prog w = .ok (.enter g cap) w)
    (hw : Calls Try.prog g cap (w.alloc (.cells #[.int .i64 0, .int .i64 0] 34 (0, 0))) fun e w' => e = .returned (.tuple #[]) ∧ w'.heap[w.heap.size]? = some (.cells #[.int .i64 0, .int .i64 0] 34 (0, 0)) ∧ R w') :
    Calls Try.prog 89 #[.func (.func g) #[] cap] w fun e w' => e = .returned (.agg #[.int .i64 0, .int .i64 0]) ∧ ∃ w1, R w1 ∧ Kept (· ≠ w.heap.size) w1 w' := by
  (have hmf : ∀ (fn : Fn) (first cap : Array Value) (w : World), (Instr.makeFunc fn first cap).run Try.prog w = .ok (.func fn first cap) w := fun _ _ _ _ => rfl); have HW : Hid (Calls Try.prog g cap _ _) := hw; clear hw
  go_enter_defers Try.func89, Try.ntmps89
  go_wp2_with fail; refine HW.out.mono ?_; rintro e w1 ⟨rfl, q1, hR⟩; obtain ⟨g1, g2, g3, g4⟩ := blk2 q1; go_wp2_with fail; (refine leaves_cons (f := 92) (args := #[.pointer (some ⟨w.heap.size, 0, none⟩)]) (by simp) (by simp [go_sem]) ?_); refine (catch_idle ⟨w.heap.size, 0, none⟩ _).mono ?_; rintro e u' w'' ⟨rfl, rfl, rfl⟩; simp only [Leaves, settle]; (exact ⟨.agg #[.int .i64 0, .int .i64 0], by simp [results, Try.results89, go_sem, g1, g2], rfl, w1, hR, ((Kept.refl _ _).setCell (by simp) _).setCell (by simp) _⟩)

set_option maxRecDepth 100000 in
set_option maxHeartbeats 1000000 in
theorem caught_bad (g : Nat) (cap : Array Value) (w : World) (R : World → Prop) (code at_ : Int) (hcf : ∀ w, (callFunc g cap).run Try.prog w = .ok (.enter g cap) w)
    (hw : Calls Try.prog g cap (w.alloc (.cells #[.int .i64 0, .int .i64 0] 34 (0, 0))) fun e w' => e = .panicked (stopC code at_) ∧ w'.heap[w.heap.size]? = some (.cells #[.int .i64 0, .int .i64 0] 34 (0, 0)) ∧ R w') :
    Calls Try.prog 89 #[.func (.func g) #[] cap] w fun e w' => e = .returned (.agg #[.int .i64 code, .int .i64 at_]) ∧ ∃ w1, R w1 ∧ Kept (· ≠ w.heap.size) w1 w' := by
  (have hmf : ∀ (fn : Fn) (first cap : Array Value) (w : World), (Instr.makeFunc fn first cap).run Try.prog w = .ok (.func fn first cap) w := fun _ _ _ _ => rfl); have HW : Hid (Calls Try.prog g cap _ _) := hw; clear hw
  go_enter_defers Try.func89, Try.ntmps89
  go_wp2_with fail; refine HW.out.mono ?_; rintro e w1 ⟨rfl, q1, hR⟩; (refine leaves_cons (f := 92) (args := #[.pointer (some ⟨w.heap.size, 0, none⟩)]) (by simp) (by simp [go_sem]) ?_); refine (catch_stop w.heap.size 0 0 code at_ _ q1).mono ?_; rintro e u' w'' ⟨rfl, rfl, q2, hk⟩; obtain ⟨g1, g2, g3, g4⟩ := blk2 q2; simp only [settle]; (exact ⟨.agg #[.int .i64 code, .int .i64 at_], by simp [results, Try.results89, go_sem, g1, g2], rfl, w1, hR, hk⟩)
end Go.Proofs.Ytlmjnglcdgkomac
/- Walks: a whole reading; Parse. -/
namespace Go.Proofs.Ytlmjnglcdgkomac
open Go.RowKit

/-- What a call leaves that was handed a new block of its own. -/
theorem Kept.past {w w' : World} {o : Obj} (h : Kept (· ≠ w.heap.size) (w.alloc o) w') : Kept (fun _ => True) w w' :=
  ⟨h.os, h.tape, h.output, by have := h.size; simp at this; omega, fun k hk _ => (h.block k (by simp; omega) (by omega)).trans (Below.heap_alloc _ _ _ hk)⟩

end Go.Proofs.Ytlmjnglcdgkomac
/- Walks: Parse. -/
namespace Go.Proofs.Ytlmjnglcdgkomac
open Go.RowKit

/-- The blocks that Parse makes first. -/
theorem three {w : World} {o0 o1 o2 o3 : Obj} : ((((w.alloc o0).alloc o1).alloc o2).alloc o3).heap[w.heap.size]? = some o0 ∧ ((((w.alloc o0).alloc o1).alloc o2).alloc o3).heap[w.heap.size + 1]? = some o1 ∧ ((((w.alloc o0).alloc o1).alloc o2).alloc o3).heap[w.heap.size + 2]? = some o2 ∧ ((((w.alloc o0).alloc o1).alloc o2).alloc o3).heap[w.heap.size + 3]? = some o3 := by
  (have e1 : (w.alloc o0).heap.size = w.heap.size + 1 := by simp); (have e2 : ((w.alloc o0).alloc o1).heap.size = w.heap.size + 2 := by simp); (have e3 : (((w.alloc o0).alloc o1).alloc o2).heap.size = w.heap.size + 3 := by simp); refine ⟨?_, ?_, ?_, ?_⟩
  · rw [Below.heap_alloc _ _ _ (by omega), Below.heap_alloc _ _ _ (by omega), Below.heap_alloc _ _ _ (by omega)]; exact blk_new _ _
  · rw [Below.heap_alloc _ _ _ (by omega), Below.heap_alloc _ _ _ (by omega), ← e1]; exact blk_new _ _
  · rw [Below.heap_alloc _ _ _ (by omega), ← e2]; exact blk_new _ _
  · rw [← e3]; exact blk_new _ _

end Go.Proofs.Ytlmjnglcdgkomac
