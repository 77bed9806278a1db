/- Texts of one proof, one behind the other: Walk2, Walk3, Walk4, Walk6, Walk7, Walk8, Walk9. -/
import Derived.Test.YtmahgfgndfcmpabB01
import Derived.Test.YtmahgfgndfcmpabB02
import Derived.Deep.LoopGhost
import Derived.Deep.RegionHeld3
import Derived.Defers
import Derived.Recover
import Derived.RegionTactic
/- Walks: the reader's small steps, two. -/
namespace Go.Proofs.Ytmahgfgndfcmpab
open Go.RowKit

theorem ret_int {k : IntKind} {a b : Int} (h : a = b) : Ending.returned (.int k a) = .returned (.int k b) := by rw [h]
theorem ret_bool {a b : Bool} (h : a = b) : Ending.returned (.bool a) = .returned (.bool b) := by rw [h]

set_option maxHeartbeats 1000000 in
theorem letters_any (s : ByteArray) (hs : s.size ≤ maxLen) (w : World) :
    Calls Try.prog 144 #[.string s] w fun e w' => e = .returned (.int .i64 (letters s.data.toList).length) ∧ w' = w := by
  unfold maxLen at hs
  go_enter Try.func144, Try.ntmps144
  go_wp2
  go_loop [3] (fun v => ∃ k l, At s k l ∧ v = .int .i64 (k : Nat) ∧ (letters s.data.toList).length = k + (letters l).length) (fun v => s.size - (intOf v).toNat)
  case atStart => exact ⟨0, s.data.toList, ⟨Nat.zero_le _, by simp⟩, rfl, by simp⟩
  case round =>
    obtain ⟨k, l, ha, rfl, hl⟩ := hrel; have hlen := ha.len; have HL : Hid (At s k l ∧ (letters s.data.toList).length = k + (letters l).length) := ⟨ha, hl⟩; clear ha hl
    cases l with
    | nil =>
      simp at hlen; (have hd : decide ((k : Int) < (s.size : Int)) = false := by simp; omega); go_wp2; go_ret
      exact ⟨ret_int (by have := HL.out.2; simp only [letters, List.length_nil] at this; omega), rfl⟩
    | cons c l =>
      simp at hlen; (have hlt' : k < s.size := by omega); (have hlt : (k : Int) < (s.size : Int) := by omega); have hhd : s[k] = c := HL.out.1.head hlt'; by_cases hc : lower c
      · have hx : (97 : Int) ≤ (s[k].toNat : Int) := by rw [hhd]; simp [lower] at hc; omega
        (have hy : (s[k].toNat : Int) ≤ 122 := by rw [hhd]; simp [lower] at hc; omega); (have HN : Hid (At s (k + 1) l ∧ (letters s.data.toList).length = (k + 1) + (letters l).length) := ⟨HL.out.1.cons, by rw [HL.out.2, letters, if_pos hc]; simp; omega⟩); clear hhd hc; go_wp2
        go_round
        case rel => exact ⟨k + 1, l, HN.out.1, by go_num, HN.out.2⟩
        case measure => simp [intOf]; omega
      · have hx : ¬ ((97 : Int) ≤ (s[k].toNat : Int) ∧ (s[k].toNat : Int) ≤ 122) := by rw [hhd]; simp [lower] at hc; omega
        (have HN : Hid ((letters s.data.toList).length = k) := by show _ = _; rw [HL.out.2, letters, if_neg hc]; rfl); clear hhd hc; go_wp2
        all_goals
          go_ret; (exact ⟨ret_int (by have := HN.out; omega), rfl⟩)

set_option maxHeartbeats 1000000 in
theorem isName_any (s : ByteArray) (hs : s.size ≤ maxLen) (w : World) :
    Calls Try.prog 125 #[.string s] w fun e w' => e = .returned (.bool (isNm s.data.toList)) ∧ w' = w := by
  have hsz : s.data.toList.length = s.size := Array.length_toList; have hlt := letters_length s.data.toList; have HB : Hid (s.data.toList.length = s.size) := hsz; rw [hsz] at hlt; unfold maxLen at hs; (have hc := letters_any s (by unfold maxLen; exact hs))
  go_enter Try.func125, Try.ntmps125
  go_wp2_with (go_at_call 144; refine (hc _).mono ?_; rintro e w1 ⟨rfl, rfl⟩)
  all_goals
    go_ret; refine ⟨ret_bool ?_, rfl⟩
  · rename_i hh
    rw [ByteArray.toList_eq] at hh; simp [isNm, hh]
  · rename_i h1 h2
    rw [ByteArray.toList_eq] at h1 ⊢; (have h3 : s.data.toList.length ≤ 8 := by have := HB.out; omega); rw [← HB.out]; simp only [isNm, h3, decide_true, Bool.and_true, List.isEmpty_eq_false_iff.2 h1, Bool.not_false, Bool.true_and, ne_eq, h1, not_false_eq_true]; rw [Bool.eq_iff_iff]; simp; omega
  · rename_i h1 h2
    (have h3 : ¬ s.data.toList.length ≤ 8 := by have := HB.out; omega); simp only [isNm, h3, decide_false, Bool.and_false, Bool.false_and]

/-- The panic that a fault is. -/
def stopC (code at_ : Int) : List PanicEntry := [{ v := .iface 120 (.agg #[.int .i64 code, .int .i64 at_]), recovered := false }]

set_option maxHeartbeats 400000 in
theorem stop_any (code at_ : Int) (w : World) :
    Calls Try.prog 89 #[.int .i64 code, .int .i64 at_] w fun e w' => e = .panicked (stopC code at_) ∧ w' = w := by
  go_enter Try.func89, Try.ntmps89
  go_wp2; exact ⟨rfl, rfl, rfl⟩

end Go.Proofs.Ytmahgfgndfcmpab
/- Walks: the reader's names. -/
namespace Go.Proofs.Ytmahgfgndfcmpab
open Go.RowKit

set_option maxHeartbeats 400000 in
theorem clone_any (s : ByteArray) (w : World) (hlim : s.size ≤ 281474976710656) :
    Calls Try.prog 80 #[.string s] w fun e w' => e = .returned (.string s) ∧ Below w.heap.size w w' := by
  go_enter Try.func80, Try.ntmps80
  go_wp2_with (go_at_call 91; refine (Try.stringslite_Clone s _ hlim).mono ?_; rintro e w1 ⟨rfl, hb⟩); go_ret; exact ⟨rfl, hb⟩

end Go.Proofs.Ytmahgfgndfcmpab
/- Walks: a reader's 'not', way by way. -/
namespace Go.Proofs.Ytmahgfgndfcmpab
open Go.RowKit

theorem Rep.two {w : World} {ok : Nat → Prop} {k : Int} {f g : Fm} {b : Nat} {c0 c1 c2 d0 d1 d2 : Value} {T : TypeId} (hb : w.heap[b]? = some (.cells #[c0, c1, c2, d0, d1, d2] T (0, 0))) (hok : ok b) (hr : Rep w ok f (.agg #[c0, c1, c2])) (hr2 : Rep w ok g (.agg #[d0, d1, d2])) :
    Rep w ok (.mk k e0 [f, g]) (.agg #[.int .i64 k, .string ⟨#[]⟩, .slice (some ⟨b, 0, none⟩) 2 2]) := by
  (exact Rep.def.2 ⟨_, 2, rfl, by decide, by simp, by simp [maxLen], fun _ => ⟨b, 0, rfl, hok, Reps.cons.2 ⟨⟨c0, c1, c2, blk_cell hb 0, blk_cell hb 1, blk_cell hb 2, hr⟩, Reps.cons.2 ⟨⟨d0, d1, d2, blk_cell hb 3, blk_cell hb 4, blk_cell hb 5, hr2⟩, Reps.nil⟩⟩⟩⟩)

theorem Rep.move {w w' : World} {ok ok' : Nat → Prop} {f : Fm} {v : Value} (h : Rep w ok f v) (hb : ∀ b, b < w.heap.size → ok b → w'.heap[b]? = w.heap[b]? ∧ ok' b) : Rep w' ok' f v :=
  Rep.keep (fun _ ha hlt => cell_of_block (hb _ hlt ha).1) (fun k h1 h2 => (hb k h1 h2).2) f v h

end Go.Proofs.Ytmahgfgndfcmpab
/- Walks: a reader's 'and' and 'or'. -/
namespace Go.Proofs.Ytmahgfgndfcmpab
open Go.RowKit

theorem set3 {w : World} {b : Nat} {x0 x1 x2 : Value} {T : TypeId} (h : w.heap[b]? = some (.cells #[x0, x1, x2] T (0, 0))) (y0 y1 y2 : Value) :
    (((w.setCell ⟨b, 0, none⟩ y0).setCell ⟨b, 1, none⟩ y1).setCell ⟨b, 2, none⟩ y2).heap[b]? = some (.cells #[y0, y1, y2] T (0, 0)) := by
  simp [World.setCell, Array.getElem?_modify, h]

end Go.Proofs.Ytmahgfgndfcmpab
/- Walks: a fault that is caught. -/
namespace Go.Proofs.Ytmahgfgndfcmpab
open Go.RowKit

theorem set2 {w : World} {b : Nat} {x0 x1 : Value} {T : TypeId} (h : w.heap[b]? = some (.cells #[x0, x1] T (0, 0))) (y0 y1 : Value) :
    ((w.setCell ⟨b, 0, none⟩ y0).setCell ⟨b, 1, none⟩ y1).heap[b]? = some (.cells #[y0, y1] T (0, 0)) := by
  simp [World.setCell, Array.getElem?_modify, h]

theorem assert_stop (v : Value) (w : World) : (Instr.typeAssert (.iface 120 v) 20 120 true).run Try.prog w = .ok (.tuple #[v, .bool true]) w := by kernel_rfl

set_option maxRecDepth 100000 in
theorem catch_stop (p : Nat) (x y code at_ : Int) (w : World) (hb : w.heap[p]? = some (.cells #[.int .i64 x, .int .i64 y] 25 (0, 0))) :
    CallsD Try.prog 88 #[.pointer (some ⟨p, 0, none⟩)] (.panicking [{ v := .iface 120 (.agg #[.int .i64 code, .int .i64 at_]), recovered := false }]) w fun e u' w' =>
      e = .returned (.tuple #[]) ∧ u' = .panicking [{ v := .iface 120 (.agg #[.int .i64 code, .int .i64 at_]), recovered := true }] ∧ w'.heap[p]? = some (.cells #[.int .i64 code, .int .i64 at_] 25 (0, 0)) ∧ Kept (· ≠ p) w w' := by
  obtain ⟨g1, g2, g3, g4⟩ := blk2 hb; have hlt := lt_of_block hb; (refine callsD_of_wpS Try.func88 rfl fun c₀ cs hu => ?_); apply wpS_seq; apply wpS_region; simp [wpOpsS, go_sem, recoverD, hu, Try.ntmps88, Exit.thenS]; apply wpS_of_wp; have HB : Hid (w.heap[p]? = some (.cells #[.int .i64 x, .int .i64 y] 25 (0, 0))) := hb; clear hb; clear hu; (generalize hQ : (fun (e : Exit) (a' : Act) (w' : World) => _) = Q); have HQ : Hid (_ = Q) := hQ; clear hQ
  change Code.wp _ _ _ { tmps := #[.pointer (some ⟨p, 0, none⟩), undef, undef, undef, .iface 120 (.agg #[.int .i64 code, .int .i64 at_]), undef, undef, undef, undef, undef, undef, undef], defers := [] } _
  have hta := assert_stop; go_wp2; rw [← HQ.out]; (refine ⟨rfl, _, rfl, .tuple #[], by simp [results, Try.results88, go_sem], rfl, rfl, ?_, ?_⟩)
  · rw [Below.heap_alloc _ _ _ (by simpa [World.setCell] using hlt)]
    exact set2 HB.out _ _
  · exact (((Kept.refl _ _).setCell (by simp) _).setCell (by simp) _).alloc _

set_option maxRecDepth 100000 in
theorem catch_idle (p : Addr) (w : World) :
    CallsD Try.prog 88 #[.pointer (some p)] .returning w fun e u' w' => e = .returned (.tuple #[]) ∧ u' = .returning ∧ w' = w := by
  (refine callsD_of_wpS Try.func88 rfl fun c₀ cs hu => ?_); apply wpS_seq; apply wpS_region; simp [wpOpsS, go_sem, recoverD, hu, Try.ntmps88, Exit.thenS]; apply wpS_of_wp; have HU : Hid (c₀.mode = .returning) := hu; clear hu; (generalize hQ : (fun (e : Exit) (a' : Act) (w' : World) => _) = Q); have HQ : Hid (_ = Q) := hQ; clear hQ
  change Code.wp _ _ _ { tmps := #[.pointer (some p), undef, undef, undef, .nilIface, undef, undef, undef, undef, undef, undef, undef], defers := [] } _
  go_wp2; rw [← HQ.out]; (refine ⟨rfl, .returning, ?_, .tuple #[], by simp [results, Try.results88, go_sem], rfl, rfl, rfl⟩); have := HU.out
  cases c₀
  simp_all

set_option maxRecDepth 100000 in
set_option maxHeartbeats 1000000 in
theorem caught_ok (g : Nat) (cap : Array Value) (w : World) (R : World → Prop) (hcf : ∀ w, (callFunc g cap).run Try.prog w = .ok (.enter g cap) w)
    (hw : Calls Try.prog g cap (w.alloc (.cells #[.int .i64 0, .int .i64 0] 25 (0, 0))) fun e w' => e = .returned (.tuple #[]) ∧ w'.heap[w.heap.size]? = some (.cells #[.int .i64 0, .int .i64 0] 25 (0, 0)) ∧ R w') :
    Calls Try.prog 74 #[.func (.func g) #[] cap] w fun e w' => e = .returned (.agg #[.int .i64 0, .int .i64 0]) ∧ ∃ w1, R w1 ∧ Kept (· ≠ w.heap.size) w1 w' := by
  (have hmf : ∀ (fn : Fn) (first cap : Array Value) (w : World), (Instr.makeFunc fn first cap).run Try.prog w = .ok (.func fn first cap) w := fun _ _ _ _ => rfl); have HW : Hid (Calls Try.prog g cap _ _) := hw; clear hw
  go_enter_defers Try.func74, Try.ntmps74
  go_wp2_with fail; refine HW.out.mono ?_; rintro e w1 ⟨rfl, q1, hR⟩; obtain ⟨g1, g2, g3, g4⟩ := blk2 q1; go_wp2_with fail; (refine leaves_cons (f := 88) (args := #[.pointer (some ⟨w.heap.size, 0, none⟩)]) (by simp) (by simp [go_sem]) ?_); refine (catch_idle ⟨w.heap.size, 0, none⟩ _).mono ?_; rintro e u' w'' ⟨rfl, rfl, rfl⟩; simp only [Leaves, settle]; (exact ⟨.agg #[.int .i64 0, .int .i64 0], by simp [results, Try.results74, go_sem, g1, g2], rfl, w1, hR, ((Kept.refl _ _).setCell (by simp) _).setCell (by simp) _⟩)

set_option maxRecDepth 100000 in
set_option maxHeartbeats 1000000 in
theorem caught_bad (g : Nat) (cap : Array Value) (w : World) (R : World → Prop) (code at_ : Int) (hcf : ∀ w, (callFunc g cap).run Try.prog w = .ok (.enter g cap) w)
    (hw : Calls Try.prog g cap (w.alloc (.cells #[.int .i64 0, .int .i64 0] 25 (0, 0))) fun e w' => e = .panicked (stopC code at_) ∧ w'.heap[w.heap.size]? = some (.cells #[.int .i64 0, .int .i64 0] 25 (0, 0)) ∧ R w') :
    Calls Try.prog 74 #[.func (.func g) #[] cap] w fun e w' => e = .returned (.agg #[.int .i64 code, .int .i64 at_]) ∧ ∃ w1, R w1 ∧ Kept (· ≠ w.heap.size) w1 w' := by
  (have hmf : ∀ (fn : Fn) (first cap : Array Value) (w : World), (Instr.makeFunc fn first cap).run Try.prog w = .ok (.func fn first cap) w := fun _ _ _ _ => rfl); have HW : Hid (Calls Try.prog g cap _ _) := hw; clear hw
  go_enter_defers Try.func74, Try.ntmps74
  go_wp2_with fail; refine HW.out.mono ?_; rintro e w1 ⟨rfl, q1, hR⟩; (refine leaves_cons (f := 88) (args := #[.pointer (some ⟨w.heap.size, 0, none⟩)]) (by simp) (by simp [go_sem]) ?_); refine (catch_stop w.heap.size 0 0 code at_ _ q1).mono ?_; rintro e u' w'' ⟨rfl, rfl, q2, hk⟩; obtain ⟨g1, g2, g3, g4⟩ := blk2 q2; simp only [settle]; (exact ⟨.agg #[.int .i64 code, .int .i64 at_], by simp [results, Try.results74, go_sem, g1, g2], rfl, w1, hR, hk⟩)
end Go.Proofs.Ytmahgfgndfcmpab
/- Walks: a whole reading; Parse. -/
namespace Go.Proofs.Ytmahgfgndfcmpab
open Go.RowKit

/-- What a call leaves that was handed a new block of its own. -/
theorem Kept.past {w w' : World} {o : Obj} (h : Kept (· ≠ w.heap.size) (w.alloc o) w') : Kept (fun _ => True) w w' :=
  ⟨h.os, h.tape, h.output, by have := h.size; simp at this; omega, fun k hk _ => (h.block k (by simp; omega) (by omega)).trans (Below.heap_alloc _ _ _ hk)⟩

end Go.Proofs.Ytmahgfgndfcmpab
/- Walks: Parse. -/
namespace Go.Proofs.Ytmahgfgndfcmpab
open Go.RowKit

/-- The blocks that Parse makes first. -/
theorem three {w : World} {o0 o1 o2 o3 : Obj} : ((((w.alloc o0).alloc o1).alloc o2).alloc o3).heap[w.heap.size]? = some o0 ∧ ((((w.alloc o0).alloc o1).alloc o2).alloc o3).heap[w.heap.size + 1]? = some o1 ∧ ((((w.alloc o0).alloc o1).alloc o2).alloc o3).heap[w.heap.size + 2]? = some o2 ∧ ((((w.alloc o0).alloc o1).alloc o2).alloc o3).heap[w.heap.size + 3]? = some o3 := by
  (have e1 : (w.alloc o0).heap.size = w.heap.size + 1 := by simp); (have e2 : ((w.alloc o0).alloc o1).heap.size = w.heap.size + 2 := by simp); (have e3 : (((w.alloc o0).alloc o1).alloc o2).heap.size = w.heap.size + 3 := by simp); refine ⟨?_, ?_, ?_, ?_⟩
  · rw [Below.heap_alloc _ _ _ (by omega), Below.heap_alloc _ _ _ (by omega), Below.heap_alloc _ _ _ (by omega)]; exact blk_new _ _
  · rw [Below.heap_alloc _ _ _ (by omega), Below.heap_alloc _ _ _ (by omega), ← e1]; exact blk_new _ _
  · rw [Below.heap_alloc _ _ _ (by omega), ← e2]; exact blk_new _ _
  · rw [← e3]; exact blk_new _ _

end Go.Proofs.Ytmahgfgndfcmpab
