/- Texts of one proof, one behind the other: Walk2, Walk3, Walk4, Walk7, Walk8, Check1, Check2, Check3, Print1, Print3, Print4, Ref1, Ref2, Back1, Open1, Tok1, Walk0, Read1, Vast2, Each1, Count1, Names1, Names2. -/
import Derived.Test.YtmahgfgndfcmpagB01
import Derived.Test.YtmahgfgndfcmpagB02
import Derived.Deep.LoopGhost
import Derived.Deep.RegionHeld3
import Derived.Defers
import Derived.Recover
import Derived.RegionTactic
import Derived.Lib.Builder
import Derived.Lib.AppendStr
import Derived.Lib.UnsafeStr
import Derived.Laws.Externs
import Derived.ProofKit
import Derived.Deep.Strs
import Derived.Deep.Slices
import Derived.Lib.SmallJoins
import Derived.Deep.DeepCutAuto
import Derived.Deep.CutBlock
import Derived.Deep.AppendLies
import Derived.Deep.RegionLaw
import Derived.Test.YtmahgfgndfcmpagB03
import Derived.Sort.OwnSorted
/- Walks: the reader's small steps, two. -/
namespace Go.Proofs.Ytmahgfgndfcmpag
open Go.RowKit

theorem ret_int {k : IntKind} {a b : Int} (h : a = b) : Ending.returned (.int k a) = .returned (.int k b) := by rw [h]
theorem ret_bool {a b : Bool} (h : a = b) : Ending.returned (.bool a) = .returned (.bool b) := by rw [h]

set_option maxHeartbeats 1000000 in
theorem letters_any (s : ByteArray) (hs : s.size ≤ maxLen) (w : World) :
    Calls Try.prog 140 #[.string s] w fun e w' => e = .returned (.int .i64 (letters s.data.toList).length) ∧ w' = w := by
  unfold maxLen at hs
  go_enter Try.func140, Try.ntmps140
  go_wp2
  go_loop [3] (fun v => ∃ k l, At s k l ∧ v = .int .i64 (k : Nat) ∧ (letters s.data.toList).length = k + (letters l).length) (fun v => s.size - (intOf v).toNat)
  case atStart => exact ⟨0, s.data.toList, ⟨Nat.zero_le _, by simp⟩, rfl, by simp⟩
  case round =>
    obtain ⟨k, l, ha, rfl, hl⟩ := hrel; have hlen := ha.len; have HL : Hid (At s k l ∧ (letters s.data.toList).length = k + (letters l).length) := ⟨ha, hl⟩; clear ha hl
    cases l with
    | nil =>
      simp at hlen; (have hd : decide ((k : Int) < (s.size : Int)) = false := by simp; omega); go_wp2; go_ret
      exact ⟨ret_int (by have := HL.out.2; simp only [letters, List.length_nil] at this; omega), rfl⟩
    | cons c l =>
      simp at hlen; (have hlt' : k < s.size := by omega); (have hlt : (k : Int) < (s.size : Int) := by omega); have hhd : s[k] = c := HL.out.1.head hlt'; by_cases hc : lower c
      · have hx : (97 : Int) ≤ (s[k].toNat : Int) := by rw [hhd]; simp [lower] at hc; omega
        (have hy : (s[k].toNat : Int) ≤ 122 := by rw [hhd]; simp [lower] at hc; omega); (have HN : Hid (At s (k + 1) l ∧ (letters s.data.toList).length = (k + 1) + (letters l).length) := ⟨HL.out.1.cons, by rw [HL.out.2, letters, if_pos hc]; simp; omega⟩); clear hhd hc; go_wp2
        go_round
        case rel => exact ⟨k + 1, l, HN.out.1, by go_num, HN.out.2⟩
        case measure => simp [intOf]; omega
      · have hx : ¬ ((97 : Int) ≤ (s[k].toNat : Int) ∧ (s[k].toNat : Int) ≤ 122) := by rw [hhd]; simp [lower] at hc; omega
        (have HN : Hid ((letters s.data.toList).length = k) := by show _ = _; rw [HL.out.2, letters, if_neg hc]; rfl); clear hhd hc; go_wp2
        all_goals
          go_ret; (exact ⟨ret_int (by have := HN.out; omega), rfl⟩)

set_option maxHeartbeats 1000000 in
theorem isName_any (s : ByteArray) (hs : s.size ≤ maxLen) (w : World) :
    Calls Try.prog 128 #[.string s] w fun e w' => e = .returned (.bool (isNm s.data.toList)) ∧ w' = w := by
  have hsz : s.data.toList.length = s.size := Array.length_toList; have hlt := letters_length s.data.toList; have HB : Hid (s.data.toList.length = s.size) := hsz; rw [hsz] at hlt; unfold maxLen at hs; (have hc := letters_any s (by unfold maxLen; exact hs))
  go_enter Try.func128, Try.ntmps128
  go_wp2_with (go_at_call 140; refine (hc _).mono ?_; rintro e w1 ⟨rfl, rfl⟩)
  all_goals
    go_ret; refine ⟨ret_bool ?_, rfl⟩
  · rename_i hh
    rw [ByteArray.toList_eq] at hh; simp [isNm, hh]
  · rename_i h1 h2
    rw [ByteArray.toList_eq] at h1 ⊢; (have h3 : s.data.toList.length ≤ 8 := by have := HB.out; omega); rw [← HB.out]; simp only [isNm, h3, decide_true, Bool.and_true, List.isEmpty_eq_false_iff.2 h1, Bool.not_false, Bool.true_and, ne_eq, h1, not_false_eq_true]; rw [Bool.eq_iff_iff]; simp; omega
  · rename_i h1 h2
    (have h3 : ¬ s.data.toList.length ≤ 8 := by have := HB.out; omega); simp only [isNm, h3, decide_false, Bool.and_false, Bool.false_and]

/-- The panic that a fault is. -/
def stopC (code at_ : Int) : List PanicEntry := [{ v := .iface 152 (.agg #[.int .i64 code, .int .i64 at_]), recovered := false }]

set_option maxHeartbeats 400000 in
theorem stop_any (code at_ : Int) (w : World) :
    Calls Try.prog 104 #[.int .i64 code, .int .i64 at_] w fun e w' => e = .panicked (stopC code at_) ∧ w' = w := by
  go_enter Try.func104, Try.ntmps104
  go_wp2; exact ⟨rfl, rfl, rfl⟩

end Go.Proofs.Ytmahgfgndfcmpag
/- Walks: the reader's names. -/
namespace Go.Proofs.Ytmahgfgndfcmpag
open Go.RowKit

set_option maxHeartbeats 400000 in
theorem clone_any (s : ByteArray) (w : World) (hlim : s.size ≤ 281474976710656) :
    Calls Try.prog 65 #[.string s] w fun e w' => e = .returned (.string s) ∧ Below w.heap.size w w' := by
  go_enter Try.func65, Try.ntmps65
  go_wp2_with (go_at_call 97; refine (Try.stringslite_Clone s _ hlim).mono ?_; rintro e w1 ⟨rfl, hb⟩); go_ret; exact ⟨rfl, hb⟩

end Go.Proofs.Ytmahgfgndfcmpag
/- Walks: a reader's 'not', way by way. -/
namespace Go.Proofs.Ytmahgfgndfcmpag
open Go.RowKit

theorem Rep.one {w : World} {ok : Nat → Prop} {k : Int} {f : Fm} {b : Nat} {c0 c1 c2 : Value} {T : TypeId} (hb : w.heap[b]? = some (.cells #[c0, c1, c2] T (0, 0))) (hok : ok b) (hr : Rep w ok f (.agg #[c0, c1, c2])) :
    Rep w ok (.mk k e0 [f]) (.agg #[.int .i64 k, .string ⟨#[]⟩, .slice (some ⟨b, 0, none⟩) 1 1]) := by
  obtain ⟨g0, g1, g2, _⟩ := blk3 hb; (exact Rep.def.2 ⟨_, 1, rfl, by decide, by simp, by simp [maxLen], fun _ => ⟨b, 0, rfl, hok, Reps.cons.2 ⟨⟨c0, c1, c2, g0, g1, g2, hr⟩, Reps.nil⟩⟩⟩)
theorem Rep.move {w w' : World} {ok ok' : Nat → Prop} {f : Fm} {v : Value} (h : Rep w ok f v) (hb : ∀ b, b < w.heap.size → ok b → w'.heap[b]? = w.heap[b]? ∧ ok' b) : Rep w' ok' f v :=
  Rep.keep (fun _ ha hlt => cell_of_block (hb _ hlt ha).1) (fun k h1 h2 => (hb k h1 h2).2) f v h

end Go.Proofs.Ytmahgfgndfcmpag
/- Walks: a fault that is caught. -/
namespace Go.Proofs.Ytmahgfgndfcmpag
open Go.RowKit

theorem set2 {w : World} {b : Nat} {x0 x1 : Value} {T : TypeId} (h : w.heap[b]? = some (.cells #[x0, x1] T (0, 0))) (y0 y1 : Value) :
    ((w.setCell ⟨b, 0, none⟩ y0).setCell ⟨b, 1, none⟩ y1).heap[b]? = some (.cells #[y0, y1] T (0, 0)) := by
  simp [World.setCell, Array.getElem?_modify, h]

theorem assert_stop (v : Value) (w : World) : (Instr.typeAssert (.iface 152 v) 20 152 true).run Try.prog w = .ok (.tuple #[v, .bool true]) w := by kernel_rfl

set_option maxRecDepth 100000 in
theorem catch_stop (p : Nat) (x y code at_ : Int) (w : World) (hb : w.heap[p]? = some (.cells #[.int .i64 x, .int .i64 y] 34 (0, 0))) :
    CallsD Try.prog 103 #[.pointer (some ⟨p, 0, none⟩)] (.panicking [{ v := .iface 152 (.agg #[.int .i64 code, .int .i64 at_]), recovered := false }]) w fun e u' w' =>
      e = .returned (.tuple #[]) ∧ u' = .panicking [{ v := .iface 152 (.agg #[.int .i64 code, .int .i64 at_]), recovered := true }] ∧ w'.heap[p]? = some (.cells #[.int .i64 code, .int .i64 at_] 34 (0, 0)) ∧ Kept (· ≠ p) w w' := by
  obtain ⟨g1, g2, g3, g4⟩ := blk2 hb; have hlt := lt_of_block hb; (refine callsD_of_wpS Try.func103 rfl fun c₀ cs hu => ?_); apply wpS_seq; apply wpS_region; simp [wpOpsS, go_sem, recoverD, hu, Try.ntmps103, Exit.thenS]; apply wpS_of_wp; have HB : Hid (w.heap[p]? = some (.cells #[.int .i64 x, .int .i64 y] 34 (0, 0))) := hb; clear hb; clear hu; (generalize hQ : (fun (e : Exit) (a' : Act) (w' : World) => _) = Q); have HQ : Hid (_ = Q) := hQ; clear hQ
  change Code.wp _ _ _ { tmps := #[.pointer (some ⟨p, 0, none⟩), undef, undef, undef, .iface 152 (.agg #[.int .i64 code, .int .i64 at_]), undef, undef, undef, undef, undef, undef, undef], defers := [] } _
  have hta := assert_stop; go_wp2; rw [← HQ.out]; (refine ⟨rfl, _, rfl, .tuple #[], by simp [results, Try.results103, go_sem], rfl, rfl, ?_, ?_⟩)
  · rw [Below.heap_alloc _ _ _ (by simpa [World.setCell] using hlt)]
    exact set2 HB.out _ _
  · exact (((Kept.refl _ _).setCell (by simp) _).setCell (by simp) _).alloc _

set_option maxRecDepth 100000 in
theorem catch_idle (p : Addr) (w : World) :
    CallsD Try.prog 103 #[.pointer (some p)] .returning w fun e u' w' => e = .returned (.tuple #[]) ∧ u' = .returning ∧ w' = w := by
  (refine callsD_of_wpS Try.func103 rfl fun c₀ cs hu => ?_); apply wpS_seq; apply wpS_region; simp [wpOpsS, go_sem, recoverD, hu, Try.ntmps103, Exit.thenS]; apply wpS_of_wp; have HU : Hid (c₀.mode = .returning) := hu; clear hu; (generalize hQ : (fun (e : Exit) (a' : Act) (w' : World) => _) = Q); have HQ : Hid (_ = Q) := hQ; clear hQ
  change Code.wp _ _ _ { tmps := #[.pointer (some p), undef, undef, undef, .nilIface, undef, undef, undef, undef, undef, undef, undef], defers := [] } _
  go_wp2; rw [← HQ.out]; (refine ⟨rfl, .returning, ?_, .tuple #[], by simp [results, Try.results103, go_sem], rfl, rfl, rfl⟩); have := HU.out
  cases c₀
  simp_all

set_option maxRecDepth 100000 in
set_option maxHeartbeats 1000000 in
theorem caught_ok (g : Nat) (cap : Array Value) (w : World) (R : World → Prop) (hcf : ∀ w, (callFunc g cap).run Try.prog w = .ok (.enter g cap) w)
    (hw : Calls Try.prog g cap (w.alloc (.cells #[.int .i64 0, .int .i64 0] 34 (0, 0))) fun e w' => e = .returned (.tuple #[]) ∧ w'.heap[w.heap.size]? = some (.cells #[.int .i64 0, .int .i64 0] 34 (0, 0)) ∧ R w') :
    Calls Try.prog 81 #[.func (.func g) #[] cap] w fun e w' => e = .returned (.agg #[.int .i64 0, .int .i64 0]) ∧ ∃ w1, R w1 ∧ Kept (· ≠ w.heap.size) w1 w' := by
  (have hmf : ∀ (fn : Fn) (first cap : Array Value) (w : World), (Instr.makeFunc fn first cap).run Try.prog w = .ok (.func fn first cap) w := fun _ _ _ _ => rfl); have HW : Hid (Calls Try.prog g cap _ _) := hw; clear hw
  go_enter_defers Try.func81, Try.ntmps81
  go_wp2_with fail; refine HW.out.mono ?_; rintro e w1 ⟨rfl, q1, hR⟩; obtain ⟨g1, g2, g3, g4⟩ := blk2 q1; go_wp2_with fail; (refine leaves_cons (f := 103) (args := #[.pointer (some ⟨w.heap.size, 0, none⟩)]) (by simp) (by simp [go_sem]) ?_); refine (catch_idle ⟨w.heap.size, 0, none⟩ _).mono ?_; rintro e u' w'' ⟨rfl, rfl, rfl⟩; simp only [Leaves, settle]; (exact ⟨.agg #[.int .i64 0, .int .i64 0], by simp [results, Try.results81, go_sem, g1, g2], rfl, w1, hR, ((Kept.refl _ _).setCell (by simp) _).setCell (by simp) _⟩)

set_option maxRecDepth 100000 in
set_option maxHeartbeats 1000000 in
theorem caught_bad (g : Nat) (cap : Array Value) (w : World) (R : World → Prop) (code at_ : Int) (hcf : ∀ w, (callFunc g cap).run Try.prog w = .ok (.enter g cap) w)
    (hw : Calls Try.prog g cap (w.alloc (.cells #[.int .i64 0, .int .i64 0] 34 (0, 0))) fun e w' => e = .panicked (stopC code at_) ∧ w'.heap[w.heap.size]? = some (.cells #[.int .i64 0, .int .i64 0] 34 (0, 0)) ∧ R w') :
    Calls Try.prog 81 #[.func (.func g) #[] cap] w fun e w' => e = .returned (.agg #[.int .i64 code, .int .i64 at_]) ∧ ∃ w1, R w1 ∧ Kept (· ≠ w.heap.size) w1 w' := by
  (have hmf : ∀ (fn : Fn) (first cap : Array Value) (w : World), (Instr.makeFunc fn first cap).run Try.prog w = .ok (.func fn first cap) w := fun _ _ _ _ => rfl); have HW : Hid (Calls Try.prog g cap _ _) := hw; clear hw
  go_enter_defers Try.func81, Try.ntmps81
  go_wp2_with fail; refine HW.out.mono ?_; rintro e w1 ⟨rfl, q1, hR⟩; (refine leaves_cons (f := 103) (args := #[.pointer (some ⟨w.heap.size, 0, none⟩)]) (by simp) (by simp [go_sem]) ?_); refine (catch_stop w.heap.size 0 0 code at_ _ q1).mono ?_; rintro e u' w'' ⟨rfl, rfl, q2, hk⟩; obtain ⟨g1, g2, g3, g4⟩ := blk2 q2; simp only [settle]; (exact ⟨.agg #[.int .i64 code, .int .i64 at_], by simp [results, Try.results81, go_sem, g1, g2], rfl, w1, hR, hk⟩)
end Go.Proofs.Ytmahgfgndfcmpag
/- Walks: a whole reading; Parse. -/
namespace Go.Proofs.Ytmahgfgndfcmpag
open Go.RowKit

/-- What a call leaves that was handed a new block of its own. -/
theorem Kept.past {w w' : World} {o : Obj} (h : Kept (· ≠ w.heap.size) (w.alloc o) w') : Kept (fun _ => True) w w' :=
  ⟨h.os, h.tape, h.output, by have := h.size; simp at this; omega, fun k hk _ => (h.block k (by simp; omega) (by omega)).trans (Below.heap_alloc _ _ _ hk)⟩

end Go.Proofs.Ytmahgfgndfcmpag
/- Walks: Check's small steps. -/
namespace Go.Proofs.Ytmahgfgndfcmpag
open Go.RowKit

theorem tup_ib {a a' : Int} {b b' : Bool} (h : a = a') (k : b = b') : Ending.returned (.tuple #[.int .i64 a, .bool b]) = .returned (.tuple #[.int .i64 a', .bool b']) := by rw [h, k]

set_option maxHeartbeats 1000000 in
theorem kidsOf_any (k : Int) (w : World) :
    Calls Try.prog 127 #[.int .i64 k] w fun e w' => e = .returned (.tuple #[.int .i64 (kidsN k), .bool (kindB k)]) ∧ w' = w := by
  go_enter Try.func127, Try.ntmps127
  go_wp2
  all_goals
    go_ret2; refine ⟨tup_ib ?_ ?_, rfl⟩
  all_goals
    simp only [beq_iff_eq, beq_eq_false_iff_ne, ne_eq] at *
    first
      | (subst_vars; decide)
      | (unfold kidsN; rw [if_neg (by omega), if_neg (by omega)])
      | (unfold kindB; simp; omega)

set_option maxHeartbeats 1000000 in
theorem node_kind (k at_ : Int) (n : ByteArray) (sl : Option Addr) (len cap : Nat) (w : World) (h : kindB k = false) :
    Calls Try.prog 105 #[.agg #[.int .i64 k, .string n, .slice sl len cap], .int .i64 at_] w fun e w' => e = .panicked (stopC 4 at_) ∧ Below w.heap.size w w' := by
  go_enter Try.func105, Try.ntmps105
  go_wp2_with (first
    | (go_at_call 127; refine (kidsOf_any k _).mono ?_; rintro e w1 ⟨rfl, rfl⟩)
    | (go_at_call 104; refine (stop_any _ _ _).mono ?_; rintro e w4 ⟨rfl, rfl⟩)
    | fail)
  exact ⟨rfl, rfl, (Below.refl _ _).alloc (Nat.le_refl _) _⟩

set_option maxHeartbeats 1000000 in
theorem node_size (k at_ : Int) (n : ByteArray) (sl : Option Addr) (len cap : Nat) (w : World) (h : kindB k = true) (h2 : (len : Int) ≠ kidsN k) :
    Calls Try.prog 105 #[.agg #[.int .i64 k, .string n, .slice sl len cap], .int .i64 at_] w fun e w' => e = .panicked (stopC 9 at_) ∧ Below w.heap.size w w' := by
  go_enter Try.func105, Try.ntmps105
  go_wp2_with (first
    | (go_at_call 127; refine (kidsOf_any k _).mono ?_; rintro e w1 ⟨rfl, rfl⟩)
    | (go_at_call 104; refine (stop_any _ _ _).mono ?_; rintro e w4 ⟨rfl, rfl⟩)
    | fail)
  exact ⟨rfl, rfl, (Below.refl _ _).alloc (Nat.le_refl _) _⟩

set_option maxHeartbeats 1000000 in
theorem node_name (k at_ : Int) (n : ByteArray) (hn : n.size ≤ maxLen) (sl : Option Addr) (len cap : Nat) (w : World) (h : kindB k = true) (h2 : (len : Int) = kidsN k) (h3 : nameB k n = true) :
    Calls Try.prog 105 #[.agg #[.int .i64 k, .string n, .slice sl len cap], .int .i64 at_] w fun e w' => e = .panicked (stopC 8 at_) ∧ Below w.heap.size w w' := by
  have hin := isName_any n hn; by_cases hk : k = 1
  · subst hk
    (have h4 : isNm n.data.toList = false := by simpa [nameB] using h3); rw [h4] at hin
    go_enter Try.func105, Try.ntmps105
    go_wp2_with (first
      | (go_at_call 127; refine (kidsOf_any 1 _).mono ?_; rintro e w1 ⟨rfl, rfl⟩)
      | (go_at_call 128; refine (hin _).mono ?_; rintro e w1 ⟨rfl, rfl⟩)
      | (go_at_call 104; refine (stop_any _ _ _).mono ?_; rintro e w4 ⟨rfl, rfl⟩)
      | fail)
    exact ⟨rfl, rfl, (Below.refl _ _).alloc (Nat.le_refl _) _⟩
  · have h4 : n.toList.isEmpty = false := by rw [ByteArray.toList_eq]; simpa [nameB, hk] using h3
    (have hk1 : (k == 1) = false := by simpa using hk); (have hk2 : (k != 1) = true := by simpa using hk)
    go_enter Try.func105, Try.ntmps105
    go_wp2_with (first
      | (go_at_call 127; refine (kidsOf_any k _).mono ?_; rintro e w1 ⟨rfl, rfl⟩)
      | (go_at_call 104; refine (stop_any _ _ _).mono ?_; rintro e w4 ⟨rfl, rfl⟩)
      | fail)
    exact ⟨rfl, rfl, (Below.refl _ _).alloc (Nat.le_refl _) _⟩

set_option maxHeartbeats 1000000 in
theorem node_fine (k at_ : Int) (n : ByteArray) (hn : n.size ≤ maxLen) (sl : Option Addr) (len cap : Nat) (w : World) (h : kindB k = true) (h2 : (len : Int) = kidsN k) (h3 : nameB k n = false) :
    Calls Try.prog 105 #[.agg #[.int .i64 k, .string n, .slice sl len cap], .int .i64 at_] w fun e w' => e = .returned (.tuple #[]) ∧ Below w.heap.size w w' := by
  have hin := isName_any n hn; by_cases hk : k = 1
  · subst hk
    (have h4 : isNm n.data.toList = true := by simpa [nameB] using h3); rw [h4] at hin
    go_enter Try.func105, Try.ntmps105
    go_wp2_with (first
      | (go_at_call 127; refine (kidsOf_any 1 _).mono ?_; rintro e w1 ⟨rfl, rfl⟩)
      | (go_at_call 128; refine (hin _).mono ?_; rintro e w1 ⟨rfl, rfl⟩)
      | fail)
    go_end0
    exact ⟨rfl, (Below.refl _ _).alloc (Nat.le_refl _) _⟩
  · have h4 : n.toList = [] := by rw [ByteArray.toList_eq]; simpa [nameB, hk] using h3
    (have hk1 : (k == 1) = false := by simpa using hk)
    go_enter Try.func105, Try.ntmps105
    go_wp2_with (first
      | (go_at_call 127; refine (kidsOf_any k _).mono ?_; rintro e w1 ⟨rfl, rfl⟩)
      | fail)
    go_end0
    exact ⟨rfl, (Below.refl _ _).alloc (Nat.le_refl _) _⟩

theorem nodeF_some {k : Int} {n : ByteArray} {len : Nat} {c : Int} (h : nodeF k n len = some c) (at_ : Int) (hn : n.size ≤ maxLen) (sl : Option Addr) (cap : Nat) (w : World) :
    Calls Try.prog 105 #[.agg #[.int .i64 k, .string n, .slice sl len cap], .int .i64 at_] w fun e w' => e = .panicked (stopC c at_) ∧ Below w.heap.size w w' := by
  unfold nodeF at h
  split at h
  · rename_i h1; cases h; exact node_kind k at_ n sl len cap w h1
  · rename_i h1
    (have h1 : kindB k = true := by simpa using h1)
    split at h
    · rename_i h2; cases h; exact node_size k at_ n sl len cap w h1 h2
    · rename_i h2
      (have h2 : (len : Int) = kidsN k := by simpa using h2)
      split at h
      · rename_i h3; cases h; exact node_name k at_ n hn sl len cap w h1 h2 h3
      · cases h

theorem nodeF_none {k : Int} {n : ByteArray} {len : Nat} (h : nodeF k n len = none) (at_ : Int) (hn : n.size ≤ maxLen) (sl : Option Addr) (cap : Nat) (w : World) :
    Calls Try.prog 105 #[.agg #[.int .i64 k, .string n, .slice sl len cap], .int .i64 at_] w fun e w' => e = .returned (.tuple #[]) ∧ Below w.heap.size w w' := by
  unfold nodeF at h
  split at h
  · cases h
  · rename_i h1
    (have h1 : kindB k = true := by simpa using h1)
    split at h
    · cases h
    · rename_i h2
      (have h2 : (len : Int) = kidsN k := by simpa using h2)
      split at h
      · cases h
      · rename_i h3
        (exact node_fine k at_ n hn sl len cap w h1 h2 (by simpa using h3))
end Go.Proofs.Ytmahgfgndfcmpag
/- Walks: Check's recursion. -/
namespace Go.Proofs.Ytmahgfgndfcmpag
open Go.RowKit

/-- The checker's block. -/
def RC (bc : Nat) (w : World) (s : Nat) : Prop := w.heap[bc]? = some (.cells #[.int .i64 s] 128 (0, 0))
theorem RC.lt {bc : Nat} {w : World} {s : Nat} (h : RC bc w s) : bc < w.heap.size := lt_of_block h
theorem RC.c0 {bc : Nat} {w : World} {s : Nat} (h : RC bc w s) : w.cell? ⟨bc, 0, none⟩ = some (.int .i64 s) := blk_cell h 0
theorem RC.fz {bc : Nat} {w : World} {s : Nat} (h : RC bc w s) : w.frozen? ⟨bc, 0, none⟩ = false := blk_fz h 0
theorem RC.alloc {bc : Nat} {w : World} {s : Nat} (h : RC bc w s) (o : Obj) : RC bc (w.alloc o) s := by
  unfold RC; rw [Below.heap_alloc _ _ _ h.lt]; exact h
theorem RC.set {bc : Nat} {w : World} {s : Nat} (h : RC bc w s) (s' : Nat) : RC bc (w.setCell ⟨bc, 0, none⟩ (.int .i64 s')) s' := by
  unfold RC at *; simp [World.setCell, Array.getElem?_modify, h]
theorem RC.below {bc : Nat} {w w' : World} {s : Nat} (h : RC bc w s) (hb : Below w.heap.size w w') : RC bc w' s := by
  unfold RC; rw [hb.block _ h.lt]; exact h

/-- What a look at a formula leaves. -/
def LPost (bc : Nat) : Chk → Ending → World → Prop
  | .ok s, e, w' => e = .returned (.tuple #[]) ∧ RC bc w' s
  | .bad c a, e, _ => e = .panicked (stopC c a)

def Looks (m : Nat) : Prop := ∀ (bc s : Nat) (f : Fm) (v : Value) (w : World), f.size < m → RC bc w s → s ≤ 200 → Rep w (· ≠ bc) f v →
  Calls Try.prog 83 #[.pointer (some ⟨bc, 0, none⟩), v] w fun e w' => Kept (· ≠ bc) w w' ∧ LPost bc (chk f s) e w'

theorem chks_drop {ks : List Fm} {i : Nat} {f : Fm} (h : ks[i]? = some f) (s : Nat) : chks (ks.drop i) s = match chk f s with | .bad c a => .bad c a | .ok s' => chks (ks.drop (i + 1)) s' := by
  have hi : i < ks.length := by
    rcases Nat.lt_or_ge i ks.length with h' | h'
    · exact h'
    · rw [List.getElem?_eq_none h'] at h; cases h
  rw [List.drop_eq_getElem_cons hi, chks]; rw [List.getElem?_eq_getElem hi] at h; rw [Option.some.inj h]
  cases chk f s <;> rfl

theorem sizes_get {ks : List Fm} {i : Nat} {f : Fm} (h : ks[i]? = some f) : f.size ≤ Fm.sizes ks := by
  induction ks generalizing i with
  | nil => simp at h
  | cons g gs ih =>
    cases i with
    | zero => simp at h; subst h; simp [Fm.sizes]
    | succ i => have := ih (i := i) (by simpa using h); simp [Fm.sizes]; omega

set_option maxHeartbeats 2000000 in
theorem look_step (m : Nat) (ih : Looks m) : Looks (m + 1) := by
  intro bc s f v w hm hc hs hrep; obtain ⟨k, n, ks⟩ := f; obtain ⟨sl, cap, rfl, hx1, hx2, hx3, hx4⟩ := Rep.def.1 hrep; have f0 := hc.c0; have f1 := hc.fz; have z0 := hc.lt; by_cases h200 : s = 200
  · subst h200
    go_enter Try.func83, Try.ntmps83
    go_wp2_with (first
      | (go_at_call 104; refine (stop_any _ _ _).mono ?_; rintro e w4 ⟨rfl, rfl⟩)
      | fail)
    refine ⟨rfl, (Kept.refl _ _).alloc _, ?_⟩; simp only [chk, if_true, LPost]; rfl
  · have hs1 : ((s : Int) == 200) = false := by simp; omega
    (have hs2 : (s : Int) ≤ 200 := by omega)
    rcases hnf : nodeF k n ks.length with _ | c
    · have hchk : chk (.mk k n ks) s = chks ks (s + 1) := by rw [chk, if_neg h200, hnf]
      rw [hchk]; have HX : Hid (ks ≠ [] → ∃ b off, sl = some ⟨b, off, none⟩ ∧ b ≠ bc ∧ Reps w (· ≠ bc) b off ks) := hx4; clear hx4; (have hlen : ((ks.length : Nat) : Int) ≤ 9223372036854775807 := by unfold maxLen at hx3; omega)
      go_enter Try.func83, Try.ntmps83
      go_wp2_with (first
        | (go_at_call 105
           refine (nodeF_none hnf _ hx1 _ _ _).mono ?_; rintro e w4 ⟨rfl, hb⟩
           have q4 : w4.heap[w.heap.size]? = some (.cells #[.int .i64 k, .string n, .slice sl ks.length cap] 28 (0, 0)) := by
             (rw [hb.block _ (by simp [World.setCell])]); have := blk_new (w.setCell ⟨bc, 0, none⟩ (.int .i64 (s + 1))) (.cells #[.int .i64 k, .string n, .slice sl ks.length cap] 28 (0, 0)); simpa [World.setCell] using this
           have f2 := blk_cell q4 2
           simp at f2)
        | fail)
      have hc4 : RC bc w4 (s + 1) := ((hc.set (s + 1)).alloc _).below hb; (have hk4 : Kept (· ≠ bc) w w4 := (((Kept.refl _ _).setCell (by simp) _).alloc _).trans (kept_of_below hb (fun _ h _ => h))); clear f0 f1 f2 hb
      go_loopg [27] ks.length (fun g v wr => ∃ i s', i ≤ ks.length ∧ g = ks.length - i ∧ v = .int .i64 (i : Nat) ∧ s' ≤ 200 ∧ RC bc wr s' ∧ Kept (· ≠ bc) w wr ∧ Hid (chks (ks.drop i) s' = chks ks (s + 1)))
      case atStart => exact ⟨0, s + 1, by omega, by omega, rfl, by omega, hc4, hk4, by show _ = _; simp⟩
      case round =>
        obtain ⟨i, s', hi, hg, rfl, hs', hcr, hkr, HC⟩ := hrel; have HG : Hid (gk = ks.length - i) := hg; clear hg hc4 hk4 q4; by_cases hlt : i < ks.length
        · obtain ⟨b, off, hsl, hb, hrs⟩ := HX.out (fun e => by rw [e] at hlt; simp at hlt)
          subst hsl; obtain ⟨⟨k2, n2, ks2⟩, hki⟩ : ∃ f, ks[i]? = some f := ⟨_, List.getElem?_eq_getElem hlt⟩; obtain ⟨sl2, cap2, g0, g1, g2, hrep2⟩ := (hrs.kept hb hkr).at i k2 n2 ks2 hki; (have hlt2 : (i : Int) < (ks.length : Int) := by omega); have hds := HC.out; rw [chks_drop hki] at hds; (have hsz : (Fm.mk k2 n2 ks2).size < m := by have := sizes_get hki; rw [Fm.size] at hm; omega); (have HI : Hid (∀ w, RC bc w s' → Rep w (· ≠ bc) (.mk k2 n2 ks2) (.agg #[.int .i64 k2, .string n2, .slice sl2 ks2.length cap2]) → Calls Try.prog 83 #[.pointer (some ⟨bc, 0, none⟩), .agg #[.int .i64 k2, .string n2, .slice sl2 ks2.length cap2]] w fun e w' => Kept (· ≠ bc) w w' ∧ LPost bc (chk (.mk k2 n2 ks2) s') e w') := fun w h1 h2 => ih bc s' _ _ w hsz h1 hs' h2); have HK : Hid (ks[i]? = some (.mk k2 n2 ks2)) := hki; clear hki hrs hrep HX HC hnf hchk
          rcases hck : chk (.mk k2 n2 ks2) s' with s2 | ⟨c, a⟩
          · rw [hck] at hds HI
            simp only at hds; have HD : Hid (chks (ks.drop (i + 1)) s2 = chks ks (s + 1)) := hds; have hs2' := (chk_le _ _ _ hck hs').1; clear hds hck
            go_wp2_with (first
              | (go_at_call 83
                 refine (HI.out _ (hcr.alloc _) (hrep2.kept ((Kept.refl _ _).alloc _))).mono ?_
                 rintro e w5 ⟨hk5, rfl, hc5⟩)
              | fail)
            go_roundg (ks.length - (i + 1))
            case measure => have := HG.out; omega
            case rel => exact ⟨i + 1, s2, by omega, rfl, by go_num, hs2', hc5, (hkr.alloc _).trans hk5, HD⟩
          · rw [hck] at hds HI
            simp only at hds; have HD : Hid (Chk.bad c a = chks ks (s + 1)) := hds; clear hds hck
            go_wp2_with (first
              | (go_at_call 83
                 refine (HI.out _ (hcr.alloc _) (hrep2.kept ((Kept.refl _ _).alloc _))).mono ?_; rintro e w5 ⟨hk5, he5⟩
                 obtain rfl : e = _ := he5)
              | fail)
            (exact ⟨rfl, (hkr.alloc _).trans hk5, by rw [← HD.out]; rfl⟩)
        · go_wp2_with fail
          go_end0
          refine ⟨hkr, ?_⟩; (rw [← HC.out, List.drop_of_length_le (by omega), chks]); exact ⟨rfl, hcr⟩
    · go_enter Try.func83, Try.ntmps83
      go_wp2_with (first
        | (go_at_call 105
           refine (nodeF_some hnf _ hx1 _ _ _).mono ?_
           rintro e w4 ⟨rfl, hb⟩)
        | fail)
      (refine ⟨rfl, (((Kept.refl _ _).setCell (by simp) _).alloc _).trans (kept_of_below hb (fun _ h _ => h)), ?_⟩); rw [chk, if_neg h200, hnf]; rfl
end Go.Proofs.Ytmahgfgndfcmpag
/- Walks: Check. -/
namespace Go.Proofs.Ytmahgfgndfcmpag
open Go.RowKit

theorem looks_all : ∀ m, Looks m
  | 0 => fun _ _ _ _ _ h => absurd h (Nat.not_lt_zero _)
  | m + 1 => look_step m (looks_all m)

theorem check1_in (cap : Array Value) (w : World) : (callFunc 82 cap).run Try.prog w = .ok (.enter 82 cap) w := by
  simp [go_sem]

set_option maxHeartbeats 1000000 in
theorem check1_any (bf : Nat) (k : Int) (n : ByteArray) (ks : List Fm) (sl : Option Addr) (cap : Nat) (w : World) (q0 : w.heap[bf]? = some (.cells #[.int .i64 k, .string n, .slice sl ks.length cap] 28 (0, 0)))
    (hrep : Rep w (fun _ => True) (.mk k n ks) (.agg #[.int .i64 k, .string n, .slice sl ks.length cap])) (x : Chk) (hx : chk (.mk k n ks) 0 = x) :
    Calls Try.prog 82 #[.pointer (some ⟨bf, 0, none⟩)] w fun e w' => Kept (fun _ => True) w w' ∧ match x with
      | .ok _ => e = .returned (.tuple #[])
      | .bad c a => e = .panicked (stopC c a) := by
  obtain ⟨g1, g2, g3, g4, g5, g6⟩ := blk3 q0; have z0 := lt_of_block q0
  have hl := looks_all ((Fm.mk k n ks).size + 1) w.heap.size 0 (.mk k n ks) (.agg #[.int .i64 k, .string n, .slice sl ks.length cap]) (w.alloc (.cells #[.int .i64 0] 128 (0, 0))) (Nat.lt_succ_self _) (blk_new _ _) (by omega)
    (hrep.move fun b hb _ => ⟨Below.heap_alloc _ _ _ hb, by omega⟩)
  rw [hx] at hl; have HL : Hid (Calls Try.prog 83 _ _ _) := hl; clear hl hrep
  cases x with
  | ok s =>
    go_enter Try.func82, Try.ntmps82
    go_wp2_with (first
      | (go_at_call 83
         refine HL.out.mono ?_
         rintro e w1 ⟨hk1, rfl, -⟩)
      | fail)
    go_end0
    exact ⟨hk1.past, rfl⟩
  | bad c a =>
    go_enter Try.func82, Try.ntmps82
    go_wp2_with (first
      | (go_at_call 83
         refine HL.out.mono ?_; rintro e w1 ⟨hk1, he⟩
         obtain rfl : e = _ := he)
      | fail)
    exact ⟨rfl, hk1.past, rfl⟩

theorem two_new {w : World} {o0 o1 o2 : Obj} : (((w.alloc o0).alloc o1).alloc o2).heap[w.heap.size]? = some o0 ∧ (((w.alloc o0).alloc o1).alloc o2).heap[w.heap.size + 1]? = some o1 := by
  (have e1 : (w.alloc o0).heap.size = w.heap.size + 1 := by simp); (have e2 : ((w.alloc o0).alloc o1).heap.size = w.heap.size + 2 := by simp); refine ⟨?_, ?_⟩
  · rw [Below.heap_alloc _ _ _ (by omega), Below.heap_alloc _ _ _ (by omega)]; exact blk_new _ _
  · rw [Below.heap_alloc _ _ _ (by omega), ← e1]; exact blk_new _ _

set_option maxHeartbeats 1000000 in
theorem check_any (f : Fm) (v : Value) (w : World) (hrep : Rep w (fun _ => True) f v) :
    Calls Try.prog 48 #[v] w fun e w' => e = .returned (.agg #[.int .i64 f.code.1, .int .i64 f.code.2]) ∧ Below w.heap.size w w' := by
  obtain ⟨k, n, ks⟩ := f; obtain ⟨sl, cap, rfl, hx1, hx2, hx3, hx4⟩ := Rep.def.1 hrep; clear hx4; (have hmf : ∀ (fn : Fn) (first cap : Array Value) (w : World), (Instr.makeFunc fn first cap).run Try.prog w = .ok (.func fn first cap) w := fun _ _ _ _ => rfl)
  rcases hx : chk (.mk k n ks) 0 with s | ⟨c, a⟩
  · have hcode : (Fm.mk k n ks).code = (0, 0) := by simp only [Fm.code, hx]
    rw [hcode]
    go_enter Try.func48, Try.ntmps48
    go_wp2_with (first
      | (go_at_call 81
         (refine (caught_ok 82 _ _ (fun w1 => w1.heap[w.heap.size + 1]? = some (.cells #[.int .i64 0, .int .i64 0] 34 (0, 0)) ∧ Below w.heap.size w w1) (check1_in _) ?_).mono ?_)
         · refine (check1_any w.heap.size k n ks sl cap _ two_new.1 (hrep.move fun b hb _ => ⟨by rw [Below.heap_alloc _ _ _ (by simp; omega), Below.heap_alloc _ _ _ (by simp; omega), Below.heap_alloc _ _ _ hb], trivial⟩) _ hx).mono ?_
           rintro e w1 ⟨hk, rfl⟩; (exact ⟨rfl, (hk.block _ (by simp) trivial).trans (blk_new _ _), (hk.block _ (by simp) trivial).trans two_new.2, ((((Kept.refl _ w).alloc _).alloc _).alloc _ |>.trans hk).below (Nat.le_refl _) (fun _ _ => trivial)⟩)
         rintro e w2 ⟨rfl, w1, ⟨q1, hb1⟩, hk2⟩; have z1 := lt_of_block q1; (have q3 := (hk2.block _ z1 (by simp)).trans q1)
         obtain ⟨k1, k2, k3, k4⟩ := blk2 q3)
      | fail)
    have hz := hb1.size; have hz2 := hk2.size; (have b1 : Below w.heap.size w w2 := ((kept_of_below (ok := fun k => k < w.heap.size) hb1 (fun _ _ h => h)).trans (hk2.mono (fun k _ h => by simp; omega))).below (Nat.le_refl _) (fun _ h => h)); have f2 := set2 q3 (.int .i64 0) (.int .i64 0); (have b2 := (b1.setCell (p := ⟨w.heap.size + 1, 0, none⟩) (by simp) (.int .i64 0)).setCell (p := ⟨w.heap.size + 1, 1, none⟩) (by simp) (.int .i64 0)); generalize World.setCell _ _ _ = F at f2 b2 ⊢; clear k1 k2 k3 k4; obtain ⟨k1, k2, -⟩ := blk2 f2; (exact bodyPost_ret (v := .agg #[.int .i64 0, .int .i64 0]) (by simp [results, Try.results48, go_sem, k1, k2]) rfl ⟨rfl, b2⟩)
  · have hcode : (Fm.mk k n ks).code = (c, (a : Int)) := by simp only [Fm.code, hx]
    rw [hcode]
    go_enter Try.func48, Try.ntmps48
    go_wp2_with (first
      | (go_at_call 81
         (refine (caught_bad 82 _ _ (fun w1 => w1.heap[w.heap.size + 1]? = some (.cells #[.int .i64 0, .int .i64 0] 34 (0, 0)) ∧ Below w.heap.size w w1) c a (check1_in _) ?_).mono ?_)
         · refine (check1_any w.heap.size k n ks sl cap _ two_new.1 (hrep.move fun b hb _ => ⟨by rw [Below.heap_alloc _ _ _ (by simp; omega), Below.heap_alloc _ _ _ (by simp; omega), Below.heap_alloc _ _ _ hb], trivial⟩) _ hx).mono ?_
           rintro e w1 ⟨hk, rfl⟩; (exact ⟨rfl, (hk.block _ (by simp) trivial).trans (blk_new _ _), (hk.block _ (by simp) trivial).trans two_new.2, ((((Kept.refl _ w).alloc _).alloc _).alloc _ |>.trans hk).below (Nat.le_refl _) (fun _ _ => trivial)⟩)
         rintro e w2 ⟨rfl, w1, ⟨q1, hb1⟩, hk2⟩; have z1 := lt_of_block q1; (have q3 := (hk2.block _ z1 (by simp)).trans q1)
         obtain ⟨k1, k2, k3, k4⟩ := blk2 q3)
      | fail)
    have hz := hb1.size; have hz2 := hk2.size; (have b1 : Below w.heap.size w w2 := ((kept_of_below (ok := fun k => k < w.heap.size) hb1 (fun _ _ h => h)).trans (hk2.mono (fun k _ h => by simp; omega))).below (Nat.le_refl _) (fun _ h => h)); have f2 := set2 q3 (.int .i64 c) (.int .i64 a); (have b2 := (b1.setCell (p := ⟨w.heap.size + 1, 0, none⟩) (by simp) (.int .i64 c)).setCell (p := ⟨w.heap.size + 1, 1, none⟩) (by simp) (.int .i64 a)); generalize World.setCell _ _ _ = F at f2 b2 ⊢; clear k1 k2 k3 k4; obtain ⟨k1, k2, -⟩ := blk2 f2; (exact bodyPost_ret (v := .agg #[.int .i64 c, .int .i64 a]) (by simp [results, Try.results48, go_sem, k1, k2]) rfl ⟨rfl, b2⟩)
end Go.Proofs.Ytmahgfgndfcmpag
/- Walks: the writer. -/
namespace Go.Proofs.Ytmahgfgndfcmpag
open Go.RowKit

theorem Rep.low {w w' : World} {B : Nat} {f : Fm} {v : Value} (h : Rep w (· < B) f v) (hb : Below B w w') : Rep w' (· < B) f v :=
  h.move fun b _ hb2 => ⟨hb.block b hb2, hb2⟩

theorem Reps.low {w w' : World} {B b off : Nat} {fs : List Fm} (h : Reps w (· < B) b off fs) (hb : b < B) (hk : Below B w w') : Reps w' (· < B) b off fs :=
  h.kept hb (kept_of_below hk (fun _ _ h => h))

end Go.Proofs.Ytmahgfgndfcmpag
/- Walks: the writer, three. -/
namespace Go.Proofs.Ytmahgfgndfcmpag
open Go.RowKit

theorem slice_shape {w : World} {ok : Nat → Prop} {k : Int} {n : ByteArray} {ks : List Fm} {v : Value} (h : Rep w ok (.mk k n ks) v) : ∃ sl cap, v = .agg #[.int .i64 k, .string n, .slice sl ks.length cap] := by
  obtain ⟨sl, cap, hv, _⟩ := Rep.def.1 h; exact ⟨sl, cap, hv⟩

end Go.Proofs.Ytmahgfgndfcmpag
/- Walks: Print. -/
namespace Go.Proofs.Ytmahgfgndfcmpag
open Go.RowKit

theorem chk_size {f : Fm} {s : Nat} (h : chk f 0 = .ok s) : f.size ≤ 200 := by have := chk_le f 0 s h (by omega); omega

end Go.Proofs.Ytmahgfgndfcmpag
/- Walks: what the laws' own yardstick does with formulas. -/
namespace Go.Proofs.Ytmahgfgndfcmpag
open Go.RowKit

theorem Rep.up {w w' : World} {f : Fm} {v : Value} (h : Rep w (fun _ => True) f v) (hb : Below w.heap.size w w') : Rep w' (fun _ => True) f v :=
  h.move fun b hb1 _ => ⟨hb.block b hb1, trivial⟩
theorem Reps.up {w w' : World} {b off : Nat} {fs : List Fm} (h : Reps w (fun _ => True) b off fs) (hb : Below w.heap.size w w') : Reps w' (fun _ => True) b off fs :=
  h.kept trivial (kept_of_below hb (fun _ h _ => h))

end Go.Proofs.Ytmahgfgndfcmpag
/- Walks: Same. -/
namespace Go.Proofs.Ytmahgfgndfcmpag
open Go.RowKit

mutual
def sameB : Fm → Fm → Bool
  | .mk k n ks, g => decide (k = g.kind) && decide (n.data.toList = g.name.data.toList) && decide (ks.length = g.kids.length) && sameBs ks g.kids
def sameBs : List Fm → List Fm → Bool
  | [], _ => true
  | _ :: _, [] => true
  | f :: fs, g :: gs => sameB f g && sameBs fs gs
end

mutual
theorem sameB_refl : ∀ f : Fm, sameB f f = true
  | .mk k n ks => by rw [sameB]; simp [Fm.kind, Fm.name, Fm.kids, sameBs_refl ks]
theorem sameBs_refl : ∀ fs : List Fm, sameBs fs fs = true
  | [] => by rw [sameBs]
  | f :: fs => by rw [sameBs, sameB_refl f, sameBs_refl fs]; rfl
end

mutual
theorem sameB_eq : ∀ f g : Fm, sameB f g = true → f = g
  | .mk k n ks, .mk k' n' ks', h => by
    rw [sameB] at h; simp only [Fm.kind, Fm.name, Fm.kids, Bool.and_eq_true] at h; obtain ⟨⟨⟨h1, h2⟩, h3⟩, h4⟩ := h
    replace h1 := of_decide_eq_true h1
    replace h2 := of_decide_eq_true h2
    replace h3 := of_decide_eq_true h3
    have h5 := sameBs_eq ks ks' h3 h4; subst h1 h5; (have h6 : n = n' := by apply ByteArray.ext; apply Array.ext'; exact h2); rw [h6]
theorem sameBs_eq : ∀ fs gs : List Fm, fs.length = gs.length → sameBs fs gs = true → fs = gs
  | [], [], _, _ => rfl
  | [], _ :: _, h, _ => by simp at h
  | _ :: _, [], h, _ => by simp at h
  | f :: fs, g :: gs, h, h' => by
    rw [sameBs, Bool.and_eq_true] at h'; (rw [sameB_eq f g h'.1, sameBs_eq fs gs (by simpa using h) h'.2])
end

end Go.Proofs.Ytmahgfgndfcmpag
/- Walks: FormulaBack. -/
namespace Go.Proofs.Ytmahgfgndfcmpag
open Go.RowKit

theorem below_keep {w w' : World} {k : Nat} {o : Obj} (hb : Below w.heap.size w w') (h : w.heap[k]? = some o) : w'.heap[k]? = some o := (hb.block k (lt_of_block h)).trans h
theorem alloc_keep {w : World} {k : Nat} {o : Obj} (h : w.heap[k]? = some o) (o' : Obj) : (w.alloc o').heap[k]? = some o := (Below.heap_alloc _ _ _ (lt_of_block h)).trans h
theorem below_join {W w w' : World} (h : Below W.heap.size W w) (hb : Below w.heap.size w w') : Below W.heap.size W w' := h.trans (hb.mono h.size)
theorem below_more {W w : World} (h : Below W.heap.size W w) (o : Obj) : Below W.heap.size W (w.alloc o) := h.alloc h.size o

theorem Rep.all {w : World} {ok : Nat → Prop} {f : Fm} {v : Value} (h : Rep w ok f v) : Rep w (fun _ => True) f v := h.move fun _ _ _ => ⟨rfl, trivial⟩
theorem Rep.more {w : World} {f : Fm} {v : Value} (h : Rep w (fun _ => True) f v) (o : Obj) : Rep (w.alloc o) (fun _ => True) f v := h.up ((Below.refl _ _).alloc (Nat.le_refl _) _)

end Go.Proofs.Ytmahgfgndfcmpag
/- A formula that came in, as data. -/
namespace Go.Proofs.Ytmahgfgndfcmpag
open Go.RowKit

theorem cells24 : Try.prog.cellsOf 28 = 3 := by kernel_rfl
theorem cells3 : Try.prog.cellsOf 3 = 1 := by kernel_rfl
theorem cells9 : Try.prog.cellsOf 9 = 1 := by kernel_rfl
theorem cells22 : Try.prog.cellsOf 26 = 1 := by kernel_rfl

theorem add_none (b off n : Nat) : (⟨b, off, none⟩ : Addr).add n = ⟨b, off + n, none⟩ := by
  (by_cases h : n = 0 <;> simp [Addr.add, h])

section
variable {H : Type} {enc : TypeId × Value → H} {W : World} {spare : Nat → Bool} {held : Bool}

/-- Cells that read as formulas, one behind the other. -/
theorem reps_of {b off len : Nat} (rd : ∀ i, i < len → ∃ c0 c1 c2 f, W.cell? ⟨b, off + i * 3, none⟩ = some c0 ∧ W.cell? ⟨b, off + i * 3 + 1, none⟩ = some c1 ∧ W.cell? ⟨b, off + i * 3 + 2, none⟩ = some c2 ∧ Rep W (fun _ => True) f (.agg #[c0, c1, c2])) :
    ∃ fs : List Fm, fs.length = len ∧ Reps W (fun _ => True) b off fs := by
  induction len generalizing off with
  | zero => exact ⟨[], rfl, Reps.nil⟩
  | succ len ih =>
    (obtain ⟨c0, c1, c2, f, h0, h1, h2, hr⟩ := rd 0 (by omega))
    obtain ⟨fs, hl, hrs⟩ := ih (off := off + 3) (fun i hi => by
      (obtain ⟨d0, d1, d2, g, k0, k1, k2, kr⟩ := rd (i + 1) (by omega)); (have e : off + (i + 1) * 3 = off + 3 + i * 3 := by omega); rw [e] at k0 k1 k2
      exact ⟨d0, d1, d2, g, k0, k1, k2, kr⟩)
    (exact ⟨f :: fs, by simp [hl], Reps.cons.2 ⟨⟨c0, c1, c2, by simpa using h0, by simpa using h1, by simpa using h2, hr⟩, hrs⟩⟩)

set_option maxRecDepth 100000 in
theorem rep_of_trod : ∀ (fuel : Nat) (cs : List Value) (x : DataW H × List MemPlace), DataW.trod enc Try.prog W 0 spare held fuel 28 cs = some x →
    ∃ c0 c1 c2 f, cs = [c0, c1, c2] ∧ Rep W (fun _ => True) f (.agg #[c0, c1, c2]) := by
  intro fuel
  induction fuel using Nat.strongRecOn with
  | _ fuel ih =>
    intro cs x h; obtain ⟨xs, n, hfu, -, hl, hlen, hf⟩ := DataW.trod_struct Try.underlying28 h; rw [cells24] at hl
    match cs, hl with
    | [c0, c1, c2], _ =>
      have h0 := hf 0 _ rfl; have h1 := hf 1 _ rfl; have h2 := hf 2 _ rfl; simp at hlen
      match xs, hlen with
      | [y0, y1, y2], _ =>
        simp [cells3, cells9, cells22] at h0 h1 h2; obtain ⟨k, e0, -, -⟩ := DataW.trod_int Try.underlying3 h0; obtain ⟨s, e1, -, hs⟩ := DataW.trod_string Try.underlying9 h1; simp at e0 e1; subst e0 e1
        rcases DataW.trod_slice Try.underlying26 h2 with ⟨e2, -⟩ | ⟨a, len, cap, elems, rest, m, hm, e2, -, -, hlc, hcm, hel, hall, -⟩
        · simp at e2
          subst e2; exact ⟨_, _, _, .mk k s [], rfl, Rep.leaf hs⟩
        · simp at e2
          subst e2; obtain ⟨b, off, spot⟩ := a; by_cases hz : len = 0
          · subst hz
            (exact ⟨_, _, _, .mk k s [], rfl, Rep.def.2 ⟨_, cap, rfl, hs, Nat.zero_le _, hcm, fun h => absurd rfl h⟩⟩)
          · have hsp : spot = none := by
              (have hh := hall 0 (by omega)); (rw [cells24, List.getElem?_eq_getElem (by omega)] at hh); obtain ⟨cs', hcs, htr⟩ := Option.bind_eq_some_iff.1 hh; obtain ⟨-, hl3, hcell⟩ := World.cells?_some hcs; (obtain ⟨d0, d1, d2, f, rfl, -⟩ := ih m (by omega) cs' _ htr); (have g0 := hcell 0 (by omega)); simp [Addr.add] at g0; simpa using World.cell?_spot g0
            subst hsp
            obtain ⟨fs, hfl, hrs⟩ := reps_of (W := W) (b := b) (off := off) (len := len) (fun i hi => by
              have hh := hall i hi; (rw [cells24, List.getElem?_eq_getElem (by omega), add_none] at hh); obtain ⟨cs', hcs, htr⟩ := Option.bind_eq_some_iff.1 hh; obtain ⟨-, hl3, hcell⟩ := World.cells?_some hcs; (obtain ⟨d0, d1, d2, f, rfl, hr⟩ := ih m (by omega) cs' _ htr); (have g0 := hcell 0 (by omega)); (have g1 := hcell 1 (by omega)); (have g2 := hcell 2 (by omega)); rw [add_none] at g0 g1 g2
              exact ⟨d0, d1, d2, f, g0, g1, g2, hr⟩)
            subst hfl; (exact ⟨_, _, _, .mk k s fs, rfl, Rep.def.2 ⟨_, cap, rfl, hs, hlc, hcm, fun _ => ⟨b, off, rfl, trivial, hrs⟩⟩⟩)
end
end Go.Proofs.Ytmahgfgndfcmpag
/- Walks: the yardstick's names and tokens. -/
namespace Go.Proofs.Ytmahgfgndfcmpag
open Go.RowKit

set_option maxHeartbeats 1000000 in
theorem refName_any (s : ByteArray) (hs : s.size ≤ maxLen) (w : World) :
    Calls Try.prog 41 #[.string s] w fun e w' => e = .returned (.bool (isNm s.data.toList)) ∧ w' = w := by
  have hsz : s.data.toList.length = s.size := Array.length_toList; unfold maxLen at hs; have HN : Hid (isNm s.data.toList = (allLow s.data.toList && decide (0 < s.data.toList.length) && decide (s.data.toList.length < 9))) := isNm_all _; have HZ : Hid (s.data.toList.length = s.size) := hsz; clear hsz
  go_enter Try.func41, Try.ntmps41
  go_wp2
  go_loop [3] (fun v => ∃ k l, At s k l ∧ v = .int .i64 (k : Nat) ∧ allLow s.data.toList = allLow l) (fun v => s.size - (intOf v).toNat)
  case atStart => exact ⟨0, s.data.toList, ⟨Nat.zero_le _, by simp⟩, rfl, rfl⟩
  case round =>
    obtain ⟨k, l, ha, rfl, hl⟩ := hrel; have hlen := ha.len; have HL : Hid (At s k l ∧ allLow s.data.toList = allLow l) := ⟨ha, hl⟩; clear ha hl
    cases l with
    | nil =>
      simp at hlen; (have hd : decide ((k : Int) < (s.size : Int)) = false := by simp; omega); go_wp2
      all_goals
        go_ret; refine ⟨ret_bool ?_, rfl⟩; rw [HN.out, HL.out.2, HZ.out]; rw [Bool.eq_iff_iff]; simp only [allLow, List.all_nil, Bool.true_and, Bool.and_eq_true, decide_eq_true_eq, Bool.false_eq_true, false_iff]
        omega
    | cons c l =>
      simp at hlen; (have hlt' : k < s.size := by omega); (have hlt : (k : Int) < (s.size : Int) := by omega); have hhd : s[k] = c := HL.out.1.head hlt'; by_cases hc : lower c
      · have hx : (97 : Int) ≤ (s[k].toNat : Int) := by rw [hhd]; simp [lower] at hc; omega
        (have hy : (s[k].toNat : Int) ≤ 122 := by rw [hhd]; simp [lower] at hc; omega); (have HM : Hid (At s (k + 1) l ∧ allLow s.data.toList = allLow l) := ⟨HL.out.1.cons, by rw [HL.out.2]; simp only [allLow, List.all_cons, hc, Bool.true_and]⟩); clear hhd hc; go_wp2
        go_round
        case rel => exact ⟨k + 1, l, HM.out.1, by go_num, HM.out.2⟩
        case measure => simp [intOf]; omega
      · have hx : ¬ ((97 : Int) ≤ (s[k].toNat : Int) ∧ (s[k].toNat : Int) ≤ 122) := by rw [hhd]; simp [lower] at hc; omega
        have HM : Hid (allLow s.data.toList = false) := by
          show _ = _; rw [HL.out.2]; simp only [allLow, List.all_cons, Bool.eq_false_iff.2 hc, Bool.false_and]
        clear hhd hc; go_wp2
        all_goals
          go_ret; refine ⟨ret_bool ?_, rfl⟩; rw [HN.out, HM.out]; rfl

end Go.Proofs.Ytmahgfgndfcmpag
/- Walks: a formula's nodes in a list. -/
namespace Go.Proofs.Ytmahgfgndfcmpag
open Go.RowKit

/-- Cells, three by three, that are formulas over blocks below B. -/
def LR (B : Nat) (w : World) : List Value → List Fm → Prop
  | [], [] => True
  | c0 :: c1 :: c2 :: cs, f :: fs => Rep w (· < B) f (.agg #[c0, c1, c2]) ∧ LR B w cs fs
  | _, _ => False

theorem LR.len {B : Nat} {w : World} : ∀ {cs : List Value} {fs : List Fm}, LR B w cs fs → cs.length = fs.length * 3
  | [], [], _ => rfl
  | _ :: _ :: _ :: _, _ :: _, h => by have := LR.len h.2; simp; omega
theorem LR.append {B : Nat} {w : World} : ∀ {cs : List Value} {fs : List Fm} {ds : List Value} {gs : List Fm}, LR B w cs fs → LR B w ds gs → LR B w (cs ++ ds) (fs ++ gs)
  | [], [], _, _, _, k => k
  | _ :: _ :: _ :: _, _ :: _, _, _, h, k => ⟨h.1, LR.append h.2 k⟩
theorem LR.low {B : Nat} {w w' : World} (hb : Below B w w') : ∀ {cs : List Value} {fs : List Fm}, LR B w cs fs → LR B w' cs fs
  | [], [], _ => trivial
  | _ :: _ :: _ :: _, _ :: _, h => ⟨h.1.low hb, LR.low hb h.2⟩
theorem LR.one {B : Nat} {w : World} : ∀ {cs : List Value} {fs : List Fm}, LR B w cs fs → ∀ u ∈ cs, u.oneCell' = true
  | [], [], _, u, hu => by cases hu
  | c0 :: c1 :: c2 :: cs, .mk k n ks :: fs, h, u, hu => by
    obtain ⟨sl, cap, hv, _⟩ := Rep.def.1 h.1; simp only [Value.agg.injEq, Array.mk.injEq, List.cons.injEq, and_true] at hv; obtain ⟨rfl, rfl, rfl⟩ := hv; simp only [List.mem_cons] at hu
    rcases hu with rfl | rfl | rfl | hu
    · rfl
    · rfl
    · rfl
    · exact LR.one h.2 u hu

theorem owns_up {w w' : World} {B size n : Nat} {e : TypeId} {v : Value} {xs : List Value} (h : w.ownsRow B e size v n xs) (hb : Below w.heap.size w w') : w'.ownsRow B e size v n xs := by
  obtain ⟨h1, h2⟩ := h; refine ⟨h1, ?_⟩
  rcases h2 with h2 | ⟨g, cap, cur, hv, hg, hh, r⟩
  · exact Or.inl h2
  · exact Or.inr ⟨g, cap, cur, hv, hg, below_keep hb hh, r⟩

theorem owns_mono {w : World} {B B' size n : Nat} {e : TypeId} {v : Value} {xs : List Value} (h : w.ownsRow B e size v n xs) (hB : B' ≤ B) : w.ownsRow B' e size v n xs := by
  obtain ⟨h1, h2⟩ := h; refine ⟨h1, ?_⟩
  rcases h2 with h2 | ⟨g, cap, cur, hv, hg, r⟩
  · exact Or.inl h2
  · exact Or.inr ⟨g, cap, cur, hv, by omega, r⟩

theorem infoFormula : ∃ i, Try.prog.info? 28 = some i ∧ i.zero = some (.agg #[.int .i64 0, .string ⟨#[]⟩, .slice none 0 0]) ∧ i.size = 3 ∧ i.bytes = 48 := by
  (obtain ⟨i, hi, h⟩ := Option.map_eq_some_iff.1 (show (Try.prog.info? 28).map (fun i => (i.zero, i.size, i.bytes)) = some (some (.agg #[.int .i64 0, .string ⟨#[]⟩, .slice none 0 0]), 3, 48) by kernel_rfl)); simp only [Prod.mk.injEq] at h; exact ⟨i, hi, h.1, h.2.1, h.2.2⟩

/-- A list of formulas that a call has made, from block B on. -/
def LO (A B : Nat) (w : World) (v : Value) (fs : List Fm) : Prop := ∃ g cap cs, v = .slice (some ⟨g, 0, none⟩) fs.length cap ∧ w.ownsRow B 28 3 v fs.length cs ∧ LR A w cs fs

def Walks (m : Nat) : Prop := ∀ (A : Nat) (f : Fm) (v : Value) (most : Nat) (w : World), f.size < m → most ≤ 1000000 → A ≤ w.heap.size → Rep w (· < A) f v →
  Calls Try.prog 26 #[v, .int .i64 most] w fun e w' => ∃ u, e = .returned u ∧ LO A w.heap.size w' u (walkL f most) ∧ Below w.heap.size w w'

theorem walkK_drop {ks : List Fm} {i : Nat} {f : Fm} (h : ks[i]? = some f) (most c : Nat) : walkK (ks.drop i) most c = if c ≤ most then walkL f (most - c) ++ walkK (ks.drop (i + 1)) most (c + (walkL f (most - c)).length) else [] := by
  have hi : i < ks.length := by
    rcases Nat.lt_or_ge i ks.length with h' | h'
    · exact h'
    · rw [List.getElem?_eq_none h'] at h; cases h
  rw [List.drop_eq_getElem_cons hi, walkK]; rw [List.getElem?_eq_getElem hi] at h; rw [Option.some.inj h]

set_option maxHeartbeats 2000000 in
theorem walk_step (m : Nat) (ih : Walks m) : Walks (m + 1) := by
  intro A f v most w hm hmost hA hrep; obtain ⟨k, n, ks⟩ := f; obtain ⟨sl, cap, rfl, hx1, hx2, hx3, hx4⟩ := Rep.def.1 hrep; have HX : Hid (ks ≠ [] → ∃ b off, sl = some ⟨b, off, none⟩ ∧ b < A ∧ Reps w (· < A) b off ks) := hx4; clear hx4; obtain ⟨i0, hi, hz0, hz1, hz2⟩ := infoFormula; (have hlenI : ((ks.length : Nat) : Int) ≤ 9223372036854775807 := by unfold maxLen at hx3; omega); (have hmI : (most : Int) ≤ 1000000 := by omega); have HIo : Hid (Try.prog.info? 28 = some i0 ∧ i0.zero = some (.agg #[.int .i64 0, .string ⟨#[]⟩, .slice none 0 0]) ∧ i0.size = 3 ∧ i0.bytes = 48) := ⟨hi, hz0, hz1, hz2⟩; clear hi hz0 hz1 hz2
  go_enter Try.func26, Try.ntmps26
  go_wp2_with fail
  go_loopg [6, 5] ks.length (fun g c o wr => ∃ i fs, i ≤ ks.length ∧ g = ks.length - i ∧ c = .int .i64 (i : Nat) ∧ Below w.heap.size w wr ∧ wr.heap[w.heap.size]? = some (.cells #[.int .i64 k, .string n, .slice sl ks.length cap] 28 (0, 0)) ∧ LO A (w.heap.size + 1) wr o fs ∧ 1 ≤ fs.length ∧ fs.length ≤ most + 1 ∧ Hid (walkL (.mk k n ks) most = fs ++ walkK (ks.drop i) most fs.length))
  case atStart =>
    (refine ⟨0, [.mk k n ks], by omega, by omega, rfl, ((Below.refl _ w).alloc (Nat.le_refl _) _).alloc (by simp) _, alloc_keep (blk_new _ _) _, ?_, by simp, by simp, by show _ = _; rw [walkL]; rfl⟩); (refine ⟨w.heap.size + 1, 1, [.int .i64 k, .string n, .slice sl ks.length cap], rfl, ⟨rfl, Or.inr ⟨w.heap.size + 1, 1, #[.int .i64 k, .string n, .slice sl ks.length cap], rfl, Nat.le_refl _, ?_, by simp, by simp [maxLen], rfl, rfl⟩⟩, ?_, trivial⟩)
    · have := blk_new (w.alloc (.cells #[.int .i64 k, .string n, .slice sl ks.length cap] 28 (0, 0))) (.cells #[.int .i64 k, .string n, .slice sl ks.length cap] 28 (0, 0))
      simpa using this
    · exact hrep.low (((Below.refl _ w).alloc hA _).alloc (by simp; omega) _)
  case round =>
    obtain ⟨i, fs, hile, hg, rfl, hbr, q0, hlo, hf1, hfm, HW⟩ := hrel; obtain ⟨g, cp, cs, rfl, hown, hlr⟩ := hlo; have HG : Hid (gk = ks.length - i) := hg; clear hg; have f2 := blk_cell q0 2; simp at f2; (have hfI : (fs.length : Int) ≤ (most : Int) + 1 := by omega); by_cases hlt : i < ks.length
    · obtain ⟨⟨k2, n2, ks2⟩, hki⟩ : ∃ f, ks[i]? = some f := ⟨_, List.getElem?_eq_getElem hlt⟩
      (have hltI : (i : Int) < (ks.length : Int) := by omega); have hwk := HW.out; rw [walkK_drop hki] at hwk; by_cases hc : fs.length ≤ most
      · rw [if_pos hc, ← List.append_assoc] at hwk
        (have hcI : (fs.length : Int) ≤ (most : Int) := by omega); (obtain ⟨b, off, hsl, hbA, hrs⟩ := HX.out (fun e => by rw [e] at hlt; simp at hlt)); subst hsl; obtain ⟨sl2, cap2, g0, g1, g2, hrep2⟩ := (hrs.low hbA (hbr.mono hA)).at i k2 n2 ks2 hki; (have hsz : (Fm.mk k2 n2 ks2).size < m := by have := sizes_get hki; rw [Fm.size] at hm; omega); have hwle := walkL_le (.mk k2 n2 ks2) (most - fs.length)
        have HIH : Hid (∀ (x : Int), x = (most : Int) - (fs.length : Int) → Calls Try.prog 26 #[.agg #[.int .i64 k2, .string n2, .slice sl2 ks2.length cap2], .int .i64 x] wr fun e w' => ∃ u, e = .returned u ∧ LO A wr.heap.size w' u (walkL (.mk k2 n2 ks2) (most - fs.length)) ∧ Below wr.heap.size wr w') := fun x hx => by
          (have := ih A _ _ (most - fs.length) wr hsz (by omega) (by have := hbr.size; omega) hrep2)
          rwa [show (((most - fs.length : Nat)) : Int) = x by omega] at this
        (have hwpos : 1 ≤ (walkL (.mk k2 n2 ks2) (most - fs.length)).length := by rw [walkL]; simp)
        have HN : Hid (walkL (.mk k n ks) most = (fs ++ walkL (.mk k2 n2 ks2) (most - fs.length)) ++ walkK (ks.drop (i + 1)) most (fs ++ walkL (.mk k2 n2 ks2) (most - fs.length)).length) := by
          show _ = _; rw [List.length_append]; exact hwk
        clear hwk HW hki hrs HX hrep; generalize walkL (.mk k2 n2 ks2) (most - fs.length) = gs at *; have zw := hbr.size; have z0 := lt_of_block q0; obtain ⟨hi, hz0, hz1, hz2⟩ := HIo.out
        go_wp2_with (first
          | (go_at_call 26
             (refine (HIH.out _ (by omega)).mono ?_); rintro e w2 ⟨u, rfl, hlo2, hb2⟩; obtain ⟨g2', cp2, cs2, rfl, hown2, hlr2⟩ := hlo2; have zw2 := hb2.size; have hownA := owns_up hown hb2
             have hlen2 := hlr2.len)
          | (at_builtin
             (refine wpList_append_lies _ rfl _ _ 26 rfl (w.heap.size + 1) 28 i0 (.agg #[.int .i64 0, .string ⟨#[]⟩, .slice none 0 0]) 3 48 Try.underlying26 hi hz0 hz1 hz2 rfl (by decide) _ _ _ rfl hownA ⟨g2', 0, none⟩ gs.length cp2 cs2 rfl hlen2 (fun j u hu => hown2.cells (g := g2') rfl j u hu) hlr2.one (by omega) (by unfold maxLen; omega) (by omega) (by omega) _ rfl ?_)
             intro g3 cp3 w3 hown3 hgrow hat hlt3)
          | fail)
        (have hown3' : w3.ownsRow (w.heap.size + 1) 28 3 (.slice (some ⟨g3, 0, none⟩) (fs ++ gs).length cp3) (fs ++ gs).length (cs ++ cs2) := by rw [List.length_append]; exact hown3); have hgrow' : w2.grownBy w3 (some g) := hgrow; clear hgrow; have hgrow := hgrow'
        have hgA : Below A w2 w3 := ⟨hgrow.os, hgrow.tape, hgrow.output, hgrow.size, fun j hj => hgrow.block j (by omega) (fun e => by
          have : w.heap.size + 1 ≤ g := (hown.lt g rfl).1; have e : j = g := Option.some.inj e
          omega)⟩
        have hgB : Below w.heap.size w2 w3 := ⟨hgrow.os, hgrow.tape, hgrow.output, hgrow.size, fun j hj => hgrow.block j (by omega) (fun e => by
          have : w.heap.size + 1 ≤ g := (hown.lt g rfl).1; have e : j = g := Option.some.inj e
          omega)⟩
        have q3 : w3.heap[w.heap.size]? = some (.cells #[.int .i64 k, .string n, .slice (some ⟨b, off, none⟩) ks.length cap] 28 (0, 0)) := by
          rw [hgrow.block _ (by omega) (fun e => by
            have : w.heap.size + 1 ≤ g := (hown.lt g rfl).1; have e : w.heap.size = g := Option.some.inj e
            omega)]
          exact below_keep hb2 q0
        (have hLR : LR A w3 (cs ++ cs2) (fs ++ gs) := ((hlr.low (hb2.mono (by omega))).append hlr2).low hgA); have hBB : Below w.heap.size w w3 := (hbr.trans (hb2.mono zw)).trans hgB; have hfl : (fs ++ gs).length = fs.length + gs.length := List.length_append
        go_roundg (ks.length - (i + 1))
        case measure => have := HG.out; omega
        case rel => exact ⟨i + 1, fs ++ gs, by omega, rfl, by go_num, hBB, q3, ⟨g3, cp3, cs ++ cs2, by rw [hfl], by rw [hfl] at hown3'; rw [hfl]; exact hown3', hLR⟩, by omega, by omega, HN⟩
      · rw [if_neg hc, List.append_nil] at hwk
        (have hcI : decide ((fs.length : Int) ≤ (most : Int)) = false := by simp; omega); (have hcI2 : ¬ ((fs.length : Int) ≤ (most : Int)) := by omega); have HN : Hid (walkL (.mk k n ks) most = fs) := hwk; clear hwk HW hki HX hrep; go_wp2_with fail; go_ret; refine ⟨_, rfl, ?_, hbr⟩; rw [HN.out]; (exact ⟨g, cp, cs, rfl, owns_mono hown (by omega), hlr⟩)
    · have HN : Hid (walkL (.mk k n ks) most = fs) := by
        show _ = _; (rw [HW.out, List.drop_of_length_le (by omega), walkK, List.append_nil])
      clear HW HX hrep; go_wp2_with fail; go_ret; refine ⟨_, rfl, ?_, hbr⟩; rw [HN.out]; (exact ⟨g, cp, cs, rfl, owns_mono hown (by omega), hlr⟩)

theorem walks_all : ∀ m, Walks m
  | 0 => fun _ _ _ _ _ h => absurd h (Nat.not_lt_zero _)
  | m + 1 => walk_step m (walks_all m)

theorem walk_any (f : Fm) (v : Value) (most : Nat) (w : World) (hmost : most ≤ 1000000) (hrep : Rep w (fun _ => True) f v) :
    Calls Try.prog 26 #[v, .int .i64 most] w fun e w' => ∃ u, e = .returned u ∧ LO w.heap.size w.heap.size w' u (walkL f most) ∧ Below w.heap.size w w' :=
  walks_all (f.size + 1) w.heap.size f v most w (Nat.lt_succ_self _) hmost (Nat.le_refl _) (hrep.move fun _ hb _ => ⟨rfl, hb⟩)
end Go.Proofs.Ytmahgfgndfcmpag
/- Walks: the yardstick's Read. -/
namespace Go.Proofs.Ytmahgfgndfcmpag
open Go.RowKit

set_option maxHeartbeats 1000000 in
theorem fault_any (c a : Int) (w : World) :
    Calls Try.prog 21 #[.int .i64 c, .int .i64 a] w fun e w' => e = .returned (.agg #[.int .i64 c, .int .i64 a]) ∧ Below w.heap.size w w' := by
  go_enter Try.func21, Try.ntmps21
  go_wp2; (refine bodyPost_ret (v := .agg #[.int .i64 c, .int .i64 a]) (by simp [results, Try.results21, go_sem]) rfl ⟨rfl, (Below.refl _ _).alloc (Nat.le_refl _) _⟩)

theorem Rep.up' {w w' : World} {ok : Nat → Prop} {f : Fm} {v : Value} (h : Rep w ok f v) (hb : Below w.heap.size w w') : Rep w' ok f v :=
  h.move fun b hb1 hb2 => ⟨hb.block b hb1, hb2⟩
end Go.Proofs.Ytmahgfgndfcmpag
/- Walks: a formula that is not vast; cells that are formulas. -/
namespace Go.Proofs.Ytmahgfgndfcmpag
open Go.RowKit

/-- No node has more than 25000 kids. -/
inductive Slim : Fm → Prop
  | mk (k : Int) (n : ByteArray) (ks : List Fm) (h : ks.length ≤ 25000) (hk : ∀ (i : Nat) (f : Fm), ks[i]? = some f → Slim f) : Slim (.mk k n ks)
/-- A bool is answered; where it is false, the formula is no vast one. -/
def IsV (f : Fm) (e : Ending) : Prop := ∃ b, e = .returned (.bool b) ∧ (b = false → Slim f)

def Vasts2 (m : Nat) : Prop := ∀ (f : Fm) (v : Value) (deep : Int) (w : World), f.size < m → 0 ≤ deep → deep ≤ 25001 → Rep w (fun _ => True) f v →
  Calls Try.prog 9 #[v, .int .i64 deep] w fun e w' => IsV f e ∧ Below w.heap.size w w'

set_option maxHeartbeats 1000000 in
theorem vast2_step (m : Nat) (ih : Vasts2 m) : Vasts2 (m + 1) := by
  intro f v deep w hm hd0 hd hrep; obtain ⟨k, n, ks⟩ := f; obtain ⟨sl, cap, rfl, hx1, hx2, hx3, hx4⟩ := Rep.def.1 hrep; (have HX : Hid (ks ≠ [] → ∃ b off, sl = some ⟨b, off, none⟩ ∧ True ∧ Reps w (fun _ => True) b off ks) := hx4); clear hx4; have hb0 : Below w.heap.size w (w.alloc (.cells #[.int .i64 k, .string n, .slice sl ks.length cap] 28 (0, 0))) := (Below.refl _ _).alloc (Nat.le_refl _) _; (have hlen : ((ks.length : Nat) : Int) ≤ 9223372036854775807 := by unfold maxLen at hx3; omega); by_cases h1 : 25000 < deep
  · go_enter Try.func9, Try.ntmps9
    go_wp2_with fail; go_ret; (exact ⟨⟨_, rfl, fun h => by cases h⟩, hb0⟩)
  · by_cases h2 : 25000 < ks.length
    · have h2' : (25000 : Int) < (ks.length : Int) := by omega
      go_enter Try.func9, Try.ntmps9
      go_wp2_with fail; go_ret; (exact ⟨⟨_, rfl, fun h => by cases h⟩, hb0⟩)
    · have h2' : (ks.length : Int) ≤ 25000 := by omega
      (have h1' : deep ≤ 25000 := by omega); clear h1 h2
      go_enter Try.func9, Try.ntmps9
      go_wp2_with fail
      go_loopg [5] ks.length (fun g c wr => ∃ i, i ≤ ks.length ∧ g = ks.length - i ∧ c = .int .i64 (i : Nat) ∧ Below w.heap.size w wr ∧ wr.heap[w.heap.size]? = some (.cells #[.int .i64 k, .string n, .slice sl ks.length cap] 28 (0, 0)) ∧ Hid (∀ (j : Nat) (f : Fm), j < i → ks[j]? = some f → Slim f))
      case atStart => exact ⟨0, by omega, by omega, rfl, hb0, blk_new _ _, fun j f hj => absurd hj (Nat.not_lt_zero _)⟩
      case round =>
        obtain ⟨i, hi, hg, rfl, hbr, q0, HS⟩ := hrel; have HG : Hid (gk = ks.length - i) := hg; clear hg; have f2 := blk_cell q0 2; simp at f2; by_cases hlt : i < ks.length
        · obtain ⟨b, off, hsl, -, hrs⟩ := HX.out (fun e => by rw [e] at hlt; simp at hlt)
          subst hsl; obtain ⟨⟨k2, n2, ks2⟩, hki⟩ : ∃ f, ks[i]? = some f := ⟨_, List.getElem?_eq_getElem hlt⟩; obtain ⟨sl2, cap2, g0, g1, g2, hrep2⟩ := (hrs.up hbr).at i k2 n2 ks2 hki; (have hlt2 : (i : Int) < (ks.length : Int) := by omega); (have hsz : (Fm.mk k2 n2 ks2).size < m := by have := sizes_get hki; rw [Fm.size] at hm; omega); have z0 := lt_of_block q0; have zz := hbr.size; have HK : Hid (ks[i]? = some (.mk k2 n2 ks2)) := hki; clear hki hrs hrep HX hb0
          go_wp2_with (first
            | (go_at_call 9
               (refine (ih _ _ _ _ hsz (by omega) (by omega) hrep2).mono ?_); rintro e w1 ⟨⟨bb, rfl, hbb⟩, hb1⟩; have HB : Hid (bb = false → Slim (.mk k2 n2 ks2)) := hbb; clear hbb
               cases bb)
            | fail)
          · have z1 := hb1.size
            go_roundg (ks.length - (i + 1))
            case measure => have := HG.out; omega
            case rel =>
              (refine ⟨i + 1, by omega, rfl, by go_num, hbr.trans (hb1.mono zz), (hb1.block _ z0).trans q0, fun j f hj hf => ?_⟩)
              rcases Nat.lt_or_ge j i with h | h
              · exact HS.out j f h hf
              · obtain rfl : j = i := by omega
                have := HK.out.symm.trans hf; obtain rfl := Option.some.inj this; exact HB.out trivial
          · go_ret
            (exact ⟨⟨_, rfl, fun h => by cases h⟩, hbr.trans (hb1.mono zz)⟩)
        · go_wp2_with fail
          go_ret; (refine ⟨⟨_, rfl, fun _ => Slim.mk k n ks (by omega) fun j f hf => HS.out j f ?_ hf⟩, hbr⟩)
          rcases Nat.lt_or_ge j ks.length with h | h
          · omega
          · rw [List.getElem?_eq_none h] at hf; cases hf

theorem vasts2_all : ∀ m, Vasts2 m
  | 0 => fun _ _ _ _ h => absurd h (Nat.not_lt_zero _)
  | m + 1 => vast2_step m (vasts2_all m)

theorem vast2_any (f : Fm) (v : Value) (w : World) (hrep : Rep w (fun _ => True) f v) :
    Calls Try.prog 9 #[v, .int .i64 0] w fun e w' => IsV f e ∧ Below w.heap.size w w' :=
  vasts2_all (f.size + 1) f v 0 w (Nat.lt_succ_self _) (by omega) (by omega) hrep

end Go.Proofs.Ytmahgfgndfcmpag
/- Walks: eachNode, whatever visits. -/
namespace Go.Proofs.Ytmahgfgndfcmpag
open Go.RowKit

theorem Fine.small {k : Int} {n : ByteArray} {ks : List Fm} (h : Fine (.mk k n ks)) : n.size ≤ 8 ∧ ks.length ≤ 2 := by
  rcases h.forms with ⟨m, e, hn⟩ | e | e | ⟨c, g, hk, e, hg⟩ | ⟨c, g, g', hk, e, hg, hg'⟩ <;> cases e
  · have := isNm_bd hn
    have e2 : n.data.toList.length = n.size := Array.length_toList; (exact ⟨by omega, by simp⟩)
  · exact ⟨by decide, by simp⟩
  · exact ⟨by decide, by simp⟩
  · exact ⟨by decide, by simp⟩
  · exact ⟨by decide, by simp⟩

/-- What visits a formula's nodes: it writes one variable of its own (block cb), and a list of its own (block ob). -/
structure Visit (fn : Nat) (cap : Array Value) (B cb : Nat) (Inv : List Fm → Option Nat → World → Prop) : Prop where
  hB : B ≤ cb
  lt : ∀ {done ob w}, Inv done ob w → cb < w.heap.size ∧ (∀ g, ob = some g → B ≤ g ∧ g < w.heap.size)
  alloc : ∀ {done ob w} (o : Obj), Inv done ob w → Inv done ob (w.alloc o)
  ent : ∀ (v : Value) (w : World), (callFunc fn (#[v] ++ cap)).run Try.prog w = .ok (.enter fn (#[v] ++ cap)) w
  call : ∀ done ob f v w, done.length < 200 → Fine f → Rep w (· < B) f v → Inv done ob w →
    Calls Try.prog fn (#[v] ++ cap) w fun e w' => e = .returned (.tuple #[]) ∧ ∃ ob', Inv (done ++ [f]) ob' w' ∧ Kept (fun b => b ≠ cb ∧ ob ≠ some b) w w' ∧ (ob' = ob ∨ ∃ g, ob' = some g ∧ w.heap.size ≤ g)

def Eachs (fn : Nat) (cap : Array Value) (B cb : Nat) (Inv : List Fm → Option Nat → World → Prop) (m : Nat) : Prop := ∀ done ob (f : Fm) v w, f.size < m → done.length + f.size ≤ 200 → Fine f → Rep w (· < B) f v → Inv done ob w →
  Calls Try.prog 63 #[v, .func (.func fn) #[] cap] w fun e w' => e = .returned (.tuple #[]) ∧ ∃ ob', Inv (done ++ allN f) ob' w' ∧ Kept (fun b => b ≠ cb ∧ ob ≠ some b) w w' ∧ (ob' = ob ∨ ∃ g, ob' = some g ∧ w.heap.size ≤ g)

theorem kept_on {cb : Nat} {ob ob' : Option Nat} {w w1 w2 : World} (h : Kept (fun b => b ≠ cb ∧ ob ≠ some b) w w1) (ho : ob' = ob ∨ ∃ g, ob' = some g ∧ w.heap.size ≤ g) (k : Kept (fun b => b ≠ cb ∧ ob' ≠ some b) w1 w2) : Kept (fun b => b ≠ cb ∧ ob ≠ some b) w w2 := by
  (refine ⟨k.os.trans h.os, k.tape.trans h.tape, k.output.trans h.output, Nat.le_trans h.size k.size, fun b hb hok => ?_⟩); (rw [k.block b (Nat.lt_of_lt_of_le hb h.size) ⟨hok.1, fun e => ?_⟩, h.block b hb hok])
  rcases ho with rfl | ⟨g, rfl, hg⟩
  · exact hok.2 e
  · have : g = b := Option.some.inj e
    omega
theorem own_on {ob ob' ob'' : Option Nat} {w w1 : World} (ho : ob' = ob ∨ ∃ g, ob' = some g ∧ w.heap.size ≤ g) (hs : w.heap.size ≤ w1.heap.size) (k : ob'' = ob' ∨ ∃ g, ob'' = some g ∧ w1.heap.size ≤ g) : ob'' = ob ∨ ∃ g, ob'' = some g ∧ w.heap.size ≤ g := by
  rcases k with rfl | ⟨g, rfl, hg⟩
  · exact ho
  · exact Or.inr ⟨g, rfl, by omega⟩

theorem allNs_drop {ks : List Fm} {i : Nat} {f : Fm} (h : ks[i]? = some f) : allNs (ks.take (i + 1)) = allNs (ks.take i) ++ allN f := by
  have hap : ∀ a b : List Fm, allNs (a ++ b) = allNs a ++ allNs b := by
    intro a b
    induction a with
    | nil => rw [List.nil_append, allNs, List.nil_append]
    | cons x a ih => rw [List.cons_append, allNs, allNs, ih, List.append_assoc]
  rw [List.take_add_one, h, hap]
  congr 1
  show allNs [f] = _; rw [allNs, allNs, List.append_nil]

theorem sizes_take : ∀ (ks : List Fm) (i : Nat) (f : Fm), ks[i]? = some f → Fm.sizes (ks.take i) + f.size ≤ Fm.sizes ks
  | [], i, f, h => by simp at h
  | k :: ks, 0, f, h => by simp at h; subst h; simp [Fm.sizes]
  | k :: ks, i + 1, f, h => by
    (have := sizes_take ks i f (by simpa using h)); simp only [List.take_succ_cons, Fm.sizes]; omega

set_option maxHeartbeats 4000000 in
theorem each_step {fn : Nat} {cap : Array Value} {B cb : Nat} {Inv : List Fm → Option Nat → World → Prop} (V : Visit fn cap B cb Inv) (m : Nat) (ih : Eachs fn cap B cb Inv m) : Eachs fn cap B cb Inv (m + 1) := by
  intro done ob f v w hm hN hfine hrep hinv; obtain ⟨k, n, ks⟩ := f; obtain ⟨sl, cp, rfl, hx1, hx2, hx3, hx4⟩ := Rep.def.1 hrep; have HX : Hid (ks ≠ [] → ∃ b off, sl = some ⟨b, off, none⟩ ∧ b < B ∧ Reps w (· < B) b off ks) := hx4; have HV : Hid (Visit fn cap B cb Inv) := V; obtain ⟨hcb, hob⟩ := V.lt hinv; have HO : Hid (∀ g, ob = some g → B ≤ g ∧ g < w.heap.size) := hob; have hBcb := V.hB; (have hlenI : ((ks.length : Nat) : Int) ≤ 9223372036854775807 := by unfold maxLen at hx3; omega); have hcf := V.ent; (have HC : Hid (∀ wx, Rep wx (· < B) (.mk k n ks) (.agg #[.int .i64 k, .string n, .slice sl ks.length cp]) → Inv done ob wx → Calls Try.prog fn (#[.agg #[.int .i64 k, .string n, .slice sl ks.length cp]] ++ cap) wx _) := fun wx h1 h2 => V.call done ob _ _ wx (by rw [Fm.size] at hN; omega) hfine h1 h2); have HI : Hid (Inv done ob w) := hinv; have HF : Hid (∀ (i : Nat) (kid : Fm), ks[i]? = some kid → Fine kid) := hfine.kid; clear hx4 V hinv hob hfine
  go_enter Try.func63, Try.ntmps63
  go_wp2_with fail; (refine (HC.out _ (hrep.move fun b hb hok => ⟨Below.heap_alloc _ _ _ hb, hok⟩) (HV.out.alloc _ HI.out)).mono ?_); rintro e w1 ⟨rfl, ob1, hinv1, hk1, ho1⟩; (have hk0 : Kept (fun b => b ≠ cb ∧ ob ≠ some b) w w1 := ((Kept.refl _ w).alloc _).trans hk1)
  have ho0 : ob1 = ob ∨ ∃ g, ob1 = some g ∧ w.heap.size ≤ g := by
    rcases ho1 with h | ⟨g, h, hg⟩
    · exact Or.inl h
    · exact Or.inr ⟨g, h, by simp at hg; omega⟩
  (have q0 : w1.heap[w.heap.size]? = some (.cells #[.int .i64 k, .string n, .slice sl ks.length cp] 28 (0, 0)) := (hk1.block _ (by simp) ⟨by omega, fun e => by have := (HO.out _ e).2; omega⟩).trans (blk_new _ _)); have HI1 : Hid (Inv (done ++ [Fm.mk k n ks]) ob1 w1) := hinv1; (have HK0 : Hid (Kept (fun b => b ≠ cb ∧ ob ≠ some b) w w1) := hk0); have HO0 : Hid (ob1 = ob ∨ ∃ g, ob1 = some g ∧ w.heap.size ≤ g) := ho0; clear hinv1 hk1 hk0 ho0 ho1 HC hcf; obtain ⟨e0, e1, e2, -⟩ := blk3 q0; (have hmf : ∀ (fn : Fn) (first cap : Array Value) (w : World), (Instr.makeFunc fn first cap).run Try.prog w = .ok (.func fn first cap) w := fun _ _ _ _ => rfl); go_wp2_with fail
  go_loopg [12] ks.length (fun g c wr => ∃ i obr, i ≤ ks.length ∧ g = ks.length - i ∧ c = .int .i64 (i : Nat) ∧ Hid (Inv (done ++ [Fm.mk k n ks] ++ allNs (ks.take i)) obr wr) ∧ Hid (Kept (fun b => b ≠ cb ∧ ob ≠ some b) w wr) ∧ Hid (obr = ob ∨ ∃ g, obr = some g ∧ w.heap.size ≤ g))
  case atStart =>
    (refine ⟨0, ob1, by omega, by omega, rfl, ?_, HK0, HO0⟩); show Inv _ _ _; rw [List.take_zero, allNs, List.append_nil]; exact HI1.out
  case round =>
    obtain ⟨i, obr, hile, hg, rfl, HIr, HKr, HOr⟩ := hrel; have HG : Hid (gk = ks.length - i) := hg; clear hg; by_cases hlt : i < ks.length
    · obtain ⟨⟨k2, n2, ks2⟩, hki⟩ : ∃ f, ks[i]? = some f := ⟨_, List.getElem?_eq_getElem hlt⟩
      (have hltI : (i : Int) < (ks.length : Int) := by omega); (have hlc : ((i : Nat) : Int) < ((cp : Nat) : Int) := by omega); (obtain ⟨b, off, hsl, hbB, hrs⟩ := HX.out (fun e => by rw [e] at hlt; simp at hlt)); subst hsl; (have hbB' : Below B w wr := HKr.out.below (by omega) fun b hb => ⟨by omega, fun e => by have := (HO.out b e).1; omega⟩); obtain ⟨sl2, cap2, g0, g1, g2, hrep2⟩ := (hrs.low hbB hbB').at i k2 n2 ks2 hki; have hfk : Fine (.mk k2 n2 ks2) := HF.out i _ hki; (have hszm : (Fm.mk k2 n2 ks2).size < m := by have := sizes_get hki; rw [Fm.size] at hm; omega)
      have hNN : (done ++ [Fm.mk k n ks] ++ allNs (ks.take i)).length + (Fm.mk k2 n2 ks2).size ≤ 200 := by
        have h1 := sizes_take ks i _ hki; rw [Fm.size] at hN; simp only [List.length_append, List.length_singleton, allNs_len]; omega
      (have HIH : Hid (∀ wx, Rep wx (· < B) (.mk k2 n2 ks2) (.agg #[.int .i64 k2, .string n2, .slice sl2 ks2.length cap2]) → Inv (done ++ [Fm.mk k n ks] ++ allNs (ks.take i)) obr wx → Calls Try.prog 63 #[.agg #[.int .i64 k2, .string n2, .slice sl2 ks2.length cap2], .func (.func fn) #[] cap] wx _) := fun wx h1 h2 => ih _ obr _ _ wx hszm hNN hfk h1 h2); have HD : Hid (allNs (ks.take (i + 1)) = allNs (ks.take i) ++ allN (.mk k2 n2 ks2)) := allNs_drop hki; have HR2 : Hid (Rep wr (· < B) (.mk k2 n2 ks2) (.agg #[.int .i64 k2, .string n2, .slice sl2 ks2.length cap2])) := hrep2; clear hki hrs hrep HX hNN hrep2
      go_wp2_with (first
        | (go_at_call 63
           (refine (HIH.out _ (HR2.out.move fun b hb hok => ⟨Below.heap_alloc _ _ _ hb, hok⟩) (HV.out.alloc _ HIr.out)).mono ?_); rintro e w2 ⟨rfl, ob2, hinv2, hk2, ho2⟩; have HI2 : Hid (Inv (done ++ [Fm.mk k n ks] ++ allNs (ks.take i) ++ allN (.mk k2 n2 ks2)) ob2 w2) := hinv2; (have hk3 : Kept (fun b => b ≠ cb ∧ obr ≠ some b) wr w2 := ((Kept.refl _ wr).alloc _).trans hk2)
           have ho3 : ob2 = obr ∨ ∃ g, ob2 = some g ∧ wr.heap.size ≤ g := by
             rcases ho2 with h | ⟨g, h, hg⟩
             · exact Or.inl h
             · exact Or.inr ⟨g, h, by simp at hg; omega⟩
           (have HK2 : Hid (Kept (fun b => b ≠ cb ∧ ob ≠ some b) w w2) := kept_on HKr.out HOr.out hk3); have HO2 : Hid (ob2 = ob ∨ ∃ g, ob2 = some g ∧ w.heap.size ≤ g) := own_on HOr.out HKr.out.size ho3
           clear hinv2 hk2 ho2 hk3 ho3)
        | fail)
      go_roundg (ks.length - (i + 1))
      case measure => have := HG.out; omega
      case rel =>
        (refine ⟨i + 1, ob2, by omega, rfl, by go_num, ?_, HK2, HO2⟩); show Inv _ _ _; rw [HD.out, ← List.append_assoc]; exact HI2.out
    · have HE : Hid (Inv (done ++ allN (.mk k n ks)) obr wr) := by
        show Inv _ _ _; have := HIr.out; (rw [List.take_of_length_le (by omega), List.append_assoc] at this); rw [allN]; exact this
      (have hge : ¬ (i : Int) < (ks.length : Int) := by omega); clear HX hrep HIr; go_wp2_with fail
      go_end0
      exact ⟨rfl, obr, HE.out, HKr.out, HOr.out⟩

theorem eachs_all {fn : Nat} {cap : Array Value} {B cb : Nat} {Inv : List Fm → Option Nat → World → Prop} (V : Visit fn cap B cb Inv) : ∀ m, Eachs fn cap B cb Inv m
  | 0 => fun _ _ _ _ _ h => absurd h (Nat.not_lt_zero _)
  | m + 1 => each_step V m (eachs_all V m)

theorem each_any {fn : Nat} {cap : Array Value} {B cb : Nat} {Inv : List Fm → Option Nat → World → Prop} (V : Visit fn cap B cb Inv) (ob : Option Nat) (f : Fm) (v : Value) (w : World) (hs : f.size ≤ 200) (hf : Fine f) (hrep : Rep w (· < B) f v) (hi : Inv [] ob w) :
    Calls Try.prog 63 #[v, .func (.func fn) #[] cap] w fun e w' => e = .returned (.tuple #[]) ∧ ∃ ob', Inv (allN f) ob' w' ∧ Kept (fun b => b ≠ cb ∧ ob ≠ some b) w w' ∧ (ob' = ob ∨ ∃ g, ob' = some g ∧ w.heap.size ≤ g) :=
  eachs_all V (f.size + 1) [] ob f v w (Nat.lt_succ_self _) (by simpa using hs) hf hrep hi
end Go.Proofs.Ytmahgfgndfcmpag
/- Walks: how many nodes there are. -/
namespace Go.Proofs.Ytmahgfgndfcmpag
open Go.RowKit

theorem blk1 {w : World} {b : Nat} {c0 : Value} {T : TypeId} (h : w.heap[b]? = some (.cells #[c0] T (0, 0))) : w.cell? ⟨b, 0, none⟩ = some c0 ∧ w.frozen? ⟨b, 0, none⟩ = false := ⟨blk_cell h 0, blk_fz h 0⟩
theorem set1 {w : World} {b : Nat} {c0 : Value} {T : TypeId} (h : w.heap[b]? = some (.cells #[c0] T (0, 0))) (v : Value) : (w.setCell ⟨b, 0, none⟩ v).heap[b]? = some (.cells #[v] T (0, 0)) := by
  simp [World.setCell, Array.getElem?_modify, h]

/-! With a formula of s nodes for a name. -/
end Go.Proofs.Ytmahgfgndfcmpag
/- Walks: the names in a formula, as they come. -/
namespace Go.Proofs.Ytmahgfgndfcmpag
open Go.RowKit

theorem infoText : ∃ i, Try.prog.info? 9 = some i ∧ i.zero = some (.string ⟨#[]⟩) ∧ i.size = 1 ∧ i.bytes = 16 := by
  (obtain ⟨i, hi, h⟩ := Option.map_eq_some_iff.1 (show (Try.prog.info? 9).map (fun i => (i.zero, i.size, i.bytes)) = some (some (.string ⟨#[]⟩), 1, 16) by kernel_rfl)); simp only [Prod.mk.injEq] at h; exact ⟨i, hi, h.1, h.2.1, h.2.2⟩

def nmsOf : List Fm → List ByteArray
  | [] => []
  | .mk k n _ :: fs => if k = 1 then n :: nmsOf fs else nmsOf fs
theorem nmsOf_append : ∀ a b : List Fm, nmsOf (a ++ b) = nmsOf a ++ nmsOf b
  | [], b => rfl
  | .mk k n ks :: a, b => by
    rw [List.cons_append, nmsOf, nmsOf, nmsOf_append a b]
    split <;> rfl
theorem nmsOf_len : ∀ a : List Fm, (nmsOf a).length ≤ a.length
  | [] => Nat.le_refl _
  | .mk k n ks :: a => by
    have := nmsOf_len a; rw [nmsOf]
    split <;> simp <;> omega

/-- The list of names that have come so far. -/
def InvN (cb : Nat) (done : List Fm) (ob : Option Nat) (w : World) : Prop := ∃ ad cp, w.heap[cb]? = some (.cells #[.slice ad (nmsOf done).length cp] 48 (0, 0)) ∧ ob = (Value.slice ad (nmsOf done).length cp).ownBlock ∧ w.ownsRow (cb + 1) 9 1 (.slice ad (nmsOf done).length cp) (nmsOf done).length ((nmsOf done).map Value.string)

set_option maxHeartbeats 2000000 in
theorem names1_no (cb : Nat) (k : Int) (hk : k ≠ 1) (n : ByteArray) (ks : List Fm) (v : Value) (w : World) (hrep : Rep w (fun _ => True) (.mk k n ks) v) :
    Calls Try.prog 64 #[v, .pointer (some ⟨cb, 0, none⟩)] w fun e w' => e = .returned (.tuple #[]) ∧ Below w.heap.size w w' := by
  obtain ⟨sl, cap, rfl⟩ := slice_shape hrep; (have hkJ : (k == 1) = false := by simpa using hk); have B := (Below.refl w.heap.size w).alloc (Nat.le_refl _); clear hrep
  go_enter Try.func64, Try.ntmps64
  go_wp2_with fail
  go_end0
  exact ⟨rfl, B _⟩

theorem owns_set {w : World} {cb : Nat} {T : TypeId} {sz : Nat} {v : Value} {n : Nat} {xs : List Value} (h : w.ownsRow (cb + 1) T sz v n xs) (u : Value) : (w.setCell ⟨cb, 0, none⟩ u).ownsRow (cb + 1) T sz v n xs := by
  obtain ⟨h1, h2⟩ := h; refine ⟨h1, ?_⟩
  rcases h2 with h2 | ⟨g, cap, cur, hv, hg, hh, r⟩
  · exact Or.inl h2
  · exact Or.inr ⟨g, cap, cur, hv, hg, (Below.heap_setCell _ _ _ _ (by simp; omega)).trans hh, r⟩
theorem kept_grown {ok : Nat → Prop} {w w' : World} {ob : Option Nat} (h : w.grownBy w' ob) (hi : ∀ k, ok k → ob ≠ some k) : Kept ok w w' :=
  ⟨h.os, h.tape, h.output, h.size, fun k hk ho => h.block k hk (fun e => hi k ho e.symm)⟩

set_option maxHeartbeats 4000000 in
theorem names1_yes (cb : Nat) (n : ByteArray) (hn : n.size ≤ 8) (ks : List Fm) (v : Value) (w : World) (hrep : Rep w (fun _ => True) (.mk 1 n ks) v) (L : Nat) (hL : L ≤ 200) (ad : Option Addr) (cp : Nat) (xs : List Value) (h1 : w.heap[cb]? = some (.cells #[.slice ad L cp] 48 (0, 0))) (h2 : w.ownsRow (cb + 1) 9 1 (.slice ad L cp) L xs) :
    Calls Try.prog 64 #[v, .pointer (some ⟨cb, 0, none⟩)] w fun e w' => e = .returned (.tuple #[]) ∧ ∃ g cp', w'.heap[cb]? = some (.cells #[.slice (some ⟨g, 0, none⟩) (L + 1) cp'] 48 (0, 0)) ∧ w'.ownsRow (cb + 1) 9 1 (.slice (some ⟨g, 0, none⟩) (L + 1) cp') (L + 1) (xs ++ [.string n]) ∧ Kept (fun b => b ≠ cb ∧ (Value.slice ad L cp).ownBlock ≠ some b) w w' ∧ ((Value.slice ad L cp).ownBlock = some g ∨ w.heap.size ≤ g) := by
  obtain ⟨sl, cap, rfl⟩ := slice_shape hrep; clear hrep; obtain ⟨i0, hi, hz0, hz1, hz2⟩ := infoText; (have hcl : ∀ w, Calls Try.prog 65 #[.string n] w fun e w' => e = .returned (.string n) ∧ Below w.heap.size w w' := fun w => clone_any n w (by omega)); have HCl : Hid (∀ w, Calls Try.prog 65 #[.string n] w _) := hcl; have HO : Hid (w.ownsRow (cb + 1) 9 1 (.slice ad L cp) L xs) := h2; have zc := lt_of_block h1; clear hcl h2
  go_enter Try.func64, Try.ntmps64
  go_wp2_with fail; have p0 := blk_new w (.cells #[.int .i64 1, .string n, .slice sl ks.length cap] 28 (0, 0)); have p1 := alloc_keep h1 (.cells #[.int .i64 1, .string n, .slice sl ks.length cap] 28 (0, 0)); have HO0 : Hid ((w.alloc (.cells #[.int .i64 1, .string n, .slice sl ks.length cap] 28 (0, 0))).ownsRow (cb + 1) 9 1 (.slice ad L cp) L xs) := owns_up HO.out ((Below.refl _ w).alloc (Nat.le_refl _) _); (have HK0 : Hid (Kept (fun b => b ≠ cb ∧ (Value.slice ad L cp).ownBlock ≠ some b) w (w.alloc (.cells #[.int .i64 1, .string n, .slice sl ks.length cap] 28 (0, 0)))) := (Kept.refl _ w).alloc _); (have hs0 : w.heap.size ≤ (w.alloc (.cells #[.int .i64 1, .string n, .slice sl ks.length cap] 28 (0, 0))).heap.size := by simp); generalize w.alloc (.cells #[.int .i64 1, .string n, .slice sl ks.length cap] 28 (0, 0)) = w0 at *; obtain ⟨a0, a1, a2, -⟩ := blk3 p0; obtain ⟨c0, c1⟩ := blk1 p1; have z0 := lt_of_block p0; have z1 := lt_of_block p1
  go_region_law
    (first
     | (have hown := owns_up (owns_up HO0.out hb1') ((Below.refl _ w1).alloc (Nat.le_refl _) (.cells #[.string n] 9 (0, 0)))
        (refine step_append_lies _ rfl _ _ 48 rfl (cb + 1) 9 i0 (.string ⟨#[]⟩) 1 16 Try.underlying48 hi hz0 hz1 hz2 rfl (by decide) _ _ _ rfl hown ⟨w1.heap.size, 0, none⟩ 1 1 [.string n] rfl rfl ?_ ?_ (by omega) (by unfold maxLen; omega) (by omega) (by simp; omega) _ rfl ?_)
        · intro j u hu
          rw [add_none, Nat.zero_add, blk_cell (blk_new w1 _)]; simpa using hu
        · intro u hu
          simp at hu
          rcases hu with rfl; rfl
        intro g3 cp3 w3 hown3 hgrow hat hlt3; have hgrow' : (w1.alloc (.cells #[.string n] 9 (0, 0))).grownBy w3 (Value.slice ad L cp).ownBlock := hgrow; have hat' : (Value.slice ad L cp).ownBlock = some g3 ∨ g3 = (w1.alloc (.cells #[.string n] 9 (0, 0))).heap.size := hat; clear hgrow hat; have HG3 : Hid ((w1.alloc (.cells #[.string n] 9 (0, 0))).grownBy w3 (Value.slice ad L cp).ownBlock) := hgrow'; have HA3 : Hid ((Value.slice ad L cp).ownBlock = some g3 ∨ g3 = (w1.alloc (.cells #[.string n] 9 (0, 0))).heap.size) := hat'; have HW3 : Hid (w3.ownsRow (cb + 1) 9 1 (.slice (some ⟨g3, 0, none⟩) (L + 1) cp3) (L + 1) (xs ++ [.string n])) := hown3; (have r3 := (hgrow'.block cb (by simp; omega) (fun e => by have := (hown.lt cb e.symm).1; omega)).trans (alloc_keep r2 _)); clear hgrow' hat' hown3 hown; clear c0 c1; obtain ⟨c0, c1⟩ := blk1 r3
        have y5 := HG3.out.size)
     | (go_simp
        refine (HCl.out _).mono ?_; rintro e w1 ⟨rfl, hb1⟩; have hb1' : Below w0.heap.size w0 w1 := (Below.refl _ w0).drew.trans hb1; clear hb1; have r2 := below_keep hb1' p1; clear c0 c1; obtain ⟨c0, c1⟩ := blk1 r2; have y4 : cb < w1.heap.size := lt_of_block r2; have y6 := hb1'.size
        dsimp only)
     | fail)
  all_goals
    go_end0
    refine ⟨rfl, g3, cp3, set1 r3 _, owns_set HW3.out _, ?_, ?_⟩
    · exact ((((HK0.out.trans (kept_of_below hb1' fun _ h _ => h)).alloc _).trans (kept_grown HG3.out fun k h => h.2))).setCell (fun _ h => h.1 rfl) _
    · rcases HA3.out with h | h
      · exact Or.inl h
      · refine Or.inr ?_
        simp at h; omega

theorem names1_in (cap : Array Value) (w : World) : (callFunc 64 cap).run Try.prog w = .ok (.enter 64 cap) w := by
  simp [go_sem]

theorem names_visit (B cb : Nat) (h : B ≤ cb) : Visit 64 #[.pointer (some ⟨cb, 0, none⟩)] B cb (InvN cb) where
  hB := h
  lt := fun hi => by
    obtain ⟨ad, cp, h1, h2, h3⟩ := hi; (refine ⟨lt_of_block h1, fun g e => ?_⟩); rw [h2] at e; have := h3.lt g e; omega
  alloc := fun o hi => by
    obtain ⟨ad, cp, h1, h2, h3⟩ := hi; exact ⟨ad, cp, alloc_keep h1 o, h2, owns_up h3 ((Below.refl _ _).alloc (Nat.le_refl _) _)⟩
  ent := fun v w => names1_in _ w
  call := fun done ob f v w hl hf hrep hi => by
    obtain ⟨ad, cp, h1, h2, h3⟩ := hi; have hL := nmsOf_len done; obtain ⟨k, n, ks⟩ := f; by_cases hk : k = 1
    · subst hk
      (refine (names1_yes cb n hf.small.1 ks v w hrep.all (nmsOf done).length (by omega) ad cp _ h1 h3).mono ?_); rintro e w' ⟨rfl, g, cp', q1, q2, q3, q4⟩; (have e1 : nmsOf (done ++ [Fm.mk 1 n ks]) = nmsOf done ++ [n] := by rw [nmsOf_append]; rfl); (refine ⟨rfl, some g, ⟨some ⟨g, 0, none⟩, cp', ?_⟩, by rw [h2]; exact q3, ?_⟩)
      · rw [e1, List.length_append, List.map_append]
        exact ⟨q1, rfl, q2⟩
      · rcases q4 with h | h
        · exact Or.inl (by rw [h2, h])
        · exact Or.inr ⟨g, rfl, h⟩
    · refine (names1_no cb k hk n ks v w hrep.all).mono ?_
      rintro e w' ⟨rfl, hb⟩
      have e1 : nmsOf (done ++ [Fm.mk k n ks]) = nmsOf done := by
        rw [nmsOf_append, nmsOf, if_neg hk, nmsOf, List.append_nil]
      (refine ⟨rfl, ob, ⟨ad, cp, ?_⟩, kept_of_below hb (fun _ h _ => h), Or.inl rfl⟩); rw [e1]; exact ⟨below_keep hb h1, h2, owns_up h3 hb⟩
end Go.Proofs.Ytmahgfgndfcmpag
/- Walks: Names. -/
namespace Go.Proofs.Ytmahgfgndfcmpag
open Go.RowKit Go.Sort

abbrev srt (ss : List (List UInt8)) : List (List UInt8) := ss.mergeSort fun x y => decide (x ≤ y)

theorem sort_any (base g cap : Nat) (ss : List (List UInt8)) (hl : ss.length ≤ 200) (w : World) (hown : w.ownsRow base 9 1 (.slice (some ⟨g, 0, none⟩) ss.length cap) ss.length (ss.map encStr)) :
    Calls Try.prog 66 #[.slice (some ⟨g, 0, none⟩) ss.length cap] w fun e w' => e = .returned (.tuple #[]) ∧ w'.ownsRow base 9 1 (.slice (some ⟨g, 0, none⟩) ss.length cap) ss.length ((srt ss).map encStr) ∧ w.grownBy w' (some g) := by
  rcases hown.2 with ⟨h, -⟩ | ⟨g', cap', cur, hv, hg, hh, h1, h2, h3, h4⟩
  · cases h
  · cases hv
    rw [Nat.mul_one] at h4; (refine (Try.slices_Sort_string g 0 cap ss w (holds_of_block hh h4) (lt_of_block hh) (by omega)).mono ?_); rintro e w' ⟨rfl, n, os, rfl⟩; exact ⟨rfl, ownsRow_sorted (List.length_mergeSort ..) hg hh h1 h2 h3, grownBy_sorted _⟩

theorem compact_len (zs : List (List UInt8)) : (Lib.compact zs).length ≤ zs.length := by
  unfold Lib.compact Lib.compactUpTo; rw [List.length_map]; (exact Nat.le_trans (List.length_filter_le _ _) (by simp))

theorem compact_mem (zs : List (List UInt8)) (t : List UInt8) : t ∈ Lib.compact zs ↔ t ∈ zs := by
  unfold Lib.compact Lib.compactUpTo
  constructor
  · intro h
    obtain ⟨j, hj, rfl⟩ := List.mem_map.1 h; have hj := List.mem_range.1 (List.mem_filter.1 hj).1; (rw [getElem!_pos _ j (by simpa using hj)])
    simp
  · intro h
    obtain ⟨j, hj, rfl⟩ := List.getElem_of_mem h
    have key : ∀ j, j < zs.length → zs.toArray[j]! ∈ ((List.range zs.length).filter (Lib.keeps zs.toArray)).map (zs.toArray[·]!) := by
      intro j
      induction j with
      | zero => intro hj; exact List.mem_map.2 ⟨0, List.mem_filter.2 ⟨List.mem_range.2 hj, by simp [Lib.keeps]⟩, rfl⟩
      | succ j ih =>
        intro hj; by_cases hk : Lib.keeps zs.toArray (j + 1) = true
        · exact List.mem_map.2 ⟨j + 1, List.mem_filter.2 ⟨List.mem_range.2 hj, hk⟩, rfl⟩
        · have e : zs.toArray[j + 1]! = zs.toArray[j]! := by
            simpa [Lib.keeps] using hk
          rw [e]; (exact ih (by omega))
    have := key j hj; (rw [getElem!_pos _ j (by simpa using hj)] at this); simpa using this

theorem uniq_any (base g cap : Nat) (zs : List (List UInt8)) (hl : zs.length ≤ 200) (w : World) (hown : w.ownsRow base 9 1 (.slice (some ⟨g, 0, none⟩) zs.length cap) zs.length (zs.map encStr)) :
    Calls Try.prog 67 #[.slice (some ⟨g, 0, none⟩) zs.length cap] w fun e w' => e = .returned (.slice (some ⟨g, 0, none⟩) (Lib.compact zs).length cap) ∧ (∀ (j : Nat) (t : List UInt8), (Lib.compact zs)[j]? = some t → w'.cell? ⟨g, j, none⟩ = some (encStr t)) ∧ w.grownBy w' (some g) := by
  have hcl := compact_len zs
  rcases hown.2 with ⟨h, -⟩ | ⟨g', cap', cur, hv, hg, hh, h1, h2, h3, h4⟩
  · cases h
  · cases hv
    rw [Nat.mul_one] at h4; have hH := holds_of_block hh h4; (refine (Try.slices_Compact_string g 0 cap zs w hH (by omega) h1).mono ?_); rintro e w' ⟨rfl, q, rfl⟩; (refine ⟨rfl, fun j t ht => ?_, ?_⟩)
    · have hj : j < (Lib.compact zs).length := by
        rcases Nat.lt_or_ge j (Lib.compact zs).length with h | h
        · exact h
        · rw [List.getElem?_eq_none h] at ht; cases ht
      (have := cell?_putRow encStr (Sort.ahead w q) g 0 zs.toArray (Lib.compact zs ++ List.replicate (zs.length - (Lib.compact zs).length) []).toArray (holds_ahead _ _ _ _ _ _ hH) (by simp; omega) j (by simp; omega)); rw [Nat.zero_add] at this; rw [this]
      congr 2
      (rw [getElem!_pos _ j (by simp; omega)]); simp only [List.getElem_toArray]; rw [List.getElem_append_left hj]; rw [List.getElem?_eq_getElem hj] at ht; exact Option.some.inj ht
    · have := grownBy_sorted (w := w) (g := g) (n := q) (os := #[]) (Lib.compact zs ++ List.replicate (zs.length - (Lib.compact zs).length) []).toArray
      rwa [grow_empty] at this

/-- A list of texts in memory. -/
def TL (w : World) (v : Value) (l : List (List UInt8)) : Prop := ∃ ad cap, v = .slice ad l.length cap ∧ l.length ≤ cap ∧ cap ≤ maxLen ∧ (l ≠ [] → ∃ g, ad = some ⟨g, 0, none⟩ ∧ ∀ (j : Nat) (t : List UInt8), l[j]? = some t → w.cell? ⟨g, j, none⟩ = some (.string ⟨t.toArray⟩))
theorem TL.up {w w' : World} {v : Value} {l : List (List UInt8)} (h : TL w v l) (hb : Below w.heap.size w w') : TL w' v l := by
  obtain ⟨ad, cap, h1, h2, h3, h4⟩ := h; (refine ⟨ad, cap, h1, h2, h3, fun hne => ?_⟩); obtain ⟨g, h5, h6⟩ := h4 hne
  exact ⟨g, h5, fun j t ht => by
    have := h6 j t ht; rw [hb.cell (p := ⟨g, j, none⟩) (lt_of_cell this)]
    exact this⟩
theorem TL.nil {w : World} : TL w (.slice none 0 0) [] := ⟨none, 0, rfl, by simp, by simp, fun h => absurd rfl h⟩

/-- The names in a formula, each once, rising. -/
def nmsT (f : Fm) : List (List UInt8) := (nmsOf (allN f)).map (·.data.toList)
def nmsU (f : Fm) : List (List UInt8) := Lib.compact (srt (nmsT f))
theorem nmsU_mem (f : Fm) (t : List UInt8) : t ∈ nmsU f ↔ t ∈ nmsT f := by
  unfold nmsU; rw [compact_mem]; exact List.mem_mergeSort

theorem map_enc (l : List ByteArray) : (l.map (·.data.toList)).map encStr = l.map Value.string := by
  rw [List.map_map]; apply List.map_congr_left; intro b _; rfl

theorem uniq_nil : Lib.compact (srt []) = [] := by
  have : (Lib.compact (srt [])).length ≤ (srt []).length := compact_len _; rw [List.length_mergeSort] at this; (exact List.length_eq_zero_iff.1 (by simpa using this))

set_option maxHeartbeats 4000000 in
theorem names_ok (f : Fm) (v : Value) (w : World) (hrep : Rep w (fun _ => True) f v) (s : Nat) (hc : chk f 0 = .ok s) :
    Calls Try.prog 37 #[v] w fun e w' => ∃ x, e = .returned (.tuple #[x, .agg #[.int .i64 0, .int .i64 0]]) ∧ TL w' x (nmsU f) ∧ Below w.heap.size w w' := by
  (have hck := fun v (w : World) h => check_any f v w h); (have hcode : f.code = (0, 0) := by simp only [Fm.code, hc]); rw [hcode] at hck; have hsz := chk_size hc; have hfi := fine_of_chk f 0 s hc; (have hea := fun cb hcb v wx h hi => each_any (names_visit w.heap.size cb hcb) none f v wx hsz hfi h hi); (have hm := hrep.move (ok' := (· < w.heap.size)) fun b hb _ => ⟨rfl, hb⟩)
  have hnl : (nmsT f).length ≤ 200 := by
    unfold nmsT; have := nmsOf_len (allN f); rw [allN_len] at this; rw [List.length_map]; omega
  have hnt : (nmsT f).length = (nmsOf (allN f)).length := List.length_map ..; have hme : (nmsT f).map encStr = (nmsOf (allN f)).map Value.string := map_enc _; have hnu : nmsU f = Lib.compact (srt (nmsT f)) := rfl; obtain ⟨k, n, ks⟩ := f; obtain ⟨sl, cap, rfl⟩ := slice_shape hrep; have HC : Hid (∀ v w, _ → Calls Try.prog 48 #[v] w _) := hck; have HE : Hid (∀ (cb : Nat) (hcb : w.heap.size ≤ cb) (v : Value) (wx : World), Rep wx (· < w.heap.size) (.mk k n ks) v → InvN cb [] none wx → Calls Try.prog 63 _ wx _) := hea; have HM : Hid (Rep w (· < w.heap.size) (.mk k n ks) (.agg #[.int .i64 k, .string n, .slice sl ks.length cap])) := hm; have HT : Hid ((nmsT (.mk k n ks)).map encStr = (nmsOf (allN (.mk k n ks))).map Value.string ∧ (nmsT (.mk k n ks)).length = (nmsOf (allN (.mk k n ks))).length ∧ nmsU (.mk k n ks) = Lib.compact (srt (nmsT (.mk k n ks))) ∧ (nmsT (.mk k n ks)).length ≤ 200) := ⟨hme, hnt, hnu, hnl⟩; (have hmf : ∀ (fn : Fn) (first cap : Array Value) (w : World), (Instr.makeFunc fn first cap).run Try.prog w = .ok (.func fn first cap) w := fun _ _ _ _ => rfl); clear hck hcode hc hea hm hnl hnt hme hnu; generalize nmsT (.mk k n ks) = T at *; generalize nmsU (.mk k n ks) = U at *
  go_enter Try.func37, Try.ntmps37
  go_wp2_with (first
    | (go_at_call 48
       refine (HC.out _ _ ((hrep.more _).more _)).mono ?_; rintro e w1 ⟨rfl, hb1⟩; have z1 := hb1.size; simp at z1; have q0 := below_keep hb1 (alloc_keep (blk_new w _) _); have q1 := below_keep hb1 (blk_new (w.alloc _) _); (rw [show (w.alloc _).heap.size = w.heap.size + 1 by simp] at q1); have B1 := below_join (below_more (below_more (Below.refl _ w) _) _) hb1; have M1 : Hid (Rep w1 (· < w.heap.size) (.mk k n ks) (.agg #[.int .i64 k, .string n, .slice sl ks.length cap])) := HM.out.low B1; obtain ⟨a0, a1, a2, -⟩ := blk3 q0; have y0 : w.heap.size < w1.heap.size := lt_of_block q0
       have y1 : w.heap.size + 1 < w1.heap.size := lt_of_block q1)
    | (go_at_call 63
       have nb := blk_new (w1.alloc (.cells #[.int .i64 0, .int .i64 0] 34 (0, 0))) (.cells #[.slice none 0 0] 48 (0, 0)); (rw [show (w1.alloc (.cells #[.int .i64 0, .int .i64 0] 34 (0, 0))).heap.size = w1.heap.size + 1 by simp] at nb); (refine (HE.out (w1.heap.size + 1) (by omega) _ _ (M1.out.low (((Below.refl _ w1).alloc (by omega) _).alloc (by simp; omega) _)) ⟨none, 0, nb, rfl, ⟨rfl, Or.inl ⟨rfl, rfl⟩⟩⟩).mono ?_); rintro e w2 ⟨rfl, ob', ⟨ad, cp, c1, c2, c3⟩, hk2, -⟩; (have r1 : w2.heap[w.heap.size + 1]? = some (.cells #[.int .i64 0, .int .i64 0] 34 (0, 0)) := (hk2.block _ (by simp; omega) ⟨by omega, by simp⟩).trans (alloc_keep (alloc_keep q1 _) _)); (have B2 : Below w.heap.size w w2 := (below_more (below_more B1 _) _).trans (hk2.below (by simp; omega) (fun b hb => ⟨by omega, by simp⟩))); have HR : Hid (w2.ownsRow (w1.heap.size + 1 + 1) 9 1 (.slice ad (nmsOf (allN (.mk k n ks))).length cp) (nmsOf (allN (.mk k n ks))).length ((nmsOf (allN (.mk k n ks))).map Value.string)) := c3; rw [← HT.out.2.1] at c1; have zc := lt_of_block c1; clear c2 c3 hk2 nb
       have HD : Hid ((ad = none ∧ T = [] ∧ cp = 0) ∨ ∃ g, ad = some ⟨g, 0, none⟩ ∧ w1.heap.size + 1 + 1 ≤ g ∧ w2.ownsRow (w1.heap.size + 1 + 1) 9 1 (.slice (some ⟨g, 0, none⟩) T.length cp) T.length (T.map encStr)) := by
         have h := HR.out; rw [← HT.out.1, ← HT.out.2.1] at h
         rcases h.2 with ⟨hv, h0⟩ | ⟨g, cap', cur, hv, hg, -⟩
         · simp only [Value.slice.injEq] at hv
           exact Or.inl ⟨hv.1, List.length_eq_zero_iff.1 h0, hv.2.2⟩
         · simp only [Value.slice.injEq, true_and] at hv
           rw [hv.1] at h; exact Or.inr ⟨g, hv.1, hg, h⟩
       clear HR; have hd := HD.out; clear HD
       rcases hd with ⟨rfl, hT, rfl⟩ | ⟨g, rfl, hgg, hown⟩
       case' inl =>
         subst hT; have HUn : Hid (U = []) := HT.out.2.2.1.trans uniq_nil
         replace c1 : w2.heap[w1.heap.size + 1]? = some (.cells #[.slice none 0 0] 48 (0, 0)) := c1
       case' inr =>
         have HO : Hid (w2.ownsRow (w1.heap.size + 1 + 1) 9 1 (.slice (some ⟨g, 0, none⟩) T.length cp) T.length (T.map encStr)) := hown; clear hown
       all_goals obtain ⟨k1, k2⟩ := blk1 c1)
    | (go_at_call 66
       have ho := HO.out; refine (sort_any (w1.heap.size + 1 + 1) g cp T HT.out.2.2.2 _ ho).mono ?_; rintro e w3 ⟨rfl, ho3, hg3⟩; have HO3 : Hid (w3.ownsRow (w1.heap.size + 1 + 1) 9 1 (.slice (some ⟨g, 0, none⟩) T.length cp) T.length ((srt T).map encStr)) := ho3; (have s1 := (hg3.block _ zc (fun e => by have : w1.heap.size + 1 = g := Option.some.inj e; omega)).trans c1); (have s2 := (hg3.block _ (lt_of_block r1) (fun e => by have : w.heap.size + 1 = g := Option.some.inj e; omega)).trans r1); (have B3 : Below w.heap.size w w3 := B2.trans ⟨hg3.os, hg3.tape, hg3.output, hg3.size, fun j hj => hg3.block j (by have := B2.size; omega) (fun e => by have : j = g := Option.some.inj e; omega)⟩); clear ho3 hg3 k1 k2
       obtain ⟨k1, k2⟩ := blk1 s1)
    | (go_at_call 66
       have hu := HUn.out; refine (Try.slices_Sort_string_none _ _ _).mono ?_; rintro e w3 ⟨rfl, rfl⟩
       obtain ⟨p0, p1, p2, p3⟩ := blk2 r1)
    | (go_at_call 67
       have ho := HO3.out; have hsl : (srt T).length = T.length := List.length_mergeSort ..; (have hun := uniq_any (w1.heap.size + 1 + 1) g cp (srt T) (by rw [hsl]; exact HT.out.2.2.2) w3 (by rw [hsl]; exact ho)); rw [hsl, ← HT.out.2.2.1] at hun; refine hun.mono ?_; rintro e w4 ⟨rfl, hcells, hg4⟩; (have t2 := (hg4.block _ (lt_of_block s2) (fun e => by have : w.heap.size + 1 = g := Option.some.inj e; omega)).trans s2); (have B4 : Below w.heap.size w w4 := B3.trans ⟨hg4.os, hg4.tape, hg4.output, hg4.size, fun j hj => hg4.block j (by have := B3.size; omega) (fun e => by have : j = g := Option.some.inj e; omega)⟩); have HCe : Hid (∀ (j : Nat) (t : List UInt8), U[j]? = some t → w4.cell? ⟨g, j, none⟩ = some (encStr t)) := hcells
       have HUl : Hid (U.length ≤ cp ∧ cp ≤ maxLen) := by
         have h1 := compact_len (srt T); rw [hsl, ← HT.out.2.2.1] at h1
         rcases ho.2 with ⟨hv, -⟩ | ⟨g', cap', cur, hv, -, -, h2, h3, -⟩
         · cases hv
         · cases hv
           (exact ⟨by omega, h3⟩)
       clear hun hcells hg4
       obtain ⟨p0, p1, p2, p3⟩ := blk2 t2)
    | (go_at_call 67
       have hu := HUn.out; refine (Try.slices_Compact_string_empty _ _ _).mono ?_
       rintro e w4 ⟨rfl, rfl⟩)
    | fail)
  · have f2 := set2 t2 (.int .i64 0) (.int .i64 0)
    (have b2 := (B4.setCell (p := ⟨w.heap.size + 1, 0, none⟩) (by simp) (.int .i64 0)).setCell (p := ⟨w.heap.size + 1, 1, none⟩) (by simp) (.int .i64 0))
    have TF : TL ((w4.setCell ⟨w.heap.size + 1, 0, none⟩ (.int .i64 0)).setCell ⟨w.heap.size + 1, 1, none⟩ (.int .i64 0)) (.slice (some ⟨g, 0, none⟩) U.length cp) U := by
      (refine ⟨_, cp, rfl, HUl.out.1, HUl.out.2, fun _ => ⟨g, rfl, fun j t ht => ?_⟩⟩); (rw [World.cell?_setCell_far _ _ _ _ (by simp; omega), World.cell?_setCell_far _ _ _ _ (by simp; omega)]); exact HCe.out j t ht
    generalize World.setCell _ _ _ = F at f2 b2 TF ⊢; clear p0 p1 p2 p3; obtain ⟨p0, p1, -⟩ := blk2 f2; (exact bodyPost_ret (v := .tuple #[.slice (some ⟨g, 0, none⟩) U.length cp, .agg #[.int .i64 0, .int .i64 0]]) (by simp [results, Try.results37, go_sem, p0, p1]) rfl ⟨_, rfl, TF, b2⟩)
  · have f2 := set2 r1 (.int .i64 0) (.int .i64 0)
    (have b2 := (B2.setCell (p := ⟨w.heap.size + 1, 0, none⟩) (by simp) (.int .i64 0)).setCell (p := ⟨w.heap.size + 1, 1, none⟩) (by simp) (.int .i64 0)); generalize World.setCell _ _ _ = F at f2 b2 ⊢; clear p0 p1 p2 p3; obtain ⟨p0, p1, -⟩ := blk2 f2; (exact bodyPost_ret (v := .tuple #[.slice none 0 0, .agg #[.int .i64 0, .int .i64 0]]) (by simp [results, Try.results37, go_sem, p0, p1]) rfl ⟨_, rfl, by rw [HUn.out]; exact TL.nil, b2⟩)
end Go.Proofs.Ytmahgfgndfcmpag
