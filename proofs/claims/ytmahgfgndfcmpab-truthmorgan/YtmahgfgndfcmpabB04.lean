/- Texts of one proof, one behind the other: Walk2, Walk3, Walk4, Walk6. -/
import Derived.Test.YtmahgfgndfcmpabB01
import Derived.Test.YtmahgfgndfcmpabB02
import Derived.Deep.LoopGhost
import Derived.Deep.RegionHeld3
/- Walks: the reader's small steps, two. -/
namespace Go.Proofs.Ytmahgfgndfcmpab
open Go.RowKit

theorem ret_int {k : IntKind} {a b : Int} (h : a = b) : Ending.returned (.int k a) = .returned (.int k b) := by rw [h]
theorem ret_bool {a b : Bool} (h : a = b) : Ending.returned (.bool a) = .returned (.bool b) := by rw [h]

set_option maxHeartbeats 1000000 in
theorem letters_any (s : ByteArray) (hs : s.size ≤ maxLen) (w : World) :
    Calls Try.prog 144 #[.string s] w fun e w' => e = .returned (.int .i64 (letters s.data.toList).length) ∧ w' = w := by
  unfold maxLen at hs
  go_enter Try.func144, Try.ntmps144
  go_wp2
  go_loop [3] (fun v => ∃ k l, At s k l ∧ v = .int .i64 (k : Nat) ∧ (letters s.data.toList).length = k + (letters l).length) (fun v => s.size - (intOf v).toNat)
  case atStart => exact ⟨0, s.data.toList, ⟨Nat.zero_le _, by simp⟩, rfl, by simp⟩
  case round =>
    obtain ⟨k, l, ha, rfl, hl⟩ := hrel; have hlen := ha.len; have HL : Hid (At s k l ∧ (letters s.data.toList).length = k + (letters l).length) := ⟨ha, hl⟩; clear ha hl
    cases l with
    | nil =>
      simp at hlen; (have hd : decide ((k : Int) < (s.size : Int)) = false := by simp; omega); go_wp2; go_ret
      exact ⟨ret_int (by have := HL.out.2; simp only [letters, List.length_nil] at this; omega), rfl⟩
    | cons c l =>
      simp at hlen; (have hlt' : k < s.size := by omega); (have hlt : (k : Int) < (s.size : Int) := by omega); have hhd : s[k] = c := HL.out.1.head hlt'; by_cases hc : lower c
      · have hx : (97 : Int) ≤ (s[k].toNat : Int) := by rw [hhd]; simp [lower] at hc; omega
        (have hy : (s[k].toNat : Int) ≤ 122 := by rw [hhd]; simp [lower] at hc; omega); (have HN : Hid (At s (k + 1) l ∧ (letters s.data.toList).length = (k + 1) + (letters l).length) := ⟨HL.out.1.cons, by rw [HL.out.2, letters, if_pos hc]; simp; omega⟩); clear hhd hc; go_wp2
        go_round
        case rel => exact ⟨k + 1, l, HN.out.1, by go_num, HN.out.2⟩
        case measure => simp [intOf]; omega
      · have hx : ¬ ((97 : Int) ≤ (s[k].toNat : Int) ∧ (s[k].toNat : Int) ≤ 122) := by rw [hhd]; simp [lower] at hc; omega
        (have HN : Hid ((letters s.data.toList).length = k) := by show _ = _; rw [HL.out.2, letters, if_neg hc]; rfl); clear hhd hc; go_wp2
        all_goals
          go_ret; (exact ⟨ret_int (by have := HN.out; omega), rfl⟩)

set_option maxHeartbeats 1000000 in
theorem isName_any (s : ByteArray) (hs : s.size ≤ maxLen) (w : World) :
    Calls Try.prog 125 #[.string s] w fun e w' => e = .returned (.bool (isNm s.data.toList)) ∧ w' = w := by
  have hsz : s.data.toList.length = s.size := Array.length_toList; have hlt := letters_length s.data.toList; have HB : Hid (s.data.toList.length = s.size) := hsz; rw [hsz] at hlt; unfold maxLen at hs; (have hc := letters_any s (by unfold maxLen; exact hs))
  go_enter Try.func125, Try.ntmps125
  go_wp2_with (go_at_call 144; refine (hc _).mono ?_; rintro e w1 ⟨rfl, rfl⟩)
  all_goals
    go_ret; refine ⟨ret_bool ?_, rfl⟩
  · rename_i hh
    rw [ByteArray.toList_eq] at hh; simp [isNm, hh]
  · rename_i h1 h2
    rw [ByteArray.toList_eq] at h1 ⊢; (have h3 : s.data.toList.length ≤ 8 := by have := HB.out; omega); rw [← HB.out]; simp only [isNm, h3, decide_true, Bool.and_true, List.isEmpty_eq_false_iff.2 h1, Bool.not_false, Bool.true_and, ne_eq, h1, not_false_eq_true]; rw [Bool.eq_iff_iff]; simp; omega
  · rename_i h1 h2
    (have h3 : ¬ s.data.toList.length ≤ 8 := by have := HB.out; omega); simp only [isNm, h3, decide_false, Bool.and_false, Bool.false_and]

/-- The panic that a fault is. -/
def stopC (code at_ : Int) : List PanicEntry := [{ v := .iface 120 (.agg #[.int .i64 code, .int .i64 at_]), recovered := false }]

set_option maxHeartbeats 400000 in
theorem stop_any (code at_ : Int) (w : World) :
    Calls Try.prog 89 #[.int .i64 code, .int .i64 at_] w fun e w' => e = .panicked (stopC code at_) ∧ w' = w := by
  go_enter Try.func89, Try.ntmps89
  go_wp2; exact ⟨rfl, rfl, rfl⟩

end Go.Proofs.Ytmahgfgndfcmpab
/- Walks: the reader's names. -/
namespace Go.Proofs.Ytmahgfgndfcmpab
open Go.RowKit

set_option maxHeartbeats 400000 in
theorem clone_any (s : ByteArray) (w : World) (hlim : s.size ≤ 281474976710656) :
    Calls Try.prog 80 #[.string s] w fun e w' => e = .returned (.string s) ∧ Below w.heap.size w w' := by
  go_enter Try.func80, Try.ntmps80
  go_wp2_with (go_at_call 91; refine (Try.stringslite_Clone s _ hlim).mono ?_; rintro e w1 ⟨rfl, hb⟩); go_ret; exact ⟨rfl, hb⟩

end Go.Proofs.Ytmahgfgndfcmpab
/- Walks: a reader's 'not', way by way. -/
namespace Go.Proofs.Ytmahgfgndfcmpab
open Go.RowKit

theorem Rep.one {w : World} {ok : Nat → Prop} {k : Int} {f : Fm} {b : Nat} {c0 c1 c2 : Value} {T : TypeId} (hb : w.heap[b]? = some (.cells #[c0, c1, c2] T (0, 0))) (hok : ok b) (hr : Rep w ok f (.agg #[c0, c1, c2])) :
    Rep w ok (.mk k e0 [f]) (.agg #[.int .i64 k, .string ⟨#[]⟩, .slice (some ⟨b, 0, none⟩) 1 1]) := by
  obtain ⟨g0, g1, g2, _⟩ := blk3 hb; (exact Rep.def.2 ⟨_, 1, rfl, by decide, by simp, by simp [maxLen], fun _ => ⟨b, 0, rfl, hok, Reps.cons.2 ⟨⟨c0, c1, c2, g0, g1, g2, hr⟩, Reps.nil⟩⟩⟩)
theorem Rep.two {w : World} {ok : Nat → Prop} {k : Int} {f g : Fm} {b : Nat} {c0 c1 c2 d0 d1 d2 : Value} {T : TypeId} (hb : w.heap[b]? = some (.cells #[c0, c1, c2, d0, d1, d2] T (0, 0))) (hok : ok b) (hr : Rep w ok f (.agg #[c0, c1, c2])) (hr2 : Rep w ok g (.agg #[d0, d1, d2])) :
    Rep w ok (.mk k e0 [f, g]) (.agg #[.int .i64 k, .string ⟨#[]⟩, .slice (some ⟨b, 0, none⟩) 2 2]) := by
  (exact Rep.def.2 ⟨_, 2, rfl, by decide, by simp, by simp [maxLen], fun _ => ⟨b, 0, rfl, hok, Reps.cons.2 ⟨⟨c0, c1, c2, blk_cell hb 0, blk_cell hb 1, blk_cell hb 2, hr⟩, Reps.cons.2 ⟨⟨d0, d1, d2, blk_cell hb 3, blk_cell hb 4, blk_cell hb 5, hr2⟩, Reps.nil⟩⟩⟩⟩)

theorem Rep.move {w w' : World} {ok ok' : Nat → Prop} {f : Fm} {v : Value} (h : Rep w ok f v) (hb : ∀ b, b < w.heap.size → ok b → w'.heap[b]? = w.heap[b]? ∧ ok' b) : Rep w' ok' f v :=
  Rep.keep (fun _ ha hlt => cell_of_block (hb _ hlt ha).1) (fun k h1 h2 => (hb k h1 h2).2) f v h

end Go.Proofs.Ytmahgfgndfcmpab
/- Walks: a reader's 'and' and 'or'. -/
namespace Go.Proofs.Ytmahgfgndfcmpab
open Go.RowKit

theorem set3 {w : World} {b : Nat} {x0 x1 x2 : Value} {T : TypeId} (h : w.heap[b]? = some (.cells #[x0, x1, x2] T (0, 0))) (y0 y1 y2 : Value) :
    (((w.setCell ⟨b, 0, none⟩ y0).setCell ⟨b, 1, none⟩ y1).setCell ⟨b, 2, none⟩ y2).heap[b]? = some (.cells #[y0, y1, y2] T (0, 0)) := by
  simp [World.setCell, Array.getElem?_modify, h]

end Go.Proofs.Ytmahgfgndfcmpab
