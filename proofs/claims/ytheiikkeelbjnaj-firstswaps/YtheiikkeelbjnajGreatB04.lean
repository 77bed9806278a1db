/- Texts of one proof, one behind the other: Walk1, Walk2, Walk3, Walk4, Walk7, Walk8, Check1, Check2, Check3. -/
import Derived.Test.YtheiikkeelbjnajGreatB01
import Derived.Test.YtheiikkeelbjnajGreatB02
import Derived.Deep.LoopGhost
import Derived.Deep.RegionHeld3
import Derived.Defers
import Derived.Recover
import Derived.RegionTactic
/- Walks: the reader's small steps. -/
namespace Go.Proofs.YtheiikkeelbjnajGreat
open Go.RowKit

theorem At.slice {t : ByteArray} {a : Nat} {l : List UInt8} (h : At t a l) : (t.extract a t.size).data.toList = l := by
  (rw [← h.2, ByteArray.data_extract, Array.toList_extract, ← ByteArray.size_data, ← Array.length_toList, List.extract_eq_take_drop, List.take_of_length_le (by simp)])

end Go.Proofs.YtheiikkeelbjnajGreat
/- Walks: the reader's small steps, two. -/
namespace Go.Proofs.YtheiikkeelbjnajGreat
open Go.RowKit

theorem ret_int {k : IntKind} {a b : Int} (h : a = b) : Ending.returned (.int k a) = .returned (.int k b) := by rw [h]
theorem ret_bool {a b : Bool} (h : a = b) : Ending.returned (.bool a) = .returned (.bool b) := by rw [h]

theorem pre_any {s p : ByteArray} {b : Bool} (h : Lib.hasPrefix s.data.toList p.data.toList = b) (w : World) :
    Calls Tryz.prog 199 #[.string s, .string p] w fun e w' => e = .returned (.bool b) ∧ w' = w := by
  subst h; exact Tryz.strings_HasPrefix s p w

set_option maxHeartbeats 1000000 in
theorem isLetter_any (c : Int) (w : World) :
    Calls Tryz.prog 207 #[.int .u8 c] w fun e w' => e = .returned (.bool (decide (97 ≤ c ∧ c ≤ 122))) ∧ w' = w := by
  by_cases h1 : (97 : Int) ≤ c
  · by_cases h2 : c ≤ 122
    · go_enter Tryz.func207, Tryz.ntmps207
      go_wp2; go_ret; (exact ⟨ret_bool (by simp [h1, h2]), rfl⟩)
    · go_enter Tryz.func207, Tryz.ntmps207
      go_wp2; go_ret; (exact ⟨ret_bool (by simp [h2]), rfl⟩)
  · go_enter Tryz.func207, Tryz.ntmps207
    go_wp2; go_ret; (exact ⟨ret_bool (by rw [eq_comm, Bool.and_eq_false_iff, decide_eq_false_iff_not]; left; omega), rfl⟩)

theorem nm_yes {l : List UInt8} (h0 : l ≠ []) (h8 : l.length ≤ 8) (hl : (letters l).length = l.length) : isNm l = true := by
  simp [isNm, h0, h8, hl]
theorem nm_no {l : List UInt8} (hl : (letters l).length < l.length) : isNm l = false := by
  (have : ¬ (letters l).length = l.length := by omega); simp [isNm, this]

set_option maxHeartbeats 1000000 in
theorem isName_any (s : ByteArray) (hs : s.size ≤ maxLen) (w : World) :
    Calls Tryz.prog 202 #[.string s] w fun e w' => e = .returned (.bool (isNm s.data.toList)) ∧ w' = w := by
  have hsz : s.data.toList.length = s.size := Array.length_toList; have HB : Hid (s.data.toList.length = s.size) := hsz; unfold maxLen at hs; clear hsz; by_cases h0 : s = ⟨#[]⟩
  · subst h0
    go_enter Tryz.func202, Tryz.ntmps202
    go_wp2_with fail; go_ret; exact ⟨ret_bool rfl, rfl⟩
  have H0 : Hid (s.data.toList ≠ []) := fun e => h0 (by
    cases s with
    | mk d => simp at e; rw [e])
  have he : s.toList.isEmpty = false := by
    rw [ByteArray.toList_eq]
    cases hh : s.data.toList with
    | nil => exact absurd hh H0.out
    | cons _ _ => rfl
  clear h0; by_cases h8 : s.size ≤ 8
  case neg =>
    (have h8I : (8 : Int) < (s.size : Int) := by omega)
    go_enter Tryz.func202, Tryz.ntmps202
    go_wp2_with fail; go_ret; (have h3 : ¬ s.data.toList.length ≤ 8 := by have := HB.out; omega); (exact ⟨ret_bool (by simp only [isNm, h3, decide_false, Bool.and_false, Bool.false_and]), rfl⟩)
  (have h8I : (s.size : Int) ≤ 8 := by omega); have H8 : Hid (s.size ≤ 8) := h8; clear h8 hs
  go_enter Tryz.func202, Tryz.ntmps202
  go_wp2_with fail
  go_loop [13] (fun v => ∃ k l, At s k l ∧ v = .int .i64 (k : Nat) ∧ (letters s.data.toList).length = k + (letters l).length) (fun v => s.size - (intOf v).toNat)
  case atStart => exact ⟨0, s.data.toList, ⟨Nat.zero_le _, by simp⟩, rfl, by simp⟩
  case round =>
    obtain ⟨k, l, ha, rfl, hl⟩ := hrel; have hlen := ha.len; have HL : Hid (At s k l ∧ (letters s.data.toList).length = k + (letters l).length) := ⟨ha, hl⟩; clear ha hl
    cases l with
    | nil =>
      simp at hlen; (have hd : decide ((k : Int) < (s.size : Int)) = false := by simp; omega); go_wp2_with fail; go_ret
      exact ⟨ret_bool (nm_yes H0.out (by have := HB.out; have := H8.out; omega) (by have h2 := HL.out.2; have := HB.out; simp only [letters, List.length_nil] at h2; omega)).symm, rfl⟩
    | cons c l =>
      simp at hlen; (have hlt' : k < s.size := by omega); (have hlt : (k : Int) < (s.size : Int) := by omega); have hhd : s[k] = c := HL.out.1.head hlt'; by_cases hc : lower c
      · have hx : (97 : Int) ≤ (s[k].toNat : Int) := by rw [hhd]; simp [lower] at hc; omega
        (have hy : (s[k].toNat : Int) ≤ 122 := by rw [hhd]; simp [lower] at hc; omega); (have HN : Hid (At s (k + 1) l ∧ (letters s.data.toList).length = (k + 1) + (letters l).length) := ⟨HL.out.1.cons, by rw [HL.out.2, letters, if_pos hc]; simp; omega⟩); have hlc := isLetter_any (s[k].toNat : Int); rw [decide_eq_true (p := (97 : Int) ≤ (s[k].toNat : Int) ∧ (s[k].toNat : Int) ≤ 122) ⟨hx, hy⟩] at hlc; clear hhd hc hx hy; go_wp2_with (go_at_call 207; refine (hlc _).mono ?_; rintro e w2 ⟨rfl, rfl⟩)
        go_round
        case rel => exact ⟨k + 1, l, HN.out.1, by go_num, HN.out.2⟩
        case measure => simp [intOf]; omega
      · have hx : ¬ ((97 : Int) ≤ (s[k].toNat : Int) ∧ (s[k].toNat : Int) ≤ 122) := by rw [hhd]; simp [lower] at hc; omega
        (have HN : Hid ((letters s.data.toList).length = k) := by show _ = _; rw [HL.out.2, letters, if_neg hc]; rfl); have hlc := isLetter_any (s[k].toNat : Int); rw [decide_eq_false hx] at hlc; clear hhd hc hx; go_wp2_with (go_at_call 207; refine (hlc _).mono ?_; rintro e w2 ⟨rfl, rfl⟩); go_ret; (exact ⟨ret_bool (nm_no (by have := HN.out; have := HB.out; omega)).symm, rfl⟩)

/-- The panic that a fault is. -/
def stopC (code at_ : Int) : List PanicEntry := [{ v := .iface 140 (.agg #[.int .i64 code, .int .i64 at_]), recovered := false }]

set_option maxHeartbeats 400000 in
theorem stop_any (code at_ : Int) (w : World) :
    Calls Tryz.prog 122 #[.int .i64 code, .int .i64 at_] w fun e w' => e = .panicked (stopC code at_) ∧ w' = w := by
  go_enter Tryz.func122, Tryz.ntmps122
  go_wp2; exact ⟨rfl, rfl, rfl⟩

end Go.Proofs.YtheiikkeelbjnajGreat
/- Walks: the reader's names. -/
namespace Go.Proofs.YtheiikkeelbjnajGreat
open Go.RowKit

set_option maxHeartbeats 400000 in
theorem clone_any (s : ByteArray) (w : World) (hlim : s.size ≤ 281474976710656) :
    Calls Tryz.prog 62 #[.string s] w fun e w' => e = .returned (.string s) ∧ Below w.heap.size w w' := by
  go_enter Tryz.func62, Tryz.ntmps62
  go_wp2_with (go_at_call 113; refine (Tryz.stringslite_Clone s _ hlim).mono ?_; rintro e w1 ⟨rfl, hb⟩); go_ret; exact ⟨rfl, hb⟩

theorem isNm_le {l : List UInt8} (h : isNm l = true) : l.length ≤ 8 := by
  simp [isNm] at h; omega

end Go.Proofs.YtheiikkeelbjnajGreat
/- Walks: a reader's 'not', way by way. -/
namespace Go.Proofs.YtheiikkeelbjnajGreat
open Go.RowKit

theorem Rep.move {w w' : World} {ok ok' : Nat → Prop} {f : Fm} {v : Value} (h : Rep w ok f v) (hb : ∀ b, b < w.heap.size → ok b → w'.heap[b]? = w.heap[b]? ∧ ok' b) : Rep w' ok' f v :=
  Rep.keep (fun _ ha hlt => cell_of_block (hb _ hlt ha).1) (fun k h1 h2 => (hb k h1 h2).2) f v h

end Go.Proofs.YtheiikkeelbjnajGreat
/- Walks: a fault that is caught. -/
namespace Go.Proofs.YtheiikkeelbjnajGreat
open Go.RowKit

theorem set2 {w : World} {b : Nat} {x0 x1 : Value} {T : TypeId} (h : w.heap[b]? = some (.cells #[x0, x1] T (0, 0))) (y0 y1 : Value) :
    ((w.setCell ⟨b, 0, none⟩ y0).setCell ⟨b, 1, none⟩ y1).heap[b]? = some (.cells #[y0, y1] T (0, 0)) := by
  simp [World.setCell, Array.getElem?_modify, h]

theorem assert_stop (v : Value) (w : World) : (Instr.typeAssert (.iface 140 v) 20 140 true).run Tryz.prog w = .ok (.tuple #[v, .bool true]) w := by kernel_rfl

set_option maxRecDepth 100000 in
theorem catch_stop (p : Nat) (x y code at_ : Int) (w : World) (hb : w.heap[p]? = some (.cells #[.int .i64 x, .int .i64 y] 32 (0, 0))) :
    CallsD Tryz.prog 97 #[.pointer (some ⟨p, 0, none⟩)] (.panicking [{ v := .iface 140 (.agg #[.int .i64 code, .int .i64 at_]), recovered := false }]) w fun e u' w' =>
      e = .returned (.tuple #[]) ∧ u' = .panicking [{ v := .iface 140 (.agg #[.int .i64 code, .int .i64 at_]), recovered := true }] ∧ w'.heap[p]? = some (.cells #[.int .i64 code, .int .i64 at_] 32 (0, 0)) ∧ Kept (· ≠ p) w w' := by
  obtain ⟨g1, g2, g3, g4⟩ := blk2 hb; have hlt := lt_of_block hb; (refine callsD_of_wpS Tryz.func97 rfl fun c₀ cs hu => ?_); apply wpS_seq; apply wpS_region; simp [wpOpsS, go_sem, recoverD, hu, Tryz.ntmps97, Exit.thenS]; apply wpS_of_wp; have HB : Hid (w.heap[p]? = some (.cells #[.int .i64 x, .int .i64 y] 32 (0, 0))) := hb; clear hb; clear hu; (generalize hQ : (fun (e : Exit) (a' : Act) (w' : World) => _) = Q); have HQ : Hid (_ = Q) := hQ; clear hQ
  change Code.wp _ _ _ { tmps := #[.pointer (some ⟨p, 0, none⟩), undef, undef, undef, .iface 140 (.agg #[.int .i64 code, .int .i64 at_]), undef, undef, undef, undef, undef, undef, undef], defers := [] } _
  have hta := assert_stop; go_wp2; rw [← HQ.out]; (refine ⟨rfl, _, rfl, .tuple #[], by simp [results, Tryz.results97, go_sem], rfl, rfl, ?_, ?_⟩)
  · rw [Below.heap_alloc _ _ _ (by simpa [World.setCell] using hlt)]
    exact set2 HB.out _ _
  · exact (((Kept.refl _ _).setCell (by simp) _).setCell (by simp) _).alloc _

set_option maxRecDepth 100000 in
theorem catch_idle (p : Addr) (w : World) :
    CallsD Tryz.prog 97 #[.pointer (some p)] .returning w fun e u' w' => e = .returned (.tuple #[]) ∧ u' = .returning ∧ w' = w := by
  (refine callsD_of_wpS Tryz.func97 rfl fun c₀ cs hu => ?_); apply wpS_seq; apply wpS_region; simp [wpOpsS, go_sem, recoverD, hu, Tryz.ntmps97, Exit.thenS]; apply wpS_of_wp; have HU : Hid (c₀.mode = .returning) := hu; clear hu; (generalize hQ : (fun (e : Exit) (a' : Act) (w' : World) => _) = Q); have HQ : Hid (_ = Q) := hQ; clear hQ
  change Code.wp _ _ _ { tmps := #[.pointer (some p), undef, undef, undef, .nilIface, undef, undef, undef, undef, undef, undef, undef], defers := [] } _
  go_wp2; rw [← HQ.out]; (refine ⟨rfl, .returning, ?_, .tuple #[], by simp [results, Tryz.results97, go_sem], rfl, rfl, rfl⟩); have := HU.out
  cases c₀
  simp_all

set_option maxRecDepth 100000 in
set_option maxHeartbeats 1000000 in
theorem caught_ok (g : Nat) (cap : Array Value) (w : World) (R : World → Prop) (hcf : ∀ w, (callFunc g cap).run Tryz.prog w = .ok (.enter g cap) w)
    (hw : Calls Tryz.prog g cap (w.alloc (.cells #[.int .i64 0, .int .i64 0] 32 (0, 0))) fun e w' => e = .returned (.tuple #[]) ∧ w'.heap[w.heap.size]? = some (.cells #[.int .i64 0, .int .i64 0] 32 (0, 0)) ∧ R w') :
    Calls Tryz.prog 47 #[.func (.func g) #[] cap] w fun e w' => e = .returned (.agg #[.int .i64 0, .int .i64 0]) ∧ ∃ w1, R w1 ∧ Kept (· ≠ w.heap.size) w1 w' := by
  (have hmf : ∀ (fn : Fn) (first cap : Array Value) (w : World), (Instr.makeFunc fn first cap).run Tryz.prog w = .ok (.func fn first cap) w := fun _ _ _ _ => rfl); have HW : Hid (Calls Tryz.prog g cap _ _) := hw; clear hw
  go_enter_defers Tryz.func47, Tryz.ntmps47
  go_wp2_with fail; refine HW.out.mono ?_; rintro e w1 ⟨rfl, q1, hR⟩; obtain ⟨g1, g2, g3, g4⟩ := blk2 q1; go_wp2_with fail; (refine leaves_cons (f := 97) (args := #[.pointer (some ⟨w.heap.size, 0, none⟩)]) (by simp) (by simp [go_sem]) ?_); refine (catch_idle ⟨w.heap.size, 0, none⟩ _).mono ?_; rintro e u' w'' ⟨rfl, rfl, rfl⟩; simp only [Leaves, settle]; (exact ⟨.agg #[.int .i64 0, .int .i64 0], by simp [results, Tryz.results47, go_sem, g1, g2], rfl, w1, hR, ((Kept.refl _ _).setCell (by simp) _).setCell (by simp) _⟩)

set_option maxRecDepth 100000 in
set_option maxHeartbeats 1000000 in
theorem caught_bad (g : Nat) (cap : Array Value) (w : World) (R : World → Prop) (code at_ : Int) (hcf : ∀ w, (callFunc g cap).run Tryz.prog w = .ok (.enter g cap) w)
    (hw : Calls Tryz.prog g cap (w.alloc (.cells #[.int .i64 0, .int .i64 0] 32 (0, 0))) fun e w' => e = .panicked (stopC code at_) ∧ w'.heap[w.heap.size]? = some (.cells #[.int .i64 0, .int .i64 0] 32 (0, 0)) ∧ R w') :
    Calls Tryz.prog 47 #[.func (.func g) #[] cap] w fun e w' => e = .returned (.agg #[.int .i64 code, .int .i64 at_]) ∧ ∃ w1, R w1 ∧ Kept (· ≠ w.heap.size) w1 w' := by
  (have hmf : ∀ (fn : Fn) (first cap : Array Value) (w : World), (Instr.makeFunc fn first cap).run Tryz.prog w = .ok (.func fn first cap) w := fun _ _ _ _ => rfl); have HW : Hid (Calls Tryz.prog g cap _ _) := hw; clear hw
  go_enter_defers Tryz.func47, Tryz.ntmps47
  go_wp2_with fail; refine HW.out.mono ?_; rintro e w1 ⟨rfl, q1, hR⟩; (refine leaves_cons (f := 97) (args := #[.pointer (some ⟨w.heap.size, 0, none⟩)]) (by simp) (by simp [go_sem]) ?_); refine (catch_stop w.heap.size 0 0 code at_ _ q1).mono ?_; rintro e u' w'' ⟨rfl, rfl, q2, hk⟩; obtain ⟨g1, g2, g3, g4⟩ := blk2 q2; simp only [settle]; (exact ⟨.agg #[.int .i64 code, .int .i64 at_], by simp [results, Tryz.results47, go_sem, g1, g2], rfl, w1, hR, hk⟩)
end Go.Proofs.YtheiikkeelbjnajGreat
/- Walks: a whole reading; Parse. -/
namespace Go.Proofs.YtheiikkeelbjnajGreat
open Go.RowKit

/-- What a call leaves that was handed a new block of its own. -/
theorem Kept.past {w w' : World} {o : Obj} (h : Kept (· ≠ w.heap.size) (w.alloc o) w') : Kept (fun _ => True) w w' :=
  ⟨h.os, h.tape, h.output, by have := h.size; simp at this; omega, fun k hk _ => (h.block k (by simp; omega) (by omega)).trans (Below.heap_alloc _ _ _ hk)⟩

end Go.Proofs.YtheiikkeelbjnajGreat
/- Walks: Check's small steps. -/
namespace Go.Proofs.YtheiikkeelbjnajGreat
open Go.RowKit

theorem tup_ib {a a' : Int} {b b' : Bool} (h : a = a') (k : b = b') : Ending.returned (.tuple #[.int .i64 a, .bool b]) = .returned (.tuple #[.int .i64 a', .bool b']) := by rw [h, k]

set_option maxHeartbeats 1000000 in
theorem kidsOf_any (k : Int) (w : World) :
    Calls Tryz.prog 201 #[.int .i64 k] w fun e w' => e = .returned (.tuple #[.int .i64 (kidsN k), .bool (kindB k)]) ∧ w' = w := by
  go_enter Tryz.func201, Tryz.ntmps201
  go_wp2
  all_goals
    go_ret2; refine ⟨tup_ib ?_ ?_, rfl⟩
  all_goals
    simp only [beq_iff_eq, beq_eq_false_iff_ne, ne_eq] at *
    first
      | (subst_vars; decide)
      | (unfold kidsN; rw [if_neg (by omega), if_neg (by omega)])
      | (unfold kindB; simp; omega)

set_option maxHeartbeats 1000000 in
theorem node_kind (k at_ : Int) (n : ByteArray) (sl : Option Addr) (len cap : Nat) (w : World) (h : kindB k = false) :
    Calls Tryz.prog 188 #[.agg #[.int .i64 k, .string n, .slice sl len cap], .int .i64 at_] w fun e w' => e = .panicked (stopC 4 at_) ∧ Below w.heap.size w w' := by
  go_enter Tryz.func188, Tryz.ntmps188
  go_wp2_with (first
    | (go_at_call 201; refine (kidsOf_any k _).mono ?_; rintro e w1 ⟨rfl, rfl⟩)
    | (go_at_call 122; refine (stop_any _ _ _).mono ?_; rintro e w4 ⟨rfl, rfl⟩)
    | fail)
  exact ⟨rfl, rfl, (Below.refl _ _).alloc (Nat.le_refl _) _⟩

set_option maxHeartbeats 1000000 in
theorem node_size (k at_ : Int) (n : ByteArray) (sl : Option Addr) (len cap : Nat) (w : World) (h : kindB k = true) (h2 : (len : Int) ≠ kidsN k) :
    Calls Tryz.prog 188 #[.agg #[.int .i64 k, .string n, .slice sl len cap], .int .i64 at_] w fun e w' => e = .panicked (stopC 9 at_) ∧ Below w.heap.size w w' := by
  go_enter Tryz.func188, Tryz.ntmps188
  go_wp2_with (first
    | (go_at_call 201; refine (kidsOf_any k _).mono ?_; rintro e w1 ⟨rfl, rfl⟩)
    | (go_at_call 122; refine (stop_any _ _ _).mono ?_; rintro e w4 ⟨rfl, rfl⟩)
    | fail)
  exact ⟨rfl, rfl, (Below.refl _ _).alloc (Nat.le_refl _) _⟩

set_option maxHeartbeats 1000000 in
theorem node_name (k at_ : Int) (n : ByteArray) (hn : n.size ≤ maxLen) (sl : Option Addr) (len cap : Nat) (w : World) (h : kindB k = true) (h2 : (len : Int) = kidsN k) (h3 : nameB k n = true) :
    Calls Tryz.prog 188 #[.agg #[.int .i64 k, .string n, .slice sl len cap], .int .i64 at_] w fun e w' => e = .panicked (stopC 8 at_) ∧ Below w.heap.size w w' := by
  have hin := isName_any n hn; by_cases hk : k = 1
  · subst hk
    (have h4 : isNm n.data.toList = false := by simpa [nameB] using h3); rw [h4] at hin
    go_enter Tryz.func188, Tryz.ntmps188
    go_wp2_with (first
      | (go_at_call 201; refine (kidsOf_any 1 _).mono ?_; rintro e w1 ⟨rfl, rfl⟩)
      | (go_at_call 202; refine (hin _).mono ?_; rintro e w1 ⟨rfl, rfl⟩)
      | (go_at_call 122; refine (stop_any _ _ _).mono ?_; rintro e w4 ⟨rfl, rfl⟩)
      | fail)
    exact ⟨rfl, rfl, (Below.refl _ _).alloc (Nat.le_refl _) _⟩
  · have h4 : n.toList.isEmpty = false := by rw [ByteArray.toList_eq]; simpa [nameB, hk] using h3
    (have hk1 : (k == 1) = false := by simpa using hk); (have hk2 : (k != 1) = true := by simpa using hk)
    go_enter Tryz.func188, Tryz.ntmps188
    go_wp2_with (first
      | (go_at_call 201; refine (kidsOf_any k _).mono ?_; rintro e w1 ⟨rfl, rfl⟩)
      | (go_at_call 122; refine (stop_any _ _ _).mono ?_; rintro e w4 ⟨rfl, rfl⟩)
      | fail)
    exact ⟨rfl, rfl, (Below.refl _ _).alloc (Nat.le_refl _) _⟩

set_option maxHeartbeats 1000000 in
theorem node_fine (k at_ : Int) (n : ByteArray) (hn : n.size ≤ maxLen) (sl : Option Addr) (len cap : Nat) (w : World) (h : kindB k = true) (h2 : (len : Int) = kidsN k) (h3 : nameB k n = false) :
    Calls Tryz.prog 188 #[.agg #[.int .i64 k, .string n, .slice sl len cap], .int .i64 at_] w fun e w' => e = .returned (.tuple #[]) ∧ Below w.heap.size w w' := by
  have hin := isName_any n hn; by_cases hk : k = 1
  · subst hk
    (have h4 : isNm n.data.toList = true := by simpa [nameB] using h3); rw [h4] at hin
    go_enter Tryz.func188, Tryz.ntmps188
    go_wp2_with (first
      | (go_at_call 201; refine (kidsOf_any 1 _).mono ?_; rintro e w1 ⟨rfl, rfl⟩)
      | (go_at_call 202; refine (hin _).mono ?_; rintro e w1 ⟨rfl, rfl⟩)
      | fail)
    go_end0
    exact ⟨rfl, (Below.refl _ _).alloc (Nat.le_refl _) _⟩
  · have h4 : n.toList = [] := by rw [ByteArray.toList_eq]; simpa [nameB, hk] using h3
    (have hk1 : (k == 1) = false := by simpa using hk)
    go_enter Tryz.func188, Tryz.ntmps188
    go_wp2_with (first
      | (go_at_call 201; refine (kidsOf_any k _).mono ?_; rintro e w1 ⟨rfl, rfl⟩)
      | fail)
    go_end0
    exact ⟨rfl, (Below.refl _ _).alloc (Nat.le_refl _) _⟩

theorem nodeF_some {k : Int} {n : ByteArray} {len : Nat} {c : Int} (h : nodeF k n len = some c) (at_ : Int) (hn : n.size ≤ maxLen) (sl : Option Addr) (cap : Nat) (w : World) :
    Calls Tryz.prog 188 #[.agg #[.int .i64 k, .string n, .slice sl len cap], .int .i64 at_] w fun e w' => e = .panicked (stopC c at_) ∧ Below w.heap.size w w' := by
  unfold nodeF at h
  split at h
  · rename_i h1; cases h; exact node_kind k at_ n sl len cap w h1
  · rename_i h1
    (have h1 : kindB k = true := by simpa using h1)
    split at h
    · rename_i h2; cases h; exact node_size k at_ n sl len cap w h1 h2
    · rename_i h2
      (have h2 : (len : Int) = kidsN k := by simpa using h2)
      split at h
      · rename_i h3; cases h; exact node_name k at_ n hn sl len cap w h1 h2 h3
      · cases h

theorem nodeF_none {k : Int} {n : ByteArray} {len : Nat} (h : nodeF k n len = none) (at_ : Int) (hn : n.size ≤ maxLen) (sl : Option Addr) (cap : Nat) (w : World) :
    Calls Tryz.prog 188 #[.agg #[.int .i64 k, .string n, .slice sl len cap], .int .i64 at_] w fun e w' => e = .returned (.tuple #[]) ∧ Below w.heap.size w w' := by
  unfold nodeF at h
  split at h
  · cases h
  · rename_i h1
    (have h1 : kindB k = true := by simpa using h1)
    split at h
    · cases h
    · rename_i h2
      (have h2 : (len : Int) = kidsN k := by simpa using h2)
      split at h
      · cases h
      · rename_i h3
        (exact node_fine k at_ n hn sl len cap w h1 h2 (by simpa using h3))
end Go.Proofs.YtheiikkeelbjnajGreat
/- Walks: Check's recursion. -/
namespace Go.Proofs.YtheiikkeelbjnajGreat
open Go.RowKit

/-- The checker's block. -/
def RC (bc : Nat) (w : World) (s : Nat) : Prop := w.heap[bc]? = some (.cells #[.int .i64 s] 197 (0, 0))
theorem RC.lt {bc : Nat} {w : World} {s : Nat} (h : RC bc w s) : bc < w.heap.size := lt_of_block h
theorem RC.c0 {bc : Nat} {w : World} {s : Nat} (h : RC bc w s) : w.cell? ⟨bc, 0, none⟩ = some (.int .i64 s) := blk_cell h 0
theorem RC.fz {bc : Nat} {w : World} {s : Nat} (h : RC bc w s) : w.frozen? ⟨bc, 0, none⟩ = false := blk_fz h 0
theorem RC.alloc {bc : Nat} {w : World} {s : Nat} (h : RC bc w s) (o : Obj) : RC bc (w.alloc o) s := by
  unfold RC; rw [Below.heap_alloc _ _ _ h.lt]; exact h
theorem RC.set {bc : Nat} {w : World} {s : Nat} (h : RC bc w s) (s' : Nat) : RC bc (w.setCell ⟨bc, 0, none⟩ (.int .i64 s')) s' := by
  unfold RC at *; simp [World.setCell, Array.getElem?_modify, h]
theorem RC.below {bc : Nat} {w w' : World} {s : Nat} (h : RC bc w s) (hb : Below w.heap.size w w') : RC bc w' s := by
  unfold RC; rw [hb.block _ h.lt]; exact h

/-- What a look at a formula leaves. -/
def LPost (bc : Nat) : Chk → Ending → World → Prop
  | .ok s, e, w' => e = .returned (.tuple #[]) ∧ RC bc w' s
  | .bad c a, e, _ => e = .panicked (stopC c a)

def Looks (m : Nat) : Prop := ∀ (bc s : Nat) (f : Fm) (v : Value) (w : World), f.size < m → RC bc w s → s ≤ 200 → Rep w (· ≠ bc) f v →
  Calls Tryz.prog 146 #[.pointer (some ⟨bc, 0, none⟩), v] w fun e w' => Kept (· ≠ bc) w w' ∧ LPost bc (chk f s) e w'

theorem chks_drop {ks : List Fm} {i : Nat} {f : Fm} (h : ks[i]? = some f) (s : Nat) : chks (ks.drop i) s = match chk f s with | .bad c a => .bad c a | .ok s' => chks (ks.drop (i + 1)) s' := by
  have hi : i < ks.length := by
    rcases Nat.lt_or_ge i ks.length with h' | h'
    · exact h'
    · rw [List.getElem?_eq_none h'] at h; cases h
  rw [List.drop_eq_getElem_cons hi, chks]; rw [List.getElem?_eq_getElem hi] at h; rw [Option.some.inj h]
  cases chk f s <;> rfl

theorem sizes_get {ks : List Fm} {i : Nat} {f : Fm} (h : ks[i]? = some f) : f.size ≤ Fm.sizes ks := by
  induction ks generalizing i with
  | nil => simp at h
  | cons g gs ih =>
    cases i with
    | zero => simp at h; subst h; simp [Fm.sizes]
    | succ i => have := ih (i := i) (by simpa using h); simp [Fm.sizes]; omega

set_option maxHeartbeats 2000000 in
theorem look_step (m : Nat) (ih : Looks m) : Looks (m + 1) := by
  intro bc s f v w hm hc hs hrep; obtain ⟨k, n, ks⟩ := f; obtain ⟨sl, cap, rfl, hx1, hx2, hx3, hx4⟩ := Rep.def.1 hrep; have f0 := hc.c0; have f1 := hc.fz; have z0 := hc.lt; by_cases h200 : s = 200
  · subst h200
    go_enter Tryz.func146, Tryz.ntmps146
    go_wp2_with (first
      | (go_at_call 122; refine (stop_any _ _ _).mono ?_; rintro e w4 ⟨rfl, rfl⟩)
      | fail)
    refine ⟨rfl, (Kept.refl _ _).alloc _, ?_⟩; simp only [chk, if_true, LPost]; rfl
  · have hs1 : ((s : Int) == 200) = false := by simp; omega
    (have hs2 : (s : Int) ≤ 200 := by omega)
    rcases hnf : nodeF k n ks.length with _ | c
    · have hchk : chk (.mk k n ks) s = chks ks (s + 1) := by rw [chk, if_neg h200, hnf]
      rw [hchk]; have HX : Hid (ks ≠ [] → ∃ b off, sl = some ⟨b, off, none⟩ ∧ b ≠ bc ∧ Reps w (· ≠ bc) b off ks) := hx4; clear hx4; (have hlen : ((ks.length : Nat) : Int) ≤ 9223372036854775807 := by unfold maxLen at hx3; omega)
      go_enter Tryz.func146, Tryz.ntmps146
      go_wp2_with (first
        | (go_at_call 188
           refine (nodeF_none hnf _ hx1 _ _ _).mono ?_; rintro e w4 ⟨rfl, hb⟩
           have q4 : w4.heap[w.heap.size]? = some (.cells #[.int .i64 k, .string n, .slice sl ks.length cap] 138 (0, 0)) := by
             (rw [hb.block _ (by simp [World.setCell])]); have := blk_new (w.setCell ⟨bc, 0, none⟩ (.int .i64 (s + 1))) (.cells #[.int .i64 k, .string n, .slice sl ks.length cap] 138 (0, 0)); simpa [World.setCell] using this
           have f2 := blk_cell q4 2
           simp at f2)
        | fail)
      have hc4 : RC bc w4 (s + 1) := ((hc.set (s + 1)).alloc _).below hb; (have hk4 : Kept (· ≠ bc) w w4 := (((Kept.refl _ _).setCell (by simp) _).alloc _).trans (kept_of_below hb (fun _ h _ => h))); clear f0 f1 f2 hb
      go_loopg [27] ks.length (fun g v wr => ∃ i s', i ≤ ks.length ∧ g = ks.length - i ∧ v = .int .i64 (i : Nat) ∧ s' ≤ 200 ∧ RC bc wr s' ∧ Kept (· ≠ bc) w wr ∧ Hid (chks (ks.drop i) s' = chks ks (s + 1)))
      case atStart => exact ⟨0, s + 1, by omega, by omega, rfl, by omega, hc4, hk4, by show _ = _; simp⟩
      case round =>
        obtain ⟨i, s', hi, hg, rfl, hs', hcr, hkr, HC⟩ := hrel; have HG : Hid (gk = ks.length - i) := hg; clear hg hc4 hk4 q4; by_cases hlt : i < ks.length
        · obtain ⟨b, off, hsl, hb, hrs⟩ := HX.out (fun e => by rw [e] at hlt; simp at hlt)
          subst hsl; obtain ⟨⟨k2, n2, ks2⟩, hki⟩ : ∃ f, ks[i]? = some f := ⟨_, List.getElem?_eq_getElem hlt⟩; obtain ⟨sl2, cap2, g0, g1, g2, hrep2⟩ := (hrs.kept hb hkr).at i k2 n2 ks2 hki; (have hlt2 : (i : Int) < (ks.length : Int) := by omega); have hds := HC.out; rw [chks_drop hki] at hds; (have hsz : (Fm.mk k2 n2 ks2).size < m := by have := sizes_get hki; rw [Fm.size] at hm; omega); (have HI : Hid (∀ w, RC bc w s' → Rep w (· ≠ bc) (.mk k2 n2 ks2) (.agg #[.int .i64 k2, .string n2, .slice sl2 ks2.length cap2]) → Calls Tryz.prog 146 #[.pointer (some ⟨bc, 0, none⟩), .agg #[.int .i64 k2, .string n2, .slice sl2 ks2.length cap2]] w fun e w' => Kept (· ≠ bc) w w' ∧ LPost bc (chk (.mk k2 n2 ks2) s') e w') := fun w h1 h2 => ih bc s' _ _ w hsz h1 hs' h2); have HK : Hid (ks[i]? = some (.mk k2 n2 ks2)) := hki; clear hki hrs hrep HX HC hnf hchk
          rcases hck : chk (.mk k2 n2 ks2) s' with s2 | ⟨c, a⟩
          · rw [hck] at hds HI
            simp only at hds; have HD : Hid (chks (ks.drop (i + 1)) s2 = chks ks (s + 1)) := hds; have hs2' := (chk_le _ _ _ hck hs').1; clear hds hck
            go_wp2_with (first
              | (go_at_call 146
                 refine (HI.out _ (hcr.alloc _) (hrep2.kept ((Kept.refl _ _).alloc _))).mono ?_
                 rintro e w5 ⟨hk5, rfl, hc5⟩)
              | fail)
            go_roundg (ks.length - (i + 1))
            case measure => have := HG.out; omega
            case rel => exact ⟨i + 1, s2, by omega, rfl, by go_num, hs2', hc5, (hkr.alloc _).trans hk5, HD⟩
          · rw [hck] at hds HI
            simp only at hds; have HD : Hid (Chk.bad c a = chks ks (s + 1)) := hds; clear hds hck
            go_wp2_with (first
              | (go_at_call 146
                 refine (HI.out _ (hcr.alloc _) (hrep2.kept ((Kept.refl _ _).alloc _))).mono ?_; rintro e w5 ⟨hk5, he5⟩
                 obtain rfl : e = _ := he5)
              | fail)
            (exact ⟨rfl, (hkr.alloc _).trans hk5, by rw [← HD.out]; rfl⟩)
        · go_wp2_with fail
          go_end0
          refine ⟨hkr, ?_⟩; (rw [← HC.out, List.drop_of_length_le (by omega), chks]); exact ⟨rfl, hcr⟩
    · go_enter Tryz.func146, Tryz.ntmps146
      go_wp2_with (first
        | (go_at_call 188
           refine (nodeF_some hnf _ hx1 _ _ _).mono ?_
           rintro e w4 ⟨rfl, hb⟩)
        | fail)
      (refine ⟨rfl, (((Kept.refl _ _).setCell (by simp) _).alloc _).trans (kept_of_below hb (fun _ h _ => h)), ?_⟩); rw [chk, if_neg h200, hnf]; rfl
end Go.Proofs.YtheiikkeelbjnajGreat
/- Walks: Check. -/
namespace Go.Proofs.YtheiikkeelbjnajGreat
open Go.RowKit

theorem looks_all : ∀ m, Looks m
  | 0 => fun _ _ _ _ _ h => absurd h (Nat.not_lt_zero _)
  | m + 1 => look_step m (looks_all m)

theorem check1_in (cap : Array Value) (w : World) : (callFunc 145 cap).run Tryz.prog w = .ok (.enter 145 cap) w := by
  simp [go_sem]

set_option maxHeartbeats 1000000 in
theorem check1_any (bf : Nat) (k : Int) (n : ByteArray) (ks : List Fm) (sl : Option Addr) (cap : Nat) (w : World) (q0 : w.heap[bf]? = some (.cells #[.int .i64 k, .string n, .slice sl ks.length cap] 138 (0, 0)))
    (hrep : Rep w (fun _ => True) (.mk k n ks) (.agg #[.int .i64 k, .string n, .slice sl ks.length cap])) (x : Chk) (hx : chk (.mk k n ks) 0 = x) :
    Calls Tryz.prog 145 #[.pointer (some ⟨bf, 0, none⟩)] w fun e w' => Kept (fun _ => True) w w' ∧ match x with
      | .ok _ => e = .returned (.tuple #[])
      | .bad c a => e = .panicked (stopC c a) := by
  obtain ⟨g1, g2, g3, g4, g5, g6⟩ := blk3 q0; have z0 := lt_of_block q0
  have hl := looks_all ((Fm.mk k n ks).size + 1) w.heap.size 0 (.mk k n ks) (.agg #[.int .i64 k, .string n, .slice sl ks.length cap]) (w.alloc (.cells #[.int .i64 0] 197 (0, 0))) (Nat.lt_succ_self _) (blk_new _ _) (by omega)
    (hrep.move fun b hb _ => ⟨Below.heap_alloc _ _ _ hb, by omega⟩)
  rw [hx] at hl; have HL : Hid (Calls Tryz.prog 146 _ _ _) := hl; clear hl hrep
  cases x with
  | ok s =>
    go_enter Tryz.func145, Tryz.ntmps145
    go_wp2_with (first
      | (go_at_call 146
         refine HL.out.mono ?_
         rintro e w1 ⟨hk1, rfl, -⟩)
      | fail)
    go_end0
    exact ⟨hk1.past, rfl⟩
  | bad c a =>
    go_enter Tryz.func145, Tryz.ntmps145
    go_wp2_with (first
      | (go_at_call 146
         refine HL.out.mono ?_; rintro e w1 ⟨hk1, he⟩
         obtain rfl : e = _ := he)
      | fail)
    exact ⟨rfl, hk1.past, rfl⟩

theorem two_new {w : World} {o0 o1 o2 : Obj} : (((w.alloc o0).alloc o1).alloc o2).heap[w.heap.size]? = some o0 ∧ (((w.alloc o0).alloc o1).alloc o2).heap[w.heap.size + 1]? = some o1 := by
  (have e1 : (w.alloc o0).heap.size = w.heap.size + 1 := by simp); (have e2 : ((w.alloc o0).alloc o1).heap.size = w.heap.size + 2 := by simp); refine ⟨?_, ?_⟩
  · rw [Below.heap_alloc _ _ _ (by omega), Below.heap_alloc _ _ _ (by omega)]; exact blk_new _ _
  · rw [Below.heap_alloc _ _ _ (by omega), ← e1]; exact blk_new _ _

set_option maxHeartbeats 1000000 in
theorem check_any (f : Fm) (v : Value) (w : World) (hrep : Rep w (fun _ => True) f v) :
    Calls Tryz.prog 96 #[v] w fun e w' => e = .returned (.agg #[.int .i64 f.code.1, .int .i64 f.code.2]) ∧ Below w.heap.size w w' := by
  obtain ⟨k, n, ks⟩ := f; obtain ⟨sl, cap, rfl, hx1, hx2, hx3, hx4⟩ := Rep.def.1 hrep; clear hx4; (have hmf : ∀ (fn : Fn) (first cap : Array Value) (w : World), (Instr.makeFunc fn first cap).run Tryz.prog w = .ok (.func fn first cap) w := fun _ _ _ _ => rfl)
  rcases hx : chk (.mk k n ks) 0 with s | ⟨c, a⟩
  · have hcode : (Fm.mk k n ks).code = (0, 0) := by simp only [Fm.code, hx]
    rw [hcode]
    go_enter Tryz.func96, Tryz.ntmps96
    go_wp2_with (first
      | (go_at_call 47
         (refine (caught_ok 145 _ _ (fun w1 => w1.heap[w.heap.size + 1]? = some (.cells #[.int .i64 0, .int .i64 0] 32 (0, 0)) ∧ Below w.heap.size w w1) (check1_in _) ?_).mono ?_)
         · refine (check1_any w.heap.size k n ks sl cap _ two_new.1 (hrep.move fun b hb _ => ⟨by rw [Below.heap_alloc _ _ _ (by simp; omega), Below.heap_alloc _ _ _ (by simp; omega), Below.heap_alloc _ _ _ hb], trivial⟩) _ hx).mono ?_
           rintro e w1 ⟨hk, rfl⟩; (exact ⟨rfl, (hk.block _ (by simp) trivial).trans (blk_new _ _), (hk.block _ (by simp) trivial).trans two_new.2, ((((Kept.refl _ w).alloc _).alloc _).alloc _ |>.trans hk).below (Nat.le_refl _) (fun _ _ => trivial)⟩)
         rintro e w2 ⟨rfl, w1, ⟨q1, hb1⟩, hk2⟩; have z1 := lt_of_block q1; (have q3 := (hk2.block _ z1 (by simp)).trans q1)
         obtain ⟨k1, k2, k3, k4⟩ := blk2 q3)
      | fail)
    have hz := hb1.size; have hz2 := hk2.size; (have b1 : Below w.heap.size w w2 := ((kept_of_below (ok := fun k => k < w.heap.size) hb1 (fun _ _ h => h)).trans (hk2.mono (fun k _ h => by simp; omega))).below (Nat.le_refl _) (fun _ h => h)); have f2 := set2 q3 (.int .i64 0) (.int .i64 0); (have b2 := (b1.setCell (p := ⟨w.heap.size + 1, 0, none⟩) (by simp) (.int .i64 0)).setCell (p := ⟨w.heap.size + 1, 1, none⟩) (by simp) (.int .i64 0)); generalize World.setCell _ _ _ = F at f2 b2 ⊢; clear k1 k2 k3 k4; obtain ⟨k1, k2, -⟩ := blk2 f2; (exact bodyPost_ret (v := .agg #[.int .i64 0, .int .i64 0]) (by simp [results, Tryz.results96, go_sem, k1, k2]) rfl ⟨rfl, b2⟩)
  · have hcode : (Fm.mk k n ks).code = (c, (a : Int)) := by simp only [Fm.code, hx]
    rw [hcode]
    go_enter Tryz.func96, Tryz.ntmps96
    go_wp2_with (first
      | (go_at_call 47
         (refine (caught_bad 145 _ _ (fun w1 => w1.heap[w.heap.size + 1]? = some (.cells #[.int .i64 0, .int .i64 0] 32 (0, 0)) ∧ Below w.heap.size w w1) c a (check1_in _) ?_).mono ?_)
         · refine (check1_any w.heap.size k n ks sl cap _ two_new.1 (hrep.move fun b hb _ => ⟨by rw [Below.heap_alloc _ _ _ (by simp; omega), Below.heap_alloc _ _ _ (by simp; omega), Below.heap_alloc _ _ _ hb], trivial⟩) _ hx).mono ?_
           rintro e w1 ⟨hk, rfl⟩; (exact ⟨rfl, (hk.block _ (by simp) trivial).trans (blk_new _ _), (hk.block _ (by simp) trivial).trans two_new.2, ((((Kept.refl _ w).alloc _).alloc _).alloc _ |>.trans hk).below (Nat.le_refl _) (fun _ _ => trivial)⟩)
         rintro e w2 ⟨rfl, w1, ⟨q1, hb1⟩, hk2⟩; have z1 := lt_of_block q1; (have q3 := (hk2.block _ z1 (by simp)).trans q1)
         obtain ⟨k1, k2, k3, k4⟩ := blk2 q3)
      | fail)
    have hz := hb1.size; have hz2 := hk2.size; (have b1 : Below w.heap.size w w2 := ((kept_of_below (ok := fun k => k < w.heap.size) hb1 (fun _ _ h => h)).trans (hk2.mono (fun k _ h => by simp; omega))).below (Nat.le_refl _) (fun _ h => h)); have f2 := set2 q3 (.int .i64 c) (.int .i64 a); (have b2 := (b1.setCell (p := ⟨w.heap.size + 1, 0, none⟩) (by simp) (.int .i64 c)).setCell (p := ⟨w.heap.size + 1, 1, none⟩) (by simp) (.int .i64 a)); generalize World.setCell _ _ _ = F at f2 b2 ⊢; clear k1 k2 k3 k4; obtain ⟨k1, k2, -⟩ := blk2 f2; (exact bodyPost_ret (v := .agg #[.int .i64 c, .int .i64 a]) (by simp [results, Tryz.results96, go_sem, k1, k2]) rfl ⟨rfl, b2⟩)
end Go.Proofs.YtheiikkeelbjnajGreat
