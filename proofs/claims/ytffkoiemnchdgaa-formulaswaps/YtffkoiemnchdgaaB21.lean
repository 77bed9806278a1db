/- Texts of one proof, one behind the other: Count1. -/
import Derived.Test.YtffkoiemnchdgaaB19
/- Walks: how many nodes there are. -/
namespace Go.Proofs.Ytffkoiemnchdgaa
open Go.RowKit

def hasN (nm : ByteArray) : Fm → Bool
  | .mk k n _ => decide (k = 1) && decide (n.data.toList = nm.data.toList)

set_option maxHeartbeats 1000000 in
theorem hasName_any (f : Fm) (v : Value) (nm : ByteArray) (w : World) (hrep : Rep w (fun _ => True) f v) :
    Calls Try.prog 93 #[v, .string nm] w fun e w' => e = .returned (.bool (hasN nm f)) ∧ Below w.heap.size w w' := by
  obtain ⟨k, n, ks⟩ := f; obtain ⟨sl, cap, rfl⟩ := slice_shape hrep; have B := (Below.refl w.heap.size w).alloc (Nat.le_refl _); clear hrep; by_cases h1 : k = 1
  · subst h1
    by_cases h2 : n.data.toList = nm.data.toList
    · have h3 : n = nm := by apply ByteArray.ext; apply Array.ext'; exact h2
      subst h3; (have e : hasN n (.mk 1 n ks) = true := by simp [hasN]); rw [e]; clear h2 e
      go_enter Try.func93, Try.ntmps93
      go_wp2_with fail; go_ret; exact ⟨rfl, B _⟩
    · have e : hasN nm (.mk 1 n ks) = false := by simp [hasN, h2]
      rw [e]; (have h3 : (n.toList == nm.toList) = false := by rw [ByteArray.toList_eq, ByteArray.toList_eq]; simpa using h2); clear h2 e
      go_enter Try.func93, Try.ntmps93
      go_wp2_with fail; go_ret; exact ⟨rfl, B _⟩
  · have e : hasN nm (.mk k n ks) = false := by simp [hasN, h1]
    rw [e]; (have h3 : (k == 1) = false := by simpa using h1); clear e
    go_enter Try.func93, Try.ntmps93
    go_wp2_with fail; go_ret; exact ⟨rfl, B _⟩

def InvC (cb : Nat) (done : List Fm) (ob : Option Nat) (w : World) : Prop := ob = none ∧ w.heap[cb]? = some (.cells #[.int .i64 (done.length : Nat)] 3 (0, 0))

theorem blk1 {w : World} {b : Nat} {c0 : Value} {T : TypeId} (h : w.heap[b]? = some (.cells #[c0] T (0, 0))) : w.cell? ⟨b, 0, none⟩ = some c0 ∧ w.frozen? ⟨b, 0, none⟩ = false := ⟨blk_cell h 0, blk_fz h 0⟩
theorem set1 {w : World} {b : Nat} {c0 : Value} {T : TypeId} (h : w.heap[b]? = some (.cells #[c0] T (0, 0))) (v : Value) : (w.setCell ⟨b, 0, none⟩ v).heap[b]? = some (.cells #[v] T (0, 0)) := by
  simp [World.setCell, Array.getElem?_modify, h]

set_option maxHeartbeats 1000000 in
theorem size1_any (cb l : Nat) (hl : l < 200) (f : Fm) (v : Value) (w : World) (hrep : Rep w (fun _ => True) f v) (h : w.heap[cb]? = some (.cells #[.int .i64 (l : Nat)] 3 (0, 0))) :
    Calls Try.prog 94 #[v, .pointer (some ⟨cb, 0, none⟩)] w fun e w' => e = .returned (.tuple #[]) ∧ w'.heap[cb]? = some (.cells #[.int .i64 ((l + 1 : Nat) : Int)] 3 (0, 0)) ∧ Kept (fun b => b ≠ cb) w w' := by
  obtain ⟨k, n, ks⟩ := f; obtain ⟨sl, cap, rfl⟩ := slice_shape hrep; clear hrep; have q := alloc_keep h (.cells #[.int .i64 k, .string n, .slice sl ks.length cap] 24 (0, 0)); (have K := (Kept.refl (fun b => b ≠ cb) w).alloc (.cells #[.int .i64 k, .string n, .slice sl ks.length cap] 24 (0, 0))); (have hlI : (l : Int) < 200 := by omega); obtain ⟨c0, c1⟩ := blk1 q; have z := lt_of_block h
  go_enter Try.func94, Try.ntmps94
  go_wp2_with fail
  go_end0
  have hq := alloc_keep (set1 h (.int .i64 ((l : Int) + 1))) (.cells #[.int .i64 k, .string n, .slice sl ks.length cap] 24 (0, 0)); (refine ⟨rfl, ?_, ((Kept.refl _ w).setCell (by simp) _).alloc _⟩); (rw [show ((l + 1 : Nat) : Int) = (l : Int) + 1 by omega]); exact hq

theorem size1_in (cap : Array Value) (w : World) : (callFunc 94 cap).run Try.prog w = .ok (.enter 94 cap) w := by
  simp [go_sem]

theorem size_visit (B cb : Nat) (h : B ≤ cb) : Visit 94 #[.pointer (some ⟨cb, 0, none⟩)] B cb (InvC cb) where
  hB := h
  lt := fun h => ⟨lt_of_block h.2, fun g e => by rw [h.1] at e; cases e⟩
  alloc := fun o h => ⟨h.1, alloc_keep h.2 o⟩
  ent := fun v w => size1_in _ w
  call := fun done ob f v w hl _ hrep hi => by
    refine (size1_any cb done.length hl f v w hrep.all hi.2).mono ?_; rintro e w' ⟨rfl, hq, hk⟩; (refine ⟨rfl, none, ⟨rfl, ?_⟩, hk.mono (fun _ _ h => h.1), Or.inl hi.1.symm⟩); rw [List.length_append]; exact hq

set_option maxHeartbeats 1000000 in
theorem size_any (f : Fm) (v : Value) (w : World) (hs : f.size ≤ 200) (hf : Fine f) (hrep : Rep w (fun _ => True) f v) :
    Calls Try.prog 62 #[v] w fun e w' => e = .returned (.int .i64 (f.size : Nat)) ∧ Below w.heap.size w w' := by
  (have hv := size_visit w.heap.size (w.heap.size + 1) (by omega)); (have hea := fun v wx h hi => each_any hv none f v wx hs hf h hi); have hfl := allN_len f; (have hm := hrep.move (ok' := (· < w.heap.size)) fun b hb _ => ⟨rfl, hb⟩); obtain ⟨k, n, ks⟩ := f; obtain ⟨sl, cap, rfl⟩ := slice_shape hrep; have HE : Hid (∀ v wx, _ → _ → Calls Try.prog 52 _ wx _) := hea; have HL : Hid ((allN (.mk k n ks)).length = (Fm.mk k n ks).size) := hfl; have HM : Hid (Rep w (· < w.heap.size) (.mk k n ks) (.agg #[.int .i64 k, .string n, .slice sl ks.length cap])) := hm; (have hmf : ∀ (fn : Fn) (first cap : Array Value) (w : World), (Instr.makeFunc fn first cap).run Try.prog w = .ok (.func fn first cap) w := fun _ _ _ _ => rfl); clear hea hv hrep hm hfl
  go_enter Try.func62, Try.ntmps62
  go_wp2_with (first
    | (go_at_call 52
       (refine (HE.out _ _ (HM.out.move fun b hb hok => ⟨by rw [Below.heap_alloc _ _ _ (by simp; omega), Below.heap_alloc _ _ _ hb], hok⟩) ⟨rfl, ?_⟩).mono ?_)
       · have := blk_new (w.alloc (.cells #[.int .i64 k, .string n, .slice sl ks.length cap] 24 (0, 0))) (.cells #[.int .i64 0] 3 (0, 0))
         simpa using this
       rintro e w1 ⟨rfl, ob', ⟨rfl, hq⟩, hk, -⟩; rw [HL.out] at hq; obtain ⟨c0, c1⟩ := blk1 hq
       have B1 : Below w.heap.size w w1 := ((((Kept.refl _ w).alloc _).alloc _).trans (hk.mono (ok' := fun b => b < w.heap.size) fun b _ h => ⟨by omega, by simp⟩)).below (Nat.le_refl _) (fun _ h => h))
    | fail)
  go_ret; exact ⟨rfl, B1⟩

/-! With a formula of s nodes for a name. -/
def cntW (nm : ByteArray) (s : Nat) : List Fm → Nat
  | [] => 0
  | f :: fs => (if hasN nm f = true then s else 1) + cntW nm s fs
theorem cntW_append (nm : ByteArray) (s : Nat) : ∀ a b : List Fm, cntW nm s (a ++ b) = cntW nm s a + cntW nm s b
  | [], b => by simp [cntW]
  | x :: a, b => by simp only [List.cons_append, cntW, cntW_append nm s a b]; omega
theorem cntW_le (nm : ByteArray) (s : Nat) : ∀ a : List Fm, cntW nm s a ≤ a.length * (s + 1)
  | [] => by simp [cntW]
  | x :: a => by
    have := cntW_le nm s a; simp only [cntW, List.length_cons, Nat.add_mul, Nat.one_mul]
    split <;> omega

def InvW (nm : ByteArray) (s nb cb sb : Nat) (done : List Fm) (ob : Option Nat) (w : World) : Prop := ob = none ∧ w.heap[nb]? = some (.cells #[.string nm] 9 (0, 0)) ∧ w.heap[cb]? = some (.cells #[.int .i64 (cntW nm s done : Nat)] 3 (0, 0)) ∧ w.heap[sb]? = some (.cells #[.int .i64 (s : Nat)] 3 (0, 0))

set_option maxHeartbeats 1000000 in
theorem sizeW1_any (nm : ByteArray) (s nb cb sb l : Nat) (hl : l ≤ 100000) (hs : s ≤ 1000) (f : Fm) (v : Value) (w : World) (hrep : Rep w (fun _ => True) f v) (h0 : w.heap[nb]? = some (.cells #[.string nm] 9 (0, 0))) (h1 : w.heap[cb]? = some (.cells #[.int .i64 (l : Nat)] 3 (0, 0))) (h2 : w.heap[sb]? = some (.cells #[.int .i64 (s : Nat)] 3 (0, 0))) :
    Calls Try.prog 92 #[v, .pointer (some ⟨nb, 0, none⟩), .pointer (some ⟨cb, 0, none⟩), .pointer (some ⟨sb, 0, none⟩)] w fun e w' => e = .returned (.tuple #[]) ∧ w'.heap[cb]? = some (.cells #[.int .i64 ((l + (if hasN nm f = true then s else 1) : Nat) : Int)] 3 (0, 0)) ∧ Kept (fun b => b ≠ cb) w w' := by
  (have hh := fun v w h => hasName_any f v nm w h)
  rcases hb : hasN nm f with _ | _
  · rw [hb] at hh
    obtain ⟨k, n, ks⟩ := f; obtain ⟨sl, cap, rfl⟩ := slice_shape hrep; have HH : Hid (∀ v w, _ → Calls Try.prog 93 _ w _) := hh; (have hlI : (l : Int) ≤ 100000 := by omega); (have hlJ : (s : Int) ≤ 1000 := by omega); clear hh hb; have k0 := alloc_keep h0 (.cells #[.int .i64 k, .string n, .slice sl ks.length cap] 24 (0, 0)); obtain ⟨c0, -⟩ := blk1 k0; have z0 := lt_of_block h0
    go_enter Try.func92, Try.ntmps92
    go_wp2_with (first
      | (go_at_call 93
         refine (HH.out _ _ (hrep.more _)).mono ?_; rintro e w1 ⟨rfl, hb1⟩; have k1 := below_keep hb1 (alloc_keep h1 _)
         obtain ⟨c1, c2⟩ := blk1 k1)
      | fail)
    go_end0
    (refine ⟨rfl, ?_, (((Kept.refl _ w).alloc _).trans (kept_of_below hb1 fun _ h _ => h)).setCell (by simp) _⟩); exact set1 k1 _
  · rw [hb] at hh
    obtain ⟨k, n, ks⟩ := f; obtain ⟨sl, cap, rfl⟩ := slice_shape hrep; have HH : Hid (∀ v w, _ → Calls Try.prog 93 _ w _) := hh; (have hlI : (l : Int) ≤ 100000 := by omega); (have hlJ : (s : Int) ≤ 1000 := by omega); clear hh hb; have k0 := alloc_keep h0 (.cells #[.int .i64 k, .string n, .slice sl ks.length cap] 24 (0, 0)); obtain ⟨c0, -⟩ := blk1 k0; have z0 := lt_of_block h0
    go_enter Try.func92, Try.ntmps92
    go_wp2_with (first
      | (go_at_call 93
         refine (HH.out _ _ (hrep.more _)).mono ?_; rintro e w1 ⟨rfl, hb1⟩; have k1 := below_keep hb1 (alloc_keep h1 _); obtain ⟨c1, c2⟩ := blk1 k1; have k2 := below_keep hb1 (alloc_keep h2 _)
         obtain ⟨c3, -⟩ := blk1 k2)
      | fail)
    go_end0
    (refine ⟨rfl, ?_, (((Kept.refl _ w).alloc _).trans (kept_of_below hb1 fun _ h _ => h)).setCell (by simp) _⟩); exact set1 k1 _

theorem sizeW1_in (cap : Array Value) (w : World) : (callFunc 92 cap).run Try.prog w = .ok (.enter 92 cap) w := by
  simp [go_sem]

theorem sizeW_visit (nm : ByteArray) (s : Nat) (hs : s ≤ 200) (B nb cb sb : Nat) (h : B ≤ cb) (h1 : nb ≠ cb) (h2 : sb ≠ cb) : Visit 92 #[.pointer (some ⟨nb, 0, none⟩), .pointer (some ⟨cb, 0, none⟩), .pointer (some ⟨sb, 0, none⟩)] B cb (InvW nm s nb cb sb) where
  hB := h
  lt := fun h => ⟨lt_of_block h.2.2.1, fun g e => by rw [h.1] at e; cases e⟩
  alloc := fun o h => ⟨h.1, alloc_keep h.2.1 o, alloc_keep h.2.2.1 o, alloc_keep h.2.2.2 o⟩
  ent := fun v w => sizeW1_in _ w
  call := fun done ob f v w hl _ hrep hi => by
    have hle := cntW_le nm s done; (have hle2 : done.length * (s + 1) ≤ 200 * 201 := Nat.mul_le_mul (by omega) (by omega)); (refine (sizeW1_any nm s nb cb sb (cntW nm s done) (by omega) (by omega) f v w hrep.all hi.2.1 hi.2.2.1 hi.2.2.2).mono ?_); rintro e w' ⟨rfl, hq, hk⟩; (refine ⟨rfl, none, ⟨rfl, (hk.block _ (lt_of_block hi.2.1) h1).trans hi.2.1, ?_, (hk.block _ (lt_of_block hi.2.2.2) h2).trans hi.2.2.2⟩, hk.mono (fun _ _ h => h.1), Or.inl hi.1.symm⟩); (rw [cntW_append, show cntW nm s [f] = (if hasN nm f = true then s else 1) by simp [cntW]]); exact hq

set_option maxHeartbeats 1000000 in
theorem sizeW_any (f : Fm) (v : Value) (nm : ByteArray) (s : Nat) (hs2 : s ≤ 200) (w : World) (hs : f.size ≤ 200) (hf : Fine f) (hrep : Rep w (fun _ => True) f v) :
    Calls Try.prog 61 #[v, .string nm, .int .i64 (s : Nat)] w fun e w' => e = .returned (.int .i64 (cntW nm s (allN f) : Nat)) ∧ Below w.heap.size w w' := by
  (have hv := sizeW_visit nm s hs2 w.heap.size (w.heap.size + 1) (w.heap.size + 1 + 1 + 1) (w.heap.size + 1 + 1) (by omega) (by omega) (by omega)); (have hea := fun v wx h hi => each_any hv none f v wx hs hf h hi); (have hm := hrep.move (ok' := (· < w.heap.size)) fun b hb _ => ⟨rfl, hb⟩); obtain ⟨k, n, ks⟩ := f; obtain ⟨sl, cap, rfl⟩ := slice_shape hrep; have HE : Hid (∀ v wx, _ → _ → Calls Try.prog 52 _ wx _) := hea; have HM : Hid (Rep w (· < w.heap.size) (.mk k n ks) (.agg #[.int .i64 k, .string n, .slice sl ks.length cap])) := hm; (have hmf : ∀ (fn : Fn) (first cap : Array Value) (w : World), (Instr.makeFunc fn first cap).run Try.prog w = .ok (.func fn first cap) w := fun _ _ _ _ => rfl); clear hea hv hrep hm; generalize allN (.mk k n ks) = nodes at *; generalize hcn : cntW nm s nodes = cn; have HCn : Hid (cntW nm s nodes = cn) := hcn; clear hcn; have N0 := (three (w := w) (o0 := .cells #[.int .i64 k, .string n, .slice sl ks.length cap] 24 (0, 0)) (o1 := .cells #[.string nm] 9 (0, 0)) (o2 := .cells #[.int .i64 (s : Nat)] 3 (0, 0)) (o3 := .cells #[.int .i64 0] 3 (0, 0)))
  go_enter Try.func61, Try.ntmps61
  go_wp2_with (first
    | (go_at_call 52
       (refine (HE.out _ _ (HM.out.move fun b hb hok => ⟨by rw [Below.heap_alloc _ _ _ (by simp; omega), Below.heap_alloc _ _ _ (by simp; omega), Below.heap_alloc _ _ _ (by simp; omega), Below.heap_alloc _ _ _ hb], hok⟩) ⟨rfl, N0.2.1, N0.2.2.2, N0.2.2.1⟩).mono ?_); rintro e w1 ⟨rfl, ob', ⟨rfl, -, hq, -⟩, hk, -⟩; rw [HCn.out] at hq; obtain ⟨c0, c1⟩ := blk1 hq
       have B1 : Below w.heap.size w w1 := ((((((Kept.refl _ w).alloc _).alloc _).alloc _).alloc _).trans (hk.mono (ok' := fun b => b < w.heap.size) fun b _ h => ⟨by omega, by simp⟩)).below (Nat.le_refl _) (fun _ h => h))
    | fail)
  go_ret; exact ⟨rfl, B1⟩
end Go.Proofs.Ytffkoiemnchdgaa
