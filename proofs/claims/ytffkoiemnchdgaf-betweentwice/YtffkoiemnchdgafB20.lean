/- Texts of one proof, one behind the other: Tr4, Tr5. -/
import Derived.Test.YtffkoiemnchdgafB16
import Derived.Test.YtffkoiemnchdgafB12
import Derived.Laws.BitsLemmas
import Derived.Deep.RegionHeld3
/- Walks: digits of a row; what Value and column ask of names. -/
namespace Go.Proofs.Ytffkoiemnchdgaf
open Go.RowKit Go.Maps Go.WideMaps

/-- What Value asks. -/
def OkV (cb : Nat) (l : List (List UInt8)) (w : World) : Prop := ∃ b, w.heap[cb]? = some (.cells #[.map (some b)] 150 (0, 0)) ∧ PM w b l

theorem PM.up {w w' : World} {b : Nat} {l : List (List UInt8)} (h : PM w b l) (hb : Below w.heap.size w w') : PM w' b l := by
  obtain ⟨n, D, hown, h1, h2, h3⟩ := h; refine ⟨n, D, ?_, h1, h2, h3⟩; obtain ⟨es, clock, he, r⟩ := hown; exact ⟨es, clock, below_keep hb he, r⟩

set_option maxHeartbeats 1000000 in
theorem value1_any (cb : Nat) (l : List (List UInt8)) (n : ByteArray) (w : World) (hok : OkV cb l w) (hn : n.size ≤ 8) :
    Calls Try.prog 101 (#[.string n] ++ #[.pointer (some ⟨cb, 0, none⟩)]) w fun e w' => e = .returned (.bool (decide (n.data.toList ∈ l))) ∧ Below w.heap.size w w' := by
  obtain ⟨b, hcb, m, D, hown, hm, h1, h2⟩ := hok; obtain ⟨t, rfl⟩ : ∃ t : List UInt8, n = ⟨t.toArray⟩ := ⟨n.data.toList, rfl⟩; (have hl8 : t.length ≤ 8 := by simpa [ByteArray.size] using hn); (have hkey := keyStr t (by unfold maxLen; omega)); (have HD : Hid (Maps.has D (.string t) = decide (t ∈ l)) := h1 t (by unfold maxLen; omega)); obtain ⟨c1, -⟩ := blk1 hcb; have he : ((⟨t.toArray⟩ : ByteArray).data.toList) = t := rfl; rw [he]; generalize (⟨t.toArray⟩ : ByteArray) = T at *; clear h1 h2 hcb; show Calls Try.prog 101 #[.string T, .pointer (some ⟨cb, 0, none⟩)] w _
  go_enter Try.func101, Try.ntmps101
  go_wp2_with (first
    | (at_lookup
       refine wpList_lookup_own_ok_int _ rfl _ _ 150 rfl 9 3 .i64 strKeyed Try.underlying150 Try.underlying3 (zeroInt _) b m _ rfl hown _ _ rfl hkey ?_; intro c hat hwc
       rw [HD.out])
    | fail)
  go_ret; exact ⟨rfl, Below.refl _ _⟩

theorem value1_in (cap : Array Value) (w : World) : (callFunc 101 cap).run Try.prog w = .ok (.enter 101 cap) w := by
  simp [go_sem]

theorem asksV (cb : Nat) (l : List (List UInt8)) : Asks 101 #[.pointer (some ⟨cb, 0, none⟩)] (fun t => decide (t ∈ l)) (OkV cb l) where
  up := fun ⟨b, h1, h2⟩ hb => ⟨b, below_keep hb h1, h2.up hb⟩
  ent := fun _ w => value1_in _ w
  call := fun n w hok hn => value1_any cb l n w hok hn

/-- What column asks: a digit of the row. -/
def colP (r : Nat) (l : List (List UInt8)) (t : List UInt8) : Bool := r.testBit (if t ∈ l then l.idxOf t else 0)
theorem idxOf_of_get {l : List (List UInt8)} (hn : l.Nodup) {i : Nat} {s : List UInt8} (h : l[i]? = some s) : l.idxOf s = i := by
  have hi : i < l.length := by
    rcases Nat.lt_or_ge i l.length with h' | h'
    · exact h'
    · rw [List.getElem?_eq_none h'] at h; cases h
  rw [List.getElem?_eq_getElem hi] at h; have := Option.some.inj h; subst this; exact hn.idxOf_getElem i hi

end Go.Proofs.Ytffkoiemnchdgaf
/- Walks: column. -/
namespace Go.Proofs.Ytffkoiemnchdgaf
open Go.RowKit Go.Maps Go.WideMaps

theorem infoBool : ∃ i, Try.prog.info? 4 = some i ∧ i.zero = some (.bool false) ∧ i.size = 1 ∧ i.bytes = 1 := by
  (obtain ⟨i, hi, h⟩ := Option.map_eq_some_iff.1 (show (Try.prog.info? 4).map (fun i => (i.zero, i.size, i.bytes)) = some (some (.bool false), 1, 1) by kernel_rfl)); simp only [Prod.mk.injEq] at h; exact ⟨i, hi, h.1, h.2.1, h.2.2⟩

theorem shl_row (N : Nat) (h : N ≤ 6) : wrap64 ((2 : Int) ^ N) = ((2 ^ N : Nat) : Int) ∧ 1 ≤ 2 ^ N ∧ 2 ^ N ≤ 64 := by
  (have : N = 0 ∨ N = 1 ∨ N = 2 ∨ N = 3 ∨ N = 4 ∨ N = 5 ∨ N = 6 := by omega)
  rcases this with rfl | rfl | rfl | rfl | rfl | rfl | rfl <;> exact ⟨by unfold wrap64; decide, by decide, by decide⟩

end Go.Proofs.Ytffkoiemnchdgaf
