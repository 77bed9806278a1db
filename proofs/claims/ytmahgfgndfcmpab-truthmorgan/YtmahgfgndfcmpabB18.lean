/- Texts of one proof, one behind the other: Tr4. -/
import Derived.Test.YtmahgfgndfcmpabB16
import Derived.Test.YtmahgfgndfcmpabB10
import Derived.Laws.BitsLemmas
/- Walks: digits of a row; what Value and column ask of names. -/
namespace Go.Proofs.Ytmahgfgndfcmpab
open Go.RowKit Go.Maps Go.WideMaps

theorem wraps_i64 (n : Int) (h0 : 0 ≤ n) (h1 : n < 2 ^ 62) : IntKind.i64.wrap n = n := by
  (have e : ((2 : Int) ^ 62) = 4611686018427387904 := by decide); rw [e] at h1; unfold IntKind.wrap IntKind.bits IntKind.signed; simp only []; (have e2 : ((2 : Int) ^ 64) = 18446744073709551616 := by decide); (have e3 : ((2 : Int) ^ (64 - 1)) = 9223372036854775808 := by decide); rw [e2, e3]; (have : n % 18446744073709551616 = n := by omega); rw [this]; (have : ¬ n ≥ 9223372036854775808 := by omega); simp [this]

/-- The i-th digit of a row, as the walk spells it. -/
theorem digit_bit (r i : Nat) (hr : r ≤ 100000) : (bits BinOp.and IntKind.i64 ((r : Int) / 2 ^ min i 64) 1 == 1) = r.testBit i := by
  have hd : ((r : Int) / 2 ^ min i 64) = ((r / 2 ^ min i 64 : Nat) : Int) := by
    rw [Int.natCast_ediv]; simp
  have hle : r / 2 ^ min i 64 ≤ 100000 := Nat.le_trans (Nat.div_le_self _ _) hr; (have e : (2 : Nat) ^ 62 = 4611686018427387904 := by decide); rw [hd]; (have h := (bits_nat .i64 62 (by decide) wraps_i64 (r / 2 ^ min i 64) 1 (by omega) (by decide)).1); have h' : bits BinOp.and IntKind.i64 ((r / 2 ^ min i 64 : Nat) : Int) 1 = (((r / 2 ^ min i 64) &&& 1 : Nat) : Int) := h; rw [h', Nat.and_one_is_mod]
  have hm : r / 2 ^ min i 64 % 2 = r / 2 ^ i % 2 := by
    rcases Nat.lt_or_ge i 64 with h1 | h1
    · rw [Nat.min_eq_left (by omega)]
    · rw [Nat.min_eq_right h1]
      have z1 : r / 2 ^ 64 = 0 := Nat.div_eq_of_lt (by have : (2 : Nat) ^ 64 = 18446744073709551616 := by decide
                                                       omega)
      have z2 : r / 2 ^ i = 0 := Nat.div_eq_of_lt (Nat.lt_of_lt_of_le (by have : (2 : Nat) ^ 64 = 18446744073709551616 := by decide
                                                                          omega) (Nat.pow_le_pow_right (by omega) h1))
      rw [z1, z2]
  rw [hm, Nat.testBit_eq_decide_div_mod_eq]
  rcases Nat.mod_two_eq_zero_or_one (r / 2 ^ i) with h | h <;> rw [h] <;> decide

set_option maxHeartbeats 1000000 in
theorem digit_any (r i : Nat) (hr : r ≤ 100000) (hi : i ≤ 1000) (w : World) :
    Calls Try.prog 70 #[.int .i64 (r : Nat), .int .i64 (i : Nat)] w fun e w' => e = .returned (.bool (r.testBit i)) ∧ w' = w := by
  (have hrI : (r : Int) ≤ 100000 := by omega); (have hiI : (i : Int) ≤ 1000 := by omega)
  go_enter Try.func70, Try.ntmps70
  go_wp2_with fail; go_ret; (exact ⟨congrArg (fun b => Ending.returned (Value.bool b)) (digit_bit r i hr), rfl⟩)

/-- What Value asks. -/
def OkV (cb : Nat) (l : List (List UInt8)) (w : World) : Prop := ∃ b, w.heap[cb]? = some (.cells #[.map (some b)] 85 (0, 0)) ∧ PM w b l

theorem PM.up {w w' : World} {b : Nat} {l : List (List UInt8)} (h : PM w b l) (hb : Below w.heap.size w w') : PM w' b l := by
  obtain ⟨n, D, hown, h1, h2, h3⟩ := h; refine ⟨n, D, ?_, h1, h2, h3⟩; obtain ⟨es, clock, he, r⟩ := hown; exact ⟨es, clock, below_keep hb he, r⟩

set_option maxHeartbeats 1000000 in
theorem value1_any (cb : Nat) (l : List (List UInt8)) (n : ByteArray) (w : World) (hok : OkV cb l w) (hn : n.size ≤ 8) :
    Calls Try.prog 51 (#[.string n] ++ #[.pointer (some ⟨cb, 0, none⟩)]) w fun e w' => e = .returned (.bool (decide (n.data.toList ∈ l))) ∧ Below w.heap.size w w' := by
  obtain ⟨b, hcb, m, D, hown, hm, h1, h2⟩ := hok; obtain ⟨t, rfl⟩ : ∃ t : List UInt8, n = ⟨t.toArray⟩ := ⟨n.data.toList, rfl⟩; (have hl8 : t.length ≤ 8 := by simpa [ByteArray.size] using hn); (have hkey := keyStr t (by unfold maxLen; omega)); (have HD : Hid (Maps.has D (.string t) = decide (t ∈ l)) := h1 t (by unfold maxLen; omega)); obtain ⟨c1, -⟩ := blk1 hcb; have he : ((⟨t.toArray⟩ : ByteArray).data.toList) = t := rfl; rw [he]; generalize (⟨t.toArray⟩ : ByteArray) = T at *; clear h1 h2 hcb; show Calls Try.prog 51 #[.string T, .pointer (some ⟨cb, 0, none⟩)] w _
  go_enter Try.func51, Try.ntmps51
  go_wp2_with (first
    | (at_lookup
       refine wpList_lookup_own_ok_int _ rfl _ _ 85 rfl 9 3 .i64 strKeyed Try.underlying85 Try.underlying3 (zeroInt _) b m _ rfl hown _ _ rfl hkey ?_; intro c hat hwc
       rw [HD.out])
    | fail)
  go_ret; exact ⟨rfl, Below.refl _ _⟩

theorem value1_in (cap : Array Value) (w : World) : (callFunc 51 cap).run Try.prog w = .ok (.enter 51 cap) w := by
  simp [go_sem]

theorem asksV (cb : Nat) (l : List (List UInt8)) : Asks 51 #[.pointer (some ⟨cb, 0, none⟩)] (fun t => decide (t ∈ l)) (OkV cb l) where
  up := fun ⟨b, h1, h2⟩ hb => ⟨b, below_keep hb h1, h2.up hb⟩
  ent := fun _ w => value1_in _ w
  call := fun n w hok hn => value1_any cb l n w hok hn

/-- What column asks: a digit of the row. -/
def colP (r : Nat) (l : List (List UInt8)) (t : List UInt8) : Bool := r.testBit (if t ∈ l then l.idxOf t else 0)
def OkC (rb pb r : Nat) (l : List (List UInt8)) (w : World) : Prop := ∃ b, w.heap[rb]? = some (.cells #[.int .i64 (r : Nat)] 3 (0, 0)) ∧ w.heap[pb]? = some (.cells #[.map (some b)] 85 (0, 0)) ∧ PM w b l

theorem idxOf_of_get {l : List (List UInt8)} (hn : l.Nodup) {i : Nat} {s : List UInt8} (h : l[i]? = some s) : l.idxOf s = i := by
  have hi : i < l.length := by
    rcases Nat.lt_or_ge i l.length with h' | h'
    · exact h'
    · rw [List.getElem?_eq_none h'] at h; cases h
  rw [List.getElem?_eq_getElem hi] at h; have := Option.some.inj h; subst this; exact hn.idxOf_getElem i hi

set_option maxHeartbeats 1000000 in
theorem column1_any (rb pb r : Nat) (l : List (List UInt8)) (hnd : l.Nodup) (hl : l.length ≤ 1000) (hr : r ≤ 100000) (n : ByteArray) (w : World) (hok : OkC rb pb r l w) (hn : n.size ≤ 8) :
    Calls Try.prog 69 (#[.string n] ++ #[.pointer (some ⟨rb, 0, none⟩), .pointer (some ⟨pb, 0, none⟩)]) w fun e w' => e = .returned (.bool (colP r l n.data.toList)) ∧ Below w.heap.size w w' := by
  obtain ⟨b, hrb, hpb, m, D, hown, hm, h1, h2⟩ := hok; obtain ⟨t, rfl⟩ : ∃ t : List UInt8, n = ⟨t.toArray⟩ := ⟨n.data.toList, rfl⟩; (have hl8 : t.length ≤ 8 := by simpa [ByteArray.size] using hn); (have hkey := keyStr t (by unfold maxLen; omega))
  have hat : ∀ c : Int, D.atKey (.string t) (.lit (.int .i64 0)) = .lit (.int .i64 c) → c = ((if t ∈ l then l.idxOf t else 0 : Nat) : Int) := fun c hc => by
    by_cases ht : t ∈ l
    · obtain ⟨i, hi, hz⟩ := h2 t ht
      rw [hz] at hc; rw [if_pos ht, idxOf_of_get hnd hi]; simp only [DataW.lit.injEq, Lit.int.injEq, true_and] at hc; omega
    · rw [atKey_of_not_has (by rw [h1 t (by unfold maxLen; omega)]; exact decide_eq_false ht)] at hc
      rw [if_neg ht]; simp only [DataW.lit.injEq, Lit.int.injEq, true_and] at hc; omega
  have hile : (if t ∈ l then l.idxOf t else 0 : Nat) ≤ 1000 := by
    split
    · have := List.idxOf_le_length (a := t) (l := l); omega
    · omega
  have he : ((⟨t.toArray⟩ : ByteArray).data.toList) = t := rfl; rw [he]; (have HR : Hid (colP r l t = r.testBit (if t ∈ l then l.idxOf t else 0)) := rfl); (have HAt : Hid (∀ c : Int, D.atKey (.string t) (.lit (.int .i64 0)) = .lit (.int .i64 c) → c = ((if t ∈ l then l.idxOf t else 0 : Nat) : Int)) := hat); (generalize (if t ∈ l then l.idxOf t else 0 : Nat) = i at *); generalize colP r l t = cp at *; obtain ⟨c1, -⟩ := blk1 hrb; obtain ⟨c2, -⟩ := blk1 hpb; generalize (⟨t.toArray⟩ : ByteArray) = T at *; clear h1 h2 hrb hpb hat; show Calls Try.prog 69 #[.string T, .pointer (some ⟨rb, 0, none⟩), .pointer (some ⟨pb, 0, none⟩)] w _
  go_enter Try.func69, Try.ntmps69
  go_wp2_with (first
    | (at_lookup
       refine wpList_lookup_own_int _ rfl _ _ 85 rfl 9 3 .i64 strKeyed Try.underlying85 Try.underlying3 (zeroInt _) b m _ rfl hown _ _ rfl hkey ?_; intro c hat hwc; obtain rfl := HAt.out c hat
       clear hat hwc)
    | (go_at_call 70
       refine (digit_any r i hr hile _).mono ?_
       rintro e w1 ⟨rfl, rfl⟩)
    | fail)
  go_ret; (exact ⟨by rw [HR.out]; rfl, Below.refl _ _⟩)

theorem column1_in (cap : Array Value) (w : World) : (callFunc 69 cap).run Try.prog w = .ok (.enter 69 cap) w := by
  simp [go_sem]

theorem asksC (rb pb r : Nat) (l : List (List UInt8)) (hnd : l.Nodup) (hl : l.length ≤ 1000) (hr : r ≤ 100000) : Asks 69 #[.pointer (some ⟨rb, 0, none⟩), .pointer (some ⟨pb, 0, none⟩)] (colP r l) (OkC rb pb r l) where
  up := fun ⟨b, h1, h2, h3⟩ hb => ⟨b, below_keep hb h1, below_keep hb h2, h3.up hb⟩
  ent := fun _ w => column1_in _ w
  call := fun n w hok hn => column1_any rb pb r l hnd hl hr n w hok hn
end Go.Proofs.Ytmahgfgndfcmpab
