/- Texts of one proof, one behind the other: TP3, TP4. -/
import Derived.Test.YtknngeojhiejnabB09
/- Walks: a table of functions of two values (put). -/
namespace Go.Proofs.Ytknngeojhiejnab
open Go.RowKit

/-- A list of numbers in memory. -/
def IL (w : World) (v : Value) (a : List Nat) : Prop := ∃ ad cap, v = .slice ad a.length cap ∧ a.length ≤ cap ∧ cap ≤ maxLen ∧ (a ≠ [] → ∃ g off, ad = some ⟨g, off, none⟩ ∧ ∀ (j : Nat) (x : Nat), a[j]? = some x → w.cell? ⟨g, off + j, none⟩ = some (.int .i64 (x : Nat)))

theorem pow16 {i : Nat} (h : i ≤ 4) : 2 ^ i ≤ 16 := by
  rcases (by omega : i = 0 ∨ i = 1 ∨ i = 2 ∨ i = 3 ∨ i = 4) with rfl | rfl | rfl | rfl | rfl <;> decide
theorem wrap_sum {a i : Nat} (ha : a ≤ 16) (hi : i ≤ 4) : wrap64 ((a : Int) + wrap64 ((2 : Int) ^ i)) = ((a + 2 ^ i : Nat) : Int) := by
  have h := pow16 hi
  rw [(shl_row i (by omega)).1]
  generalize 2 ^ i = p at *
  unfold wrap64
  omega
def argN (a : List Nat) (i : Nat) : Nat := a.getD i 0

set_option maxHeartbeats 4000000 in
theorem put_walk (t : Tb) (hok : t.Ok) (a : List Nat) (ha : a.length = t.n) (h16 : ∀ x ∈ a, x < 16) (v u : Value) (w : World) (h : TR w t v) (hu : IL w u a) :
    Calls Try.prog 39 #[v, u] w fun e w' => e = .returned (.int .i64 (putT t (argN a) : Nat)) ∧ Below w.heap.size w w' := by
  obtain ⟨g, off, cap, rfl, hc, hcells⟩ := h.cells hok
  obtain ⟨ad, cp, rfl, hu1, hu2, hu3⟩ := hu
  have hl := hok.len
  obtain ⟨hn4, hlen⟩ := hok
  have q0 := blk_new w (.cells #[.int .i64 (t.n : Nat), .slice (some ⟨g, off, none⟩) t.bits.length cap] 33 (0, 0))
  have B0 := below_more (Below.refl _ w) (.cells #[.int .i64 (t.n : Nat), .slice (some ⟨g, off, none⟩) t.bits.length cap] 33 (0, 0))
  have HCe : Hid (∀ j, j < t.bits.length → w.cell? ⟨g, off + j, none⟩ = some (.bool (t.bits.getD j false))) := hcells
  have HU3 : Hid (a ≠ [] → ∃ g off, ad = some ⟨g, off, none⟩ ∧ ∀ (j : Nat) (x : Nat), a[j]? = some x → w.cell? ⟨g, off + j, none⟩ = some (.int .i64 (x : Nat))) := hu3
  have H16 : Hid (∀ x ∈ a, x < 16) := h16
  have HLn : Hid (t.bits.length = 2 ^ t.n) := hlen
  have HA : Hid (a.length = t.n) := ha
  have HAt : Hid (∀ v, t.at v = t.bits.getD (idx t.n v) false) := fun _ => rfl
  have HPt : Hid (putT t (argN a) = idx 4 fun r => t.at fun i => (argN a i).testBit r) := rfl
  generalize putT t (argN a) = res at *
  clear hlen ha h16 hu3 hcells h
  generalize hM : t.bits.length = M at *
  clear hM
  have hMI : (M : Int) ≤ 16 := by omega
  have hlI : (a.length : Int) ≤ 4 := by have := HA.out; omega
  go_enter Try.func39, Try.ntmps39
  go_wp2_with fail
  go_loopg [6, 5] 4 (fun gk c o wr => ∃ r, r ≤ 4 ∧ gk = 4 - r ∧ c = .int .i64 (r : Nat) ∧ o = .int .i64 (idx r (fun r => t.at fun i => (argN a i).testBit r) : Nat) ∧ Below w.heap.size w wr ∧ wr.heap[w.heap.size]? = some (.cells #[.int .i64 (t.n : Nat), .slice (some ⟨g, off, none⟩) M cap] 33 (0, 0)))
  case atStart => exact ⟨0, by omega, by omega, rfl, rfl, B0, q0⟩
  case round =>
    obtain ⟨r, hr, hg, rfl, rfl, hbr, q1⟩ := hrel
    have HG : Hid (gk = 4 - r) := hg
    clear hg
    have hI1 := idx_lt r (fun r => t.at fun i => (argN a i).testBit r)
    have hI2 := pow16 hr
    by_cases hlt : r < 4
    · have hltI : (r : Int) < 4 := by omega
      have HI : Hid (idx (r + 1) (fun r => t.at fun i => (argN a i).testBit r) = idx r (fun r => t.at fun i => (argN a i).testBit r) + if (t.at fun i => (argN a i).testBit r) then 2 ^ r else 0) := rfl
      have hIb : idx r (fun r => t.at fun i => (argN a i).testBit r) ≤ 16 := by omega
      generalize idx r (fun r => t.at fun i => (argN a i).testBit r) = o at *
      obtain ⟨W0, hW0⟩ : ∃ W0, W0 = wr := ⟨_, rfl⟩
      subst hW0
      clear hI1 hI2
      go_wp2_with fail
      go_loopg [8, 7] a.length (fun gk c kk wr => ∃ i, i ≤ a.length ∧ gk = a.length - i ∧ c = .int .i64 (i : Nat) ∧ kk = .int .i64 (idx i (fun i => (argN a i).testBit r) : Nat) ∧ wr = W0)
      case atStart => exact ⟨0, by omega, by omega, rfl, rfl, rfl⟩
      case round =>
        obtain ⟨i, hi, hg2, rfl, rfl, hw⟩ := hrel
        have HG2 : Hid (gk = a.length - i) := hg2
        have hw' := hw.symm
        subst hw'
        clear hg2
        have hK1 := idx_lt i (fun i => (argN a i).testBit r)
        have hK2 := pow16 (i := i) (by omega)
        by_cases hia : i < a.length
        · obtain ⟨x, hx⟩ : ∃ x, a[i]? = some x := ⟨_, List.getElem?_eq_getElem hia⟩
          obtain ⟨g2, off2, rfl, hc2⟩ := HU3.out (fun e => by rw [e] at hia; simp at hia)
          have g0 := (hbr.cell (p := ⟨g2, off2 + i, none⟩) (lt_of_cell (hc2 i x hx))).trans (hc2 i x hx)
          have hx16 := H16.out x (List.mem_of_getElem? hx)
          have hdb := digit_bit x r (by omega)
          rw [Nat.min_eq_left (by omega)] at hdb
          have hax : argN a i = x := by unfold argN; rw [List.getD_eq_getElem?_getD, hx]; rfl
          have HK : Hid (idx (i + 1) (fun i => (argN a i).testBit r) = idx i (fun i => (argN a i).testBit r) + if x.testBit r then 2 ^ i else 0) := by
            show _ = _
            rw [idx, hax]
          have hKb : idx i (fun i => (argN a i).testBit r) ≤ 16 := by omega
          have hsh := (shl_row i (by have := HA.out; omega)).1
          generalize idx i (fun i => (argN a i).testBit r) = kk at *
          have hiI : (i : Int) < (a.length : Int) := by omega
          have hicI : (i : Int) < (cp : Int) := by omega
          have hrI : (0 : Int) ≤ (r : Int) := by omega
          clear hc2 hx hax HU3 hK1
          cases hb : x.testBit r
          · rw [hb] at hdb
            have HK' : Hid (kk = idx (i + 1) (fun i => (argN a i).testBit r)) := by
              show _ = _
              have := HK.out
              rw [hb] at this
              simpa using this.symm
            clear HK hb
            go_wp2_with fail
            go_roundg (a.length - (i + 1))
            case measure => have := HG2.out; omega
            case rel => exact ⟨i + 1, by omega, rfl, by go_num, by rw [← HK'.out], rfl⟩
          · rw [hb] at hdb
            have HK' : Hid (wrap64 ((kk : Int) + wrap64 ((2 : Int) ^ i)) = ((idx (i + 1) (fun i => (argN a i).testBit r) : Nat) : Int)) := by
              show _ = _
              have := HK.out
              rw [hb, if_pos rfl] at this
              rw [this, wrap_sum hKb (by omega)]
            clear HK hb hsh
            go_wp2_with fail
            go_roundg (a.length - (i + 1))
            case measure => have := HG2.out; omega
            case rel => exact ⟨i + 1, by omega, rfl, by go_num, by rw [← HK'.out], rfl⟩
        · have hin : i = a.length := by omega
          have hge : ¬ (i : Int) < (a.length : Int) := by omega
          have hge2 : ¬ (a.length : Int) < (a.length : Int) := by omega
          subst hin
          have hidx : idx a.length (fun i => (argN a i).testBit r) < M := by
            rw [HA.out] at hK1 ⊢
            have := HLn.out
            omega
          have g0 := (hbr.cell (p := ⟨g, off + idx a.length (fun i => (argN a i).testBit r), none⟩) (lt_of_cell (HCe.out _ hidx))).trans (HCe.out _ hidx)
          have HF : Hid ((t.at fun i => (argN a i).testBit r) = t.bits.getD (idx a.length (fun i => (argN a i).testBit r)) false) := by
            show _ = _
            rw [HAt.out, HA.out]
          obtain ⟨a0, a1, -⟩ := blk2 q1
          generalize t.bits.getD (idx a.length (fun i => (argN a i).testBit r)) false = bb at *
          generalize idx a.length (fun i => (argN a i).testBit r) = kk at *
          have hkI : (kk : Int) < (M : Int) := by omega
          have hkc : (kk : Int) < (cap : Int) := by omega
          clear hidx hK1 hK2 HU3
          cases bb
          · have HO : Hid (o = idx (r + 1) (fun r => t.at fun i => (argN a i).testBit r)) := by
              show _ = _
              have := HI.out
              rw [HF.out] at this
              simpa using this.symm
            clear HI HF
            go_wp2_with fail
            go_roundg (4 - (r + 1))
            case measure => have := HG.out; omega
            case rel => exact ⟨r + 1, by omega, rfl, by go_num, by rw [← HO.out], hbr, q1⟩
          · have HO : Hid (wrap64 ((o : Int) + wrap64 ((2 : Int) ^ r)) = ((idx (r + 1) (fun r => t.at fun i => (argN a i).testBit r) : Nat) : Int)) := by
              show _ = _
              have := HI.out
              rw [HF.out, if_pos rfl] at this
              rw [this, wrap_sum hIb (by omega)]
            clear HI HF
            go_wp2_with fail
            go_roundg (4 - (r + 1))
            case measure => have := HG.out; omega
            case rel => exact ⟨r + 1, by omega, rfl, by go_num, by rw [← HO.out], hbr, q1⟩
    · have hr4 : r = 4 := by omega
      subst hr4
      have HO : Hid (res = idx 4 (fun r => t.at fun i => (argN a i).testBit r)) := HPt
      generalize idx 4 (fun r => t.at fun i => (argN a i).testBit r) = o at *
      go_wp2_with fail
      go_ret
      exact ⟨by rw [HO.out]; rfl, hbr⟩
end Go.Proofs.Ytknngeojhiejnab
/- What Makes reaches, plain. -/
namespace Go.Proofs.Ytknngeojhiejnab
open Go.RowKit

/-- The j-th of the arguments that k stands for. -/
def dig (k j : Nat) : Nat := k / 2 ^ (4 * j) % 16
def digs (n k : Nat) : List Nat := (List.range n).map (dig k)
theorem dig_lt (k j : Nat) : dig k j < 16 := Nat.mod_lt _ (by decide)
theorem digs_len (n k : Nat) : (digs n k).length = n := by simp [digs]
theorem digs_get {n k j : Nat} (h : j < n) : (digs n k)[j]? = some (dig k j) := by
  unfold digs
  rw [List.getElem?_map, List.getElem?_range h]
  rfl

/-- Each list of arguments is stood for. -/
theorem digs_of : ∀ (a : List Nat), (∀ x ∈ a, x < 16) → ∃ k, k < 2 ^ (4 * a.length) ∧ digs a.length k = a
  | [], _ => ⟨0, by decide, rfl⟩
  | x :: a, h => by
    obtain ⟨k, hk, hd⟩ := digs_of a fun y hy => h y (List.mem_cons_of_mem _ hy)
    have hx := h x List.mem_cons_self
    have hp : 2 ^ (4 * (a.length + 1)) = 16 * 2 ^ (4 * a.length) := by
      rw [show 4 * (a.length + 1) = 4 * a.length + 4 by omega, Nat.pow_add]
      omega
    refine ⟨k * 16 + x, ?_, ?_⟩
    · rw [List.length_cons, hp]
      omega
    · unfold digs at hd ⊢
      rw [List.length_cons, List.range_succ_eq_map, List.map_cons, List.map_map]
      congr 1
      · unfold dig
        simp only [Nat.mul_zero, Nat.pow_zero, Nat.div_one]
        omega
      · rw [← hd]
        simp only [List.length_map, List.length_range]
        refine List.map_congr_left fun j _ => ?_
        show dig (k * 16 + x) (j + 1) = dig k j
        unfold dig
        rw [show 4 * (j + 1) = 4 + 4 * j by omega, Nat.pow_add, ← Nat.div_div_eq_div_mul]
        have : (k * 16 + x) / 2 ^ 4 = k := by
          rw [show (2 : Nat) ^ 4 = 16 from rfl]
          omega
        rw [this]

def closedT (t : Tb) (S : Nat → Bool) : Prop := ∀ k, k < 2 ^ (4 * t.n) → (∀ j, j < t.n → S (dig k j) = true) → S (putT t (argN (digs t.n k))) = true
def miss (S : Nat → Bool) : Nat := ((List.range 16).filter fun i => !S i).length
def addS (S : Nat → Bool) (f i : Nat) : Bool := S i || decide (i = f)

theorem filter_le {p q : Nat → Bool} (h : ∀ i, p i = true → q i = true) : ∀ l : List Nat, (l.filter p).length ≤ (l.filter q).length
  | [] => Nat.le_refl _
  | i :: l => by
    have ih := filter_le h l
    rw [List.filter_cons, List.filter_cons]
    cases hp : p i
    · rw [if_neg (by decide)]
      split
      · rw [List.length_cons]; omega
      · exact ih
    · rw [if_pos rfl, if_pos (h i hp)]
      simp only [List.length_cons]
      omega
theorem filter_lt {p q : Nat → Bool} (h : ∀ i, p i = true → q i = true) {f : Nat} (hq : q f = true) (hp : p f = false) : ∀ l : List Nat, f ∈ l → (l.filter p).length < (l.filter q).length
  | [], hf => by cases hf
  | i :: l, hf => by
    rw [List.filter_cons, List.filter_cons]
    by_cases e : i = f
    · subst e
      rw [if_neg (by rw [hp]; decide), if_pos hq, List.length_cons]
      have := filter_le h l
      omega
    · have hf' : f ∈ l := by
        rcases List.mem_cons.1 hf with h1 | h1
        · exact absurd h1.symm e
        · exact h1
      have ih := filter_lt h hq hp l hf'
      cases hpi : p i
      · rw [if_neg (by decide)]
        split
        · rw [List.length_cons]; omega
        · exact ih
      · rw [if_pos rfl, if_pos (h i hpi)]
        simp only [List.length_cons]
        omega
theorem miss_add {S : Nat → Bool} {f : Nat} (hf : f < 16) (h : S f = false) : miss (addS S f) < miss S := by
  unfold miss
  refine filter_lt (fun i hi => ?_) (f := f) (by rw [h]; rfl) (by simp [addS]) _ (List.mem_range.2 hf)
  unfold addS at hi
  cases hs : S i
  · rfl
  · rw [hs] at hi; simp at hi

/-- What is closed has all that is made. -/
theorem gen_in {ts : List Tb} {S : Nat → Bool} (hx : S 10 = true) (hy : S 12 = true) (hc : ∀ t ∈ ts, closedT t S) {f : Nat} (h : Gen ts f) : S f = true := by
  induction h with
  | x => exact hx
  | y => exact hy
  | app t ht a hg ih =>
    obtain ⟨k, hk, hd⟩ := digs_of ((List.range t.n).map a) fun x hx => by
      obtain ⟨j, hj, rfl⟩ := List.mem_map.1 hx
      exact (hg j (List.mem_range.1 hj)).lt
    simp only [List.length_map, List.length_range] at hk hd
    have hdj : ∀ j, j < t.n → dig k j = a j := fun j hj => by
      have := congrArg (fun l => l[j]?) hd
      simp only [digs_get hj, List.getElem?_map, List.getElem?_range hj, Option.map_some] at this
      exact Option.some.inj this
    have := hc t ht k hk fun j hj => by rw [hdj j hj]; exact ih j hj
    have e : putT t (argN (digs t.n k)) = putT t a := by
      unfold putT
      refine idx_congr fun r _ => t.at_congr fun i hi => ?_
      unfold argN
      rw [List.getD_eq_getElem?_getD, digs_get hi, Option.getD_some, hdj i hi]
    rwa [e] at this

/-- All sixteen bools of an array. -/
def Is (w : World) (b : Nat) (S : Nat → Bool) : Prop := ∃ A : Array Value, w.heap[b]? = some (.cells A 74 (0, 0)) ∧ ∀ i, i < 16 → A[i]? = some (.bool (S i))
theorem Is.cell {w : World} {b : Nat} {S : Nat → Bool} (h : Is w b S) {i : Nat} (hi : i < 16) : w.cell? ⟨b, i, none⟩ = some (.bool (S i)) := by
  obtain ⟨A, h1, h2⟩ := h
  rw [blk_cell h1, h2 i hi]
theorem Is.frozen {w : World} {b : Nat} {S : Nat → Bool} (h : Is w b S) (i : Nat) : w.frozen? ⟨b, i, none⟩ = false := by
  obtain ⟨A, h1, -⟩ := h
  exact blk_fz h1 i
theorem Is.lt {w : World} {b : Nat} {S : Nat → Bool} (h : Is w b S) : b < w.heap.size := by
  obtain ⟨A, h1, -⟩ := h
  exact lt_of_block h1
theorem Is.keep {w w' : World} {b : Nat} {S : Nat → Bool} (h : Is w b S) (hb : w'.heap[b]? = w.heap[b]?) : Is w' b S := by
  obtain ⟨A, h1, h2⟩ := h
  exact ⟨A, hb.trans h1, h2⟩
theorem Is.put {w : World} {b : Nat} {S : Nat → Bool} (h : Is w b S) {f : Nat} (hf : f < 16) : Is (w.setCell ⟨b, f, none⟩ (.bool true)) b (addS S f) := by
  obtain ⟨A, h1, h2⟩ := h
  refine ⟨A.setIfInBounds f (.bool true), set_cell h1 _, fun i hi => ?_⟩
  unfold addS
  by_cases e : i = f
  · subst e
    rw [Array.getElem?_setIfInBounds_self_of_lt (by
      have := h2 i hi
      rcases Nat.lt_or_ge i A.size with h' | h'
      · exact h'
      · rw [Array.getElem?_eq_none h'] at this; cases this)]
    simp
  · rw [Array.getElem?_setIfInBounds_ne (Ne.symm e), h2 i hi]
    simp [e]

theorem shl_arg (N : Nat) (h : N ≤ 4) : wrap64 ((2 : Int) ^ (4 * N)) = ((2 ^ (4 * N) : Nat) : Int) ∧ 2 ^ (4 * N) ≤ 65536 := by
  rcases (by omega : N = 0 ∨ N = 1 ∨ N = 2 ∨ N = 3 ∨ N = 4) with rfl | rfl | rfl | rfl | rfl <;> exact ⟨by unfold wrap64; decide, by decide⟩
theorem dig_bits (k j : Nat) (hk : k ≤ 65536) : bits BinOp.and IntKind.i64 ((k : Int) / 2 ^ (4 * j)) 15 = ((dig k j : Nat) : Int) := by
  have hd : ((k : Int) / 2 ^ (4 * j)) = ((k / 2 ^ (4 * j) : Nat) : Int) := by
    rw [Int.natCast_ediv]; simp
  have hle : k / 2 ^ (4 * j) ≤ 65536 := Nat.le_trans (Nat.div_le_self _ _) hk
  have e : (2 : Nat) ^ 62 = 4611686018427387904 := by decide
  rw [hd]
  have h := (bits_nat .i64 62 (by decide) wraps_i64 (k / 2 ^ (4 * j)) 15 (by omega) (by decide)).1
  have h' : bits BinOp.and IntKind.i64 ((k / 2 ^ (4 * j) : Nat) : Int) 15 = (((k / 2 ^ (4 * j)) &&& 15 : Nat) : Int) := h
  rw [h', show (15 : Nat) = 2 ^ 4 - 1 from rfl, Nat.and_two_pow_sub_one_eq_mod]
  rfl
end Go.Proofs.Ytknngeojhiejnab
