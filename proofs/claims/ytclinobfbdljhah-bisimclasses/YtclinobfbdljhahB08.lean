/- Texts of one proof, one behind the other: ME1, ME2. -/
import Derived.Test.YtclinobfbdljhahB01
import Derived.Laws.BitsLemmas
import Derived.Deep.LoopGhost
/- Sets of small numbers as one word, plain. -/
namespace Go.Proofs.Ytclinobfbdljhah
open Go.RowKit

/-- The word whose digits below N are as P says. -/
def bm : Nat → (Nat → Bool) → Nat
  | 0, _ => 0
  | n + 1, P => bm n P + (if P n = true then 2 ^ n else 0)
theorem bm_lt : ∀ (N : Nat) (P : Nat → Bool), bm N P < 2 ^ N
  | 0, _ => by simp [bm]
  | n + 1, P => by
    have := bm_lt n P; rw [bm, Nat.pow_succ]
    split <;> omega
theorem bm_bit : ∀ (N : Nat) (P : Nat → Bool) (i : Nat), (bm N P).testBit i = (decide (i < N) && P i)
  | 0, _, i => by simp [bm]
  | n + 1, P, i => by
    have h := bm_lt n P; have ih := bm_bit n P i; rw [bm]; by_cases hp : P n = true
    · rw [if_pos hp, Nat.add_comm]
      rcases Nat.lt_trichotomy i n with h1 | h1 | h1
      · rw [Nat.testBit_two_pow_add_gt h1, ih]
        simp [h1, Nat.lt_succ_of_lt h1]
      · subst h1
        rw [Nat.testBit_two_pow_add_eq, Nat.testBit_lt_two_pow h]; simp [hp]
      · have h2 : 2 ^ n + bm n P < 2 ^ i := Nat.lt_of_lt_of_le (by rw [Nat.pow_succ]; omega : 2 ^ n + bm n P < 2 ^ (n + 1)) (Nat.pow_le_pow_right (by omega) h1)
        rw [Nat.testBit_lt_two_pow h2]; (have : ¬ i < n + 1 := by omega); simp [this]
    · rw [if_neg hp, Nat.add_zero, ih]
      rcases Nat.lt_trichotomy i n with h1 | h1 | h1
      · simp [h1, Nat.lt_succ_of_lt h1]
      · subst h1; simp [hp]
      · have a1 : ¬ i < n := by omega
        (have a2 : ¬ i < n + 1 := by omega); simp [a1, a2]
theorem bm_ext {N : Nat} {P Q : Nat → Bool} (h : ∀ i, i < N → P i = Q i) : bm N P = bm N Q := by
  apply Nat.eq_of_testBit_eq; intro i; rw [bm_bit, bm_bit]; by_cases hi : i < N
  · rw [h i hi]
  · simp [hi]
theorem bm_eq {N : Nat} {P : Nat → Bool} {s : Nat} (h : ∀ i, s.testBit i = (decide (i < N) && P i)) : s = bm N P := by
  apply Nat.eq_of_testBit_eq; intro i; rw [bm_bit, h]
theorem bm_inj {N : Nat} {P Q : Nat → Bool} (h : bm N P = bm N Q) (i : Nat) (hi : i < N) : P i = Q i := by
  (have := congrArg (fun s => s.testBit i) h); simp only [bm_bit, hi, decide_true, Bool.true_and] at this; exact this
theorem bm_none (N : Nat) : bm N (fun _ => false) = 0 := (bm_eq (s := 0) fun i => by simp).symm
theorem bm_with (N : Nat) (P : Nat → Bool) (n : Nat) (hn : n < N) : bm N P ||| 2 ^ n = bm N fun i => P i || i == n := bm_eq fun i => by
  rw [Nat.testBit_or, bm_bit, Nat.testBit_two_pow]; by_cases e : n = i
  · subst e; simp [hn]
  · have : (i == n) = false := by simpa using fun h => e h.symm
    simp [e, this]
theorem pow40 {N : Nat} (h : N ≤ 40) : 2 ^ N ≤ 1099511627776 := Nat.le_trans (Nat.pow_le_pow_right (by omega) h) (by decide)
theorem bm_small {N : Nat} (h : N ≤ 40) (P : Nat → Bool) : bm N P < 1099511627776 := Nat.lt_of_lt_of_le (bm_lt N P) (pow40 h)

theorem wraps_u64 (n : Int) (h0 : 0 ≤ n) (h1 : n < 2 ^ 62) : IntKind.u64.wrap n = n := by
  (have e : ((2 : Int) ^ 62) = 4611686018427387904 := by decide); rw [e] at h1; unfold IntKind.wrap IntKind.bits IntKind.signed; simp only []; (have e2 : ((2 : Int) ^ 64) = 18446744073709551616 := by decide); rw [e2]; (have : n % 18446744073709551616 = n := by omega); rw [this]
  simp
theorem lt62 {a : Nat} (h : a < 1099511627776) : a < 2 ^ 62 := Nat.lt_trans h (by decide)
theorem u64_and {a b : Nat} (ha : a < 1099511627776) (hb : b < 1099511627776) : bits .and .u64 (a : Int) (b : Int) = ((a &&& b : Nat) : Int) := (bits_nat .u64 62 (by decide) wraps_u64 a b (lt62 ha) (lt62 hb)).1
theorem u64_or {a b : Nat} (ha : a < 1099511627776) (hb : b < 1099511627776) : bits .or .u64 (a : Int) (b : Int) = ((a ||| b : Nat) : Int) := (bits_nat .u64 62 (by decide) wraps_u64 a b (lt62 ha) (lt62 hb)).2
/-- A digit, as the walk spells it. -/
theorem u64_has {s : Nat} (n : Nat) (hs : s < 1099511627776) : (bits .and .u64 ((s : Int) / 2 ^ n) 1 == 1) = s.testBit n := by
  have hd : ((s : Int) / 2 ^ n) = ((s / 2 ^ n : Nat) : Int) := by
    rw [Int.natCast_ediv]; simp
  have hle : s / 2 ^ n < 1099511627776 := Nat.lt_of_le_of_lt (Nat.div_le_self _ _) hs; rw [hd]; (have h' : bits BinOp.and IntKind.u64 ((s / 2 ^ n : Nat) : Int) 1 = (((s / 2 ^ n) &&& 1 : Nat) : Int) := u64_and hle (by decide)); rw [h', Nat.and_one_is_mod, Nat.testBit_eq_decide_div_mod_eq]
  rcases Nat.mod_two_eq_zero_or_one (s / 2 ^ n) with h | h <;> rw [h] <;> decide
end Go.Proofs.Ytclinobfbdljhah
/- Walks: sets of small numbers. -/
namespace Go.Proofs.Ytclinobfbdljhah
open Go.RowKit

set_option maxHeartbeats 1000000 in
theorem set_has {N : Nat} (hN : N ≤ 40) (P : Nat → Bool) (n : Nat) (hn : n < N) (w : World) :
    Calls Try.prog 61 #[.int .u64 (bm N P : Nat), .int .i64 (n : Nat)] w fun e w' => e = .returned (.bool (P n)) ∧ w' = w := by
  have h := u64_has n (bm_small hN P); (have hnI : (n : Int) < 40 := by omega); rw [bm_bit, decide_eq_true hn, Bool.true_and] at h
  go_enter Try.func61, Try.ntmps61
  go_wp2_with fail; go_ret; exact ⟨rfl, rfl⟩
def hasE (ns : List Nat) (i : Nat) : Bool := ns.contains i
set_option maxHeartbeats 1000000 in
theorem set_with {N : Nat} (hN : N ≤ 40) (ns : List Nat) (P : Nat → Bool) (ad : Option Addr) (cp : Nat) (w : World) (hns : ∀ n ∈ ns, n < N) (hl : ns.length ≤ cp) (hcp : cp ≤ maxLen) (hc : ns ≠ [] → ∃ b off, ad = some ⟨b, off, none⟩ ∧ ∀ (j n : Nat), ns[j]? = some n → w.cell? ⟨b, off + j, none⟩ = some (.int .i64 (n : Nat))) :
    Calls Try.prog 68 #[.int .u64 (bm N P : Nat), .slice ad ns.length cp] w fun e w' => e = .returned (.int .u64 (bm N (fun i => P i || hasE ns i) : Nat)) ∧ w' = w := by
  (have hlI : (ns.length : Int) ≤ (cp : Int) := by omega); have HC : Hid (ns ≠ [] → ∃ b off, ad = some ⟨b, off, none⟩ ∧ ∀ (j n : Nat), ns[j]? = some n → w.cell? ⟨b, off + j, none⟩ = some (.int .i64 (n : Nat))) := hc; have HN : Hid (∀ n ∈ ns, n < N) := hns; have HN4 : Hid (N ≤ 40) := hN; (have hmx : (ns.length : Int) ≤ 9223372036854775807 := by unfold maxLen at hcp; omega); clear hc hns hl hcp hN
  go_enter Try.func68, Try.ntmps68
  go_wp2_with fail
  go_loopg [9, 0] ns.length (fun g c s wr => ∃ i x, i ≤ ns.length ∧ g = ns.length - i ∧ c = .int .i64 (i : Nat) ∧ s = .int .u64 (x : Nat) ∧ Hid (x = bm N fun k => P k || hasE (ns.take i) k) ∧ wr = w)
  case atStart => exact ⟨0, bm N P, by omega, by omega, rfl, rfl, by show _ = _; exact bm_ext fun k _ => by simp [hasE], rfl⟩
  case round =>
    obtain ⟨i, x, hi, hg, rfl, rfl, HX, rfl⟩ := hrel; have HGk : Hid (gk = ns.length - i) := hg; clear hg; by_cases hlt : i < ns.length
    · obtain ⟨n, hr⟩ : ∃ r, ns[i]? = some r := ⟨_, List.getElem?_eq_getElem hlt⟩
      have hnN := HN.out _ (List.mem_of_getElem? hr); have hN4 := HN4.out; (obtain ⟨b, off, rfl, hc⟩ := HC.out (fun e => by rw [e] at hlt; simp at hlt)); have c0 := hc i n hr; (have hltI : (i : Int) < (ns.length : Int) := by omega); (have hltc : (i : Int) < (cp : Int) := by omega); (have hnI : (n : Int) < 40 := by omega); (have hn2 : (2 : Int) ^ n = ((2 ^ n : Nat) : Int) := by simp); (have hpw : (2 : Nat) ^ n < 1099511627776 := Nat.lt_of_lt_of_le (Nat.pow_lt_pow_right (by omega) (by omega : n < 40)) (by decide)); obtain ⟨y, hy⟩ : ∃ y, y = x ||| 2 ^ n := ⟨_, rfl⟩
      have hor : bits .or .u64 (x : Nat) (IntKind.u64.wrap ((2 : Int) ^ n)) = (y : Int) := by
        (rw [hn2, wraps_u64 _ (Int.natCast_nonneg _) (by exact_mod_cast lt62 hpw), hy]); (exact u64_or (by rw [HX.out]; exact bm_small hN4 _) hpw)
      have HY : Hid (y = bm N fun k => P k || hasE (ns.take (i + 1)) k) := by
        show _ = _; rw [hy, HX.out, bm_with _ _ _ hnN]; (refine bm_ext fun k _ => ?_); rw [List.take_add_one, hr, Bool.or_assoc]
        congr 1
        rw [Bool.eq_iff_iff]; simp [hasE]
      have HI : Hid (i < ns.length) := hlt; clear hlt hi hc hr hn2 hpw hy hN4 hnN; go_wp2_with fail
      go_roundg (ns.length - (i + 1))
      case measure => have := HGk.out; have := HI.out; omega
      case rel => exact ⟨i + 1, y, HI.out, rfl, by go_num, rfl, HY, rfl⟩
    · have hii : i = ns.length := by omega
      subst hii; (have hge : ¬ (ns.length : Int) < (ns.length : Int) := by omega); rw [List.take_length] at HX; clear hlt hi; go_wp2_with fail; go_ret; (exact ⟨congrArg (fun x : Nat => Ending.returned (Value.int .u64 (x : Int))) HX.out, rfl⟩)
/-- One number more. -/
theorem set_with1 {N : Nat} (hN : N ≤ 40) (P : Nat → Bool) (n b : Nat) (hn : n < N) (w : World) (hc : w.cell? ⟨b, 0, none⟩ = some (.int .i64 (n : Nat))) :
    Calls Try.prog 68 #[.int .u64 (bm N P : Nat), .slice (some ⟨b, 0, none⟩) 1 1] w fun e w' => e = .returned (.int .u64 (bm N (fun i => P i || i == n) : Nat)) ∧ w' = w := by
  (refine (set_with hN [n] P (some ⟨b, 0, none⟩) 1 w (by simpa using hn) (by simp) (by decide) fun _ => ⟨b, 0, rfl, fun j m hj => ?_⟩).mono ?_)
  · match j, hj with
    | 0, hj =>
      simp at hj; subst hj
      exact hc
    | j + 1, hj => simp at hj
  · rintro _ _ ⟨rfl, rfl⟩
    (refine ⟨congrArg (fun x : Nat => Ending.returned (Value.int .u64 (x : Int))) (bm_ext fun i _ => ?_), rfl⟩); rw [Bool.eq_iff_iff]; simp [hasE]
end Go.Proofs.Ytclinobfbdljhah
