/- Texts of one proof, one behind the other: KT1, ME2. -/
import Derived.Test.YtmahgfgndfcmpahB01
import Derived.Maps.OwnSet
import Derived.Maps.OwnOps
import Derived.DeepKeys4
import Derived.Deep.LoopGhost
/- Parts as keys of a map. -/
namespace Go.Proofs.Ytmahgfgndfcmpah
open Go.RowKit Go.Maps

theorem laidP : laidOutB Try.prog = true := by kernel_rfl
theorem partLaw : Keyed Try.prog 78 := Keyed.of_law (deep_law_laid laidP (m := 3) (by omega) (of_decide_eq_true (by kernel_rfl)) (by kernel_rfl) (by kernel_rfl))
def partLits (k : Int) (n : List UInt8) (c a b : Int) : List Lit := [.int .i64 k, .string n, .int .i64 c, .int .i64 a, .int .i64 b]
theorem keyPart (k : Int) (n : ByteArray) (c a b : Int) (hk : (Lit.int .i64 k).wf = true) (hc : (Lit.int .i64 c).wf = true) (ha : (Lit.int .i64 a).wf = true) (hb : (Lit.int .i64 b).wf = true) (hn : n.size ≤ maxLen) :
    keyOf Try.prog 78 (.agg #[.int .i64 k, .string n, .int .i64 c, .int .i64 a, .int .i64 b]) = some (.string (keyBytes (partLits k n.data.toList c a b))) := by
  (have h1 : Try.prog.keyType 78 = true := by kernel_rfl); (have h2 : (Value.agg #[.int .i64 k, .string n, .int .i64 c, .int .i64 a, .int .i64 b]).formed Try.prog 78 = true := by kernel_rfl); (obtain ⟨d, hd⟩ : ∃ d, Try.prog.types.size = d + 2 := ⟨Try.prog.types.size - 2, by kernel_rfl⟩); unfold keyOf; rw [Try.underlying78]; simp only [h1, h2, hd]; (have c1 : Try.prog.cellsOf 3 = 1 := by kernel_rfl); (have c2 : Try.prog.cellsOf 9 = 1 := by kernel_rfl); (have c3 : Try.prog.cellsOf 42 = 2 := by kernel_rfl); (have c4 : Try.prog.cellsOf 78 = 5 := by kernel_rfl); simp [Program.keyLits, Value.cells, partLits, Try.underlying78, Try.underlying3, Try.underlying9, Try.underlying42, c1, c2, c3, c4, hk, hc, ha, hb, hn, List.range, List.range.loop]
theorem partLits_inj {k k' : Int} {n n' : List UInt8} {c c' a a' b b' : Int} (hk : (Lit.int .i64 k).wf = true) (hc : (Lit.int .i64 c).wf = true) (ha : (Lit.int .i64 a).wf = true) (hb : (Lit.int .i64 b).wf = true) (hn : n.length ≤ maxLen) (hk' : (Lit.int .i64 k').wf = true) (hc' : (Lit.int .i64 c').wf = true) (ha' : (Lit.int .i64 a').wf = true) (hb' : (Lit.int .i64 b').wf = true) (hn' : n'.length ≤ maxLen)
    (e : keyBytes (partLits k n c a b) = keyBytes (partLits k' n' c' a' b')) : k = k' ∧ n = n' ∧ c = c' ∧ a = a' ∧ b = b' := by
  have h := keyBytes_inj (l := partLits k n c a b) (l' := partLits k' n' c' a' b') ⟨rfl, trivial, rfl, rfl, rfl, trivial⟩ (by
    intro x hx; simp [partLits] at hx
    rcases hx with rfl | rfl | rfl | rfl | rfl
    · exact hk
    · exact hn
    · exact hc
    · exact ha
    · exact hb) (by
    intro x hx; simp [partLits] at hx
    rcases hx with rfl | rfl | rfl | rfl | rfl
    · exact hk'
    · exact hn'
    · exact hc'
    · exact ha'
    · exact hb') e
  simpa [partLits] using h
end Go.Proofs.Ytmahgfgndfcmpah
/- Walks: sets of small numbers. -/
namespace Go.Proofs.Ytmahgfgndfcmpah
open Go.RowKit

set_option maxHeartbeats 1000000 in
theorem set_without {N : Nat} (hN : N ≤ 40) (P Q : Nat → Bool) (w : World) :
    Calls Try.prog 46 #[.int .u64 (bm N P : Nat), .int .u64 (bm N Q : Nat)] w fun e w' => e = .returned (.int .u64 (bm N (fun i => P i && !Q i) : Nat)) ∧ w' = w := by
  have hw := u64_not hN P Q
  go_enter Try.func46, Try.ntmps46
  go_wp2_with fail; go_ret; exact ⟨rfl, rfl⟩
set_option maxHeartbeats 1000000 in
theorem set_within {N : Nat} (hN : N ≤ 40) (P Q : Nat → Bool) (w : World) :
    Calls Try.prog 29 #[.int .u64 (bm N P : Nat), .int .u64 (bm N Q : Nat)] w fun e w' => e = .returned (.bool (decide (∀ i, i < N → P i = true → Q i = true))) ∧ w' = w := by
  go_enter Try.func29, Try.ntmps29
  go_wp2_with fail; refine (set_without hN P Q w).mono ?_; rintro _ _ ⟨rfl, rfl⟩; go_wp2_with fail; go_ret; (refine ⟨congrArg (fun b => Ending.returned (Value.bool b)) ?_, rfl⟩)
  have h : ((bm N fun i => P i && !Q i : Nat) : Int) = 0 ↔ ∀ i, i < N → P i = true → Q i = true := by
    rw [Int.natCast_eq_zero, bm_zero]; (refine forall_congr' fun i => forall_congr' fun _ => ?_)
    cases P i <;> cases Q i <;> simp
  rw [Bool.eq_iff_iff, beq_iff_eq, decide_eq_true_iff]; exact h
set_option maxHeartbeats 1000000 in
theorem set_has {N : Nat} (hN : N ≤ 40) (P : Nat → Bool) (n : Nat) (hn : n < N) (w : World) :
    Calls Try.prog 40 #[.int .u64 (bm N P : Nat), .int .i64 (n : Nat)] w fun e w' => e = .returned (.bool (P n)) ∧ w' = w := by
  have h := u64_has n (bm_small hN P); (have hnI : (n : Int) < 40 := by omega); rw [bm_bit, decide_eq_true hn, Bool.true_and] at h
  go_enter Try.func40, Try.ntmps40
  go_wp2_with fail; go_ret; exact ⟨rfl, rfl⟩
def hasE (ns : List Nat) (i : Nat) : Bool := ns.contains i
set_option maxHeartbeats 1000000 in
theorem set_with {N : Nat} (hN : N ≤ 40) (ns : List Nat) (P : Nat → Bool) (ad : Option Addr) (cp : Nat) (w : World) (hns : ∀ n ∈ ns, n < N) (hl : ns.length ≤ cp) (hcp : cp ≤ maxLen) (hc : ns ≠ [] → ∃ b off, ad = some ⟨b, off, none⟩ ∧ ∀ (j n : Nat), ns[j]? = some n → w.cell? ⟨b, off + j, none⟩ = some (.int .i64 (n : Nat))) :
    Calls Try.prog 62 #[.int .u64 (bm N P : Nat), .slice ad ns.length cp] w fun e w' => e = .returned (.int .u64 (bm N (fun i => P i || hasE ns i) : Nat)) ∧ w' = w := by
  (have hlI : (ns.length : Int) ≤ (cp : Int) := by omega); have HC : Hid (ns ≠ [] → ∃ b off, ad = some ⟨b, off, none⟩ ∧ ∀ (j n : Nat), ns[j]? = some n → w.cell? ⟨b, off + j, none⟩ = some (.int .i64 (n : Nat))) := hc; have HN : Hid (∀ n ∈ ns, n < N) := hns; have HN4 : Hid (N ≤ 40) := hN; (have hmx : (ns.length : Int) ≤ 9223372036854775807 := by unfold maxLen at hcp; omega); clear hc hns hl hcp hN
  go_enter Try.func62, Try.ntmps62
  go_wp2_with fail
  go_loopg [9, 0] ns.length (fun g c s wr => ∃ i x, i ≤ ns.length ∧ g = ns.length - i ∧ c = .int .i64 (i : Nat) ∧ s = .int .u64 (x : Nat) ∧ Hid (x = bm N fun k => P k || hasE (ns.take i) k) ∧ wr = w)
  case atStart => exact ⟨0, bm N P, by omega, by omega, rfl, rfl, by show _ = _; exact bm_ext fun k _ => by simp [hasE], rfl⟩
  case round =>
    obtain ⟨i, x, hi, hg, rfl, rfl, HX, rfl⟩ := hrel; have HGk : Hid (gk = ns.length - i) := hg; clear hg; by_cases hlt : i < ns.length
    · obtain ⟨n, hr⟩ : ∃ r, ns[i]? = some r := ⟨_, List.getElem?_eq_getElem hlt⟩
      have hnN := HN.out _ (List.mem_of_getElem? hr); have hN4 := HN4.out; (obtain ⟨b, off, rfl, hc⟩ := HC.out (fun e => by rw [e] at hlt; simp at hlt)); have c0 := hc i n hr; (have hltI : (i : Int) < (ns.length : Int) := by omega); (have hltc : (i : Int) < (cp : Int) := by omega); (have hnI : (n : Int) < 40 := by omega); (have hn2 : (2 : Int) ^ n = ((2 ^ n : Nat) : Int) := by simp); (have hpw : (2 : Nat) ^ n < 1099511627776 := Nat.lt_of_lt_of_le (Nat.pow_lt_pow_right (by omega) (by omega : n < 40)) (by decide)); obtain ⟨y, hy⟩ : ∃ y, y = x ||| 2 ^ n := ⟨_, rfl⟩
      have hor : bits .or .u64 (x : Nat) (IntKind.u64.wrap ((2 : Int) ^ n)) = (y : Int) := by
        (rw [hn2, wraps_u64 _ (Int.natCast_nonneg _) (by exact_mod_cast lt62 hpw), hy]); (exact u64_or (by rw [HX.out]; exact bm_small hN4 _) hpw)
      have HY : Hid (y = bm N fun k => P k || hasE (ns.take (i + 1)) k) := by
        show _ = _; rw [hy, HX.out, bm_with _ _ _ hnN]; (refine bm_ext fun k _ => ?_); rw [List.take_add_one, hr, Bool.or_assoc]
        congr 1
        rw [Bool.eq_iff_iff]; simp [hasE]
      have HI : Hid (i < ns.length) := hlt; clear hlt hi hc hr hn2 hpw hy hN4 hnN; go_wp2_with fail
      go_roundg (ns.length - (i + 1))
      case measure => have := HGk.out; have := HI.out; omega
      case rel => exact ⟨i + 1, y, HI.out, rfl, by go_num, rfl, HY, rfl⟩
    · have hii : i = ns.length := by omega
      subst hii; (have hge : ¬ (ns.length : Int) < (ns.length : Int) := by omega); rw [List.take_length] at HX; clear hlt hi; go_wp2_with fail; go_ret; (exact ⟨congrArg (fun x : Nat => Ending.returned (Value.int .u64 (x : Int))) HX.out, rfl⟩)
/-- One number more. -/
theorem set_with1 {N : Nat} (hN : N ≤ 40) (P : Nat → Bool) (n b : Nat) (hn : n < N) (w : World) (hc : w.cell? ⟨b, 0, none⟩ = some (.int .i64 (n : Nat))) :
    Calls Try.prog 62 #[.int .u64 (bm N P : Nat), .slice (some ⟨b, 0, none⟩) 1 1] w fun e w' => e = .returned (.int .u64 (bm N (fun i => P i || i == n) : Nat)) ∧ w' = w := by
  (refine (set_with hN [n] P (some ⟨b, 0, none⟩) 1 w (by simpa using hn) (by simp) (by decide) fun _ => ⟨b, 0, rfl, fun j m hj => ?_⟩).mono ?_)
  · match j, hj with
    | 0, hj =>
      simp at hj; subst hj
      exact hc
    | j + 1, hj => simp at hj
  · rintro _ _ ⟨rfl, rfl⟩
    (refine ⟨congrArg (fun x : Nat => Ending.returned (Value.int .u64 (x : Int))) (bm_ext fun i _ => ?_), rfl⟩); rw [Bool.eq_iff_iff]; simp [hasE]
end Go.Proofs.Ytmahgfgndfcmpah
