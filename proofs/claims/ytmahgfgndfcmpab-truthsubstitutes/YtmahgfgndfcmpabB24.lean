/- Texts of one proof, one behind the other: TS1. -/
import Derived.Test.YtmahgfgndfcmpabB21
import Derived.Test.YtmahgfgndfcmpabB13
/- The plain mathematics of TruthSubstitutes: what is put for a name, and rows. -/
namespace Go.Proofs.Ytmahgfgndfcmpab
open Go.Sort

/-- Where a formula with g for a name is true. -/
def putP (nm : ByteArray) (g : Fm) (p : List UInt8 → Bool) (t : List UInt8) : Bool := if t = nm.data.toList then tv p g else p t

theorem tv_put (nm : ByteArray) (g : Fm) (p : List UInt8 → Bool) : ∀ (m : Nat) (f : Fm), f.size ≤ m → Fine f → tv p (putF nm g f) = tv (putP nm g p) f
  | 0, .mk k n ks, h, _ => by rw [Fm.size] at h; omega
  | m + 1, f, h, hf => by
    rcases hf.forms with ⟨n, rfl, hn⟩ | rfl | rfl | ⟨k, a, hk, rfl, ha⟩ | ⟨k, a, b, hk, rfl, ha, hb⟩
    · rw [putF, tv_name]
      unfold putP hasN; by_cases he : n.data.toList = nm.data.toList
      · simp [he]
      · simp only [he, decide_false, Bool.and_false, Bool.false_eq_true, if_false, putFs]
        rw [tv_name]
    · rw [putF, putFs]; simp only [hasN]; rfl
    · rw [putF, putFs]; simp only [hasN]; rfl
    · rw [size_one] at h
      (have h1 : ¬ k = 1 := by omega); (have ih := tv_put nm g p m a (by omega) ha); rw [putF, putFs, putFs, hasN]; simp only [h1, decide_false, Bool.false_and, Bool.false_eq_true, if_false]; rw [tv, tvs, tvs, tv, tvs, tvs, ih]
      rcases hk with rfl | rfl | rfl <;> rfl
    · rw [size_two] at h
      (have h1 : ¬ k = 1 := by omega); (have ih := tv_put nm g p m a (by omega) ha); (have ih' := tv_put nm g p m b (by omega) hb); rw [putF, putFs, putFs, putFs, hasN]; simp only [h1, decide_false, Bool.false_and, Bool.false_eq_true, if_false]; rw [tv, tvs, tvs, tvs, tv, tvs, tvs, tvs, ih, ih']
      rcases hk with rfl | rfl | rfl <;> rfl

/-- Each way for the names of a list to be true is a row. -/
theorem row_of : ∀ (n : Nat) (q : Nat → Bool), ∃ r, r < 2 ^ n ∧ ∀ i, i < n → r.testBit i = q i
  | 0, q => ⟨0, by simp, fun i h => absurd h (Nat.not_lt_zero _)⟩
  | n + 1, q => by
    obtain ⟨r, hr, hb⟩ := row_of n q
    cases hq : q n with
    | false =>
      (refine ⟨r, by rw [Nat.pow_succ]; omega, fun i hi => ?_⟩); by_cases h : i = n
      · subst h; rw [hq, Nat.testBit_lt_two_pow hr]
      · exact hb i (by omega)
    | true =>
      (refine ⟨2 ^ n + r, by rw [Nat.pow_succ]; omega, fun i hi => ?_⟩); by_cases h : i = n
      · subst h; rw [hq, Nat.testBit_two_pow_add_eq, Nat.testBit_lt_two_pow hr]; rfl
      · rw [Nat.testBit_two_pow_add_gt (by omega)]
        (exact hb i (by omega))

theorem row_with {l : List (List UInt8)} (hn : l.Nodup) (q : List UInt8 → Bool) : ∃ r, r < 2 ^ l.length ∧ ∀ t ∈ l, colP r l t = q t := by
  (obtain ⟨r, hr, hb⟩ := row_of l.length (fun i => q ((l[i]?).getD []))); (refine ⟨r, hr, fun t ht => ?_⟩); obtain ⟨i, hi, hit⟩ := List.getElem_of_mem ht; (have hg : l[i]? = some t := by rw [List.getElem?_eq_getElem hi, hit]); unfold colP; rw [if_pos ht, idxOf_of_get hn hg, hb i hi, hg]; rfl

/-- What is true in all rows is true however names are. -/
theorem isV_all {f : Fm} (hf : Fine f) (h : f.isV = true) (q : List UInt8 → Bool) : tv q f = true := by
  unfold Fm.isV at h; simp only [Bool.and_eq_true, decide_eq_true_eq] at h; obtain ⟨r, hr, hq⟩ := row_with (nmsU_nodup f) q; (have hc := tv_congr (colP r (nmsU f)) q f.size f (Nat.le_refl _) hf fun t ht => hq t ((nmsU_mem f t).2 ht))
  rcases hv : tv q f with _ | _
  · exfalso
    apply h.2; unfold colL; refine List.mem_map.2 ⟨r, List.mem_range.2 hr, ?_⟩; rw [hc, hv]
  · rfl

theorem isV_of {f : Fm} (hc : f.ncode.1 = 0) (h : ∀ q, tv q f = true) : f.isV = true := by
  unfold Fm.isV; rw [decide_eq_true hc, Bool.true_and]; (refine decide_eq_true fun hm => ?_); unfold colL at hm; obtain ⟨r, -, hr⟩ := List.mem_map.1 hm; rw [h] at hr
  cases hr

def Fm.iff (a b : Fm) : Fm := .mk 5 ⟨#[]⟩ [.mk 7 ⟨#[]⟩ [a, b], .mk 7 ⟨#[]⟩ [b, a]]
theorem tv_iff (q : List UInt8 → Bool) (a b : Fm) : tv q (a.iff b) = true ↔ tv q a = tv q b := by
  unfold Fm.iff; rw [tv_and, tv_then, tv_then]
  cases tv q a <;> cases tv q b <;> simp
theorem fine_iff {a b : Fm} (ha : Fine a) (hb : Fine b) : Fine (a.iff b) := fine_two 5 _ _ (by decide) (fine_two 7 _ _ (by decide) ha hb) (fine_two 7 _ _ (by decide) hb ha)

theorem subst_valid {f a : Fm} (nm : ByteArray) (hf : Fine f) (hc : (putF nm a f).ncode.1 = 0) (h : f.isV = true) : (putF nm a f).isV = true :=
  isV_of hc fun q => by rw [tv_put nm a q f.size f (Nat.le_refl _) hf]; exact isV_all hf h _

theorem subst_alike {f a b : Fm} (nm : ByteArray) (hf : Fine f) (ha : Fine a) (hb : Fine b) (hc : ((putF nm a f).iff (putF nm b f)).ncode.1 = 0) (h : (a.iff b).isV = true) : ((putF nm a f).iff (putF nm b f)).isV = true :=
  isV_of hc fun q => by
    rw [tv_iff, tv_put nm a q f.size f (Nat.le_refl _) hf, tv_put nm b q f.size f (Nat.le_refl _) hf]; have := (tv_iff q a b).1 (isV_all (fine_iff ha hb) h q); (refine tv_congr _ _ f.size f (Nat.le_refl _) hf fun t _ => ?_); unfold putP; rw [this]
end Go.Proofs.Ytmahgfgndfcmpab
