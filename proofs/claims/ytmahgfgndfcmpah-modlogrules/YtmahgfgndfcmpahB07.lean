/- Texts of one proof, one behind the other: Free7, KT1, MV1. -/
import Derived.Test.YtmahgfgndfcmpahB01
import Derived.Maps.OwnSet
import Derived.Maps.OwnOps
import Derived.DeepKeys4
/- A region that draws its order, whatever its operations write: what is known is told by a state of one's own that each operation moves on. -/
namespace Go.Proofs.Ytmahgfgndfcmpah
open Go.RowKit

theorem row_same {l m : List Value} {lo n : Nat} (h : ∀ t, lo ≤ t → t < lo + n → l[t]? = m[t]?) : (l.drop lo).take n = (m.drop lo).take n := by
  apply List.ext_getElem?; intro t
  rcases Nat.lt_or_ge t n with ht | ht
  · rw [List.getElem?_take_of_lt ht, List.getElem?_take_of_lt ht, List.getElem?_drop, List.getElem?_drop]
    (exact h _ (by omega) (by omega))
  · rw [List.getElem?_eq_none (by rw [List.length_take]; omega), List.getElem?_eq_none (by rw [List.length_take]; omega)]
/-- A frame behind a drawn region whose slots lie in two rows. -/
theorem frame_two {ops : Array Oper} {tm : Array Value} {df : List Deferred} {a0 : Act} (lo n mid n2 a1 a2 a3 : Nat) (e1 : lo + n = a1) (e2 : a1 + mid = a2) (e3 : a2 + n2 = a3) (hin : (ops.toList.all fun o => match o.dst with | some d => decide ((lo ≤ d ∧ a1 > d) ∨ (a2 ≤ d ∧ a3 > d)) | none => true) = true) (hlen : a3 ≤ a0.tmps.size) (h : OldSlots ops a0 ⟨tm, df⟩) : ∃ ys zs : List Value, ys.length = n ∧ zs.length = n2 ∧ tm = ⟨a0.tmps.toList.take lo ++ (ys ++ ((a0.tmps.toList.drop a1).take mid ++ (zs ++ a0.tmps.toList.drop a3)))⟩ ∧ df = a0.defers := by
  obtain ⟨h1, h2, h3⟩ := h; have h1' : tm.toList.length = a0.tmps.toList.length := h1; have hl : a3 ≤ a0.tmps.toList.length := hlen
  have old : ∀ t, (t < lo ∨ (a1 ≤ t ∧ t < a2) ∨ a3 ≤ t) → tm.toList[t]? = a0.tmps.toList[t]? := fun t ht => by
    have := h3 t (by
      rw [List.all_eq_true] at hin ⊢; intro o ho; have := hin o ho
      cases hd : o.dst with
      | none => rfl
      | some d =>
        rw [hd] at this; have := of_decide_eq_true this; (refine bne_iff_ne.2 fun e => ?_); have e2 : d = t := Option.some.inj e; subst e2
        omega)
    simpa using this
  (refine ⟨(tm.toList.drop lo).take n, (tm.toList.drop a2).take n2, by rw [List.length_take, List.length_drop]; omega, by rw [List.length_take, List.length_drop]; omega, ?_, h2⟩); apply Array.ext'
  have p1 : tm.toList.take lo = a0.tmps.toList.take lo := by
    (have := row_same (l := tm.toList) (m := a0.tmps.toList) (lo := 0) (n := lo) fun t _ ht => old t (by omega)); simpa using this
  (have p2 : (tm.toList.drop a1).take mid = (a0.tmps.toList.drop a1).take mid := row_same fun t h5 h6 => old t (by omega))
  have p3 : tm.toList.drop a3 = a0.tmps.toList.drop a3 := by
    (have := row_same (l := tm.toList) (m := a0.tmps.toList) (lo := a3) (n := tm.toList.length) fun t h5 _ => old t (by omega))
    rwa [List.take_of_length_le (by rw [List.length_drop]; omega), List.take_of_length_le (by rw [List.length_drop]; omega)] at this
  show tm.toList = _; rw [← p1, ← p2, ← p3]
  conv => lhs; rw [← List.take_append_drop lo tm.toList]
  congr 1
  conv => lhs; rw [← List.take_append_drop n (tm.toList.drop lo)]
  congr 1
  rw [List.drop_drop, e1]
  conv => lhs; rw [← List.take_append_drop mid (tm.toList.drop a1)]
  congr 1
  rw [List.drop_drop, e2]
  conv => lhs; rw [← List.take_append_drop n2 (tm.toList.drop a2)]
  congr 1
  rw [List.drop_drop, e3]
end Go.Proofs.Ytmahgfgndfcmpah
/- Parts as keys of a map. -/
namespace Go.Proofs.Ytmahgfgndfcmpah
open Go.RowKit Go.Maps

theorem laidP : laidOutB Try.prog = true := by kernel_rfl
theorem partLaw : Keyed Try.prog 78 := Keyed.of_law (deep_law_laid laidP (m := 3) (by omega) (of_decide_eq_true (by kernel_rfl)) (by kernel_rfl) (by kernel_rfl))
def partLits (k : Int) (n : List UInt8) (c a b : Int) : List Lit := [.int .i64 k, .string n, .int .i64 c, .int .i64 a, .int .i64 b]
theorem keyPart (k : Int) (n : ByteArray) (c a b : Int) (hk : (Lit.int .i64 k).wf = true) (hc : (Lit.int .i64 c).wf = true) (ha : (Lit.int .i64 a).wf = true) (hb : (Lit.int .i64 b).wf = true) (hn : n.size ≤ maxLen) :
    keyOf Try.prog 78 (.agg #[.int .i64 k, .string n, .int .i64 c, .int .i64 a, .int .i64 b]) = some (.string (keyBytes (partLits k n.data.toList c a b))) := by
  (have h1 : Try.prog.keyType 78 = true := by kernel_rfl); (have h2 : (Value.agg #[.int .i64 k, .string n, .int .i64 c, .int .i64 a, .int .i64 b]).formed Try.prog 78 = true := by kernel_rfl); (obtain ⟨d, hd⟩ : ∃ d, Try.prog.types.size = d + 2 := ⟨Try.prog.types.size - 2, by kernel_rfl⟩); unfold keyOf; rw [Try.underlying78]; simp only [h1, h2, hd]; (have c1 : Try.prog.cellsOf 3 = 1 := by kernel_rfl); (have c2 : Try.prog.cellsOf 9 = 1 := by kernel_rfl); (have c3 : Try.prog.cellsOf 42 = 2 := by kernel_rfl); (have c4 : Try.prog.cellsOf 78 = 5 := by kernel_rfl); simp [Program.keyLits, Value.cells, partLits, Try.underlying78, Try.underlying3, Try.underlying9, Try.underlying42, c1, c2, c3, c4, hk, hc, ha, hb, hn, List.range, List.range.loop]
theorem partLits_inj {k k' : Int} {n n' : List UInt8} {c c' a a' b b' : Int} (hk : (Lit.int .i64 k).wf = true) (hc : (Lit.int .i64 c).wf = true) (ha : (Lit.int .i64 a).wf = true) (hb : (Lit.int .i64 b).wf = true) (hn : n.length ≤ maxLen) (hk' : (Lit.int .i64 k').wf = true) (hc' : (Lit.int .i64 c').wf = true) (ha' : (Lit.int .i64 a').wf = true) (hb' : (Lit.int .i64 b').wf = true) (hn' : n'.length ≤ maxLen)
    (e : keyBytes (partLits k n c a b) = keyBytes (partLits k' n' c' a' b')) : k = k' ∧ n = n' ∧ c = c' ∧ a = a' ∧ b = b' := by
  have h := keyBytes_inj (l := partLits k n c a b) (l' := partLits k' n' c' a' b') ⟨rfl, trivial, rfl, rfl, rfl, trivial⟩ (by
    intro x hx; simp [partLits] at hx
    rcases hx with rfl | rfl | rfl | rfl | rfl
    · exact hk
    · exact hn
    · exact hc
    · exact ha
    · exact hb) (by
    intro x hx; simp [partLits] at hx
    rcases hx with rfl | rfl | rfl | rfl | rfl
    · exact hk'
    · exact hn'
    · exact hc'
    · exact ha'
    · exact hb') e
  simpa [partLits] using h
end Go.Proofs.Ytmahgfgndfcmpah
/- Where a formula is true at worlds, plain: boxes and diamonds. -/
namespace Go.Proofs.Ytmahgfgndfcmpah

/-- A node of a formula at a world, by what its kids are there and elsewhere: boxes and diamonds. -/
def mval (S : Nat → List Nat) (k : Int) (pn : Nat → Bool) (l : List (Nat → Bool)) (u : Nat) : Bool :=
  if k = 1 then pn u else if k = 4 then !(l.getD 0 (fun _ => false) u) else if k = 5 then l.getD 0 (fun _ => false) u && l.getD 1 (fun _ => false) u else if k = 6 then l.getD 0 (fun _ => false) u || l.getD 1 (fun _ => false) u else if k = 7 then !(l.getD 0 (fun _ => false) u) || l.getD 1 (fun _ => false) u else if k = 8 then (S u).all (l.getD 0 fun _ => false) else if k = 9 then (S u).any (l.getD 0 fun _ => false) else decide (k = 2)
mutual
def mtv (S : Nat → List Nat) (p : Nat → List UInt8 → Bool) : Fm → Nat → Bool
  | .mk k n ks => mval S k (fun u => p u n.data.toList) (mtvs S p ks)
def mtvs (S : Nat → List Nat) (p : Nat → List UInt8 → Bool) : List Fm → List (Nat → Bool)
  | [] => []
  | f :: fs => mtv S p f :: mtvs S p fs
end
theorem mtv_not (S : Nat → List Nat) (p : Nat → List UInt8 → Bool) (f : Fm) (n : ByteArray) : mtv S p (.mk 4 n [f]) = fun u => !mtv S p f u := by
  funext u; rw [mtv, mtvs, mtvs]; rfl
theorem mtv_and (S : Nat → List Nat) (p : Nat → List UInt8 → Bool) (f g : Fm) (n : ByteArray) : mtv S p (.mk 5 n [f, g]) = fun u => mtv S p f u && mtv S p g u := by
  funext u; rw [mtv, mtvs, mtvs, mtvs]; rfl
theorem mtv_or (S : Nat → List Nat) (p : Nat → List UInt8 → Bool) (f g : Fm) (n : ByteArray) : mtv S p (.mk 6 n [f, g]) = fun u => mtv S p f u || mtv S p g u := by
  funext u; rw [mtv, mtvs, mtvs, mtvs]; rfl
theorem mtv_then (S : Nat → List Nat) (p : Nat → List UInt8 → Bool) (f g : Fm) (n : ByteArray) : mtv S p (.mk 7 n [f, g]) = fun u => !mtv S p f u || mtv S p g u := by
  funext u; rw [mtv, mtvs, mtvs, mtvs]; rfl
theorem mtv_box (S : Nat → List Nat) (p : Nat → List UInt8 → Bool) (f : Fm) (n : ByteArray) : mtv S p (.mk 8 n [f]) = fun u => (S u).all (mtv S p f) := by
  funext u; rw [mtv, mtvs, mtvs]; rfl
theorem mtv_dia (S : Nat → List Nat) (p : Nat → List UInt8 → Bool) (f : Fm) (n : ByteArray) : mtv S p (.mk 9 n [f]) = fun u => (S u).any (mtv S p f) := by
  funext u; rw [mtv, mtvs, mtvs]; rfl
end Go.Proofs.Ytmahgfgndfcmpah
