/- Texts of one proof, one behind the other: MLM, MLN. -/
import Derived.Test.YtmahgfgndfcmpagB30
import Derived.Test.YtmahgfgndfcmpagB04
import Derived.Deep.RegionLaw
import Derived.Deep.DeepCutAuto
import Derived.Test.YtmahgfgndfcmpagB01
/- The law ModlogChain, walked. -/
namespace Go.Proofs.Ytmahgfgndfcmpag
open Go.RowKit Go.Sort

open Classical in
/-- Whether a formula is true at all worlds of all of a logic's models. -/
noncomputable def vB (f : Fm) (i : Nat) : Bool := decide (ValidM i f)
theorem vB_iff {f : Fm} {i : Nat} : vB f i = true ↔ ValidM i f := by simp [vB]
noncomputable def isA (f : Fm) (n : Nat) : Array Value := ((List.range 9).map fun i => Value.bool (decide (1 ≤ i ∧ i < n) && vB f i)).toArray
end Go.Proofs.Ytmahgfgndfcmpag
/- The law ModlogRules, walked. -/
namespace Go.Proofs.Ytmahgfgndfcmpag
open Go.RowKit Go.Sort

/-- What Decide answers, in short. -/
def DecR (k : Int) (f : Fm) (e : Ending) : Prop := ∃ (b : Bool) (n : Int) (a1 : Option Addr) (n1 c1 : Nat) (a2 : Option Addr) (n2 c2 : Nat) (c d : Int), e = .returned (.tuple #[.bool b, .agg #[.int .i64 n, .slice a1 n1 c1, .slice a2 n2 c2], .agg #[.int .i64 c, .int .i64 d]]) ∧ (c = 0 → b = vB f k.toNat ∧ f.code = (0, 0))
theorem decide_short (k : Int) (f : Fm) (v : Value) (W : World) (h : Rep W (fun _ => True) f v) : Calls Try.prog 30 #[.int .i64 k, v] W fun e w' => DecR k f e ∧ Below W.heap.size W w' :=
  (decide_any k f v W h).mono fun e w' ⟨⟨b, m, c, d, he, ⟨n, a1, n1, c1, a2, n2, c2, hm⟩, h1, _⟩, hb⟩ => ⟨⟨b, n, a1, n1, c1, a2, n2, c2, c, d, by rw [he, hm], fun hc => ⟨by rw [Bool.eq_iff_iff, (h1 hc).2.2.2, vB_iff], (h1 hc).2.2.1⟩⟩, hb⟩
end Go.Proofs.Ytmahgfgndfcmpag
