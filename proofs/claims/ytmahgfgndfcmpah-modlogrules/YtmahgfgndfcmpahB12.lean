/- Texts of one proof, one behind the other: ME3. -/
import Derived.Test.YtmahgfgndfcmpahB05
import Derived.Test.YtmahgfgndfcmpahB08
/- Walks: frames; which worlds are such, by what they see. -/
namespace Go.Proofs.Ytmahgfgndfcmpah
open Go.RowKit

theorem set_with1x {N : Nat} (hN : N ≤ 40) (P : Nat → Bool) {x : Nat} (hx : x = bm N P) (n b : Nat) (hn : n < N) (w : World) (hc : w.cell? ⟨b, 0, none⟩ = some (.int .i64 (n : Nat))) :
    Calls Try.prog 62 #[.int .u64 (x : Nat), .slice (some ⟨b, 0, none⟩) 1 1] w fun e w' => e = .returned (.int .u64 (bm N (fun i => P i || i == n) : Nat)) ∧ w' = w := by
  rw [hx]; exact set_with1 hN P n b hn w hc
end Go.Proofs.Ytmahgfgndfcmpah
