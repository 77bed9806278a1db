/- Texts of one proof, one behind the other: MAF. -/
import Derived.Test.YtclinobfbdljhahB32
import Derived.Test.YtclinobfbdljhahB35
import Derived.Test.YtclinobfbdljhahB34
import Derived.Test.YtclinobfbdljhahB30
import Derived.Test.YtclinobfbdljhahB31
/- Walks: at which worlds a formula is true, by the yardstick. -/
namespace Go.Proofs.Ytclinobfbdljhah
open Go.RowKit Go.Sort

theorem allR_step (N : Nat) (hN1 : 0 < N) (hN : N ≤ 40) (rel : List (Int × Int)) (hrl : rel.length ≤ 2000) (hin : InR N rel) (tr : List (List (List UInt8))) (htr : tr.length = N) (m : Nat) (ih : AllR N rel tr m) : AllR N rel tr (m + 1) := by
  intro f v u w hm hfi hv hrep
  rcases hfi.forms with ⟨n, rfl, -⟩ | rfl | rfl | ⟨k, q, hk, rfl, -⟩ | ⟨k, q, q', hk, rfl, -, -⟩
  · exact allR_A N hN1 hN rel hrl hin tr htr m ih _ _ _ (Or.inl rfl) hm hfi v u w hv hrep
  · exact allR_A N hN1 hN rel hrl hin tr htr m ih _ _ _ (Or.inr (Or.inl rfl)) hm hfi v u w hv hrep
  · exact allR_A N hN1 hN rel hrl hin tr htr m ih _ _ _ (Or.inr (Or.inr rfl)) hm hfi v u w hv hrep
  · rcases hk with h | h | h
    · exact allR_B N hN1 hN rel hrl hin tr htr m ih _ _ _ h hm hfi v u w hv hrep
    · exact allR_D N hN1 hN rel hrl hin tr htr m ih _ _ _ h hm hfi v u w hv hrep
    · exact allR_E N hN1 hN rel hrl hin tr htr m ih _ _ _ h hm hfi v u w hv hrep
  · exact allR_C N hN1 hN rel hrl hin tr htr m ih _ _ _ hk hm hfi v u w hv hrep
theorem allRs_all (N : Nat) (hN1 : 0 < N) (hN : N ≤ 40) (rel : List (Int × Int)) (hrl : rel.length ≤ 2000) (hin : InR N rel) (tr : List (List (List UInt8))) (htr : tr.length = N) : ∀ m, AllR N rel tr m
  | 0 => fun _ _ _ _ h => absurd h (Nat.not_lt_zero _)
  | m + 1 => allR_step N hN1 hN rel hrl hin tr htr m (allRs_all N hN1 hN rel hrl hin tr htr m)
theorem allAt_any (N : Nat) (hN1 : 0 < N) (hN : N ≤ 40) (rel : List (Int × Int)) (hrl : rel.length ≤ 2000) (hin : InR N rel) (tr : List (List (List UInt8))) (htr : tr.length = N) (f : Fm) (v u : Value) (w : World) (hf : Fine f) (hv : MR w ⟨(N : Int), rel, tr⟩ v) (hu : Rep w (fun _ => True) f u) :
    Calls Try.prog 24 #[v, u] w fun e w' => ∃ g, e = .returned (.slice (some ⟨g, 0, none⟩) N N) ∧ w.heap.size ≤ g ∧ w'.heap[g]? = some (.cells (outC N N (mtv (seeR N (relB rel)) (pT tr) f)) 4 (0, 0)) ∧ Below w.heap.size w w' :=
  allRs_all N hN1 hN rel hrl hin tr htr (f.size + 1) f v u w (Nat.lt_succ_self _) hf hv hu
end Go.Proofs.Ytclinobfbdljhah
