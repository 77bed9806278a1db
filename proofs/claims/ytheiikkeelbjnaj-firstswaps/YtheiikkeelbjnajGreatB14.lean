/- Texts of one proof, one behind the other: FS1. -/
import Derived.Test.YtheiikkeelbjnajGreatB09
import Derived.Test.YtheiikkeelbjnajGreatB07
/- Walks: the yardstick's SameWord. -/
namespace Go.Proofs.YtheiikkeelbjnajGreat
open Go.RowKit

theorem wsize_get : ∀ {l : List Wd} {i : Nat} {x : Wd}, l[i]? = some x → x.size ≤ Wd.sizes l
  | [], _, _, h => by simp at h
  | y :: l, 0, x, h => by
    simp at h; subst h; simp only [Wd.sizes]
    omega
  | y :: l, i + 1, x, h => by
    simp at h; have := wsize_get h; simp only [Wd.sizes]; omega
end Go.Proofs.YtheiikkeelbjnajGreat
