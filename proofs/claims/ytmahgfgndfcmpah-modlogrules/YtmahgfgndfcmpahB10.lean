/- Texts of one proof, one behind the other: Each1, Count1, Tr3. -/
import Derived.Test.YtmahgfgndfcmpahB01
import Derived.Test.YtmahgfgndfcmpahB08
import Derived.Maps.OwnSet
import Derived.Maps.OwnOps
/- Walks: eachNode, whatever visits. -/
namespace Go.Proofs.Ytmahgfgndfcmpah
open Go.RowKit

theorem Fine.small {k : Int} {n : ByteArray} {ks : List Fm} (h : Fine (.mk k n ks)) : n.size ≤ 8 ∧ ks.length ≤ 2 := by
  rcases h.forms with ⟨m, e, hn⟩ | e | e | ⟨c, g, hk, e, hg⟩ | ⟨c, g, g', hk, e, hg, hg'⟩ <;> cases e
  · have := isNm_bd hn
    have e2 : n.data.toList.length = n.size := Array.length_toList; (exact ⟨by omega, by simp⟩)
  · exact ⟨by decide, by simp⟩
  · exact ⟨by decide, by simp⟩
  · exact ⟨by decide, by simp⟩
  · exact ⟨by decide, by simp⟩

end Go.Proofs.Ytmahgfgndfcmpah
/- Walks: how many nodes there are. -/
namespace Go.Proofs.Ytmahgfgndfcmpah
open Go.RowKit

def hasN (nm : ByteArray) : Fm → Bool
  | .mk k n _ => decide (k = 1) && decide (n.data.toList = nm.data.toList)

/-! With a formula of s nodes for a name. -/
end Go.Proofs.Ytmahgfgndfcmpah
/- Walks: plainFault; names' places in a map; what is asked of them. -/
namespace Go.Proofs.Ytmahgfgndfcmpah
open Go.RowKit Go.Maps Go.WideMaps

/-! A list of texts in memory, wherever it begins. -/
theorem zeroInt (w : World) : (zeroValue 3).run Try.prog w = .ok (.int .i64 0) w := by kernel_rfl
end Go.Proofs.Ytmahgfgndfcmpah
