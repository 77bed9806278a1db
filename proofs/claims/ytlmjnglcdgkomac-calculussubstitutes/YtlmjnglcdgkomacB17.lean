/- Texts of one proof, one behind the other: PartsIn1. -/
import Derived.Test.YtlmjnglcdgkomacB13
import Derived.Test.YtlmjnglcdgkomacB12
import Derived.Test.YtlmjnglcdgkomacB14
/- Walks: the parts of a formula, as the yardstick tells them. -/
namespace Go.Proofs.Ytlmjnglcdgkomac
open Go.RowKit

theorem KP.list {P : Nat → Prop} {B : Nat} {w : World} {ad : Option Addr} {cap : Nat} {fs : List Fm} (h : KP P B w ad cap fs) (hPB : ∀ b, B ≤ b → P b) : FL w (.slice ad fs.length cap) fs :=
  (h.rep hPB 0 e0 (by decide)).all.kids

end Go.Proofs.Ytlmjnglcdgkomac
