/- Texts of one proof, one behind the other: Read1. -/
import Derived.Test.YtfhbpfgbnfcdaagB10
/- Walks: the yardstick's Read. -/
namespace Go.Proofs.Ytfhbpfgbnfcdaag
open Go.RowKit

theorem Rep.up' {w w' : World} {ok : Nat → Prop} {f : Fm} {v : Value} (h : Rep w ok f v) (hb : Below w.heap.size w w') : Rep w' ok f v :=
  h.move fun b hb1 hb2 => ⟨hb.block b hb1, hb2⟩
end Go.Proofs.Ytfhbpfgbnfcdaag
