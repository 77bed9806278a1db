import Derived.Test.YtffkoiemnchdgadGreatB32
import Derived.Test.YtffkoiemnchdgadGreatB31
namespace Go.Proofs.YtffkoiemnchdgadGreat
open Go.RowKit
theorem QDZ {a:Act} {n:Nat} {v:Value} (h:a.tmps[n]? = some v):a.eval (.tmp n)=v:=by
 simp [Act.eval,h]
end Go.Proofs.YtffkoiemnchdgadGreat
