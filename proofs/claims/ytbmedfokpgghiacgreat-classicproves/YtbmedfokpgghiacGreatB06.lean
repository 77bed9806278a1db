import Derived.Test.YtbmedfokpgghiacGreatB01
import Derived.Maps.OwnSet
import Derived.Maps.OwnOps
import Derived.DeepKeys4
namespace Go.Proofs.YtbmedfokpgghiacGreat
open Go.RowKit Go.Maps
theorem QOc:laidOutB Tryz.prog=true:=by kernel_rfl
theorem QKS:Keyed Tryz.prog 158:=Keyed.of_law (deep_law_laid QOc (m:=3) (by omega) (of_decide_eq_true (by kernel_rfl)) (by kernel_rfl) (by kernel_rfl))
def QBi (k:Int) (n:List UInt8) (c a b:Int):List Lit:=[.int .i64 k,.string n,.int .i64 c,.int .i64 a,.int .i64 b]
theorem QKO (k:Int) (n:ByteArray) (c a b:Int) (hk:(Lit.int .i64 k).wf=true) (hc:(Lit.int .i64 c).wf=true) (ha:(Lit.int .i64 a).wf=true) (hb:(Lit.int .i64 b).wf=true) (hn:n.size≤maxLen) :
  keyOf Tryz.prog 158 (.agg #[.int .i64 k,.string n,.int .i64 c,.int .i64 a,.int .i64 b])=some (.string (keyBytes (QBi k n.data.toList c a b))):=by
 (have h1:Tryz.prog.keyType 158=true:=by kernel_rfl);(have h2:(Value.agg #[.int .i64 k,.string n,.int .i64 c,.int .i64 a,.int .i64 b]).formed Tryz.prog 158=true:=by kernel_rfl);(obtain⟨d,hd⟩:∃ d,Tryz.prog.types.size=d+2:=⟨Tryz.prog.types.size - 2,by kernel_rfl⟩);unfold keyOf;rw [Tryz.underlying158];simp only [h1,h2,hd];(have c1:Tryz.prog.cellsOf 3=1:=by kernel_rfl);(have c2:Tryz.prog.cellsOf 9=1:=by kernel_rfl);(have c3:Tryz.prog.cellsOf 67=2:=by kernel_rfl);(have c4:Tryz.prog.cellsOf 158=5:=by kernel_rfl);simp [Program.keyLits,Value.cells,QBi,Tryz.underlying158,Tryz.underlying3,Tryz.underlying9,Tryz.underlying67,c1,c2,c3,c4,hk,hc,ha,hb,hn,List.range,List.range.loop]
theorem QHW {k k':Int} {n n':List UInt8} {c c' a a' b b':Int} (hk:(Lit.int .i64 k).wf=true) (hc:(Lit.int .i64 c).wf=true) (ha:(Lit.int .i64 a).wf=true) (hb:(Lit.int .i64 b).wf=true) (hn:n.length≤maxLen) (hk':(Lit.int .i64 k').wf=true) (hc':(Lit.int .i64 c').wf=true) (ha':(Lit.int .i64 a').wf=true) (hb':(Lit.int .i64 b').wf=true) (hn':n'.length≤maxLen)
  (e:keyBytes (QBi k n c a b)=keyBytes (QBi k' n' c' a' b')):k=k'∧n=n'∧c=c'∧a=a'∧b=b':=by
 have h:=keyBytes_inj (l:=QBi k n c a b) (l':=QBi k' n' c' a' b') ⟨rfl,trivial,rfl,rfl,rfl,trivial⟩ (by
  intro x hx;simp [QBi] at hx
  rcases hx with rfl|rfl|rfl|rfl|rfl
  ·exact hk
  ·exact hn
  ·exact hc
  ·exact ha
  ·exact hb) (by
  intro x hx;simp [QBi] at hx
  rcases hx with rfl|rfl|rfl|rfl|rfl
  ·exact hk'
  ·exact hn'
  ·exact hc'
  ·exact ha'
  ·exact hb') e
 simpa [QBi] using h
end Go.Proofs.YtbmedfokpgghiacGreat
