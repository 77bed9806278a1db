import Derived.Test.YtffkoiemnchdgadGreatB26
import Derived.Test.YtffkoiemnchdgadGreatB06
import Derived.Test.YtffkoiemnchdgadGreatB30
namespace Go.Proofs.YtffkoiemnchdgadGreat
open Go.RowKit
theorem QAH {n:Nat} {l:List Value} (h:l.length=n+1):∃ v t,l=v :: t∧t.length=n:=by
 cases l with
 | nil=>cases h
 | cons v t=>exact⟨v,t,rfl,by simpa using h⟩
def tEq (x:Value):QDJ:=fun v _ _=>v=x
theorem QIb (x:Value):QDu (tEq x):=fun _ _ _ _ _ h _ _=>h
theorem KF.rep {P:Nat→Prop} {B:Nat} {w:World} {ad:Option Addr} {cap:Nat} {ps:List Pf} (h:KF P B w ad cap ps) (hPB:∀ b,B≤b→P b):ps.length≤cap∧cap≤maxLen∧(ps≠[]→∃ b off,ad=some ⟨b,off,none⟩∧P b∧PRps P w b off ps):=by
 obtain⟨cs,hown,hlq⟩:=h
 rcases hown.2 with ⟨hv,h0⟩|⟨g,cp,cur,hv,hg,hh,h1,h2,-⟩
 ·simp only [Value.slice.injEq] at hv
  obtain⟨rfl,-,rfl⟩:=hv;(exact⟨by omega,by simp,fun hne=>absurd (List.length_eq_zero_iff.1 h0) hne⟩)
 ·simp only [Value.slice.injEq,true_and] at hv
  obtain⟨rfl,rfl⟩:=hv;(refine⟨h1,h2,fun _=>⟨g,0,rfl,hPB g hg,?_⟩⟩)
  exact (PQ.move (P':=P) (fun b _ hb=>⟨rfl,hb.1⟩) hlq).reps (b:=g) 0 fun j u hu=>by
   have:=hown.cells (g:=g) rfl j u hu;rw [QAn] at this;exact this
theorem QKB:∃ i,Tryz.prog.info? 31=some i∧i.zero=some (.agg #[.string ⟨#[]⟩,.int .i64 0,.string ⟨#[]⟩,.slice none 0 0,.slice none 0 0,.slice none 0 0,.slice none 0 0])∧i.size=7∧i.bytes=136:=by
 (obtain⟨i,hi,h⟩:=Option.map_eq_some_iff.1 (show (Tryz.prog.info? 31).map (fun i=>(i.zero,i.size,i.bytes))=some (some (.agg #[.string ⟨#[]⟩,.int .i64 0,.string ⟨#[]⟩,.slice none 0 0,.slice none 0 0,.slice none 0 0,.slice none 0 0]),7,136) by kernel_rfl));simp only [Prod.mk.injEq] at h;exact⟨i,hi,h.1,h.2.1,h.2.2⟩
end Go.Proofs.YtffkoiemnchdgadGreat
