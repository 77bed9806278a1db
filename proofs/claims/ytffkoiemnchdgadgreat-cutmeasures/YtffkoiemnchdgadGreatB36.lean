import Derived.Test.YtffkoiemnchdgadGreatB32
import Derived.Test.YtffkoiemnchdgadGreatB31
namespace Go.Proofs.YtffkoiemnchdgadGreat
open Go.RowKit
theorem QJa:∃ i,Tryz.prog.info? 3=some i∧i.zero=some (.int .i64 0)∧i.size=1∧i.bytes=8:=by
 (obtain⟨i,hi,h⟩:=Option.map_eq_some_iff.1 (show (Tryz.prog.info? 3).map (fun i=>(i.zero,i.size,i.bytes))=some (some (.int .i64 0),1,8) by kernel_rfl));simp only [Prod.mk.injEq] at h;exact⟨i,hi,h.1,h.2.1,h.2.2⟩
theorem QEs {B:Nat} {w w':World} {T:TypeId} {sz n:Nat} {v:Value} {cs:List Value} (h:w.ownsRow B T sz v n cs) (hb:∀ b,v.ownBlock=some b→w'.heap[b]? = w.heap[b]?):w'.ownsRow B T sz v n cs:=by
 obtain⟨h1,h2⟩:=h;refine⟨h1,?_⟩
 rcases h2 with h2|⟨g,cap,cur,hv,hg,hh,r⟩
 ·exact Or.inl h2
 ·exact Or.inr ⟨g,cap,cur,hv,hg,(hb g (by rw [hv];rfl)).trans hh,r⟩
theorem QGI {B B':Nat} {w:World} {T:TypeId} {sz n:Nat} {v:Value} {cs:List Value} (h:w.ownsRow B' T sz v n cs) (hB:B≤B'):w.ownsRow B T sz v n cs:=by
 obtain⟨h1,h2⟩:=h;refine⟨h1,?_⟩
 rcases h2 with h2|⟨g,cap,cur,hv,hg,hh,r⟩
 ·exact Or.inl h2
 ·exact Or.inr ⟨g,cap,cur,hv,Nat.le_trans hB hg,hh,r⟩
theorem KF.low {P:Nat→Prop} {B B':Nat} {w:World} {ad:Option Addr} {cap:Nat} {ps:List Pf} (h:KF P B' w ad cap ps) (hB:B≤B'):KF P B w ad cap ps:=by
 obtain⟨cs,ho,h1⟩:=h;exact⟨cs,QGI ho hB,h1⟩
theorem QCp {B:Nat} {w:World} {T:TypeId} {sz n cap:Nat} {ad:Option Addr} {cs:List Value} (h:w.ownsRow B T sz (.slice ad n cap) n cs) (hn:0 < n):∃ g,ad=some ⟨g,0,none⟩∧∀ j u,cs[j]? = some u→w.cell? ((⟨g,0,none⟩:Addr).add j)=some u:=by
 obtain⟨g,cap',hv,-⟩:=h.form hn;simp only [Value.slice.injEq,true_and] at hv;obtain⟨rfl,-⟩:=hv;(exact⟨g,rfl,fun j u hu=>h.cells rfl j u hu⟩)
theorem KF.keep {P:Nat→Prop} {B:Nat} {w w':World} {ad:Option Addr} {cap:Nat} {ps:List Pf} (h:KF P B w ad cap ps) (hb:∀ b,P b→b < w.heap.size→w'.heap[b]? = w.heap[b]?) (hg:∀ b,(Value.slice ad ps.length cap).ownBlock=some b→w'.heap[b]? = w.heap[b]?):KF P B w' ad cap ps:=by
 obtain⟨cs,ho,h3⟩:=h;(exact⟨cs,QEs ho hg,PQ.move (fun b hb1 hb2=>⟨hb b hb2.1 hb1,hb2⟩) h3⟩)
end Go.Proofs.YtffkoiemnchdgadGreat
