import Derived.Test.YtbmedfokpgghiacGreatB39
namespace Go.Proofs.YtbmedfokpgghiacGreat
open Go.RowKit
theorem QIo {x:Fx} (ht:TabOk x.ps x.fs) (hpl:∀ n,n < x.fs.length→Pl (x.fs.getD n QAR)) (hL:x.L=2 * x.ps.length):QEv x:=fun i hi=>by
 (have hlt:i / 2 < x.ps.length:=by omega);have hp:=List.getElem?_eq_getElem hlt;(have hpl':=hpl (i / 2) (by rw [← ht.len];exact hlt));obtain⟨h1,h2⟩:=QDR ht hp hpl';(refine⟨h1,fun pr hpr=>⟨(h2 pr hpr).1,fun j hj => ?_⟩⟩);have:=(QDS ht hp hpl' pr hpr j hj).1;omega
theorem QMR {x:Fx} (ht:TabOk x.ps x.fs) (hpl:∀ n,n < x.fs.length→Pl (x.fs.getD n QAR)) (hL:x.L=2 * x.ps.length) (n:Nat):QFN x n:=by
 have hwl:=QIo ht hpl hL
 have hmu:∀ (wh:List Nat) (i:Nat) (pr:List Nat),wh.length=x.L→i < x.L→wh.getD i 0=1→pr∈(QAP x.ps i).2→x.mu (inF (wh.set i 2) pr).1+(QAP x.ps i).2.length≤x.mu wh:=fun wh i pr hlen hi h1 hpr=>by
  (have hlt:i / 2 < x.ps.length:=by omega);have hp:=List.getElem?_eq_getElem hlt;(exact QNb ht hp (hpl (i / 2) (by rw [← ht.len];exact hlt)) (by omega) h1 hpr fun j hj=>by rw [hlen];exact ((hwl i hi).2 pr hpr).2 j hj)
 have hov:∀ n,QES x n:=fun n=>by
  induction n with
  | zero=>exact fun w M wh br wk i _ _ _ _ _ h _=>absurd h (Nat.not_lt_zero _)
  | succ n ih=>exact QLT hwl (QGQ hwl ih) hmu
 exact QGQ hwl (hov n)
end Go.Proofs.YtbmedfokpgghiacGreat
