import Derived.Test.YtbmedfokpgghiacGreatB40
import Derived.Test.YtbmedfokpgghiacGreatB41
import Derived.Test.YtbmedfokpgghiacGreatB18
namespace Go.Proofs.YtbmedfokpgghiacGreat
open Go.RowKit
theorem QFk:∀ {l is:List Nat},l.Nodup→(∀ x∈l,x∈is)→l.length≤is.length
 | [],_,_,_=>Nat.zero_le _
 | x :: l,is,hn,hs=>by
  have hx:=hs x (List.mem_cons_self ..);(have ih:=QFk (l:=l) (is:=is.erase x) (List.nodup_cons.1 hn).2 fun y hy=>(List.mem_erase_of_ne (fun e=>(List.nodup_cons.1 hn).1 (by rw [← e];exact hy))).2 (hs y (List.mem_cons_of_mem _ hy)));have h1:=List.length_erase_of_mem hx;have h2:=List.length_pos_of_mem hx;rw [List.length_cons];omega
theorem QMS:∀ f:Fm,1≤f.size
 | .mk k n ks=>by rw [Fm.size];omega
theorem QFD:∀ (ks:List Pf) (p:Pf),Pf.sizes (ks++[p])=Pf.sizes ks+p.size
 | [],p=>by rw [List.nil_append,Pf.sizes,Pf.sizes,Pf.sizes];omega
 | k :: ks,p=>by rw [List.cons_append,Pf.sizes,Pf.sizes,QFD ks p];omega
theorem QNJ {r m m':Nat} (h1:1≤r) (h2:r≤2) (h:m'+r≤m):1+r * Bs m'≤Bs m:=by
 rcases (by omega:r=1∨r=2) with rfl|rfl
 ·have:=QNv h
  omega
 ·exact QNw h
structure Cnt (m r st nd j st' nd':Nat):Prop where
 steps:st'≤st+1+j * Bs (m - r)
 nodes:nd'≤nd+m+j * (Bs (m - r) * (m - r))
theorem Cnt.zero (m r st nd:Nat):Cnt m r st nd 0 (st+1) (nd+m):=⟨by omega,by omega⟩
theorem Cnt.more {m r st nd j st' nd' st2 nd2 m':Nat} (h:Cnt m r st nd j st' nd') (hm:m'+r≤m) (h1:st2≤st'+Bs m') (h2:nd2≤nd'+Bs m' * m'):Cnt m r st nd (j+1) st2 nd2:=by
 (have e1:Bs m'≤Bs (m - r):=QDu (by omega));(have e2:Bs m' * m'≤Bs (m - r) * (m - r):=Nat.mul_le_mul e1 (by omega));have:=h.steps;have:=h.nodes;refine⟨?_,?_⟩
 ·rw [Nat.add_mul,Nat.one_mul]
  omega
 ·rw [Nat.add_mul,Nat.one_mul]
  omega
theorem QLv {m r:Nat} (h2:r≤2) (h:r≤m):1+r * Bs (m - r)≤Bs m∧m+r * (Bs (m - r) * (m - r))≤Bs m * m:=by
 have h0:1+r * Bs (m - r)≤Bs m:=by
  rcases Nat.eq_zero_or_pos r with h1|h1
  ·subst h1
   have:=QLx m;omega
  ·exact QNJ h1 h2 (by omega)
 refine⟨h0,?_⟩
 have e3:r * (Bs (m - r) * (m - r))≤r * Bs (m - r) * m:=by
  rw [← Nat.mul_assoc];(exact Nat.mul_le_mul_left _ (by omega))
 have e4:(1+r * Bs (m - r)) * m≤Bs m * m:=Nat.mul_le_mul_right _ h0;rw [Nat.add_mul,Nat.one_mul] at e4;omega
theorem Cnt.last {m r st nd st' nd':Nat} (h:Cnt m r st nd r st' nd') (h2:r≤2) (hr:r≤m):st'≤st+Bs m∧nd'≤nd+Bs m * m:=by
 obtain⟨e1,e2⟩:=QLv h2 hr;have:=h.steps;have:=h.nodes;omega
theorem Cnt.fits {m r st nd j st' nd' m' deep:Nat} (h:Cnt m r st nd j st' nd') (hj:j < r) (h2:r≤2) (hm:m'+r≤m) (g1:st+Bs m≤20000) (g2:deep+m≤400) (g3:m≤60) (g4:nd+Bs m * m≤2097152):st'+Bs m'≤20000∧deep+1+m'≤400∧m'≤60∧nd'+Bs m' * m'≤2097152:=by
 (have e1:Bs m'≤Bs (m - r):=QDu (by omega));(have e2:Bs m' * m'≤Bs (m - r) * (m - r):=Nat.mul_le_mul e1 (by omega));(obtain⟨e3,e4⟩:=QLv (m:=m) h2 (by omega));have h3:=h.steps;have h4:=h.nodes;have h5:(j+1) * Bs (m - r)≤r * Bs (m - r):=Nat.mul_le_mul_right _ hj;have h6:(j+1) * (Bs (m - r) * (m - r))≤r * (Bs (m - r) * (m - r)):=Nat.mul_le_mul_right _ hj;rw [Nat.add_mul,Nat.one_mul] at h5 h6;omega
def Roomy (m st nd deep:Nat):Prop:=st+Bs m≤20000∧deep+m≤400∧m≤60∧nd+Bs m * m≤2097152
theorem Roomy.one {m st nd deep:Nat} (h:Roomy m st nd deep) {l:Nat} (hl:l≤m):st+1≤20000∧deep≤400∧l≤60∧nd+m≤2097152:=by
 obtain⟨h1,h2,h3,h4⟩:=h;have e:=QLx m;have e2:1 * m≤Bs m * m:=Nat.mul_le_mul_right _ e;omega
def QFR (x:Fx) (w:World) (bz:Nat) (lean:Bool) (st nd deep:Nat) (p:Plan) (is:List Nat) (e:Ending) (w':World):Prop :=
 ∃ (P:Pf) (pv:Value) (fits:Bool) (st' nd':Nat),e = .returned (.tuple #[pv,.bool fits])∧PRp (w.heap.size≤·) w' P pv∧WrSt x w' bz lean st' nd'∧Kept (fun b=>b≠bz) w w' ∧
  (fits=true→WPf x.ps x.fs deep p is P∧st'=st+P.size∧st'≤20000∧nd'≤2097152∧(lean=false→st'≤st+Bs (x.nods is)∧nd'≤nd+Bs (x.nods is) * x.nods is))∧(fits=false→lean=false→¬ Roomy (x.nods is) st nd deep)
def QDx (lean:Bool) (p:Plan) (is:List Nat):Bool:=lean && decide (0 < p.kids.length) && decide (p.needs.length < is.length)
def QFQ (x:Fx) (b:Bool) (p:Plan):Prop:=∀ (w:World) (bz:Nat) (lean:Bool) (st nd deep:Nat) (is:List Nat) (pv v:Value),WrSt x w bz lean st nd→PlanR (fun b=>b≠bz) w p pv→IRow (fun b=>b≠bz) w v is→(∀ i∈is,i < x.L)→(∀ y∈p.needs,y∈is)→is.length≤100→st≤20000→nd≤2097152→deep≤401→(b=false→QDx lean p is=false) →
 Calls Tryz.prog 103 #[.pointer (some ⟨bz,0,none⟩),pv,v,.int .i64 (deep:Nat)] w (QFR x w bz lean st nd deep p is)
theorem QFM (w:World) (B:Nat):PRp (B≤·) w (.mk ⟨#[]⟩ (.mk 0 ⟨#[]⟩ []) [] [] []) (.agg #[.string ⟨#[]⟩,.int .i64 0,.string ⟨#[]⟩,.slice none 0 0,.slice none 0 0,.slice none 0 0,.slice none 0 0]):=by
 rw [PRp.def];(refine⟨.int .i64 0,.string ⟨#[]⟩,.slice none 0 0,.slice none 0 0,.slice none 0 0,none,0,rfl,by unfold maxLen;decide,Rep.leaf (by simp [maxLen,ByteArray.size]),⟨none,0,rfl,Nat.le_refl _,by unfold maxLen;omega,fun h=>absurd rfl h⟩,⟨none,0,rfl,Nat.le_refl _,by unfold maxLen;omega,fun h=>absurd rfl h⟩,Nat.le_refl _,by unfold maxLen;omega,fun h=>absurd rfl h⟩)
end Go.Proofs.YtbmedfokpgghiacGreat
