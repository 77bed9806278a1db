import Derived.Test.YtbmedfokpgghiacGreatB14
import Derived.Test.YtbmedfokpgghiacGreatB19
import Derived.Test.YtbmedfokpgghiacGreatB20
import Derived.Test.YtbmedfokpgghiacGreatB06
import Derived.Test.YtbmedfokpgghiacGreatB18
import Derived.Test.YtbmedfokpgghiacGreatB11
import Derived.Test.YtbmedfokpgghiacGreatB15
import Derived.Test.YtbmedfokpgghiacGreatB12
import Derived.Deep.AppendLies
import Derived.Test.YtbmedfokpgghiacGreatB05
import Derived.Test.YtbmedfokpgghiacGreatB09
namespace Go.Proofs.YtbmedfokpgghiacGreat
inductive Pl:Fm→Prop
 | var (n:ByteArray) (h:QBt n.data.toList=true):Pl (.mk 1 n [])
 | tru:Pl (.mk 2 ⟨#[]⟩ [])
 | fls:Pl (.mk 3 ⟨#[]⟩ [])
 | not (f:Fm) (h:Pl f):Pl (.mk 4 ⟨#[]⟩ [f])
 | bin (k:Int) (f g:Fm) (hk:k=5∨k=6∨k=7) (h1:Pl f) (h2:Pl g):Pl (.mk k ⟨#[]⟩ [f,g])
theorem QKT:∀ (n:Nat) (f:Fm),f.size < n→Fine f→(∀ g∈QBx f,isM g.kind=false)→Pl f
 | 0,f,h,_,_=>by omega
 | n+1,f,h,hf,hm=>by
  rcases hf.forms with ⟨m,rfl,hn⟩|rfl|rfl|⟨k,g,hk,rfl,hg⟩|⟨k,g,g',hk,rfl,hg,hg'⟩
  ·exact Pl.var m hn
  ·exact Pl.tru
  ·exact Pl.fls
  ·have h0:=hm (.mk k ⟨#[]⟩ [g]) (by rw [QBx];exact List.mem_cons_self)
   rw [show isM (Fm.mk k ⟨#[]⟩ [g]).kind=(decide (k=8) || decide (k=9)) from rfl] at h0
   have hk4:k=4:=by
    rcases hk with rfl|rfl|rfl
    ·rfl
    ·cases h0
    ·cases h0
   subst hk4;rw [Fm.size,Fm.sizes,Fm.sizes] at h;(exact Pl.not g (QKT n g (by omega) hg fun x hx=>hm x (by rw [QBx,allNs,allNs,List.append_nil];exact List.mem_cons_of_mem _ hx)))
  ·rw [Fm.size,Fm.sizes,Fm.sizes,Fm.sizes] at h
   (exact Pl.bin k g g' hk (QKT n g (by omega) hg fun x hx=>hm x (by rw [QBx,allNs,allNs,allNs,List.append_nil];exact List.mem_cons_of_mem _ (List.mem_append_left _ hx))) (QKT n g' (by omega) hg' fun x hx=>hm x (by rw [QBx,allNs,allNs,allNs,List.append_nil];exact List.mem_cons_of_mem _ (List.mem_append_right _ hx))))
theorem QIY {f:Fm} (h:f.pcode.1=0):Pl f:=by
 obtain⟨-,hp,-⟩:=QDN h;exact QKT (f.size+1) f (Nat.lt_succ_self _) (QAs h).1 ((QEY _ _).1 hp)
structure PartM where
 kind:Int
 name:ByteArray
 kids:List Nat
 deriving DecidableEq
def PartM.fm (fs:List Fm) (p:PartM):Fm := .mk p.kind p.name (p.kids.map fun j=>fs.getD j QAR)
structure TabOk (ps:List PartM) (fs:List Fm):Prop where
 len:ps.length=fs.length
 nodup:fs.Nodup
 at':∀ (n:Nat) (p:PartM),ps[n]? = some p→(∀ j∈p.kids,j < n)∧fs[n]? = some (p.fm fs)
theorem TabOk.nil:TabOk [] []:=⟨rfl,List.nodup_nil,fun n p h=>by simp at h⟩
theorem QBd {fs:List Fm} {j:Nat} (h:j < fs.length):fs[j]? = some (fs.getD j QAR):=by
 rw [List.getD_eq_getElem?_getD,List.getElem?_eq_getElem h];rfl
theorem QEr {fs:List Fm} (h:fs.Nodup) {i j:Nat} (hi:i < fs.length) (hj:j < fs.length) (e:fs.getD i QAR=fs.getD j QAR):i=j:=by
 have h1:=QBd hi;have h2:=QBd hj;rw [e,← h2] at h1;exact (List.getElem?_inj hi h).1 h1
theorem QIG {fs:List Fm} (h:fs.Nodup):∀ {a b:List Nat},(∀ j∈a,j < fs.length)→(∀ j∈b,j < fs.length)→(a.map fun j=>fs.getD j QAR)=(b.map fun j=>fs.getD j QAR)→a=b
 | [],[],_,_,_=>rfl
 | [],_ :: _,_,_,e=>by simp at e
 | _ :: _,[],_,_,e=>by simp at e
 | x :: a,y :: b,h1,h2,e=>by
  rw [List.map_cons,List.map_cons] at e
  injection e with e1 e2
  (rw [QEr h (h1 x List.mem_cons_self) (h2 y List.mem_cons_self) e1,QIG h (fun j hj=>h1 j (List.mem_cons_of_mem _ hj)) (fun j hj=>h2 j (List.mem_cons_of_mem _ hj)) e2])
theorem TabOk.found {ps:List PartM} {fs:List Fm} (h:TabOk ps fs) {p:PartM} {n:Nat} (hn:ps[n]? = some p):fs[n]? = some (p.fm fs):=(h.at' n p hn).2
theorem TabOk.fresh {ps:List PartM} {fs:List Fm} (h:TabOk ps fs) {p:PartM} (hk:∀ j∈p.kids,j < fs.length) (hn:p ∉ ps):p.fm fs ∉ fs:=by
 intro hm;obtain⟨n,hn'⟩:=List.getElem?_of_mem hm;(have hlt:n < ps.length:=by rw [h.len];exact (List.getElem?_eq_some_iff.1 hn').1);have hp:=List.getElem?_eq_getElem hlt;obtain⟨hq,hf⟩:=h.at' n _ hp;rw [hn'] at hf;have e:=Option.some.inj hf;unfold PartM.fm at e
 injection e with e1 e2 e3
 (have e4:=QIG h.nodup hk (fun j hj=>by have:=hq j hj;rw [← h.len];omega) e3)
 have e5:p=ps[n]:=by
  cases p
  cases hps:ps[n]
  rw [hps] at e1 e2 e4;simp only at e1 e2 e4;rw [e1,e2,e4]
 exact hn (e5 ▸ List.getElem_mem hlt)
theorem QKK {fs gs:List Fm} {p:PartM} (hk:∀ j∈p.kids,j < fs.length):p.fm (fs++gs)=p.fm fs:=by
 unfold PartM.fm
 congr 1
 (refine List.map_congr_left fun j hj => ?_);rw [List.getD_eq_getElem?_getD,List.getD_eq_getElem?_getD,List.getElem?_append_left (hk j hj)]
theorem TabOk.snoc {ps:List PartM} {fs:List Fm} (h:TabOk ps fs) {p:PartM} (hk:∀ j∈p.kids,j < fs.length) (hn:p ∉ ps):TabOk (ps++[p]) (fs++[p.fm fs]):=by
 (refine⟨by simp [h.len],?_,fun n q hq => ?_⟩)
 ·rw [List.nodup_append]
  (refine⟨h.nodup,by simp,fun a ha b hb => ?_⟩);simp at hb;subst hb;(exact fun e=>h.fresh hk hn (e ▸ ha))
 ·rcases Nat.lt_or_ge n ps.length with hlt|hge
  ·rw [List.getElem?_append_left hlt] at hq
   obtain⟨h1,h2⟩:=h.at' n q hq;refine⟨h1,?_⟩;(rw [List.getElem?_append_left (by rw [← h.len];exact hlt),h2,QKK fun j hj=>by have:=h1 j hj;rw [← h.len];omega])
  ·rw [List.getElem?_append_right hge] at hq
   have:n - ps.length=0:=by
    rcases Nat.eq_zero_or_pos (n - ps.length) with h0|h0
    ·exact h0
    ·rw [List.getElem?_eq_none (by simp;omega)] at hq;cases hq
   rw [this] at hq;simp at hq;subst hq;(have hn0:n=ps.length:=by omega);subst hn0;(refine⟨fun j hj=>by rw [h.len];exact hk j hj,?_⟩);rw [h.len,List.getElem?_append_right (Nat.le_refl _),Nat.sub_self,QKK hk];rfl
def itF (fs:List Fm) (i:Nat):Fm:=fs.getD (i / 2) QAR
def itR (i:Nat):Bool:=i % 2 == 1
def itH (t:List UInt8→Bool) (fs:List Fm) (i:Nat):Bool:=if itR i then !tv t (itF fs i) else tv t (itF fs i)
def QBf (k:Int) (a b:Nat):List UInt8 × List (List Nat) :=
 if k=4 then (Ru.text .notL,[[2 * a+1]]) else if k=5 then (Ru.text .andL,[[2 * a,2 * b]]) else if k=6 then (Ru.text .orL,[[2 * a],[2 * b]]) else if k=7 then (Ru.text .thenL,[[2 * a+1],[2 * b]]) else ([],[])
def QBg (k:Int) (a b:Nat):List UInt8 × List (List Nat) :=
 if k=4 then (Ru.text .notR,[[2 * a]]) else if k=5 then (Ru.text .andR,[[2 * a+1],[2 * b+1]]) else if k=6 then (Ru.text .orR,[[2 * a+1,2 * b+1]]) else if k=7 then (Ru.text .thenR,[[2 * a,2 * b+1]]) else ([],[])
def PartM.k0 (p:PartM):Nat:=p.kids.getD 0 0
def PartM.k1 (p:PartM):Nat:=p.kids.getD 1 0
def QAP (ps:List PartM) (i:Nat):List UInt8 × List (List Nat) :=
 match ps[i / 2]? with
 | none=>([],[])
 | some p=>if itR i then QBg p.kind p.k0 p.k1 else QBf p.kind p.k0 p.k1
theorem QCH (fs:List Fm) (n:Nat):itF fs (2 * n)=fs.getD n QAR∧itF fs (2 * n+1)=fs.getD n QAR:=by
 unfold itF;(rw [show 2 * n / 2=n by omega,show (2 * n+1) / 2=n by omega]);exact⟨rfl,rfl⟩
theorem QAp (n:Nat):itR (2 * n)=false∧itR (2 * n+1)=true:=by
 unfold itR;(rw [show 2 * n % 2=0 by omega,show (2 * n+1) % 2=1 by omega]);exact⟨rfl,rfl⟩
theorem QAm (t:List UInt8→Bool) (fs:List Fm) (n:Nat):itH t fs (2 * n)=tv t (fs.getD n QAR)∧itH t fs (2 * n+1) = !tv t (fs.getD n QAR):=by
 unfold itH;rw [(QCH fs n).1,(QCH fs n).2,(QAp n).1,(QAp n).2];exact⟨rfl,rfl⟩
theorem QBe {ps:List PartM} {fs:List Fm} (h:TabOk ps fs) {n:Nat} {p:PartM} (hp:ps[n]? = some p) (hpl:Pl (fs.getD n QAR)) :
  (p.kind=1∧p.kids=[]∧fs.getD n QAR = .mk 1 p.name [])∨(p.kind=2∧p.kids=[]∧fs.getD n QAR = .mk 2 ⟨#[]⟩ [])∨(p.kind=3∧p.kids=[]∧fs.getD n QAR = .mk 3 ⟨#[]⟩ [])∨(p.kind=4∧∃ a,p.kids=[a]∧a < n∧fs.getD n QAR = .mk 4 ⟨#[]⟩ [fs.getD a QAR]∧Pl (fs.getD a QAR))∨((p.kind=5∨p.kind=6∨p.kind=7)∧∃ a b,p.kids=[a,b]∧a < n∧b < n∧fs.getD n QAR = .mk p.kind ⟨#[]⟩ [fs.getD a QAR,fs.getD b QAR]∧Pl (fs.getD a QAR)∧Pl (fs.getD b QAR)):=by
 obtain⟨hk,hf⟩:=h.at' n p hp;have hlt:n < fs.length:=(List.getElem?_eq_some_iff.1 hf).1;have e:fs.getD n QAR=p.fm fs:=Option.some.inj ((QBd hlt).symm.trans hf);rw [e] at hpl ⊢;obtain⟨pk,pn,pks⟩:=p;unfold PartM.fm at *;simp only at *;(generalize hx:(Fm.mk pk pn (pks.map fun j=>fs.getD j QAR))=x at hpl)
 cases hpl with
 | var m hm =>
  injection hx with h1 h2 h3
  have:pks=[]:=List.map_eq_nil_iff.1 h3;subst h1 h2 this
  exact Or.inl ⟨rfl,rfl,rfl⟩
 | tru =>
  injection hx with h1 h2 h3
  have:pks=[]:=List.map_eq_nil_iff.1 h3;subst h1 this
  exact Or.inr (Or.inl ⟨rfl,rfl,rfl⟩)
 | fls =>
  injection hx with h1 h2 h3
  have:pks=[]:=List.map_eq_nil_iff.1 h3;subst h1 this
  exact Or.inr (Or.inr (Or.inl ⟨rfl,rfl,rfl⟩))
 | not f hf' =>
  injection hx with h1 h2 h3
  subst h1
  match pks,h3,hk with
  | [a],h3,hk =>
   simp at h3
   exact Or.inr (Or.inr (Or.inr (Or.inl ⟨rfl,a,rfl,hk a (by simp),by simp [h3],by simpa [h3] using hf'⟩)))
  | [],h3,_=>simp at h3
  | _ :: _ :: _,h3,_=>simp at h3
 | bin k' f g hk' hf' hg' =>
  injection hx with h1 h2 h3
  subst h1
  match pks,h3,hk with
  | [a,b],h3,hk =>
   simp at h3
   exact Or.inr (Or.inr (Or.inr (Or.inr ⟨hk',a,b,rfl,hk a (by simp),hk b (by simp),by simp [h3.1,h3.2],by simpa [h3.1] using hf',by simpa [h3.2] using hg'⟩)))
  | [],h3,_=>simp at h3
  | [_],h3,_=>simp at h3
  | _ :: _ :: _ :: _,h3,_=>simp at h3
theorem QDJ (i:Nat):i=2 * (i / 2)∨i=2 * (i / 2)+1:=by omega
theorem QHB {ps:List PartM} {fs:List Fm} (h:TabOk ps fs) {i:Nat} {p:PartM} (hp:ps[i / 2]? = some p) (hpl:Pl (fs.getD (i / 2) QAR)) (t:List UInt8→Bool) (hne:(QAP ps i).2≠[]):itH t fs i=true ↔ ∃ pr∈(QAP ps i).2,∀ j∈pr,itH t fs j=true:=by
 have hw:QAP ps i=if itR i then QBg p.kind p.k0 p.k1 else QBf p.kind p.k0 p.k1:=by
  unfold QAP;rw [hp]
 rw [hw] at hne ⊢;obtain⟨n,hn⟩:∃ n,n=i / 2:=⟨_,rfl⟩;rw [← hn] at hp hpl;have hi:=QDJ i;rw [← hn] at hi
 rcases QBe h hp hpl with ⟨hk,-,-⟩|⟨hk,-,-⟩|⟨hk,-,-⟩|⟨hk,a,hks,-,hf,-⟩|⟨hk,a,b,hks,-,-,hf,-,-⟩
 ·exfalso;apply hne;unfold QBf QBg;rw [hk];simp
 ·exfalso;apply hne;unfold QBf QBg;rw [hk];simp
 ·exfalso;apply hne;unfold QBf QBg;rw [hk];simp
 ·have hk0:p.k0=a:=by unfold PartM.k0;rw [hks];rfl
  rcases hi with e|e
  ·rw [e,(QAm t fs n).1,(QAp n).1,hf,QJu]
   unfold QBf;rw [hk,hk0];simp [(QAm t fs a).2]
  ·rw [e,(QAm t fs n).2,(QAp n).2,hf,QJu]
   unfold QBg;rw [hk,hk0];simp [(QAm t fs a).1]
 ·have hk0:p.k0=a:=by unfold PartM.k0;rw [hks];rfl
  (have hk1:p.k1=b:=by unfold PartM.k1;rw [hks];rfl)
  rcases hi with e|e
  ·rw [e,(QAm t fs n).1,(QAp n).1,hf]
   unfold QBf;rw [hk0,hk1]
   rcases hk with hk|hk|hk <;> rw [hk]
   ·rw [QJt];simp [(QAm t fs a).1,(QAm t fs b).1]
   ·rw [QKa];simp [(QAm t fs a).1,(QAm t fs b).1]
   ·rw [QHe];simp [(QAm t fs a).2,(QAm t fs b).1]
  ·rw [e,(QAm t fs n).2,(QAp n).2,hf]
   unfold QBg;rw [hk0,hk1]
   rcases hk with hk|hk|hk <;> rw [hk]
   ·rw [QJt];simp [(QAm t fs a).2,(QAm t fs b).2]
   ·rw [QKa];simp [(QAm t fs a).2,(QAm t fs b).2]
   ·rw [QHe];simp [(QAm t fs a).1,(QAm t fs b).2]
theorem QDS {ps:List PartM} {fs:List Fm} (h:TabOk ps fs) {i:Nat} {p:PartM} (hp:ps[i / 2]? = some p) (hpl:Pl (fs.getD (i / 2) QAR)):∀ pr∈(QAP ps i).2,∀ j∈pr,j / 2 < i / 2∧Pl (fs.getD (j / 2) QAR):=by
 have hw:QAP ps i=if itR i then QBg p.kind p.k0 p.k1 else QBf p.kind p.k0 p.k1:=by
  unfold QAP;rw [hp]
 rw [hw];obtain⟨n,hn⟩:∃ n,n=i / 2:=⟨_,rfl⟩;rw [← hn] at hp hpl ⊢
 rcases QBe h hp hpl with ⟨hk,-,-⟩|⟨hk,-,-⟩|⟨hk,-,-⟩|⟨hk,a,hks,ha,hf,pa⟩|⟨hk,a,b,hks,ha,hb,hf,pa,pb⟩
 ·unfold QBf QBg;rw [hk];simp
 ·unfold QBf QBg;rw [hk];simp
 ·unfold QBf QBg;rw [hk];simp
 ·have hk0:p.k0=a:=by unfold PartM.k0;rw [hks];rfl
  (have e1:2 * a / 2=a:=by omega);(have e2:(2 * a+1) / 2=a:=by omega);unfold QBf QBg;rw [hk,hk0];rw [List.getD_eq_getElem?_getD] at pa
  cases itR i <;> simp [e1,e2,ha,pa]
 ·have hk0:p.k0=a:=by unfold PartM.k0;rw [hks];rfl
  (have hk1:p.k1=b:=by unfold PartM.k1;rw [hks];rfl);(have e1:2 * a / 2=a:=by omega);(have e2:(2 * a+1) / 2=a:=by omega);(have e3:2 * b / 2=b:=by omega);(have e4:(2 * b+1) / 2=b:=by omega);unfold QBf QBg;rw [hk0,hk1];rw [List.getD_eq_getElem?_getD] at pa pb
  rcases hk with hk|hk|hk <;> rw [hk] <;> cases itR i <;> simp [e1,e2,e3,e4,ha,hb,pa,pb]
theorem QIR {ps:List PartM} {fs:List Fm} (h:TabOk ps fs) (S:Nat→Prop) (hS:∀ i,S i→i / 2 < fs.length∧Pl (fs.getD (i / 2) QAR))
  (hw:∀ i,S i→(QAP ps i).2≠[]→∃ pr∈(QAP ps i).2,∀ j∈pr,S j)
  (hc:∀ i p,S i→ps[i / 2]? = some p→¬ (p.kind=2∧itR i=true)∧¬ (p.kind=3∧itR i=false))
  (ha:∀ n p,ps[n]? = some p→p.kind=1→¬ (S (2 * n)∧S (2 * n+1))) (t:List UInt8→Bool)
  (ht:∀ u,t u=true ↔ ∃ n p,ps[n]? = some p∧p.kind=1∧p.name.data.toList=u∧S (2 * n)):∀ (m i:Nat),i / 2 < m→S i→itH t fs i=true
 | 0,i,hm,_=>by omega
 | m+1,i,hm,hi=>by
  obtain⟨hlt,hpl⟩:=hS i hi;(have hp:=List.getElem?_eq_getElem (show i / 2 < ps.length by rw [h.len];exact hlt));(generalize ps[i / 2]'(by rw [h.len];exact hlt)=p at hp);by_cases hne:(QAP ps i).2=[]
  ·obtain⟨n,hn⟩:∃ n,n=i / 2:=⟨_,rfl⟩
   have hcc:=hc i p hi hp;have hi2:=QDJ i;rw [← hn] at hp hpl hi2 hlt
   have hwo:QAP ps i=if itR i then QBg p.kind p.k0 p.k1 else QBf p.kind p.k0 p.k1:=by
    unfold QAP;rw [← hn,hp]
   rw [hwo] at hne
   rcases QBe h hp hpl with ⟨hk,-,hf⟩|⟨hk,-,hf⟩|⟨hk,-,hf⟩|⟨hk,-⟩|⟨hk,-⟩
   ·rcases hi2 with e|e
    ·rw [e,(QAm t fs n).1,hf,QDb,ht]
     (exact⟨n,p,hp,hk,rfl,by rw [← e];exact hi⟩)
    ·rw [e,(QAm t fs n).2,hf,QDb,Bool.not_eq_true',Bool.eq_false_iff]
     intro h2;obtain⟨n',p',hp',hk',hu,hs'⟩:=(ht _).1 h2;have hpl':=(hS _ hs').2;(rw [show 2 * n' / 2=n' by omega] at hpl');(have hlt':n' < fs.length:=by rw [← h.len];exact (List.getElem?_eq_some_iff.1 hp').1)
     have hf':fs.getD n' QAR = .mk 1 p'.name []:=by
      rcases QBe h hp' hpl' with ⟨-,-,hf⟩|⟨hk2,-⟩|⟨hk2,-⟩|⟨hk2,-⟩|⟨hk2,-⟩
      ·exact hf
      all_goals omega
     (have hnn:p'.name=p.name:=by apply ByteArray.ext;apply Array.ext';exact hu);(have en:n'=n:=QEr h.nodup hlt' hlt (by rw [hf,hf',hnn]));subst en;(exact ha n' p hp hk ⟨hs',by rw [← e];exact hi⟩)
   ·rcases hi2 with e|e
    ·rw [e,(QAm t fs n).1,hf,QHf]
    ·exact absurd ⟨hk,by rw [e];exact (QAp n).2⟩ hcc.1
   ·rcases hi2 with e|e
    ·exact absurd ⟨hk,by rw [e];exact (QAp n).1⟩ hcc.2
    ·rw [e,(QAm t fs n).2,hf,QGC];rfl
   ·exfalso
    unfold QBf QBg at hne;rw [hk] at hne
    revert hne
    cases itR i <;> simp
   ·exfalso
    unfold QBf QBg at hne
    revert hne
    rcases hk with hk|hk|hk <;> rw [hk] <;> cases itR i <;> simp
  ·obtain⟨pr,hpr,hall⟩:=hw i hi hne
   (refine (QHB h hp hpl t hne).2 ⟨pr,hpr,fun j hj => ?_⟩);have:=(QDS h hp hpl pr hpr j hj).1;(exact QIR h S hS hw hc ha t ht m j (by omega) (hall j hj))
inductive Plan where
 | mk (rule:ByteArray) (of:Nat) (needs:List Nat) (kids:List Plan):Plan
def Plan.needs:Plan→List Nat
 | .mk _ _ a _=>a
def Plan.kids:Plan→List Plan
 | .mk _ _ _ a=>a
inductive QAo (ps:List PartM):Plan→Prop
 | ax (a:ByteArray) (ha:a.data.toList=Ru.ax.text) (i n:Nat) (hi:i / 2=n) (hn:n < ps.length):QAo ps (.mk a i [2 * n,2 * n+1] [])
 | tr (a:ByteArray) (ha:a.data.toList=Ru.tr.text) (i:Nat) (p:PartM) (hp:ps[i / 2]? = some p) (hk:p.kind=2) (hr:itR i=true):QAo ps (.mk a i [i] [])
 | fa (a:ByteArray) (ha:a.data.toList=Ru.fa.text) (i:Nat) (p:PartM) (hp:ps[i / 2]? = some p) (hk:p.kind=3) (hr:itR i=false):QAo ps (.mk a i [i] [])
 | step (a:ByteArray) (i:Nat) (needs:List Nat) (kids:List Plan) (hi:i / 2 < ps.length) (ha:a.data.toList=(QAP ps i).1) (hin:i∈needs) (hne:(QAP ps i).2≠[]) (hlen:kids.length=(QAP ps i).2.length) (hk:∀ (j:Nat) (k:Plan),kids[j]? = some k→QAo ps k) (hn:∀ (j:Nat) (k:Plan) (pr:List Nat),kids[j]? = some k→(QAP ps i).2[j]? = some pr→∀ x∈k.needs,x∈pr∨x∈needs):QAo ps (.mk a i needs kids)
theorem QJX {ps:List PartM} {fs:List Fm} (h:TabOk ps fs) (hpl:∀ n,n < fs.length→Pl (fs.getD n QAR)) (t:List UInt8→Bool) {p:Plan} (hp:QAo ps p):¬ ∀ x∈p.needs,itH t fs x=true:=by
 induction hp with
 | ax a ha i n hi hn =>
  intro hall;(have h1:=hall (2 * n) (by simp [Plan.needs]));(have h2:=hall (2 * n+1) (by simp [Plan.needs]));rw [(QAm t fs n).1] at h1;rw [(QAm t fs n).2,h1] at h2
  cases h2
 | tr a ha i p hp hk hr =>
  intro hall;(have h1:=hall i (by simp [Plan.needs]));(have hlt:i / 2 < fs.length:=by rw [← h.len];exact (List.getElem?_eq_some_iff.1 hp).1)
  rcases QBe h hp (hpl _ hlt) with ⟨hk2,-⟩|⟨-,-,hf⟩|⟨hk2,-⟩|⟨hk2,-⟩|⟨hk2,-⟩
  ·omega
  ·unfold itH itF at h1
   rw [hr,hf,QHf] at h1
   cases h1
  all_goals omega
 | fa a ha i p hp hk hr =>
  intro hall;(have h1:=hall i (by simp [Plan.needs]));(have hlt:i / 2 < fs.length:=by rw [← h.len];exact (List.getElem?_eq_some_iff.1 hp).1)
  rcases QBe h hp (hpl _ hlt) with ⟨hk2,-⟩|⟨hk2,-⟩|⟨-,-,hf⟩|⟨hk2,-⟩|⟨hk2,-⟩
  ·omega
  ·omega
  ·unfold itH itF at h1
   rw [hr,hf,QGC] at h1
   cases h1
  all_goals omega
 | step a i needs kids hi ha hin hne hlen hk hn ih =>
  intro hall;have hp:=List.getElem?_eq_getElem hi;(obtain⟨pr,hpr,hj⟩:=(QHB h hp (hpl _ (by rw [← h.len];exact hi)) t hne).1 (hall i hin));obtain⟨j,hj'⟩:=List.getElem?_of_mem hpr;have hjl:=(List.getElem?_eq_some_iff.1 hj').1;(have hkj:=List.getElem?_eq_getElem (show j < kids.length by rw [hlen];exact hjl));(refine ih j _ hkj fun x hx => ?_)
  rcases hn j _ pr hkj hj' x hx with hx|hx
  ·exact hj x hx
  ·exact hall x hx
open Go.RowKit Go.Maps Go.WideMaps
def QAc (p:PartM):List Value:=[.int .i64 p.kind,.string p.name,.int .i64 (p.kids.length:Nat),.int .i64 (p.k0:Nat),.int .i64 (p.k1:Nat)]
def QBA (p:PartM):Lit := .string (keyBytes (QBi p.kind p.name.data.toList (p.kids.length:Nat) (p.k0:Nat) (p.k1:Nat)))
structure QAu (p:PartM):Prop where
 kind:0≤p.kind∧p.kind≤100
 name:p.name.size≤maxLen
 two:p.kids.length≤2
 kids:∀ j∈p.kids,j < 1000000
theorem QCY {p:PartM} (h:QAu p):p.k0 < 1000000∧p.k1 < 1000000:=by
 unfold PartM.k0 PartM.k1;obtain⟨-,-,-,hk⟩:=h;obtain⟨a,b,ks⟩:=p;simp only at hk ⊢
 match ks,hk with
 | [],_=>exact⟨by decide,by decide⟩
 | [x],hk=>exact⟨hk x (by simp),by simp⟩
 | x :: y :: _,hk=>exact⟨hk x (by simp),hk y (by simp)⟩
theorem QNa {a b:List Nat} (ha:a.length≤2) (hl:a.length=b.length) (h0:a.getD 0 0=b.getD 0 0) (h1:a.getD 1 0=b.getD 1 0):a=b:=by
 match a,b,hl with
 | [],[],_=>rfl
 | [x],[y],_=>simpa using h0
 | [x,x'],[y,y'],_ =>
  (have e0:x=y:=by simpa using h0);(have e1:x'=y':=by simpa using h1)
  rw [e0,e1]
 | _ :: _ :: _ :: _,_,_=>simp at ha
theorem QDA {p q:PartM} (hp:QAu p) (hq:QAu q) (e:QBA p=QBA q):p=q:=by
 have kp:=QCY hp;have kq:=QCY hq;have tp:=hp.two;have tq:=hq.two;unfold QBA at e;(have e':keyBytes (QBi p.kind p.name.data.toList (p.kids.length:Nat) (p.k0:Nat) (p.k1:Nat))=keyBytes (QBi q.kind q.name.data.toList (q.kids.length:Nat) (q.k0:Nat) (q.k1:Nat)):=by injection e);(obtain⟨e1,e2,e3,e4,e5⟩:=QHW (WalkArith.wf_i64 (by have:=hp.kind;omega)) (WalkArith.wf_i64 (by omega)) (WalkArith.wf_i64 (by omega)) (WalkArith.wf_i64 (by omega)) (show p.name.data.toList.length≤maxLen from hp.name) (WalkArith.wf_i64 (by have:=hq.kind;omega)) (WalkArith.wf_i64 (by omega)) (WalkArith.wf_i64 (by omega)) (WalkArith.wf_i64 (by omega)) (show q.name.data.toList.length≤maxLen from hq.name) e');(have e6:p.kids=q.kids:=QNa tp (by omega) (by unfold PartM.k0 at e4;omega) (by unfold PartM.k1 at e5;omega));(have e7:p.name=q.name:=by apply ByteArray.ext;apply Array.ext';exact e2)
 cases p
 cases q
 simp only at e1 e6 e7;rw [e1,e6,e7]
def TM (w:World) (b:Nat) (ps:List PartM):Prop:=∃ (n:Nat) (D:DataW Unit),w.ownsMap Tryz.prog 158 (plainElem Tryz.prog 3) b n D∧n≤ps.length∧(∀ p,QAu p→Maps.has D (QBA p)=decide (p∈ps))∧∀ p,p∈ps→∃ i,ps[i]? = some p∧∀ z,D.atKey (QBA p) z = .lit (.int .i64 (i:Nat))
theorem TM.nil {w:World}:TM (w.alloc (.map #[] 0)) w.heap.size [] :=
 ⟨0,.map [],World.ownsMap_made _ _ _ _,Nat.le_refl _,fun s _=>by simp [has_eq],fun s h=>by cases h⟩
theorem TM.snoc {w':World} {b:Nat} {ps:List PartM} {t:PartM} {n:Nat} {D:DataW Unit} (hsm:∀ p∈ps,QAu p) (ht:QAu t) (hn:n≤ps.length) (hD:IsMap D) (h1:∀ s,QAu s→Maps.has D (QBA s)=decide (s∈ps)) (h2:∀ s,s∈ps→∃ i,ps[i]? = some s∧∀ z,D.atKey (QBA s) z = .lit (.int .i64 (i:Nat)))
  (h:w'.ownsMap Tryz.prog 158 (plainElem Tryz.prog 3) b (n+1) (D.put (QBA t) (.lit (.int .i64 (ps.length:Nat))))):TM w' b (ps++[t]):=by
 (have hk:WideAt.IsKeyLit (QBA t):=by unfold QBA;first|trivial|exact True.intro|simp [WideAt.IsKeyLit]);(refine⟨n+1,_,h,by simp;omega,fun s hs => ?_,fun s hs => ?_⟩)
 ·by_cases e:s=t
  ·subst e;rw [has_put_same hD hk];simp
  ·rw [has_put_other (fun h=>e (by first|exact QDA hs ht h|exact (QDA ht hs h).symm)),h1 s hs];simp [e]
 ·by_cases e:s=t
  ·subst e
   (exact⟨ps.length,by simp,fun z=>atKey_put_same hD hk _ z⟩)
  ·have hs':s∈ps:=by simpa [e] using hs
   have hss:=hsm s hs';obtain⟨i,hi,hz⟩:=h2 s hs';(refine⟨i,?_,fun z => ?_⟩)
   ·rw [List.getElem?_append_left (List.getElem?_eq_some_iff.1 hi).1];exact hi
   ·rw [atKey_put_other (fun h=>e (by first|exact QDA hss ht h|exact (QDA ht hss h).symm))];exact hz z
theorem TM.same {w w':World} {b:Nat} {ps:List PartM} (h:TM w b ps) (e:w'.heap[b]? = w.heap[b]?):TM w' b ps:=by
 obtain⟨n,D,⟨es,clock,hb,r⟩,r2⟩:=h;exact⟨n,D,⟨es,clock,e.trans hb,r⟩,r2⟩
def TabAt (w:World) (T:Nat→Prop) (bt:Nat) (ps:List PartM) (ns:List Nat):Prop :=
 ∃ adP cP adN cN bm,w.heap[bt]? = some (.cells #[.slice adP ps.length cP,.slice adN ns.length cN,.map (some bm)] 148 (0,0))∧ns.length=ps.length ∧
  w.ownsRow 0 158 5 (.slice adP ps.length cP) ps.length (ps.flatMap QAc)∧w.ownsRow 0 3 1 (.slice adN ns.length cN) ns.length (ns.map fun n => .int .i64 (n:Nat))∧TM w bm ps ∧
  (∀ p∈ps,QAu p)∧T bt∧T bm∧bt≠bm∧(∀ b,(Value.slice adP ps.length cP).ownBlock=some b→T b∧b≠bt∧b≠bm∧(Value.slice adN ns.length cN).ownBlock≠some b)∧∀ b,(Value.slice adN ns.length cN).ownBlock=some b→T b∧b≠bt∧b≠bm
theorem TabAt.same {w w':World} {T:Nat→Prop} {bt:Nat} {ps:List PartM} {ns:List Nat} (h:TabAt w T bt ps ns) (hk:∀ b,T b→b < w.heap.size→w'.heap[b]? = w.heap[b]?):TabAt w' T bt ps ns:=by
 obtain⟨adP,cP,adN,cN,bm,h1,h2,h3,h4,h5,h6,h7,h8,h9,h10,h11⟩:=h
 have hm:bm < w.heap.size:=by
  obtain⟨n,D,⟨es,clock,hb,-⟩,-⟩:=h5;exact QAE hb
 have row:∀ {sz n} {τ:TypeId} {v:Value} {cs:List Value},w.ownsRow 0 τ sz v n cs→(∀ b,v.ownBlock=some b→T b)→w'.ownsRow 0 τ sz v n cs:=by
  intro sz n τ v cs ho ht;obtain⟨g1,g2⟩:=ho;refine⟨g1,?_⟩
  rcases g2 with g2|⟨g,cap,cur,hv,hg,hh,r⟩
  ·exact Or.inl g2
  ·exact Or.inr ⟨g,cap,cur,hv,hg,(hk g (ht g (by rw [hv];rfl)) (QAE hh)).trans hh,r⟩
 (exact⟨adP,cP,adN,cN,bm,(hk bt h7 (QAE h1)).trans h1,h2,row h3 fun b hb=>(h10 b hb).1,row h4 fun b hb=>(h11 b hb).1,h5.same (hk bm h8 hm),h6,h7,h8,h9,h10,h11⟩)
theorem QCg {w:World} {b:Nat} {c0 c1 c2 c3 c4:Value} {T:TypeId} (h:w.heap[b]? = some (.cells #[c0,c1,c2,c3,c4] T (0,0))):w.cell? ⟨b,0,none⟩=some c0∧w.cell? ⟨b,1,none⟩=some c1∧w.cell? ⟨b,2,none⟩=some c2∧w.cell? ⟨b,3,none⟩=some c3∧w.cell? ⟨b,4,none⟩=some c4∧w.frozen? ⟨b,0,none⟩=false∧w.frozen? ⟨b,1,none⟩=false∧w.frozen? ⟨b,2,none⟩=false∧w.frozen? ⟨b,3,none⟩=false∧w.frozen? ⟨b,4,none⟩=false :=
 ⟨QAL h 0,QAL h 1,QAL h 2,QAL h 3,QAL h 4,QAh h 0,QAh h 1,QAh h 2,QAh h 3,QAh h 4⟩
theorem QKJ:∀ (ps:List PartM) (n:Nat) (p:PartM),ps[n]? = some p→∀ i,i < 5→(ps.flatMap QAc)[n * 5+i]? = (QAc p)[i]?
 | [],n,p,h,_,_=>by simp at h
 | q :: ps,0,p,h,i,hi=>by
  (have e:q=p:=by simpa using h);subst e
  rw [List.flatMap_cons,List.getElem?_append_left (by simp [QAc];omega),Nat.zero_mul,Nat.zero_add]
 | q :: ps,n+1,p,h,i,hi=>by
  (rw [List.flatMap_cons,List.getElem?_append_right (by simp [QAc];omega)]);(have:=QKJ ps n p (by simpa using h) i hi);rw [← this]
  congr 1
  simp [QAc];omega
theorem QAt {B:Nat} {w:World} {T:TypeId} {sz n cap:Nat} {ad:Option Addr} {cs:List Value} (h:w.ownsRow B T sz (.slice ad n cap) n cs):n≤cap∧cap≤maxLen:=by
 rcases h.2 with ⟨hv,h0⟩|⟨g,cap',cur,hv,-,-,h1,h2,-⟩
 ·simp only [Value.slice.injEq] at hv
  (exact⟨by omega,by rw [hv.2.2];simp⟩)
 ·simp only [Value.slice.injEq,true_and] at hv
  rw [hv.2];exact⟨h1,h2⟩
theorem TabAt.at' {w:World} {T:Nat→Prop} {bt:Nat} {ps:List PartM} {ns:List Nat} (h:TabAt w T bt ps ns) {n:Nat} {p:PartM} (hp:ps[n]? = some p) :
  ∃ g cP g' cN bm m,w.heap[bt]? = some (.cells #[.slice (some ⟨g,0,none⟩) ps.length cP,.slice (some ⟨g',0,none⟩) ns.length cN,.map (some bm)] 148 (0,0))∧ps.length≤cP∧cP≤maxLen∧ns.length≤cN∧cN≤maxLen∧ns[n]? = some m ∧
   w.cell? ⟨g,n * 5,none⟩=some (.int .i64 p.kind)∧w.cell? ⟨g,n * 5+1,none⟩=some (.string p.name)∧w.cell? ⟨g,n * 5+2,none⟩=some (.int .i64 (p.kids.length:Nat))∧w.cell? ⟨g,n * 5+3,none⟩=some (.int .i64 (p.k0:Nat))∧w.cell? ⟨g,n * 5+4,none⟩=some (.int .i64 (p.k1:Nat))∧w.cell? ⟨g',n,none⟩=some (.int .i64 (m:Nat)):=by
 obtain⟨adP,cP,adN,cN,bm,h1,h2,h3,h4,-⟩:=h;have hlt:=(List.getElem?_eq_some_iff.1 hp).1;(obtain⟨g,rfl,hg⟩:=QBZ h3 (by omega));(obtain⟨g',rfl,hg'⟩:=QBZ h4 (by omega));(obtain⟨m,hm⟩:∃ m,ns[n]? = some m:=⟨_,List.getElem?_eq_getElem (by omega)⟩)
 have c:∀ i,i < 5→∀ u,(QAc p)[i]? = some u→w.cell? ⟨g,n * 5+i,none⟩=some u:=fun i hi u hu=>by
  have:=hg (n * 5+i) u ((QKJ ps n p hp i hi).trans hu);rw [QAZ,Nat.zero_add] at this;exact this
 (have d:=hg' n (.int .i64 (m:Nat)) (by rw [List.getElem?_map,hm];rfl));rw [QAZ,Nat.zero_add] at d;(exact⟨g,cP,g',cN,bm,m,h1,(QAt h3).1,(QAt h3).2,(QAt h4).1,(QAt h4).2,hm,c 0 (by omega) _ rfl,c 1 (by omega) _ rfl,c 2 (by omega) _ rfl,c 3 (by omega) _ rfl,c 4 (by omega) _ rfl,d⟩)
set_option maxHeartbeats 2000000 in
theorem QMn (w:World):Calls Tryz.prog 46 #[] w fun e w'=>e = .returned (.pointer (some ⟨w.heap.size+1,0,none⟩))∧TabAt w' (fun b=>w.heap.size≤b∧b < w'.heap.size) (w.heap.size+1) [] []∧Below w.heap.size w w':=by
 have hmm:=@run_makeMap Tryz.prog
 go_enter Tryz.func46,Tryz.ntmps46
 go_wp2_with fail;go_ret;refine⟨rfl,?_,QAB (QAB (Below.refl _ w) _) _⟩;(refine⟨none,0,none,0,w.heap.size,QAa w _ _,rfl,⟨rfl,Or.inl ⟨rfl,rfl⟩⟩,⟨rfl,Or.inl ⟨rfl,rfl⟩⟩,TM.nil.same (Below.heap_alloc _ _ _ (by simp)),(fun p hp=>by cases hp),⟨by omega,by simp⟩,⟨by omega,by simp;omega⟩,by omega,(fun b hb=>by cases hb),fun b hb=>by cases hb⟩)
set_option maxHeartbeats 2000000 in
theorem QIZ (w:World) (T:Nat→Prop) (bt:Nat) (ps:List PartM) (ns:List Nat) (h:TabAt w T bt ps ns):Calls Tryz.prog 82 #[.pointer (some ⟨bt,0,none⟩)] w fun e w'=>e = .returned (.int .i64 (ps.length:Nat))∧w'=w:=by
 obtain⟨adP,cP,adN,cN,bm,h1,-⟩:=h;obtain⟨j0,j1,j2,-⟩:=QAb h1;clear h1
 go_enter Tryz.func82,Tryz.ntmps82
 go_wp2_with fail;go_ret;exact⟨rfl,rfl⟩
set_option maxHeartbeats 2000000 in
theorem QEs (w:World) (T:Nat→Prop) (bt:Nat) (ps:List PartM) (ns:List Nat) (h:TabAt w T bt ps ns) (n:Nat) (p:PartM) (hp:ps[n]? = some p):Calls Tryz.prog 99 #[.pointer (some ⟨bt,0,none⟩),.int .i64 (n:Nat)] w fun e w'=>e = .returned (.agg ⟨QAc p⟩)∧Below w.heap.size w w':=by
 have hlt:=(List.getElem?_eq_some_iff.1 hp).1;obtain⟨g,cP,g',cN,bm,m,h1,h2,h3,h4,h5,h6,c0,c1,c2,c3,c4,-⟩:=h.at' hp;obtain⟨j0,j1,j2,-⟩:=QAb h1;(have hI:(n:Int) < (ps.length:Int):=by omega);(have hI2:(n:Int) < (cP:Int):=by omega);have zb:=QAI c0;have zt:=QAE h1;clear h h1;unfold QAc
 go_enter Tryz.func99,Tryz.ntmps99
 go_wp2_with fail;(exact bodyPost_ret (v := .agg #[.int .i64 p.kind,.string p.name,.int .i64 (p.kids.length:Nat),.int .i64 (p.k0:Nat),.int .i64 (p.k1:Nat)]) (by simp [results,Tryz.results99,go_sem]) rfl ⟨rfl,QAB (Below.refl _ w) _⟩)
set_option maxHeartbeats 2000000 in
theorem QJZ (w:World) (T:Nat→Prop) (bt:Nat) (ps:List PartM) (ns:List Nat) (h:TabAt w T bt ps ns) (n m:Nat) (p:PartM) (hp:ps[n]? = some p) (hm:ns[n]? = some m):Calls Tryz.prog 192 #[.pointer (some ⟨bt,0,none⟩),.int .i64 (n:Nat)] w fun e w'=>e = .returned (.int .i64 (m:Nat))∧w'=w:=by
 have hlt:=(List.getElem?_eq_some_iff.1 hm).1;obtain⟨g,cP,g',cN,bm,m',h1,h2,h3,h4,h5,h6,-,-,-,-,-,c0⟩:=h.at' hp;obtain rfl:m=m':=Option.some.inj (hm.symm.trans h6);obtain⟨j0,j1,j2,-⟩:=QAb h1;(have hI:(n:Int) < (ns.length:Int):=by omega);(have hI2:(n:Int) < (cN:Int):=by omega);(have hI3:(ns.length:Int)≤9223372036854775807:=by unfold maxLen at h5;omega);clear h h1
 go_enter Tryz.func192,Tryz.ntmps192
 go_wp2_with fail;go_ret;exact⟨rfl,rfl⟩
theorem QMW:∃ i,Tryz.prog.info? 158=some i∧i.zero=some (.agg #[.int .i64 0,.string ⟨#[]⟩,.int .i64 0,.int .i64 0,.int .i64 0])∧i.size=5∧i.bytes=48:=by
 (obtain⟨i,hi,h⟩:=Option.map_eq_some_iff.1 (show (Tryz.prog.info? 158).map (fun i=>(i.zero,i.size,i.bytes))=some (some (.agg #[.int .i64 0,.string ⟨#[]⟩,.int .i64 0,.int .i64 0,.int .i64 0]),5,48) by kernel_rfl));simp only [Prod.mk.injEq] at h;exact⟨i,hi,h.1,h.2.1,h.2.2⟩
theorem QOe {w:World} {b:Nat} {x0 x1 x2:Value} {T:TypeId} (h:w.heap[b]? = some (.cells #[x0,x1,x2] T (0,0))) (v:Value):(w.setCell ⟨b,0,none⟩ v).heap[b]? = some (.cells #[v,x1,x2] T (0,0)):=by
 simp [World.setCell,Array.getElem?_modify,h]
theorem QOf {w:World} {b:Nat} {x0 x1 x2:Value} {T:TypeId} (h:w.heap[b]? = some (.cells #[x0,x1,x2] T (0,0))) (v:Value):(w.setCell ⟨b,1,none⟩ v).heap[b]? = some (.cells #[x0,v,x2] T (0,0)):=by
 simp [World.setCell,Array.getElem?_modify,h]
theorem QMU {w w3:World} {o:Obj} {ob:Option Nat} {bt off:Nat} {v:Value} (hg:(w.alloc o).drew.grownBy w3 ob) (b:Nat) (hb:b < w.heap.size) (h1:ob≠some b) (h2:b≠bt):(w3.setCell ⟨bt,off,none⟩ v).heap[b]? = w.heap[b]? := by
 (rw [Below.heap_setCell _ _ _ _ (by simpa using h2),hg.block b (by show b < (w.alloc o).heap.size;simp;omega) (fun e=>h1 e.symm)]);exact Below.heap_alloc _ _ _ hb
theorem QLB {w w3:World} {o:Obj} {ob:Option Nat} {bt off:Nat} {v:Value} (hg:(w.alloc o).grownBy w3 ob) (b:Nat) (hb:b < w.heap.size) (h1:ob≠some b) (h2:b≠bt):(w3.setCell ⟨bt,off,none⟩ v).heap[b]? = w.heap[b]? := by
 (rw [Below.heap_setCell _ _ _ _ (by simpa using h2),hg.block b (by simp;omega) (fun e=>h1 e.symm)]);exact Below.heap_alloc _ _ _ hb
theorem QHc {H:Type} {P:Program} (w:World) {ops:Array Oper} {o:Oper} {a:Act} {K:Act→World→Prop} {Q:Exit→Act→World→Prop} {E:Prop} (hgd:o.guard=none) (m x v:Operand) (t:TypeId) (hop:o.op=Op.mapUpdate t m x v)
  (k e:TypeId) (KK:Keyed P k) (ht:P.underlying t=some (.map k e)) (R:Value→Option (DataW H × List MemPlace)) (b n:Nat) (D:DataW H)
  (hm:a.eval m = .map (some b)) (hown:w.ownsMap P k R b n D) (hn:n < maxLen) (key val:Value) (kl:Lit) (hx:a.eval x=key) (hv:a.eval v=val) (hkey:keyOf P k key=some kl)
  (d:DataW H) (ps:List MemPlace) (hval:R val=some (d,ps))
  (h:∀ w',w'.ownsMap P k R b (n+1) (D.put kl d)→w.grownBy w' (some b)→K (a.put o.dst undef) w') :
  if Region.wanted o (yielded ops a.tmps)=true then Oper.wp P o a w K Q else E:=by
 (have hw:Region.wanted o (yielded ops a.tmps)=true:=by simp [Region.wanted,hgd]);rw [if_pos hw];obtain⟨w',hrun,r1,r2⟩:=hown.update KK ht hn hkey hval;unfold Oper.wp;simp [execOp,hop,hm,hx,hv,hrun,Result.andThen];exact h w' r1 r2
theorem QGN {o:Option Value} {c:Value} (w:World) (h:∃ v,o=some v∧kEq c v w):o=some c:=by
 obtain⟨v,h1,h2⟩:=h;have h3:v=c:=h2;rw [h1,h3]
theorem QMb {ok:Nat→Prop} {w W:World} (h:Kept ok w W) (o:Obj):Kept ok w (W.alloc o).drew:=by
 have h2:=h.alloc o;exact⟨h2.os,h2.tape,h2.output,h2.size,h2.block⟩
theorem QMv {w:World} {b:Nat} {x0 x1 x2 x3 x4:Value} {T:TypeId} (h:w.heap[b]? = some (.cells #[x0,x1,x2,x3,x4] T (0,0))) (v:Value):(w.setCell ⟨b,1,none⟩ v).heap[b]? = some (.cells #[x0,v,x2,x3,x4] T (0,0)):=by
 simp [World.setCell,Array.getElem?_modify,h]
def QBI (ns:List Nat) (ks:List Nat):Nat:=1+(ks.map fun j=>ns.getD j 0).sum
theorem QJT {ns ks:List Nat} {i j m:Nat} (hj:ks[i]? = some j) (hm:ns[j]? = some m):QBI ns (ks.take (i+1))=QBI ns (ks.take i)+m:=by
 unfold QBI;rw [List.take_add_one,hj];simp [hm];omega
theorem QIO {ns ks:List Nat} (hn:∀ m∈ns,m≤1000000) (hk:ks.length≤2):QBI ns ks≤3000000:=by
 have h:∀ j,ns.getD j 0≤1000000:=fun j=>by
  rw [List.getD_eq_getElem?_getD]
  cases hj:ns[j]? with
  | none=>simp
  | some m=>exact hn m (List.mem_of_getElem? hj)
 unfold QBI
 match ks,hk with
 | [],_=>simp
 | [a],_ =>
  have:=h a;simp at this ⊢
  omega
 | [a,b],_ =>
  have h1:=h a;have h2:=h b;simp at h1 h2 ⊢;omega
set_option maxRecDepth 10000 in
set_option maxHeartbeats 4000000 in
theorem QMk (w:World) (T:Nat→Prop) (bt:Nat) (ps:List PartM) (ns:List Nat) (h:TabAt w T bt ps ns) (p:PartM) (hp:QAu p) (hnew:p ∉ ps) (hk:∀ j∈p.kids,j < ps.length) (hl:ps.length≤100000) (hn:∀ m∈ns,m≤1000000) (hname:p.name.size≤8) :
  Calls Tryz.prog 134 #[.pointer (some ⟨bt,0,none⟩),.agg ⟨QAc p⟩] w fun e w'=>e = .returned (.int .i64 (ps.length:Nat))∧TabAt w' (fun b=>T b∨(w.heap.size≤b∧b < w'.heap.size)) bt (ps++[p]) (ns++[QBI ns p.kids])∧Kept (fun b=>¬ T b) w w':=by
 obtain⟨adP,cP,adN,cN,bm,h1,h2,h3,h4,h5,h6,h7,h8,h9,h10,h11⟩:=h;have HP:Hid (w.ownsRow 0 158 5 (.slice adP ps.length cP) ps.length (ps.flatMap QAc)):=h3;(have HN:Hid (w.ownsRow 0 3 1 (.slice adN ns.length cN) ns.length (ns.map fun n => .int .i64 (n:Nat))):=h4);have HM:Hid (TM w bm ps):=h5;have HL2:Hid (ns.length=ps.length):=h2;have H1:Hid (w.heap[bt]? = some _):=h1;(have hcl:∀ w,Calls Tryz.prog 169 #[.string p.name] w fun e w'=>e = .returned (.string p.name)∧Below w.heap.size w w':=fun w=>QKo p.name w (by omega));have HCl:Hid (∀ w,Calls Tryz.prog 169 #[.string p.name] w _):=hcl;have H6:Hid (∀ p∈ps,QAu p):=h6;(have HO:Hid (∀ b,(Value.slice adP ps.length cP).ownBlock=some b→b < w.heap.size):=fun b hb=>(h3.lt b hb).2);(have HO2:Hid (∀ b,(Value.slice adN ns.length cN).ownBlock=some b→b < w.heap.size):=fun b hb=>(h4.lt b hb).2);(have HO3:Hid (bm < w.heap.size):=by obtain⟨_,_,⟨_,_,hb,-⟩,-⟩:=h5;exact QAE hb);have H7:Hid (T bt∧T bm∧bt≠bm):=⟨h7,h8,h9⟩;have H10:Hid (∀ b,(Value.slice adP ps.length cP).ownBlock=some b→T b∧b≠bt∧b≠bm∧(Value.slice adN ns.length cN).ownBlock≠some b):=h10;have H11:Hid (∀ b,(Value.slice adN ns.length cN).ownBlock=some b→T b∧b≠bt∧b≠bm):=h11;have HK:Hid (∀ j∈p.kids,j < ps.length):=hk;have HNew:Hid (p ∉ ps):=hnew;have HSp:Hid (QAu p):=hp;have hk2:=hp.two;(have hk2I:(p.kids.length:Int)≤2:=by omega);have zt:=QAE h1;unfold QAc;(have hnI:(ns.length:Int)≤100000:=by omega);clear h3 h4 h5 h1 hcl h2 h6 h7 h8 h9 h10 h11 hk hnew hp
 go_enter Tryz.func134,Tryz.ntmps134
 go_wp2_with fail;refine (HCl.out _).mono ?_;rintro e w1 ⟨rfl,hb1⟩;have Q1:=QAA hb1 (QAH w (.cells #[.int .i64 p.kind,.string p.name,.int .i64 (p.kids.length:Nat),.int .i64 (p.k0:Nat),.int .i64 (p.k1:Nat)] 158 (0,0)));obtain⟨c0,c1,c2,c3,c4,z0,z1,z2,z3,z4⟩:=QCg Q1;have B1:Below w.heap.size w w1:=QAC (QAB (Below.refl _ w) _) hb1;go_wp2_with fail;(have BW:Hid (Below w.heap.size w (w1.setCell ⟨w.heap.size,1,none⟩ (.string p.name))):=B1.setCell (by simp) _);have QW:Hid ((w1.setCell ⟨w.heap.size,1,none⟩ (.string p.name)).heap[w.heap.size]? = some _):=QMv Q1 (.string p.name);clear c0 c1 c2 c3 c4 z0 z1 z2 z3 z4 Q1 hb1 B1 HCl;generalize w1.setCell ⟨w.heap.size,1,none⟩ (.string p.name)=W at *;have HPW:Hid (W.ownsRow 0 158 5 (.slice adP ps.length cP) ps.length (ps.flatMap QAc)):=QAz HP.out BW.out;(have HNW:Hid (W.ownsRow 0 3 1 (.slice adN ns.length cN) ns.length (ns.map fun n => .int .i64 (n:Nat))):=QAz HN.out BW.out);have HTW:Hid (W.heap[bt]? = some _):=(BW.out.block bt (QAE H1.out)).trans H1.out;(have HMW:Hid (TM W bm ps):=HM.out.same (BW.out.block bm (by obtain⟨_,_,⟨_,_,hb,-⟩,-⟩:=HM.out;exact QAE hb)))
 have HKid:Hid (∀ i j,p.kids[i]? = some j→W.cell? ⟨w.heap.size,3+i,none⟩=some (.int .i64 (j:Nat))∧j < ns.length∧i < 2):=fun i j hj=>by
  have hi:=(List.getElem?_eq_some_iff.1 hj).1;obtain⟨c0,c1,c2,c3,c4,-⟩:=QCg QW.out;(have hj2:j < ns.length:=by have:=HK.out j (List.mem_of_getElem? hj);have:=HL2.out;omega);(have e:i=0∨i=1:=by omega)
  rcases e with rfl|rfl
  ·refine⟨?_,hj2,by omega⟩
   rw [c3];unfold PartM.k0;rw [List.getD_eq_getElem?_getD,hj];rfl
  ·refine⟨?_,hj2,by omega⟩
   rw [c4];unfold PartM.k1;rw [List.getD_eq_getElem?_getD,hj];rfl
 (have HSm:Hid (∀ i,QBI ns (p.kids.take i)≤3000000):=fun i=>QIO hn (by rw [List.length_take];omega));obtain⟨j0,j1,j2,f0,f1,f2⟩:=QAb HTW.out;clear HP HN HM H1 hn
 go_loopg [18,5] p.kids.length (fun g c s wr=>∃ i,i≤p.kids.length∧g=p.kids.length - i∧c = .int .i64 (i:Nat)∧s = .int .i64 ((QBI ns (p.kids.take i):Nat):Int)∧wr=W)
 case atStart=>exact⟨0,by omega,by omega,rfl,rfl,rfl⟩
 case round =>
  obtain⟨i,hi,hg,rfl,rfl,rfl⟩:=hrel;have HG:Hid (gk=p.kids.length - i):=hg;clear hg;by_cases hlt:i < p.kids.length
  ·obtain⟨j,hj⟩:∃ j,p.kids[i]? = some j:=⟨_,List.getElem?_eq_getElem hlt⟩
   obtain⟨kc,hjn,hi2⟩:=HKid.out i j hj;obtain⟨m,hm⟩:∃ m,ns[j]? = some m:=⟨_,List.getElem?_eq_getElem hjn⟩;(obtain⟨gN,rfl,hgN⟩:=QBZ HNW.out (by omega));(have hc:=hgN j (.int .i64 (m:Nat)) (by rw [List.getElem?_map,hm];rfl));rw [QAZ,Nat.zero_add] at hc;have hcN:=(QAt HNW.out).1;(have hltI:(i:Int) < (p.kids.length:Int):=by omega);(have hlt2:(i:Int) < 2:=by omega);(have hjI:(j:Int) < (ns.length:Int):=by omega);(have hjc:(j:Int) < (cN:Int):=by omega);have HX:Hid (QBI ns (p.kids.take (i+1))=QBI ns (p.kids.take i)+m):=QJT hj hm;have hs1:=HSm.out i;have hs2:=HSm.out (i+1);rw [HX.out] at hs2;generalize QBI ns (p.kids.take i)=S at *;go_wp2_with fail
   go_roundg (p.kids.length - (i+1))
   case measure=>have:=HG.out;omega
   case rel=>exact⟨i+1,by omega,rfl,by go_num,by rw [HX.out];go_num,rfl⟩
  ·have hge:¬ (i:Int) < (p.kids.length:Int):=by omega
   (have hie:i=p.kids.length:=by omega);subst hie;clear HG;rw [List.take_length];obtain⟨c0,c1,c2,c3,c4,-⟩:=QCg QW.out;obtain⟨iP,hiP,hzP,hzP1,hzP2⟩:=QMW;obtain⟨iI,hiI,hzI,hzI1,hzI2⟩:=QKM;(have HS3:Hid (QBI ns p.kids≤3000000):=by have:=HSm.out p.kids.length;rw [List.take_length] at this;exact this);have zs:=QAE QW.out;have zt2:=QAE HTW.out;clear HKid HSm hlt hi hge hk2 hk2I;obtain⟨S,hSe⟩:∃ S,S=QBI ns p.kids:=⟨_,rfl⟩;have HSe:Hid (S=QBI ns p.kids):=hSe;rw [← hSe];rw [← hSe] at HS3;clear hSe;go_wp2_with fail;(have HT2:Hid (∀ b,(Value.slice adP ps.length cP).ownBlock=some b→b≠bt):=fun b hb=>(H10.out b hb).2.1)
   go_region_law
    (
     first
     | (
      have hown:=QAz HPW.out (show Below wr.heap.size wr _ from ((Below.refl _ wr).alloc (Nat.le_refl _) (.cells #[.int .i64 p.kind,.string p.name,.int .i64 (p.kids.length:Nat),.int .i64 (p.k0:Nat),.int .i64 (p.k1:Nat)] 158 (0,0))).drew)
      (refine step_append_lies _ rfl _ _ 146 rfl 0 158 iP (.agg #[.int .i64 0,.string ⟨#[]⟩,.int .i64 0,.int .i64 0,.int .i64 0]) 5 48 Tryz.underlying146 hiP hzP hzP1 hzP2 rfl (by decide) _ _ _ rfl hown ⟨wr.heap.size,0,none⟩ 1 1 (QAc p) rfl rfl ?_ ?_ (by omega) (by unfold maxLen;omega) (by omega) (by omega) _ rfl ?_)
      ·intro j u hu
       rw [QAZ,Nat.zero_add];(exact (QAL (QHK wr _) j).trans (by simpa [QAc] using hu))
      ·intro u hu
       simp [QAc] at hu
       rcases hu with rfl|rfl|rfl|rfl|rfl <;> rfl
      intro g3 cp3 w3 hown3 hgrow hat hlt3;have HG3:Hid ((wr.alloc (.cells #[.int .i64 p.kind,.string p.name,.int .i64 (p.kids.length:Nat),.int .i64 (p.k0:Nat),.int .i64 (p.k1:Nat)] 158 (0,0))).drew.grownBy w3 (Value.slice adP ps.length cP).ownBlock):=hgrow;have HA3:Hid ((Value.slice adP ps.length cP).ownBlock=some g3∨g3=(wr.alloc (.cells #[.int .i64 p.kind,.string p.name,.int .i64 (p.kids.length:Nat),.int .i64 (p.k0:Nat),.int .i64 (p.k1:Nat)] 158 (0,0))).drew.heap.size):=hat;have HW3:Hid (w3.ownsRow 0 158 5 (.slice (some ⟨g3,0,none⟩) (ps.length+1) cp3) (ps.length+1) (ps.flatMap QAc++QAc p)):=hown3;clear hgrow hat hown3 hown;(have R3:Hid (w3.heap[bt]? = some _):=(HG3.out.block bt (by simp;omega) (fun e=>HT2.out bt e.symm rfl)).trans (QAG HTW.out (.cells #[.int .i64 p.kind,.string p.name,.int .i64 (p.kids.length:Nat),.int .i64 (p.k0:Nat),.int .i64 (p.k1:Nat)] 158 (0,0))));have hlt4:g3 < w3.heap.size:=hlt3;clear j0 j1 j2 f0 f1 f2 hlt3
      obtain⟨j0,j1,j2,f0,f1,f2⟩:=QAb R3.out)
     | fail)
   all_goals
    (have K4:Hid (Kept (fun b=>¬ T b) w (w3.setCell ⟨bt,0,none⟩ (.slice (some ⟨g3,0,none⟩) (ps.length+1) cp3))):=((QMb (QAN BW.out fun _ h _=>h) _).trans (QEJ HG3.out fun k h e=>h (H10.out k e).1)).setCell (fun k h=>h H7.out.1) _);have R4:Hid ((w3.setCell ⟨bt,0,none⟩ (.slice (some ⟨g3,0,none⟩) (ps.length+1) cp3)).heap[bt]? = some _):=QOe R3.out _;(have F4:Hid (∀ b,b < wr.heap.size→(Value.slice adP ps.length cP).ownBlock≠some b→b≠bt→(w3.setCell ⟨bt,0,none⟩ (.slice (some ⟨g3,0,none⟩) (ps.length+1) cp3)).heap[b]? = wr.heap[b]?):=fun b hb h1 h2=>QMU HG3.out b hb h1 h2)
    have G3:Hid (g3≠bt∧g3≠bm∧(Value.slice adN ns.length cN).ownBlock≠some g3∧g3≠w.heap.size∧(T g3∨w.heap.size≤g3)):=by
     rcases HA3.out with e|e
     ·have h1:=H10.out g3 e
      have h2:=HO.out g3 e;(exact⟨h1.2.1,h1.2.2.1,h1.2.2.2,by omega,Or.inl h1.1⟩)
     ·have e2:g3=wr.heap.size+1:=by rw [e];simp
      have h3:=HO3.out;(exact⟨by omega,by omega,fun e3=>by have:=HO2.out g3 e3;omega,by omega,Or.inr (by omega)⟩)
    have HW4:Hid ((w3.setCell ⟨bt,0,none⟩ (.slice (some ⟨g3,0,none⟩) (ps.length+1) cp3)).ownsRow 0 158 5 (.slice (some ⟨g3,0,none⟩) (ps.length+1) cp3) (ps.length+1) (ps.flatMap QAc++QAc p)):=QBk HW3.out fun b hb=>Below.heap_setCell _ _ _ _ (by
     (have e:g3=b:=by simpa [Value.ownBlock] using hb);have:=G3.out.1
     simp
     omega)
    (have z4:g3 < (w3.setCell ⟨bt,0,none⟩ (.slice (some ⟨g3,0,none⟩) (ps.length+1) cp3)).heap.size:=by simpa [World.setCell] using hlt4)
    have zw:wr.heap.size+1≤(w3.setCell ⟨bt,0,none⟩ (.slice (some ⟨g3,0,none⟩) (ps.length+1) cp3)).heap.size:=by
     have:=HG3.out.size;simp [World.setCell] at this ⊢;omega
    clear HG3 HA3 HW3 R3 hlt4 j0 j1 j2 f0 f1 f2 HT2 c0 c1 c2 c3 c4;generalize w3.setCell ⟨bt,0,none⟩ (.slice (some ⟨g3,0,none⟩) (ps.length+1) cp3)=w4 at *;(have HN4:Hid (w4.ownsRow 0 3 1 (.slice adN ns.length cN) ns.length (ns.map fun n => .int .i64 (n:Nat))):=QBk HNW.out fun b hb=>F4.out b (HNW.out.lt b hb).2 (fun e=>(H10.out b e).2.2.2 hb) (H11.out b hb).2.1);(have HM4:Hid (TM w4 bm ps):=HMW.out.same (F4.out bm (by obtain⟨_,_,⟨_,_,hb,-⟩,-⟩:=HMW.out;exact QAE hb) (fun e=>(H10.out bm e).2.2.1 rfl) (fun e=>H7.out.2.2 e.symm)))
    have Q4:Hid (w4.heap[w.heap.size]? = some _):=(F4.out w.heap.size zs (fun e=>by
     have:=HO.out _ e
     omega) (by omega)).trans QW.out
    clear F4 HMW HNW HPW QW BW HTW;obtain⟨j0,j1,j2,f0,f1,f2⟩:=QAb R4.out;have hS:S≤3000000:=HS3.out;have hown:=QAz HN4.out (show Below w4.heap.size w4 _ from (Below.refl _ w4).alloc (Nat.le_refl _) (.cells #[.int .i64 (S:Nat)] 3 (0,0)));(have HT4:Hid (∀ b,(Value.slice adN ns.length cN).ownBlock=some b→b≠bt):=fun b hb=>(H11.out b hb).2.1)
    go_wp2_with (first
     | (
       at_builtin
       (refine wpList_append_lies _ rfl _ _ 90 rfl 0 3 iI (.int .i64 0) 1 8 Tryz.underlying90 hiI hzI hzI1 hzI2 rfl (by decide) _ _ _ rfl hown ⟨w4.heap.size,0,none⟩ 1 1 [.int .i64 (S:Nat)] rfl rfl ?_ ?_ (by omega) (by unfold maxLen;omega) (by omega) (by omega) _ rfl ?_)
       ·intro j u hu
        rw [QAZ,Nat.zero_add];(exact (QAL (QAH w4 _) j).trans (by simpa using hu))
       ·intro u hu
        simp at hu;subst hu;rfl
       intro g5 cp5 w5 hown5 hgrow hat hlt5;have HG5:Hid ((w4.alloc (.cells #[.int .i64 (S:Nat)] 3 (0,0))).grownBy w5 (Value.slice adN ns.length cN).ownBlock):=hgrow;have HA5:Hid ((Value.slice adN ns.length cN).ownBlock=some g5∨g5=(w4.alloc (.cells #[.int .i64 (S:Nat)] 3 (0,0))).heap.size):=hat;(have HW5:Hid (w5.ownsRow 0 3 1 (.slice (some ⟨g5,0,none⟩) (ns.length+1) cp5) (ns.length+1) ((ns.map fun n => .int .i64 (n:Nat))++[.int .i64 (S:Nat)])):=hown5);clear hgrow hat hown5 hown;(have R5:Hid (w5.heap[bt]? = some _):=(HG5.out.block bt (by simp;omega) (fun e=>HT4.out bt e.symm rfl)).trans (QAG R4.out _));clear j0 j1 j2 f0 f1 f2
       obtain⟨j0,j1,j2,f0,f1,f2⟩:=QAb R5.out)
     | fail)
    have W6:∃ x,x=w5.setCell ⟨bt,1,none⟩ (.slice (some ⟨g5,0,none⟩) (ns.length+1) cp5):=⟨_,rfl⟩;obtain⟨w6,hw6⟩:=W6
    have K6:Hid (Kept (fun b=>¬ T b) w w6):=by
     rw [hw6];(exact ((K4.out.alloc _).trans (QEJ HG5.out fun k h e=>h (H11.out k e).1)).setCell (fun k h=>h H7.out.1) _)
    have R6:Hid (w6.heap[bt]? = some (.cells #[.slice (some ⟨g3,0,none⟩) (ps.length+1) cp3,.slice (some ⟨g5,0,none⟩) (ns.length+1) cp5,.map (some bm)] 148 (0,0))):=by
     rw [hw6];exact QOf R5.out _
    have F6:Hid (∀ b,b < w4.heap.size→(Value.slice adN ns.length cN).ownBlock≠some b→b≠bt→w6.heap[b]? = w4.heap[b]?):=by
     rw [hw6];(exact fun b hb h1 h2=>QLB HG5.out b hb h1 h2)
    have G5:Hid (g5≠bt∧g5≠bm∧g5≠g3∧g5≠w.heap.size∧(T g5∨w.heap.size≤g5)):=by
     rcases HA5.out with e|e
     ·have h1:=H11.out g5 e
      have h2:=HO2.out g5 e;(exact⟨h1.2.1,h1.2.2,fun e2=>G3.out.2.2.1 (e2 ▸ e),by omega,Or.inl h1.1⟩)
     ·have e2:g5=w4.heap.size+1:=by rw [e];simp
      have h3:=HO3.out;(exact⟨by omega,by omega,by omega,by omega,Or.inr (by omega)⟩)
    have HW6:Hid (w6.ownsRow 0 3 1 (.slice (some ⟨g5,0,none⟩) (ns.length+1) cp5) (ns.length+1) ((ns.map fun n => .int .i64 (n:Nat))++[.int .i64 (S:Nat)])):=by
     rw [hw6]
     exact QBk HW5.out fun b hb=>Below.heap_setCell _ _ _ _ (by
      (have e:g5=b:=by simpa [Value.ownBlock] using hb);have:=G5.out.1
      simp
      omega)
    have HP6:Hid (w6.ownsRow 0 158 5 (.slice (some ⟨g3,0,none⟩) (ps.length+1) cp3) (ps.length+1) (ps.flatMap QAc++QAc p)):=QBk HW4.out fun b hb=>by
     (have e:g3=b:=by simpa [Value.ownBlock] using hb);subst e;exact F6.out g3 z4 G3.out.2.2.1 G3.out.1
    (have HM6:Hid (TM w6 bm ps):=HM4.out.same (F6.out bm (by have:=HO3.out;omega) (fun e=>(H11.out bm e).2.2 rfl) (fun e=>H7.out.2.2 e.symm)))
    have Q6:Hid (w6.heap[w.heap.size]? = some _):=(F6.out w.heap.size (by omega) (fun e=>by
     have:=HO2.out _ e
     omega) (by omega)).trans Q4.out
    have z5:g5 < w6.heap.size:=by
     rw [hw6];simpa [World.setCell] using hlt5
    have z6:w4.heap.size≤w6.heap.size:=by
     have:=HG5.out.size;rw [hw6];simp [World.setCell] at this ⊢;omega
    rw [← hw6];clear hw6 HG5 HA5 HW5 R5 hlt5 j0 j1 j2 f0 f1 f2 HW4 K4 R4 HN4 HM4 Q4 F6;obtain⟨j0,j1,j2,f0,f1,f2⟩:=QAb R6.out;obtain⟨c0,c1,c2,c3,c4,-⟩:=QCg Q6.out;obtain⟨n,D,hmap,hnn,hh1,hh2⟩:=HM6.out;have HH1:Hid (∀ p,QAu p→Maps.has D (QBA p)=decide (p∈ps)):=hh1;have HH2:Hid (∀ p,p∈ps→∃ i,ps[i]? = some p∧∀ z,D.atKey (QBA p) z = .lit (.int .i64 (i:Nat))):=hh2;have HMap:Hid (w6.ownsMap Tryz.prog 158 (plainElem Tryz.prog 3) bm n D):=hmap;(have hkey:keyOf Tryz.prog 158 (.agg #[.int .i64 p.kind,.string p.name,.int .i64 (p.kids.length:Nat),.int .i64 (p.k0:Nat),.int .i64 (p.k1:Nat)])=some (QBA p):=QKO _ _ _ _ _ (WalkArith.wf_i64 (by have:=HSp.out.kind;omega)) (WalkArith.wf_i64 (by have:=HSp.out.two;omega)) (WalkArith.wf_i64 (by have:=QCY HSp.out;omega)) (WalkArith.wf_i64 (by have:=QCY HSp.out;omega)) HSp.out.name);have HKey:Hid (keyOf Tryz.prog 158 _=some (QBA p)):=hkey;clear hh1 hh2 hmap hkey HM6;clear j0 j1 j2 f0 f1 f2 c0 c1 c2 c3 c4;(refine QGF (by kernel_rfl) [kEq (.pointer (some ⟨bt,0,none⟩)),kEq (.pointer (some ⟨bt,0,none⟩)),kEq (.pointer (some ⟨bt,2,none⟩)),kEq (.map (some bm)),kEq (.agg #[.int .i64 p.kind,.string p.name,.int .i64 (p.kids.length:Nat),.int .i64 (p.k0:Nat),.int .i64 (p.k1:Nat)]),kEq (.int .i64 (ps.length:Nat))] ?_ (by kernel_rfl) (by kernel_rfl) 64 rfl (by kernel_rfl) 6 _ rfl rfl (by kernel_rfl) ?_ ?_)
    ·intro p hp
     simp only [List.mem_cons,List.not_mem_nil,or_false] at hp
     rcases hp with rfl|rfl|rfl|rfl|rfl|rfl
     all_goals exact QAe _
    ·refine⟨?_,?_,?_,?_,?_,?_,trivial⟩
     ·intro a wx hB hold hdep K hK
      have t0:a.tmps[0]? = some (.pointer (some ⟨bt,0,none⟩)):=hold.2.2 0 rfl;clear hold hdep;go_simp;exact hK.out _ _ rfl (Below.refl _ _)
     ·intro a wx hB hold hdep K hK
      have t57:=QGN wx (hdep 0 rfl _ 57 rfl rfl);clear hold hdep;go_simp;exact hK.out _ _ rfl (Below.refl _ _)
     ·intro a wx hB hold hdep K hK
      have t58:=QGN wx (hdep 1 rfl _ 58 rfl rfl);clear hold hdep;go_simp;exact hK.out _ _ rfl (Below.refl _ _)
     ·intro a wx hB hold hdep K hK
      have t59:=QGN wx (hdep 2 rfl _ 59 rfl rfl);obtain⟨j0,j1,j2,-⟩:=QAb (QAA hB R6.out);clear hold hdep;go_simp;exact hK.out _ _ rfl (Below.refl _ _)
     ·intro a wx hB hold hdep K hK
      have t3:a.tmps[3]? = some (.pointer (some ⟨w.heap.size,0,none⟩)):=hold.2.2 3 rfl;obtain⟨j0,j1,j2,j3,j4,-⟩:=QCg (QAA hB Q6.out);clear hold hdep;go_simp;exact hK.out _ _ rfl (Below.refl _ _)
     ·intro a wx hB hold hdep K hK
      have t8:a.tmps[8]? = some (.int .i64 (ps.length:Nat)):=hold.2.2 8 rfl;clear hold hdep;go_simp;exact hK.out _ _ rfl (Below.refl _ _)
    ·intro a wx hB hold hgot K hK
     (have t60:=QGN wx (hgot 3 _ 60 (by omega) rfl rfl));(have t61:=QGN wx (hgot 4 _ 61 (by omega) rfl rfl));(have t62:=QGN wx (hgot 5 _ 62 (by omega) rfl rfl))
     have hmx:wx.ownsMap Tryz.prog 158 (plainElem Tryz.prog 3) bm n D:=by
      obtain⟨es,clock,hb,r⟩:=HMap.out;exact⟨es,clock,(hB.block bm (QAE hb)).trans hb,r⟩
     (refine QHc _ rfl _ _ _ 145 rfl 158 3 QKS Tryz.underlying145 _ bm n D (by simp [go_sem,t60]) hmx (by unfold maxLen;omega) (.agg #[.int .i64 p.kind,.string p.name,.int .i64 (p.kids.length:Nat),.int .i64 (p.k0:Nat),.int .i64 (p.k1:Nat)]) (.int .i64 (ps.length:Nat)) _ (by simp [go_sem,t61]) (by simp [go_sem,t62]) HKey.out _ [] (plainElem_int Tryz.underlying3 (WalkArith.wf_i64 (by omega))) ?_);intro w7 hown7 hgrow7;(have F7:Hid (∀ b,b < w6.heap.size→b≠bm→w7.heap[b]? = w6.heap[b]?):=fun b hb hne=>(hgrow7.block b (Nat.lt_of_lt_of_le hb hB.size) (fun e=>hne (by cases e;rfl))).trans (hB.block b hb));(have K7:Hid (Kept (fun b=>¬ T b) w w7):=(K6.out.trans (QAN hB fun _ h _=>h)).trans (QEJ hgrow7 fun k h e=>h (by cases e;exact H7.out.2.1)));have z7:w6.heap.size≤w7.heap.size:=Nat.le_trans hB.size hgrow7.size;have HM7:Hid (TM w7 bm (ps++[p])):=TM.snoc H6.out HSp.out hnn HMap.out.isMap HH1.out HH2.out hown7
     have HTab:Hid (TabAt w7 (fun b=>T b∨(w.heap.size≤b∧b < w7.heap.size)) bt (ps++[p]) (ns++[QBI ns p.kids])):=by
      (have e1:(ps++[p]).length=ps.length+1:=by simp);(have e2:(ns++[QBI ns p.kids]).length=ns.length+1:=by simp);(have e3:(ps++[p]).flatMap QAc=ps.flatMap QAc++QAc p:=by simp);(have e4:(ns++[QBI ns p.kids]).map (fun n=>(.int .i64 (n:Nat):Value))=ns.map (fun n=>(.int .i64 (n:Nat):Value))++[.int .i64 (S:Nat)]:=by simp [HSe.out]);show TabAt _ _ _ _ _;unfold TabAt;rw [e1,e2,e3,e4];(have b3:∀ b,(Value.slice (some ⟨g3,0,none⟩) (ps.length+1) cp3).ownBlock=some b→g3=b:=fun b hb=>by simpa [Value.ownBlock] using hb);(have b5:∀ b,(Value.slice (some ⟨g5,0,none⟩) (ns.length+1) cp5).ownBlock=some b→g5=b:=fun b hb=>by simpa [Value.ownBlock] using hb);have q3:=G3.out;have q5:=G5.out;have q7:=H7.out;(refine⟨some ⟨g3,0,none⟩,cp3,some ⟨g5,0,none⟩,cp5,bm,(F7.out bt (by omega) q7.2.2).trans R6.out,by have:=HL2.out;omega,QBk HP6.out fun b hb => ?_,QBk HW6.out fun b hb => ?_,HM7.out,fun q hq => ?_,Or.inl q7.1,Or.inl q7.2.1,q7.2.2,fun b hb => ?_,fun b hb => ?_⟩)
      ·rw [← b3 b hb];exact F7.out g3 (by omega) q3.2.1
      ·rw [← b5 b hb];exact F7.out g5 z5 q5.2.1
      ·rcases List.mem_append.1 hq with h|h
       ·exact H6.out q h
       ·rw [List.mem_singleton.1 h];exact HSp.out
      ·rw [← b3 b hb]
       (refine⟨?_,q3.1,q3.2.1,fun e=>q5.2.2.1 (b5 _ e)⟩)
       rcases q3.2.2.2.2 with h|h
       ·exact Or.inl h
       ·exact Or.inr ⟨h,by omega⟩
      ·rw [← b5 b hb]
       refine⟨?_,q5.1,q5.2.1⟩
       rcases q5.2.2.2.2 with h|h
       ·exact Or.inl h
       ·exact Or.inr ⟨h,by omega⟩
     obtain⟨tm,df⟩:=a;(obtain⟨ys,hys,htm,rfl⟩:=QFc 57 6 (by kernel_rfl) (Nat.le_of_ble_eq_true rfl) hold);obtain⟨x57,x58,x59,x60,x61,x62,rfl⟩:=QOL ys hys;simp only [List.take_succ_cons,List.take_zero,List.drop_succ_cons,List.drop_zero,List.cons_append,List.nil_append] at htm;subst htm;refine hK.out _ _ ?_;clear hK hold hgot hys t60 t61 t62 hmx hown7 hgrow7 hB F7 HM7 HH1 HH2 HMap HKey;go_wp2_with fail;go_ret;exact⟨rfl,HTab.out,K7.out⟩
theorem QGs:∀ fs:List Fm,Fm.sizes fs=(fs.map Fm.size).sum
 | []=>by rw [Fm.sizes];rfl
 | f :: fs=>by rw [Fm.sizes,QGs fs];simp
theorem QMg {fs:List Fm} {p:PartM} (hk:∀ j∈p.kids,j < fs.length):QBI (fs.map Fm.size) p.kids=(p.fm fs).size:=by
 unfold QBI PartM.fm;rw [Fm.size,QGs,List.map_map,Nat.add_comm]
 congr 2
 (refine List.map_congr_left fun j hj => ?_);have hlt:=hk j hj;rw [List.getD_eq_getElem?_getD,List.getElem?_map,List.getElem?_eq_getElem hlt];show fs[j].size=(fs.getD j QAR).size;rw [List.getD_eq_getElem?_getD,List.getElem?_eq_getElem hlt];rfl
structure QDe (Ph:Fm→Prop):Prop where
 fine:∀ f,Ph f→Fine f
 small:∀ f,Ph f→f.size≤1000
 kids:∀ k n ks,Ph (.mk k n ks)→∀ g∈ks,Ph g
structure Tab (Ph:Fm→Prop) (w:World) (T:Nat→Prop) (bt:Nat) (ps:List PartM) (fs:List Fm):Prop where
 tab:TabAt w T bt ps (fs.map Fm.size)
 ok:TabOk ps fs
 all:∀ g∈fs,Ph g
 old:∀ b,T b→b < w.heap.size
theorem Tab.same {Ph:Fm→Prop} {w w':World} {T:Nat→Prop} {bt:Nat} {ps:List PartM} {fs:List Fm} (h:Tab Ph w T bt ps fs) (hk:∀ b,T b→b < w.heap.size→w'.heap[b]? = w.heap[b]?) (hs:w.heap.size≤w'.heap.size):Tab Ph w' T bt ps fs :=
 ⟨h.tab.same hk,h.ok,h.all,fun b hb=>Nat.lt_of_lt_of_le (h.old b hb) hs⟩
theorem Tab.up {Ph:Fm→Prop} {w w':World} {T:Nat→Prop} {bt:Nat} {ps:List PartM} {fs:List Fm} (h:Tab Ph w T bt ps fs) (hb:Below w.heap.size w w'):Tab Ph w' T bt ps fs:=h.same (fun b _ h1=>hb.block b h1) hb.size
def NumsAre (fs:List Fm) (js:List Nat) (gs:List Fm):Prop:=(∀ j∈js,j < fs.length)∧(js.map fun j=>fs.getD j QAR)=gs
theorem NumsAre.grow {fs hs:List Fm} {js:List Nat} {gs:List Fm} (h:NumsAre fs js gs):NumsAre (fs++hs) js gs:=by
 (refine⟨fun j hj=>by rw [List.length_append];have:=h.1 j hj;omega,?_⟩);rw [← h.2];(refine List.map_congr_left fun j hj => ?_);rw [List.getD_eq_getElem?_getD,List.getD_eq_getElem?_getD,List.getElem?_append_left (h.1 j hj)]
theorem NumsAre.snoc {fs:List Fm} {js:List Nat} {gs:List Fm} {j:Nat} {g:Fm} (h:NumsAre fs js gs) (hj:fs[j]? = some g):NumsAre fs (js++[j]) (gs++[g]):=by
 (refine⟨fun i hi => ?_,?_⟩)
 ·rcases List.mem_append.1 hi with hi|hi
  ·exact h.1 i hi
  ·rw [List.mem_singleton.1 hi];exact (List.getElem?_eq_some_iff.1 hj).1
 ·rw [List.map_append,h.2]
  simp [hj]
theorem Tab.fm {fs:List Fm} {p:PartM} {k:Int} {n:ByteArray} {ks:List Fm} (hk:p.kind=k) (hn:p.name=n) (h:NumsAre fs p.kids ks):p.fm fs = .mk k n ks:=by
 unfold PartM.fm;rw [hk,hn,h.2]
theorem QJW {Ph:Fm→Prop} (hc:QDe Ph) {fs:List Fm} {p:PartM} {k:Int} {n:ByteArray} {ks:List Fm} (hf:Ph (.mk k n ks)) (hk:p.kind=k) (hn:p.name=n) (h:NumsAre fs p.kids ks) (hl:fs.length≤100000):QAu p∧n.size≤8:=by
 have hfi:=hc.fine _ hf;have hs:=hfi.small;(have hlen:p.kids.length=ks.length:=by rw [← h.2,List.length_map]);(refine⟨⟨?_,by rw [hn];unfold maxLen;omega,by omega,fun j hj=>by have:=h.1 j hj;omega⟩,hs.1⟩);rw [hk]
 rcases hfi.forms with ⟨m,e,-⟩|e|e|⟨k',g,hk',e,-⟩|⟨k',g,g',hk',e,-,-⟩
 all_goals (injection e with e1 e2 e3;omega)
end Go.Proofs.YtbmedfokpgghiacGreat
