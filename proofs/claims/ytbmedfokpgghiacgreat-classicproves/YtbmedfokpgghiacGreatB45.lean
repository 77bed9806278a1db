import Derived.Test.YtbmedfokpgghiacGreatB41
import Derived.Test.YtbmedfokpgghiacGreatB26
import Derived.Test.YtbmedfokpgghiacGreatB42
import Derived.Test.YtbmedfokpgghiacGreatB25
import Derived.Test.YtbmedfokpgghiacGreatB12
import Derived.Test.YtbmedfokpgghiacGreatB19
namespace Go.Proofs.YtbmedfokpgghiacGreat
theorem QKZ {g:Fm}:∀ {ks:List Fm},g∈ks→g.size≤Fm.sizes ks
 | k :: ks,h=>by
  rw [Fm.sizes]
  rcases List.mem_cons.1 h with e|e
  ·subst e;omega
  ·have:=QKZ e
   omega
theorem QOG {k:Int} {n:ByteArray} {ks:List Fm} (h:(Fm.mk k n ks).pcode.1=0) {g:Fm} (hg:g∈ks):g.pcode.1=0:=by
 obtain⟨-,hp,-⟩:=QDN h;obtain⟨hf,hs⟩:=QAs h;have hp':=(QEY _ _).1 hp;obtain⟨i,hi⟩:=List.getElem?_of_mem hg;have hfg:=hf.kid i g hi
 have hsg:g.size≤200:=by
  rw [Fm.size] at hs;have:=QKZ hg;omega
 (rw [QMl (QFW g 0 hfg (by omega)) ((QEY _ _).2 fun x hx=>hp' x ?_)]);rw [QBx];refine List.mem_cons_of_mem _ ?_;clear hp hp' hf hs h hi hfg hsg
 induction ks with
 | nil=>cases hg
 | cons y ys ih =>
  rw [allNs]
  rcases List.mem_cons.1 hg with e|e
  ·subst e;exact List.mem_append_left _ hx
  ·exact List.mem_append_right _ (ih e)
theorem QMf {k:Int} {n:ByteArray} {ks:List Fm} {g:Fm} (hg:g∈ks) {t:List UInt8} (ht:t∈QEK g):t∈QEK (.mk k n ks):=by
 unfold QEK at *;obtain⟨b,hb,rfl⟩:=List.mem_map.1 ht;obtain⟨ks',hk⟩:=(QDL _ _).1 hb;refine List.mem_map.2 ⟨b,(QDL _ _).2 ⟨ks',?_⟩,rfl⟩;rw [QBx];refine List.mem_cons_of_mem _ ?_;clear ht hb
 induction ks with
 | nil=>cases hg
 | cons y ys ih =>
  rw [allNs]
  rcases List.mem_cons.1 hg with e|e
  ·subst e;exact List.mem_append_left _ hk
  ·exact List.mem_append_right _ (ih e)
def PhS (S:List UInt8→Prop) (f:Fm):Prop:=f.pcode.1=0∧∀ t∈QEK f,S t
theorem QKp (S:List UInt8→Prop):QDe (PhS S):=⟨fun _ h=>(QAs h.1).1,fun _ h=>by have:=(QAs h.1).2;omega,fun _ _ _ h _ hg=>⟨QOG h.1 hg,fun t ht=>h.2 t (QMf hg ht)⟩⟩
theorem QJl {fs:List Fm} {il ir:List Nat} {l r:List Fm} (hl:ItsL fs il l) (hr:ItsR fs ir r):QAW fs (il++ir)=l∧QAX fs (il++ir)=r∧∀ i∈il++ir,i / 2 < fs.length:=by
 have e1:∀ i∈il,∃ n,i=2 * n∧n < fs.length:=fun i hi=>by
  obtain⟨j,hj⟩:=List.getElem?_of_mem hi;(have hlt:j < l.length:=by rw [← hl.1];exact (List.getElem?_eq_some_iff.1 hj).1);obtain⟨n,h1,h2⟩:=hl.2 j _ (List.getElem?_eq_getElem hlt);rw [hj] at h1;exact⟨n,Option.some.inj h1,(List.getElem?_eq_some_iff.1 h2).1⟩
 have e2:∀ i∈ir,∃ n,i=2 * n+1∧n < fs.length:=fun i hi=>by
  obtain⟨j,hj⟩:=List.getElem?_of_mem hi;(have hlt:j < r.length:=by rw [← hr.1];exact (List.getElem?_eq_some_iff.1 hj).1);obtain⟨n,h1,h2⟩:=hr.2 j _ (List.getElem?_eq_getElem hlt);rw [hj] at h1;exact⟨n,Option.some.inj h1,(List.getElem?_eq_some_iff.1 h2).1⟩
 have f1:il.filter (fun i=>!itR i)=il:=List.filter_eq_self.2 fun i hi=>by
  obtain⟨n,rfl,-⟩:=e1 i hi;rw [(QAp n).1];rfl
 have f2:il.filter itR=[]:=List.filter_eq_nil_iff.2 fun i hi=>by
  obtain⟨n,rfl,-⟩:=e1 i hi;rw [(QAp n).1];simp
 have f3:ir.filter (fun i=>!itR i)=[]:=List.filter_eq_nil_iff.2 fun i hi=>by
  obtain⟨n,rfl,-⟩:=e2 i hi;rw [(QAp n).2];simp
 have f4:ir.filter itR=ir:=List.filter_eq_self.2 fun i hi=>by
  obtain⟨n,rfl,-⟩:=e2 i hi;exact (QAp n).2
 (refine⟨?_,?_,fun i hi => ?_⟩)
 ·unfold QAW
  rw [List.filter_append,f1,f3,List.append_nil];apply List.ext_getElem?;intro j;rw [List.getElem?_map]
  rcases Nat.lt_or_ge j l.length with h|h
  ·obtain⟨n,h1,h2⟩:=hl.2 j _ (List.getElem?_eq_getElem h)
   rw [h1,List.getElem?_eq_getElem h,← h2];show some (fs.getD (2 * n / 2) QAR)=_;(rw [show 2 * n / 2=n by omega,QBd (List.getElem?_eq_some_iff.1 h2).1])
  ·rw [List.getElem?_eq_none h,List.getElem?_eq_none (by rw [hl.1];exact h)];rfl
 ·unfold QAX
  rw [List.filter_append,f2,f4,List.nil_append];apply List.ext_getElem?;intro j;rw [List.getElem?_map]
  rcases Nat.lt_or_ge j r.length with h|h
  ·obtain⟨n,h1,h2⟩:=hr.2 j _ (List.getElem?_eq_getElem h)
   rw [h1,List.getElem?_eq_getElem h,← h2];show some (fs.getD ((2 * n+1) / 2) QAR)=_;(rw [show (2 * n+1) / 2=n by omega,QBd (List.getElem?_eq_some_iff.1 h2).1])
  ·rw [List.getElem?_eq_none h,List.getElem?_eq_none (by rw [hr.1];exact h)];rfl
 ·rcases List.mem_append.1 hi with h|h
  ·obtain⟨n,rfl,hn⟩:=e1 i h
   omega
  ·obtain⟨n,rfl,hn⟩:=e2 i h
   omega
structure QER (l r:List Fm) (L:List (List UInt8)):Prop where
 left:∀ f∈l,tv (fun t=>decide (t∈L)) f=true
 right:∀ f∈r,tv (fun t=>decide (t∈L)) f=false
 up:QHF L
 names:∀ t∈L,QBt t=true
 occ:∀ t∈L,∃ f∈l++r,t∈QEK f
theorem QFY {ps:List PartM} {br:List Nat} {u:List UInt8}:u∈QBp ps br ↔ ∃ i p,i∈br∧ps[i / 2]? = some p∧p.kind=1∧itR i=false∧p.name.data.toList=u:=by
 unfold QBp;rw [List.mem_filterMap]
 constructor
 ·rintro ⟨i,hi,h⟩
  split at h
  ·rename_i p hp
   split at h
   ·rename_i hc
    exact⟨i,p,hi,hp,hc.1,hc.2,Option.some.inj h⟩
   ·cases h
  ·cases h
 ·rintro ⟨i,p,hi,hp,hk,hr,hu⟩
  refine⟨i,hi,?_⟩;rw [hp];simp only;rw [if_pos ⟨hk,hr⟩,hu]
theorem QHb {l:List (List UInt8)} {t:List UInt8}:t∈srt l ↔ t∈l:=List.mem_mergeSort
theorem QJo {l:List (List UInt8)} (h:l.Nodup):QHF (srt l):=by
 have hs:(srt l).Pairwise (fun a b=>decide (a≤b)=true) :=
  List.pairwise_mergeSort (fun a b c h1 h2=>by
   simp only [decide_eq_true_eq] at *
   exact List.le_trans h1 h2) (fun a b=>by
   simp only [Bool.or_eq_true,decide_eq_true_eq]
   exact List.le_total a b) _
 have hn:(srt l).Nodup:=(List.mergeSort_perm l _).nodup_iff.2 h;have:=List.Pairwise.and hs hn;(refine List.Pairwise.imp (fun {a b} hab => ?_) this);obtain⟨h1,h2⟩:=hab
 rcases QOF a b with h|h|h
 ·exact h
 ·exact absurd h h2
 ·exact absurd (of_decide_eq_true h1) (List.not_le.2 h)
theorem QHV {ps:List PartM} {fs:List Fm} (h:TabOk ps fs) (hpc:∀ g∈fs,g.pcode.1=0) {wh br is:List Nat} (ho:OpenS ps wh) (hm:∀ i,i∈br ↔ wh.getD i 0≠0) (hnd:br.Nodup) (hlen:wh.length=2 * ps.length) (his:∀ i∈is,wh.getD i 0≠0) (hS:∀ g∈fs,∀ t∈QEK g,∃ f∈QAW fs is++QAX fs is,t∈QEK f):QER (QAW fs is) (QAX fs is) (srt (QBp ps br)):=by
 (have hpl:∀ n,n < fs.length→Pl (fs.getD n QAR):=fun n hn=>QIY (hpc _ (List.mem_of_getElem? (QBd hn))))
 have hlt:∀ i,wh.getD i 0≠0→i / 2 < fs.length:=fun i hi=>by
  rcases Nat.lt_or_ge i wh.length with h1|h1
  ·rw [← h.len];omega
  ·rw [List.getD_eq_getElem?_getD,List.getElem?_eq_none h1] at hi
   exact absurd rfl hi
 have hname:∀ n p,ps[n]? = some p→p.kind=1→fs.getD n QAR = .mk 1 p.name []:=fun n p hp hk=>by
  (have hnl:n < fs.length:=by rw [← h.len];exact (List.getElem?_eq_some_iff.1 hp).1)
  rcases QBe h hp (hpl n hnl) with ⟨-,-,hf⟩|⟨hk2,-⟩|⟨hk2,-⟩|⟨hk2,-⟩|⟨hk2,-⟩
  ·exact hf
  all_goals omega
 have hrow:=QIR h (fun i=>wh.getD i 0≠0) (fun i hi=>⟨hlt i hi,hpl _ (hlt i hi)⟩) ho.ways ho.calm ho.far (fun t=>decide (t∈srt (QBp ps br))) (fun u=>by
  rw [decide_eq_true_eq,QHb,QFY]
  constructor
  ·rintro ⟨i,p,hi,hp,hk,hr,hu⟩
   refine⟨i / 2,p,hp,hk,hu,?_⟩
   have:2 * (i / 2)=i:=by
    rcases QDJ i with e|e
    ·omega
    ·rw [e,(QAp _).2] at hr
     cases hr
   rw [this];exact (hm i).1 hi
  ·rintro ⟨n,p,hp,hk,hu,hs⟩
   exact⟨2 * n,p,(hm _).2 hs,by rw [show 2 * n / 2=n by omega];exact hp,hk,(QAp n).1,hu⟩)
 (have hall:=QIf (fs:=fs) (is:=is) (t:=fun t=>decide (t∈srt (QBp ps br))) fun x hx=>hrow (x / 2+1) x (by omega) (his x hx));(refine⟨hall.1,hall.2,QJo ?_,fun t ht => ?_,fun t ht => ?_⟩)
 ·unfold QBp
  rw [List.Nodup,List.pairwise_filterMap];refine List.Pairwise.imp_of_mem ?_ hnd;intro i j hi hj hij u hu v hv e;subst e
  have ri:∀ i,i∈br→(match ps[i / 2]? with|some p=>if p.kind=1∧itR i=false then some p.name.data.toList else none|none=>none)=some u→i=2 * (i / 2)∧∃ p,ps[i / 2]? = some p∧p.kind=1∧p.name.data.toList=u:=fun i _ h=>by
   split at h
   ·rename_i p hp
    split at h
    ·rename_i hc
     refine⟨?_,p,hp,hc.1,Option.some.inj h⟩
     rcases QDJ i with e|e
     ·exact e
     ·have:=hc.2
      rw [e,(QAp _).2] at this
      cases this
    ·cases h
   ·cases h
  obtain⟨a1,p,a2,a3,a4⟩:=ri i hi hu;obtain⟨b1,q,b2,b3,b4⟩:=ri j hj hv;(have hnn:p.name=q.name:=by apply ByteArray.ext;apply Array.ext';rw [a4,b4]);(have:=QEr h.nodup (hlt i ((hm i).1 hi)) (hlt j ((hm j).1 hj)) (by rw [hname _ p a2 a3,hname _ q b2 b3,hnn]));(exact hij (by rw [a1,b1,this]))
 ·obtain⟨i,p,hi,hp,hk,hr,hu⟩:=QFY.1 (QHb.1 ht)
  have hnl:=hlt i ((hm i).1 hi);have hf:=(QAs (hpc _ (List.mem_of_getElem? (QBd hnl)))).1;rw [hname _ p hp hk] at hf
  rcases hf.forms with ⟨m,e,hn⟩|e|e|⟨c,g,hk,e,hg⟩|⟨c,g,g',hk,e,hg,hg'⟩
  ·injection e with _ e _
   rw [← hu,e];exact hn
  ·injection e with e _ _;omega
  ·injection e with e _ _;omega
  ·injection e with e _ _;omega
  ·injection e with e _ _;omega
 ·obtain⟨i,p,hi,hp,hk,hr,hu⟩:=QFY.1 (QHb.1 ht)
  have hnl:=hlt i ((hm i).1 hi);refine hS _ (List.mem_of_getElem? (QBd hnl)) t ?_;rw [hname _ p hp hk];unfold QEK;refine List.mem_map.2 ⟨p.name,(QDL _ _).2 ⟨[],?_⟩,hu⟩;rw [QBx];exact List.mem_cons_self
theorem QGr {fs:List Fm} {is:List Nat} (hf:∀ i∈is,(itF fs i).pcode.1=0):(∀ x∈QAW fs is,x.size≤200)∧∀ x∈QAX fs is,x.size≤200:=by
 (refine⟨fun x hx => ?_,fun x hx => ?_⟩)
 ·obtain⟨i,hi,rfl⟩:=List.mem_map.1 hx
  exact (QAs (hf i (List.mem_filter.1 hi).1)).2
 ·obtain⟨i,hi,rfl⟩:=List.mem_map.1 hx
  exact (QAs (hf i (List.mem_filter.1 hi).1)).2
theorem QNG {ps:List PartM} {fs:List Fm} (h:TabOk ps fs) (hpl:∀ n,n < fs.length→Pl (fs.getD n QAR)) (hc:∀ n,n < fs.length→(fs.getD n QAR).pcode.1=0) {d:Nat} {p:Plan} {is:List Nat} {P:Pf} (hw:WPf ps fs d p is P):QAo ps p→(∀ x∈is,x / 2 < ps.length)→(∀ x∈p.needs,x / 2 < ps.length)→∀ d',d'≤d→Tiny d' P:=by
 (have hcd:∀ is:List Nat,(∀ x∈is,x / 2 < ps.length)→∀ i∈is,(itF fs i).pcode.1=0:=fun is hb i hi=>hc _ (by rw [← h.len];exact hb i hi))
 induction hw with
 | weak d a ha p is k hd hl hk ih =>
  intro ho hb hn d' hd';have hs:=QGr (hcd is hb);have hlen:=QFw fs is;(refine Tiny.mk d' a _ _ _ _ (by omega) (by simp) (by omega) (by omega) (by simp [Fm.size,Fm.sizes]) hs.1 hs.2 fun q hq => ?_);rw [List.mem_singleton.1 hq]
  exact ih ho hn hn (d'+1) (by omega)
 | step d a i needs kids is ks hd hl hlen hk ih =>
  intro ho hb hn d' hd';have hs:=QGr (hcd is hb);have hsl:=QFw fs is;(have leaf:i / 2 < ps.length→(itF fs i).size≤200:=fun hi=>(QAs (hc _ (by rw [← h.len];exact hi))).2)
  cases ho with
  | ax _ ha _ n hi hnl =>
   (have hks:ks=[]:=List.length_eq_zero_iff.1 (by rw [hlen];rfl));subst hks
   exact Tiny.mk d' a _ _ _ _ (by omega) (by simp) (by omega) (by omega) (leaf (by omega)) hs.1 hs.2 fun k hk=>by cases hk
  | tr _ ha _ q hp hkd hr =>
   (have hks:ks=[]:=List.length_eq_zero_iff.1 (by rw [hlen];rfl));subst hks
   exact Tiny.mk d' a _ _ _ _ (by omega) (by simp) (by omega) (by omega) (leaf (List.getElem?_eq_some_iff.1 hp).1) hs.1 hs.2 fun k hk=>by cases hk
  | fa _ ha _ q hp hkd hr =>
   (have hks:ks=[]:=List.length_eq_zero_iff.1 (by rw [hlen];rfl));subst hks
   exact Tiny.mk d' a _ _ _ _ (by omega) (by simp) (by omega) (by omega) (leaf (List.getElem?_eq_some_iff.1 hp).1) hs.1 hs.2 fun k hk=>by cases hk
  | step _ _ _ _ hi ha hin hne hlen2 hko hnd =>
   have hp:=List.getElem?_eq_getElem hi;(have hplI:=hpl (i / 2) (by rw [← h.len];exact hi));have h2:=(QDR h hp hplI).1;(refine Tiny.mk d' a _ _ _ _ (by omega) (by omega) (by omega) (by omega) (leaf hi) hs.1 hs.2 fun k hkm => ?_);obtain⟨j,hj⟩:=List.getElem?_of_mem hkm;have hlt:=(List.getElem?_eq_some_iff.1 hj).1;(have g1:=List.getElem?_eq_getElem (l:=kids) (i:=j) (by omega));(have g2:=List.getElem?_eq_getElem (l:=(QAP ps i).2) (i:=j) (by omega));(refine ih j _ k _ g1 g2 hj (hko j _ g1) (fun x hx => ?_) (fun x hx => ?_) (d'+1) (by omega))
   ·rcases List.mem_append.1 hx with hx|hx
    ·exact hb x (List.mem_of_mem_erase hx)
    ·have:=(QDS h hp hplI _ (List.mem_of_getElem? g2) x hx).1
     omega
   ·rcases hnd j _ _ g1 g2 x hx with hx2|hx2
    ·have:=(QDS h hp hplI _ (List.mem_of_getElem? g2) x hx2).1
     omega
    ·exact hn x hx2
end Go.Proofs.YtbmedfokpgghiacGreat
