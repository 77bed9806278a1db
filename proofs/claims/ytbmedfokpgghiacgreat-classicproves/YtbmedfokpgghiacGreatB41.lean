import Derived.Test.YtbmedfokpgghiacGreatB37
import Derived.Test.YtbmedfokpgghiacGreatB15
import Derived.Test.YtbmedfokpgghiacGreatB34
namespace Go.Proofs.YtbmedfokpgghiacGreat
inductive WPf (ps:List PartM) (fs:List Fm):Nat→Plan→List Nat→Pf→Prop
 | weak (d:Nat) (a:ByteArray) (ha:a.data.toList=QBw) (p:Plan) (is:List Nat) (k:Pf) (hd:d≤400) (hl:is.length≤60) (h:WPf ps fs (d+1) p p.needs k):WPf ps fs d p is (.mk a (.mk 0 ⟨#[]⟩ []) (QAW fs is) (QAX fs is) [k])
 | step (d:Nat) (a:ByteArray) (i:Nat) (needs:List Nat) (kids:List Plan) (is:List Nat) (ks:List Pf) (hd:d≤400) (hl:is.length≤60) (hlen:ks.length=kids.length)
   (hk:∀ (j:Nat) (k:Plan) (q:Pf) (pr:List Nat),kids[j]? = some k→(QAP ps i).2[j]? = some pr→ks[j]? = some q→WPf ps fs (d+1) k (is.erase i++pr) q):WPf ps fs d (.mk a i needs kids) is (.mk a (itF fs i) (QAW fs is) (QAX fs is) ks)
inductive QCq:Nat→Pf→Prop
 | mk (d:Nat) (a:ByteArray) (f:Fm) (l r:List Fm) (ks:List Pf) (hd:d≤400) (hs:QBa false (.mk a f l r ks)=0) (hc:a.data.toList≠Ru.cut.text) (hk:∀ k∈ks,QCq (d+1) k):QCq d (.mk a f l r ks)
theorem QDp {fs:List Fm}:∀ {needs is:List Nat},needs.Nodup→(∀ x∈needs,x∈is)→∀ f,(QAW fs needs).count f≤(QAW fs is).count f∧(QAX fs needs).count f≤(QAX fs is).count f
 | [],_,_,_,f=>by simp [QAW,QAX]
 | x :: needs,is,hn,hs,f=>by
  have hx:=hs x (List.mem_cons_self ..);have hp:=List.perm_cons_erase hx;(have ih:=QDp (fs:=fs) (needs:=needs) (is:=is.erase x) (List.nodup_cons.1 hn).2 (fun y hy=>(List.mem_erase_of_ne (fun e=>(List.nodup_cons.1 hn).1 (by rw [← e];exact hy))).2 (hs y (List.mem_cons_of_mem _ hy))) f);have h1:=(QEM (fs:=fs) hp).count_eq f;have h2:=(QEN (fs:=fs) hp).count_eq f;rw [h1,h2,show x :: needs=[x]++needs from rfl,show x :: is.erase x=[x]++is.erase x from rfl,QAw,QAw,QAx,QAx,List.count_append,List.count_append,List.count_append,List.count_append];omega
theorem QFw (fs:List Fm) (is:List Nat):(QAW fs is).length+(QAX fs is).length=is.length:=by
 induction is with
 | nil=>rfl
 | cons x is ih =>
  rw [show x :: is=[x]++is from rfl,QAw,QAx]
  cases h:itR x <;> simp [QAW,QAX,h] at ih ⊢ <;> omega
theorem QGp {fs:List Fm} {is:List Nat} (hl:is.length≤60) (hf:∀ i∈is,(itF fs i).pcode.1=0):(QAd (QAW fs is) (QAX fs is)).1=0:=by
 unfold QAd;(rw [if_neg (by rw [QFw];omega)]);(rw [QDD _ _ fun f h => ?_])
 rcases List.mem_append.1 h with h|h
 ·obtain⟨i,hi,rfl⟩:=List.mem_map.1 h
  exact hf i (List.mem_filter.1 hi).1
 ·obtain⟨i,hi,rfl⟩:=List.mem_map.1 h
  exact hf i (List.mem_filter.1 hi).1
theorem WPf.ends {ps:List PartM} {fs:List Fm} {d:Nat} {p:Plan} {is:List Nat} {P:Pf} (h:WPf ps fs d p is P):P.l=QAW fs is∧P.r=QAX fs is:=by
 cases h <;> exact⟨rfl,rfl⟩
theorem QLJ {ks:List Pf} {ss:List (List Fm × List Fm)} (h:∀ (j:Nat) (k:Pf) (s:List Fm × List Fm),ks[j]? = some k→ss[j]? = some s→k.l.Perm s.1∧k.r.Perm s.2):QBq ks ss=0:=by
 induction ks generalizing ss with
 | nil=>rw [QBq];intro _ _ _ _ h;cases h
 | cons k ks ih =>
  cases ss with
  | nil=>rfl
  | cons s ss =>
   obtain⟨h1,h2⟩:=h 0 k s rfl rfl;(rw [QBq,if_pos (by rw [(QDI _ _).2 h1,(QDI _ _).2 h2];rfl)]);(exact ih fun j k s hk hs=>h (j+1) k s (by simpa using hk) (by simpa using hs))
theorem QDz {a:ByteArray} {f:Fm} {l r:List Fm} {ks:List Pf} {q:Ru} {ss:List (List Fm × List Fm)} (h1:(QAd l r).1=0) (h2:a.data.toList≠QBw) (h3:QBS false a.data.toList=some q) (h4:f.pcode.1=0) (h5:QCw false q f l r=some ss) (h6:ks.length=ss.length) (h7:QBq ks ss=0):QBa false (.mk a f l r ks)=0:=by
 (rw [QBa,if_neg (by rintro (h|⟨h,-⟩);exact h h1;cases h),if_neg h2,h3]);simp only;(rw [if_neg (fun h=>h h4),h5]);simp only;(rw [if_neg (fun h=>h h6),h7])
theorem QKP {ps:List PartM} {fs:List Fm} (h:TabOk ps fs) {i:Nat} {p:PartM} (hp:ps[i / 2]? = some p):(itF fs i).kind=p.kind:=by
 have h1:=(h.at' _ p hp).2;unfold itF;rw [List.getD_eq_getElem?_getD,h1];rfl
theorem QNF {ps:List PartM} {fs:List Fm} (h:TabOk ps fs) (hpl:∀ n,n < fs.length→Pl (fs.getD n QAR)) (hc:∀ n,n < fs.length→(fs.getD n QAR).pcode.1=0) {d:Nat} {p:Plan} {is:List Nat} {P:Pf} (hw:WPf ps fs d p is P):QAo ps p→QCk p→(∀ x∈is,x / 2 < ps.length)→(∀ x∈p.needs,x∈is)→QCq d P:=by
 (have hcd:∀ is:List Nat,(∀ x∈is,x / 2 < ps.length)→∀ i∈is,(itF fs i).pcode.1=0:=fun is hb i hi=>hc _ (by rw [← h.len];exact hb i hi))
 induction hw with
 | weak d a ha p is k hd hl hk ih =>
  intro ho hn hb hs
  have hnd:p.needs.Nodup:=by
   cases hn with
   | mk a i needs kids h1 h2 h3=>exact h1
  have he:=hk.ends;(refine QCq.mk d a _ _ _ _ hd ?_ (by rw [ha];decide) fun q hq => ?_)
  ·rw [QBa,if_neg (by rintro (h|⟨h,-⟩);exact h (QGp hl (hcd is hb));cases h),if_pos ha]
   unfold QDT;rw [if_pos rfl];simp only;(rw [he.1,he.2,(QCR _ _).2 fun f=>(QDp hnd hs f).1,(QCR _ _).2 fun f=>(QDp hnd hs f).2]);rfl
  ·rw [List.mem_singleton.1 hq]
   exact ih ho hn (fun x hx=>hb x (hs x hx)) fun x hx=>hx
 | step d a i needs kids is ks hd hl hlen hk ih =>
  intro ho hn hb hs;have hco:=QGp hl (hcd is hb)
  cases ho with
  | ax _ ha _ n hi hnl =>
   subst hi;(have e1:2 * (i / 2)∈is:=hs _ (by simp [Plan.needs]));(have e2:2 * (i / 2)+1∈is:=hs _ (by simp [Plan.needs]));(have f1:itF fs i∈QAW fs is:=List.mem_map.2 ⟨2 * (i / 2),List.mem_filter.2 ⟨e1,by rw [(QAp _).1];rfl⟩,(QCH fs _).1⟩);have f2:itF fs i∈QAX fs is:=List.mem_map.2 ⟨2 * (i / 2)+1,List.mem_filter.2 ⟨e2,(QAp _).2⟩,(QCH fs _).2⟩;(have hks:ks=[]:=List.length_eq_zero_iff.1 (by rw [hlen];rfl));subst hks;(refine QCq.mk d a _ _ _ _ hd (QDz hco (by rw [ha];decide) (q := .ax) (ss:=[]) (by rw [ha];decide) (hc _ (by rw [← h.len];exact hnl)) ?_ rfl rfl) (by rw [ha];decide) fun k hk=>by cases hk);unfold QCw;simp only
   rw [if_pos ⟨f1,f2⟩]
  | tr _ ha _ q hp hkd hr =>
   (have e1:i∈is:=hs _ (by simp [Plan.needs]));have f1:=(QFx (fs:=fs) e1 hr).1;(have hks:ks=[]:=List.length_eq_zero_iff.1 (by rw [hlen];rfl));subst hks;(refine QCq.mk d a _ _ _ _ hd (QDz hco (by rw [ha];decide) (q := .tr) (ss:=[]) (by rw [ha];decide) (hcd is hb i e1) ?_ rfl rfl) (by rw [ha];decide) fun k hk=>by cases hk);unfold QCw;simp only
   rw [if_pos ⟨(QKP h hp).trans hkd,f1⟩]
  | fa _ ha _ q hp hkd hr =>
   (have e1:i∈is:=hs _ (by simp [Plan.needs]));have f1:=(QGq (fs:=fs) e1 hr).1;(have hks:ks=[]:=List.length_eq_zero_iff.1 (by rw [hlen];rfl));subst hks;(refine QCq.mk d a _ _ _ _ hd (QDz hco (by rw [ha];decide) (q := .fa) (ss:=[]) (by rw [ha];decide) (hcd is hb i e1) ?_ rfl rfl) (by rw [ha];decide) fun k hk=>by cases hk);unfold QCw;simp only
   rw [if_pos ⟨(QKP h hp).trans hkd,f1⟩]
  | step _ _ _ _ hi ha hin hne hlen2 hko hnd =>
   have e1:i∈is:=hs _ hin;have hp:=List.getElem?_eq_getElem hi;(have hplI:=hpl (i / 2) (by rw [← h.len];exact hi));obtain⟨q,ss,r1,r2,r3,r4,r5,r6⟩:=QNE h hp hplI is e1 hne;rw [← ha] at r1 r2 r3
   have row:∀ (j:Nat) (k:Pf),ks[j]? = some k→∃ kp pr,kids[j]? = some kp∧(QAP ps i).2[j]? = some pr:=fun j k hj=>by
    have hlt:=(List.getElem?_eq_some_iff.1 hj).1;(exact⟨_,_,List.getElem?_eq_getElem (by omega),List.getElem?_eq_getElem (by omega)⟩)
   (refine QCq.mk d a _ _ _ _ hd (QDz hco r2 r1 (hcd is hb i e1) r4 (by rw [hlen,hlen2,r5]) (QLJ fun j k s hj hsj => ?_)) r3 fun k hkm => ?_)
   ·obtain⟨kp,pr,g1,g2⟩:=row j k hj
    have he:=(hk j kp k pr g1 g2 hj).ends;rw [he.1,he.2];exact r6 j pr s g2 hsj
   ·obtain⟨j,hj⟩:=List.getElem?_of_mem hkm
    obtain⟨kp,pr,g1,g2⟩:=row j k hj
    cases hn with
    | mk _ _ _ _ n1 n2 n3 =>
     have hkp:=List.mem_of_getElem? g1;(refine ih j kp k pr g1 g2 hj (hko j kp g1) (n2 kp hkp) (fun x hx => ?_) fun x hx => ?_)
     ·rcases List.mem_append.1 hx with hx|hx
      ·exact hb x (List.mem_of_mem_erase hx)
      ·have:=(QDS h hp hplI pr (List.mem_of_getElem? g2) x hx).1
       omega
     ·rcases hnd j kp pr g1 g2 x hx with hx2|hx2
      ·exact List.mem_append_right _ hx2
      ·exact List.mem_append_left _ ((List.mem_erase_of_ne fun e=>n3 kp hkp (by rw [← e];exact hx)).2 (hs x hx2))
mutual
theorem QGR:∀ (P:Pf) (d s c:Nat),QCq d P→s+P.size≤20000→QCI false P d s c=((0,0),s+P.size,c)
 | .mk a f l r ks,d,s,c,h,hs=>by
  cases h with
  | mk _ _ _ _ _ _ hd h1 h2 h3 =>
   rw [Pf.size] at hs ⊢;(rw [QDn,if_neg (by omega),if_neg (by rw [h1];simp),if_neg h2,fine_looks ks (d+1) (s+1) c h3 (by omega)])
   congr 2
   omega
theorem fine_looks:∀ (ks:List Pf) (d s c:Nat),(∀ k∈ks,QCq d k)→s+Pf.sizes ks≤20000→looks false ks d s c=((0,0),s+Pf.sizes ks,c)
 | [],d,s,c,h,hs=>by rw [looks,Pf.sizes];rfl
 | k :: ks,d,s,c,h,hs=>by
  rw [Pf.sizes] at hs ⊢;(have h1:=QGR k d s c (h k (List.mem_cons_self ..)) (by omega));rw [looks,h1];simp only [ne_eq,not_true_eq_false,if_false];(rw [fine_looks ks d _ c (fun q hq=>h q (List.mem_cons_of_mem _ hq)) (by omega)])
  congr 2
  omega
end
def Bs:Nat→Nat
 | 0=>1
 | 1=>2
 | n+2=>1+2 * Bs n
theorem QLw:∀ n,1+Bs n≤Bs (n+1)
 | 0=>by decide
 | 1=>by decide
 | n+2=>by
  have:=QLw n;rw [Bs,show n+2+1=(n+1)+2 from rfl,Bs];omega
theorem QDu {m n:Nat} (h:m≤n):Bs m≤Bs n:=by
 induction n with
 | zero=>rw [Nat.le_zero.1 h];exact Nat.le_refl _
 | succ n ih =>
  rcases Nat.lt_or_ge n m with h1|h1
  ·rw [show m=n+1 by omega];exact Nat.le_refl _
  ·have:=QLw n
   have:=ih h1;omega
theorem QNv {m n:Nat} (h:m+1≤n):1+Bs m≤Bs n:=Nat.le_trans (QLw m) (QDu h)
theorem QNw {m n:Nat} (h:m+2≤n):1+2 * Bs m≤Bs n:=by
 have:=QDu h
 rwa [Bs] at this
theorem QLx (n:Nat):1≤Bs n:=QDu (Nat.zero_le n)
theorem QOU:Bs 25=12287:=by decide
theorem QGu (g:Nat→Nat):∀ {is:List Nat} {i:Nat},i∈is→(is.map g).sum=g i+((is.erase i).map g).sum
 | x :: is,i,h=>by
  by_cases e:x=i
  ·subst e
   rw [List.erase_cons_head,List.map_cons,List.sum_cons]
  ·have h':i∈is:=by
    rcases List.mem_cons.1 h with h|h
    ·exact absurd h.symm e
    ·exact h
   (rw [List.erase_cons_tail (by simpa using e),List.map_cons,List.sum_cons,List.map_cons,List.sum_cons,QGu g h']);omega
theorem QGd {x:Fx} (h:TabOk x.ps x.fs) {i:Nat} {p:PartM} (hp:x.ps[i / 2]? = some p) (hpl:Pl (x.fs.getD (i / 2) QAR)) {is pr:List Nat} (hi:i∈is) (hpr:pr∈(QAP x.ps i).2):x.nods (is.erase i++pr)+(QAP x.ps i).2.length≤x.nods is:=by
 have h1:=(QDR h hp hpl).2 pr hpr;(have h2:=QGu (fun j=>(itF x.fs j).size) hi);unfold Fx.nods;rw [List.map_append,List.sum_append,h2];omega
theorem QIP {x:Fx} (is:List Nat) (hs:∀ f:Fm,1≤f.size):is.length≤x.nods is:=by
 unfold Fx.nods
 induction is with
 | nil=>simp
 | cons y is ih =>
  rw [List.map_cons,List.sum_cons,List.length_cons];have:=hs (itF x.fs y);omega
theorem QMw {fs:List Fm} {is:List Nat} {x:Nat} (hx:x∈is):(itR x=false→itF fs x∈QAW fs is)∧(itR x=true→itF fs x∈QAX fs is) :=
 ⟨fun h=>List.mem_map.2 ⟨x,List.mem_filter.2 ⟨hx,by rw [h];rfl⟩,rfl⟩,fun h=>List.mem_map.2 ⟨x,List.mem_filter.2 ⟨hx,h⟩,rfl⟩⟩
theorem QJY {ps:List PartM} {fs:List Fm} (h:TabOk ps fs) (hpl:∀ n,n < fs.length→Pl (fs.getD n QAR)) {p:Plan} (hp:QAo ps p) {is:List Nat} (hs:∀ x∈p.needs,x∈is):QMG (QAW fs is) (QAX fs is):=fun t hl=>by
 apply Classical.byContradiction;intro hno;(refine QJX h hpl t hp fun x hx => ?_);have hm:=QMw (fs:=fs) (hs x hx);unfold itH
 cases hr:itR x
 ·rw [if_neg (by simp)]
  exact hl _ (hm.1 hr)
 ·rw [if_pos rfl]
  cases ht:tv t (itF fs x)
  ·rfl
  ·exact absurd ⟨_,hm.2 hr,ht⟩ hno
theorem QIf {fs:List Fm} {is:List Nat} {t:List UInt8→Bool} (h:∀ x∈is,itH t fs x=true):(∀ f∈QAW fs is,tv t f=true)∧∀ f∈QAX fs is,tv t f=false:=by
 (refine⟨fun f hf => ?_,fun f hf => ?_⟩)
 ·obtain⟨x,hx,rfl⟩:=List.mem_map.1 hf
  obtain⟨hx,hr⟩:=List.mem_filter.1 hx;(have hr':itR x=false:=by simpa using hr);have:=h x hx;unfold itH at this;(rw [hr',if_neg (by simp)] at this);exact this
 ·obtain⟨x,hx,rfl⟩:=List.mem_map.1 hf
  obtain⟨hx,hr⟩:=List.mem_filter.1 hx;have:=h x hx;unfold itH at this;rw [if_pos hr] at this;simpa using this
end Go.Proofs.YtbmedfokpgghiacGreat
