import Derived.Test.YtffkoiemnchdgadGreatB01
namespace Go.Proofs.YtffkoiemnchdgadGreat
def QBG (k:Int):Int:=if k=4∨k=8∨k=9 then 1 else if k=5∨k=6∨k=7 then 2 else 0
def QBW (k:Int):Bool:=decide (1≤k) && decide (k≤9)
def QBf (k:Int) (n:ByteArray):Bool:=if k=1 then !QBe n.data.toList else !n.data.toList.isEmpty
def QAy (k:Int) (n:ByteArray) (len:Nat):Option Int :=
 if QBW k=false then some 4 else if (len:Int)≠QBG k then some 9 else if QBf k n=true then some 8 else none
inductive Chk where
 | ok (seen:Nat)
 | bad (code:Int) (at_:Nat)
mutual
def chk:Fm→Nat→Chk
 | .mk k n ks,s=>if s=200 then .bad 2 0 else match QAy k n ks.length with
  | some c => .bad c s
  | none=>chks ks (s+1)
def chks:List Fm→Nat→Chk
 | [],s => .ok s
 | f :: fs,s=>match chk f s with
  | .bad c a => .bad c a
  | .ok s'=>chks fs s'
end
mutual
theorem QGg:∀ (f:Fm) (s s':Nat),chk f s = .ok s'→s≤200→s'≤200∧s'=s+f.size
 | .mk k n ks,s,s',h,hs=>by
  rw [chk] at h
  split at h
  ·cases h
  ·rename_i h2
   split at h
   ·cases h
   ·have:=chks_le ks (s+1) s' h (by omega)
    rw [Fm.size];omega
theorem chks_le:∀ (fs:List Fm) (s s':Nat),chks fs s = .ok s'→s≤200→s'≤200∧s'=s+Fm.sizes fs
 | [],s,s',h,hs=>by rw [chks] at h;cases h;simp [Fm.sizes];exact hs
 | f :: fs,s,s',h,hs=>by
  rw [chks] at h
  split at h
  ·cases h
  ·rename_i s1 h1
   have a:=QGg f s s1 h1 hs;have b:=chks_le fs s1 s' h a.1;rw [Fm.sizes];omega
end
def Fm.code (f:Fm):Int × Int:=match chk f 0 with
 | .ok _=>(0,0)
 | .bad c a=>(c,a)
inductive Fine:Fm→Prop
 | mk (k:Int) (n:ByteArray) (ks:List Fm) (h:QAy k n ks.length=none) (hk:∀ (i:Nat) (f:Fm),ks[i]? = some f→Fine f):Fine (.mk k n ks)
theorem Fine.node {k:Int} {n:ByteArray} {ks:List Fm} (h:Fine (.mk k n ks)):QAy k n ks.length=none:=by cases h;assumption
theorem Fine.kid {k:Int} {n:ByteArray} {ks:List Fm} (h:Fine (.mk k n ks)) (i:Nat) (f:Fm) (hi:ks[i]? = some f):Fine f:=by
 cases h with
 | mk _ _ _ _ hk=>exact hk i f hi
mutual
theorem QBU:∀ (f:Fm) (s s':Nat),chk f s = .ok s'→Fine f
 | .mk k n ks,s,s',h=>by
  rw [chk] at h
  split at h
  ·cases h
  ·split at h
   ·cases h
   ·rename_i hn
    exact Fine.mk k n ks hn (fine_of_chks ks (s+1) s' h)
theorem fine_of_chks:∀ (fs:List Fm) (s s':Nat),chks fs s = .ok s'→∀ (i:Nat) (f:Fm),fs[i]? = some f→Fine f
 | [],_,_,_=>fun i f hf=>by simp at hf
 | g :: gs,s,s',h=>fun i f hf=>by
  rw [chks] at h
  split at h
  ·cases h
  ·rename_i s1 h1
   cases i with
   | zero=>simp at hf;subst hf;exact QBU g s s1 h1
   | succ i=>exact fine_of_chks gs s1 s' h i f (by simpa using hf)
end
theorem QGE {k:Int} {n:ByteArray} {len:Nat} (h:QAy k n len=none):1≤k∧k≤9∧(len:Int)=QBG k∧QBf k n=false:=by
 unfold QAy at h
 split at h
 ·cases h
 ·rename_i h1
  (have h1:QBW k=true:=by simpa using h1);simp [QBW] at h1
  split at h
  ·cases h
  ·rename_i h2
   split at h
   ·cases h
   ·rename_i h3
    (exact⟨h1.1,h1.2,by simpa using h2,by simpa using h3⟩)
theorem Fine.forms {f:Fm} (h:Fine f):(∃ n,f = .mk 1 n []∧QBe n.data.toList=true)∨(f = .mk 2 ⟨#[]⟩ [])∨(f = .mk 3 ⟨#[]⟩ [])∨(∃ k g,(k=4∨k=8∨k=9)∧f = .mk k ⟨#[]⟩ [g]∧Fine g)∨(∃ k g g',(k=5∨k=6∨k=7)∧f = .mk k ⟨#[]⟩ [g,g']∧Fine g∧Fine g'):=by
 obtain⟨k,n,ks⟩:=f;obtain⟨h1,h2,h3,h4⟩:=QGE h.node
 have hn:k≠1→n=⟨#[]⟩:=fun hk=>by
  simp [QBf,hk] at h4;apply ByteArray.ext;exact h4
 (have hlen:k=1∨k=2∨k=3∨k=4∨k=5∨k=6∨k=7∨k=8∨k=9:=by omega)
 have kid1:∀ ks:List Fm,((ks.length:Nat):Int)=1→∃ g,ks=[g]:=fun ks h=>by
  match ks,h with
  | [g],_=>exact⟨g,rfl⟩
  | [],h=>simp at h
  | _ :: _ :: _,h=>simp at h;omega
 have kid2:∀ ks:List Fm,((ks.length:Nat):Int)=2→∃ g g',ks=[g,g']:=fun ks h=>by
  match ks,h with
  | [g,g'],_=>exact⟨g,g',rfl⟩
  | [],h=>simp at h
  | [_],h=>simp at h
  | _ :: _ :: _ :: _,h=>simp at h;omega
 have kid0:∀ ks:List Fm,((ks.length:Nat):Int)=0→ks=[]:=fun ks h=>by
  cases ks with
  | nil=>rfl
  | cons _ _=>simp at h;omega
 rcases hlen with e|e|e|e|e|e|e|e|e <;> subst e
 ·obtain rfl:=kid0 ks (h3.trans rfl);exact Or.inl ⟨n,rfl,by simpa [QBf] using h4⟩
 ·obtain rfl:=kid0 ks (h3.trans rfl);rw [hn (by decide)];exact Or.inr (Or.inl rfl)
 ·obtain rfl:=kid0 ks (h3.trans rfl);rw [hn (by decide)];exact Or.inr (Or.inr (Or.inl rfl))
 ·obtain⟨g,rfl⟩:=kid1 ks (h3.trans rfl);rw [hn (by decide)];exact Or.inr (Or.inr (Or.inr (Or.inl ⟨4,g,Or.inl rfl,rfl,h.kid 0 g rfl⟩)))
 ·obtain⟨g,g',rfl⟩:=kid2 ks (h3.trans rfl);rw [hn (by decide)];exact Or.inr (Or.inr (Or.inr (Or.inr ⟨5,g,g',Or.inl rfl,rfl,h.kid 0 g rfl,h.kid 1 g' rfl⟩)))
 ·obtain⟨g,g',rfl⟩:=kid2 ks (h3.trans rfl);rw [hn (by decide)];exact Or.inr (Or.inr (Or.inr (Or.inr ⟨6,g,g',Or.inr (Or.inl rfl),rfl,h.kid 0 g rfl,h.kid 1 g' rfl⟩)))
 ·obtain⟨g,g',rfl⟩:=kid2 ks (h3.trans rfl);rw [hn (by decide)];exact Or.inr (Or.inr (Or.inr (Or.inr ⟨7,g,g',Or.inr (Or.inr rfl),rfl,h.kid 0 g rfl,h.kid 1 g' rfl⟩)))
 ·obtain⟨g,rfl⟩:=kid1 ks (h3.trans rfl);rw [hn (by decide)];exact Or.inr (Or.inr (Or.inr (Or.inl ⟨8,g,Or.inr (Or.inl rfl),rfl,h.kid 0 g rfl⟩)))
 ·obtain⟨g,rfl⟩:=kid1 ks (h3.trans rfl);rw [hn (by decide)];exact Or.inr (Or.inr (Or.inr (Or.inl ⟨9,g,Or.inr (Or.inr rfl),rfl,h.kid 0 g rfl⟩)))
theorem QHf {l:List UInt8} (h:QBe l=true):1≤l.length∧l.length≤8:=by
 simp [QBe] at h
 cases l with
 | nil=>simp at h
 | cons c l=>simp at h ⊢;omega
mutual
theorem QCa:∀ (f:Fm) (s:Nat) (c:Int) (a:Nat),chk f s = .bad c a→c≠0
 | .mk k n ks,s,c,a,h=>by
  rw [chk] at h
  split at h
  ·cases h;decide
  ·split at h
   ·rename_i c' hc
    cases h
    unfold QAy at hc
    split at hc
    ·cases hc;decide
    ·split at hc
     ·cases hc;decide
     ·split at hc
      ·cases hc;decide
      ·cases hc
   ·exact chks_code ks (s+1) c a h
theorem chks_code:∀ (fs:List Fm) (s:Nat) (c:Int) (a:Nat),chks fs s = .bad c a→c≠0
 | [],s,c,a,h=>by rw [chks] at h;cases h
 | f :: fs,s,c,a,h=>by
  rw [chks] at h
  split at h
  ·rename_i c' a' h1
   cases h
   exact QCa f s c a h1
  ·rename_i s1 h1
   exact chks_code fs s1 c a h
end
theorem QHv {l:List UInt8} (h:QBe l=true):Fine (nmF l) :=
 Fine.mk _ _ _ (by
  (have:QAy 1 ⟨l.toArray⟩ 0=none:=by simp [QAy,QBW,QBG,QBf,h])
  exact this) (fun i f hf=>by simp at hf)
mutual
theorem QFr:∀ (f:Fm) (s:Nat),Fine f→s+f.size≤200→chk f s = .ok (s+f.size)
 | .mk k n ks,s,h,hs=>by
  rw [Fm.size] at hs;(rw [chk,if_neg (by omega),h.node,Fm.size]);(have:=chks_fine ks (s+1) (h.kid) (by omega));simp only [this]
  congr 1;omega
theorem chks_fine:∀ (fs:List Fm) (s:Nat),(∀ (i:Nat) (f:Fm),fs[i]? = some f→Fine f)→s+Fm.sizes fs≤200→chks fs s = .ok (s+Fm.sizes fs)
 | [],s,_,_=>by rw [chks,Fm.sizes];rfl
 | f :: fs,s,h,hs=>by
  rw [Fm.sizes] at hs;(rw [chks,QFr f s (h 0 f rfl) (by omega),Fm.sizes]);(have:=chks_fine fs (s+f.size) (fun i g hg=>h (i+1) g (by simpa using hg)) (by omega));simp only [this]
  congr 1;omega
end
def QBK (l:List UInt8):Bool:=l.all QCt
theorem QCc:∀ (l:List UInt8),QBK l=true→QAm l=l
 | [],_=>rfl
 | c :: l,h=>by
  simp only [QBK,List.all_cons,Bool.and_eq_true] at h;rw [QAm,if_pos h.1,QCc l h.2]
theorem QCY:∀ (l:List UInt8),(QAm l).length=l.length→QBK l=true
 | [],_=>rfl
 | c :: l,h=>by
  rw [QAm] at h
  split at h
  ·rename_i hc
   simp only [QBK,List.all_cons,Bool.and_eq_true];(exact⟨hc,QCY l (by simpa using h)⟩)
  ·simp at h
theorem QIx (l:List UInt8):QBe l=(QBK l && decide (0 < l.length) && decide (l.length < 9)):=by
 unfold QBe
 rcases h:QBK l with _|_
 ·have:¬ (QAm l).length=l.length:=fun e=>by rw [QCY l e] at h;cases h
  simp [this]
 ·rw [QCc l h]
  have e1:(l≠[]) ↔ 0 < l.length:=List.length_pos_iff.symm;(have e2:(l.length≤8) ↔ l.length < 9:=by omega);rw [Bool.eq_iff_iff];simp only [Bool.and_eq_true,decide_eq_true_eq,e1,e2,Bool.true_and,and_true]
mutual
def QAr:Fm→Nat→List Fm
 | .mk k n ks,most => .mk k n ks :: walkK ks most 1
def walkK:List Fm→Nat→Nat→List Fm
 | [],_,_=>[]
 | f :: fs,most,c=>if c≤most then QAr f (most - c)++walkK fs most (c+(QAr f (most - c)).length) else []
end
mutual
theorem QCK:∀ (f:Fm) (most:Nat),(QAr f most).length≤most+1
 | .mk k n ks,most=>by
  rw [QAr,List.length_cons];(have:=walkK_le ks most 1 (by omega));omega
theorem walkK_le:∀ (fs:List Fm) (most c:Nat),c≤most+1→c+(walkK fs most c).length≤most+1
 | [],most,c,h=>by rw [walkK];simpa using h
 | f :: fs,most,c,h=>by
  rw [walkK]
  split
  ·rename_i hc
   have a:=QCK f (most - c);(have b:=walkK_le fs most (c+(QAr f (most - c)).length) (by omega));rw [List.length_append];omega
  ·simpa using h
end
mutual
def QBq:Fm→List Fm
 | .mk k n ks => .mk k n ks :: allNs ks
def allNs:List Fm→List Fm
 | []=>[]
 | f :: fs=>QBq f++allNs fs
end
mutual
theorem QCX:∀ f:Fm,(QBq f).length=f.size
 | .mk k n ks=>by rw [QBq,List.length_cons,allNs_len ks,Fm.size]
theorem allNs_len:∀ fs:List Fm,(allNs fs).length=Fm.sizes fs
 | []=>by rw [allNs,Fm.sizes];rfl
 | f :: fs=>by rw [allNs,List.length_append,QCX f,allNs_len fs,Fm.sizes]
end
theorem QJJ {α:Type} (a b:List α) (n:Nat):(a++b).take n=a.take n++b.take (n - a.length):=List.take_append
mutual
theorem QCU:∀ (f:Fm) (most:Nat),QAr f most=(QBq f).take (most+1)
 | .mk k n ks,most=>by
  (rw [QAr,QBq,List.take_succ_cons,walkK_take ks most 1 (by omega)]);rfl
theorem walkK_take:∀ (fs:List Fm) (most c:Nat),c≤most+1→walkK fs most c=(allNs fs).take (most+1 - c)
 | [],most,c,_=>by rw [walkK,allNs];simp
 | f :: fs,most,c,h=>by
  rw [walkK,allNs]
  split
  ·rename_i hc
   (have e:most - c+1=most+1 - c:=by omega);have hl:=QCK f (most - c);have hL:=QCU f (most - c);rw [e] at hL;(rw [walkK_take fs most (c+(QAr f (most - c)).length) (by omega),QJJ,← hL])
   congr 1
   by_cases hlt:(QBq f).length≤most+1 - c
   ·have:(QAr f (most - c)).length=(QBq f).length:=by rw [hL,List.length_take];omega
    rw [this];congr 1;omega
   ·have:(QAr f (most - c)).length=most+1 - c:=by rw [hL,List.length_take];omega
    (rw [this,show most+1 - (c+(most+1 - c))=0 by omega,show most+1 - c - (QBq f).length=0 by omega])
  ·have:most+1 - c=0:=by omega
   rw [this];simp
end
theorem QJM (f:Fm) (most:Nat):(QAr f most).length=min (most+1) f.size:=by
 rw [QCU,List.length_take,QCX]
def run:List Fm→Nat→Chk
 | [],s => .ok s
 | .mk k n ks :: fs,s=>if s=200 then .bad 2 0 else match QAy k n ks.length with
  | some c => .bad c s
  | none=>run fs (s+1)
mutual
theorem QHn:∀ (f:Fm) (rest:List Fm) (s:Nat),run (QBq f++rest) s=match chk f s with | .bad c a => .bad c a | .ok s'=>run rest s'
 | .mk k n ks,rest,s=>by
  rw [QBq,List.cons_append,run,chk];by_cases h:s=200
  ·rw [if_pos h,if_pos h]
  ·rw [if_neg h,if_neg h]
   cases QAy k n ks.length with
   | some c=>rfl
   | none=>exact runs_all ks rest (s+1)
theorem runs_all:∀ (fs:List Fm) (rest:List Fm) (s:Nat),run (allNs fs++rest) s=match chks fs s with | .bad c a => .bad c a | .ok s'=>run rest s'
 | [],rest,s=>by rw [allNs,chks];rfl
 | f :: fs,rest,s=>by
  rw [allNs,List.append_assoc,QHn f _ s,chks]
  cases chk f s with
  | bad c a=>rfl
  | ok s'=>exact runs_all fs rest s'
end
theorem QGR:∀ (l:List Fm) (m s:Nat),201≤m+s→s≤200→run (l.take m) s=run l s
 | [],m,s,_,_=>by simp
 | .mk k n ks :: l,m,s,h,hs=>by
  cases m with
  | zero=>omega
  | succ m =>
   rw [List.take_succ_cons,run,run];by_cases h2:s=200
   ·rw [if_pos h2,if_pos h2]
   ·rw [if_neg h2,if_neg h2]
    cases QAy k n ks.length with
    | some c=>rfl
    | none=>exact QGR l m (s+1) (by omega) (by omega)
theorem QJF (f:Fm):run (QAr f 201) 0=chk f 0:=by
 (rw [QCU,QGR _ _ _ (by omega) (by omega)]);have:=QHn f [] 0;rw [List.append_nil] at this;rw [this]
 cases chk f 0 <;> rfl
theorem QJE {l:List Fm} {i:Nat} {k:Int} {n:ByteArray} {ks:List Fm} (h:l[i]? = some (.mk k n ks)) (s:Nat):run (l.drop i) s=if s=200 then .bad 2 0 else match QAy k n ks.length with
  | some c => .bad c s
  | none=>run (l.drop (i+1)) (s+1):=by
 have hi:i < l.length:=by
  rcases Nat.lt_or_ge i l.length with h' | h'
  ·exact h'
  ·rw [List.getElem?_eq_none h'] at h;cases h
 rw [List.drop_eq_getElem_cons hi];rw [List.getElem?_eq_getElem hi] at h;rw [Option.some.inj h,run]
def val (k:Int) (pn:Bool) (l:List Bool):Bool :=
 if k=1 then pn else if k=4 then !(l.getD 0 false) else if k=5 then l.getD 0 false && l.getD 1 false else if k=6 then l.getD 0 false || l.getD 1 false else if k=7 then !(l.getD 0 false) || l.getD 1 false else decide (k=2)
mutual
def tv (p:List UInt8→Bool):Fm→Bool
 | .mk k n ks=>val k (p n.data.toList) (tvs p ks)
def tvs (p:List UInt8→Bool):List Fm→List Bool
 | []=>[]
 | f :: fs=>tv p f :: tvs p fs
end
theorem QJo (p:List UInt8→Bool) (n:ByteArray):tv p (.mk 1 n [])=p n.data.toList:=by rw [tv];rfl
theorem QJq (p:List UInt8→Bool):tv p (.mk 2 ⟨#[]⟩ [])=true:=by rw [tv];rfl
theorem QJL (p:List UInt8→Bool):tv p (.mk 3 ⟨#[]⟩ [])=false:=by rw [tv];rfl
theorem QKP (p:List UInt8→Bool) (f:Fm):tv p (.mk 4 ⟨#[]⟩ [f]) = !tv p f:=by rw [tv,tvs,tvs];rfl
theorem QKO (p:List UInt8→Bool) (f g:Fm):tv p (.mk 5 ⟨#[]⟩ [f,g])=(tv p f && tv p g):=by rw [tv,tvs,tvs,tvs];rfl
theorem QKc (p:List UInt8→Bool) (f g:Fm):tv p (.mk 6 ⟨#[]⟩ [f,g])=(tv p f || tv p g):=by rw [tv,tvs,tvs,tvs];rfl
theorem QJp (p:List UInt8→Bool) (f g:Fm):tv p (.mk 7 ⟨#[]⟩ [f,g])=(!tv p f || tv p g):=by rw [tv,tvs,tvs,tvs];rfl
def isM (k:Int):Bool:=decide (k=8) || decide (k=9)
mutual
def QAv:Fm→Nat→Nat × Bool
 | .mk k _ ks,a=>if isM k then (a,true) else modals ks (a+1)
def modals:List Fm→Nat→Nat × Bool
 | [],a=>(a,false)
 | f :: fs,a=>if (QAv f a).2 then ((QAv f a).1,true) else modals fs (QAv f a).1
end
def QBQ:List Fm→Nat→Nat × Bool
 | [],a=>(a,false)
 | f :: fs,a=>if isM f.kind then (a,true) else QBQ fs (a+1)
theorem QDg:∀ (l m:List Fm) (a:Nat),QBQ (l++m) a=if (QBQ l a).2 then QBQ l a else QBQ m (QBQ l a).1
 | [],m,a=>by simp [QBQ]
 | f :: fs,m,a=>by
  rw [List.cons_append,QBQ,QBQ]
  split
  ·simp
  ·exact QDg fs m (a+1)
mutual
theorem QCo:∀ (f:Fm) (a:Nat),QAv f a=QBQ (QBq f) a
 | .mk k n ks,a=>by
  rw [QAv,QBq,QBQ,modals_idx ks (a+1)];rfl
theorem modals_idx:∀ (fs:List Fm) (a:Nat),modals fs a=QBQ (allNs fs) a
 | [],a=>by rw [modals,allNs,QBQ]
 | f :: fs,a=>by
  rw [modals,allNs,QDg,QCo f a,modals_idx fs]
  split
  ·rename_i h
   rw [← h]
  ·rfl
end
theorem QHh:∀ (l:List Fm) (a:Nat),a≤(QBQ l a).1∧(QBQ l a).1≤a+l.length∧((QBQ l a).2=false→(QBQ l a).1=a+l.length)
 | [],a=>by simp [QBQ]
 | f :: fs,a=>by
  rw [QBQ];have:=QHh fs (a+1)
  split
  ·simp
  ·simp only [List.length_cons]
   (exact⟨by omega,by omega,fun h=>by have:=this.2.2 h;omega⟩)
theorem QGC (f:Fm) (a:Nat):a≤(QAv f a).1∧(QAv f a).1≤a+f.size:=by
 rw [QCo];have:=QHh (QBq f) a;rw [QCX] at this;exact⟨this.1,this.2.1⟩
def Plain (f:Fm):Prop:=(QBQ (QBq f) 0).2=false
theorem QHi:∀ (l:List Fm) (a:Nat),(QBQ l a).2=false ↔ ∀ f∈l,isM f.kind=false
 | [],a=>by simp [QBQ]
 | f :: fs,a=>by
  rw [QBQ]
  split
  ·rename_i h;simp [h]
  ·rename_i h
   rw [QHi fs (a+1)];simp [h]
theorem QEv (f:Fm):Plain f ↔ ∀ g∈QBq f,isM g.kind=false:=QHi _ _
theorem Plain.kind {k:Int} {n:ByteArray} {ks:List Fm} (h:Plain (.mk k n ks)):isM k=false:=by
 rw [QEv] at h;(exact h (.mk k n ks) (by rw [QBq];simp))
theorem QHq {ks:List Fm} {g x:Fm} (h:g∈ks) (hx:x∈QBq g):x∈allNs ks:=by
 induction ks with
 | nil=>cases h
 | cons k ks ih =>
  rw [allNs,List.mem_append]
  rcases List.mem_cons.1 h with rfl|h
  ·exact Or.inl hx
  ·exact Or.inr (ih h)
theorem Plain.kid {k:Int} {n:ByteArray} {ks:List Fm} (h:Plain (.mk k n ks)) {g:Fm} (hg:g∈ks):Plain g:=by
 rw [QEv] at *;intro x hx;(exact h x (by rw [QBq];exact List.mem_cons_of_mem _ (QHq hg hx)))
end Go.Proofs.YtffkoiemnchdgadGreat
