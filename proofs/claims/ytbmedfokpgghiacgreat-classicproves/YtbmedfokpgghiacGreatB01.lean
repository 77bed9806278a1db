import Derived.Test.YtbmedfokpgghiacGreatChecked
import Derived.WalkKit
import Derived.WalkSpells
import Derived.WalkLawsBesides
import Derived.Deep.QuietTactic
import Derived.BigQuiet
namespace Go.Proofs.YtbmedfokpgghiacGreat
inductive Fm where
 | mk (kind:Int) (name:ByteArray) (kids:List Fm)
def Fm.kind:Fm→Int | .mk k _ _=>k
def Fm.name:Fm→ByteArray | .mk _ n _=>n
def Fm.kids:Fm→List Fm | .mk _ _ ks=>ks
mutual
def Fm.size:Fm→Nat
 | .mk _ _ ks=>Fm.sizes ks+1
def Fm.sizes:List Fm→Nat
 | []=>0
 | f :: fs=>Fm.size f+Fm.sizes fs
end
def QEE (c:UInt8):Bool:=decide (97≤c.toNat) && decide (c.toNat≤122)
def QAy:List UInt8→List UInt8
 | []=>[]
 | c :: l=>if QEE c then c :: QAy l else []
theorem QFh (l:List UInt8):(QAy l).length≤l.length:=by
 induction l with
 | nil=>simp [QAy]
 | cons c l ih=>simp only [QAy];split <;> simp <;> omega
def QBt (l:List UInt8):Bool:=decide (l≠[]) && decide (l.length≤8) && decide ((QAy l).length=l.length)
def nmF (l:List UInt8):Fm := .mk 1 ⟨l.toArray⟩ []
def e0:ByteArray:=⟨#[]⟩
theorem QLd (k:Int) (n:ByteArray):(Fm.mk k n []).size=1:=by simp [Fm.size,Fm.sizes]
theorem QMx (k:Int) (n:ByteArray) (f:Fm):(Fm.mk k n [f]).size=f.size+1:=by simp [Fm.size,Fm.sizes]
theorem QIj (k:Int) (n:ByteArray) (f g:Fm):(Fm.mk k n [f,g]).size=f.size+g.size+1:=by simp [Fm.size,Fm.sizes]
def QBh (k:Int):Int:=if k=4∨k=8∨k=9 then 1 else if k=5∨k=6∨k=7 then 2 else 0
def QCE (k:Int):Bool:=decide (1≤k) && decide (k≤9)
def QCU (k:Int) (n:ByteArray):Bool:=if k=1 then !QBt n.data.toList else !n.data.toList.isEmpty
def QBX (k:Int) (n:ByteArray) (len:Nat):Option Int :=
 if QCE k=false then some 4 else if (len:Int)≠QBh k then some 9 else if QCU k n=true then some 8 else none
inductive Chk where
 | ok (seen:Nat)
 | bad (code:Int) (at_:Nat)
mutual
def chk:Fm→Nat→Chk
 | .mk k n ks,s=>if s=200 then .bad 2 0 else match QBX k n ks.length with
  | some c => .bad c s
  | none=>chks ks (s+1)
def chks:List Fm→Nat→Chk
 | [],s => .ok s
 | f :: fs,s=>match chk f s with
  | .bad c a => .bad c a
  | .ok s'=>chks fs s'
end
mutual
theorem QJB:∀ (f:Fm) (s s':Nat),chk f s = .ok s'→s≤200→s'≤200∧s'=s+f.size
 | .mk k n ks,s,s',h,hs=>by
  rw [chk] at h
  split at h
  ·cases h
  ·rename_i h2
   split at h
   ·cases h
   ·have:=chks_le ks (s+1) s' h (by omega)
    rw [Fm.size];omega
theorem chks_le:∀ (fs:List Fm) (s s':Nat),chks fs s = .ok s'→s≤200→s'≤200∧s'=s+Fm.sizes fs
 | [],s,s',h,hs=>by rw [chks] at h;cases h;simp [Fm.sizes];exact hs
 | f :: fs,s,s',h,hs=>by
  rw [chks] at h
  split at h
  ·cases h
  ·rename_i s1 h1
   have a:=QJB f s s1 h1 hs;have b:=chks_le fs s1 s' h a.1;rw [Fm.sizes];omega
end
def Fm.code (f:Fm):Int × Int:=match chk f 0 with
 | .ok _=>(0,0)
 | .bad c a=>(c,a)
inductive Fine:Fm→Prop
 | mk (k:Int) (n:ByteArray) (ks:List Fm) (h:QBX k n ks.length=none) (hk:∀ (i:Nat) (f:Fm),ks[i]? = some f→Fine f):Fine (.mk k n ks)
theorem Fine.node {k:Int} {n:ByteArray} {ks:List Fm} (h:Fine (.mk k n ks)):QBX k n ks.length=none:=by cases h;assumption
theorem Fine.kid {k:Int} {n:ByteArray} {ks:List Fm} (h:Fine (.mk k n ks)) (i:Nat) (f:Fm) (hi:ks[i]? = some f):Fine f:=by
 cases h with
 | mk _ _ _ _ hk=>exact hk i f hi
mutual
theorem QCy:∀ (f:Fm) (s s':Nat),chk f s = .ok s'→Fine f
 | .mk k n ks,s,s',h=>by
  rw [chk] at h
  split at h
  ·cases h
  ·split at h
   ·cases h
   ·rename_i hn
    exact Fine.mk k n ks hn (fine_of_chks ks (s+1) s' h)
theorem fine_of_chks:∀ (fs:List Fm) (s s':Nat),chks fs s = .ok s'→∀ (i:Nat) (f:Fm),fs[i]? = some f→Fine f
 | [],_,_,_=>fun i f hf=>by simp at hf
 | g :: gs,s,s',h=>fun i f hf=>by
  rw [chks] at h
  split at h
  ·cases h
  ·rename_i s1 h1
   cases i with
   | zero=>simp at hf;subst hf;exact QCy g s s1 h1
   | succ i=>exact fine_of_chks gs s1 s' h i f (by simpa using hf)
end
theorem QIM {k:Int} {n:ByteArray} {len:Nat} (h:QBX k n len=none):1≤k∧k≤9∧(len:Int)=QBh k∧QCU k n=false:=by
 unfold QBX at h
 split at h
 ·cases h
 ·rename_i h1
  (have h1:QCE k=true:=by simpa using h1);simp [QCE] at h1
  split at h
  ·cases h
  ·rename_i h2
   split at h
   ·cases h
   ·rename_i h3
    (exact⟨h1.1,h1.2,by simpa using h2,by simpa using h3⟩)
theorem Fine.forms {f:Fm} (h:Fine f):(∃ n,f = .mk 1 n []∧QBt n.data.toList=true)∨(f = .mk 2 ⟨#[]⟩ [])∨(f = .mk 3 ⟨#[]⟩ [])∨(∃ k g,(k=4∨k=8∨k=9)∧f = .mk k ⟨#[]⟩ [g]∧Fine g)∨(∃ k g g',(k=5∨k=6∨k=7)∧f = .mk k ⟨#[]⟩ [g,g']∧Fine g∧Fine g'):=by
 obtain⟨k,n,ks⟩:=f;obtain⟨h1,h2,h3,h4⟩:=QIM h.node
 have hn:k≠1→n=⟨#[]⟩:=fun hk=>by
  simp [QCU,hk] at h4;apply ByteArray.ext;exact h4
 (have hlen:k=1∨k=2∨k=3∨k=4∨k=5∨k=6∨k=7∨k=8∨k=9:=by omega)
 have kid1:∀ ks:List Fm,((ks.length:Nat):Int)=1→∃ g,ks=[g]:=fun ks h=>by
  match ks,h with
  | [g],_=>exact⟨g,rfl⟩
  | [],h=>simp at h
  | _ :: _ :: _,h=>simp at h;omega
 have kid2:∀ ks:List Fm,((ks.length:Nat):Int)=2→∃ g g',ks=[g,g']:=fun ks h=>by
  match ks,h with
  | [g,g'],_=>exact⟨g,g',rfl⟩
  | [],h=>simp at h
  | [_],h=>simp at h
  | _ :: _ :: _ :: _,h=>simp at h;omega
 have kid0:∀ ks:List Fm,((ks.length:Nat):Int)=0→ks=[]:=fun ks h=>by
  cases ks with
  | nil=>rfl
  | cons _ _=>simp at h;omega
 rcases hlen with e|e|e|e|e|e|e|e|e <;> subst e
 ·obtain rfl:=kid0 ks (h3.trans rfl);exact Or.inl ⟨n,rfl,by simpa [QCU] using h4⟩
 ·obtain rfl:=kid0 ks (h3.trans rfl);rw [hn (by decide)];exact Or.inr (Or.inl rfl)
 ·obtain rfl:=kid0 ks (h3.trans rfl);rw [hn (by decide)];exact Or.inr (Or.inr (Or.inl rfl))
 ·obtain⟨g,rfl⟩:=kid1 ks (h3.trans rfl);rw [hn (by decide)];exact Or.inr (Or.inr (Or.inr (Or.inl ⟨4,g,Or.inl rfl,rfl,h.kid 0 g rfl⟩)))
 ·obtain⟨g,g',rfl⟩:=kid2 ks (h3.trans rfl);rw [hn (by decide)];exact Or.inr (Or.inr (Or.inr (Or.inr ⟨5,g,g',Or.inl rfl,rfl,h.kid 0 g rfl,h.kid 1 g' rfl⟩)))
 ·obtain⟨g,g',rfl⟩:=kid2 ks (h3.trans rfl);rw [hn (by decide)];exact Or.inr (Or.inr (Or.inr (Or.inr ⟨6,g,g',Or.inr (Or.inl rfl),rfl,h.kid 0 g rfl,h.kid 1 g' rfl⟩)))
 ·obtain⟨g,g',rfl⟩:=kid2 ks (h3.trans rfl);rw [hn (by decide)];exact Or.inr (Or.inr (Or.inr (Or.inr ⟨7,g,g',Or.inr (Or.inr rfl),rfl,h.kid 0 g rfl,h.kid 1 g' rfl⟩)))
 ·obtain⟨g,rfl⟩:=kid1 ks (h3.trans rfl);rw [hn (by decide)];exact Or.inr (Or.inr (Or.inr (Or.inl ⟨8,g,Or.inr (Or.inl rfl),rfl,h.kid 0 g rfl⟩)))
 ·obtain⟨g,rfl⟩:=kid1 ks (h3.trans rfl);rw [hn (by decide)];exact Or.inr (Or.inr (Or.inr (Or.inl ⟨9,g,Or.inr (Or.inr rfl),rfl,h.kid 0 g rfl⟩)))
theorem QKN {l:List UInt8} (h:QBt l=true):1≤l.length∧l.length≤8:=by
 simp [QBt] at h
 cases l with
 | nil=>simp at h
 | cons c l=>simp at h ⊢;omega
mutual
theorem QDi:∀ (f:Fm) (s:Nat) (c:Int) (a:Nat),chk f s = .bad c a→c≠0
 | .mk k n ks,s,c,a,h=>by
  rw [chk] at h
  split at h
  ·cases h;decide
  ·split at h
   ·rename_i c' hc
    cases h
    unfold QBX at hc
    split at hc
    ·cases hc;decide
    ·split at hc
     ·cases hc;decide
     ·split at hc
      ·cases hc;decide
      ·cases hc
   ·exact chks_code ks (s+1) c a h
theorem chks_code:∀ (fs:List Fm) (s:Nat) (c:Int) (a:Nat),chks fs s = .bad c a→c≠0
 | [],s,c,a,h=>by rw [chks] at h;cases h
 | f :: fs,s,c,a,h=>by
  rw [chks] at h
  split at h
  ·rename_i c' a' h1
   cases h
   exact QDi f s c a h1
  ·rename_i s1 h1
   exact chks_code fs s1 c a h
end
theorem QKx {l:List UInt8} (h:QBt l=true):Fine (nmF l) :=
 Fine.mk _ _ _ (by
  (have:QBX 1 ⟨l.toArray⟩ 0=none:=by simp [QBX,QCE,QBh,QCU,h])
  exact this) (fun i f hf=>by simp at hf)
mutual
theorem QFW:∀ (f:Fm) (s:Nat),Fine f→s+f.size≤200→chk f s = .ok (s+f.size)
 | .mk k n ks,s,h,hs=>by
  rw [Fm.size] at hs;(rw [chk,if_neg (by omega),h.node,Fm.size]);(have:=chks_fine ks (s+1) (h.kid) (by omega));simp only [this]
  congr 1;omega
theorem chks_fine:∀ (fs:List Fm) (s:Nat),(∀ (i:Nat) (f:Fm),fs[i]? = some f→Fine f)→s+Fm.sizes fs≤200→chks fs s = .ok (s+Fm.sizes fs)
 | [],s,_,_=>by rw [chks,Fm.sizes];rfl
 | f :: fs,s,h,hs=>by
  rw [Fm.sizes] at hs;(rw [chks,QFW f s (h 0 f rfl) (by omega),Fm.sizes]);(have:=chks_fine fs (s+f.size) (fun i g hg=>h (i+1) g (by simpa using hg)) (by omega));simp only [this]
  congr 1;omega
end
open Go.RowKit
structure Kept (ok:Nat→Prop) (w w':World):Prop where
 os:w'.os=w.os
 tape:w'.tape=w.tape
 output:w'.output=w.output
 size:w.heap.size≤w'.heap.size
 block:∀ k,k < w.heap.size→ok k→w'.heap[k]? = w.heap[k]?
theorem Kept.refl (ok:Nat→Prop) (w:World):Kept ok w w:=⟨rfl,rfl,rfl,Nat.le_refl _,fun _ _ _=>rfl⟩
theorem Kept.trans {ok:Nat→Prop} {a b c:World} (h:Kept ok a b) (k:Kept ok b c):Kept ok a c :=
 ⟨k.os.trans h.os,k.tape.trans h.tape,k.output.trans h.output,Nat.le_trans h.size k.size,fun i hi ho=>(k.block i (Nat.lt_of_lt_of_le hi h.size) ho).trans (h.block i hi ho)⟩
theorem Kept.drew {ok:Nat→Prop} {a w:World} (h:Kept ok a w):Kept ok a w.drew:=⟨h.os,h.tape,h.output,h.size,h.block⟩
theorem Kept.drewN {ok:Nat→Prop} {a w:World} (n:Nat) (h:Kept ok a w):Kept ok a (w.drewN n):=⟨h.os,h.tape,h.output,h.size,h.block⟩
theorem Kept.alloc {ok:Nat→Prop} {a w:World} (h:Kept ok a w) (o:Obj):Kept ok a (w.alloc o) :=
 h.trans ⟨rfl,rfl,rfl,by simp,fun k hk _=>Below.heap_alloc _ _ _ hk⟩
theorem Kept.setCell {ok:Nat→Prop} {a w:World} (h:Kept ok a w) {p:Addr} (hp:p.block < a.heap.size→¬ ok p.block) (u:Value):Kept ok a (w.setCell p u):=by
 (refine⟨h.os,h.tape,h.output,by simpa [World.setCell] using h.size,fun k hk ho => ?_⟩);(rw [Below.heap_setCell _ _ _ _ (fun e=>by subst e;exact hp hk ho)]);exact h.block k hk ho
theorem Kept.mono {ok ok':Nat→Prop} {a b:World} (h:Kept ok a b) (hi:∀ k,k < a.heap.size→ok' k→ok k):Kept ok' a b :=
 ⟨h.os,h.tape,h.output,h.size,fun k hk ho=>h.block k hk (hi k hk ho)⟩
theorem Kept.below {ok:Nat→Prop} {a b:World} {B:Nat} (h:Kept ok a b) (hB:B≤a.heap.size) (hi:∀ k,k < B→ok k):Below B a b :=
 ⟨h.os,h.tape,h.output,h.size,fun k hk=>h.block k (Nat.lt_of_lt_of_le hk hB) (hi k hk)⟩
theorem QAN {ok:Nat→Prop} {a b:World} {B:Nat} (h:Below B a b) (hi:∀ k,k < a.heap.size→ok k→k < B):Kept ok a b :=
 ⟨h.os,h.tape,h.output,h.size,fun k hk ho=>h.block k (hi k hk ho)⟩
theorem QAE {w:World} {b:Nat} {o:Obj} (h:w.heap[b]? = some o):b < w.heap.size:=by
 rcases Nat.lt_or_ge b w.heap.size with h' | h'
 ·exact h'
 ·rw [Array.getElem?_eq_none h'] at h;cases h
theorem QAI {w:World} {a:Addr} {v:Value} (h:w.cell? a=some v):a.block < w.heap.size:=by
 rcases Nat.lt_or_ge a.block w.heap.size with h' | h'
 ·exact h'
 ·simp [World.cell?,Array.getElem?_eq_none h'] at h
theorem QAQ {w w':World} {a:Addr} (h:w'.heap[a.block]? = w.heap[a.block]?):w'.cell? a=w.cell? a:=by
 simp only [World.cell?,h]
theorem QAL {w:World} {b:Nat} {cs:Array Value} {T:TypeId} (h:w.heap[b]? = some (.cells cs T (0,0))) (o:Nat):w.cell? ⟨b,o,none⟩=cs[o]? := by simp [World.cell?,h]
theorem QAh {w:World} {b:Nat} {cs:Array Value} {T:TypeId} (h:w.heap[b]? = some (.cells cs T (0,0))) (o:Nat):w.frozen? ⟨b,o,none⟩=false:=by simp [World.frozen?,h]
theorem QAb {w:World} {b:Nat} {c0 c1 c2:Value} {T:TypeId} (h:w.heap[b]? = some (.cells #[c0,c1,c2] T (0,0))):w.cell? ⟨b,0,none⟩=some c0∧w.cell? ⟨b,1,none⟩=some c1∧w.cell? ⟨b,2,none⟩=some c2∧w.frozen? ⟨b,0,none⟩=false∧w.frozen? ⟨b,1,none⟩=false∧w.frozen? ⟨b,2,none⟩=false :=
 ⟨QAL h 0,QAL h 1,QAL h 2,QAh h 0,QAh h 1,QAh h 2⟩
theorem QAV {w:World} {b:Nat} {c0 c1:Value} {T:TypeId} (h:w.heap[b]? = some (.cells #[c0,c1] T (0,0))):w.cell? ⟨b,0,none⟩=some c0∧w.cell? ⟨b,1,none⟩=some c1∧w.frozen? ⟨b,0,none⟩=false∧w.frozen? ⟨b,1,none⟩=false :=
 ⟨QAL h 0,QAL h 1,QAh h 0,QAh h 1⟩
theorem QAH (w:World) (o:Obj):(w.alloc o).heap[w.heap.size]? = some o:=by
 show (w.heap.push o)[w.heap.size]? = _
 simp
mutual
def Rep (w:World) (ok:Nat→Prop):Fm→Value→Prop
 | .mk k n ks,v=>∃ sl cap,v = .agg #[.int .i64 k,.string n,.slice sl ks.length cap]∧n.size≤maxLen∧ks.length≤cap∧cap≤maxLen∧(ks≠[]→∃ b off,sl=some ⟨b,off,none⟩∧ok b∧Reps w ok b off ks)
def Reps (w:World) (ok:Nat→Prop) (b:Nat):Nat→List Fm→Prop
 | _,[]=>True
 | off,f :: fs=>(∃ c0 c1 c2,w.cell? ⟨b,off,none⟩=some c0∧w.cell? ⟨b,off+1,none⟩=some c1∧w.cell? ⟨b,off+2,none⟩=some c2∧Rep w ok f (.agg #[c0,c1,c2]))∧Reps w ok b (off+3) fs
end
theorem Rep.def {w:World} {ok:Nat→Prop} {k:Int} {n:ByteArray} {ks:List Fm} {v:Value}:Rep w ok (.mk k n ks) v ↔ ∃ sl cap,v = .agg #[.int .i64 k,.string n,.slice sl ks.length cap]∧n.size≤maxLen∧ks.length≤cap∧cap≤maxLen∧(ks≠[]→∃ b off,sl=some ⟨b,off,none⟩∧ok b∧Reps w ok b off ks):=by
 rw [Rep]
theorem Reps.nil {w:World} {ok:Nat→Prop} {b off:Nat}:Reps w ok b off []:=by rw [Reps];trivial
theorem Reps.cons {w:World} {ok:Nat→Prop} {b off:Nat} {f:Fm} {fs:List Fm}:Reps w ok b off (f :: fs) ↔ (∃ c0 c1 c2,w.cell? ⟨b,off,none⟩=some c0∧w.cell? ⟨b,off+1,none⟩=some c1∧w.cell? ⟨b,off+2,none⟩=some c2∧Rep w ok f (.agg #[c0,c1,c2]))∧Reps w ok b (off+3) fs:=by
 rw [Reps]
mutual
theorem Rep.keep {w w':World} {ok ok':Nat→Prop} (hc:∀ a:Addr,ok a.block→a.block < w.heap.size→w'.cell? a=w.cell? a) (hi:∀ k,k < w.heap.size→ok k→ok' k) :
  ∀ (f:Fm) (v:Value),Rep w ok f v→Rep w' ok' f v
 | .mk k n ks,v,h=>by
  rw [Rep.def] at h ⊢;obtain⟨sl,cap,hv,hn,hl,hc',hk⟩:=h;(refine⟨sl,cap,hv,hn,hl,hc',fun hne => ?_⟩);obtain⟨b,off,hsl,hb,hr⟩:=hk hne
  have hlt:b < w.heap.size:=by
   cases ks with
   | nil=>exact absurd rfl hne
   | cons g gs =>
    obtain⟨⟨c0,_,_,h0,_⟩,_⟩:=Reps.cons.1 hr;exact QAI h0
  exact⟨b,off,hsl,hi b hlt hb,Reps.keep hc hi hb hlt off ks hr⟩
theorem Reps.keep {w w':World} {ok ok':Nat→Prop} (hc:∀ a:Addr,ok a.block→a.block < w.heap.size→w'.cell? a=w.cell? a) (hi:∀ k,k < w.heap.size→ok k→ok' k) {b:Nat} (hb:ok b) (hlt:b < w.heap.size) :
  ∀ (off:Nat) (fs:List Fm),Reps w ok b off fs→Reps w' ok' b off fs
 | _,[],_=>Reps.nil
 | off,f :: fs,h=>by
  rw [Reps.cons] at h ⊢;obtain⟨⟨c0,c1,c2,h0,h1,h2,hr⟩,hrs⟩:=h;(exact⟨⟨c0,c1,c2,by rw [hc _ hb hlt];exact h0,by rw [hc _ hb hlt];exact h1,by rw [hc _ hb hlt];exact h2,Rep.keep hc hi f _ hr⟩,Reps.keep hc hi hb hlt (off+3) fs hrs⟩)
end
theorem Rep.kept {w w':World} {ok:Nat→Prop} {f:Fm} {v:Value} (h:Rep w ok f v) (hk:Kept ok w w'):Rep w' ok f v :=
 Rep.keep (fun _ ha hlt=>QAQ (hk.block _ hlt ha)) (fun _ _ h=>h) f v h
theorem Rep.weak {w:World} {ok ok':Nat→Prop} {f:Fm} {v:Value} (h:Rep w ok f v) (hi:∀ k,k < w.heap.size→ok k→ok' k):Rep w ok' f v :=
 Rep.keep (fun _ _ _=>rfl) hi f v h
theorem Reps.kept {w w':World} {ok:Nat→Prop} {b off:Nat} {fs:List Fm} (h:Reps w ok b off fs) (hb:ok b) (hk:Kept ok w w'):Reps w' ok b off fs:=by
 cases fs with
 | nil=>exact Reps.nil
 | cons f fs =>
  have hlt:b < w.heap.size:=by
   obtain⟨⟨c0,_,_,h0,_⟩,_⟩:=Reps.cons.1 h;exact QAI h0
  (exact Reps.keep (fun _ ha hlt=>QAQ (hk.block _ hlt ha)) (fun _ _ h=>h) hb hlt off _ h)
theorem Reps.get {w:World} {ok:Nat→Prop} {b:Nat}:∀ {off:Nat} {fs:List Fm} (_:Reps w ok b off fs) (i:Nat) (f:Fm) (_:fs[i]? = some f),
  ∃ c0 c1 c2,w.cell? ⟨b,off+i * 3,none⟩=some c0∧w.cell? ⟨b,off+i * 3+1,none⟩=some c1∧w.cell? ⟨b,off+i * 3+2,none⟩=some c2∧Rep w ok f (.agg #[c0,c1,c2])
 | off,[],_,i,f,hf=>by simp at hf
 | off,g :: gs,h,i,f,hf=>by
  obtain⟨h1,h2⟩:=Reps.cons.1 h
  cases i with
  | zero=>simp at hf;subst hf;simpa using h1
  | succ i =>
   (have:=Reps.get h2 i f (by simpa using hf));(have e:off+3+i * 3=off+(i+1) * 3:=by omega)
   rwa [e] at this
theorem Reps.at {w:World} {ok:Nat→Prop} {b off:Nat} {fs:List Fm} (h:Reps w ok b off fs) (i:Nat) (k:Int) (n:ByteArray) (ks:List Fm) (hf:fs[i]? = some (.mk k n ks)) :
  ∃ sl cap,w.cell? ⟨b,off+i * 3,none⟩=some (.int .i64 k)∧w.cell? ⟨b,off+i * 3+1,none⟩=some (.string n)∧w.cell? ⟨b,off+i * 3+2,none⟩=some (.slice sl ks.length cap)∧Rep w ok (.mk k n ks) (.agg #[.int .i64 k,.string n,.slice sl ks.length cap]):=by
 obtain⟨c0,c1,c2,h0,h1,h2,hr⟩:=h.get i _ hf;obtain⟨sl,cap,hv,hr'⟩:=Rep.def.1 hr;simp only [Value.agg.injEq,Array.mk.injEq,List.cons.injEq,and_true] at hv;obtain⟨rfl,rfl,rfl⟩:=hv;exact⟨sl,cap,h0,h1,h2,hr⟩
theorem Rep.leaf {w:World} {ok:Nat→Prop} {k:Int} {n:ByteArray} (h:n.size≤maxLen):Rep w ok (.mk k n []) (.agg #[.int .i64 k,.string n,.slice none 0 0]) :=
 Rep.def.2 ⟨none,0,rfl,h,by simp,by simp,fun h=>absurd rfl h⟩
def At (t:ByteArray) (a:Nat) (l:List UInt8):Prop:=a≤t.size∧t.data.toList.drop a=l
theorem At.len {t:ByteArray} {a:Nat} {l:List UInt8} (h:At t a l):a+l.length=t.size:=by
 obtain⟨h1,h2⟩:=h;have e:t.data.toList.length=t.size:=Array.length_toList;rw [← h2,List.length_drop,e];omega
theorem At.cons {t:ByteArray} {a:Nat} {c:UInt8} {l:List UInt8} (h:At t a (c :: l)):At t (a+1) l:=by
 have:=h.len;(refine⟨by simp at this;omega,?_⟩);rw [← List.drop_drop,h.2];rfl
theorem At.head {t:ByteArray} {a:Nat} {c:UInt8} {l:List UInt8} (h:At t a (c :: l)) (hlt:a < t.size):t[a]=c:=by
 have h2:=h.2;have e:t.data.toList.length=t.size:=Array.length_toList;(rw [List.drop_eq_getElem_cons (by omega)] at h2);have:=(List.cons.inj h2).1;rw [← this];rfl
def QDF (p:Value→World→Prop):Prop:=∀ v w w',p v w→Below w.heap.size w w'→p v w'
def QEa (phi:List (Value→World→Prop)) (i:Nat):Value→World→Prop:=phi.getD i fun _ _=>True
def QDa (ops:Array Oper):Bool :=
 (List.range ops.size).all fun i=>(List.range ops.size).all fun j=>i == j || (match (ops[i]?).bind (·.dst),(ops[j]?).bind (·.dst) with
  | some d,some d'=>d != d'
  | _,_=>true)
def QDU (ops:Array Oper):Bool :=
 (List.range ops.size).all fun i=>match ops[i]? with
  | some o=>o.after.all fun e=>!Region.binds .any e || decide (e.on < i)
  | none=>true
def QBM (md:Region.Mode) (o:Oper) (j:Nat):Bool:=o.after.toList.any fun e=>Region.binds md e && e.on == j
section
variable {P:Program} {ops:Array Oper} {Q:Exit→Act→World→Prop} {phi:List (Value→World→Prop)} {a0:Act} {W:World}
def QBV (ops:Array Oper) (a0 a:Act):Prop:=a.tmps.size=a0.tmps.size∧a.defers=a0.defers∧∀ t,(ops.toList.all fun o=>o.dst != some t)=true→a.tmps[t]? = a0.tmps[t]?
structure Way (ops:Array Oper) (phi:List (Value→World→Prop)) (a0:Act) (W:World) (listed:Array Bool) (a:Act) (w:World):Prop where
 below:Below W.heap.size W w
 old:QBV ops a0 a
 got:∀ i o d,ops[i]? = some o→listed.getD i false=true→o.dst=some d→∃ v,a.tmps[d]? = some v∧QEa phi i v w
 fits:∀ o d,o∈ops.toList→o.dst=some d→d < a0.tmps.size
def QHG (P:Program) (ops:Array Oper) (Q:Exit→Act→World→Prop) (phi:List (Value→World→Prop)) (a0:Act) (W:World) (i:Nat) (o:Oper):Prop :=
 ∀ a w,Below W.heap.size W w→QBV ops a0 a →
  (∀ j,QBM .any o j=true→∀ o' d,ops[j]? = some o'→o'.dst=some d→∃ v,a.tmps[d]? = some v∧QEa phi j v w) →
  ∀ K:Act→World→Prop,Hid (∀ v w',QEa phi i v w'→Below w.heap.size w w'→K (a.put o.dst v) w')→if Region.wanted o (yielded ops a.tmps)=true then Oper.wp P o a w K Q else K (a.put o.dst undef) w
def StepsOk (P:Program) (ops:Array Oper) (Q:Exit→Act→World→Prop) (phi:List (Value→World→Prop)) (a0:Act) (W:World):Nat→List Oper→Prop
 | _,[]=>True
 | i,o :: os=>QHG P ops Q phi a0 W i o∧StepsOk P ops Q phi a0 W (i+1) os
theorem StepsOk.get:∀ {i:Nat} {os:List Oper},StepsOk P ops Q phi a0 W i os→∀ (j:Nat) (o:Oper),os[j]? = some o→QHG P ops Q phi a0 W (i+j) o
 | _,[],_,j,o,h=>by simp at h
 | i,x :: os,hs,j,o,h=>by
  cases j with
  | zero=>simp at h;subst h;exact hs.1
  | succ j =>
   (have:=StepsOk.get hs.2 j o (by simpa using h))
   rwa [show i+1+j=i+(j+1) by omega] at this
theorem QDQ (h:QDa ops=true) {i j:Nat} {o o':Oper} {d:Tmp} (hi:ops[i]? = some o) (hj:ops[j]? = some o') (ho:o.dst=some d) (ho':o'.dst=some d):i=j:=by
 unfold QDa at h;rw [List.all_eq_true] at h;have h1:=h i (List.mem_range.2 (Array.getElem?_eq_some_iff.1 hi).1);rw [List.all_eq_true] at h1;have h2:=h1 j (List.mem_range.2 (Array.getElem?_eq_some_iff.1 hj).1);simp [hi,hj,ho,ho'] at h2;exact h2
theorem QCA (h:QDU ops=true) {listed:Array Bool} (hsz:listed.size=ops.size) (hr:Region.ready .any ops listed=[]):∀ (n i:Nat),i < n→i < ops.size→listed.getD i false=true
 | 0,i,h0,_=>by omega
 | n+1,i,h0,hi=>by
  rcases Nat.lt_or_ge i n with hlt|hge
  ·exact QCA h hsz hr n i hlt hi
  ·have hin:i=n:=by omega
   subst hin;have ho:ops[i]? = some ops[i]:=Array.getElem?_eq_getElem hi
   cases hl:listed.getD i true with
   | true =>
    (rw [Array.getD_eq_getD_getElem?,Array.getElem?_eq_getElem (by omega)] at hl ⊢)
    simpa using hl
   | false =>
    have:i∈Region.ready .any ops listed:=by
     rw [mem_ready];(refine⟨hl,ops[i],ho,fun e he hbe => ?_⟩);have hk:=h;unfold QDU at hk;rw [List.all_eq_true] at hk;have h1:=hk i (List.mem_range.2 hi);simp only [ho] at h1
     have h2:e.on < i:=by
      obtain⟨k,hk,rfl⟩:=Array.mem_iff_getElem.1 he;have:=Array.all_eq_true.1 h1 k hk;rw [hbe] at this;simpa using this
     (exact QCA h hsz hr i e.on h2 (by omega))
    rw [hr] at this
    cases this
def unl (l:List Bool):Nat:=l.countP fun b=>!b
theorem QCQ:∀ (l:List Bool) (i:Nat),l[i]? = some false→unl (l.set i true)+1=unl l
 | [],i,h=>by simp at h
 | b :: l,0,h=>by
  simp at h;subst h
  simp [unl]
 | b :: l,i+1,h=>by
  (have:=QCQ l i (by simpa using h));unfold unl at *
  cases b
  ·simp;omega
  ·simp;omega
theorem QAT {id:Nat} (hm:P.follows .mixedOrders=true) (phi:List (Value→World→Prop)) (hst:∀ p∈phi,QDF p) (ht:QDa ops=true) (hb:QDU ops=true) (N:Nat) (hN:a0.tmps.size=N) (hf:ops.toList.all (fun o=>match o.dst with|some d=>decide (d < N)|none=>true)=true)
  (hs:StepsOk P ops Q phi a0 W 0 ops.toList)
  (he:∀ a w,Below W.heap.size W w→QBV ops a0 a→(∀ i o d,ops[i]? = some o→o.dst=some d→∃ v,a.tmps[d]? = some v∧QEa phi i v w)→Q .normal a w):(Code.region id ops true).wp P Q a0 W:=by
 have hst':∀ i,QDF (QEa phi i):=fun i=>by
  unfold QEa;rw [List.getD_eq_getElem?_getD]
  rcases Nat.lt_or_ge i phi.length with h|h
  ·rw [List.getElem?_eq_getElem h]
   exact hst _ (List.getElem_mem h)
  ·rw [List.getElem?_eq_none h]
   (exact fun _ _ _ _ _=>trivial)
 have main:∀ (fuel:Nat) (listed:Array Bool) (a:Act) (w:World),listed.size=ops.size→unl listed.toList≤fuel→Way ops phi a0 W listed a w→wpAny P .any ops Q fuel listed a w:=by
  have hend:∀ (listed:Array Bool) (a:Act) (w:World),listed.size=ops.size→Way ops phi a0 W listed a w→Region.ready .any ops listed=[]→Q .normal a w:=fun listed a w hsz hw hr =>
   he a w hw.below hw.old fun i o d hi hd=>hw.got i o d hi (QCA hb hsz hr (i+1) i (Nat.lt_succ_self _) (Array.getElem?_eq_some_iff.1 hi).1) hd
  intro fuel
  induction fuel with
  | zero =>
   intro listed a w hsz hu hw
   have hr:Region.ready .any ops listed=[]:=by
    rw [List.eq_nil_iff_forall_not_mem];intro i hi;obtain⟨h0,o,ho,-⟩:=mem_ready.1 hi;have hlt:=(Array.getElem?_eq_some_iff.1 ho).1
    have h1:listed.toList[i]? = some false:=by
     (rw [Array.getElem?_toList,Array.getElem?_eq_getElem (by omega)]);(rw [Array.getD_eq_getD_getElem?,Array.getElem?_eq_getElem (by omega)] at h0);simpa using h0
    have:=QCQ _ _ h1;omega
   exact⟨hr,hend listed a w hsz hw hr⟩
  | succ fuel ih =>
   intro listed a w hsz hu hw;(refine⟨hend listed a w hsz hw,fun i hi => ?_⟩);obtain⟨h0,o,ho,hdep⟩:=mem_ready.1 hi;have hlt:=(Array.getElem?_eq_some_iff.1 ho).1
   have h1:listed.toList[i]? = some false:=by
    (rw [Array.getElem?_toList,Array.getElem?_eq_getElem (by omega)]);(rw [Array.getD_eq_getD_getElem?,Array.getElem?_eq_getElem (by omega)] at h0);simpa using h0
   have hu':=QCQ _ _ h1
   have hok:QHG P ops Q phi a0 W i o:=by
    (have:=hs.get i o (by rw [Array.getElem?_toList];exact ho))
    rwa [Nat.zero_add] at this
   have hstep:=hok a w hw.below hw.old (fun j hj o' d hj' hd=>hw.got j o' d hj' (by
    unfold QBM at hj;rw [List.any_eq_true] at hj;obtain⟨e,hk,hk2⟩:=hj;rw [Bool.and_eq_true,beq_iff_eq] at hk2;have:=hdep e (Array.mem_toList_iff.1 hk) hk2.1
    rwa [hk2.2] at this) hd) (wpAny P .any ops Q fuel (listed.setIfInBounds i true)) (fun v w' hp hbw=>by
    (refine ih _ _ _ (by simpa using hsz) (by rw [Array.toList_setIfInBounds];omega) ?_);(have hbel:Below W.heap.size W w':=hw.below.trans (hbw.mono (by have:=hw.below.size;exact this)));refine⟨hbel,?_,?_,hw.fits⟩
    ·obtain⟨o1,o2,o3⟩:=hw.old
     (refine⟨?_,?_,fun t ht' => ?_⟩)
     ·cases hd:o.dst <;> simp [Act.put,o1]
     ·cases hd:o.dst <;> simp [Act.put,o2]
     ·rw [← o3 t ht']
      cases hd:o.dst with
      | none=>rfl
      | some d =>
       have hne:d≠t:=fun e=>by
        have:=List.all_eq_true.1 ht' o (Array.mem_toList_iff.2 (Array.mem_of_getElem? ho));rw [hd,e] at this;simp at this
       simp [Act.put,Array.getElem?_setIfInBounds_ne hne]
    ·intro j o' d hj hlj hd
     by_cases hji:i=j
     ·subst hji
      rw [ho] at hj
      cases hj
      have hdl:d < a.tmps.size:=by rw [hw.old.1];exact hw.fits o d (by
       rw [Array.mem_toList_iff];exact Array.mem_of_getElem? ho) hd
      (exact⟨v,by rw [hd];simp [Act.put,hdl],hp⟩)
     ·rw [getD_set_ne false hji] at hlj
      obtain⟨u,hu1,hu2⟩:=hw.got j o' d hj hlj hd;refine⟨u,?_,hst' j u w w' hu2 hbw⟩
      cases hd':o.dst with
      | none=>exact hu1
      | some d' =>
       (have hne:d'≠d:=fun e=>hji (QDQ ht ho hj (by rw [hd',e]) hd))
       simp [Act.put,Array.getElem?_setIfInBounds_ne hne,hu1])
   unfold wpOp;simp only [ho]
   split
   ·rename_i hw1
    rw [if_pos hw1] at hstep;exact Or.inl hstep
   ·rename_i hw1
    rw [if_neg hw1] at hstep;exact hstep
 (refine wp_region_any hm (main _ _ _ _ (by simp) ?_ ⟨?_,⟨rfl,rfl,fun _ _=>rfl⟩,?_,?_⟩))
 ·have:unl (Array.replicate ops.size false).toList≤(Array.replicate ops.size false).toList.length:=List.countP_le_length
  simpa using this
 ·exact⟨rfl,rfl,rfl,Nat.le_refl _,fun _ _=>rfl⟩
 ·intro i o d _ h _
  rw [Array.getD_eq_getD_getElem?] at h
  rcases Nat.lt_or_ge i ops.size with h1|h1
  ·simp [h1] at h
  ·simp [Nat.not_lt.2 h1] at h
 ·intro o d ho hd
  have:=List.all_eq_true.1 hf o ho;rw [hd] at this;rw [hN];simpa using this
end
section
variable {P:Program} {ops:Array Oper} {Q:Exit→Act→World→Prop} {a0:Act} {W:World}
theorem QGF {id:Nat} (hm:P.follows .mixedOrders=true) (phi:List (Value→World→Prop)) (hst:∀ p∈phi,QDF p) (ht:QDa ops=true) (hb:QDU ops=true) (N:Nat) (hN:a0.tmps.size=N) (hf:ops.toList.all (fun o=>match o.dst with|some d=>decide (d < N)|none=>true)=true)
  (m:Nat) (ol:Oper) (hm1:ops.size=m+1) (hol:ops[m]? = some ol) (hw:(List.range m).all (QBM .any ol)=true) (hs:StepsOk P ops Q phi a0 W 0 (ops.toList.take m))
  (he:∀ a w,Below W.heap.size W w→QBV ops a0 a→(∀ i o d,i < m→ops[i]? = some o→o.dst=some d→∃ v,a.tmps[d]? = some v∧QEa phi i v w)→∀ K:Act→World→Prop,Hid (∀ a' w',Q .normal a' w'→K a' w')→if Region.wanted ol (yielded ops a.tmps)=true then Oper.wp P ol a w K Q else K (a.put ol.dst undef) w):(Code.region id ops true).wp P Q a0 W:=by
 have hst':∀ i,QDF (QEa phi i):=fun i=>by
  unfold QEa;rw [List.getD_eq_getElem?_getD]
  rcases Nat.lt_or_ge i phi.length with h|h
  ·rw [List.getElem?_eq_getElem h]
   exact hst _ (List.getElem_mem h)
  ·rw [List.getElem?_eq_none h]
   (exact fun _ _ _ _ _=>trivial)
 have done:∀ (fuel:Nat) (listed:Array Bool) (a:Act) (w:World),Region.ready .any ops listed=[]→Q .normal a w→wpAny P .any ops Q fuel listed a w:=fun fuel listed a w hr hq=>by
  cases fuel with
  | zero=>exact⟨hr,hq⟩
  | succ fuel=>exact⟨fun _=>hq,fun i hi=>by rw [hr] at hi;cases hi⟩
 have main:∀ (fuel:Nat) (listed:Array Bool) (a:Act) (w:World),listed.size=ops.size→unl listed.toList≤fuel→listed.getD m true=false→Way ops phi a0 W listed a w→wpAny P .any ops Q fuel listed a w:=by
  have hend:∀ (listed:Array Bool) (a:Act) (w:World),listed.size=ops.size→listed.getD m true=false→Region.ready .any ops listed=[]→Q .normal a w:=fun listed a w hsz hm0 hr=>by
   (have:=QCA hb hsz hr (m+1) m (Nat.lt_succ_self _) (by omega));(rw [Array.getD_eq_getD_getElem?,Array.getElem?_eq_getElem (by omega)] at this hm0);simp at this hm0;rw [hm0] at this
   cases this
  intro fuel
  induction fuel with
  | zero =>
   intro listed a w hsz hu hmf hw
   have hr:Region.ready .any ops listed=[]:=by
    rw [List.eq_nil_iff_forall_not_mem];intro i hi;obtain⟨h0,o,ho,-⟩:=mem_ready.1 hi;have hlt:=(Array.getElem?_eq_some_iff.1 ho).1
    have h1:listed.toList[i]? = some false:=by
     (rw [Array.getElem?_toList,Array.getElem?_eq_getElem (by omega)]);(rw [Array.getD_eq_getD_getElem?,Array.getElem?_eq_getElem (by omega)] at h0);simpa using h0
    have:=QCQ _ _ h1;omega
   exact⟨hr,hend listed a w hsz hmf hr⟩
  | succ fuel ih =>
   intro listed a w hsz hu hmf hwy;(refine⟨hend listed a w hsz hmf,fun i hi => ?_⟩);obtain⟨h0,o,ho,hdep⟩:=mem_ready.1 hi;have hlt:=(Array.getElem?_eq_some_iff.1 ho).1
   have h1:listed.toList[i]? = some false:=by
    (rw [Array.getElem?_toList,Array.getElem?_eq_getElem (by omega)]);(rw [Array.getD_eq_getD_getElem?,Array.getElem?_eq_getElem (by omega)] at h0);simpa using h0
   have hu':=QCQ _ _ h1;by_cases him:i=m
   ·subst him
    rw [hol] at ho
    cases ho
    have hall:∀ j,j < i→listed.getD j false=true:=fun j hj=>by
     have hwj:=List.all_eq_true.1 hw j (List.mem_range.2 hj);unfold QBM at hwj;rw [List.any_eq_true] at hwj;obtain⟨e,hk,hk2⟩:=hwj;rw [Bool.and_eq_true,beq_iff_eq] at hk2;have:=hdep e (Array.mem_toList_iff.1 hk) hk2.1
     rwa [hk2.2] at this
    have hnone:Region.ready .any ops (listed.setIfInBounds i true)=[]:=by
     rw [List.eq_nil_iff_forall_not_mem];intro j hj;obtain⟨g0,o',ho',-⟩:=mem_ready.1 hj;have hjl:=(Array.getElem?_eq_some_iff.1 ho').1;by_cases hji:i=j
     ·subst hji
      simp [hsz,hlt] at g0
     ·rw [getD_set_ne true hji] at g0
      (have:=hall j (by omega));(rw [Array.getD_eq_getD_getElem?,Array.getElem?_eq_getElem (by omega)] at this g0);simp at this g0;rw [g0] at this
      cases this
    (have hstep:=he a w hwy.below hwy.old (fun j o' d hj hoj hd=>hwy.got j o' d hoj (hall j hj) hd) (wpAny P .any ops Q fuel (listed.setIfInBounds i true)) (fun a' w' hq=>done _ _ _ _ hnone hq));unfold wpOp;simp only [hol]
    split
    ·rename_i hw1
     rw [if_pos hw1] at hstep;exact Or.inl hstep
    ·rename_i hw1
     rw [if_neg hw1] at hstep;exact hstep
   have hok:QHG P ops Q phi a0 W i o:=by
    (have:=hs.get i o (by rw [List.getElem?_take_of_lt (by omega),Array.getElem?_toList];exact ho))
    rwa [Nat.zero_add] at this
   have hstep:=hok a w hwy.below hwy.old (fun j hj o' d hj' hd=>hwy.got j o' d hj' (by
    unfold QBM at hj;rw [List.any_eq_true] at hj;obtain⟨e,hk,hk2⟩:=hj;rw [Bool.and_eq_true,beq_iff_eq] at hk2;have:=hdep e (Array.mem_toList_iff.1 hk) hk2.1
    rwa [hk2.2] at this) hd) (wpAny P .any ops Q fuel (listed.setIfInBounds i true)) (fun v w' hp hbw=>by
    (refine ih _ _ _ (by simpa using hsz) (by rw [Array.toList_setIfInBounds];omega) (by rw [getD_set_ne true him];exact hmf) ?_);(have hbel:Below W.heap.size W w':=hwy.below.trans (hbw.mono (by have:=hwy.below.size;exact this)));refine⟨hbel,?_,?_,hwy.fits⟩
    ·obtain⟨o1,o2,o3⟩:=hwy.old
     (refine⟨?_,?_,fun t ht' => ?_⟩)
     ·cases hd:o.dst <;> simp [Act.put,o1]
     ·cases hd:o.dst <;> simp [Act.put,o2]
     ·rw [← o3 t ht']
      cases hd:o.dst with
      | none=>rfl
      | some d =>
       have hne:d≠t:=fun e=>by
        have:=List.all_eq_true.1 ht' o (Array.mem_toList_iff.2 (Array.mem_of_getElem? ho));rw [hd,e] at this;simp at this
       simp [Act.put,Array.getElem?_setIfInBounds_ne hne]
    ·intro j o' d hj hlj hd
     by_cases hji:i=j
     ·subst hji
      rw [ho] at hj
      cases hj
      have hdl:d < a.tmps.size:=by rw [hwy.old.1];exact hwy.fits o d (by
       rw [Array.mem_toList_iff];exact Array.mem_of_getElem? ho) hd
      (exact⟨v,by rw [hd];simp [Act.put,hdl],hp⟩)
     ·rw [getD_set_ne false hji] at hlj
      obtain⟨u,hu1,hu2⟩:=hwy.got j o' d hj hlj hd;refine⟨u,?_,hst' j u w w' hu2 hbw⟩
      cases hd':o.dst with
      | none=>exact hu1
      | some d' =>
       (have hne:d'≠d:=fun e=>hji (QDQ ht ho hj (by rw [hd',e]) hd))
       simp [Act.put,Array.getElem?_setIfInBounds_ne hne,hu1])
   unfold wpOp;simp only [ho]
   split
   ·rename_i hw1
    rw [if_pos hw1] at hstep;exact Or.inl hstep
   ·rename_i hw1
    rw [if_neg hw1] at hstep;exact hstep
 (refine wp_region_any hm (main _ _ _ _ (by simp) ?_ (by simp [hm1]) ⟨?_,⟨rfl,rfl,fun _ _=>rfl⟩,?_,?_⟩))
 ·have:unl (Array.replicate ops.size false).toList≤(Array.replicate ops.size false).toList.length:=List.countP_le_length
  simpa using this
 ·exact⟨rfl,rfl,rfl,Nat.le_refl _,fun _ _=>rfl⟩
 ·intro i o d _ h _
  rw [Array.getD_eq_getD_getElem?] at h
  rcases Nat.lt_or_ge i ops.size with h1|h1
  ·simp [h1] at h
  ·simp [Nat.not_lt.2 h1] at h
 ·intro o d ho hd
  have:=List.all_eq_true.1 hf o ho;rw [hd] at this;rw [hN];simpa using this
end
abbrev QCV:=Value→World→(Nat→Nat)→Prop
def QGG (w:World) (t:Nat→Nat) (i:Nat):Nat→Nat:=fun b=>if b < w.heap.size then t b else i
def QCF (p:QCV):Prop:=∀ v w t w' t',p v w t→Below w.heap.size w w'→(∀ b,b < w.heap.size→t' b=t b)→p v w' t'
def QCB (phi:List QCV) (i:Nat):QCV:=phi.getD i fun _ _ _=>True
abbrev QFP:=World→(Nat→Nat)→World→Prop
def QFF (x:Nat) (Rw:QFP) (i:Nat) (w:World) (t:Nat→Nat) (w':World):Prop:=cond (i == x) (Rw w t w') (Below w.heap.size w w')
def QCx (ops:Array Oper) (x i:Nat):Bool:=i == x || (match ops[x]? with|some o=>QBM .any o i|none=>false)
def QDl (ops:Array Oper) (x:Nat) (ls:List Nat):Bool:=ls.all fun i=>match ops[i]? with|some o=>QBM .any o x || (List.range i).any (fun j=>QBM .any o j && ls.contains j)|none=>true
def LiveStay (x:Nat) (ds ls:List Nat) (Rw:QFP):Nat→List QCV→Prop
 | _,[]=>True
 | i,p :: ps=>((i == x || ds.contains i || ls.contains i)=false→∀ v w t w' t',p v w t→Rw w t w'→(∀ b,b < w.heap.size→t' b=t b)→p v w' t')∧LiveStay x ds ls Rw (i+1) ps
section
variable {P:Program} {ops:Array Oper} {Q:Exit→Act→World→Prop} {a0:Act} {W:World}
theorem LiveStay.get {x:Nat} {ds ls:List Nat} {Rw:QFP}:∀ {i:Nat} {ps:List QCV},LiveStay x ds ls Rw i ps→∀ (j:Nat),i+j≠x→ds.contains (i+j)=false→ls.contains (i+j)=false→∀ v w t w' t',QCB ps j v w t→Rw w t w'→(∀ b,b < w.heap.size→t' b=t b)→QCB ps j v w' t'
 | _,[],_,j,_,_,_,_,_,_,_,_,_,_,_=>by simp [QCB]
 | i,p :: ps,h,0,h1,h2,h6,v,w,t,w',t',h3,h4,h5=>h.1 (by rw [Nat.add_zero] at h1 h2 h6;rw [h2,h6,Bool.or_false,Bool.or_false];simpa using h1) v w t w' t' h3 h4 h5
 | i,p :: ps,h,j+1,h1,h2,h6,v,w,t,w',t',h3,h4,h5=>LiveStay.get h.2 j (by omega) (by rw [show i+1+j=i+(j+1) by omega];exact h2) (by rw [show i+1+j=i+(j+1) by omega];exact h6) v w t w' t' h3 h4 h5
structure Way3 (ops:Array Oper) (phi:List QCV) (a0:Act) (BB:Bool→World→Prop) (ds:List Nat) (x:Nat) (listed:Array Bool) (a:Act) (w:World) (t:Nat→Nat):Prop where
 below:BB (listed.getD x false) w
 old:QBV ops a0 a
 got:∀ i o d,ops[i]? = some o→listed.getD i false=true→(ds.contains i=true→listed.getD x false=false)→o.dst=some d→∃ v,a.tmps[d]? = some v∧QCB phi i v w t
 fits:∀ o d,o∈ops.toList→o.dst=some d→d < a0.tmps.size
 closed:∀ i o,ops[i]? = some o→listed.getD i false=true→∀ j,QBM .any o j=true→listed.getD j false=true
theorem Way3.late {phi:List QCV} {BB:Bool→World→Prop} {ds:List Nat} {x:Nat} {ls:List Nat} {listed:Array Bool} {a:Act} {w:World} {t:Nat→Nat} (h:Way3 ops phi a0 BB ds x listed a w t) (hsz:listed.size=ops.size) (hl:QDl ops x ls=true):∀ (n i:Nat),i < n→listed.getD i false=true→ls.contains i=true→listed.getD x false=true
 | 0,i,h0,_,_=>by omega
 | n+1,i,h0,h1,h2=>by
  have hlt:i < ops.size:=by
   rw [Array.getD_eq_getD_getElem?] at h1
   rcases Nat.lt_or_ge i ops.size with h3|h3
   ·exact h3
   ·rw [Array.getElem?_eq_none (by omega)] at h1;cases h1
  have ho:ops[i]? = some ops[i]:=Array.getElem?_eq_getElem hlt;unfold QDl at hl;(have h3:=List.all_eq_true.1 hl i (by simpa using h2));simp only [ho] at h3;rw [Bool.or_eq_true] at h3
  rcases h3 with h3|h3
  ·exact h.closed i _ ho h1 x h3
  ·rw [List.any_eq_true] at h3
   obtain⟨j,hj,h4⟩:=h3;rw [Bool.and_eq_true] at h4;(exact Way3.late h hsz (by unfold QDl;exact hl) n j (by have:=List.mem_range.1 hj;omega) (h.closed i _ ho h1 j h4.1) h4.2)
def QHH (P:Program) (ops:Array Oper) (Q:Exit→Act→World→Prop) (phi:List QCV) (a0:Act) (BB:Bool→World→Prop) (ds:List Nat) (x:Nat) (Rw:QFP) (i:Nat) (o:Oper):Prop :=
 ∀ a w t s,BB s w→(QCx ops x i=true→s=false)→QBV ops a0 a →
  (∀ j,(QBM .any o j && (QCx ops x i || !ds.contains j))=true→∀ o' d,ops[j]? = some o'→o'.dst=some d→∃ v,a.tmps[d]? = some v∧QCB phi j v w t) →
  ∀ K:Act→World→Prop,Hid (∀ v w',QCB phi i v w' (QGG w t i)→QFF x Rw i w t w'→K (a.put o.dst v) w')→if Region.wanted o (yielded ops a.tmps)=true then Oper.wp P o a w K Q else K (a.put o.dst undef) w
def StepsOk3 (P:Program) (ops:Array Oper) (Q:Exit→Act→World→Prop) (phi:List QCV) (a0:Act) (BB:Bool→World→Prop) (ds:List Nat) (x:Nat) (Rw:QFP):Nat→List Oper→Prop
 | _,[]=>True
 | i,o :: os=>QHH P ops Q phi a0 BB ds x Rw i o∧StepsOk3 P ops Q phi a0 BB ds x Rw (i+1) os
theorem StepsOk3.get {phi:List QCV} {BB:Bool→World→Prop} {ds:List Nat} {x:Nat} {Rw:QFP}:∀ {i:Nat} {os:List Oper},StepsOk3 P ops Q phi a0 BB ds x Rw i os→∀ (j:Nat) (o:Oper),os[j]? = some o→QHH P ops Q phi a0 BB ds x Rw (i+j) o
 | _,[],_,j,o,h=>by simp at h
 | i,y :: os,hs,j,o,h=>by
  cases j with
  | zero=>simp at h;subst h;exact hs.1
  | succ j =>
   (have:=StepsOk3.get hs.2 j o (by simpa using h))
   rwa [show i+1+j=i+(j+1) by omega] at this
theorem QGJ {id:Nat} (hm:P.follows .mixedOrders=true) (phi:List QCV) (hst:∀ p∈phi,QCF p) (ht:QDa ops=true) (hb:QDU ops=true) (N:Nat) (hN:a0.tmps.size=N) (hf:ops.toList.all (fun o=>match o.dst with|some d=>decide (d < N)|none=>true)=true)
  (m:Nat) (ol:Oper) (hm1:ops.size=m+1) (hol:ops[m]? = some ol) (hw:(List.range m).all (QBM .any ol)=true)
  (ds:List Nat) (x:Nat) (hxm:x < m) (Rw:QFP) (BB:Bool→World→Prop) (hB0:BB false W) (hB1:∀ s w w',BB s w→Below w.heap.size w w'→BB s w') (hB2:∀ w t w',BB false w→Rw w t w'→BB true w') (ls:List Nat) (hlate:QDl ops x ls=true) (hls:LiveStay x ds ls Rw 0 phi)
  (hs:StepsOk3 P ops Q phi a0 BB ds x Rw 0 (ops.toList.take m))
  (he:∀ a w t,BB true w→QBV ops a0 a→(∀ i o d,i < m→ds.contains i=false→ops[i]? = some o→o.dst=some d→∃ v,a.tmps[d]? = some v∧QCB phi i v w t)→∀ K:Act→World→Prop,Hid (∀ a' w',Q .normal a' w'→K a' w')→if Region.wanted ol (yielded ops a.tmps)=true then Oper.wp P ol a w K Q else K (a.put ol.dst undef) w):(Code.region id ops true).wp P Q a0 W:=by
 have hst':∀ i,QCF (QCB phi i):=fun i=>by
  unfold QCB;rw [List.getD_eq_getElem?_getD]
  rcases Nat.lt_or_ge i phi.length with h|h
  ·rw [List.getElem?_eq_getElem h]
   exact hst _ (List.getElem_mem h)
  ·rw [List.getElem?_eq_none h]
   (exact fun _ _ _ _ _ _ _ _=>trivial)
 have done:∀ (fuel:Nat) (listed:Array Bool) (a:Act) (w:World),Region.ready .any ops listed=[]→Q .normal a w→wpAny P .any ops Q fuel listed a w:=fun fuel listed a w hr hq=>by
  cases fuel with
  | zero=>exact⟨hr,hq⟩
  | succ fuel=>exact⟨fun _=>hq,fun i hi=>by rw [hr] at hi;cases hi⟩
 have main:∀ (fuel:Nat) (listed:Array Bool) (a:Act) (w:World) (t:Nat→Nat),listed.size=ops.size→unl listed.toList≤fuel→listed.getD m true=false→Way3 ops phi a0 BB ds x listed a w t→wpAny P .any ops Q fuel listed a w:=by
  have hend:∀ (listed:Array Bool) (a:Act) (w:World),listed.size=ops.size→listed.getD m true=false→Region.ready .any ops listed=[]→Q .normal a w:=fun listed a w hsz hm0 hr=>by
   (have:=QCA hb hsz hr (m+1) m (Nat.lt_succ_self _) (by omega));(rw [Array.getD_eq_getD_getElem?,Array.getElem?_eq_getElem (by omega)] at this hm0);simp at this hm0;rw [hm0] at this
   cases this
  intro fuel
  induction fuel with
  | zero =>
   intro listed a w t hsz hu hmf hw
   have hr:Region.ready .any ops listed=[]:=by
    rw [List.eq_nil_iff_forall_not_mem];intro i hi;obtain⟨h0,o,ho,-⟩:=mem_ready.1 hi;have hlt:=(Array.getElem?_eq_some_iff.1 ho).1
    have h1:listed.toList[i]? = some false:=by
     (rw [Array.getElem?_toList,Array.getElem?_eq_getElem (by omega)]);(rw [Array.getD_eq_getD_getElem?,Array.getElem?_eq_getElem (by omega)] at h0);simpa using h0
    have:=QCQ _ _ h1;omega
   exact⟨hr,hend listed a w hsz hmf hr⟩
  | succ fuel ih =>
   intro listed a w t hsz hu hmf hwy;(refine⟨hend listed a w hsz hmf,fun i hi => ?_⟩);obtain⟨h0,o,ho,hdep⟩:=mem_ready.1 hi;have hlt:=(Array.getElem?_eq_some_iff.1 ho).1
   have h1:listed.toList[i]? = some false:=by
    (rw [Array.getElem?_toList,Array.getElem?_eq_getElem (by omega)]);(rw [Array.getD_eq_getD_getElem?,Array.getElem?_eq_getElem (by omega)] at h0);simpa using h0
   have hu':=QCQ _ _ h1;by_cases him:i=m
   ·subst him
    rw [hol] at ho
    cases ho
    have hall:∀ j,j < i→listed.getD j false=true:=fun j hj=>by
     have hwj:=List.all_eq_true.1 hw j (List.mem_range.2 hj);unfold QBM at hwj;rw [List.any_eq_true] at hwj;obtain⟨e,hk,hk2⟩:=hwj;rw [Bool.and_eq_true,beq_iff_eq] at hk2;have:=hdep e (Array.mem_toList_iff.1 hk) hk2.1
     rwa [hk2.2] at this
    have hnone:Region.ready .any ops (listed.setIfInBounds i true)=[]:=by
     rw [List.eq_nil_iff_forall_not_mem];intro j hj;obtain⟨g0,o',ho',-⟩:=mem_ready.1 hj;have hjl:=(Array.getElem?_eq_some_iff.1 ho').1;by_cases hji:i=j
     ·subst hji
      simp [hsz,hlt] at g0
     ·rw [getD_set_ne true hji] at g0
      (have:=hall j (by omega));(rw [Array.getD_eq_getD_getElem?,Array.getElem?_eq_getElem (by omega)] at this g0);simp at this g0;rw [g0] at this
      cases this
    (have hstep:=he a w t (by have:=hwy.below;rwa [hall x hxm] at this) hwy.old (fun j o' d hj hdj hoj hd=>hwy.got j o' d hoj (hall j hj) (fun e=>by rw [hdj] at e;cases e) hd) (wpAny P .any ops Q fuel (listed.setIfInBounds i true)) (fun a' w' hq=>done _ _ _ _ hnone hq));unfold wpOp;simp only [hol]
    split
    ·rename_i hw1
     rw [if_pos hw1] at hstep;exact Or.inl hstep
    ·rename_i hw1
     rw [if_neg hw1] at hstep;exact hstep
   have hok:QHH P ops Q phi a0 BB ds x Rw i o:=by
    (have:=hs.get i o (by rw [List.getElem?_take_of_lt (by omega),Array.getElem?_toList];exact ho))
    rwa [Nat.zero_add] at this
   have hearly:QCx ops x i=true→listed.getD x false=false:=fun e=>by
    unfold QCx at e;rw [Bool.or_eq_true] at e
    rcases e with e|e
    ·have e:i=x:=by simpa using e
     rw [← e];(rw [Array.getD_eq_getD_getElem?,Array.getElem?_eq_getElem (by omega)] at h0 ⊢);simpa using h0
    ·cases hlx:listed.getD x false with
     | false=>rfl
     | true =>
      cases hox:ops[x]? with
      | none=>rw [hox] at e;cases e
      | some ox =>
       rw [hox] at e;have:=hwy.closed x ox hox hlx i e;(rw [Array.getD_eq_getD_getElem?,Array.getElem?_eq_getElem (by omega)] at h0 this);simp at h0 this;rw [h0] at this
       cases this
   have hstep:=hok a w t _ hwy.below hearly hwy.old (fun j hj o' d hj' hd=>hwy.got j o' d hj' (by
    rw [Bool.and_eq_true] at hj;have hj:=hj.1;unfold QBM at hj;rw [List.any_eq_true] at hj;obtain⟨e,hk,hk2⟩:=hj;rw [Bool.and_eq_true,beq_iff_eq] at hk2;have:=hdep e (Array.mem_toList_iff.1 hk) hk2.1
    rwa [hk2.2] at this) (fun e=>by
     rw [Bool.and_eq_true,e,Bool.not_true,Bool.or_false] at hj
     exact hearly hj.2) hd) (wpAny P .any ops Q fuel (listed.setIfInBounds i true)) (fun v w' hp hbw=>by
    (refine ih _ _ _ (QGG w t i) (by simpa using hsz) (by rw [Array.toList_setIfInBounds];omega) (by rw [getD_set_ne true him];exact hmf) ?_)
    have hbel:BB ((listed.setIfInBounds i true).getD x false) w':=by
     unfold QFF at hbw
     cases hix:i == x
     ·rw [hix] at hbw
      (rw [getD_set_ne false (by simpa using hix)]);exact hB1 _ w w' hwy.below hbw
     ·rw [hix] at hbw
      (have e:i=x:=by simpa using hix)
      have h8:listed.getD x false=false:=by
       rw [← e];(rw [Array.getD_eq_getD_getElem?,Array.getElem?_eq_getElem (by omega)] at h0 ⊢);simpa using h0
      have h9:(listed.setIfInBounds i true).getD x false=true:=by
       rw [← e];simp [hsz,hlt]
      rw [h9];have:=hwy.below;rw [h8] at this;exact hB2 w t w' this hbw
    refine⟨hbel,?_,?_,hwy.fits,?_⟩
    case refine_3 =>
     intro j o' hj hlj k hk;by_cases hki:i=k
     ·rw [← hki]
      simp [hsz,hlt]
     ·rw [getD_set_ne false hki]
      by_cases hji:i=j
      ·rw [← hji,ho] at hj
       cases hj
       unfold QBM at hk;rw [List.any_eq_true] at hk;obtain⟨e,hk1,hk2⟩:=hk;rw [Bool.and_eq_true,beq_iff_eq] at hk2;have:=hdep e (Array.mem_toList_iff.1 hk1) hk2.1
       rwa [hk2.2] at this
      ·rw [getD_set_ne false hji] at hlj
       exact hwy.closed j o' hj hlj k hk
    ·obtain⟨o1,o2,o3⟩:=hwy.old
     (refine⟨?_,?_,fun s ht' => ?_⟩)
     ·cases hd:o.dst <;> simp [Act.put,o1]
     ·cases hd:o.dst <;> simp [Act.put,o2]
     ·rw [← o3 s ht']
      cases hd:o.dst with
      | none=>rfl
      | some d =>
       have hne:d≠s:=fun e=>by
        have:=List.all_eq_true.1 ht' o (Array.mem_toList_iff.2 (Array.mem_of_getElem? ho));rw [hd,e] at this;simp at this
       simp [Act.put,Array.getElem?_setIfInBounds_ne hne]
    ·intro j o' d hj hlj hdj hd
     by_cases hji:i=j
     ·subst hji
      rw [ho] at hj
      cases hj
      have hdl:d < a.tmps.size:=by rw [hwy.old.1];exact hwy.fits o d (by
       rw [Array.mem_toList_iff];exact Array.mem_of_getElem? ho) hd
      (exact⟨v,by rw [hd];simp [Act.put,hdl],hp⟩)
     ·rw [getD_set_ne false hji] at hlj
      have hold:ds.contains j=true→listed.getD x false=false:=fun e=>by
       by_cases hix:i=x
       ·rw [← hix]
        (rw [Array.getD_eq_getD_getElem?,Array.getElem?_eq_getElem (by omega)] at h0 ⊢);simpa using h0
       ·have:=hdj e
        rwa [getD_set_ne false hix] at this
      obtain⟨u,hu1,hu2⟩:=hwy.got j o' d hj hlj hold hd;refine⟨u,?_,?_⟩
      case refine_2 =>
       by_cases hix:i=x
       ·have hb9:Rw w t w':=by
         unfold QFF at hbw;rw [hix,beq_self_eq_true] at hbw;exact hbw
        have hdd:ds.contains j=false:=by
         cases hd9:ds.contains j with
         | false=>rfl
         | true =>
          have:=hdj hd9;rw [← hix] at this;simp [hsz,hlt] at this
        have:=hls.get j (by rw [Nat.zero_add,← hix];exact fun e=>hji e.symm) (by rw [Nat.zero_add];exact hdd) (by
          rw [Nat.zero_add]
          cases hlc:ls.contains j with
          | false=>rfl
          | true =>
           have h9:=hwy.late hsz hlate (j+1) j (Nat.lt_succ_self _) hlj hlc;rw [← hix] at h9;(rw [Array.getD_eq_getD_getElem?,Array.getElem?_eq_getElem (by omega)] at h0 h9);simp at h0 h9;rw [h0] at h9
           cases h9) u w t w' (QGG w t i) hu2 hb9 (fun b hb=>if_pos hb)
        exact this
       ·have hb9:Below w.heap.size w w':=by
         unfold QFF at hbw;rw [beq_false_of_ne hix] at hbw;exact hbw
        (exact hst' j u w t w' (QGG w t i) hu2 hb9 (fun b hb=>if_pos hb))
      cases hd':o.dst with
      | none=>exact hu1
      | some d' =>
       (have hne:d'≠d:=fun e=>hji (QDQ ht ho hj (by rw [hd',e]) hd))
       simp [Act.put,Array.getElem?_setIfInBounds_ne hne,hu1])
   unfold wpOp;simp only [ho]
   split
   ·rename_i hw1
    rw [if_pos hw1] at hstep;exact Or.inl hstep
   ·rename_i hw1
    rw [if_neg hw1] at hstep;exact hstep
 (refine wp_region_any hm (main _ _ _ _ (fun _=>1000) (by simp) ?_ (by simp [hm1]) ⟨?_,⟨rfl,rfl,fun _ _=>rfl⟩,?_,?_,?_⟩))
 ·have:unl (Array.replicate ops.size false).toList≤(Array.replicate ops.size false).toList.length:=List.countP_le_length
  simpa using this
 ·have:(Array.replicate ops.size false).getD x false=false:=by
   rw [Array.getD_eq_getD_getElem?]
   rcases Nat.lt_or_ge x ops.size with h1|h1
   ·simp [h1]
   ·simp [Nat.not_lt.2 h1]
  rw [this];(exact hB1 _ W _ hB0 ⟨rfl,rfl,rfl,Nat.le_refl _,fun _ _=>rfl⟩)
 ·intro i o d _ h _ _
  rw [Array.getD_eq_getD_getElem?] at h
  rcases Nat.lt_or_ge i ops.size with h1|h1
  ·simp [h1] at h
  ·simp [Nat.not_lt.2 h1] at h
 ·intro o d ho hd
  have:=List.all_eq_true.1 hf o ho;rw [hd] at this;rw [hN];simpa using this
 ·intro i o _ h
  rw [Array.getD_eq_getD_getElem?] at h
  rcases Nat.lt_or_ge i ops.size with h1|h1
  ·simp [h1] at h
  ·simp [Nat.not_lt.2 h1] at h
end
def QBo (l:List UInt8):Bool:=l.all QEE
theorem QDm:∀ (l:List UInt8),QBo l=true→QAy l=l
 | [],_=>rfl
 | c :: l,h=>by
  simp only [QBo,List.all_cons,Bool.and_eq_true] at h;rw [QAy,if_pos h.1,QDm l h.2]
theorem QDg:∀ (l:List UInt8),(QAy l).length=l.length→QBo l=true
 | [],_=>rfl
 | c :: l,h=>by
  rw [QAy] at h
  split at h
  ·rename_i hc
   simp only [QBo,List.all_cons,Bool.and_eq_true];(exact⟨hc,QDg l (by simpa using h)⟩)
  ·simp at h
theorem QMZ (l:List UInt8):QBt l=(QBo l && decide (0 < l.length) && decide (l.length < 9)):=by
 unfold QBt
 rcases h:QBo l with _|_
 ·have:¬ (QAy l).length=l.length:=fun e=>by rw [QDg l e] at h;cases h
  simp [this]
 ·rw [QDm l h]
  have e1:(l≠[]) ↔ 0 < l.length:=List.length_pos_iff.symm;(have e2:(l.length≤8) ↔ l.length < 9:=by omega);rw [Bool.eq_iff_iff];simp only [Bool.and_eq_true,decide_eq_true_eq,e1,e2,Bool.true_and,and_true]
mutual
def QBH:Fm→Nat→List Fm
 | .mk k n ks,most => .mk k n ks :: walkK ks most 1
def walkK:List Fm→Nat→Nat→List Fm
 | [],_,_=>[]
 | f :: fs,most,c=>if c≤most then QBH f (most - c)++walkK fs most (c+(QBH f (most - c)).length) else []
end
mutual
theorem QEh:∀ (f:Fm) (most:Nat),(QBH f most).length≤most+1
 | .mk k n ks,most=>by
  rw [QBH,List.length_cons];(have:=walkK_le ks most 1 (by omega));omega
theorem walkK_le:∀ (fs:List Fm) (most c:Nat),c≤most+1→c+(walkK fs most c).length≤most+1
 | [],most,c,h=>by rw [walkK];simpa using h
 | f :: fs,most,c,h=>by
  rw [walkK]
  split
  ·rename_i hc
   have a:=QEh f (most - c);(have b:=walkK_le fs most (c+(QBH f (most - c)).length) (by omega));rw [List.length_append];omega
  ·simpa using h
end
mutual
def QBx:Fm→List Fm
 | .mk k n ks => .mk k n ks :: allNs ks
def allNs:List Fm→List Fm
 | []=>[]
 | f :: fs=>QBx f++allNs fs
end
mutual
theorem QDf:∀ f:Fm,(QBx f).length=f.size
 | .mk k n ks=>by rw [QBx,List.length_cons,allNs_len ks,Fm.size]
theorem allNs_len:∀ fs:List Fm,(allNs fs).length=Fm.sizes fs
 | []=>by rw [allNs,Fm.sizes];rfl
 | f :: fs=>by rw [allNs,List.length_append,QDf f,allNs_len fs,Fm.sizes]
end
theorem QMy {α:Type} (a b:List α) (n:Nat):(a++b).take n=a.take n++b.take (n - a.length):=List.take_append
mutual
theorem QDc:∀ (f:Fm) (most:Nat),QBH f most=(QBx f).take (most+1)
 | .mk k n ks,most=>by
  (rw [QBH,QBx,List.take_succ_cons,walkK_take ks most 1 (by omega)]);rfl
theorem walkK_take:∀ (fs:List Fm) (most c:Nat),c≤most+1→walkK fs most c=(allNs fs).take (most+1 - c)
 | [],most,c,_=>by rw [walkK,allNs];simp
 | f :: fs,most,c,h=>by
  rw [walkK,allNs]
  split
  ·rename_i hc
   (have e:most - c+1=most+1 - c:=by omega);have hl:=QEh f (most - c);have hL:=QDc f (most - c);rw [e] at hL;(rw [walkK_take fs most (c+(QBH f (most - c)).length) (by omega),QMy,← hL])
   congr 1
   by_cases hlt:(QBx f).length≤most+1 - c
   ·have:(QBH f (most - c)).length=(QBx f).length:=by rw [hL,List.length_take];omega
    rw [this];congr 1;omega
   ·have:(QBH f (most - c)).length=most+1 - c:=by rw [hL,List.length_take];omega
    (rw [this,show most+1 - (c+(most+1 - c))=0 by omega,show most+1 - c - (QBx f).length=0 by omega])
  ·have:most+1 - c=0:=by omega
   rw [this];simp
end
theorem QNB (f:Fm) (most:Nat):(QBH f most).length=min (most+1) f.size:=by
 rw [QDc,List.length_take,QDf]
def run:List Fm→Nat→Chk
 | [],s => .ok s
 | .mk k n ks :: fs,s=>if s=200 then .bad 2 0 else match QBX k n ks.length with
  | some c => .bad c s
  | none=>run fs (s+1)
mutual
theorem QKY:∀ (f:Fm) (rest:List Fm) (s:Nat),run (QBx f++rest) s=match chk f s with | .bad c a => .bad c a | .ok s'=>run rest s'
 | .mk k n ks,rest,s=>by
  rw [QBx,List.cons_append,run,chk];by_cases h:s=200
  ·rw [if_pos h,if_pos h]
  ·rw [if_neg h,if_neg h]
   cases QBX k n ks.length with
   | some c=>rfl
   | none=>exact runs_all ks rest (s+1)
theorem runs_all:∀ (fs:List Fm) (rest:List Fm) (s:Nat),run (allNs fs++rest) s=match chks fs s with | .bad c a => .bad c a | .ok s'=>run rest s'
 | [],rest,s=>by rw [allNs,chks];rfl
 | f :: fs,rest,s=>by
  rw [allNs,List.append_assoc,QKY f _ s,chks]
  cases chk f s with
  | bad c a=>rfl
  | ok s'=>exact runs_all fs rest s'
end
theorem QIh:∀ (l:List Fm) (m s:Nat),201≤m+s→s≤200→run (l.take m) s=run l s
 | [],m,s,_,_=>by simp
 | .mk k n ks :: l,m,s,h,hs=>by
  cases m with
  | zero=>omega
  | succ m =>
   rw [List.take_succ_cons,run,run];by_cases h2:s=200
   ·rw [if_pos h2,if_pos h2]
   ·rw [if_neg h2,if_neg h2]
    cases QBX k n ks.length with
    | some c=>rfl
    | none=>exact QIh l m (s+1) (by omega) (by omega)
theorem QMt (f:Fm):run (QBH f 201) 0=chk f 0:=by
 (rw [QDc,QIh _ _ _ (by omega) (by omega)]);have:=QKY f [] 0;rw [List.append_nil] at this;rw [this]
 cases chk f 0 <;> rfl
theorem QMs {l:List Fm} {i:Nat} {k:Int} {n:ByteArray} {ks:List Fm} (h:l[i]? = some (.mk k n ks)) (s:Nat):run (l.drop i) s=if s=200 then .bad 2 0 else match QBX k n ks.length with
  | some c => .bad c s
  | none=>run (l.drop (i+1)) (s+1):=by
 have hi:i < l.length:=by
  rcases Nat.lt_or_ge i l.length with h' | h'
  ·exact h'
  ·rw [List.getElem?_eq_none h'] at h;cases h
 rw [List.drop_eq_getElem_cons hi];rw [List.getElem?_eq_getElem hi] at h;rw [Option.some.inj h,run]
def val (k:Int) (pn:Bool) (l:List Bool):Bool :=
 if k=1 then pn else if k=4 then !(l.getD 0 false) else if k=5 then l.getD 0 false && l.getD 1 false else if k=6 then l.getD 0 false || l.getD 1 false else if k=7 then !(l.getD 0 false) || l.getD 1 false else decide (k=2)
mutual
def tv (p:List UInt8→Bool):Fm→Bool
 | .mk k n ks=>val k (p n.data.toList) (tvs p ks)
def tvs (p:List UInt8→Bool):List Fm→List Bool
 | []=>[]
 | f :: fs=>tv p f :: tvs p fs
end
theorem QDb (p:List UInt8→Bool) (n:ByteArray):tv p (.mk 1 n [])=p n.data.toList:=by rw [tv];rfl
theorem QHf (p:List UInt8→Bool):tv p (.mk 2 ⟨#[]⟩ [])=true:=by rw [tv];rfl
theorem QGC (p:List UInt8→Bool):tv p (.mk 3 ⟨#[]⟩ [])=false:=by rw [tv];rfl
theorem QJu (p:List UInt8→Bool) (f:Fm):tv p (.mk 4 ⟨#[]⟩ [f]) = !tv p f:=by rw [tv,tvs,tvs];rfl
theorem QJt (p:List UInt8→Bool) (f g:Fm):tv p (.mk 5 ⟨#[]⟩ [f,g])=(tv p f && tv p g):=by rw [tv,tvs,tvs,tvs];rfl
theorem QKa (p:List UInt8→Bool) (f g:Fm):tv p (.mk 6 ⟨#[]⟩ [f,g])=(tv p f || tv p g):=by rw [tv,tvs,tvs,tvs];rfl
theorem QHe (p:List UInt8→Bool) (f g:Fm):tv p (.mk 7 ⟨#[]⟩ [f,g])=(!tv p f || tv p g):=by rw [tv,tvs,tvs,tvs];rfl
def isM (k:Int):Bool:=decide (k=8) || decide (k=9)
mutual
def QBP:Fm→Nat→Nat × Bool
 | .mk k _ ks,a=>if isM k then (a,true) else modals ks (a+1)
def modals:List Fm→Nat→Nat × Bool
 | [],a=>(a,false)
 | f :: fs,a=>if (QBP f a).2 then ((QBP f a).1,true) else modals fs (QBP f a).1
end
def QBu:List Fm→Nat→Nat × Bool
 | [],a=>(a,false)
 | f :: fs,a=>if isM f.kind then (a,true) else QBu fs (a+1)
theorem QFA:∀ (l m:List Fm) (a:Nat),QBu (l++m) a=if (QBu l a).2 then QBu l a else QBu m (QBu l a).1
 | [],m,a=>by simp [QBu]
 | f :: fs,m,a=>by
  rw [List.cons_append,QBu,QBu]
  split
  ·simp
  ·exact QFA fs m (a+1)
mutual
theorem QDK:∀ (f:Fm) (a:Nat),QBP f a=QBu (QBx f) a
 | .mk k n ks,a=>by
  rw [QBP,QBx,QBu,modals_idx ks (a+1)];rfl
theorem modals_idx:∀ (fs:List Fm) (a:Nat),modals fs a=QBu (allNs fs) a
 | [],a=>by rw [modals,allNs,QBu]
 | f :: fs,a=>by
  rw [modals,allNs,QFA,QDK f a,modals_idx fs]
  split
  ·rename_i h
   rw [← h]
  ·rfl
end
theorem QKR:∀ (l:List Fm) (a:Nat),a≤(QBu l a).1∧(QBu l a).1≤a+l.length∧((QBu l a).2=false→(QBu l a).1=a+l.length)
 | [],a=>by simp [QBu]
 | f :: fs,a=>by
  rw [QBu];have:=QKR fs (a+1)
  split
  ·simp
  ·simp only [List.length_cons]
   (exact⟨by omega,by omega,fun h=>by have:=this.2.2 h;omega⟩)
theorem QIK (f:Fm) (a:Nat):a≤(QBP f a).1∧(QBP f a).1≤a+f.size:=by
 rw [QDK];have:=QKR (QBx f) a;rw [QDf] at this;exact⟨this.1,this.2.1⟩
def Plain (f:Fm):Prop:=(QBu (QBx f) 0).2=false
theorem QEY:∀ (l:List Fm) (a:Nat),(QBu l a).2=false ↔ ∀ f∈l,isM f.kind=false
 | [],a=>by simp [QBu]
 | f :: fs,a=>by
  rw [QBu]
  split
  ·rename_i h;simp [h]
  ·rename_i h
   rw [QEY fs (a+1)];simp [h]
theorem QGh (f:Fm):Plain f ↔ ∀ g∈QBx f,isM g.kind=false:=QEY _ _
theorem Plain.kind {k:Int} {n:ByteArray} {ks:List Fm} (h:Plain (.mk k n ks)):isM k=false:=by
 rw [QGh] at h;(exact h (.mk k n ks) (by rw [QBx];simp))
theorem QKg {ks:List Fm} {g x:Fm} (h:g∈ks) (hx:x∈QBx g):x∈allNs ks:=by
 induction ks with
 | nil=>cases h
 | cons k ks ih =>
  rw [allNs,List.mem_append]
  rcases List.mem_cons.1 h with rfl|h
  ·exact Or.inl hx
  ·exact Or.inr (ih h)
theorem Plain.kid {k:Int} {n:ByteArray} {ks:List Fm} (h:Plain (.mk k n ks)) {g:Fm} (hg:g∈ks):Plain g:=by
 rw [QGh] at *;intro x hx;(exact h x (by rw [QBx];exact List.mem_cons_of_mem _ (QKg hg hx)))
end Go.Proofs.YtbmedfokpgghiacGreat
