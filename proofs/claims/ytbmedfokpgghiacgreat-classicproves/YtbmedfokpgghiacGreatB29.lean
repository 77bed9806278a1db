import Derived.Test.YtbmedfokpgghiacGreatB25
import Derived.Test.YtbmedfokpgghiacGreatB26
import Derived.Deep.RegionHeld3
import Derived.Test.YtbmedfokpgghiacGreatB21
import Derived.Test.YtbmedfokpgghiacGreatB12
import Derived.Test.YtbmedfokpgghiacGreatB10
import Derived.Deep.DeepCutAuto
import Derived.Test.YtbmedfokpgghiacGreatB09
import Derived.Test.YtbmedfokpgghiacGreatB13
import Derived.Sort.Walk0
import Derived.Deep.AppendSrc
namespace Go.Proofs.YtbmedfokpgghiacGreat
open Go.RowKit
def WaysR (P:Nat→Prop) (w:World) (v:Value) (ps:List PartM):Prop:=∃ ad cap,v = .slice ad (2 * ps.length) cap∧2 * ps.length≤cap∧cap≤maxLen∧(ps≠[]→∃ b,ad=some ⟨b,0,none⟩∧P b∧∀ i,i < 2 * ps.length→∃ s u,w.cell? ⟨b,i * 2,none⟩=some (.string s)∧w.cell? ⟨b,i * 2+1,none⟩=some u∧s.data.toList=(QAP ps i).1∧PRows P w u (QAP ps i).2)
theorem WaysR.move {P P':Nat→Prop} {w w':World} {v:Value} {ps:List PartM} (h:WaysR P w v ps) (hb:∀ b,b < w.heap.size→P b→w'.heap[b]? = w.heap[b]? ∧ P' b):WaysR P' w' v ps:=by
 obtain⟨ad,cap,h1,h2,h3,h4⟩:=h;(refine⟨ad,cap,h1,h2,h3,fun hne => ?_⟩);obtain⟨b,h5,h6,h7⟩:=h4 hne;(have hpos:0 < 2 * ps.length:=by have:=List.length_pos_iff.2 hne;omega);obtain⟨s,u,hs,-⟩:=h7 0 hpos;have hlt:=QAI hs;simp only at hlt;(refine⟨b,h5,(hb b hlt h6).2,fun i hi => ?_⟩);obtain⟨s,u,hs,hu,he,hr⟩:=h7 i hi;exact⟨s,u,(QAQ (a:=⟨b,i * 2,none⟩) (hb b hlt h6).1).trans hs,(QAQ (a:=⟨b,i * 2+1,none⟩) (hb b hlt h6).1).trans hu,he,hr.move hb⟩
structure Fx where
 Ph:Fm→Prop
 K:Nat→Prop
 T:Nat→Prop
 bf:Nat
 bt:Nat
 bw:Nat
 L:Nat
 vW:Value
 ps:List PartM
 fs:List Fm
structure FinSt (x:Fx) (w:World) (M:Nat→Prop) (wh br:List Nat) (wk:Nat) (op:Bool):Prop where
 tab:Tab x.Ph w x.T x.bt x.ps x.fs
 ways:WaysR x.K w x.vW x.ps
 fin:∃ adB cB,w.heap[x.bf]? = some (.cells #[.pointer (some ⟨x.bt,0,none⟩),x.vW,.slice (some ⟨x.bw,0,none⟩) x.L x.L,.slice adB br.length cB,.int .i64 (wk:Nat),.bool op] 92 (0,0))∧w.ownsRow 0 82 1 (.slice adB br.length cB) br.length (br.map fun i => .int .i64 (i:Nat))∧∀ b,(Value.slice adB br.length cB).ownBlock=some b→M b∧b≠x.bf∧b≠x.bw
 whb:w.heap[x.bw]? = some (.cells (wh.map fun x=>(.int .i64 (x:Nat):Value)).toArray 3 (0,0))
 mf:M x.bf
 mw:M x.bw
 ne:x.bf≠x.bw
 tk:∀ b,x.T b→x.K b
 km:∀ b,x.K b→¬ M b∧b < w.heap.size
 old:∀ b,M b→b < w.heap.size
 wlen:wh.length=x.L
 l2:x.L=2 * x.ps.length
 plen:x.ps.length≤100000
theorem QBF {B:Nat} {w w':World} {sz n:Nat} {τ:TypeId} {v:Value} {cs:List Value} (h:w.ownsRow B τ sz v n cs) (hk:∀ b,v.ownBlock=some b→w'.heap[b]? = w.heap[b]?):w'.ownsRow B τ sz v n cs:=by
 obtain⟨g1,g2⟩:=h;refine⟨g1,?_⟩
 rcases g2 with g2|⟨g,cap,cur,hv,hg,hh,r⟩
 ·exact Or.inl g2
 ·exact Or.inr ⟨g,cap,cur,hv,hg,(hk g (by rw [hv];rfl)).trans hh,r⟩
theorem FinSt.next {x:Fx} {w w':World} {M:Nat→Prop} {wh br:List Nat} {wk:Nat} {op:Bool} (h:FinSt x w M wh br wk op) (hb:∀ b,b < w.heap.size→x.K b∨M b→w'.heap[b]? = w.heap[b]?) (hs:w.heap.size≤w'.heap.size):FinSt x w' M wh br wk op:=by
 obtain⟨adB,cB,h1,h2,h3⟩:=h.fin;(exact⟨h.tab.same (fun b ht hl=>hb b hl (Or.inl (h.tk b ht))) hs,h.ways.move fun b hl hp=>⟨hb b hl (Or.inl hp),hp⟩,⟨adB,cB,(hb _ (QAE h1) (Or.inr h.mf)).trans h1,QBF h2 fun b e=>hb b (h.old b (h3 b e).1) (Or.inr (h3 b e).1),h3⟩,(hb _ (QAE h.whb) (Or.inr h.mw)).trans h.whb,h.mf,h.mw,h.ne,h.tk,fun b hk=>⟨(h.km b hk).1,Nat.lt_of_lt_of_le (h.km b hk).2 hs⟩,fun b hm=>Nat.lt_of_lt_of_le (h.old b hm) hs,h.wlen,h.l2,h.plen⟩)
theorem FinSt.up {x:Fx} {w w':World} {M:Nat→Prop} {wh br:List Nat} {wk:Nat} {op:Bool} (h:FinSt x w M wh br wk op) (hb:Below w.heap.size w w'):FinSt x w' M wh br wk op:=h.next (fun b hl _=>hb.block b hl) hb.size
theorem FinSt.wcell {x:Fx} {w:World} {M:Nat→Prop} {wh br:List Nat} {wk:Nat} {op:Bool} (h:FinSt x w M wh br wk op) {i:Nat} (hi:i < x.L):w.cell? ⟨x.bw,i,none⟩=some (.int .i64 ((wh.getD i 0:Nat):Int))∧w.frozen? ⟨x.bw,i,none⟩=false:=by
 refine⟨(QAL h.whb i).trans ?_,QAh h.whb i⟩;(rw [List.getElem?_toArray,List.getElem?_map,List.getD_eq_getElem?_getD,List.getElem?_eq_getElem (by rw [h.wlen];exact hi)]);rfl
theorem QCW {w:World} {b:Nat} {c0 c1 c2 c3 c4 c5:Value} {T:TypeId} (h:w.heap[b]? = some (.cells #[c0,c1,c2,c3,c4,c5] T (0,0))):w.cell? ⟨b,0,none⟩=some c0∧w.cell? ⟨b,1,none⟩=some c1∧w.cell? ⟨b,2,none⟩=some c2∧w.cell? ⟨b,3,none⟩=some c3∧w.cell? ⟨b,4,none⟩=some c4∧w.cell? ⟨b,5,none⟩=some c5 :=
 ⟨QAL h 0,QAL h 1,QAL h 2,QAL h 3,QAL h 4,QAL h 5⟩
theorem QAS {w:World} {b i:Nat} {cs:Array Value} {T:TypeId} (h:w.heap[b]? = some (.cells cs T (0,0))) (v:Value):(w.setCell ⟨b,i,none⟩ v).heap[b]? = some (.cells (cs.setIfInBounds i v) T (0,0)):=by
 simp [World.setCell,Array.getElem?_modify,h]
theorem QAJ {w:World} {b b' i:Nat} (v:Value) (h:b'≠b):(w.setCell ⟨b,i,none⟩ v).heap[b']? = w.heap[b']? := by
 simp [World.setCell,Array.getElem?_modify,Ne.symm h]
theorem QAO (w:World) (a:Addr) (v:Value):(w.setCell a v).heap.size=w.heap.size:=by
 simp [World.setCell]
theorem QAf {w:World} {b i:Nat} {v:Value} {ok:Nat→Prop} (h:∀ c,ok c→c≠b):Kept ok w (w.setCell ⟨b,i,none⟩ v) :=
 ⟨rfl,rfl,rfl,by rw [QAO];exact Nat.le_refl _,fun c _ hc=>QAJ v (h c hc)⟩
theorem FinSt.put {x:Fx} {w:World} {M:Nat→Prop} {wh br:List Nat} {wk:Nat} {op:Bool} (h:FinSt x w M wh br wk op) (i v:Nat):FinSt x (w.setCell ⟨x.bw,i,none⟩ (.int .i64 (v:Nat))) M (wh.set i v) br wk op:=by
 obtain⟨adB,cB,h1,h2,h3⟩:=h.fin;(have k:∀ b,b≠x.bw→(w.setCell ⟨x.bw,i,none⟩ (.int .i64 (v:Nat))).heap[b]? = w.heap[b]? := fun b hb=>QAJ _ hb);(have nm:∀ b,x.K b→b≠x.bw:=fun b hb e=>(h.km b hb).1 (e ▸ h.mw));(refine⟨h.tab.same (fun b hb _=>k b (nm b (h.tk b hb))) (by rw [QAO];exact Nat.le_refl _),h.ways.move fun b _ hp=>⟨k b (nm b hp),hp⟩,⟨adB,cB,?_,QBF h2 fun b e=>k b (h3 b e).2.2,h3⟩,?_,h.mf,h.mw,h.ne,h.tk,fun b hk=>by rw [QAO];exact h.km b hk,fun b hm=>by rw [QAO];exact h.old b hm,by simpa using h.wlen,h.l2,h.plen⟩)
 ·rw [k _ h.ne]
  exact h1
 ·rw [QAS h.whb,List.map_set]
  simp
theorem FinSt.fins {x:Fx} {w w':World} {M M':Nat→Prop} {wh br br':List Nat} {wk wk':Nat} {op op':Bool} (h:FinSt x w M wh br wk op) (hb:∀ b,b < w.heap.size→x.K b∨b=x.bw→w'.heap[b]? = w.heap[b]?) (hs:w.heap.size≤w'.heap.size) {adB:Option Addr} {cB:Nat}
  (h1:w'.heap[x.bf]? = some (.cells #[.pointer (some ⟨x.bt,0,none⟩),x.vW,.slice (some ⟨x.bw,0,none⟩) x.L x.L,.slice adB br'.length cB,.int .i64 (wk':Nat),.bool op'] 92 (0,0))) (h2:w'.ownsRow 0 82 1 (.slice adB br'.length cB) br'.length (br'.map fun i => .int .i64 (i:Nat)))
  (h3:∀ b,(Value.slice adB br'.length cB).ownBlock=some b→M' b∧b≠x.bf∧b≠x.bw) (hm:∀ b,M b→M' b) (hm':∀ b,M' b→M b∨w.heap.size≤b) (ho:∀ b,M' b→b < w'.heap.size):FinSt x w' M' wh br' wk' op' :=
 ⟨h.tab.same (fun b ht hl=>hb b hl (Or.inl (h.tk b ht))) hs,h.ways.move fun b hl hp=>⟨hb b hl (Or.inl hp),hp⟩,⟨adB,cB,h1,h2,h3⟩,(hb _ (QAE h.whb) (Or.inr rfl)).trans h.whb,hm _ h.mf,hm _ h.mw,h.ne,h.tk,fun b hk=>⟨fun hx=>by
  rcases hm' b hx with h4|h4
  ·exact (h.km b hk).1 h4
  ·have:=(h.km b hk).2
   omega,Nat.lt_of_lt_of_le (h.km b hk).2 hs⟩,ho,h.wlen,h.l2,h.plen⟩
open Go.RowKit Go.Sort
structure QFO (fn:Nat) (rc cap:Array Value) (p:Nat→Bool) (D:Nat→Prop) (Ok:World→Prop):Prop where
 up:∀ {w w':World},Ok w→Below w.heap.size w w'→Ok w'
 ent:∀ (v:Value) (w:World),(callFunc fn (rc.push v++cap)).run Tryz.prog w = .ok (.enter fn (rc.push v++cap)) w
 call:∀ (t:Nat) (w:World),Ok w→D t→Calls Tryz.prog fn (rc.push (.int .i64 (t:Nat))++cap) w fun e w'=>e = .returned (.bool (p t))∧Below w.heap.size w w'
def QBU (p:Nat→Bool) (l:List Nat):Int:=if l.any p then (l.findIdx p:Nat) else -1
theorem QGO {p:Nat→Bool} {l:List Nat}:(0≤QBU p l)=(l.any p=true):=by
 unfold QBU
 split
 ·rename_i h;simp [h]
 ·rename_i h;simp [h]
theorem QKv {p:Nat→Bool} {l:List Nat} (h:l.any p=true):∃ x,QBU p l=((l.findIdx p:Nat):Int)∧l[l.findIdx p]? = some x∧p x=true:=by
 obtain⟨y,hy,hp⟩:=List.any_eq_true.1 h;have hlt:l.findIdx p < l.length:=List.findIdx_lt_length.2 ⟨y,hy,hp⟩;(refine⟨l[l.findIdx p],by unfold QBU;rw [if_pos h],List.getElem?_eq_getElem hlt,List.findIdx_getElem⟩)
theorem QEx {p:Nat→Bool} {l:List Nat} {i:Nat} {t:Nat} (h:(l.take i).any p=false) (ht:l[i]? = some t) (hp:p t=true):l.findIdx p=i:=by
 have hi:i < l.length:=by
  rcases Nat.lt_or_ge i l.length with h' | h'
  ·exact h'
  ·rw [List.getElem?_eq_none h'] at ht;cases ht
 rw [List.getElem?_eq_getElem hi] at ht;have e:=Option.some.inj ht;rw [List.findIdx_eq hi];(refine⟨by rw [e];exact hp,fun j hj => ?_⟩);(have:=(List.any_eq_false.1 h) (l[j]'(by omega)) (List.mem_take_iff_getElem.2 ⟨j,by omega,rfl⟩));simpa using this
set_option maxRecDepth 10000 in
set_option maxHeartbeats 2000000 in
theorem QFe {fn:Nat} {rc cp:Array Value} {p:Nat→Bool} {D:Nat→Prop} {Ok:World→Prop} (A:QFO fn rc cp p D Ok) (l:List Nat) (hmx:∀ t∈l,D t) (v:Value) (w:World) (hv:IRow (fun _=>True) w v l) (hok:Ok w) :
  Calls Tryz.prog 94 #[v,.func (.func fn) rc cp] w fun e w'=>e = .returned (.int .i64 (QBU p l))∧Below w.heap.size w w':=by
 obtain⟨ad,cap,rfl,h1,h2,h3⟩:=hv;(have hlI:(l.length:Int)≤9223372036854775807:=by unfold maxLen at h2;omega);have H3:Hid (l≠[]→∃ g off,ad=some ⟨g,off,none⟩∧True∧∀ (j:Nat) (t:Nat),l[j]? = some t→w.cell? ⟨g,off+j,none⟩=some (.int .i64 (t:Nat))):=h3;(have HA:Hid (∀ (t:Nat) (w:World),Ok w→D t→Calls Tryz.prog fn (rc.push (.int .i64 (t:Nat))++cp) w fun e w'=>e = .returned (.bool (p t))∧Below w.heap.size w w'):=A.call);have HU:Hid (∀ {w w':World},Ok w→Below w.heap.size w w'→Ok w'):=A.up;have HMx:Hid (∀ t∈l,D t):=hmx;have HO:Hid (Ok w):=hok;have hcf:=A.ent;clear h3 hmx hok A
 go_enter Tryz.func94,Tryz.ntmps94
 go_wp2_with fail
 go_loopg [8] l.length (fun g c wr=>∃ i,i≤l.length∧g=l.length - i∧c = .int .i64 (i:Nat)∧Below w.heap.size w wr∧Hid ((l.take i).any p=false))
 case atStart=>exact⟨0,by omega,by omega,rfl,Below.refl _ _,by show _=_;rfl⟩
 case round =>
  obtain⟨i,hi,hg,rfl,hbr,HN⟩:=hrel;have HG:Hid (gk=l.length - i):=hg;clear hg;by_cases hlt:i < l.length
  ·obtain⟨t,ht⟩:∃ x,l[i]? = some x:=⟨_,List.getElem?_eq_getElem hlt⟩
   (obtain⟨g,off,rfl,-,hc⟩:=H3.out (fun e=>by rw [e] at hlt;simp at hlt));have g0:=(hbr.cell (p:=⟨g,off+i,none⟩) (QAI (hc i t ht))).trans (hc i t ht);(have hltI:(i:Int) < (l.length:Int):=by omega);(have hlc:(i:Int) < (cap:Int):=by omega);have hcc:=HA.out t wr (HU.out HO.out hbr) (HMx.out t (List.mem_of_getElem? ht))
   have HXi:Hid (p t=true→QBU p l=((i:Nat):Int)):=fun hp=>by
    unfold QBU;rw [if_pos (List.any_eq_true.2 ⟨t,List.mem_of_getElem? ht,hp⟩),QEx HN.out ht hp]
   have HXn:Hid (p t=false→(l.take (i+1)).any p=false):=fun hp=>by
    rw [List.take_add_one,ht,List.any_append,HN.out];simp [hp]
   generalize p t=bb at *;have HCC:Hid (Calls Tryz.prog fn _ wr _):=hcc;clear hc ht H3 hcc;go_wp2_with fail;refine HCC.out.mono ?_;rintro e w1 ⟨rfl,hb1⟩;have B1:=QAC hbr hb1
   cases bb
   ·have HX:=HXn.out (by first|rfl|trivial)
    have HX':Hid ((l.take (i+1)).any p=false):=HX;clear HX HXn HXi;go_wp2_with fail
    go_roundg (l.length - (i+1))
    case measure=>have:=HG.out;omega
    case rel=>exact⟨i+1,by omega,rfl,by go_num,B1,HX'⟩
   ·have HX:=HXi.out (by first|rfl|trivial)
    have HX':Hid (QBU p l=((i:Nat):Int)):=HX;clear HX HXn HXi;go_wp2_with fail;go_ret;(exact⟨by rw [HX'.out];rfl,B1⟩)
  ·have HT:Hid (QBU p l = -1):=by
    have:=HN.out;(rw [List.take_of_length_le (by omega)] at this);show _=_;unfold QBU;rw [this];rfl
   (have hge:¬ (i:Int) < (l.length:Int):=by omega);clear H3 HN;go_wp2_with fail;go_ret;(exact⟨by rw [HT.out];rfl,hbr⟩)
set_option maxHeartbeats 1000000 in
theorem QEH {fn:Nat} {rc cp:Array Value} {p:Nat→Bool} {D:Nat→Prop} {Ok:World→Prop} (A:QFO fn rc cp p D Ok) (l:List Nat) (hmx:∀ t∈l,D t) (v:Value) (w:World) (hv:IRow (fun _=>True) w v l) (hok:Ok w) :
  Calls Tryz.prog 173 #[v,.func (.func fn) rc cp] w fun e w'=>e = .returned (.bool (l.any p))∧Below w.heap.size w w':=by
 have hcall:=QFe A l hmx v w hv hok;(have HX:Hid ((l.any p=true→0≤QBU p l)∧(l.any p=false→QBU p l = -1)):=⟨fun h=>by rw [QGO];exact h,fun h=>by unfold QBU;rw [h];rfl⟩);generalize QBU p l=r at *;clear hmx hok hv A
 cases hb:l.any p
 ·have e:=HX.out.2 hb
  subst e;clear HX hb
  go_enter Tryz.func173,Tryz.ntmps173
  go_wp2_with fail;refine hcall.mono ?_;rintro e w1 ⟨rfl,hb1⟩;go_wp2_with fail;go_ret;exact⟨rfl,hb1⟩
 ·have e:=HX.out.1 hb
  clear HX hb
  go_enter Tryz.func173,Tryz.ntmps173
  go_wp2_with fail;refine hcall.mono ?_;rintro e w1 ⟨rfl,hb1⟩;go_wp2_with fail;go_ret;(exact⟨by simp,hb1⟩)
theorem QLU (k a c d:Int) (n:ByteArray) (w:World):(Instr.field 158 (.agg #[.int .i64 k,.string n,.int .i64 a,.int .i64 c,.int .i64 d]) 0).run Tryz.prog w = .ok (.int .i64 k) w:=by kernel_rfl
theorem QKf {i N:Nat} (h:i < 2 * N):QBc i < 2 * N:=by
 unfold QBc itR;have:=Nat.mod_two_eq_zero_or_one i
 split
 ·omega
 ·rename_i h0
  simp at h0;omega
set_option maxRecDepth 10000 in
set_option maxHeartbeats 4000000 in
theorem QDd {x:Fx} {w:World} {M:Nat→Prop} {wh br:List Nat} {wk:Nat} {op:Bool} (h:FinSt x w M wh br wk op) (i:Nat) (hi:i < x.L) :
  Calls Tryz.prog 137 #[.pointer (some ⟨x.bf,0,none⟩),.int .i64 (i:Nat)] w fun e w'=>∃ s,e = .returned (.string s)∧s.data.toList=QBO x.ps wh i∧s.size≤5∧Below w.heap.size w w':=by
 obtain⟨Ph,K,T,bf,bt,bw,L,vW,ps,fs⟩:=x;have hwl:=h.l2;have hpl:=h.plen;simp only at hwl hpl hi ⊢;(have hi3:i≤3000000:=by omega);(obtain⟨⟨k,n,ks⟩,hp⟩:∃ p,ps[i / 2]? = some p:=⟨_,List.getElem?_eq_getElem (by omega)⟩);obtain⟨adB,cB,hfin,-,-⟩:=h.fin;(have hx:QBc i < L:=by rw [hwl];exact QKf (by omega));have HF:Hid (w.heap[bf]? = some (.cells #[.pointer (some ⟨bt,0,none⟩),vW,.slice (some ⟨bw,0,none⟩) L L,.slice adB br.length cB,.int .i64 (wk:Nat),.bool op] 92 (0,0))):=hfin
 have HC:Hid (QBO ps wh i=if k=2∧itR i=true then Ru.tr.text else if k=3∧itR i=false then Ru.fa.text else if wh.getD (QBc i) 0=1 then Ru.ax.text else []):=by
  show _=_;unfold QBO;rw [hp];rfl
 rw [HC.out];(have HT:Hid (∀ W,Below w.heap.size w W→Calls Tryz.prog 99 #[.pointer (some ⟨bt,0,none⟩),.int .i64 ((i / 2:Nat):Int)] W fun e w'=>e = .returned (.agg #[.int .i64 k,.string n,.int .i64 (ks.length:Nat),.int .i64 ((PartM.mk k n ks).k0:Nat),.int .i64 ((PartM.mk k n ks).k1:Nat)])∧Below W.heap.size W w'):=fun W hb=>QEs W T bt ps _ (h.tab.up hb).tab (i / 2) _ hp);(have HW:Hid (∀ W,Below w.heap.size w W→W.cell? ⟨bw,QBc i,none⟩=some (.int .i64 ((wh.getD (QBc i) 0:Nat):Int))):=fun W hb=>((h.up hb).wcell hx).1);(have HP:Hid (∀ W,Calls Tryz.prog 100 #[.int .i64 (i:Nat)] W _):=fun W=>QCn i hi3 W);(have HR:Hid (∀ W,Calls Tryz.prog 101 #[.int .i64 (i:Nat)] W _):=fun W=>QDX i hi3 W);(have HA:Hid (∀ W,Calls Tryz.prog 170 #[.int .i64 (i:Nat)] W _):=fun W=>QHj i hi3 W);have hpk:=QLU;generalize (PartM.mk k n ks).k0=a0 at *;generalize (PartM.mk k n ks).k1=a1 at *;(have hxI:((QBc i:Nat):Int) < (L:Int):=by omega);(have hx0:(0:Int)≤((QBc i:Nat):Int):=by omega);(have hwI:(L:Int)≤200000:=by omega);generalize itR i=rt at *;generalize QBc i=ax at *;generalize wh.getD ax 0=u at *;clear hp hwl hpl hi hx HC hfin h;obtain⟨q0,q1,q2,-⟩:=QCW HF.out
 have main:(k=2∧rt=true)∨(k=3∧rt=false)∨(k=2∧rt=false)∨(k=3∧rt=true)∨(¬ k=2∧¬ k=3):=by
  rcases Classical.em (k=2) with h2|h2
  ·cases rt
   ·exact Or.inr (Or.inr (Or.inl ⟨h2,rfl⟩))
   ·exact Or.inl ⟨h2,rfl⟩
  ·rcases Classical.em (k=3) with h3|h3
   ·cases rt
    ·exact Or.inr (Or.inl ⟨h3,rfl⟩)
    ·exact Or.inr (Or.inr (Or.inr (Or.inl ⟨h3,rfl⟩)))
   ·exact Or.inr (Or.inr (Or.inr (Or.inr ⟨h2,h3⟩)))
 rcases main with ⟨rfl,rfl⟩|⟨rfl,rfl⟩|⟨rfl,rfl⟩|⟨rfl,rfl⟩|⟨h2,h3⟩
 all_goals
  go_enter Tryz.func137,Tryz.ntmps137
  go_wp2_with fail
  go_region_held3 (fun w'=>w'.cell? ⟨bf,0,none⟩=some (.pointer (some ⟨bt,0,none⟩))) (go_keep)
   (
    first
    | (
     go_at_call 100
     refine (HP.out _).mono ?_;rintro e w1 ⟨rfl,hw1⟩
     subst hw1)
    | (
     go_at_call 99
     refine (HT.out _ (Below.refl _ _).drew).mono ?_;rintro e w2 ⟨rfl,hb2⟩;have HB2:Hid (Below w.heap.size w w2):=QAC (Below.refl _ w).drew hb2;obtain⟨i0,i1,i2,-⟩:=QCW (QAA HB2.out HF.out)
     clear hb2)
    | fail)
  go_wp2_with (first
   | (
     go_at_call 101
     refine (HR.out _).mono ?_;rintro e w3 ⟨rfl,hw3⟩
     subst hw3)
   | fail)
 ·go_ret
  (exact⟨_,rfl,rfl,by decide,HB2.out⟩)
 ·go_ret
  (exact⟨_,rfl,rfl,by decide,HB2.out⟩)
 all_goals
  have c0:=HW.out _ HB2.out;have HU:Hid (u=1∨¬ u=1):=Classical.em _
  go_region_held3 (fun w'=>w'.cell? ⟨bf,2,none⟩=some (.slice (some ⟨bw,0,none⟩) L L)∧w'.cell? ⟨bw,ax,none⟩=some (.int .i64 (u:Nat))) (go_keep)
   (
    first
    | (
     go_at_call 170
     refine (HA.out _).mono ?_;rintro e w3 ⟨rfl,hw3⟩
     subst hw3)
    | fail)
 all_goals
  rcases HU.out with hu|hu
  ·subst hu
   clear HU;go_wp2_with fail;go_ret;(refine⟨_,rfl,?_,by decide,by first|exact HB2.out.drew|exact HB2.out⟩);simp [*]
   try rfl
  ·have huI:¬ (u:Int)=1:=by omega
   clear HU;go_wp2_with fail;go_ret;(refine⟨_,rfl,?_,by decide,by first|exact HB2.out.drew|exact HB2.out⟩);simp [*]
theorem QKd {P:Nat→Prop} {o:Oper} {a:Act} {w:World} {K:Act→World→Prop} {Q:Exit→Act→World→Prop} (s x:Operand) (hop:o.op=Op.call { callee:=Callee.builtin Builtin.append,args:=#[s,x],argTypes:=#[78,78] })
  (B:Nat) (is js:List Nat) (ad:Option Addr) (cp:Nat) (vx:Value) (hs:a.eval s = .slice ad is.length cp) (hown:w.ownsRow B 82 1 (.slice ad is.length cp) is.length (is.map fun i=>(.int .i64 (i:Nat):Value))) (hx:a.eval x=vx) (hg:IRow P w vx js) (hB:B≤w.heap.size) (hl:is.length+js.length≤10000000)
  (h:∀ ad3 cp3 w3,w3.ownsRow B 82 1 (.slice ad3 (is++js).length cp3) (is++js).length ((is++js).map fun i=>(.int .i64 (i:Nat):Value))→Kept (fun b=>(Value.slice ad is.length cp).ownBlock≠some b) w w3→(∀ b,(Value.slice ad3 (is++js).length cp3).ownBlock=some b→(Value.slice ad is.length cp).ownBlock=some b∨(w.heap.size≤b∧b < w3.heap.size))→K (a.put o.dst (.slice ad3 (is++js).length cp3)) w3):Oper.wp Tryz.prog o a w K Q:=by
 obtain⟨i0,hi,hz0,hz1,hz2⟩:=QEX;by_cases hne:js=[]
 ·subst hne
  obtain⟨x0,c,rfl,-⟩:=hg
  have hsrc:Src Tryz.prog i0.size 78 (.slice x0 0 c) 0 [] w:=by
   cases x0 with
   | none=>exact Src.ofNil w Tryz.underlying78 c
   | some ad=>exact Src.ofSlice w Tryz.underlying78 ad 0 c [] (by simp) (fun j u h=>by simp at h) (fun u h=>by cases h)
  have hrun:=run_append_nothing (P:=Tryz.prog) w 78 78 o.type 82 i0 Tryz.underlying78 hi ad is.length cp (QAt hown).1 (.slice x0 0 c) hsrc;have hx':a.eval x = .slice x0 0 c:=hx;(have h9:=h ad cp w (by rw [List.append_nil];exact hown) (Kept.refl _ _) (fun b hb=>Or.inl (by rw [List.append_nil] at hb;exact hb)));rw [List.append_nil] at h9;unfold Oper.wp;simp [execOp,hop,resolve,invoke,builtin,hs,hx',hrun,Result.andThen];exact h9
 ·obtain⟨x0,c,rfl,-,-,hcs⟩:=hg
  obtain⟨bs,offs,rfl,-,hc⟩:=hcs hne;have hpos:0 < js.length:=List.length_pos_iff.2 hne
  refine wp_append_lies w s x 78 hop B 82 i0 (.int .i64 0) 1 8 Tryz.underlying78 hi hz0 hz1 hz2 rfl (by decide) _ _ _ hs hown ⟨bs,offs,none⟩ js.length c (js.map fun i=>(.int .i64 (i:Nat):Value)) hx (by simp) (fun j u hu=>by
   rw [QAZ];rw [List.getElem?_map] at hu;obtain⟨y,hy,rfl⟩:=Option.map_eq_some_iff.1 hu
   exact hc j y hy) (fun u hu=>by
    obtain⟨y,-,rfl⟩:=List.mem_map.1 hu
    rfl) hpos (by unfold maxLen;omega) (by omega) hB _ rfl ?_
  intro g3 cp3 w3 hown3 hgrow hat hlt3;have e:is.length+js.length=(is++js).length:=List.length_append.symm;rw [e,← List.map_append] at hown3;rw [e]
  exact h _ _ w3 hown3 ⟨hgrow.os,hgrow.tape,hgrow.output,hgrow.size,fun b hb hn=>hgrow.block b hb fun e=>hn e.symm⟩ fun b hb=>by
   (have eb:g3=b:=by simpa [Value.ownBlock] using hb);subst eb
   rcases hat with h1|h1
   ·exact Or.inl h1
   ·exact Or.inr ⟨by omega,hlt3⟩
theorem QDt {P:Nat→Prop} {ops:Array Oper} {rest:List Oper} {o:Oper} {a:Act} {w:World} {Q:Exit→Act→World→Prop} (hgd:o.guard=none) (s x:Operand) (hop:o.op=Op.call { callee:=Callee.builtin Builtin.append,args:=#[s,x],argTypes:=#[78,78] })
  (B:Nat) (is js:List Nat) (ad:Option Addr) (cp:Nat) (vx:Value) (hs:a.eval s = .slice ad is.length cp) (hown:w.ownsRow B 82 1 (.slice ad is.length cp) is.length (is.map fun i=>(.int .i64 (i:Nat):Value))) (hx:a.eval x=vx) (hg:IRow P w vx js) (hB:B≤w.heap.size) (hl:is.length+js.length≤10000000)
  (h:∀ ad3 cp3 w3,w3.ownsRow B 82 1 (.slice ad3 (is++js).length cp3) (is++js).length ((is++js).map fun i=>(.int .i64 (i:Nat):Value))→Kept (fun b=>(Value.slice ad is.length cp).ownBlock≠some b) w w3→(∀ b,(Value.slice ad3 (is++js).length cp3).ownBlock=some b→(Value.slice ad is.length cp).ownBlock=some b∨(w.heap.size≤b∧b < w3.heap.size))→wpList Tryz.prog ops Q rest (a.put o.dst (.slice ad3 (is++js).length cp3)) w3):wpList Tryz.prog ops Q (o :: rest) a w :=
 wpList_plain hgd fun _ hK=>QKd s x hop B is js ad cp vx hs hown hx hg hB hl fun ad3 cp3 w3 h1 h2 h3=>hK _ _ (h ad3 cp3 w3 h1 h2 h3)
theorem IRow.some' {P:Nat→Prop} {w:World} {ad:Option Addr} {cap:Nat} {its:List Nat} (h:IRow P w (.slice ad its.length cap) its) {j t:Nat} (hj:its[j]? = some t):∃ b off,ad=some ⟨b,off,none⟩∧P b∧w.cell? ⟨b,off+j,none⟩=some (.int .i64 (t:Nat)):=by
 obtain⟨ad',cap',e,-,-,h4⟩:=h;simp only [Value.slice.injEq,true_and] at e;obtain⟨rfl,rfl⟩:=e;(obtain⟨b,off,h5,h6,h7⟩:=h4 (fun e=>by rw [e] at hj;simp at hj));exact⟨b,off,h5,h6,h7 j t hj⟩
theorem QCt {B:Nat} {w:World} {P:Nat→Prop} {ad:Option Addr} {cp:Nat} {is:List Nat} (h:w.ownsRow B 82 1 (.slice ad is.length cp) is.length (is.map fun i=>(.int .i64 (i:Nat):Value))) (hp:∀ b,(Value.slice ad is.length cp).ownBlock=some b→P b):IRow P w (.slice ad is.length cp) is:=by
 (refine⟨ad,cp,rfl,(QAt h).1,(QAt h).2,fun hne => ?_⟩);obtain⟨g,rfl,hg⟩:=QBZ h (List.length_pos_iff.2 hne);(refine⟨g,0,rfl,hp g rfl,fun j t hj => ?_⟩);(have:=hg j (.int .i64 (t:Nat)) (by rw [List.getElem?_map,hj];rfl));rw [QAZ] at this;exact this
set_option maxRecDepth 10000 in
set_option maxHeartbeats 4000000 in
theorem QHz {x:Fx} {w:World} {M:Nat→Prop} {wh br:List Nat} {wk:Nat} {op:Bool} (h:FinSt x w M wh br wk op) (items:List Nat) (v:Value) (hv:IRow (fun b=>¬ M b) w v items) (hb:∀ i∈items,i < x.L) (hl:items.length≤400000) (hbl:br.length≤400000) :
  Calls Tryz.prog 50 #[.pointer (some ⟨x.bf,0,none⟩),v] w fun e w'=>∃ M' v',e = .returned v'∧FinSt x w' M' (inF wh items).1 (br++(inF wh items).2) wk op∧IRow (fun b=>w.heap.size≤b∧¬ M' b) w' v' (inF wh items).2∧(∀ b,M' b→M b∨w.heap.size≤b)∧(∀ b,M b→M' b)∧Kept (fun b=>¬ M b) w w':=by
 have hv':=hv;obtain⟨ad,cap,rfl,hc1,hc2,-⟩:=hv';obtain⟨Ph,K,T,bf,bt,bw,L,vW,ps,fs⟩:=x;(have HV:Hid (IRow (fun b=>¬ M b) w (.slice ad items.length cap) items):=hv);have HB:Hid (∀ i∈items,i < L):=hb;have HS:Hid (FinSt ⟨Ph,K,T,bf,bt,bw,L,vW,ps,fs⟩ w M wh br wk op):=h;(have hlI:(items.length:Int)≤400000:=by omega);(have hlc:(items.length:Int)≤(cap:Int):=by omega);have hL2:=h.l2;have hpl:=h.plen;simp only at hL2 hpl;(have HLI:Hid ((L:Int)≤200000):=by show (L:Int)≤200000;omega);have HLn:Hid (items.length≤400000):=hl;have HBn:Hid (br.length≤400000):=hbl;clear hv hb h hL2 hpl hc1 hc2 hl hbl
 go_enter Tryz.func50,Tryz.ntmps50
 go_wp2_with fail
 go_loopg [10,5] items.length (fun g c s wr=>∃ i adF cF wh' fr,i≤items.length∧g=items.length - i∧c = .int .i64 (i:Nat)∧s = .slice adF fr.length cF∧Hid ((wh',fr)=inF wh (items.take i))∧Hid (FinSt ⟨Ph,K,T,bf,bt,bw,L,vW,ps,fs⟩ wr M wh' br wk op)∧Hid (wr.ownsRow w.heap.size 82 1 (.slice adF fr.length cF) fr.length (fr.map fun i=>(.int .i64 (i:Nat):Value)))∧Hid (Kept (fun b=>¬ M b) w wr)∧Hid (fr.length≤i))
 case atStart=>exact⟨0,none,0,wh,[],by omega,by omega,rfl,rfl,by show _=_;rfl,HS,⟨rfl,Or.inl ⟨rfl,rfl⟩⟩,Kept.refl _ _,Nat.le_refl _⟩
 case round =>
  obtain⟨i,adF,cF,wh',fr,hi,hg,rfl,rfl,HE,HF,HO,HK,HFl⟩:=hrel;have HG:Hid (gk=items.length - i):=hg;clear hg;by_cases hlt:i < items.length
  ·obtain⟨t,ht⟩:∃ t,items[i]? = some t:=⟨_,List.getElem?_eq_getElem hlt⟩
   obtain⟨b,off,rfl,hPb,hcell⟩:=HV.out.some' ht;have g0:=(QAQ (a:=⟨b,off+i,none⟩) (HK.out.block b (QAI hcell) hPb)).trans hcell;have htL:t < L:=HB.out t (List.mem_of_getElem? ht);obtain⟨adB,cB,hfin,-,-⟩:=HF.out.fin;obtain⟨q0,q1,q2,-⟩:=QCW hfin;obtain⟨w0,w1⟩:=HF.out.wcell (i:=t) htL;simp only at w0 w1 q0 q1 q2;(have hltI:(i:Int) < (items.length:Int):=by omega);(have hltc:(i:Int) < (cap:Int):=by omega);(have htI:(t:Int) < (L:Int):=by omega);have hLI:=HLI.out
   have HTk:Hid (items.take (i+1)=items.take i++[t]):=by
    show _=_;rw [List.take_add_one,ht];rfl
   have HPs:Hid (inF wh (items.take (i+1))=QCr (wh',fr) t):=by
    show _=_;rw [HTk.out,QIE,← HE.out]
   have HU:Hid (wh'.getD t 0=wh'.getD t 0):=rfl;generalize hu:wh'.getD t 0=u at w0;have HUe:Hid (wh'.getD t 0=u):=hu;clear hcell hPb hfin ht hu HU;by_cases hz:u=0
   ·subst hz
    have HPz:Hid (inF wh (items.take (i+1))=(wh'.set t 1,fr++[t])):=by
     show _=_;rw [HPs.out,QCr,if_pos HUe.out]
    clear HPs
    have hown1:=QBF (w':=wr.setCell ⟨bw,t,none⟩ (.int .i64 1)) HO.out fun c hc=>QAJ _ (fun e=>by
     have h1:=(HO.out.lt c hc).1;have h2:=HS.out.old bw HS.out.mw
     omega)
    have hown2:=QAz hown1 (show Below (wr.setCell ⟨bw,t,none⟩ (.int .i64 1)).heap.size _ _ from (Below.refl _ (wr.setCell ⟨bw,t,none⟩ (.int .i64 1))).alloc (Nat.le_refl _) (.cells #[.int .i64 (t:Nat)] 82 (0,0)))
    have hrow:IRow (fun _=>True) ((wr.setCell ⟨bw,t,none⟩ (.int .i64 1)).alloc (.cells #[.int .i64 (t:Nat)] 82 (0,0))) (.slice (some ⟨wr.heap.size,0,none⟩) 1 1) [t]:=IRow.one trivial (by
     have:=QAH (wr.setCell ⟨bw,t,none⟩ (.int .i64 1)) (.cells #[.int .i64 (t:Nat)] 82 (0,0))
     rwa [QAO] at this)
    (have HRw:Hid (IRow (fun _=>True) ((wr.setCell ⟨bw,t,none⟩ (.int .i64 1)).alloc (.cells #[.int .i64 (t:Nat)] 82 (0,0))) (.slice (some ⟨wr.heap.size,0,none⟩) 1 1) [t]):=hrow);(have HO2:Hid (((wr.setCell ⟨bw,t,none⟩ (.int .i64 1)).alloc (.cells #[.int .i64 (t:Nat)] 82 (0,0))).ownsRow w.heap.size 82 1 (.slice adF fr.length cF) fr.length (fr.map fun i=>(.int .i64 (i:Nat):Value))):=hown2);clear hrow hown1 hown2
    go_wp2_with (first
     | (
       at_builtin
       go_loud (refine QDt rfl _ _ rfl w.heap.size fr [t] adF cF _ rfl HO2.out rfl HRw.out ?_ ?_ ?_)
       ·have:=HK.out.size
        rw [World.size_alloc,QAO];omega
       ·have h1:=HFl.out
        have h2:=HLn.out
        simp
        omega
       intro ad3 cp3 w3 hown3 hk3 hat3;(have HO3:Hid (w3.ownsRow w.heap.size 82 1 (.slice ad3 (fr++[t]).length cp3) (fr++[t]).length ((fr++[t]).map fun i=>(.int .i64 (i:Nat):Value))):=hown3);(have HK3:Hid (Kept (fun b=>(Value.slice adF fr.length cF).ownBlock≠some b) _ w3):=hk3)
       clear hown3 hk3 hat3)
     | fail)
    have HS3:Hid (FinSt ⟨Ph,K,T,bf,bt,bw,L,vW,ps,fs⟩ w3 M (wh'.set t 1) br wk op):=by
     (refine (HF.out.put t 1).next (fun c hc hKM => ?_) ?_)
     ·have hc':c < wr.heap.size:=by simpa [QAO] using hc
      have hk:=HK3.out.block c (by rw [World.size_alloc,QAO];omega) (fun e=>by
       have h1:=(HO.out.lt c e).1
       rcases hKM with h2|h2
       ·have:=(HS.out.km c h2).2
        omega
       ·have:=HS.out.old c h2
        omega)
      exact hk.trans (Below.heap_alloc _ _ _ hc)
     ·have:=HK3.out.size
      rw [World.size_alloc] at this;exact Nat.le_of_succ_le this
    have HK4:Hid (Kept (fun b=>¬ M b) w w3):=by
     (refine QAM (QAM HK.out (QAf (b:=bw) (i:=t) (v := .int .i64 1) (ok:=fun c=>c≠bw) fun c hc=>hc) fun c _ hm e=>hm (e ▸ HS.out.mw)) (ok':=fun c=>(Value.slice adF fr.length cF).ownBlock≠some c) ?_ fun c hc _ e => ?_)
     ·have hk:=HK3.out
      (refine⟨hk.os,hk.tape,hk.output,?_,fun c hc hn=>(hk.block c (by rw [World.size_alloc];omega) hn).trans (Below.heap_alloc _ _ _ hc)⟩);have:=hk.size;rw [World.size_alloc] at this;exact Nat.le_of_succ_le this
     ·have:=(HO.out.lt c e).1
      omega
    go_roundg (items.length - (i+1))
    case measure=>have:=HG.out;omega
    case rel =>
     (refine⟨i+1,ad3,cp3,wh'.set t 1,fr++[t],by omega,rfl,by go_num,by simp,HPz.out.symm,HS3,HO3,HK4,?_⟩);have:=HFl.out;show _≤_
     simp
     omega
   ·have HPz:Hid (inF wh (items.take (i+1))=(wh',fr)):=by
     show _=_;(rw [HPs.out,QCr,if_neg (by rw [HUe.out];exact hz)])
    clear HPs;(have hzI:¬ (u:Int)=0:=by omega);go_wp2_with fail
    go_roundg (items.length - (i+1))
    case measure=>have:=HG.out;omega
    case rel =>
     (refine⟨i+1,adF,cF,wh',fr,by omega,rfl,by go_num,rfl,HPz.out.symm,HF,HO,HK,?_⟩);have:=HFl.out;show _≤_;omega
  ·have hge:¬ (i:Int) < (items.length:Int):=by omega
   (have hie:i=items.length:=by omega);subst hie;rw [List.take_length] at HE;obtain⟨adB,cB,hfin,hob,hmb⟩:=HF.out.fin;obtain⟨q0,q1,q2,q3,q4,q5⟩:=QCW hfin;(have HOB:Hid (wr.ownsRow 0 82 1 (.slice adB br.length cB) br.length (br.map fun i => .int .i64 (i:Nat))):=hob);have HMB:Hid (∀ b,(Value.slice adB br.length cB).ownBlock=some b→M b∧b≠bf∧b≠bw):=hmb;have HFi:Hid (wr.heap[bf]? = some (.cells #[.pointer (some ⟨bt,0,none⟩),vW,.slice (some ⟨bw,0,none⟩) L L,.slice adB br.length cB,.int .i64 (wk:Nat),.bool op] 92 (0,0))):=hfin;(have HIF:Hid (IRow (fun b=>w.heap.size≤b) wr (.slice adF fr.length cF) fr):=QCt HO.out fun b e=>(HO.out.lt b e).1);simp only at q0 q1 q2 q3 q4 q5;clear hfin hob hmb HV
   go_wp2_with (first
    | (
      at_builtin
      refine QDt rfl _ _ rfl 0 br fr adB cB _ rfl HOB.out rfl HIF.out (Nat.zero_le _) ?_ ?_
      ·have h1:=HFl.out
       have h2:=HLn.out;have h3:=HBn.out;omega
      intro ad3 cp3 w3 hown3 hk3 hat3;(have HO3:Hid (w3.ownsRow 0 82 1 (.slice ad3 (br++fr).length cp3) (br++fr).length ((br++fr).map fun i=>(.int .i64 (i:Nat):Value))):=hown3);(have HK3:Hid (Kept (fun b=>(Value.slice adB br.length cB).ownBlock≠some b) wr w3):=hk3);have HA3:Hid (∀ b,(Value.slice ad3 (br++fr).length cp3).ownBlock=some b→(Value.slice adB br.length cB).ownBlock=some b∨(wr.heap.size≤b∧b < w3.heap.size)):=hat3;(have HF3:Hid (w3.heap[bf]? = _):=(HK3.out.block bf (QAE HFi.out) (fun e=>(HMB.out bf e).2.1 rfl)).trans HFi.out);obtain⟨r0,r1,r2,r3,r4,r5⟩:=QCW HF3.out;have r6:=QAh HF3.out 3
      clear hown3 hk3 hat3)
    | fail)
   go_ret;rw [← HE.out];simp only
   have hS3:FinSt ⟨Ph,K,T,bf,bt,bw,L,vW,ps,fs⟩ (w3.setCell ⟨bf,3,none⟩ (.slice ad3 (br++fr).length cp3)) (fun b=>M b∨(Value.slice ad3 (br++fr).length cp3).ownBlock=some b) wh' (br++fr) wk op:=by
    have own3:∀ b,(Value.slice ad3 (br++fr).length cp3).ownBlock=some b→b≠bf∧b≠bw:=fun b e=>by
     rcases HA3.out b e with h1|h1
     ·exact (HMB.out b h1).2
     ·have h2:=HF.out.old bf HF.out.mf
      have h3:=HF.out.old bw HF.out.mw;(exact⟨fun e=>by subst e;exact absurd h2 (Nat.not_lt.2 h1.1),fun e=>by subst e;exact absurd h3 (Nat.not_lt.2 h1.1)⟩)
    (refine HF.out.fins (adB:=ad3) (cB:=cp3) (fun b hb hKb => ?_) ?_ ?_ ?_ (fun b e=>⟨Or.inr e,own3 b e⟩) (fun b h=>Or.inl h) (fun b h => ?_) (fun b h => ?_))
    ·have hbf:b≠bf:=by
      rcases hKb with h1|h1
      ·exact fun e=>(HF.out.km b h1).1 (e ▸ HF.out.mf)
      ·exact fun e=>HF.out.ne (e.symm.trans h1)
     (refine (QAJ _ hbf).trans (HK3.out.block b hb fun e => ?_))
     rcases hKb with h1|h1
     ·exact (HF.out.km b h1).1 (HMB.out b e).1
     ·exact (HMB.out b e).2.2 h1
    ·rw [QAO]
     exact HK3.out.size
    ·rw [QAS HF3.out]
     rfl
    ·exact QBF HO3.out fun b e=>QAJ _ (own3 b e).1
    ·rcases h with h|h
     ·exact Or.inl h
     ·rcases HA3.out b h with h1|h1
      ·exact Or.inl (HMB.out b h1).1
      ·exact Or.inr h1.1
    ·rw [QAO]
     rcases h with h|h
     ·exact Nat.lt_of_lt_of_le (HF.out.old b h) HK3.out.size
     ·rcases HA3.out b h with h1|h1
      ·exact Nat.lt_of_lt_of_le (HF.out.old b (HMB.out b h1).1) HK3.out.size
      ·exact h1.2
   (refine⟨fun b=>M b∨(Value.slice ad3 (br++fr).length cp3).ownBlock=some b,_,rfl,by first|exact hS3 | (rw [List.length_append] at hS3 ⊢;exact hS3),?_,?_,fun b h=>Or.inl h,?_⟩)
   ·refine HIF.out.move fun b hb hp => ?_
    have hnM:¬ M b:=fun hm=>by
     have:=HS.out.old b hm;omega
    (have hb1:b≠bf:=fun e=>hnM (e ▸ HS.out.mf));(refine⟨(QAJ _ hb1).trans (HK3.out.block b hb fun e=>hnM (HMB.out b e).1),hp,fun hm => ?_⟩)
    rcases hm with hm|hm
    ·exact hnM hm
    ·rcases HA3.out b hm with h1|h1
     ·exact hnM (HMB.out b h1).1
     ·omega
   ·intro b hm
    rcases hm with hm|hm
    ·exact Or.inl hm
    ·rcases HA3.out b hm with h1|h1
     ·exact Or.inl (HMB.out b h1).1
     ·exact Or.inr (Nat.le_trans HK.out.size h1.1)
   ·refine QAM (QAM HK.out HK3.out fun b _ hm e=>hm (HMB.out b e).1) (ok':=fun c=>c≠bf) (QAf fun c hc=>hc) fun b _ hm e=>hm (e ▸ HS.out.mf)
theorem QKq (args:Array Value) (w:World):(callFunc 95 args).run Tryz.prog w = .ok (.enter 95 args) w:=by
 simp [go_sem]
set_option maxHeartbeats 1000000 in
theorem QJD {x:Fx} {w:World} {M:Nat→Prop} {wh br:List Nat} {wk:Nat} {op:Bool} (h:FinSt x w M wh br wk op) (i:Nat) (hi:i < x.L) :
  Calls Tryz.prog 95 #[.pointer (some ⟨x.bf,0,none⟩),.int .i64 (i:Nat)] w fun e w'=>e = .returned (.bool (!(QBO x.ps wh i).isEmpty))∧Below w.heap.size w w':=by
 have HC:Hid (Calls Tryz.prog 137 _ w _):=QDd h i hi;obtain⟨Ph,K,T,bf,bt,bw,L,vW,ps,fs⟩:=x;simp only at HC ⊢;clear h hi;generalize QBO ps wh i=cr at *
 go_enter Tryz.func95,Tryz.ntmps95
 go_wp2_with fail;refine HC.out.mono ?_;rintro e w1 ⟨s,rfl,hs,-,hb1⟩;subst hs;go_wp2_with fail;go_ret;refine⟨?_,hb1⟩;show Ending.returned (.bool (!s.toList.isEmpty)) = .returned (.bool (!s.data.toList.isEmpty));rw [ByteArray.toList_eq]
theorem QFo {x:Fx} {M:Nat→Prop} {wh br:List Nat} {wk:Nat} {op:Bool}:QFO 95 #[.pointer (some ⟨x.bf,0,none⟩)] #[] (fun i=>!(QBO x.ps wh i).isEmpty) (· < x.L) (fun w=>FinSt x w M wh br wk op) where
 up h hb:=h.up hb
 ent _ w:=QKq _ w
 call t _ h ht:=QJD h t ht
theorem QMz (args:Array Value) (w:World):(callFunc 172 args).run Tryz.prog w = .ok (.enter 172 args) w:=by
 simp [go_sem]
set_option maxHeartbeats 1000000 in
theorem QLi {x:Fx} {w:World} {M:Nat→Prop} {wh br:List Nat} {wk:Nat} {op:Bool} (h:FinSt x w M wh br wk op) (c:Nat) (hc:w.cell? ⟨c,0,none⟩=some (.pointer (some ⟨x.bf,0,none⟩))) (i:Nat) (hi:i < x.L) :
  Calls Tryz.prog 172 #[.int .i64 (i:Nat),.pointer (some ⟨c,0,none⟩)] w fun e w'=>e = .returned (.bool (wh.getD i 0 == 0))∧Below w.heap.size w w':=by
 obtain⟨Ph,K,T,bf,bt,bw,L,vW,ps,fs⟩:=x;have hL2:=h.l2;have hpl:=h.plen;obtain⟨adB,cB,hfin,-,-⟩:=h.fin;obtain⟨q0,q1,q2,-⟩:=QCW hfin;obtain⟨w0,-⟩:=h.wcell (i:=i) hi;simp only at hL2 hpl w0 q0 q1 q2 hc hi;(have hiI:(i:Int) < (L:Int):=by omega);(have hLI:(L:Int)≤200000:=by omega);generalize wh.getD i 0=u at *;clear h hfin hL2 hpl hi
 go_enter Tryz.func172,Tryz.ntmps172
 go_wp2_with fail;go_ret;refine⟨?_,Below.refl _ _⟩;show Ending.returned (.bool ((u:Int) == 0)) = .returned (.bool (u == 0))
 congr 2
 rw [Bool.eq_iff_iff]
 simp
theorem QMo {x:Fx} {M:Nat→Prop} {wh br:List Nat} {wk:Nat} {op:Bool} (c:Nat):QFO 172 #[] #[.pointer (some ⟨c,0,none⟩)] (fun i=>wh.getD i 0 == 0) (· < x.L) (fun w=>FinSt x w M wh br wk op∧c < w.heap.size∧w.cell? ⟨c,0,none⟩=some (.pointer (some ⟨x.bf,0,none⟩))) where
 up h hb:=⟨h.1.up hb,Nat.lt_of_lt_of_le h.2.1 hb.size,(hb.cell (p:=⟨c,0,none⟩) h.2.1).trans h.2.2⟩
 ent _ w:=QMz _ w
 call t _ h ht:=QLi h.1 c h.2.2 t ht
theorem FinSt.way {x:Fx} {w:World} {M:Nat→Prop} {wh br:List Nat} {wk:Nat} {op:Bool} (h:FinSt x w M wh br wk op) {i:Nat} (hi:i < x.L):∃ b cW s adP cP,x.vW = .slice (some ⟨b,0,none⟩) x.L cW∧x.L≤cW∧cW≤maxLen∧x.K b∧w.cell? ⟨b,i * 2,none⟩=some (.string s)∧w.cell? ⟨b,i * 2+1,none⟩=some (.slice adP (QAP x.ps i).2.length cP)∧s.data.toList=(QAP x.ps i).1∧PRows x.K w (.slice adP (QAP x.ps i).2.length cP) (QAP x.ps i).2:=by
 obtain⟨ad,cap,h1,h2,h3,h4⟩:=h.ways;have hl:=h.l2;(obtain⟨b,rfl,h5,h6⟩:=h4 (fun e=>by rw [e] at hl;simp at hl;omega));(obtain⟨s,u,hs,hu,he,hr⟩:=h6 i (by omega));have hr':=hr;obtain⟨adP,cP,rfl,-⟩:=hr';(exact⟨b,cap,s,adP,cP,by rw [h1,hl],by omega,h3,h5,hs,hu,he,hr⟩)
theorem PRows.some' {P:Nat→Prop} {w:World} {ad:Option Addr} {cap:Nat} {prs:List (List Nat)} (h:PRows P w (.slice ad prs.length cap) prs) {j:Nat} {pr:List Nat} (hj:prs[j]? = some pr):∃ b off aj cj,ad=some ⟨b,off,none⟩∧P b∧w.cell? ⟨b,off+j,none⟩=some (.slice aj pr.length cj)∧IRow P w (.slice aj pr.length cj) pr∧prs.length≤cap∧cap≤maxLen:=by
 obtain⟨ad',cap',e,h2,h3,h4⟩:=h;simp only [Value.slice.injEq,true_and] at e;obtain⟨rfl,rfl⟩:=e;(obtain⟨b,off,h5,h6,h7⟩:=h4 (fun e=>by rw [e] at hj;simp at hj));obtain⟨u,hu,hr⟩:=h7 j pr hj;have hr':=hr;obtain⟨aj,cj,rfl,-⟩:=hr';exact⟨b,off,aj,cj,h5,h6,hu,hr,h2,h3⟩
def QEv (x:Fx):Prop:=∀ i,i < x.L→(QAP x.ps i).2.length≤2∧∀ pr∈(QAP x.ps i).2,pr.length≤2∧∀ j∈pr,j < x.L
set_option maxRecDepth 10000 in
set_option maxHeartbeats 4000000 in
theorem QNA {x:Fx} (hwl:QEv x) {w:World} {M:Nat→Prop} {wh br:List Nat} {wk:Nat} {op:Bool} (h:FinSt x w M wh br wk op) (i:Nat) (hi:i < x.L) :
  Calls Tryz.prog 139 #[.pointer (some ⟨x.bf,0,none⟩),.int .i64 (i:Nat)] w fun e w'=>e = .returned (.bool (QCP x.ps wh i))∧Below w.heap.size w w':=by
 have HS:Hid (FinSt x w M wh br wk op):=h;obtain⟨b,cW,s,adP,cP,hvW,hc1,hc2,hKb,hs,hu,-,hpr⟩:=h.way hi;have HWl:Hid ((QAP x.ps i).2.length≤2∧∀ pr∈(QAP x.ps i).2,pr.length≤2∧∀ j∈pr,j < x.L):=hwl i hi;have HPr:Hid (PRows x.K w (.slice adP (QAP x.ps i).2.length cP) (QAP x.ps i).2):=hpr;(have HTl:Hid (QCP x.ps wh i=(!(QAP x.ps i).2.isEmpty && (QAP x.ps i).2.all fun pr=>pr.any fun j=>wh.getD j 0 == 0)):=rfl);generalize QCP x.ps wh i=rb at *;clear hpr;(have HPd:=fun c=>@QMo x M wh br wk op c);(have HPD:Hid (∀ c,QFO 172 #[] #[.pointer (some ⟨c,0,none⟩)] (fun i=>wh.getD i 0 == 0) (· < x.L) (fun w=>FinSt x w M wh br wk op∧c < w.heap.size∧w.cell? ⟨c,0,none⟩=some (.pointer (some ⟨x.bf,0,none⟩)))):=HPd);clear HPd;have hL2:=h.l2;have hpl:=h.plen;obtain⟨adB,cB,hfin,-,-⟩:=h.fin;have HFn:Hid (w.heap[x.bf]? = _):=hfin;obtain⟨q0,q1,q2,-⟩:=QCW hfin;(have hiI:(i:Int) < (x.L:Int):=by omega);(have hicI:(i:Int) < (cW:Int):=by omega);(have hLI:(x.L:Int)≤200000:=by omega);have hl2:(QAP x.ps i).2.length≤2:=HWl.out.1;have zb:=QAI hs;have zf:=QAE hfin;(have HBf:Hid (∀ W,Below w.heap.size w W→W.cell? ⟨x.bf,1,none⟩=some x.vW):=fun W hb=>(hb.cell (p:=⟨x.bf,1,none⟩) zf).trans q1);rw [hvW] at q1 HBf;clear h hfin hL2 hpl hwl hvW hKb HFn;generalize (QAP x.ps i).2=prs at *;(have hlI:(prs.length:Int)≤2:=by omega);(have HU:Hid (∀ W,Below w.heap.size w W→W.cell? ⟨b,i * 2+1,none⟩=some (.slice adP prs.length cP)):=fun W hb=>(hb.cell (p:=⟨b,i * 2+1,none⟩) zb).trans hu)
 go_enter Tryz.func139,Tryz.ntmps139
 go_wp2_with fail;have B0:Below w.heap.size w (w.alloc (.cells #[.pointer (some ⟨x.bf,0,none⟩)] 80 (0,0))):=QAB (Below.refl _ w) _;have HQ0:Hid ((w.alloc (.cells #[.pointer (some ⟨x.bf,0,none⟩)] 80 (0,0))).heap[w.heap.size]? = some (.cells #[.pointer (some ⟨x.bf,0,none⟩)] 80 (0,0))):=QAH w _;have HB0:Hid (Below w.heap.size w (w.alloc (.cells #[.pointer (some ⟨x.bf,0,none⟩)] 80 (0,0)))):=B0;(have HZ0:Hid (w.heap.size < (w.alloc (.cells #[.pointer (some ⟨x.bf,0,none⟩)] 80 (0,0))).heap.size):=by show _ < _;simp);clear B0;generalize (w.alloc (.cells #[.pointer (some ⟨x.bf,0,none⟩)] 80 (0,0)))=W at *
 go_loopg [18] prs.length (fun g c wr=>∃ k,k≤prs.length∧g=prs.length - k∧c = .int .i64 (k:Nat)∧Hid (Below w.heap.size w wr)∧Hid (Below W.heap.size W wr)∧Hid (((prs.take k).all fun pr=>pr.any fun j=>wh.getD j 0 == 0)=true))
 case atStart=>exact⟨0,by omega,by omega,rfl,HB0,Below.refl _ _,by show _=_;rfl⟩
 case round =>
  obtain⟨k,hk,hg,rfl,HB,HBW,HA⟩:=hrel;have HG:Hid (gk=prs.length - k):=hg;clear hg;have HQr:Hid (wr.heap[w.heap.size]? = some (.cells #[.pointer (some ⟨x.bf,0,none⟩)] 80 (0,0))):=QAA HBW.out HQ0.out;have HZr:Hid (w.heap.size < wr.heap.size):=Nat.lt_of_lt_of_le HZ0.out HBW.out.size;by_cases hlt:k < prs.length
  ·obtain⟨pr,hpr⟩:∃ pr,prs[k]? = some pr:=⟨_,List.getElem?_eq_getElem hlt⟩
   (obtain⟨bp,off,aj,cj,rfl,hKp,hcell,hrow,hcp,hcm⟩:=(HPr.out.move (P':=fun _=>True) (w':=wr) fun b hb _=>⟨HB.out.block b hb,trivial⟩).some' hpr);(have hltI:(k:Int) < (prs.length:Int):=by omega);(have hltc:(k:Int) < (cP:Int):=by omega);have HC:Hid (Calls Tryz.prog 173 #[.slice aj pr.length cj,.func (.func 172) #[] #[.pointer (some ⟨w.heap.size,0,none⟩)]] wr _):=QEH (HPD.out w.heap.size) pr (HWl.out.2 pr (List.mem_of_getElem? hpr)).2 _ wr hrow ⟨HS.out.up HB.out,HZr.out,QAL HQr.out 0⟩
   have HTk:Hid ((prs.take (k+1)).all (fun pr=>pr.any fun j=>wh.getD j 0 == 0)=pr.any (fun j=>wh.getD j 0 == 0)):=by
    show _=_;rw [List.take_add_one,hpr,List.all_append,HA.out]
    simp
   have HPm:Hid (pr∈prs):=List.mem_of_getElem? hpr;(have HBo:Hid ((pr.any fun j=>wh.getD j 0 == 0)=false→(prs.all fun pr=>pr.any fun j=>wh.getD j 0 == 0)=false):=fun h=>List.all_eq_false.2 ⟨pr,HPm.out,by rw [h];simp⟩);(generalize (pr.any fun j=>wh.getD j 0 == 0)=bb at *);clear hrow hpr hKp hcp hcm
   cases bb
   ·go_wp2_with fail
    refine HC.out.mono ?_;rintro e w1 ⟨rfl,hb1⟩;have B1:=QAC HB.out hb1;(have HX:=HBo.out (by first|rfl|trivial));go_wp2_with fail;go_ret;(exact⟨by rw [HTl.out,HX];simp,B1⟩)
   ·go_wp2_with fail
    refine HC.out.mono ?_;rintro e w1 ⟨rfl,hb1⟩;have HB1:Hid (Below w.heap.size w w1):=QAC HB.out hb1;have HBW1:Hid (Below W.heap.size W w1):=QAC HBW.out hb1;clear hb1;go_wp2_with fail
    go_roundg (prs.length - (k+1))
    case measure=>have:=HG.out;omega
    case rel=>exact⟨k+1,by omega,rfl,by go_num,HB1,HBW1,HTk⟩
  ·have hge:¬ (k:Int) < (prs.length:Int):=by omega
   (have hke:k=prs.length:=by omega);subst hke;rw [List.take_length] at HA;have z0:=QAL HQr.out 0;have z1:=HBf.out wr HB.out;have z2:=HU.out wr HB.out;simp only [List.getElem?_toArray,List.getElem?_cons_zero] at z0;go_wp2_with fail;go_ret;refine⟨?_,HB.out⟩;show Ending.returned (.bool (decide (0 < prs.length))) = .returned (.bool rb);rw [HTl.out,HA.out]
   cases prs <;> simp
theorem QIV {w:World} {B:Nat} {ad:Option Addr} {cap:Nat} {is:List Nat} (h:w.ownsRow B 82 1 (.slice ad is.length cap) is.length (is.map fun i=>(.int .i64 (i:Nat):Value))) (a:Nat) (ha:a≤is.length):w.ownsRow B 82 1 (.slice ad a cap) a ((is.take a).map fun i=>(.int .i64 (i:Nat):Value)):=by
 obtain⟨h0,h⟩:=h
 rcases h with ⟨hv,hn⟩|⟨g',cap',cur,hv,hg,hh,h1,h2,h3,h4⟩
 ·simp only [Value.slice.injEq] at hv
  obtain⟨rfl,e1,rfl⟩:=hv;(have:a=0:=by omega);subst this;(exact⟨by simp,Or.inl ⟨rfl,rfl⟩⟩)
 ·simp only [Value.slice.injEq,true_and] at hv
  obtain⟨rfl,rfl⟩:=hv;(refine⟨by simp;omega,Or.inr ⟨g',cap,cur,rfl,hg,hh,by omega,h2,h3,?_⟩⟩);rw [List.map_take,← h4,List.take_take]
  congr 1
  omega
set_option maxRecDepth 10000 in
set_option maxHeartbeats 4000000 in
theorem QKw {x:Fx} {w:World} {M:Nat→Prop} {wh br:List Nat} {wk:Nat} {op:Bool} (h:FinSt x w M wh br wk op) (fr:List Nat) (v:Value) (hv:IRow (fun b=>¬ M b) w v fr) (hb:∀ i∈fr,i < x.L) (hl:fr.length≤br.length) (hbl:br.length≤400000) :
  Calls Tryz.prog 174 #[.pointer (some ⟨x.bf,0,none⟩),v] w fun e w'=>e = .returned (.tuple #[])∧FinSt x w' M (QCS wh fr) (br.take (br.length - fr.length)) wk op∧Kept (fun b=>¬ M b) w w':=by
 have hv':=hv;obtain⟨ad,cap,rfl,hc1,hc2,-⟩:=hv';obtain⟨Ph,K,T,bf,bt,bw,L,vW,ps,fs⟩:=x;(have HV:Hid (IRow (fun b=>¬ M b) w (.slice ad fr.length cap) fr):=hv);have HB:Hid (∀ i∈fr,i < L):=hb;have HS:Hid (FinSt ⟨Ph,K,T,bf,bt,bw,L,vW,ps,fs⟩ w M wh br wk op):=h;(have hlI:(fr.length:Int)≤400000:=by omega);(have hlc:(fr.length:Int)≤(cap:Int):=by omega);have hL2:=h.l2;have hpl:=h.plen;simp only at hL2 hpl;(have HLI:Hid ((L:Int)≤200000):=by show (L:Int)≤200000;omega);have HLn:Hid (fr.length≤br.length):=hl;have HBn:Hid (br.length≤400000):=hbl;clear hv hb h hL2 hpl hc1 hc2 hl hbl
 go_enter Tryz.func174,Tryz.ntmps174
 go_wp2_with fail
 go_loopg [8] fr.length (fun g c wr=>∃ i,i≤fr.length∧g=fr.length - i∧c = .int .i64 (i:Nat)∧Hid (FinSt ⟨Ph,K,T,bf,bt,bw,L,vW,ps,fs⟩ wr M (QCS wh (fr.take i)) br wk op)∧Hid (Kept (fun b=>¬ M b) w wr))
 case atStart=>exact⟨0,by omega,by omega,rfl,HS,Kept.refl _ _⟩
 case round =>
  obtain⟨i,hi,hg,rfl,HF,HK⟩:=hrel;have HG:Hid (gk=fr.length - i):=hg;clear hg;by_cases hlt:i < fr.length
  ·obtain⟨t,ht⟩:∃ t,fr[i]? = some t:=⟨_,List.getElem?_eq_getElem hlt⟩
   obtain⟨b,off,rfl,hPb,hcell⟩:=HV.out.some' ht;have g0:=(QAQ (a:=⟨b,off+i,none⟩) (HK.out.block b (QAI hcell) hPb)).trans hcell;have htL:t < L:=HB.out t (List.mem_of_getElem? ht);obtain⟨adB,cB,hfin,-,-⟩:=HF.out.fin;obtain⟨q0,q1,q2,-⟩:=QCW hfin;obtain⟨w0,w1⟩:=HF.out.wcell (i:=t) htL;simp only at w0 w1 q0 q1 q2;(have hltI:(i:Int) < (fr.length:Int):=by omega);(have hltc:(i:Int) < (cap:Int):=by omega);(have htI:(t:Int) < (L:Int):=by omega);have hLI:=HLI.out
   have HTk:Hid (QCS wh (fr.take (i+1))=(QCS wh (fr.take i)).set t 0):=by
    show _=_;rw [List.take_add_one,ht,← QIu];rfl
   generalize (QCS wh (fr.take i)).getD t 0=u at w0;clear hcell hPb hfin ht;go_wp2_with fail
   go_roundg (fr.length - (i+1))
   case measure=>have:=HG.out;omega
   case rel =>
    (refine⟨i+1,by omega,rfl,by go_num,?_,?_⟩)
    ·rw [HTk.out]
     exact HF.out.put t 0
    ·exact QAM HK.out (QAf (b:=bw) (ok:=fun c=>c≠bw) fun c hc=>hc) fun c _ hm e=>hm (e ▸ HS.out.mw)
  ·have hge:¬ (i:Int) < (fr.length:Int):=by omega
   (have hie:i=fr.length:=by omega);subst hie;rw [List.take_length] at HF;obtain⟨adB,cB,hfin,hob,hmb⟩:=HF.out.fin;obtain⟨q0,q1,q2,q3,q4,q5⟩:=QCW hfin;have q6:=QAh hfin 3;(have HOB:Hid (wr.ownsRow 0 82 1 (.slice adB br.length cB) br.length (br.map fun i => .int .i64 (i:Nat))):=hob);have HMB:Hid (∀ b,(Value.slice adB br.length cB).ownBlock=some b→M b∧b≠bf∧b≠bw):=hmb;have HFi:Hid (wr.heap[bf]? = some (.cells #[.pointer (some ⟨bt,0,none⟩),vW,.slice (some ⟨bw,0,none⟩) L L,.slice adB br.length cB,.int .i64 (wk:Nat),.bool op] 92 (0,0))):=hfin;simp only at q0 q1 q2 q3 q4 q5;have hcB:=(QAt hob).1;obtain⟨n,hn⟩:∃ n:Nat,n=br.length - fr.length:=⟨_,rfl⟩;have HN:Hid (n=br.length - fr.length):=hn;have hl:=HLn.out;have hbl:=HBn.out;(have hsub:(br.length:Int) - (fr.length:Int)=(n:Int):=by omega);(have hn0:n≤cB:=by omega);(have hnI:(n:Int)≤(cB:Int):=by omega);(have hnI4:(n:Int)≤400000:=by omega);(have hbI:(br.length:Int)≤400000:=by omega);clear hfin hob hmb HV hn hl hbl hn0 hcB;go_wp2_with fail
   go_region
   go_wp2_with fail
   go_end0
   rw [← HN.out];(have hnl:n≤br.length:=by have:=HN.out;omega);(have hlt2:(br.take n).length=n:=by simp;omega)
   have hS3:FinSt ⟨Ph,K,T,bf,bt,bw,L,vW,ps,fs⟩ (wr.setCell ⟨bf,3,none⟩ (.slice adB n cB)) M (QCS wh fr) (br.take n) wk op:=by
    (have nb:∀ b,(Value.slice adB n cB).ownBlock=some b→M b∧b≠bf∧b≠bw:=fun b e=>HMB.out b (by cases adB with|none=>cases e|some a=>exact e));(refine HF.out.fins (adB:=adB) (cB:=cB) (fun b hb hKb => ?_) ?_ ?_ ?_ (by rw [hlt2];exact nb) (fun b h=>h) (fun b h=>Or.inl h) (fun b h => ?_))
    ·refine QAJ _ ?_
     rcases hKb with h1|h1
     ·exact fun e=>(HF.out.km b h1).1 (e ▸ HF.out.mf)
     ·exact fun e=>HF.out.ne (e.symm.trans h1)
    ·rw [QAO]
     exact Nat.le_refl _
    ·rw [QAS HFi.out,hlt2]
     rfl
    ·rw [hlt2]
     (exact QBF (QIV HOB.out n hnl) fun b e=>QAJ _ (nb b e).2.1)
    ·rw [QAO]
     exact HF.out.old b h
   (refine⟨rfl,hS3.up (Below.refl _ _).drew,(QAM HK.out (QAf (b:=bf) (ok:=fun c=>c≠bf) fun c hc=>hc) fun c _ hm e=>hm (e ▸ HS.out.mf)).drew⟩)
theorem FinSt.work {x:Fx} {w:World} {M:Nat→Prop} {wh br:List Nat} {wk:Nat} {op:Bool} (h:FinSt x w M wh br wk op) (n:Nat):FinSt x (w.setCell ⟨x.bf,4,none⟩ (.int .i64 (n:Nat))) M wh br n op:=by
 obtain⟨adB,cB,h1,h2,h3⟩:=h.fin;(refine h.fins (adB:=adB) (cB:=cB) (fun b _ hk=>QAJ _ ?_) (by rw [QAO];exact Nat.le_refl _) ?_ (QBF h2 fun b e=>QAJ _ (h3 b e).2.1) h3 (fun b hm=>hm) (fun b hm=>Or.inl hm) (fun b hm=>by rw [QAO];exact h.old b hm))
 ·rcases hk with hk|hk
  ·exact fun e=>(h.km b hk).1 (e ▸ h.mf)
  ·exact fun e=>h.ne (e.symm.trans hk)
 ·rw [QAS h1]
  rfl
theorem FinSt.opn {x:Fx} {w:World} {M:Nat→Prop} {wh br:List Nat} {wk:Nat} {op:Bool} (h:FinSt x w M wh br wk op) (o:Bool):FinSt x (w.setCell ⟨x.bf,5,none⟩ (.bool o)) M wh br wk o:=by
 obtain⟨adB,cB,h1,h2,h3⟩:=h.fin;(refine h.fins (adB:=adB) (cB:=cB) (fun b _ hk=>QAJ _ ?_) (by rw [QAO];exact Nat.le_refl _) ?_ (QBF h2 fun b e=>QAJ _ (h3 b e).2.1) h3 (fun b hm=>hm) (fun b hm=>Or.inl hm) (fun b hm=>by rw [QAO];exact h.old b hm))
 ·rcases hk with hk|hk
  ·exact fun e=>(h.km b hk).1 (e ▸ h.mf)
  ·exact fun e=>h.ne (e.symm.trans hk)
 ·rw [QAS h1]
  rfl
set_option maxRecDepth 10000 in
set_option maxHeartbeats 4000000 in
theorem QLS {x:Fx} (hwl:QEv x) {w:World} {M:Nat→Prop} {wh br:List Nat} {wk:Nat} {op:Bool} (h:FinSt x w M wh br wk op) (i:Nat) (hi:i < x.L) :
  Calls Tryz.prog 140 #[.pointer (some ⟨x.bf,0,none⟩),.int .i64 (i:Nat)] w fun e w'=>∃ c:Nat,e = .returned (.int .i64 (c:Nat))∧c≤2∧Below w.heap.size w w':=by
 have HS:Hid (FinSt x w M wh br wk op):=h;obtain⟨b,cW,s,adP,cP,hvW,hc1,hc2,hKb,hs,hu,-,hpr⟩:=h.way hi;have HWl:Hid ((QAP x.ps i).2.length≤2∧∀ pr∈(QAP x.ps i).2,pr.length≤2∧∀ j∈pr,j < x.L):=hwl i hi;have HPr:Hid (PRows x.K w (.slice adP (QAP x.ps i).2.length cP) (QAP x.ps i).2):=hpr;(have HPD:Hid (QFO 95 #[.pointer (some ⟨x.bf,0,none⟩)] #[] (fun i=>!(QBO x.ps wh i).isEmpty) (· < x.L) (fun w=>FinSt x w M wh br wk op)):=QFo);have hL2:=h.l2;have hpl:=h.plen;obtain⟨adB,cB,hfin,-,-⟩:=h.fin;obtain⟨q0,q1,q2,-⟩:=QCW hfin;(have hiI:(i:Int) < (x.L:Int):=by omega);(have hicI:(i:Int) < (cW:Int):=by omega);(have hLI:(x.L:Int)≤200000:=by omega);have hl2:(QAP x.ps i).2.length≤2:=HWl.out.1;rw [hvW] at q1;clear h hfin hL2 hpl hwl hvW hKb hpr;generalize (QAP x.ps i).2=prs at *;(have hlI:(prs.length:Int)≤2:=by omega)
 go_enter Tryz.func140,Tryz.ntmps140
 go_wp2_with fail
 go_loopg [17,5] prs.length (fun g c o wr=>∃ k n:Nat,k≤prs.length∧g=prs.length - k∧c = .int .i64 (k:Nat)∧o = .int .i64 (n:Nat)∧n≤k∧Hid (Below w.heap.size w wr))
 case atStart=>exact⟨0,0,by omega,by omega,rfl,rfl,by omega,Below.refl _ _⟩
 case round =>
  obtain⟨k,n,hk,hg,rfl,rfl,hn,HB⟩:=hrel;have HG:Hid (gk=prs.length - k):=hg;have HNk:Hid (n≤k):=hn;(have hn2:(n:Int)≤2:=by omega);clear hg hn;by_cases hlt:k < prs.length
  ·obtain⟨pr,hpr⟩:∃ pr,prs[k]? = some pr:=⟨_,List.getElem?_eq_getElem hlt⟩
   (obtain⟨bp,off,aj,cj,rfl,hKp,hcell,hrow,hcp,hcm⟩:=(HPr.out.move (P':=fun _=>True) (w':=wr) fun b hb _=>⟨HB.out.block b hb,trivial⟩).some' hpr);(have hltI:(k:Int) < (prs.length:Int):=by omega);(have hltc:(k:Int) < (cP:Int):=by omega);have HC:Hid (Calls Tryz.prog 173 #[.slice aj pr.length cj,.func (.func 95) #[.pointer (some ⟨x.bf,0,none⟩)] #[]] wr _):=QEH HPD.out pr (HWl.out.2 pr (List.mem_of_getElem? hpr)).2 _ wr hrow (HS.out.up HB.out);(generalize (pr.any fun i=>!(QBO x.ps wh i).isEmpty)=bb at *);clear hrow hpr hKp hcp hcm
   cases bb
   ·go_wp2_with fail
    refine HC.out.mono ?_;rintro e w1 ⟨rfl,hb1⟩;have HB1:Hid (Below w.heap.size w w1):=QAC HB.out hb1;clear hb1;go_wp2_with fail
    go_roundg (prs.length - (k+1))
    case measure=>have:=HG.out;omega
    case rel=>exact⟨k+1,n+1,by omega,rfl,by go_num,by go_num,by have:=HNk.out;omega,HB1⟩
   ·go_wp2_with fail
    refine HC.out.mono ?_;rintro e w1 ⟨rfl,hb1⟩;have HB1:Hid (Below w.heap.size w w1):=QAC HB.out hb1;clear hb1;go_wp2_with fail
    go_roundg (prs.length - (k+1))
    case measure=>have:=HG.out;omega
    case rel=>exact⟨k+1,n,by omega,rfl,by go_num,rfl,by have:=HNk.out;omega,HB1⟩
  ·have hge:¬ (k:Int) < (prs.length:Int):=by omega
   go_wp2_with fail;go_ret;(exact⟨n,rfl,by have:=HNk.out;omega,HB.out⟩)
end Go.Proofs.YtbmedfokpgghiacGreat
