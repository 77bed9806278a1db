import Derived.Test.YtbmedfokpgghiacGreatB43
import Derived.Test.YtbmedfokpgghiacGreatB08
import Derived.Test.YtbmedfokpgghiacGreatB44
import Derived.Test.YtbmedfokpgghiacGreatB18
import Derived.Test.YtbmedfokpgghiacGreatB45
import Derived.Test.YtbmedfokpgghiacGreatB35
import Derived.Test.YtbmedfokpgghiacGreatB42
import Derived.Test.YtbmedfokpgghiacGreatB14
import Derived.Test.YtbmedfokpgghiacGreatB12
import Derived.Test.YtbmedfokpgghiacGreatB19
import Derived.Test.YtbmedfokpgghiacGreatB40
namespace Go.Proofs.YtbmedfokpgghiacGreat
open Go.RowKit
def QBT (w:World) (r:Nat) (v0 v1 v2 v3 v4 v5 v6:Value):World:=((((((w.setCell ⟨r,0,none⟩ v0).setCell ⟨r,1,none⟩ v1).setCell ⟨r,2,none⟩ v2).setCell ⟨r,3,none⟩ v3).setCell ⟨r,4,none⟩ v4).setCell ⟨r,5,none⟩ v5).setCell ⟨r,6,none⟩ v6
theorem QLb (w:World) (r:Nat) (v0 v1 v2 v3 v4 v5 v6:Value):(QBT w r v0 v1 v2 v3 v4 v5 v6).heap.size=w.heap.size:=by
 unfold QBT;rw [QAO,QAO,QAO,QAO,QAO,QAO,QAO]
theorem QCD {w:World} {r b:Nat} (v0 v1 v2 v3 v4 v5 v6:Value) (h:b≠r):(QBT w r v0 v1 v2 v3 v4 v5 v6).heap[b]? = w.heap[b]? := by
 unfold QBT;rw [QAJ _ h,QAJ _ h,QAJ _ h,QAJ _ h,QAJ _ h,QAJ _ h,QAJ _ h]
theorem QBL {w:World} {r:Nat} {c0 c1 c2 c3 c4 c5 c6:Value} {T:TypeId} (v0 v1 v2 v3 v4 v5 v6:Value) (h:w.heap[r]? = some (.cells #[c0,c1,c2,c3,c4,c5,c6] T (0,0))):(QBT w r v0 v1 v2 v3 v4 v5 v6).heap[r]? = some (.cells #[v0,v1,v2,v3,v4,v5,v6] T (0,0)):=by
 unfold QBT;rw [QAS (QAS (QAS (QAS (QAS (QAS (QAS h _) _) _) _) _) _) _];rfl
theorem QBK (w:World) (r:Nat) (v0 v1 v2 v3 v4 v5 v6:Value):Kept (fun b=>b≠r) w (QBT w r v0 v1 v2 v3 v4 v5 v6):=by
 unfold QBT;(exact ((((((QAf fun c h=>h).trans (QAf fun c h=>h)).trans (QAf fun c h=>h)).trans (QAf fun c h=>h)).trans (QAf fun c h=>h)).trans (QAf fun c h=>h)).trans (QAf fun c h=>h))
structure GW where
 g:Nat
 P:Pf
 k0:Value
 k1:Value
 k2:Value
 k3:Value
 k4:Value
 k5:Value
 k6:Value
 fits:Bool
 st:Nat
 nd:Nat
def GW.kid (y:GW):Value := .agg #[y.k0,y.k1,y.k2,y.k3,y.k4,y.k5,y.k6]
def GW.cells (y:GW) (l15:Bool):Array Value:=cond l15 #[y.k0,y.k1,y.k2,y.k3,y.k4,y.k5,y.k6] #[.string ⟨#[]⟩,.int .i64 0,.string ⟨#[]⟩,.slice none 0 0,.slice none 0 0,.slice none 0 0,.slice none 0 0]
def GW.none0:GW:=⟨0,.mk ⟨#[]⟩ (.mk 0 ⟨#[]⟩ []) [] [] [],.bool false,.bool false,.bool false,.bool false,.bool false,.bool false,.bool false,false,0,0⟩
structure StW (x:Fx) (W:World) (bz:Nat) (lean:Bool) (post:GW→Prop) (l10 l14 l15:Bool) (y:GW) (w:World):Prop where
 below:l10=false→Below W.heap.size W w
 kept:Kept (fun b=>b≠bz) W w
 box:l14=true→W.heap.size≤y.g∧w.heap[y.g]? = some (.cells (y.cells l15) 32 (0,0))
 done:l10=true→WrSt x w bz lean y.st y.nd∧PRp (fun b=>W.heap.size≤b∧(l14=true→b≠y.g)) w y.P y.kid∧post y
theorem StW.start {x:Fx} {W w:World} {bz:Nat} {lean:Bool} {post:GW→Prop} (y:GW) (h:Below W.heap.size W w):StW x W bz lean post false false false y w :=
 ⟨fun _=>h,QAN h fun _ h _=>h,fun h=>(by cases h),fun h=>(by cases h)⟩
theorem StW.up {x:Fx} {W w w':World} {bz:Nat} {lean:Bool} {post:GW→Prop} {l10 l14 l15:Bool} {y:GW} (h:StW x W bz lean post l10 l14 l15 y w) (e10:l10=false) (hb:Below w.heap.size w w'):StW x W bz lean post l10 l14 l15 y w':=by
 subst e10;(exact⟨fun e=>QAC (h.below e) hb,QAM h.kept (QAN (ok:=fun b=>b≠bz) hb fun _ h _=>h) fun _ _ h=>h,fun e=>⟨(h.box e).1,QAA hb (h.box e).2⟩,fun e=>(by cases e)⟩)
theorem StW.alloc {x:Fx} {W w:World} {bz:Nat} {lean:Bool} {post:GW→Prop} {l10 l14 l15:Bool} {y:GW} (hpost:∀ y y':GW,y.P=y'.P→y.fits=y'.fits→y.st=y'.st→y.nd=y'.nd→post y→post y') (h:StW x W bz lean post l10 l14 l15 y w) (e14:l14=false) (e15:l15=false) :
  StW x W bz lean post l10 true l15 { y with g:=w.heap.size } (w.alloc (.cells #[.string ⟨#[]⟩,.int .i64 0,.string ⟨#[]⟩,.slice none 0 0,.slice none 0 0,.slice none 0 0,.slice none 0 0] 32 (0,0))):=by
 subst e14 e15;have hb:=QAB (Below.refl w.heap.size w) (.cells #[.string ⟨#[]⟩,.int .i64 0,.string ⟨#[]⟩,.slice none 0 0,.slice none 0 0,.slice none 0 0,.slice none 0 0] 32 (0,0));(refine⟨fun e=>QAC (h.below e) hb,QAM h.kept (QAN (ok:=fun b=>b≠bz) hb fun _ h _=>h) fun _ _ h=>h,fun _=>⟨h.kept.size,QAH w _⟩,fun e => ?_⟩);obtain⟨h1,h2,h3⟩:=h.done e;(exact⟨h1.up hb,PRp.move h2 fun b hl hp=>⟨hb.block b hl,hp.1,fun _ e=>by simp only at e;omega⟩,hpost y _ rfl rfl rfl rfl h3⟩)
theorem StW.call {x:Fx} {W w w':World} {bz:Nat} {lean:Bool} {post:GW→Prop} {l10 l14 l15:Bool} {y:GW} (h:StW x W bz lean post l10 l14 l15 y w) (e15:l15=false) {P:Pf} {k0 k1 k2 k3 k4 k5 k6:Value} {fits:Bool} {st nd:Nat} (hz:bz < W.heap.size) (hP:PRp (w.heap.size≤·) w' P (.agg #[k0,k1,k2,k3,k4,k5,k6])) (hw:WrSt x w' bz lean st nd) (hk:Kept (fun b=>b≠bz) w w') (hp:post ⟨y.g,P,k0,k1,k2,k3,k4,k5,k6,fits,st,nd⟩) :
  StW x W bz lean post true l14 l15 ⟨y.g,P,k0,k1,k2,k3,k4,k5,k6,fits,st,nd⟩ w':=by
 subst e15;have hs:=h.kept.size;(refine⟨fun e=>(by cases e),QAM h.kept hk fun _ _ h=>h,fun e => ?_,fun _=>⟨hw,PRp.move hP fun b _ hb=>⟨rfl,by omega,fun e1 e2 => ?_⟩,hp⟩⟩)
 ·obtain⟨h1,h2⟩:=h.box e
  (refine⟨h1,(hk.block y.g (QAE h2) (fun e=>by rw [e] at h1;omega)).trans ?_⟩);exact h2
 ·have:=QAE (h.box e1).2
  simp only at e2;omega
theorem StW.store {x:Fx} {W w:World} {bz:Nat} {lean:Bool} {post:GW→Prop} {l10 l14 l15:Bool} {y:GW} (h:StW x W bz lean post l10 l14 l15 y w) (e10:l10=true) (e14:l14=true) (hz:bz < W.heap.size) (hK:∀ b,x.K b→b < W.heap.size) (e15:l15=false):StW x W bz lean post l10 l14 true y (QBT w y.g y.k0 y.k1 y.k2 y.k3 y.k4 y.k5 y.k6):=by
 subst e10 e14 e15;obtain⟨h1,h2⟩:=h.box rfl;obtain⟨h3,h4,h5⟩:=h.done rfl;(refine⟨fun e=>(by cases e),QAM h.kept (QBK w y.g y.k0 y.k1 y.k2 y.k3 y.k4 y.k5 y.k6) fun b hb _ e=>by omega,fun _=>⟨h1,?_⟩,fun _=>⟨h3.next (fun b hb hk=>QCD _ _ _ _ _ _ _ ?_) (by rw [QLb];exact Nat.le_refl _),PRp.move h4 fun b hb hp=>⟨QCD _ _ _ _ _ _ _ (hp.2 rfl),hp⟩,h5⟩⟩)
 ·exact QBL _ _ _ _ _ _ _ h2
 ·rcases hk with hk|hk
  ·have:=hK b hk
   omega
  ·omega
theorem QKX (l:List Value) (h0:l.length=14):∃ x0 x1 x2 x3 x4 x5 x6 x7 x8 x9 x10 x11 x12 x13,l=[x0,x1,x2,x3,x4,x5,x6,x7,x8,x9,x10,x11,x12,x13]:=by
 obtain⟨x0,l1,e0,h1⟩:=QAD h0;obtain⟨x1,l2,e1,h2⟩:=QAD h1;obtain⟨x2,l3,e2,h3⟩:=QAD h2;obtain⟨x3,l4,e3,h4⟩:=QAD h3;obtain⟨x4,l5,e4,h5⟩:=QAD h4;obtain⟨x5,l6,e5,h6⟩:=QAD h5;obtain⟨x6,l7,e6,h7⟩:=QAD h6;obtain⟨x7,l8,e7,h8⟩:=QAD h7;obtain⟨x8,l9,e8,h9⟩:=QAD h8;obtain⟨x9,l10,e9,h10⟩:=QAD h9;obtain⟨x10,l11,e10,h11⟩:=QAD h10;obtain⟨x11,l12,e11,h12⟩:=QAD h11;obtain⟨x12,l13,e12,h13⟩:=QAD h12;obtain⟨x13,l14,e13,h14⟩:=QAD h13;have e14:l14=[]:=List.length_eq_zero_iff.1 h14;subst e14 e13 e12 e11 e10 e9 e8 e7 e6 e5 e4 e3 e2 e1 e0;exact⟨x0,x1,x2,x3,x4,x5,x6,x7,x8,x9,x10,x11,x12,x13,rfl⟩
theorem QOJ (l:List Value) (h0:l.length=2):∃ x0 x1,l=[x0,x1]:=by
 obtain⟨x0,l1,e0,h1⟩:=QAD h0;obtain⟨x1,l2,e1,h2⟩:=QAD h1;have e2:l2=[]:=List.length_eq_zero_iff.1 h2;subst e2 e1 e0;exact⟨x0,x1,rfl⟩
structure G6 where
 c0:Value
 c1:Value
 c2:Value
 u1:Value
 u2:Value
def G6.cells (y:G6) (ru:ByteArray) (l14:Bool):Array Value:=cond l14 #[.string ru,y.c0,y.c1,y.c2,y.u1,y.u2,.slice none 0 0] #[.string ⟨#[]⟩,.int .i64 0,.string ⟨#[]⟩,.slice none 0 0,.slice none 0 0,.slice none 0 0,.slice none 0 0]
structure St6 (fs:List Fm) (W:World) (bO:Nat) (ru:ByteArray) (f:Fm) (is:List Nat) (l9 l12 l14:Bool) (y:G6) (w:World):Prop where
 below:l14=false→Below W.heap.size W w
 kept:Kept (fun b=>b≠bO) W w
 box:w.heap[bO]? = some (.cells (y.cells ru l14) 32 (0,0))
 form:l9=true→Rep w (W.heap.size≤·) f (.agg #[y.c0,y.c1,y.c2])
 ends:l12=true→FLp (W.heap.size≤·) w y.u1 (QAW fs is)∧FLp (W.heap.size≤·) w y.u2 (QAX fs is)
theorem St6.start {fs:List Fm} {W w:World} {bO:Nat} {ru:ByteArray} {f:Fm} {is:List Nat} (y:G6) (hb:Below W.heap.size W w) (hx:W.heap[bO]? = some (.cells #[.string ⟨#[]⟩,.int .i64 0,.string ⟨#[]⟩,.slice none 0 0,.slice none 0 0,.slice none 0 0,.slice none 0 0] 32 (0,0))):St6 fs W bO ru f is false false false y w :=
 ⟨fun _=>hb,QAN hb fun _ h _=>h,QAA hb hx,fun h=>(by cases h),fun h=>(by cases h)⟩
theorem St6.make {fs:List Fm} {W w w':World} {bO:Nat} {ru:ByteArray} {f:Fm} {is:List Nat} {l9 l12 l14:Bool} {y:G6} (h:St6 fs W bO ru f is l9 l12 l14 y w) (e9:l9=false) (e14:l14=false) {c0 c1 c2:Value} (hb:Below w.heap.size w w') (hr:Rep w' (w.heap.size≤·) f (.agg #[c0,c1,c2])):St6 fs W bO ru f is true l12 l14 { y with c0:=c0,c1:=c1,c2:=c2 } w':=by
 subst e9 e14;have hB:=QAC (h.below rfl) hb;have hs:=(h.below rfl).size;(refine⟨fun _=>hB,QAN hB fun _ h _=>h,QAA hb h.box,fun _=>hr.move fun b _ hb=>⟨rfl,by omega⟩,fun e => ?_⟩);exact⟨(h.ends e).1.up hb,(h.ends e).2.up hb⟩
theorem St6.side {fs:List Fm} {W w w':World} {bO:Nat} {ru:ByteArray} {f:Fm} {is:List Nat} {l9 l12 l14:Bool} {y:G6} (h:St6 fs W bO ru f is l9 l12 l14 y w) (e12:l12=false) (e14:l14=false) {u1 u2:Value} (hb:Below w.heap.size w w') (h1:FLp (w.heap.size≤·) w' u1 (QAW fs is)) (h2:FLp (w.heap.size≤·) w' u2 (QAX fs is)):St6 fs W bO ru f is l9 true l14 { y with u1:=u1,u2:=u2 } w':=by
 subst e12 e14;have hB:=QAC (h.below rfl) hb;have hs:=(h.below rfl).size;(exact⟨fun _=>hB,QAN hB fun _ h _=>h,QAA hb h.box,fun e=>(h.form e).move fun b hl hp=>⟨hb.block b hl,hp⟩,fun _=>⟨h1.move fun b _ hb=>⟨rfl,by omega⟩,h2.move fun b _ hb=>⟨rfl,by omega⟩⟩⟩)
theorem St6.store {fs:List Fm} {W w:World} {bO:Nat} {ru:ByteArray} {f:Fm} {is:List Nat} {l9 l12 l14:Bool} {y:G6} (h:St6 fs W bO ru f is l9 l12 l14 y w) (e14:l14=false) (hO:bO < W.heap.size):St6 fs W bO ru f is l9 l12 true y (QBT w bO (.string ru) y.c0 y.c1 y.c2 y.u1 y.u2 (.slice none 0 0)):=by
 subst e14;(have k:∀ b,b < w.heap.size→W.heap.size≤b→(QBT w bO (.string ru) y.c0 y.c1 y.c2 y.u1 y.u2 (.slice none 0 0)).heap[b]? = w.heap[b]? ∧ W.heap.size≤b:=fun b _ hb=>⟨QCD _ _ _ _ _ _ _ (by omega),hb⟩);(exact⟨fun e=>(by cases e),QAM h.kept (QBK _ _ _ _ _ _ _ _ _) fun _ _ h=>h,QBL _ _ _ _ _ _ _ h.box,fun e=>(h.form e).move k,fun e=>⟨(h.ends e).1.move k,(h.ends e).2.move k⟩⟩)
def KidPost (x:Fx) (lean:Bool) (st nd d:Nat) (p:Plan) (is:List Nat) (y:GW):Prop :=
 (y.fits=true→WPf x.ps x.fs d p is y.P∧y.st=st+y.P.size∧y.st≤20000∧y.nd≤2097152∧(lean=false→y.st≤st+Bs (x.nods is)∧y.nd≤nd+Bs (x.nods is) * x.nods is))∧(y.fits=false→lean=false→¬ Roomy (x.nods is) st nd d)
theorem KidPost.eq {x:Fx} {lean:Bool} {st nd d:Nat} {p:Plan} {is:List Nat} (y y':GW) (h1:y.P=y'.P) (h2:y.fits=y'.fits) (h3:y.st=y'.st) (h4:y.nd=y'.nd) (h:KidPost x lean st nd d p is y):KidPost x lean st nd d p is y':=by
 unfold KidPost at *;rw [← h1,← h2,← h3,← h4];exact h
structure QMA (x:Fx) (w:World) (S1 bz:Nat) (lean:Bool) (st nd deep:Nat) (ru:ByteArray) (i:Nat) (kids:List Plan) (is:List Nat) (c0 c1 c2 u1 u2:Value) (O5:Obj) (wr:World) (k:Nat) (ad:Option Addr) (cp:Nat) (ks:List Pf) (st' nd':Nat):Prop where
 wst:WrSt x wr bz lean st' nd'
 kept:Kept (fun b=>b≠bz) w wr
 s1:w.heap.size+2≤S1
 s1':S1≤wr.heap.size
 b5:wr.heap[w.heap.size]? = some O5
 bo:wr.heap[w.heap.size+1]? = some (.cells #[.string ru,c0,c1,c2,u1,u2,.slice ad ks.length cp] 32 (0,0))
 form:Rep wr (fun b=>w.heap.size+2≤b∧b < S1) (itF x.fs i) (.agg #[c0,c1,c2])
 le:FLp (fun b=>w.heap.size+2≤b∧b < S1) wr u1 (QAW x.fs is)
 re:FLp (fun b=>w.heap.size+2≤b∧b < S1) wr u2 (QAX x.fs is)
 row:KF (S1≤·) S1 wr ad cp ks
 klen:ks.length=k
 ok:∀ (j:Nat) (q:Plan) (p:Pf) (pr:List Nat),kids[j]? = some q→(QAP x.ps i).2[j]? = some pr→ks[j]? = some p→WPf x.ps x.fs (deep+1) q (is.erase i++pr) p
 steps:st'=st+1+Pf.sizes ks
 fits:st'≤20000∧nd'≤2097152
 cnt:lean=false→Cnt (x.nods is) kids.length st nd k st' nd'
set_option maxRecDepth 10000 in
set_option maxHeartbeats 8000000 in
theorem QCe {x:Fx} (ht:TabOk x.ps x.fs) (hpl:∀ n,n < x.fs.length→Pl (x.fs.getD n QAR)) (hsm:∀ f∈x.fs,f.size≤1000) (ru:ByteArray) (i:Nat) (needs:List Nat) (kids:List Plan) (hnn:needs.Nodup) (hin:i∈needs) (hlen:kids=[]∨kids.length=(QAP x.ps i).2.length)
  (hk:∀ (j:Nat) (k:Plan),kids[j]? = some k→QFQ x true k) (hn:∀ (j:Nat) (k:Plan) (pr:List Nat),kids[j]? = some k→(QAP x.ps i).2[j]? = some pr→∀ y∈k.needs,y∈pr∨y∈needs) (hni:∀ k∈kids,i ∉ k.needs):QFQ x false (.mk ru i needs kids):=by
 intro w bz lean st nd deep is pv v hw hp hv hbd hsub hil hst hnd hdp hlv;have hlv':=hlv rfl;have hiS:i∈is:=hsub i hin;have hiL:=hbd i hiS;have hL2:=hw.l2;have hplen:=hw.plen;obtain⟨an,cn,sl,cap,rfl,hru,hneeds,hkc,hcm,hks⟩:=hp.parts;(have hi2:i / 2 < x.ps.length:=by omega);have hpp:=List.getElem?_eq_getElem hi2;obtain⟨hw2,hwp⟩:=QIo ht hpl hL2 i hiL
 have hlk:kids.length≤2:=by
  rcases hlen with e|e
  ·rw [e];exact Nat.zero_le _
  ·omega
 obtain⟨m,hm⟩:∃ m,m=x.nods is:=⟨_,rfl⟩;obtain⟨rb,hrb⟩:∃ rb,rb=(decide (st+1≤20000) && decide (deep≤400) && decide (is.length≤60) && decide (nd+m≤2097152)):=⟨_,rfl⟩
 have HRoom:Hid (∀ W,WrSt x W bz lean st nd→IRow (fun b=>b≠bz) W v is→Calls Tryz.prog 144 #[.pointer (some ⟨bz,0,none⟩),v,.int .i64 (deep:Nat)] W fun e w'=>e = .returned (.bool rb)∧WrSt x w' bz lean (st+1) (nd+m)∧Kept (fun b=>b≠bz) W w'):=fun W h1 h2=>by
  rw [hrb,hm];(exact QIe hsm h1 is v h2 hbd (by omega) (by omega) (by omega) deep (by omega))
 have hv':=hv;obtain⟨ae,ce,rfl,hec,hecm,-⟩:=hv';(have HVi:Hid (IRow (fun b=>b≠bz) w (.slice ae is.length ce) is):=hv);have HW0:Hid (WrSt x w bz lean st nd):=hw;have hlB:(lean && decide (0 < kids.length) && decide (needs.length < is.length))=false:=hlv';have hnl:needs.length≤is.length:=QFk hnn hsub;obtain⟨O5,hO5⟩:∃ O,O=Obj.cells #[.string ru,.int .i64 (i:Nat),.slice an needs.length cn,.slice sl kids.length cap] 85 (0,0):=⟨_,rfl⟩;obtain⟨O8,hO8⟩:∃ O,O=Obj.cells #[.string ⟨#[]⟩,.int .i64 0,.string ⟨#[]⟩,.slice none 0 0,.slice none 0 0,.slice none 0 0,.slice none 0 0] 32 (0,0):=⟨_,rfl⟩;obtain⟨W0,hW0⟩:∃ W,W=(w.alloc O5).alloc O8:=⟨_,rfl⟩;(have B0:Below w.heap.size w W0:=by rw [hW0];exact QAB (QAB (Below.refl _ w) _) _);(have z0:W0.heap.size=w.heap.size+2:=by rw [hW0];simp);(have p5:W0.heap[w.heap.size]? = some O5:=by rw [hW0];exact QAG (QAH w O5) _);(have p8:W0.heap[w.heap.size+1]? = some O8:=by rw [hW0];exact QAa w O5 O8);rw [hO5] at p5;rw [hO8] at p8;have P5:Hid (W0.heap[w.heap.size]? = some _):=p5;have P8:Hid (W0.heap[w.heap.size+1]? = some _):=p8;have HZ0:Hid (W0.heap.size=w.heap.size+2):=z0;have HB0:Hid (Below w.heap.size w W0):=B0;have HWe:Hid ((w.alloc O5).alloc O8=W0):=hW0.symm;have HRb:Hid (rb=(decide (st+1≤20000) && decide (deep≤400) && decide (is.length≤60) && decide (nd+m≤2097152))):=hrb;have HM:Hid (m=x.nods is):=hm;have HLB:Hid ((lean && decide (0 < kids.length) && decide (needs.length < is.length))=false):=hlB;have HLen:Hid (kids=[]∨kids.length=(QAP x.ps i).2.length):=hlen;have HNl:Hid (needs.length≤is.length):=hnl;(have HKs:Hid (kids≠[]→∃ (b off:Nat) (cs:Nat→Value),sl=some ⟨b,off,none⟩∧b≠bz∧(∀ j,j < kids.length * 4→w.cell? ⟨b,off+j,none⟩=some (cs j))∧∀ (j:Nat) (k:Plan),kids[j]? = some k→PlanR (fun b=>b≠bz) w k (.agg #[cs (j * 4),cs (j * 4+1),cs (j * 4+2),cs (j * 4+3)])):=hks);have HKid:Hid (∀ (j:Nat) (k:Plan),kids[j]? = some k→QFQ x true k):=hk;have HNd:Hid (∀ (j:Nat) (k:Plan) (pr:List Nat),kids[j]? = some k→(QAP x.ps i).2[j]? = some pr→∀ y∈k.needs,y∈pr∨y∈needs):=hn;have HNi:Hid (∀ k∈kids,i ∉ k.needs):=hni;have HBd:Hid (∀ i∈is,i < x.L):=hbd;have HSub:Hid (∀ y∈needs,y∈is):=hsub;have HIs:Hid (i∈is):=hiS;have HWp:Hid ((QAP x.ps i).2.length≤2∧∀ pr∈(QAP x.ps i).2,pr.length≤2∧∀ j∈pr,j < x.L):=⟨hw2,hwp⟩;have HPl:Hid (∀ n,n < x.fs.length→Pl (x.fs.getD n QAR)):=hpl;have HTo:Hid (TabOk x.ps x.fs):=ht;(have hkI:(kids.length:Int)≤2:=by omega);(have hkcI:(kids.length:Int)≤(cap:Int):=by omega);(have hdI:(deep:Int)≤401:=by omega);(have hiI:(i:Int)≤200000:=by omega);have hbz:bz < w.heap.size:=QAE HW0.out.blk;have hil':is.length≤100:=hil;clear hrb hm hlB hlv hlv' hlen hnl hks hk hn hni hbd hsub hiS hw2 hwp hpl ht hsm hnn hin hneeds hp hw hv hW0 p5 p8 hkc hcm hpp hlk
 go_enter Tryz.func103,Tryz.ntmps103
 go_wp2_with fail;rw [← hO5,← hO8,HWe.out];(refine (HRoom.out W0 (HW0.out.up HB0.out) (HVi.out.move fun b hb hp=>⟨HB0.out.block b hb,hp⟩)).mono ?_);rintro e w1 ⟨rfl,hw1,hk1⟩;have HW1:Hid (WrSt x w1 bz lean (st+1) (nd+m)):=hw1;(have HK1:Hid (Kept (fun b=>b≠bz) W0 w1):=hk1);(have Q5:Hid (w1.heap[w.heap.size]? = some (.cells #[.string ru,.int .i64 (i:Nat),.slice an needs.length cn,.slice sl kids.length cap] 85 (0,0))):=(hk1.block _ (by omega) (by omega)).trans P5.out);(have Q8:Hid (w1.heap[w.heap.size+1]? = some (.cells #[.string ⟨#[]⟩,.int .i64 0,.string ⟨#[]⟩,.slice none 0 0,.slice none 0 0,.slice none 0 0,.slice none 0 0] 32 (0,0))):=(hk1.block _ (by omega) (by omega)).trans P8.out);(have HKw1:Hid (Kept (fun b=>b≠bz) w w1):=QAM (QAN (ok:=fun b=>b≠bz) HB0.out fun _ h _=>h) hk1 fun _ _ h=>h);clear hw1 hk1;obtain⟨y0,y1,y2,y3,y4,y5,y6⟩:=QAj Q8.out;obtain⟨f0,f1,f2,f3,f4,f5,f6⟩:=QCT Q8.out;obtain⟨d0,d1,d2,d3,-⟩:=QAn Q5.out
 cases rb
 ·go_wp2_with fail
  obtain⟨Wf,hWf⟩:∃ Wf,Wf=QBT w1 (w.heap.size+1) (.string ⟨#[]⟩) (.int .i64 0) (.string ⟨#[]⟩) (.slice none 0 0) (.slice none 0 0) (.slice none 0 0) (.slice none 0 0):=⟨_,rfl⟩
  change bodyPost _ _ _ _ _ (QBT w1 (w.heap.size+1) (.string ⟨#[]⟩) (.int .i64 0) (.string ⟨#[]⟩) (.slice none 0 0) (.slice none 0 0) (.slice none 0 0) (.slice none 0 0))
  have hE:=QBL (.string ⟨#[]⟩) (.int .i64 0) (.string ⟨#[]⟩) (.slice none 0 0) (.slice none 0 0) (.slice none 0 0) (.slice none 0 0) Q8.out;have hKf:=QBK w1 (w.heap.size+1) (.string ⟨#[]⟩) (.int .i64 0) (.string ⟨#[]⟩) (.slice none 0 0) (.slice none 0 0) (.slice none 0 0) (.slice none 0 0);rw [← hWf] at hE hKf ⊢;clear hWf;obtain⟨m0,m1,m2,m3,m4,m5,m6⟩:=QAj hE;(refine bodyPost_ret (v := .tuple #[.agg #[.string ⟨#[]⟩,.int .i64 0,.string ⟨#[]⟩,.slice none 0 0,.slice none 0 0,.slice none 0 0,.slice none 0 0],.bool false]) (by simp [results,Tryz.results103,go_sem,m0,m1,m2,m3,m4,m5,m6]) rfl ⟨_,_,false,st+1,nd+m,rfl,QFM Wf _,HW1.out.next (fun b hb hk=>hKf.block b hb ?_) hKf.size,QAM HKw1.out hKf fun b hb _=>by omega,fun h=>(by cases h),fun _ _ hR => ?_⟩)
  ·rcases hk with hk|hk
   ·have:=(HW0.out.kz b hk).2
    omega
   ·omega
  ·obtain⟨r1,r2,r3,r4⟩:=hR.one (QIP is QMS)
   have h9:=HRb.out;rw [HM.out,decide_eq_true r1,decide_eq_true r2,decide_eq_true r3,decide_eq_true r4] at h9
   cases h9
 ·go_wp2_with fail
  have HLv:Hid (Calls Tryz.prog 145 #[.pointer (some ⟨bz,0,none⟩),.agg #[.string ru,.int .i64 (i:Nat),.slice an needs.length cn,.slice sl kids.length cap],.slice ae is.length ce] w1 fun e w'=>e = .returned (.bool false)∧Below w1.heap.size w1 w'):=by
   (have h:=QFg HW1.out ru i an needs.length cn sl kids.length cap ae is.length ce (by have:=HNl.out;omega) (by omega) (by omega));rw [HLB.out] at h;exact h
  refine HLv.out.mono ?_;rintro e w2 ⟨rfl,hb2⟩;clear HLv y0 y1 y2 y3 y4 y5 y6 f0 f1 f2 f3 f4 f5 f6 d0 d1 d2 d3;have hz2:w1.heap.size≤w2.heap.size:=hb2.size;(have hz1:w.heap.size+2≤w1.heap.size:=by have h1:=HKw1.out.size;have h2:=QAE Q8.out;omega);have HW2:Hid (WrSt x w2 bz lean (st+1) (nd+m)):=HW1.out.up hb2;(have HKw2:Hid (Kept (fun b=>b≠bz) w w2):=QAM HKw1.out (QAN (ok:=fun b=>b≠bz) hb2 fun _ h _=>h) fun _ _ h=>h);have R5:Hid (w2.heap[w.heap.size]? = some (.cells #[.string ru,.int .i64 (i:Nat),.slice an needs.length cn,.slice sl kids.length cap] 85 (0,0))):=QAA hb2 Q5.out;have R8:Hid (w2.heap[w.heap.size+1]? = some (.cells #[.string ⟨#[]⟩,.int .i64 0,.string ⟨#[]⟩,.slice none 0 0,.slice none 0 0,.slice none 0 0,.slice none 0 0] 32 (0,0))):=QAA hb2 Q8.out;(have HIi:Hid (IRow (fun b=>b≠bz) w2 (.slice ae is.length ce) is):=HVi.out.move fun b hb hp=>⟨HKw2.out.block b hb hp,hp⟩)
  obtain⟨k2,n2,ks2,hfe⟩:∃ k2 n2 ks2,itF x.fs i = .mk k2 n2 ks2:=by
   cases itF x.fs i with
   | mk a b c=>exact⟨a,b,c,rfl⟩
  (have hff:x.fs[i / 2]? = some (.mk k2 n2 ks2):=by rw [← hfe];exact QBd (by rw [← HTo.out.len];exact hi2));obtain⟨th,hth⟩:∃ th,th=i / 2:=⟨_,rfl⟩;(have HPt:Hid (∀ W,Calls Tryz.prog 100 #[.int .i64 (i:Nat)] W fun e w'=>e = .returned (.int .i64 (th:Nat))∧w'=W):=fun W=>by rw [hth];exact QCn i (by omega) W);(have HFm:Hid (∀ W,Below w2.heap.size w2 W→Calls Tryz.prog 147 #[.pointer (some ⟨x.bt,0,none⟩),.int .i64 (th:Nat)] W fun e w'=>∃ v,e = .returned v∧Rep w' (W.heap.size≤·) (.mk k2 n2 ks2) v∧Below W.heap.size W w'):=fun W hb=>by rw [hth];exact QHy (HW2.out.up hb).tab hff);(have HSq:Hid (∀ W,Below w2.heap.size w2 W→Calls Tryz.prog 146 #[.pointer (some ⟨bz,0,none⟩),.slice ae is.length ce] W fun e w'=>∃ u1 u2,e = .returned (.agg #[u1,u2])∧FLp (W.heap.size≤·) w' u1 (QAW x.fs is)∧FLp (W.heap.size≤·) w' u2 (QAX x.fs is)∧Below W.heap.size W w'):=fun W hb=>QFH (HW2.out.up hb) is _ (HIi.out.move fun b hl hp=>⟨hb.block b hl,hp⟩) HBd.out (by omega));have HZb:Hid (w2.heap[bz]? = some (.cells #[.pointer (some ⟨x.bt,0,none⟩),x.vW,.bool lean,.int .i64 ((st+1:Nat):Int),.int .i64 ((nd+m:Nat):Int)] 162 (0,0))):=HW2.out.blk;have HFe:Hid (itF x.fs i = .mk k2 n2 ks2):=hfe;clear hb2 hth hff hfe;go_wp2_with fail;(refine QBv (by kernel_rfl) (by kernel_rfl) (by kernel_rfl) 90 rfl (by kernel_rfl) [fun _ v _=>v=(.pointer (some ⟨w.heap.size,0,none⟩)),fun _ v _=>v=(.string ru),fun _ v _=>v=(.pointer (some ⟨bz,0,none⟩)),fun _ v _=>v=(.pointer (some ⟨bz,0,none⟩)),fun _ v _=>v=(.pointer (some ⟨bz,0,none⟩)),fun _ v _=>v=(.pointer (some ⟨x.bt,0,none⟩)),fun _ v _=>v=(.pointer (some ⟨w.heap.size,1,none⟩)),fun _ v _=>v=(.int .i64 (i:Nat)),fun _ v _=>v=(.int .i64 (th:Nat)),fun y v _=>v = .agg #[y.c0,y.c1,y.c2],fun _ v _=>v=(.pointer (some ⟨bz,0,none⟩)),fun _ v _=>v=(.slice ae is.length ce),fun y v _=>v = .agg #[y.u1,y.u2],fun y v _=>v = .agg #[.string ru,y.c0,y.c1,y.c2,y.u1,y.u2,.slice none 0 0],fun _ _ _=>True] (fun _ _=>true) (fun L=>St6 x.fs w2 (w.heap.size+1) ru (.mk k2 n2 ks2) is (L 9) (L 12) (L 14)) (⟨.bool false,.bool false,.bool false,.bool false,.bool false⟩) ?_ ?_ ?_)
  ·exact fun wx h _=>St6.start _ h R8.out
  ·refine⟨?_,?_,?_,?_,?_,?_,?_,?_,?_,?_,?_,?_,?_,?_,?_,trivial⟩
   ·intro L y a wx hSt hLi hdl hcl hold hdep K hK
    have HSt:Hid (St6 x.fs w2 (w.heap.size+1) ru (.mk k2 n2 ks2) is (L 9) (L 12) (L 14) y wx):=hSt;clear hSt;have t5:a.tmps[5]? = some (.pointer (some ⟨w.heap.size,0,none⟩)):=hold 5 rfl;clear hold hdep hdl hcl hLi;go_simp;(exact hK.out _ _ y HSt.out rfl (fun j hj hl=>⟨hl,fun u h=>h⟩))
   ·intro L y a wx hSt hLi hdl hcl hold hdep K hK
    have HSt:Hid (St6 x.fs w2 (w.heap.size+1) ru (.mk k2 n2 ks2) is (L 9) (L 12) (L 14) y wx):=hSt;clear hSt;obtain⟨v43,t43,q43⟩:=hdep 0 rfl _ 43 rfl rfl;have e43:v43=(.pointer (some ⟨w.heap.size,0,none⟩)):=q43 rfl;subst e43;(obtain⟨d0,d1,d2,d3,-⟩:=QAn ((HSt.out.kept.block _ (QAE R5.out) (by omega)).trans R5.out));clear hold hdep hdl hcl hLi;go_simp;(exact hK.out _ _ y HSt.out rfl (fun j hj hl=>⟨hl,fun u h=>h⟩))
   ·intro L y a wx hSt hLi hdl hcl hold hdep K hK
    have HSt:Hid (St6 x.fs w2 (w.heap.size+1) ru (.mk k2 n2 ks2) is (L 9) (L 12) (L 14) y wx):=hSt;clear hSt;have t0:a.tmps[0]? = some (.pointer (some ⟨bz,0,none⟩)):=hold 0 rfl;clear hold hdep hdl hcl hLi;go_simp;(exact hK.out _ _ y HSt.out rfl (fun j hj hl=>⟨hl,fun u h=>h⟩))
   ·intro L y a wx hSt hLi hdl hcl hold hdep K hK
    have HSt:Hid (St6 x.fs w2 (w.heap.size+1) ru (.mk k2 n2 ks2) is (L 9) (L 12) (L 14) y wx):=hSt;clear hSt;obtain⟨v45,t45,q45⟩:=hdep 2 rfl _ 45 rfl rfl;have e45:v45=(.pointer (some ⟨bz,0,none⟩)):=q45 rfl;subst e45;clear hold hdep hdl hcl hLi;go_simp;(exact hK.out _ _ y HSt.out rfl (fun j hj hl=>⟨hl,fun u h=>h⟩))
   ·intro L y a wx hSt hLi hdl hcl hold hdep K hK
    have HSt:Hid (St6 x.fs w2 (w.heap.size+1) ru (.mk k2 n2 ks2) is (L 9) (L 12) (L 14) y wx):=hSt;clear hSt;obtain⟨v46,t46,q46⟩:=hdep 3 rfl _ 46 rfl rfl;have e46:v46=(.pointer (some ⟨bz,0,none⟩)):=q46 rfl;subst e46;clear hold hdep hdl hcl hLi;go_simp;(exact hK.out _ _ y HSt.out rfl (fun j hj hl=>⟨hl,fun u h=>h⟩))
   ·intro L y a wx hSt hLi hdl hcl hold hdep K hK
    have HSt:Hid (St6 x.fs w2 (w.heap.size+1) ru (.mk k2 n2 ks2) is (L 9) (L 12) (L 14) y wx):=hSt;clear hSt;obtain⟨v47,t47,q47⟩:=hdep 4 rfl _ 47 rfl rfl;have e47:v47=(.pointer (some ⟨bz,0,none⟩)):=q47 rfl;subst e47;(obtain⟨z0,z1,z2,z3,z4,-⟩:=QCg ((HSt.out.kept.block _ (QAE HZb.out) (by omega)).trans HZb.out));clear hold hdep hdl hcl hLi;go_simp;(exact hK.out _ _ y HSt.out rfl (fun j hj hl=>⟨hl,fun u h=>h⟩))
   ·intro L y a wx hSt hLi hdl hcl hold hdep K hK
    have HSt:Hid (St6 x.fs w2 (w.heap.size+1) ru (.mk k2 n2 ks2) is (L 9) (L 12) (L 14) y wx):=hSt;clear hSt;have t5:a.tmps[5]? = some (.pointer (some ⟨w.heap.size,0,none⟩)):=hold 5 rfl;clear hold hdep hdl hcl hLi;go_simp;(exact hK.out _ _ y HSt.out rfl (fun j hj hl=>⟨hl,fun u h=>h⟩))
   ·intro L y a wx hSt hLi hdl hcl hold hdep K hK
    have HSt:Hid (St6 x.fs w2 (w.heap.size+1) ru (.mk k2 n2 ks2) is (L 9) (L 12) (L 14) y wx):=hSt;clear hSt;obtain⟨v49,t49,q49⟩:=hdep 6 rfl _ 49 rfl rfl;have e49:v49=(.pointer (some ⟨w.heap.size,1,none⟩)):=q49 rfl;subst e49;(obtain⟨d0,d1,d2,d3,-⟩:=QAn ((HSt.out.kept.block _ (QAE R5.out) (by omega)).trans R5.out));clear hold hdep hdl hcl hLi;go_simp;(exact hK.out _ _ y HSt.out rfl (fun j hj hl=>⟨hl,fun u h=>h⟩))
   ·intro L y a wx hSt hLi hdl hcl hold hdep K hK
    have HSt:Hid (St6 x.fs w2 (w.heap.size+1) ru (.mk k2 n2 ks2) is (L 9) (L 12) (L 14) y wx):=hSt;clear hSt;obtain⟨v50,t50,q50⟩:=hdep 7 rfl _ 50 rfl rfl;have e50:v50=(.int .i64 (i:Nat)):=q50 rfl;subst e50;clear hold hdep hdl hcl hLi;go_simp;refine (HPt.out wx).mono ?_;rintro e w3 ⟨rfl,hw3⟩;have hw4:=hw3.symm;clear hw3;subst hw4;(exact hK.out _ _ y HSt.out rfl (fun j hj hl=>⟨hl,fun u h=>h⟩))
   ·intro L y a wx hSt hLi hdl hcl hold hdep K hK
    have HSt:Hid (St6 x.fs w2 (w.heap.size+1) ru (.mk k2 n2 ks2) is (L 9) (L 12) (L 14) y wx):=hSt;clear hSt;obtain⟨v48,t48,q48⟩:=hdep 5 rfl _ 48 rfl rfl;have e48:v48=(.pointer (some ⟨x.bt,0,none⟩)):=q48 rfl;subst e48;obtain⟨v51,t51,q51⟩:=hdep 8 rfl _ 51 rfl rfl;have e51:v51=(.int .i64 (th:Nat)):=q51 rfl;subst e51;(have e14:L 14=false:=QCb hLi fun h=>hcl 14 _ rfl h 9 rfl);clear hold hdep hdl;go_simp;refine (HFm.out wx (HSt.out.below e14)).mono ?_;rintro e w3 ⟨u,rfl,hu,hb3⟩;obtain⟨sl9,cap9,rfl⟩:=QAU hu;refine hK.out _ _ { y with c0 := .int .i64 k2,c1 := .string n2,c2 := .slice sl9 ks2.length cap9 } (HSt.out.make hLi e14 hb3 hu) rfl ?_;intro j hj hl;(refine⟨rfl,fun u h => ?_⟩)
    rcases j with _|_|_|_|_|_|_|_|_|_|_|_|_|_|_|j
    ·exact h
    ·exact h
    ·exact h
    ·exact h
    ·exact h
    ·exact h
    ·exact h
    ·exact h
    ·exact h
    ·exact Bool.noConfusion (hLi.symm.trans hj)
    ·exact h
    ·exact h
    ·exact h
    ·exact Bool.noConfusion (hLi.symm.trans (hcl 13 _ rfl hj 9 rfl))
    ·exact h
    ·exact h
   ·intro L y a wx hSt hLi hdl hcl hold hdep K hK
    have HSt:Hid (St6 x.fs w2 (w.heap.size+1) ru (.mk k2 n2 ks2) is (L 9) (L 12) (L 14) y wx):=hSt;clear hSt;have t0:a.tmps[0]? = some (.pointer (some ⟨bz,0,none⟩)):=hold 0 rfl;clear hold hdep hdl hcl hLi;go_simp;(exact hK.out _ _ y HSt.out rfl (fun j hj hl=>⟨hl,fun u h=>h⟩))
   ·intro L y a wx hSt hLi hdl hcl hold hdep K hK
    have HSt:Hid (St6 x.fs w2 (w.heap.size+1) ru (.mk k2 n2 ks2) is (L 9) (L 12) (L 14) y wx):=hSt;clear hSt;have t2:a.tmps[2]? = some (.slice ae is.length ce):=hold 2 rfl;clear hold hdep hdl hcl hLi;go_simp;(exact hK.out _ _ y HSt.out rfl (fun j hj hl=>⟨hl,fun u h=>h⟩))
   ·intro L y a wx hSt hLi hdl hcl hold hdep K hK
    have HSt:Hid (St6 x.fs w2 (w.heap.size+1) ru (.mk k2 n2 ks2) is (L 9) (L 12) (L 14) y wx):=hSt;clear hSt;obtain⟨v53,t53,q53⟩:=hdep 10 rfl _ 53 rfl rfl;have e53:v53=(.pointer (some ⟨bz,0,none⟩)):=q53 rfl;subst e53;obtain⟨v54,t54,q54⟩:=hdep 11 rfl _ 54 rfl rfl;have e54:v54=(.slice ae is.length ce):=q54 rfl;subst e54;(have e14:L 14=false:=QCb hLi fun h=>hcl 14 _ rfl h 12 rfl);clear hold hdep hdl;go_simp;refine (HSq.out wx (HSt.out.below e14)).mono ?_;rintro e w3 ⟨u1,u2,rfl,hu1,hu2,hb3⟩;refine hK.out _ _ { y with u1:=u1,u2:=u2 } (HSt.out.side hLi e14 hb3 hu1 hu2) rfl ?_;intro j hj hl;(refine⟨rfl,fun u h => ?_⟩)
    rcases j with _|_|_|_|_|_|_|_|_|_|_|_|_|_|_|j
    ·exact h
    ·exact h
    ·exact h
    ·exact h
    ·exact h
    ·exact h
    ·exact h
    ·exact h
    ·exact h
    ·exact h
    ·exact h
    ·exact h
    ·exact Bool.noConfusion (hLi.symm.trans hj)
    ·exact Bool.noConfusion (hLi.symm.trans (hcl 13 _ rfl hj 12 rfl))
    ·exact h
    ·exact h
   ·intro L y a wx hSt hLi hdl hcl hold hdep K hK
    have HSt:Hid (St6 x.fs w2 (w.heap.size+1) ru (.mk k2 n2 ks2) is (L 9) (L 12) (L 14) y wx):=hSt;clear hSt;obtain⟨v44,t44,q44⟩:=hdep 1 rfl _ 44 rfl rfl;have e44:v44=(.string ru):=q44 rfl;subst e44;obtain⟨v52,t52,q52⟩:=hdep 9 rfl _ 52 rfl rfl;have e52:v52=(.agg #[y.c0,y.c1,y.c2]):=q52 rfl;subst e52;obtain⟨v55,t55,q55⟩:=hdep 12 rfl _ 55 rfl rfl;have e55:v55=(.agg #[y.u1,y.u2]):=q55 rfl;subst e55;clear hold hdep hdl hcl hLi;go_simp;(exact hK.out _ _ y HSt.out rfl (fun j hj hl=>⟨hl,fun u h=>h⟩))
   ·intro L y a wx hSt hLi hdl hcl hold hdep K hK
    have HSt:Hid (St6 x.fs w2 (w.heap.size+1) ru (.mk k2 n2 ks2) is (L 9) (L 12) (L 14) y wx):=hSt;clear hSt;have e9:=hdl 9 rfl;have e12:=hdl 12 rfl;obtain⟨c0,c1,c2,u1,u2⟩:=y;obtain⟨sl9,cap9,hv9⟩:=QAU (HSt.out.form e9);simp only [Value.agg.injEq,Array.mk.injEq,List.cons.injEq,and_true] at hv9;obtain⟨rfl,rfl,rfl⟩:=hv9;obtain⟨ad1,cp1,rfl,-⟩:=(HSt.out.ends e12).1;obtain⟨ad2,cp2,rfl,-⟩:=(HSt.out.ends e12).2;have t8:a.tmps[8]? = some (.pointer (some ⟨w.heap.size+1,0,none⟩)):=hold 8 rfl;obtain⟨v56,t56,q56⟩:=hdep 13 rfl _ 56 rfl rfl;have e56:v56=(.agg #[.string ru,.int .i64 k2,.string n2,.slice sl9 ks2.length cap9,.slice ad1 (QAW x.fs is).length cp1,.slice ad2 (QAX x.fs is).length cp2,.slice none 0 0]):=q56 rfl;subst e56
    have hbx:wx.heap[w.heap.size+1]? = some (.cells #[.string ⟨#[]⟩,.int .i64 0,.string ⟨#[]⟩,.slice none 0 0,.slice none 0 0,.slice none 0 0,.slice none 0 0] 32 (0,0)):=by
     have h:=HSt.out.box;rw [hLi] at h;exact h
    obtain⟨y0,y1,y2,y3,y4,y5,y6⟩:=QAj hbx;obtain⟨f0,f1,f2,f3,f4,f5,f6⟩:=QCT hbx;clear hold hdep hdl hcl hbx e9 e12;go_simp;obtain⟨w9,hw9⟩:∃ w9,w9=QBT wx (w.heap.size+1) (.string ru) (.int .i64 k2) (.string n2) (.slice sl9 ks2.length cap9) (.slice ad1 (QAW x.fs is).length cp1) (.slice ad2 (QAX x.fs is).length cp2) (.slice none 0 0):=⟨_,rfl⟩
    change K a (QBT wx (w.heap.size+1) (.string ru) (.int .i64 k2) (.string n2) (.slice sl9 ks2.length cap9) (.slice ad1 (QAW x.fs is).length cp1) (.slice ad2 (QAX x.fs is).length cp2) (.slice none 0 0))
    (have hS9:=HSt.out.store hLi (by omega));rw [← hw9];simp only [← hw9] at hS9;clear hw9;refine hK.out (.bool false) _ _ hS9 trivial ?_;intro j hj hl;(refine⟨rfl,fun u h => ?_⟩)
    rcases j with _|_|_|_|_|_|_|_|_|_|_|_|_|_|_|j
    ·exact h
    ·exact h
    ·exact h
    ·exact h
    ·exact h
    ·exact h
    ·exact h
    ·exact h
    ·exact h
    ·exact h
    ·exact h
    ·exact h
    ·exact h
    ·exact h
    ·exact h
    ·exact h
  ·intro L y a wx hall hSt hsz hdf hold hgot
   have e9:L 9=true:=hall 9 (Nat.le_of_ble_eq_true rfl);have e12:L 12=true:=hall 12 (Nat.le_of_ble_eq_true rfl);have e14:L 14=true:=hall 14 (Nat.le_of_ble_eq_true rfl);have hS:St6 x.fs w2 (w.heap.size+1) ru (.mk k2 n2 ks2) is (L 9) (L 12) (L 14) y wx:=hSt;rw [e9,e12,e14] at hS;obtain⟨c0,c1,c2,u1,u2⟩:=y;have HS6:Hid (St6 x.fs w2 (w.heap.size+1) ru (.mk k2 n2 ks2) is true true true ⟨c0,c1,c2,u1,u2⟩ wx):=hS;obtain⟨tm,df⟩:=a;(obtain⟨ys,hys,htm,rfl⟩:=QFc 43 14 (by kernel_rfl) (Nat.le_of_ble_eq_true rfl) ⟨hsz,hdf,hold⟩);obtain⟨x43,x44,x45,x46,x47,x48,x49,x50,x51,x52,x53,x54,x55,x56,rfl⟩:=QKX ys hys;simp only [List.take_succ_cons,List.take_zero,List.drop_succ_cons,List.drop_zero,List.cons_append,List.nil_append] at htm;subst htm;clear hys hold hgot hall hSt hS hsz hdf e9 e12 e14;obtain⟨sl9,cap9,hv9⟩:=QAU (HS6.out.form rfl);simp only [Value.agg.injEq,Array.mk.injEq,List.cons.injEq,and_true] at hv9;obtain⟨rfl,rfl,rfl⟩:=hv9;obtain⟨ad1,cp1,rfl,-⟩:=(HS6.out.ends rfl).1;obtain⟨ad2,cp2,rfl,-⟩:=(HS6.out.ends rfl).2;have hz6:w2.heap.size≤wx.heap.size:=HS6.out.kept.size;obtain⟨S1,hS1⟩:∃ S1,S1=wx.heap.size:=⟨_,rfl⟩
   have HR4:Hid (st+1≤20000∧deep≤400∧is.length≤60∧nd+m≤2097152):=by
    have h9:=HRb.out.symm;simp only [Bool.and_eq_true,decide_eq_true_eq] at h9;exact⟨h9.1.1.1,h9.1.1.2,h9.1.2,h9.2⟩
   (have mv:∀ b,b < wx.heap.size→w2.heap.size≤b→wx.heap[b]? = wx.heap[b]? ∧ (w.heap.size+2≤b∧b < S1):=fun b hb h=>⟨rfl,by omega,by omega⟩)
   have HL0:Hid (QMA x w S1 bz lean st nd deep ru i kids is (.int .i64 k2) (.string n2) (.slice sl9 ks2.length cap9) (.slice ad1 (QAW x.fs is).length cp1) (.slice ad2 (QAX x.fs is).length cp2) (.cells #[.string ru,.int .i64 (i:Nat),.slice an needs.length cn,.slice sl kids.length cap] 85 (0,0)) wx 0 none 0 [] (st+1) (nd+m)) :=
    {
     wst:=HW2.out.next (fun b hb hk=>HS6.out.kept.block b hb (by
      rcases hk with hk|hk
      ·have:=(HW0.out.kz b hk).2
       omega
      ·omega)) hz6
     kept:=QAM HKw2.out HS6.out.kept fun b hb _=>by omega
     s1:=by omega
     s1':=by omega
     b5:=(HS6.out.kept.block _ (QAE R5.out) (by omega)).trans R5.out
     bo:=HS6.out.box
     form:=by rw [HFe.out];exact (HS6.out.form rfl).move mv
     le:=(HS6.out.ends rfl).1.move mv
     re:=(HS6.out.ends rfl).2.move mv
     row:=KF.nil
     klen:=rfl
     ok:=fun j q p pr _ _ h=>by simp at h
     steps:=by rw [Pf.sizes]
     fits:=⟨HR4.out.1,HR4.out.2.2.2⟩
     cnt:=fun _=>by rw [HM.out];exact Cnt.zero _ _ _ _ }
   (have R6:Hid (wx.heap[w.heap.size]? = some (.cells #[.string ru,.int .i64 (i:Nat),.slice an needs.length cn,.slice sl kids.length cap] 85 (0,0))):=(HS6.out.kept.block _ (QAE R5.out) (by omega)).trans R5.out);have HS1':Hid (S1=wx.heap.size):=hS1;clear mv hS1;obtain⟨d0,d1,d2,d3,-⟩:=QAn R6.out;go_wp2_with fail
   go_loopg [60] kids.length (fun g c wr=>∃ k ad cp ks st' nd',k≤kids.length∧g=kids.length - k∧c = .int .i64 (k:Nat)∧Hid (QMA x w S1 bz lean st nd deep ru i kids is (.int .i64 k2) (.string n2) (.slice sl9 ks2.length cap9) (.slice ad1 (QAW x.fs is).length cp1) (.slice ad2 (QAX x.fs is).length cp2) (.cells #[.string ru,.int .i64 (i:Nat),.slice an needs.length cn,.slice sl kids.length cap] 85 (0,0)) wr k ad cp ks st' nd'))
   case atStart=>exact⟨0,none,0,[],st+1,nd+m,by omega,by omega,rfl,HL0⟩
   case round =>
    clear d0 d1 d2 d3;obtain⟨k,ad,cp,ks,stk,ndk,hk,hg,rfl,HLk⟩:=hrel;have HG:Hid (gk=kids.length - k):=hg;clear hg;by_cases hlt:k < kids.length
    ·have hne:kids≠[]:=fun e=>by rw [e] at hlt;exact absurd hlt (Nat.not_lt_zero _)
     obtain⟨⟨ra,ri,rn,rk⟩,hkp⟩:∃ kp,kids[k]? = some kp:=⟨_,List.getElem?_eq_getElem hlt⟩;obtain⟨b9,off9,cs,rfl,hb9,hcells,hplans⟩:=HKs.out hne
     obtain⟨pr,hpr⟩:∃ pr,(QAP x.ps i).2[k]? = some pr:=by
      refine⟨_,List.getElem?_eq_getElem ?_⟩
      rcases HLen.out with e|e
      ·exact absurd e hne
      ·omega
     have hPk:=hplans k _ hkp;obtain⟨an',cn',sl',cap',hv',-⟩:=hPk.parts;rw [hv'] at hPk;simp only [Value.agg.injEq,Array.mk.injEq,List.cons.injEq,and_true] at hv';(have hlt9:b9 < w.heap.size:=QAI (hcells 0 (by omega)));have hB9:=HLk.out.kept.block b9 hlt9 hb9;(have g0:wr.cell? ⟨b9,off9+k * 4,none⟩=some (.string ra):=by rw [← hv'.1];exact (QAQ (a:=⟨b9,off9+k * 4,none⟩) hB9).trans (hcells (k * 4) (by omega)));(have g1:wr.cell? ⟨b9,off9+k * 4+1,none⟩=some (.int .i64 (ri:Nat)):=by rw [← hv'.2.1];exact (QAQ (a:=⟨b9,off9+k * 4+1,none⟩) hB9).trans (hcells (k * 4+1) (by omega)));(have g2:wr.cell? ⟨b9,off9+k * 4+2,none⟩=some (.slice an' rn.length cn'):=by rw [← hv'.2.2.1];exact (QAQ (a:=⟨b9,off9+k * 4+2,none⟩) hB9).trans (hcells (k * 4+2) (by omega)));(have g3:wr.cell? ⟨b9,off9+k * 4+3,none⟩=some (.slice sl' rk.length cap'):=by rw [← hv'.2.2.2];exact (QAQ (a:=⟨b9,off9+k * 4+3,none⟩) hB9).trans (hcells (k * 4+3) (by omega)));(have HPk:Hid (PlanR (fun b=>b≠bz) wr (.mk ra ri rn rk) (.agg #[.string ra,.int .i64 (ri:Nat),.slice an' rn.length cn',.slice sl' rk.length cap'])):=hPk.move fun b hb hp=>⟨HLk.out.kept.block b hb hp,hp⟩);have HKp:Hid (kids[k]? = some (.mk ra ri rn rk)):=hkp;have HPr0:Hid ((QAP x.ps i).2[k]? = some pr):=hpr;(have hltI:(k:Int) < (kids.length:Int):=by omega);(have hltc:(k:Int) < (cap:Int):=by omega);obtain⟨its2,hi2'⟩:∃ its2,its2=is.erase i++pr:=⟨_,rfl⟩;have hprm:=List.mem_of_getElem? hpr;obtain⟨hpr2,hprL⟩:=HWp.out.2 pr hprm
     have hle2:its2.length≤62:=by
      have h1:=HR4.out.2.2.1;have h2:=List.length_erase_of_mem HIs.out;rw [hi2',List.length_append];omega
     have HI2:Hid (∀ y∈its2,y < x.L):=fun y hy=>by
      rw [hi2'] at hy
      rcases List.mem_append.1 hy with h|h
      ·exact HBd.out y (List.mem_of_mem_erase h)
      ·exact hprL y h
     have HN2:Hid (∀ y∈rn,y∈its2):=fun y hy=>by
      rw [hi2']
      rcases HNd.out k _ pr hkp hpr y hy with h|h
      ·exact List.mem_append_right _ h
      ·exact List.mem_append_left _ ((List.mem_erase_of_ne fun e=>HNi.out _ (List.mem_of_getElem? hkp) (by rw [← e];exact hy)).2 (HSub.out y h))
     have HM2:Hid (x.nods its2+kids.length≤x.nods is):=by
      show _≤_;rw [hi2'];(have h1:=QGd HTo.out (List.getElem?_eq_getElem hi2) (HPl.out _ (by rw [← HTo.out.len];exact hi2)) HIs.out hprm)
      rcases HLen.out with e|e
      ·exact absurd e hne
      ·omega
     have HE2:Hid (its2=is.erase i++pr):=hi2';(have hd1:((deep+1:Nat):Int)=(deep:Int)+1:=by omega);obtain⟨W9,hW9⟩:∃ W9,W9=wr.alloc (.cells #[.string ra,.int .i64 (ri:Nat),.slice an' rn.length cn',.slice sl' rk.length cap'] 85 (0,0)):=⟨_,rfl⟩;(have hb9':Below wr.heap.size wr W9:=by rw [hW9];exact QAB (Below.refl _ wr) _);have HB9:Hid (Below wr.heap.size wr W9):=hb9';(have HZ9:Hid (W9.heap.size=wr.heap.size+1):=by show _=_;rw [hW9];simp);have HWk:Hid (WrSt x W9 bz lean stk ndk):=HLk.out.wst.up hb9';have S5:Hid (W9.heap[w.heap.size]? = some (.cells #[.string ru,.int .i64 (i:Nat),.slice an needs.length cn,.slice (some ⟨b9,off9,none⟩) kids.length cap] 85 (0,0))):=QAA hb9' HLk.out.b5;(have S13:Hid (W9.heap[wr.heap.size]? = some (.cells #[.string ra,.int .i64 (ri:Nat),.slice an' rn.length cn',.slice sl' rk.length cap'] 85 (0,0))):=by rw [hW9];exact QAH wr _);(have hzr:w.heap.size+2≤wr.heap.size:=by have h1:=HLk.out.s1;have h2:=HLk.out.s1';omega);have hzz:W9.heap.size=wr.heap.size+1:=HZ9.out;(have HIi9:Hid (IRow (fun b=>b≠bz) W9 (.slice ae is.length ce) is):=HVi.out.move fun b hb hp=>⟨(hb9'.block b (by omega)).trans (HLk.out.kept.block b hb hp),hp⟩)
     have HPr:Hid (∀ W,Below W9.heap.size W9 W→Calls Tryz.prog 148 #[.pointer (some ⟨bz,0,none⟩),.int .i64 (i:Nat),.int .i64 (k:Nat),.slice ae is.length ce] W fun e w'=>∃ ad cp,e = .returned (.slice ad its2.length cp)∧IRow (fun b=>b≠bz) w' (.slice ad its2.length cp) its2∧Below W.heap.size W w'):=fun W hb=>by
      (have hp9:=QIb (HWk.out.up hb) i k is pr _ (HIi9.out.move fun b hl hp=>⟨hb.block b hl,hp⟩) HIs.out hiL hpr (by omega) (by omega));rw [← hi2'] at hp9;refine hp9.mono ?_;rintro e w' ⟨ad,cp,he,ho,hb'⟩
      exact⟨ad,cp,he,QCt ho fun b hb2=>by
       have h1:=(ho.lt b hb2).1;have h2:=hb.size
       omega,hb'⟩
     have HCall:Hid (∀ W ad cp,Below W9.heap.size W9 W→IRow (fun b=>b≠bz) W (.slice ad its2.length cp) its2→Calls Tryz.prog 103 #[.pointer (some ⟨bz,0,none⟩),.agg #[.string ra,.int .i64 (ri:Nat),.slice an' rn.length cn',.slice sl' rk.length cap'],.slice ad its2.length cp,.int .i64 ((deep:Int)+1)] W (QFR x W bz lean stk ndk (deep+1) (.mk ra ri rn rk) its2)):=fun W ad cp hb hr=>by
      (have h:=HKid.out k _ hkp W bz lean stk ndk (deep+1) its2 _ _ (HWk.out.up hb) (HPk.out.move fun b hl hp=>⟨(hb.block b (by omega)).trans (hb9'.block b hl),hp⟩) hr HI2.out HN2.out (by omega) HLk.out.fits.1 HLk.out.fits.2 (by have:=HR4.out.2.1;omega) (fun e=>(by cases e)));rw [hd1] at h;exact h
     have HWe9:Hid (wr.alloc (.cells #[.string ra,.int .i64 (ri:Nat),.slice an' rn.length cn',.slice sl' rk.length cap'] 85 (0,0))=W9):=hW9.symm;(have HKK:Hid (∀ b,x.K b→b < W9.heap.size):=fun b hb=>by have:=(HW0.out.kz b hb).2;omega);clear hcells hplans hPk hv' hB9 hkp hpr hne hi2' hprm hpr2 hprL hd1 hW9 hb9';go_wp2_with fail;rw [HWe9.out];(refine QBv (by kernel_rfl) (by kernel_rfl) (by kernel_rfl) 90 rfl (by kernel_rfl) [fun _ v _=>v=(.pointer (some ⟨bz,0,none⟩)),fun _ v _=>v=(.agg #[.string ra,.int .i64 (ri:Nat),.slice an' rn.length cn',.slice sl' rk.length cap']),fun _ v _=>v=(.pointer (some ⟨bz,0,none⟩)),fun _ v _=>v=(.pointer (some ⟨w.heap.size,1,none⟩)),fun _ v _=>v=(.int .i64 (i:Nat)),fun _ v _=>v=(.int .i64 (k:Nat)),fun _ v _=>v=(.slice ae is.length ce),fun _ v w=>∃ ad cp,v = .slice ad its2.length cp∧IRow (fun b=>b≠bz) w (.slice ad its2.length cp) its2,fun _ v _=>v=(.int .i64 (deep:Nat)),fun _ v _=>v=(.int .i64 ((deep:Int)+1)),fun y v _=>v = .tuple #[y.kid,.bool y.fits],fun y v _=>v = .tuple #[y.kid,.bool y.fits],fun y v _=>v=y.kid,fun y v _=>v = .bool y.fits,fun y v _=>v = .pointer (some ⟨y.g,0,none⟩),fun _ _ _=>True,fun y v _=>v = .bool y.fits] (fun L j=>!(j == 7 && L 10)) (fun L=>StW x W9 bz lean (KidPost x lean stk ndk (deep+1) (.mk ra ri rn rk) its2) (L 10) (L 14) (L 15)) (GW.none0) ?_ ?_ ?_)
     ·exact fun wx h _=>StW.start _ h
     ·refine⟨?_,?_,?_,?_,?_,?_,?_,?_,?_,?_,?_,?_,?_,?_,?_,?_,?_,trivial⟩
      ·intro L y a wx hSt hLi hdl hcl hold hdep K hK
       have HSt:Hid (StW x W9 bz lean (KidPost x lean stk ndk (deep+1) (.mk ra ri rn rk) its2) (L 10) (L 14) (L 15) y wx):=hSt;clear hSt;have t0:a.tmps[0]? = some (.pointer (some ⟨bz,0,none⟩)):=hold 0 rfl;clear hold hdep hdl hcl hLi;go_simp;(exact hK.out _ _ y HSt.out rfl (fun j hj hl=>⟨hl,fun u h=>h⟩))
      ·intro L y a wx hSt hLi hdl hcl hold hdep K hK
       have HSt:Hid (StW x W9 bz lean (KidPost x lean stk ndk (deep+1) (.mk ra ri rn rk) its2) (L 10) (L 14) (L 15) y wx):=hSt;clear hSt;have t13:a.tmps[13]? = some (.pointer (some ⟨wr.heap.size,0,none⟩)):=hold 13 rfl;(obtain⟨d0,d1,d2,d3,-⟩:=QAn ((HSt.out.kept.block _ (QAE S13.out) (by omega)).trans S13.out));clear hold hdep hdl hcl hLi;go_simp;(exact hK.out _ _ y HSt.out rfl (fun j hj hl=>⟨hl,fun u h=>h⟩))
      ·intro L y a wx hSt hLi hdl hcl hold hdep K hK
       have HSt:Hid (StW x W9 bz lean (KidPost x lean stk ndk (deep+1) (.mk ra ri rn rk) its2) (L 10) (L 14) (L 15) y wx):=hSt;clear hSt;have t0:a.tmps[0]? = some (.pointer (some ⟨bz,0,none⟩)):=hold 0 rfl;clear hold hdep hdl hcl hLi;go_simp;(exact hK.out _ _ y HSt.out rfl (fun j hj hl=>⟨hl,fun u h=>h⟩))
      ·intro L y a wx hSt hLi hdl hcl hold hdep K hK
       have HSt:Hid (StW x W9 bz lean (KidPost x lean stk ndk (deep+1) (.mk ra ri rn rk) its2) (L 10) (L 14) (L 15) y wx):=hSt;clear hSt;have t5:a.tmps[5]? = some (.pointer (some ⟨w.heap.size,0,none⟩)):=hold 5 rfl;clear hold hdep hdl hcl hLi;go_simp;(exact hK.out _ _ y HSt.out rfl (fun j hj hl=>⟨hl,fun u h=>h⟩))
      ·intro L y a wx hSt hLi hdl hcl hold hdep K hK
       have HSt:Hid (StW x W9 bz lean (KidPost x lean stk ndk (deep+1) (.mk ra ri rn rk) its2) (L 10) (L 14) (L 15) y wx):=hSt;clear hSt;obtain⟨v69,t69,q69⟩:=hdep 3 rfl _ 69 rfl rfl;have e69:v69=(.pointer (some ⟨w.heap.size,1,none⟩)):=q69 rfl;subst e69;(obtain⟨d0,d1,d2,d3,-⟩:=QAn ((HSt.out.kept.block _ (QAE S5.out) (by omega)).trans S5.out));clear hold hdep hdl hcl hLi;go_simp;(exact hK.out _ _ y HSt.out rfl (fun j hj hl=>⟨hl,fun u h=>h⟩))
      ·intro L y a wx hSt hLi hdl hcl hold hdep K hK
       have HSt:Hid (StW x W9 bz lean (KidPost x lean stk ndk (deep+1) (.mk ra ri rn rk) its2) (L 10) (L 14) (L 15) y wx):=hSt;clear hSt;have t12:a.tmps[12]? = some (.int .i64 (k:Nat)):=hold 12 rfl;clear hold hdep hdl hcl hLi;go_simp;(exact hK.out _ _ y HSt.out rfl (fun j hj hl=>⟨hl,fun u h=>h⟩))
      ·intro L y a wx hSt hLi hdl hcl hold hdep K hK
       have HSt:Hid (StW x W9 bz lean (KidPost x lean stk ndk (deep+1) (.mk ra ri rn rk) its2) (L 10) (L 14) (L 15) y wx):=hSt;clear hSt;have t2:a.tmps[2]? = some (.slice ae is.length ce):=hold 2 rfl;clear hold hdep hdl hcl hLi;go_simp;(exact hK.out _ _ y HSt.out rfl (fun j hj hl=>⟨hl,fun u h=>h⟩))
      ·intro L y a wx hSt hLi hdl hcl hold hdep K hK
       have HSt:Hid (StW x W9 bz lean (KidPost x lean stk ndk (deep+1) (.mk ra ri rn rk) its2) (L 10) (L 14) (L 15) y wx):=hSt;clear hSt;obtain⟨v68,t68,q68⟩:=hdep 2 rfl _ 68 rfl rfl;have e68:v68=(.pointer (some ⟨bz,0,none⟩)):=q68 rfl;subst e68;obtain⟨v70,t70,q70⟩:=hdep 4 rfl _ 70 rfl rfl;have e70:v70=(.int .i64 (i:Nat)):=q70 rfl;subst e70;obtain⟨v71,t71,q71⟩:=hdep 5 rfl _ 71 rfl rfl;have e71:v71=(.int .i64 (k:Nat)):=q71 rfl;subst e71;obtain⟨v72,t72,q72⟩:=hdep 6 rfl _ 72 rfl rfl;have e72:v72=(.slice ae is.length ce):=q72 rfl;subst e72;(have e10:L 10=false:=QCb hLi fun h=>hcl 10 _ rfl h 7 rfl);clear hold hdep hdl;go_simp;refine (HPr.out wx (HSt.out.below e10)).mono ?_;rintro e w3 ⟨ad7,cp7,rfl,hr7,hb3⟩;refine hK.out _ _ y (HSt.out.up e10 hb3) ⟨ad7,cp7,rfl,hr7⟩ ?_;intro j hj hl
       rcases j with _|_|_|_|_|_|_|_|_|_|_|_|_|_|_|_|_|j
       ·exact⟨hl,fun u h=>h⟩
       ·exact⟨hl,fun u h=>h⟩
       ·exact⟨hl,fun u h=>h⟩
       ·exact⟨hl,fun u h=>h⟩
       ·exact⟨hl,fun u h=>h⟩
       ·exact⟨hl,fun u h=>h⟩
       ·exact⟨hl,fun u h=>h⟩
       ·exact Bool.noConfusion (hLi.symm.trans hj)
       ·exact⟨hl,fun u h=>h⟩
       ·exact⟨hl,fun u h=>h⟩
       ·exact⟨hl,fun u h=>h⟩
       ·exact⟨hl,fun u h=>h⟩
       ·exact⟨hl,fun u h=>h⟩
       ·exact⟨hl,fun u h=>h⟩
       ·exact⟨hl,fun u h=>h⟩
       ·exact⟨hl,fun u h=>h⟩
       ·exact⟨hl,fun u h=>h⟩
       ·exact⟨hl,fun u h=>h⟩
      ·intro L y a wx hSt hLi hdl hcl hold hdep K hK
       have HSt:Hid (StW x W9 bz lean (KidPost x lean stk ndk (deep+1) (.mk ra ri rn rk) its2) (L 10) (L 14) (L 15) y wx):=hSt;clear hSt;have t3:a.tmps[3]? = some (.int .i64 (deep:Nat)):=hold 3 rfl;clear hold hdep hdl hcl hLi;go_simp;(exact hK.out _ _ y HSt.out rfl (fun j hj hl=>⟨hl,fun u h=>h⟩))
      ·intro L y a wx hSt hLi hdl hcl hold hdep K hK
       have HSt:Hid (StW x W9 bz lean (KidPost x lean stk ndk (deep+1) (.mk ra ri rn rk) its2) (L 10) (L 14) (L 15) y wx):=hSt;clear hSt;obtain⟨v74,t74,q74⟩:=hdep 8 rfl _ 74 rfl rfl;have e74:v74=(.int .i64 (deep:Nat)):=q74 rfl;subst e74;(have hwr:IntKind.i64.wrap ((deep:Int)+1)=(deep:Int)+1:=by rw [IntKind.wrap_i64];omega);clear hold hdep hdl hcl hLi;go_simp;(exact hK.out _ _ y HSt.out rfl (fun j hj hl=>⟨hl,fun u h=>h⟩))
      ·intro L y a wx hSt hLi hdl hcl hold hdep K hK
       have HSt:Hid (StW x W9 bz lean (KidPost x lean stk ndk (deep+1) (.mk ra ri rn rk) its2) (L 10) (L 14) (L 15) y wx):=hSt;clear hSt;obtain⟨v66,t66,q66⟩:=hdep 0 rfl _ 66 rfl rfl;have e66:v66=(.pointer (some ⟨bz,0,none⟩)):=q66 rfl;subst e66;obtain⟨v67,t67,q67⟩:=hdep 1 rfl _ 67 rfl rfl;have e67:v67=(.agg #[.string ra,.int .i64 (ri:Nat),.slice an' rn.length cn',.slice sl' rk.length cap']):=q67 rfl;subst e67;obtain⟨v73,t73,q73⟩:=hdep 7 rfl _ 73 rfl rfl;(obtain⟨ad7,cp7,e73,hr7⟩:=q73 (by show (!(L 10))=true;rw [hLi];rfl));subst e73;(have HR7:Hid (IRow (fun b=>b≠bz) wx (.slice ad7 its2.length cp7) its2):=hr7);obtain⟨v75,t75,q75⟩:=hdep 9 rfl _ 75 rfl rfl;have e75:v75=(.int .i64 ((deep:Int)+1)):=q75 rfl;subst e75;(have e15:L 15=false:=QCb hLi fun h=>hcl 15 _ rfl h 10 rfl);clear hold hdep hdl hr7;go_simp;refine (HCall.out wx ad7 cp7 (HSt.out.below hLi) HR7.out).mono ?_;rintro e w3 ⟨P,pv,fits,st3,nd3,rfl,hP3,hw3,hk3,hf3,hf4⟩;obtain⟨a3,⟨k3,n3,kf3⟩,l3,r3,ks3⟩:=P;obtain⟨sf3,cf3,al3,cl3,ar3,cr3,sl3,cap3,rfl,-⟩:=hP3.parts;(refine hK.out _ _ _ (HSt.out.call e15 (by omega) hP3 hw3 hk3 ⟨hf3,hf4⟩) rfl ?_);intro j hj hl
       rcases j with _|_|_|_|_|_|_|_|_|_|_|_|_|_|_|_|_|j
       ·exact⟨hl,fun u h=>h⟩
       ·exact⟨hl,fun u h=>h⟩
       ·exact⟨hl,fun u h=>h⟩
       ·exact⟨hl,fun u h=>h⟩
       ·exact⟨hl,fun u h=>h⟩
       ·exact⟨hl,fun u h=>h⟩
       ·exact⟨hl,fun u h=>h⟩
       ·exact Bool.noConfusion (show (false:Bool)=true from hl)
       ·exact⟨hl,fun u h=>h⟩
       ·exact⟨hl,fun u h=>h⟩
       ·exact Bool.noConfusion (hLi.symm.trans hj)
       ·exact Bool.noConfusion (hLi.symm.trans (hcl 11 _ rfl hj 10 rfl))
       ·exact Bool.noConfusion (hLi.symm.trans (hcl 11 _ rfl (hcl 12 _ rfl hj 11 rfl) 10 rfl))
       ·exact Bool.noConfusion (hLi.symm.trans (hcl 11 _ rfl (hcl 13 _ rfl hj 11 rfl) 10 rfl))
       ·exact⟨hl,fun u h=>h⟩
       ·exact⟨hl,fun u h=>h⟩
       ·exact Bool.noConfusion (hLi.symm.trans (hcl 16 _ rfl hj 10 rfl))
       ·exact⟨hl,fun u h=>h⟩
      ·intro L y a wx hSt hLi hdl hcl hold hdep K hK
       have HSt:Hid (StW x W9 bz lean (KidPost x lean stk ndk (deep+1) (.mk ra ri rn rk) its2) (L 10) (L 14) (L 15) y wx):=hSt;clear hSt;obtain⟨v76,t76,q76⟩:=hdep 10 rfl _ 76 rfl rfl;have e76:v76=(.tuple #[y.kid,.bool y.fits]):=q76 rfl;subst e76;clear hold hdep hdl hcl hLi;go_simp;(exact hK.out _ _ y HSt.out rfl (fun j hj hl=>⟨hl,fun u h=>h⟩))
      ·intro L y a wx hSt hLi hdl hcl hold hdep K hK
       have HSt:Hid (StW x W9 bz lean (KidPost x lean stk ndk (deep+1) (.mk ra ri rn rk) its2) (L 10) (L 14) (L 15) y wx):=hSt;clear hSt;obtain⟨v65,t65,q65⟩:=hdep 11 rfl _ 65 rfl rfl;have e65:v65=(.tuple #[y.kid,.bool y.fits]):=q65 rfl;subst e65;clear hold hdep hdl hcl hLi;go_simp;(exact hK.out _ _ y HSt.out rfl (fun j hj hl=>⟨hl,fun u h=>h⟩))
      ·intro L y a wx hSt hLi hdl hcl hold hdep K hK
       have HSt:Hid (StW x W9 bz lean (KidPost x lean stk ndk (deep+1) (.mk ra ri rn rk) its2) (L 10) (L 14) (L 15) y wx):=hSt;clear hSt;obtain⟨v65,t65,q65⟩:=hdep 11 rfl _ 65 rfl rfl;have e65:v65=(.tuple #[y.kid,.bool y.fits]):=q65 rfl;subst e65;clear hold hdep hdl hcl hLi;go_simp;(exact hK.out _ _ y HSt.out rfl (fun j hj hl=>⟨hl,fun u h=>h⟩))
      ·intro L y a wx hSt hLi hdl hcl hold hdep K hK
       have HSt:Hid (StW x W9 bz lean (KidPost x lean stk ndk (deep+1) (.mk ra ri rn rk) its2) (L 10) (L 14) (L 15) y wx):=hSt;clear hSt;(have e15:L 15=false:=QCb hLi fun h=>hcl 15 _ rfl h 14 rfl);clear hold hdep hdl;go_simp;refine hK.out _ _ _ (HSt.out.alloc KidPost.eq hLi e15) rfl ?_;intro j hj hl
       rcases j with _|_|_|_|_|_|_|_|_|_|_|_|_|_|_|_|_|j
       ·exact⟨hl,fun u h=>h⟩
       ·exact⟨hl,fun u h=>h⟩
       ·exact⟨hl,fun u h=>h⟩
       ·exact⟨hl,fun u h=>h⟩
       ·exact⟨hl,fun u h=>h⟩
       ·exact⟨hl,fun u h=>h⟩
       ·exact⟨hl,fun u h=>h⟩
       ·exact⟨hl,fun u ⟨ad,cp,e,h⟩=>⟨ad,cp,e,h.move fun b hb hp=>⟨Below.heap_alloc _ _ _ hb,hp⟩⟩⟩
       ·exact⟨hl,fun u h=>h⟩
       ·exact⟨hl,fun u h=>h⟩
       ·exact⟨hl,fun u h=>h⟩
       ·exact⟨hl,fun u h=>h⟩
       ·exact⟨hl,fun u h=>h⟩
       ·exact⟨hl,fun u h=>h⟩
       ·exact Bool.noConfusion (hLi.symm.trans hj)
       ·exact⟨hl,fun u h=>h⟩
       ·exact⟨hl,fun u h=>h⟩
       ·exact⟨hl,fun u h=>h⟩
      ·intro L y a wx hSt hLi hdl hcl hold hdep K hK
       have HSt:Hid (StW x W9 bz lean (KidPost x lean stk ndk (deep+1) (.mk ra ri rn rk) its2) (L 10) (L 14) (L 15) y wx):=hSt;clear hSt;have e10:=hdl 10 rfl;have e14:=hdl 14 rfl;obtain⟨g,⟨a3,⟨k3,n3,kf3⟩,l3,r3,ks3⟩,q0,q1,q2,q3,q4,q5,q6,fits,st3,nd3⟩:=y;obtain⟨sf3,cf3,al3,cl3,ar3,cr3,sl3,cap3,hv3,-⟩:=(HSt.out.done e10).2.1.parts;simp only [GW.kid,Value.agg.injEq,Array.mk.injEq,List.cons.injEq,and_true] at hv3;obtain⟨rfl,rfl,rfl,rfl,rfl,rfl,rfl⟩:=hv3;obtain⟨v14,t14,q14⟩:=hdep 14 rfl _ 14 rfl rfl;have e14:v14=(.pointer (some ⟨g,0,none⟩)):=q14 rfl;subst e14;obtain⟨v77,t77,q77⟩:=hdep 12 rfl _ 77 rfl rfl;have e77:v77=(.agg #[.string a3,.int .i64 k3,.string n3,.slice sf3 kf3.length cf3,.slice al3 l3.length cl3,.slice ar3 r3.length cr3,.slice sl3 ks3.length cap3]):=q77 rfl;subst e77
       have hbx:wx.heap[g]? = some (.cells #[.string ⟨#[]⟩,.int .i64 0,.string ⟨#[]⟩,.slice none 0 0,.slice none 0 0,.slice none 0 0,.slice none 0 0] 32 (0,0)):=by
        have h:=(HSt.out.box e14).2;rw [hLi] at h;exact h
       obtain⟨y0,y1,y2,y3,y4,y5,y6⟩:=QAj hbx;obtain⟨f0,f1,f2,f3,f4,f5,f6⟩:=QCT hbx;clear hold hdep hdl hcl hbx;go_simp;obtain⟨w9,hw9⟩:∃ w9,w9=QBT wx g (.string a3) (.int .i64 k3) (.string n3) (.slice sf3 kf3.length cf3) (.slice al3 l3.length cl3) (.slice ar3 r3.length cr3) (.slice sl3 ks3.length cap3):=⟨_,rfl⟩
       change K a (QBT wx g (.string a3) (.int .i64 k3) (.string n3) (.slice sf3 kf3.length cf3) (.slice al3 l3.length cl3) (.slice ar3 r3.length cr3) (.slice sl3 ks3.length cap3))
       (have hS9:=HSt.out.store e10 e14 (by omega) HKK.out hLi);rw [← hw9];simp only [← hw9] at hS9;clear hw9;refine hK.out (.bool false) _ _ hS9 trivial ?_;intro j hj hl
       rcases j with _|_|_|_|_|_|_|_|_|_|_|_|_|_|_|_|_|j
       ·exact⟨hl,fun u h=>h⟩
       ·exact⟨hl,fun u h=>h⟩
       ·exact⟨hl,fun u h=>h⟩
       ·exact⟨hl,fun u h=>h⟩
       ·exact⟨hl,fun u h=>h⟩
       ·exact⟨hl,fun u h=>h⟩
       ·exact⟨hl,fun u h=>h⟩
       ·exact absurd (show (!(L 10))=true from hl) (by rw [e10];exact Bool.noConfusion)
       ·exact⟨hl,fun u h=>h⟩
       ·exact⟨hl,fun u h=>h⟩
       ·exact⟨hl,fun u h=>h⟩
       ·exact⟨hl,fun u h=>h⟩
       ·exact⟨hl,fun u h=>h⟩
       ·exact⟨hl,fun u h=>h⟩
       ·exact⟨hl,fun u h=>h⟩
       ·exact⟨hl,fun u h=>h⟩
       ·exact⟨hl,fun u h=>h⟩
       ·exact⟨hl,fun u h=>h⟩
      ·intro L y a wx hSt hLi hdl hcl hold hdep K hK
       have HSt:Hid (StW x W9 bz lean (KidPost x lean stk ndk (deep+1) (.mk ra ri rn rk) its2) (L 10) (L 14) (L 15) y wx):=hSt;clear hSt;obtain⟨v78,t78,q78⟩:=hdep 13 rfl _ 78 rfl rfl;have e78:v78=(.bool y.fits):=q78 rfl;subst e78;clear hold hdep hdl hcl hLi;go_simp;(exact hK.out _ _ y HSt.out rfl (fun j hj hl=>⟨hl,fun u h=>h⟩))
     ·intro L y a wx hall hSt hsz hdf hold hgot
      have e10:L 10=true:=hall 10 (Nat.le_of_ble_eq_true rfl);have e14:L 14=true:=hall 14 (Nat.le_of_ble_eq_true rfl);have e15:L 15=true:=hall 15 (Nat.le_of_ble_eq_true rfl);have hS:StW x W9 bz lean (KidPost x lean stk ndk (deep+1) (.mk ra ri rn rk) its2) (L 10) (L 14) (L 15) y wx:=hSt;rw [e10,e14,e15] at hS;obtain⟨v14,t14,q14⟩:=hgot 14 _ 14 rfl rfl;have e14':v14 = .pointer (some ⟨y.g,0,none⟩):=q14 rfl;subst e14';obtain⟨v15,t15,q15⟩:=hgot 16 _ 15 rfl rfl;have e15':v15 = .bool y.fits:=q15 rfl;subst e15';obtain⟨tm,df⟩:=a;(obtain⟨ys,zs,hys,hzs,htm,rfl⟩:=QDH 14 2 49 14 16 65 79 rfl rfl rfl (by kernel_rfl) (Nat.le_of_ble_eq_true rfl) ⟨hsz,hdf,hold⟩);obtain⟨x14,x15,rfl⟩:=QOJ ys hys;obtain⟨x65,x66,x67,x68,x69,x70,x71,x72,x73,x74,x75,x76,x77,x78,rfl⟩:=QKX zs hzs;simp only [List.take_succ_cons,List.take_zero,List.drop_succ_cons,List.drop_zero,List.cons_append,List.nil_append] at htm;subst htm;obtain rfl:x14=_:=QAK t14;obtain rfl:x15=_:=QAK t15;clear hys hzs hold hgot hall hSt hsz hdf e10 e14 e15 t14 t15 q14 q15;obtain⟨g,⟨a3,⟨k3,n3,kf3⟩,l3,r3,ks3⟩,q0,q1,q2,q3,q4,q5,q6,fits,st3,nd3⟩:=y;obtain⟨sf3,cf3,al3,cl3,ar3,cr3,sl3,cap3,hv3,-⟩:=(hS.done rfl).2.1.parts;simp only [GW.kid,Value.agg.injEq,Array.mk.injEq,List.cons.injEq,and_true] at hv3;obtain⟨rfl,rfl,rfl,rfl,rfl,rfl,rfl⟩:=hv3;have HS:Hid (StW x W9 bz lean (KidPost x lean stk ndk (deep+1) (.mk ra ri rn rk) its2) true true true ⟨g,.mk a3 (.mk k3 n3 kf3) l3 r3 ks3,.string a3,.int .i64 k3,.string n3,.slice sf3 kf3.length cf3,.slice al3 l3.length cl3,.slice ar3 r3.length cr3,.slice sl3 ks3.length cap3,fits,st3,nd3⟩ wx):=hS;clear hS;(have T8:Hid (wx.heap[w.heap.size+1]? = some (.cells #[.string ru,.int .i64 k2,.string n2,.slice sl9 ks2.length cap9,.slice ad1 (QAW x.fs is).length cp1,.slice ad2 (QAX x.fs is).length cp2,.slice ad ks.length cp] 32 (0,0))):=(HS.out.kept.block _ (by omega) (by omega)).trans (QAA HB9.out HLk.out.bo));have T14:Hid (wx.heap[g]? = some (.cells #[.string a3,.int .i64 k3,.string n3,.slice sf3 kf3.length cf3,.slice al3 l3.length cl3,.slice ar3 r3.length cr3,.slice sl3 ks3.length cap3] 32 (0,0))):=(HS.out.box rfl).2;have hzx:W9.heap.size≤wx.heap.size:=HS.out.kept.size;have hg9:W9.heap.size≤g:=(HS.out.box rfl).1;(have HKx:Hid (Kept (fun b=>b≠bz) w wx):=QAM (QAM HLk.out.kept (QAN (ok:=fun b=>b≠bz) HB9.out fun _ h _=>h) fun _ _ h=>h) HS.out.kept fun _ _ h=>h);(have hlk:kids.length≤2:=by omega);obtain⟨y0,y1,y2,y3,y4,y5,y6⟩:=QAj T8.out;obtain⟨f0,f1,f2,f3,f4,f5,f6⟩:=QCT T8.out
      cases fits
      ·go_wp2_with fail
       obtain⟨Wf,hWf⟩:∃ Wf,Wf=QBT wx (w.heap.size+1) (.string ⟨#[]⟩) (.int .i64 0) (.string ⟨#[]⟩) (.slice none 0 0) (.slice none 0 0) (.slice none 0 0) (.slice none 0 0):=⟨_,rfl⟩
       change bodyPost _ _ _ _ _ (QBT wx (w.heap.size+1) (.string ⟨#[]⟩) (.int .i64 0) (.string ⟨#[]⟩) (.slice none 0 0) (.slice none 0 0) (.slice none 0 0) (.slice none 0 0))
       have hE:=QBL (.string ⟨#[]⟩) (.int .i64 0) (.string ⟨#[]⟩) (.slice none 0 0) (.slice none 0 0) (.slice none 0 0) (.slice none 0 0) T8.out;have hKf:=QBK wx (w.heap.size+1) (.string ⟨#[]⟩) (.int .i64 0) (.string ⟨#[]⟩) (.slice none 0 0) (.slice none 0 0) (.slice none 0 0) (.slice none 0 0);rw [← hWf] at hE hKf ⊢;clear hWf;obtain⟨m0,m1,m2,m3,m4,m5,m6⟩:=QAj hE;(refine bodyPost_ret (v := .tuple #[.agg #[.string ⟨#[]⟩,.int .i64 0,.string ⟨#[]⟩,.slice none 0 0,.slice none 0 0,.slice none 0 0,.slice none 0 0],.bool false]) (by simp [results,Tryz.results103,go_sem,m0,m1,m2,m3,m4,m5,m6]) rfl ⟨_,_,false,st3,nd3,rfl,QFM Wf _,(HS.out.done rfl).1.next (fun b hb hk=>hKf.block b hb ?_) hKf.size,QAM HKx.out hKf fun b hb _=>by omega,fun h=>(by cases h),fun _ hl hR => ?_⟩)
       ·rcases hk with hk|hk
        ·have:=(HW0.out.kz b hk).2
         omega
        ·omega
       ·refine (HS.out.done rfl).2.2.2 rfl hl ?_
        have h9:=(HLk.out.cnt hl).fits hlt hlk HM2.out hR.1 hR.2.1 hR.2.2.1 hR.2.2.2;exact⟨h9.1,h9.2.1,h9.2.2.1,h9.2.2.2⟩
      ·obtain⟨i0,hi0,hz0,hz1',hz2'⟩:=QMX
       obtain⟨t0,t1,t2,t3,t4,t5,t6⟩:=QAj T14.out;have hS1':=HLk.out.s1';have hS1:=HLk.out.s1;obtain⟨O9,hO9⟩:∃ O,O=Obj.cells #[.string a3,.int .i64 k3,.string n3,.slice sf3 kf3.length cf3,.slice al3 l3.length cl3,.slice ar3 r3.length cr3,.slice sl3 ks3.length cap3] 32 (0,0):=⟨_,rfl⟩;have hBa:Below wx.heap.size wx (wx.alloc O9):=QAB (Below.refl _ wx) _;(have hkf:KF (S1≤·) S1 (wx.alloc O9) ad cp ks:=(HLk.out.row.same (w':=wx) fun b hb hl=>(HS.out.kept.block b (by omega) (by omega)).trans (HB9.out.block b hl)).up hBa);obtain⟨csr,hor,-⟩:=HLk.out.row;(have HOw:Hid (∀ b,(Value.slice ad ks.length cp).ownBlock=some b→S1≤b∧b < wr.heap.size):=fun b e=>hor.lt b e);obtain⟨cs9,hown9,hpq9⟩:=hkf;(have HPQ:Hid (PQ (fun b=>S1≤b∧(Value.slice ad ks.length cp).ownBlock≠some b) (wx.alloc O9) cs9 ks):=hpq9);have HON:Hid ((wx.alloc O9).ownsRow S1 32 7 (.slice ad ks.length cp) ks.length cs9):=hown9;(have hks2:ks.length≤2:=by have:=HLk.out.klen;omega);have HBa:Hid (Below wx.heap.size wx (wx.alloc O9)):=hBa;have HOe:Hid (O9=Obj.cells #[.string a3,.int .i64 k3,.string n3,.slice sf3 kf3.length cf3,.slice al3 l3.length cl3,.slice ar3 r3.length cr3,.slice sl3 ks3.length cap3] 32 (0,0)):=hO9;have hown9':=hown9;rw [hO9] at hown9';clear hor hpq9 hBa hO9 hown9
       go_wp2_with (first
        | (
          at_builtin
          go_loud (refine wpList_append_lies _ rfl _ _ 30 rfl S1 32 i0 (.agg #[.string ⟨#[]⟩,.int .i64 0,.string ⟨#[]⟩,.slice none 0 0,.slice none 0 0,.slice none 0 0,.slice none 0 0]) 7 136 Tryz.underlying30 hi0 hz0 hz1' hz2' rfl (by decide) _ _ _ rfl hown9' ⟨wx.heap.size,0,none⟩ 1 1 [.string a3,.int .i64 k3,.string n3,.slice sf3 kf3.length cf3,.slice al3 l3.length cl3,.slice ar3 r3.length cr3,.slice sl3 ks3.length cap3] rfl rfl ?_ ?_ (by omega) (by unfold maxLen;omega) (by omega) (by simp;omega) _ rfl ?_)
          ·intro j u hu
           rw [QAZ,Nat.zero_add,QAL (QAH wx _)];simpa using hu
          ·intro u hu
           simp at hu
           rcases hu with rfl|rfl|rfl|rfl|rfl|rfl|rfl <;> rfl
          intro g3 cp3 w3 hown3 hgrow hat hlt3;rw [← HOe.out] at hgrow hat;have hgw:(wx.alloc O9).grownBy w3 (Value.slice ad ks.length cp).ownBlock:=hgrow;have HGr:Hid ((wx.alloc O9).grownBy w3 (Value.slice ad ks.length cp).ownBlock):=hgw;have HOn3:Hid (w3.ownsRow S1 32 7 (.slice (some ⟨g3,0,none⟩) (ks.length+1) cp3) (ks.length+1) (cs9++[.string a3,.int .i64 k3,.string n3,.slice sf3 kf3.length cf3,.slice al3 l3.length cl3,.slice ar3 r3.length cr3,.slice sl3 ks3.length cap3])):=hown3;have HAt:Hid ((Value.slice ad ks.length cp).ownBlock=some g3∨g3=(wx.alloc O9).heap.size):=hat;(have HU8:Hid (w3.heap[w.heap.size+1]? = some (.cells #[.string ru,.int .i64 k2,.string n2,.slice sl9 ks2.length cap9,.slice ad1 (QAW x.fs is).length cp1,.slice ad2 (QAX x.fs is).length cp2,.slice ad ks.length cp] 32 (0,0))):=(hgw.block _ (by have h1:=HBa.out.size;omega) (fun e=>by have:=HOw.out _ e.symm;omega)).trans (QAA HBa.out T8.out));clear hown3 hgrow hat hgw hown9' y0 y1 y2 y3 y4 y5 y6 f0 f1 f2 f3 f4 f5 f6;obtain⟨y0,y1,y2,y3,y4,y5,y6⟩:=QAj HU8.out
          obtain⟨f0,f1,f2,f3,f4,f5,f6⟩:=QCT HU8.out)
        | fail)
       obtain⟨W4,hW4⟩:∃ W4,W4=w3.setCell ⟨w.heap.size+1,6,none⟩ (.slice (some ⟨g3,0,none⟩) (ks.length+1) cp3):=⟨_,rfl⟩;have HE4:Hid (w3.setCell ⟨w.heap.size+1,6,none⟩ (.slice (some ⟨g3,0,none⟩) (ks.length+1) cp3)=W4):=hW4.symm;(have hs3:wx.heap.size≤w3.heap.size:=by have h1:=HGr.out.size;have h2:=HBa.out.size;omega)
       have K4:Hid (Kept (fun b=>(Value.slice ad ks.length cp).ownBlock≠some b∧b≠w.heap.size+1) wx W4):=by
        rw [hW4];(exact QAM (a:=wx) (b:=w3) ⟨HGr.out.os.trans HBa.out.os,HGr.out.tape.trans HBa.out.tape,HGr.out.output.trans HBa.out.output,hs3,fun b hb hp=>(HGr.out.block b (by have:=HBa.out.size;omega) (fun e=>hp.1 e.symm)).trans (HBa.out.block b hb)⟩ (QAf (ok:=fun b=>b≠w.heap.size+1) fun c hc=>hc) fun _ _ h=>h.2)
       have U8:Hid (W4.heap[w.heap.size+1]? = some (.cells #[.string ru,.int .i64 k2,.string n2,.slice sl9 ks2.length cap9,.slice ad1 (QAW x.fs is).length cp1,.slice ad2 (QAX x.fs is).length cp2,.slice (some ⟨g3,0,none⟩) (ks.length+1) cp3] 32 (0,0))):=by
        rw [hW4,QAS HU8.out];rfl
       have K4F:Hid (KF (S1≤·) S1 W4 (some ⟨g3,0,none⟩) cp3 (ks++[.mk a3 (.mk k3 n3 kf3) l3 r3 ks3])):=by
        rw [hW4];(refine (KF.app rfl rfl HON.out HPQ.out (ds:=[.string a3,.int .i64 k3,.string n3,.slice sf3 kf3.length cf3,.slice al3 l3.length cl3,.slice ar3 r3.length cr3,.slice sl3 ks3.length cap3]) (qs:=[.mk a3 (.mk k3 n3 kf3) l3 r3 ks3]) ⟨PRp.move (HS.out.done rfl).2.1 fun b hb hp=>⟨HBa.out.block b hb,by have:=hp.1;omega,fun e => ?_⟩,trivial⟩ HOn3.out HGr.out HAt.out).same fun b hb _=>QAJ _ (by omega));have h1:=HOw.out b e;have h2:=hp.1;omega
       have hlow:∀ b,b < S1→w.heap.size+2≤b∨(b < w.heap.size∧b≠bz)∨b=w.heap.size→W4.heap[b]? = wr.heap[b]? := fun b hb hc=>by
        (rw [K4.out.block b (by omega) ⟨fun e=>by have:=HOw.out b e;omega,by omega⟩,HS.out.kept.block b (by omega) (by omega),HB9.out.block b (by omega)])
       have HL1:Hid (QMA x w S1 bz lean st nd deep ru i kids is (.int .i64 k2) (.string n2) (.slice sl9 ks2.length cap9) (.slice ad1 (QAW x.fs is).length cp1) (.slice ad2 (QAX x.fs is).length cp2) (.cells #[.string ru,.int .i64 (i:Nat),.slice an needs.length cn,.slice (some ⟨b9,off9,none⟩) kids.length cap] 85 (0,0)) W4 (k+1) (some ⟨g3,0,none⟩) cp3 (ks++[.mk a3 (.mk k3 n3 kf3) l3 r3 ks3]) st3 nd3):=by
        obtain⟨p1,p2,p3,p4,p5⟩:=(HS.out.done rfl).2.2.1 rfl
        exact
        {
         wst:=(HS.out.done rfl).1.next (fun b hb hk=>K4.out.block b hb ⟨fun e=>by
           have h1:=HOw.out b e
           rcases hk with hk|hk
           ·have:=(HW0.out.kz b hk).2
            omega
           ·omega,by
           rcases hk with hk|hk
           ·have:=(HW0.out.kz b hk).2
            omega
           ·omega⟩) K4.out.size
         kept:=QAM HKx.out K4.out fun b hb _=>⟨fun e=>by have h1:=HOw.out b e;omega,by omega⟩
         s1:=hS1
         s1':=by have:=K4.out.size;omega
         b5:=(hlow _ (by omega) (by omega)).trans HLk.out.b5
         bo:=by rw [List.length_append];exact U8.out
         form:=HLk.out.form.move fun b hb hp=>⟨hlow b hp.2 (Or.inl hp.1),hp⟩
         le:=HLk.out.le.move fun b hb hp=>⟨hlow b hp.2 (Or.inl hp.1),hp⟩
         re:=HLk.out.re.move fun b hb hp=>⟨hlow b hp.2 (Or.inl hp.1),hp⟩
         row:=K4F.out
         klen:=by rw [List.length_append,HLk.out.klen];rfl
         ok:=fun j q p pr' h1 h2 h3=>by
          rcases Nat.lt_or_ge j ks.length with hj|hj
          ·rw [List.getElem?_append_left hj] at h3
           exact HLk.out.ok j q p pr' h1 h2 h3
          ·have hjl:=(List.getElem?_eq_some_iff.1 h3).1
           rw [List.length_append] at hjl;(have hjk:j=ks.length:=by simp at hjl;omega);subst hjk;rw [List.getElem?_append_right (Nat.le_refl _),Nat.sub_self] at h3;(have e3:Pf.mk a3 (.mk k3 n3 kf3) l3 r3 ks3=p:=by simpa using h3);rw [HLk.out.klen] at h1 h2;rw [HKp.out] at h1;rw [HPr0.out] at h2
           cases h1
           cases h2
           rw [← e3,← HE2.out];exact p1
         steps:=by
          have p2':st3=stk+(Pf.mk a3 (.mk k3 n3 kf3) l3 r3 ks3).size:=p2;rw [p2',HLk.out.steps,QFD];omega
         fits:=⟨p3,p4⟩
         cnt:=fun hl=>(HLk.out.cnt hl).more HM2.out (p5 hl).1 (p5 hl).2 }
       clear hW4 hlow y0 y1 y2 y3 y4 y5 y6 f0 f1 f2 f3 f4 f5 f6 t0 t1 t2 t3 t4 t5 t6;rw [HE4.out];go_wp2_with fail
       go_roundg (kids.length - (k+1))
       case measure=>have:=HG.out;omega
       case rel=>exact⟨k+1,some ⟨g3,0,none⟩,cp3,_,st3,nd3,by omega,rfl,by go_num,HL1⟩
    ·have hge:¬ (k:Int) < (kids.length:Int):=by omega
     (have hke:k=kids.length:=by omega);obtain⟨y0,y1,y2,y3,y4,y5,y6⟩:=QAj HLk.out.bo;obtain⟨f0,f1,f2,f3,f4,f5,f6⟩:=QCT HLk.out.bo;go_wp2_with fail;obtain⟨Wf,hWf⟩:∃ Wf,Wf=QBT wr (w.heap.size+1) (.string ru) (.int .i64 k2) (.string n2) (.slice sl9 ks2.length cap9) (.slice ad1 (QAW x.fs is).length cp1) (.slice ad2 (QAX x.fs is).length cp2) (.slice ad ks.length cp):=⟨_,rfl⟩
     change bodyPost _ _ _ _ _ (QBT wr (w.heap.size+1) (.string ru) (.int .i64 k2) (.string n2) (.slice sl9 ks2.length cap9) (.slice ad1 (QAW x.fs is).length cp1) (.slice ad2 (QAX x.fs is).length cp2) (.slice ad ks.length cp))
     have hE:=QBL (.string ru) (.int .i64 k2) (.string n2) (.slice sl9 ks2.length cap9) (.slice ad1 (QAW x.fs is).length cp1) (.slice ad2 (QAX x.fs is).length cp2) (.slice ad ks.length cp) HLk.out.bo;have hKf:=QBK wr (w.heap.size+1) (.string ru) (.int .i64 k2) (.string n2) (.slice sl9 ks2.length cap9) (.slice ad1 (QAW x.fs is).length cp1) (.slice ad2 (QAX x.fs is).length cp2) (.slice ad ks.length cp);rw [← hWf] at hE hKf ⊢;clear hWf;obtain⟨m0,m1,m2,m3,m4,m5,m6⟩:=QAj hE;have hS1:=HLk.out.s1;(have hr9:=(HLk.out.row.same (w':=Wf) fun b hb hl=>hKf.block b hl (by omega)).rep fun b hb=>hb);have hR4:=HR4.out;(refine bodyPost_ret (v := .tuple #[.agg #[.string ru,.int .i64 k2,.string n2,.slice sl9 ks2.length cap9,.slice ad1 (QAW x.fs is).length cp1,.slice ad2 (QAX x.fs is).length cp2,.slice ad ks.length cp],.bool true]) (by simp [results,Tryz.results103,go_sem,m0,m1,m2,m3,m4,m5,m6]) rfl ⟨.mk ru (itF x.fs i) (QAW x.fs is) (QAX x.fs is) ks,_,true,stk,ndk,rfl,?_,HLk.out.wst.next (fun b hb hk=>hKf.block b hb ?_) hKf.size,QAM HLk.out.kept hKf fun b hb _=>by omega,fun _=>⟨WPf.step deep ru i needs kids is ks hR4.2.1 hR4.2.2.1 (by rw [HLk.out.klen,hke]) HLk.out.ok,?_,HLk.out.fits.1,HLk.out.fits.2,fun hl => ?_⟩,fun h=>(by cases h)⟩)
     ·rw [PRp.def]
      (refine⟨_,_,_,_,_,_,_,rfl,hru,HLk.out.form.move fun b hb hp=>⟨hKf.block b hb (by omega),by omega⟩,HLk.out.le.move fun b hb hp=>⟨hKf.block b hb (by omega),by omega⟩,HLk.out.re.move fun b hb hp=>⟨hKf.block b hb (by omega),by omega⟩,hr9.1,hr9.2.1,fun hne => ?_⟩);obtain⟨b,off,h1,h2,h3⟩:=hr9.2.2 hne;(exact⟨b,off,h1,by omega,h3.move h2 fun b hb hp=>⟨rfl,by omega⟩⟩)
     ·rcases hk with hk|hk
      ·have:=(HW0.out.kz b hk).2
       omega
      ·omega
     ·rw [Pf.size]
      have:=HLk.out.steps;omega
     ·have hc:=HLk.out.cnt hl
      rw [hke] at hc;(refine hc.last (by omega) ?_)
      rcases HLen.out with e|e
      ·rw [e];exact Nat.zero_le _
      ·rcases Nat.eq_zero_or_pos kids.length with h0|h0
       ·omega
       ·have h1:=QGd HTo.out (List.getElem?_eq_getElem hi2) (HPl.out _ (by rw [← HTo.out.len];exact hi2)) HIs.out (List.getElem_mem (l:=(QAP x.ps i).2) (n:=0) (by omega))
        omega
theorem QOM (l:List Value) (h0:l.length=7):∃ x0 x1 x2 x3 x4 x5 x6,l=[x0,x1,x2,x3,x4,x5,x6]:=by
 obtain⟨x0,l1,e0,h1⟩:=QAD h0;obtain⟨x1,l2,e1,h2⟩:=QAD h1;obtain⟨x2,l3,e2,h3⟩:=QAD h2;obtain⟨x3,l4,e3,h4⟩:=QAD h3;obtain⟨x4,l5,e4,h5⟩:=QAD h4;obtain⟨x5,l6,e5,h6⟩:=QAD h5;obtain⟨x6,l7,e6,h7⟩:=QAD h6;have e7:l7=[]:=List.length_eq_zero_iff.1 h7;subst e7 e6 e5 e4 e3 e2 e1 e0;exact⟨x0,x1,x2,x3,x4,x5,x6,rfl⟩
theorem QJj (l:List Value) (h0:l.length=1):∃ x0,l=[x0]:=by
 obtain⟨x0,l1,e0,h1⟩:=QAD h0;have e1:l1=[]:=List.length_eq_zero_iff.1 h1;subst e1 e0;exact⟨x0,rfl⟩
structure G5 where
 u1:Value
 u2:Value
 gk:Nat
def G5.cells (y:G5) (l7:Bool):Array Value:=cond l7 #[.string ⟨#[119,101,97,107]⟩,.int .i64 0,.string ⟨#[]⟩,.slice none 0 0,y.u1,y.u2,.slice (some ⟨y.gk,0,none⟩) 1 1] #[.string ⟨#[]⟩,.int .i64 0,.string ⟨#[]⟩,.slice none 0 0,.slice none 0 0,.slice none 0 0,.slice none 0 0]
structure St5 (fs:List Fm) (W:World) (bO:Nat) (is:List Nat) (kid:Array Value) (l2 l4 l7:Bool) (y:G5) (w:World):Prop where
 below:l7=false→Below W.heap.size W w
 kept:Kept (fun b=>b≠bO) W w
 box:w.heap[bO]? = some (.cells (y.cells l7) 32 (0,0))
 ends:l2=true→FLp (W.heap.size≤·) w y.u1 (QAW fs is)∧FLp (W.heap.size≤·) w y.u2 (QAX fs is)
 row:l4=true→W.heap.size≤y.gk∧w.heap[y.gk]? = some (.cells kid 32 (0,0))
theorem St5.start {fs:List Fm} {W w:World} {bO:Nat} {is:List Nat} {kid:Array Value} (y:G5) (hb:Below W.heap.size W w) (hx:W.heap[bO]? = some (.cells #[.string ⟨#[]⟩,.int .i64 0,.string ⟨#[]⟩,.slice none 0 0,.slice none 0 0,.slice none 0 0,.slice none 0 0] 32 (0,0))):St5 fs W bO is kid false false false y w :=
 ⟨fun _=>hb,QAN hb fun _ h _=>h,QAA hb hx,fun h=>(by cases h),fun h=>(by cases h)⟩
theorem St5.side {fs:List Fm} {W w w':World} {bO:Nat} {is:List Nat} {kid:Array Value} {l2 l4 l7:Bool} {y:G5} (h:St5 fs W bO is kid l2 l4 l7 y w) (e7:l7=false) {u1 u2:Value} (hb:Below w.heap.size w w') (h1:FLp (w.heap.size≤·) w' u1 (QAW fs is)) (h2:FLp (w.heap.size≤·) w' u2 (QAX fs is)):St5 fs W bO is kid true l4 l7 { y with u1:=u1,u2:=u2 } w':=by
 subst e7;have hB:=QAC (h.below rfl) hb;have hs:=(h.below rfl).size;(exact⟨fun _=>hB,QAN hB fun _ h _=>h,QAA hb h.box,fun _=>⟨h1.move fun b _ hb=>⟨rfl,by omega⟩,h2.move fun b _ hb=>⟨rfl,by omega⟩⟩,fun e=>⟨(h.row e).1,QAA hb (h.row e).2⟩⟩)
theorem St5.make {fs:List Fm} {W w:World} {bO:Nat} {is:List Nat} {kid:Array Value} {l2 l4 l7:Bool} {y:G5} (h:St5 fs W bO is kid l2 l4 l7 y w) (e7:l7=false):St5 fs W bO is kid l2 true l7 { y with gk:=w.heap.size } (w.alloc (.cells kid 32 (0,0))):=by
 subst e7;have hb:=QAB (Below.refl w.heap.size w) (.cells kid 32 (0,0));have hB:=QAC (h.below rfl) hb;(exact⟨fun _=>hB,QAN hB fun _ h _=>h,QAA hb h.box,fun e=>⟨(h.ends e).1.up hb,(h.ends e).2.up hb⟩,fun _=>⟨(h.below rfl).size,QAH w _⟩⟩)
theorem St5.store {fs:List Fm} {W w:World} {bO:Nat} {is:List Nat} {kid:Array Value} {l2 l4 l7:Bool} {y:G5} (h:St5 fs W bO is kid l2 l4 l7 y w) (e7:l7=false) (hO:bO < W.heap.size):St5 fs W bO is kid l2 l4 true y (QBT w bO (.string ⟨#[119,101,97,107]⟩) (.int .i64 0) (.string ⟨#[]⟩) (.slice none 0 0) y.u1 y.u2 (.slice (some ⟨y.gk,0,none⟩) 1 1)):=by
 subst e7;(have k:∀ b,b < w.heap.size→W.heap.size≤b→(QBT w bO (.string ⟨#[119,101,97,107]⟩) (.int .i64 0) (.string ⟨#[]⟩) (.slice none 0 0) y.u1 y.u2 (.slice (some ⟨y.gk,0,none⟩) 1 1)).heap[b]? = w.heap[b]? ∧ W.heap.size≤b:=fun b _ hb=>⟨QCD _ _ _ _ _ _ _ (by omega),hb⟩);(exact⟨fun e=>(by cases e),QAM h.kept (QBK _ _ _ _ _ _ _ _ _) fun _ _ h=>h,QBL _ _ _ _ _ _ _ h.box,fun e=>⟨(h.ends e).1.move k,(h.ends e).2.move k⟩,fun e=>⟨(h.row e).1,(QCD _ _ _ _ _ _ _ (by have:=(h.row e).1;omega)).trans (h.row e).2⟩⟩)
set_option maxRecDepth 10000 in
set_option maxHeartbeats 8000000 in
theorem QCl {x:Fx} (hsm:∀ f∈x.fs,f.size≤1000) (p:Plan) (hnn:p.needs.Nodup) (hk2:p.kids.length≤2) (hsp:QFQ x false p):QFQ x true p:=by
 intro w bz lean st nd deep is pv v hw hp hv hbd hsub hil hst hnd hdp _;by_cases hl:QDx lean p is=false
 ·exact hsp w bz lean st nd deep is pv v hw hp hv hbd hsub hil hst hnd hdp fun _=>hl
 obtain⟨ru,i,needs,kids⟩:=p;(have hl':QDx lean (.mk ru i needs kids) is=true:=by cases h:QDx lean (.mk ru i needs kids) is <;> simp_all);unfold QDx at hl';rw [Bool.and_eq_true,Bool.and_eq_true] at hl';obtain⟨⟨rfl,hk0'⟩,hn0'⟩:=hl';have hk0:0 < kids.length:=of_decide_eq_true hk0';have hn0:needs.length < is.length:=of_decide_eq_true hn0';have HSp:Hid (QFQ x false (.mk ru i needs kids)):=hsp;(have HP0:Hid (PlanR (fun b=>b≠bz) w (.mk ru i needs kids) pv):=hp);have HN0:Hid (0 < kids.length∧needs.length < is.length):=⟨hk0,hn0⟩;have hL2:=hw.l2;have hplen:=hw.plen;have hk2':kids.length≤2:=hk2;(have HKl:Hid (kids.length≤10000000):=by show _≤_;omega);(have hkI:(kids.length:Int)≤2:=by omega);clear hl hk0' hn0' hk0 hn0 hsp hk2;obtain⟨an,cn,sl,cap,rfl,hru,hneeds,hkc,hcm,hks⟩:=hp.parts;obtain⟨m,hm⟩:∃ m,m=x.nods is:=⟨_,rfl⟩;obtain⟨rb,hrb⟩:∃ rb,rb=(decide (st+1≤20000) && decide (deep≤400) && decide (is.length≤60) && decide (nd+m≤2097152)):=⟨_,rfl⟩
 have HRoom:Hid (∀ W,WrSt x W bz true st nd→IRow (fun b=>b≠bz) W v is→Calls Tryz.prog 144 #[.pointer (some ⟨bz,0,none⟩),v,.int .i64 (deep:Nat)] W fun e w'=>e = .returned (.bool rb)∧WrSt x w' bz true (st+1) (nd+m)∧Kept (fun b=>b≠bz) W w'):=fun W h1 h2=>by
  rw [hrb,hm];(exact QIe hsm h1 is v h2 hbd (by omega) (by omega) (by omega) deep (by omega))
 have hv':=hv;obtain⟨ae,ce,rfl,hec,hecm,-⟩:=hv';(have HVi:Hid (IRow (fun b=>b≠bz) w (.slice ae is.length ce) is):=hv);have HW0:Hid (WrSt x w bz true st nd):=hw;have hnl:needs.length≤is.length:=QFk hnn hsub;obtain⟨O5,hO5⟩:∃ O,O=Obj.cells #[.string ru,.int .i64 (i:Nat),.slice an needs.length cn,.slice sl kids.length cap] 85 (0,0):=⟨_,rfl⟩;obtain⟨O8,hO8⟩:∃ O,O=Obj.cells #[.string ⟨#[]⟩,.int .i64 0,.string ⟨#[]⟩,.slice none 0 0,.slice none 0 0,.slice none 0 0,.slice none 0 0] 32 (0,0):=⟨_,rfl⟩;obtain⟨W0,hW0⟩:∃ W,W=(w.alloc O5).alloc O8:=⟨_,rfl⟩;(have B0:Below w.heap.size w W0:=by rw [hW0];exact QAB (QAB (Below.refl _ w) _) _);(have z0:W0.heap.size=w.heap.size+2:=by rw [hW0];simp);(have p5:W0.heap[w.heap.size]? = some O5:=by rw [hW0];exact QAG (QAH w O5) _);(have p8:W0.heap[w.heap.size+1]? = some O8:=by rw [hW0];exact QAa w O5 O8);rw [hO5] at p5;rw [hO8] at p8;have P5:Hid (W0.heap[w.heap.size]? = some _):=p5;have P8:Hid (W0.heap[w.heap.size+1]? = some _):=p8;have HZ0:Hid (W0.heap.size=w.heap.size+2):=z0;have HB0:Hid (Below w.heap.size w W0):=B0;have HWe:Hid ((w.alloc O5).alloc O8=W0):=hW0.symm;have HRb:Hid (rb=(decide (st+1≤20000) && decide (deep≤400) && decide (is.length≤60) && decide (nd+m≤2097152))):=hrb;have HM:Hid (m=x.nods is):=hm;have HNl:Hid (needs.length≤is.length):=hnl;(have HNr:Hid (IRow (fun b=>b≠bz) w (.slice an needs.length cn) needs):=hneeds);have HBd:Hid (∀ i∈is,i < x.L):=hbd;have HSub:Hid (∀ y∈needs,y∈is):=hsub;(have hkcI:(kids.length:Int)≤(cap:Int):=by omega);(have hdI:(deep:Int)≤401:=by omega);have hbz:bz < w.heap.size:=QAE HW0.out.blk;have hil':is.length≤100:=hil;clear hrb hm hnl hbd hsub hsm hnn hneeds hw hv hW0 p5 p8 hkc hcm hp
 go_enter Tryz.func103,Tryz.ntmps103
 go_wp2_with fail;rw [← hO5,← hO8,HWe.out];(refine (HRoom.out W0 (HW0.out.up HB0.out) (HVi.out.move fun b hb hp=>⟨HB0.out.block b hb,hp⟩)).mono ?_);rintro e w1 ⟨rfl,hw1,hk1⟩;have HW1:Hid (WrSt x w1 bz true (st+1) (nd+m)):=hw1;(have HK1:Hid (Kept (fun b=>b≠bz) W0 w1):=hk1);(have Q5:Hid (w1.heap[w.heap.size]? = some (.cells #[.string ru,.int .i64 (i:Nat),.slice an needs.length cn,.slice sl kids.length cap] 85 (0,0))):=(hk1.block _ (by omega) (by omega)).trans P5.out);(have Q8:Hid (w1.heap[w.heap.size+1]? = some (.cells #[.string ⟨#[]⟩,.int .i64 0,.string ⟨#[]⟩,.slice none 0 0,.slice none 0 0,.slice none 0 0,.slice none 0 0] 32 (0,0))):=(hk1.block _ (by omega) (by omega)).trans P8.out);(have HKw1:Hid (Kept (fun b=>b≠bz) w w1):=QAM (QAN (ok:=fun b=>b≠bz) HB0.out fun _ h _=>h) hk1 fun _ _ h=>h);clear hw1 hk1;obtain⟨y0,y1,y2,y3,y4,y5,y6⟩:=QAj Q8.out;obtain⟨f0,f1,f2,f3,f4,f5,f6⟩:=QCT Q8.out;obtain⟨d0,d1,d2,d3,-⟩:=QAn Q5.out
 cases rb
 ·go_wp2_with fail
  obtain⟨Wf,hWf⟩:∃ Wf,Wf=QBT w1 (w.heap.size+1) (.string ⟨#[]⟩) (.int .i64 0) (.string ⟨#[]⟩) (.slice none 0 0) (.slice none 0 0) (.slice none 0 0) (.slice none 0 0):=⟨_,rfl⟩
  change bodyPost _ _ _ _ _ (QBT w1 (w.heap.size+1) (.string ⟨#[]⟩) (.int .i64 0) (.string ⟨#[]⟩) (.slice none 0 0) (.slice none 0 0) (.slice none 0 0) (.slice none 0 0))
  have hE:=QBL (.string ⟨#[]⟩) (.int .i64 0) (.string ⟨#[]⟩) (.slice none 0 0) (.slice none 0 0) (.slice none 0 0) (.slice none 0 0) Q8.out;have hKf:=QBK w1 (w.heap.size+1) (.string ⟨#[]⟩) (.int .i64 0) (.string ⟨#[]⟩) (.slice none 0 0) (.slice none 0 0) (.slice none 0 0) (.slice none 0 0);rw [← hWf] at hE hKf ⊢;clear hWf;obtain⟨m0,m1,m2,m3,m4,m5,m6⟩:=QAj hE;(refine bodyPost_ret (v := .tuple #[.agg #[.string ⟨#[]⟩,.int .i64 0,.string ⟨#[]⟩,.slice none 0 0,.slice none 0 0,.slice none 0 0,.slice none 0 0],.bool false]) (by simp [results,Tryz.results103,go_sem,m0,m1,m2,m3,m4,m5,m6]) rfl ⟨_,_,false,st+1,nd+m,rfl,QFM Wf _,HW1.out.next (fun b hb hk=>hKf.block b hb ?_) hKf.size,QAM HKw1.out hKf fun b hb _=>by omega,fun h=>(by cases h),fun _ _ hR => ?_⟩)
  ·rcases hk with hk|hk
   ·have:=(HW0.out.kz b hk).2
    omega
   ·omega
  ·obtain⟨r1,r2,r3,r4⟩:=hR.one (QIP is QMS)
   have h9:=HRb.out;rw [HM.out,decide_eq_true r1,decide_eq_true r2,decide_eq_true r3,decide_eq_true r4] at h9
   cases h9
 ·go_wp2_with fail
  have HLv:Hid (Calls Tryz.prog 145 #[.pointer (some ⟨bz,0,none⟩),.agg #[.string ru,.int .i64 (i:Nat),.slice an needs.length cn,.slice sl kids.length cap],.slice ae is.length ce] w1 fun e w'=>e = .returned (.bool true)∧Below w1.heap.size w1 w'):=by
   (have h:=QFg HW1.out ru i an needs.length cn sl kids.length cap ae is.length ce (by have:=HNl.out;omega) (by omega) HKl.out);rw [decide_eq_true HN0.out.1,decide_eq_true HN0.out.2] at h;exact h
  refine HLv.out.mono ?_;rintro e w2 ⟨rfl,hb2⟩;clear HLv y0 y1 y2 y3 y4 y5 y6 f0 f1 f2 f3 f4 f5 f6 d0 d1 d2 d3;have hz2:w1.heap.size≤w2.heap.size:=hb2.size;(have hz1:w.heap.size+2≤w1.heap.size:=by have h1:=HKw1.out.size;have h2:=QAE Q8.out;omega);have HW2:Hid (WrSt x w2 bz true (st+1) (nd+m)):=HW1.out.up hb2;(have HKw2:Hid (Kept (fun b=>b≠bz) w w2):=QAM HKw1.out (QAN (ok:=fun b=>b≠bz) hb2 fun _ h _=>h) fun _ _ h=>h);have R5:Hid (w2.heap[w.heap.size]? = some (.cells #[.string ru,.int .i64 (i:Nat),.slice an needs.length cn,.slice sl kids.length cap] 85 (0,0))):=QAA hb2 Q5.out;have R8:Hid (w2.heap[w.heap.size+1]? = some (.cells #[.string ⟨#[]⟩,.int .i64 0,.string ⟨#[]⟩,.slice none 0 0,.slice none 0 0,.slice none 0 0,.slice none 0 0] 32 (0,0))):=QAA hb2 Q8.out;(have HIi:Hid (IRow (fun b=>b≠bz) w2 (.slice ae is.length ce) is):=HVi.out.move fun b hb hp=>⟨HKw2.out.block b hb hp,hp⟩);(have hd1:((deep+1:Nat):Int)=(deep:Int)+1:=by omega)
  have HR4:Hid (st+1≤20000∧deep≤400∧is.length≤60∧nd+m≤2097152):=by
   have h9:=HRb.out.symm;simp only [Bool.and_eq_true,decide_eq_true_eq] at h9;exact⟨h9.1.1.1,h9.1.1.2,h9.1.2,h9.2⟩
  have HCall:Hid (Calls Tryz.prog 103 #[.pointer (some ⟨bz,0,none⟩),.agg #[.string ru,.int .i64 (i:Nat),.slice an needs.length cn,.slice sl kids.length cap],.slice an needs.length cn,.int .i64 ((deep:Int)+1)] w2 (QFR x w2 bz true (st+1) (nd+m) (deep+1) (.mk ru i needs kids) needs)):=by
   (have hP2:=HP0.out.move (P':=fun b=>b≠bz) (w':=w2) fun b hb hp=>⟨HKw2.out.block b hb hp,hp⟩);(have h:=HSp.out w2 bz true (st+1) (nd+m) (deep+1) needs _ _ HW2.out hP2 (HNr.out.move fun b hb hp=>⟨HKw2.out.block b hb hp,hp⟩) (fun y hy=>HBd.out y (HSub.out y hy)) (fun _ h=>h) (by have:=HNl.out;omega) HR4.out.1 HR4.out.2.2.2 (by have:=HR4.out.2.1;omega) (fun _=>by unfold QDx;simp [Plan.needs]));rw [hd1] at h;exact h
  (have hwr:IntKind.i64.wrap ((deep:Int)+1)=(deep:Int)+1:=by rw [IntKind.wrap_i64];omega);clear hb2 hd1;obtain⟨d0,d1,d2,d3,-⟩:=QAn R5.out;go_wp2_with fail;refine HCall.out.mono ?_;clear HCall d0 d1 d2 d3;rintro e w3 ⟨P,pv3,fits,st3,nd3,rfl,hP3,hw3,hk3,hf3,-⟩;obtain⟨a3,⟨k3,n3,kf3⟩,l3,r3,ks3⟩:=P;obtain⟨sf3,cf3,al3,cl3,ar3,cr3,sl3,cap3,rfl,-⟩:=hP3.parts;have HP3:Hid (PRp (w2.heap.size≤·) w3 (.mk a3 (.mk k3 n3 kf3) l3 r3 ks3) (.agg #[.string a3,.int .i64 k3,.string n3,.slice sf3 kf3.length cf3,.slice al3 l3.length cl3,.slice ar3 r3.length cr3,.slice sl3 ks3.length cap3])):=hP3;have HW3:Hid (WrSt x w3 bz true st3 nd3):=hw3;(have HF3:Hid (fits=true→WPf x.ps x.fs (deep+1) (.mk ru i needs kids) needs (.mk a3 (.mk k3 n3 kf3) l3 r3 ks3)∧st3=st+1+(Pf.mk a3 (.mk k3 n3 kf3) l3 r3 ks3).size∧st3≤20000∧nd3≤2097152):=fun h=>⟨(hf3 h).1,(hf3 h).2.1,(hf3 h).2.2.1,(hf3 h).2.2.2.1⟩);have hz3:w2.heap.size≤w3.heap.size:=hk3.size;(have HK3:Hid (Kept (fun b=>b≠bz) w w3):=QAM HKw2.out hk3 fun _ _ h=>h);(have Q83:Hid (w3.heap[w.heap.size+1]? = some (.cells #[.string ⟨#[]⟩,.int .i64 0,.string ⟨#[]⟩,.slice none 0 0,.slice none 0 0,.slice none 0 0,.slice none 0 0] 32 (0,0))):=(hk3.block _ (by omega) (by omega)).trans R8.out);clear hP3 hw3 hk3 hf3;go_wp2_with fail;obtain⟨W9,hW9⟩:∃ W9,W9=w3.alloc (.cells #[.string a3,.int .i64 k3,.string n3,.slice sf3 kf3.length cf3,.slice al3 l3.length cl3,.slice ar3 r3.length cr3,.slice sl3 ks3.length cap3] 32 (0,0)):=⟨_,rfl⟩;rw [← hW9];(have hB9:Below w3.heap.size w3 W9:=by rw [hW9];exact QAB (Below.refl _ w3) _);have HB9:Hid (Below w3.heap.size w3 W9):=hB9;(have hzz:W9.heap.size=w3.heap.size+1:=by rw [hW9];simp);have S8:Hid (W9.heap[w.heap.size+1]? = some (.cells #[.string ⟨#[]⟩,.int .i64 0,.string ⟨#[]⟩,.slice none 0 0,.slice none 0 0,.slice none 0 0,.slice none 0 0] 32 (0,0))):=QAA hB9 Q83.out;(have S10:Hid (W9.heap[w3.heap.size]? = some (.cells #[.string a3,.int .i64 k3,.string n3,.slice sf3 kf3.length cf3,.slice al3 l3.length cl3,.slice ar3 r3.length cr3,.slice sl3 ks3.length cap3] 32 (0,0))):=by rw [hW9];exact QAH w3 _);have HW9:Hid (WrSt x W9 bz true st3 nd3):=HW3.out.up hB9;(have HIi9:Hid (IRow (fun b=>b≠bz) W9 (.slice ae is.length ce) is):=HVi.out.move fun b hb hp=>⟨(hB9.block b (by omega)).trans (HK3.out.block b hb hp),hp⟩);(have HSq:Hid (∀ W,Below W9.heap.size W9 W→Calls Tryz.prog 146 #[.pointer (some ⟨bz,0,none⟩),.slice ae is.length ce] W fun e w'=>∃ u1 u2,e = .returned (.agg #[u1,u2])∧FLp (W.heap.size≤·) w' u1 (QAW x.fs is)∧FLp (W.heap.size≤·) w' u2 (QAX x.fs is)∧Below W.heap.size W w'):=fun W hb=>QFH (HW9.out.up hb) is _ (HIi9.out.move fun b hl hp=>⟨hb.block b hl,hp⟩) HBd.out (by omega));clear hW9 hB9;(refine QBv (by kernel_rfl) (by kernel_rfl) (by kernel_rfl) 90 rfl (by kernel_rfl) [fun _ v _=>v=(.pointer (some ⟨bz,0,none⟩)),fun _ v _=>v=(.slice ae is.length ce),fun y v _=>v = .agg #[y.u1,y.u2],fun _ v _=>v=(.agg #[.string a3,.int .i64 k3,.string n3,.slice sf3 kf3.length cf3,.slice al3 l3.length cl3,.slice ar3 r3.length cr3,.slice sl3 ks3.length cap3]),fun y v _=>v = .slice (some ⟨y.gk,0,none⟩) 1 1,fun y v _=>v = .agg #[.string ⟨#[119,101,97,107]⟩,.int .i64 0,.string ⟨#[]⟩,.slice none 0 0,y.u1,y.u2,.slice (some ⟨y.gk,0,none⟩) 1 1],fun _ v _=>v=(.bool fits),fun _ _ _=>True,fun _ v _=>v=(.bool fits)] (fun _ _=>true) (fun L=>St5 x.fs W9 (w.heap.size+1) is #[.string a3,.int .i64 k3,.string n3,.slice sf3 kf3.length cf3,.slice al3 l3.length cl3,.slice ar3 r3.length cr3,.slice sl3 ks3.length cap3] (L 2) (L 4) (L 7)) (⟨.bool false,.bool false,0⟩) ?_ ?_ ?_)
  ·exact fun wx h _=>St5.start _ h S8.out
  ·refine⟨?_,?_,?_,?_,?_,?_,?_,?_,?_,trivial⟩
   ·intro L y a wx hSt hLi hdl hcl hold hdep K hK
    have HSt:Hid (St5 x.fs W9 (w.heap.size+1) is #[.string a3,.int .i64 k3,.string n3,.slice sf3 kf3.length cf3,.slice al3 l3.length cl3,.slice ar3 r3.length cr3,.slice sl3 ks3.length cap3] (L 2) (L 4) (L 7) y wx):=hSt;clear hSt;have t0:a.tmps[0]? = some (.pointer (some ⟨bz,0,none⟩)):=hold 0 rfl;clear hold hdep hdl hcl hLi;go_simp;(exact hK.out _ _ y HSt.out rfl (fun j hj hl=>⟨hl,fun u h=>h⟩))
   ·intro L y a wx hSt hLi hdl hcl hold hdep K hK
    have HSt:Hid (St5 x.fs W9 (w.heap.size+1) is #[.string a3,.int .i64 k3,.string n3,.slice sf3 kf3.length cf3,.slice al3 l3.length cl3,.slice ar3 r3.length cr3,.slice sl3 ks3.length cap3] (L 2) (L 4) (L 7) y wx):=hSt;clear hSt;have t2:a.tmps[2]? = some (.slice ae is.length ce):=hold 2 rfl;clear hold hdep hdl hcl hLi;go_simp;(exact hK.out _ _ y HSt.out rfl (fun j hj hl=>⟨hl,fun u h=>h⟩))
   ·intro L y a wx hSt hLi hdl hcl hold hdep K hK
    have HSt:Hid (St5 x.fs W9 (w.heap.size+1) is #[.string a3,.int .i64 k3,.string n3,.slice sf3 kf3.length cf3,.slice al3 l3.length cl3,.slice ar3 r3.length cr3,.slice sl3 ks3.length cap3] (L 2) (L 4) (L 7) y wx):=hSt;clear hSt;obtain⟨v36,t36,q36⟩:=hdep 0 rfl _ 36 rfl rfl;have e36:v36=(.pointer (some ⟨bz,0,none⟩)):=q36 rfl;subst e36;obtain⟨v37,t37,q37⟩:=hdep 1 rfl _ 37 rfl rfl;have e37:v37=(.slice ae is.length ce):=q37 rfl;subst e37;(have e7:L 7=false:=QCb hLi fun h=>hcl 7 _ rfl h 2 rfl);clear hold hdep hdl;go_simp;refine (HSq.out wx (HSt.out.below e7)).mono ?_;rintro e w3' ⟨u1,u2,rfl,hu1,hu2,hb3⟩;refine hK.out _ _ { y with u1:=u1,u2:=u2 } (HSt.out.side e7 hb3 hu1 hu2) rfl ?_;intro j hj hl;(refine⟨rfl,fun u h => ?_⟩)
    rcases j with _|_|_|_|_|_|_|_|_|j
    ·exact h
    ·exact h
    ·exact Bool.noConfusion (hLi.symm.trans hj)
    ·exact h
    ·exact h
    ·exact Bool.noConfusion (hLi.symm.trans (hcl 5 _ rfl hj 2 rfl))
    ·exact h
    ·exact h
    ·exact h
    ·exact h
   ·intro L y a wx hSt hLi hdl hcl hold hdep K hK
    have HSt:Hid (St5 x.fs W9 (w.heap.size+1) is #[.string a3,.int .i64 k3,.string n3,.slice sf3 kf3.length cf3,.slice al3 l3.length cl3,.slice ar3 r3.length cr3,.slice sl3 ks3.length cap3] (L 2) (L 4) (L 7) y wx):=hSt;clear hSt;have t10:a.tmps[10]? = some (.pointer (some ⟨w3.heap.size,0,none⟩)):=hold 10 rfl;(obtain⟨d0,d1,d2,d3,d4,d5,d6⟩:=QAj ((HSt.out.kept.block _ (QAE S10.out) (by omega)).trans S10.out));clear hold hdep hdl hcl hLi;go_simp;(exact hK.out _ _ y HSt.out rfl (fun j hj hl=>⟨hl,fun u h=>h⟩))
   ·intro L y a wx hSt hLi hdl hcl hold hdep K hK
    have HSt:Hid (St5 x.fs W9 (w.heap.size+1) is #[.string a3,.int .i64 k3,.string n3,.slice sf3 kf3.length cf3,.slice al3 l3.length cl3,.slice ar3 r3.length cr3,.slice sl3 ks3.length cap3] (L 2) (L 4) (L 7) y wx):=hSt;clear hSt;obtain⟨v39,t39,q39⟩:=hdep 3 rfl _ 39 rfl rfl;have e39:v39=(.agg #[.string a3,.int .i64 k3,.string n3,.slice sf3 kf3.length cf3,.slice al3 l3.length cl3,.slice ar3 r3.length cr3,.slice sl3 ks3.length cap3]):=q39 rfl;subst e39;(have e7:L 7=false:=QCb hLi fun h=>hcl 7 _ rfl h 4 rfl);clear hold hdep hdl;go_simp;refine hK.out _ _ { y with gk:=wx.heap.size } (HSt.out.make e7) rfl ?_;intro j hj hl;(refine⟨rfl,fun u h => ?_⟩)
    rcases j with _|_|_|_|_|_|_|_|_|j
    ·exact h
    ·exact h
    ·exact h
    ·exact h
    ·exact Bool.noConfusion (hLi.symm.trans hj)
    ·exact Bool.noConfusion (hLi.symm.trans (hcl 5 _ rfl hj 4 rfl))
    ·exact h
    ·exact h
    ·exact h
    ·exact h
   ·intro L y a wx hSt hLi hdl hcl hold hdep K hK
    have HSt:Hid (St5 x.fs W9 (w.heap.size+1) is #[.string a3,.int .i64 k3,.string n3,.slice sf3 kf3.length cf3,.slice al3 l3.length cl3,.slice ar3 r3.length cr3,.slice sl3 ks3.length cap3] (L 2) (L 4) (L 7) y wx):=hSt;clear hSt;obtain⟨v38,t38,q38⟩:=hdep 2 rfl _ 38 rfl rfl;have e38:v38=(.agg #[y.u1,y.u2]):=q38 rfl;subst e38;obtain⟨v40,t40,q40⟩:=hdep 4 rfl _ 40 rfl rfl;have e40:v40=(.slice (some ⟨y.gk,0,none⟩) 1 1):=q40 rfl;subst e40;clear hold hdep hdl hcl hLi;go_simp;(exact hK.out _ _ y HSt.out rfl (fun j hj hl=>⟨hl,fun u h=>h⟩))
   ·intro L y a wx hSt hLi hdl hcl hold hdep K hK
    have HSt:Hid (St5 x.fs W9 (w.heap.size+1) is #[.string a3,.int .i64 k3,.string n3,.slice sf3 kf3.length cf3,.slice al3 l3.length cl3,.slice ar3 r3.length cr3,.slice sl3 ks3.length cap3] (L 2) (L 4) (L 7) y wx):=hSt;clear hSt;have t11:a.tmps[11]? = some (.bool fits):=hold 11 rfl;clear hold hdep hdl hcl hLi;go_simp;(exact hK.out _ _ y HSt.out rfl (fun j hj hl=>⟨hl,fun u h=>h⟩))
   ·intro L y a wx hSt hLi hdl hcl hold hdep K hK
    have HSt:Hid (St5 x.fs W9 (w.heap.size+1) is #[.string a3,.int .i64 k3,.string n3,.slice sf3 kf3.length cf3,.slice al3 l3.length cl3,.slice ar3 r3.length cr3,.slice sl3 ks3.length cap3] (L 2) (L 4) (L 7) y wx):=hSt;clear hSt;have e2:=hdl 2 rfl;obtain⟨u1,u2,gk⟩:=y;obtain⟨ad1,cp1,rfl,-⟩:=(HSt.out.ends e2).1;obtain⟨ad2,cp2,rfl,-⟩:=(HSt.out.ends e2).2;have t8:a.tmps[8]? = some (.pointer (some ⟨w.heap.size+1,0,none⟩)):=hold 8 rfl;obtain⟨v41,t41,q41⟩:=hdep 5 rfl _ 41 rfl rfl;have e41:v41=(.agg #[.string ⟨#[119,101,97,107]⟩,.int .i64 0,.string ⟨#[]⟩,.slice none 0 0,.slice ad1 (QAW x.fs is).length cp1,.slice ad2 (QAX x.fs is).length cp2,.slice (some ⟨gk,0,none⟩) 1 1]):=q41 rfl;subst e41
    have hbx:wx.heap[w.heap.size+1]? = some (.cells #[.string ⟨#[]⟩,.int .i64 0,.string ⟨#[]⟩,.slice none 0 0,.slice none 0 0,.slice none 0 0,.slice none 0 0] 32 (0,0)):=by
     have h:=HSt.out.box;rw [hLi] at h;exact h
    obtain⟨y0,y1,y2,y3,y4,y5,y6⟩:=QAj hbx;obtain⟨f0,f1,f2,f3,f4,f5,f6⟩:=QCT hbx;clear hold hdep hdl hcl hbx e2;go_simp;obtain⟨w9,hw9⟩:∃ w9,w9=QBT wx (w.heap.size+1) (.string ⟨#[119,101,97,107]⟩) (.int .i64 0) (.string ⟨#[]⟩) (.slice none 0 0) (.slice ad1 (QAW x.fs is).length cp1) (.slice ad2 (QAX x.fs is).length cp2) (.slice (some ⟨gk,0,none⟩) 1 1):=⟨_,rfl⟩
    change K a (QBT wx (w.heap.size+1) (.string ⟨#[119,101,97,107]⟩) (.int .i64 0) (.string ⟨#[]⟩) (.slice none 0 0) (.slice ad1 (QAW x.fs is).length cp1) (.slice ad2 (QAX x.fs is).length cp2) (.slice (some ⟨gk,0,none⟩) 1 1))
    (have hS9:=HSt.out.store hLi (by omega));rw [← hw9];simp only [← hw9] at hS9;clear hw9;refine hK.out (.bool false) _ _ hS9 trivial ?_;intro j hj hl;(refine⟨rfl,fun u h => ?_⟩)
    rcases j with _|_|_|_|_|_|_|_|_|j
    ·exact h
    ·exact h
    ·exact h
    ·exact h
    ·exact h
    ·exact h
    ·exact h
    ·exact h
    ·exact h
    ·exact h
   ·intro L y a wx hSt hLi hdl hcl hold hdep K hK
    have HSt:Hid (St5 x.fs W9 (w.heap.size+1) is #[.string a3,.int .i64 k3,.string n3,.slice sf3 kf3.length cf3,.slice al3 l3.length cl3,.slice ar3 r3.length cr3,.slice sl3 ks3.length cap3] (L 2) (L 4) (L 7) y wx):=hSt;clear hSt;obtain⟨v42,t42,q42⟩:=hdep 6 rfl _ 42 rfl rfl;have e42:v42=(.bool fits):=q42 rfl;subst e42;clear hold hdep hdl hcl hLi;go_simp;(exact hK.out _ _ y HSt.out rfl (fun j hj hl=>⟨hl,fun u h=>h⟩))
  ·intro L y a wx hall hSt hsz hdf hold hgot
   have e2:L 2=true:=hall 2 (Nat.le_of_ble_eq_true rfl);have e4:L 4=true:=hall 4 (Nat.le_of_ble_eq_true rfl);have e7:L 7=true:=hall 7 (Nat.le_of_ble_eq_true rfl);have hS:St5 x.fs W9 (w.heap.size+1) is #[.string a3,.int .i64 k3,.string n3,.slice sf3 kf3.length cf3,.slice al3 l3.length cl3,.slice ar3 r3.length cr3,.slice sl3 ks3.length cap3] (L 2) (L 4) (L 7) y wx:=hSt;rw [e2,e4,e7] at hS;obtain⟨v9,t9,q9⟩:=hgot 8 _ 9 rfl rfl;have e9:v9 = .bool fits:=q9 rfl;subst e9;obtain⟨tm,df⟩:=a;(obtain⟨ys,zs,hys,hzs,htm,rfl⟩:=QDH 9 1 26 7 10 36 43 rfl rfl rfl (by kernel_rfl) (Nat.le_of_ble_eq_true rfl) ⟨hsz,hdf,hold⟩);obtain⟨x9,rfl⟩:=QJj ys hys;obtain⟨x36,x37,x38,x39,x40,x41,x42,rfl⟩:=QOM zs hzs;simp only [List.take_succ_cons,List.take_zero,List.drop_succ_cons,List.drop_zero,List.cons_append,List.nil_append] at htm;subst htm;obtain rfl:x9=_:=QAK t9;clear hys hzs hold hgot hall hSt hsz hdf e2 e4 e7 t9 q9;obtain⟨u1,u2,gk⟩:=y;have hsL:=(hS.ends rfl).1;have hsR:=(hS.ends rfl).2;obtain⟨hg1,hg2⟩:=hS.row rfl;have hbx:wx.heap[w.heap.size+1]? = some (.cells #[.string ⟨#[119,101,97,107]⟩,.int .i64 0,.string ⟨#[]⟩,.slice none 0 0,u1,u2,.slice (some ⟨gk,0,none⟩) 1 1] 32 (0,0)):=hS.box;have hKx:=hS.kept;have hzx:W9.heap.size≤wx.heap.size:=hKx.size;obtain⟨m0,m1,m2,m3,m4,m5,m6⟩:=QAj hbx;clear hS;go_wp2_with fail;have hR4:=HR4.out;(refine bodyPost_ret (v := .tuple #[.agg #[.string ⟨#[119,101,97,107]⟩,.int .i64 0,.string ⟨#[]⟩,.slice none 0 0,u1,u2,.slice (some ⟨gk,0,none⟩) 1 1],.bool fits]) (by simp [results,Tryz.results103,go_sem,m0,m1,m2,m3,m4,m5,m6]) rfl ⟨.mk ⟨#[119,101,97,107]⟩ (.mk 0 ⟨#[]⟩ []) (QAW x.fs is) (QAX x.fs is) [.mk a3 (.mk k3 n3 kf3) l3 r3 ks3],_,fits,st3,nd3,rfl,?_,HW9.out.next (fun b hb hk=>hKx.block b hb ?_) hKx.size,QAM (QAM HK3.out (QAN (ok:=fun b=>b≠bz) HB9.out fun _ h _=>h) fun _ _ h=>h) hKx fun b hb _=>by omega,fun hf => ?_,fun _ h=>(by cases h)⟩)
   ·rw [PRp.def]
    (refine⟨_,_,_,_,_,_,_,rfl,by unfold maxLen;decide,Rep.leaf (by simp [maxLen,ByteArray.size]),hsL.move fun b hb hp=>⟨rfl,by omega⟩,hsR.move fun b hb hp=>⟨rfl,by omega⟩,Nat.le_refl _,by unfold maxLen;simp,fun _=>⟨gk,0,rfl,by omega,?_⟩⟩);rw [PRps.cons];obtain⟨c0,c1,c2,c3,c4,c5,c6⟩:=QAj hg2;(refine⟨⟨_,_,_,_,_,_,_,c0,c1,c2,c3,c4,c5,c6,HP3.out.move fun b hb hp=>⟨(hKx.block b (by omega) (by omega)).trans (HB9.out.block b hb),by omega⟩⟩,PRps.nil⟩)
   ·rcases hk with hk|hk
    ·have:=(HW0.out.kz b hk).2
     omega
    ·omega
   ·obtain⟨p1,p2,p3,p4⟩:=HF3.out hf
    (refine⟨WPf.weak deep _ rfl _ is _ hR4.2.1 hR4.2.2.1 p1,?_,p3,p4,fun h=>(by cases h)⟩);rw [Pf.size,Pf.sizes,Pf.sizes];omega
theorem QOT {x:Fx} (ht:TabOk x.ps x.fs) (hpl:∀ n,n < x.fs.length→Pl (x.fs.getD n QAR)) (hsm:∀ f∈x.fs,f.size≤1000) {p:Plan} (hp:QAo x.ps p):QCk p→QFQ x true p:=by
 induction hp with
 | ax a ha i n hi hn =>
  intro hN
  cases hN with
  | mk _ _ _ _ h1 h2 h3 =>
   (refine QCl hsm _ h1 (by simp [Plan.kids]) (QCe ht hpl hsm a i _ [] h1 ?_ (Or.inl rfl) (fun j k h=>by simp at h) (fun j k pr h=>by simp at h) h3))
   rcases QDJ i with e|e
   ·rw [hi] at e;rw [e];simp
   ·rw [hi] at e;rw [e];simp
 | tr a ha i p hp hk hr =>
  intro hN
  cases hN with
  | mk _ _ _ _ h1 h2 h3=>exact QCl hsm _ h1 (by simp [Plan.kids]) (QCe ht hpl hsm a i _ [] h1 (by simp) (Or.inl rfl) (fun j k h=>by simp at h) (fun j k pr h=>by simp at h) h3)
 | fa a ha i p hp hk hr =>
  intro hN
  cases hN with
  | mk _ _ _ _ h1 h2 h3=>exact QCl hsm _ h1 (by simp [Plan.kids]) (QCe ht hpl hsm a i _ [] h1 (by simp) (Or.inl rfl) (fun j k h=>by simp at h) (fun j k pr h=>by simp at h) h3)
 | step a i needs kids hi ha hin hne hlen hk hn ih =>
  intro hN
  cases hN with
  | mk _ _ _ _ h1 h2 h3=>exact QCl hsm _ h1 (by show kids.length≤2;rw [hlen];exact (QDR ht (List.getElem?_eq_getElem hi) (hpl _ (by rw [← ht.len];exact hi))).1) (QCe ht hpl hsm a i needs kids h1 hin (Or.inr hlen) (fun j k h=>ih j k h (h2 k (List.mem_of_getElem? h))) hn h3)
def QMI (x:Fx) (w:World) (p:Plan) (is:List Nat) (e:Ending) (w':World):Prop :=
 ∃ (P:Pf) (pv:Value) (fits:Bool),e = .returned (.tuple #[pv,.bool fits])∧PRp (w.heap.size≤·) w' P pv∧Below w.heap.size w w'∧(fits=true→WPf x.ps x.fs 1 p is P∧P.size≤20000)∧(fits=false→pv = .agg #[.string ⟨#[]⟩,.int .i64 0,.string ⟨#[]⟩,.slice none 0 0,.slice none 0 0,.slice none 0 0,.slice none 0 0]∧¬ Roomy (x.nods is) 0 0 1)
theorem QNh (l:List Value) (h0:l.length=10):∃ x0 x1 x2 x3 x4 x5 x6 x7 x8 x9,l=[x0,x1,x2,x3,x4,x5,x6,x7,x8,x9]:=by
 obtain⟨x0,l1,e0,h1⟩:=QAD h0;obtain⟨x1,l2,e1,h2⟩:=QAD h1;obtain⟨x2,l3,e2,h3⟩:=QAD h2;obtain⟨x3,l4,e3,h4⟩:=QAD h3;obtain⟨x4,l5,e4,h5⟩:=QAD h4;obtain⟨x5,l6,e5,h6⟩:=QAD h5;obtain⟨x6,l7,e6,h7⟩:=QAD h6;obtain⟨x7,l8,e7,h8⟩:=QAD h7;obtain⟨x8,l9,e8,h9⟩:=QAD h8;obtain⟨x9,l10,e9,h10⟩:=QAD h9;have e10:l10=[]:=List.length_eq_zero_iff.1 h10;subst e10 e9 e8 e7 e6 e5 e4 e3 e2 e1 e0;exact⟨x0,x1,x2,x3,x4,x5,x6,x7,x8,x9,rfl⟩
structure StA (wr:World) (nw:Array Value) (l10 l11:Bool) (y:Nat) (w:World):Prop where
 below:Below wr.heap.size wr w
 box:l10=true→wr.heap.size≤y∧w.heap[y]? = some (.cells (cond l11 nw #[.pointer none,.slice none 0 0,.bool false,.int .i64 0,.int .i64 0]) 162 (0,0))
theorem StA.alloc {wr w:World} {nw:Array Value} {l10 l11:Bool} {y:Nat} (h:StA wr nw l10 l11 y w) (e:l11=false):StA wr nw true l11 w.heap.size (w.alloc (.cells #[.pointer none,.slice none 0 0,.bool false,.int .i64 0,.int .i64 0] 162 (0,0))):=by
 subst e;(exact⟨QAB h.below _,fun _=>⟨h.below.size,QAH w _⟩⟩)
theorem StA.store {wr w:World} {v0 v1 v2 v3 v4:Value} {l10 l11:Bool} {y:Nat} (h:StA wr #[v0,v1,v2,v3,v4] l10 l11 y w) (e10:l10=true) (e:l11=false):StA wr #[v0,v1,v2,v3,v4] l10 true y (((((w.setCell ⟨y,0,none⟩ v0).setCell ⟨y,1,none⟩ v1).setCell ⟨y,2,none⟩ v2).setCell ⟨y,3,none⟩ v3).setCell ⟨y,4,none⟩ v4):=by
 subst e e10;obtain⟨h1,h2⟩:=h.box rfl;(refine⟨((((h.below.setCell (p:=⟨y,0,none⟩) h1 _).setCell (p:=⟨y,1,none⟩) h1 _).setCell (p:=⟨y,2,none⟩) h1 _).setCell (p:=⟨y,3,none⟩) h1 _).setCell (p:=⟨y,4,none⟩) h1 _,fun _=>⟨h1,?_⟩⟩);rw [QAS (QAS (QAS (QAS (QAS h2 _) _) _) _) _];rfl
set_option maxRecDepth 10000 in
set_option maxHeartbeats 8000000 in
theorem QIp {x:Fx} (ht:TabOk x.ps x.fs) (hpl:∀ n,n < x.fs.length→Pl (x.fs.getD n QAR)) (hsm:∀ f∈x.fs,f.size≤1000) {p:Plan} (hpo:QAo x.ps p) (hpn:QCk p) {w:World} {M:Nat→Prop} {wh br:List Nat} {wk:Nat} {op:Bool} (h:FinSt x w M wh br wk op) {Q Q':Nat→Prop} (is:List Nat) (pv v:Value) (hp:PlanR Q w p pv) (hv:IRow Q' w v is) (hbd:∀ i∈is,i < x.L) (hsub:∀ y∈p.needs,y∈is) (hil:is.length≤100) :
  Calls Tryz.prog 52 #[pv,v,.pointer (some ⟨x.bf,0,none⟩)] w (QMI x w p is):=by
 have hw:=QOT ht hpl hsm hpo hpn;obtain⟨ru,i,needs,kids⟩:=p;obtain⟨an,cn,sl,cap,rfl,-⟩:=hp.parts;have hv':=hv;obtain⟨ae,ce,rfl,hec,hecm,-⟩:=hv';obtain⟨adB,cB,hfin,-⟩:=h.fin;obtain⟨aW,cW,hvW,-⟩:=h.ways;rw [hvW] at hfin;have HFi:Hid (w.heap[x.bf]? = some (.cells #[.pointer (some ⟨x.bt,0,none⟩),.slice aW (2 * x.ps.length) cW,.slice (some ⟨x.bw,0,none⟩) x.L x.L,.slice adB br.length cB,.int .i64 (wk:Nat),.bool op] 92 (0,0))):=hfin;have HFs:Hid (FinSt x w M wh br wk op):=h
 have HCall:Hid (∀ (W:World) (bz:Nat) (lean:Bool),Below w.heap.size w W→w.heap.size≤bz→W.heap[bz]? = some (.cells #[.pointer (some ⟨x.bt,0,none⟩),.slice aW (2 * x.ps.length) cW,.bool lean,.int .i64 0,.int .i64 0] 162 (0,0))→Calls Tryz.prog 103 #[.pointer (some ⟨bz,0,none⟩),.agg #[.string ru,.int .i64 (i:Nat),.slice an needs.length cn,.slice sl kids.length cap],.slice ae is.length ce,.int .i64 1] W (QFR x W bz lean 0 0 1 (.mk ru i needs kids) is)):=fun W bz lean hb hz hblk=>by
  have hz':=QAE hblk;(refine hw W bz lean 0 0 1 is _ _ ⟨h.tab.up hb,h.ways.move fun b hl hp=>⟨hb.block b hl,hp⟩,by rw [hvW];exact hblk,h.tk,fun b hk => ?_,h.l2,h.plen⟩ (hp.move fun b hl _=>⟨hb.block b hl,by omega⟩) (hv.move fun b hl _=>⟨hb.block b hl,by omega⟩) hbd hsub hil (by omega) (by omega) (by omega) (fun e=>(by cases e)));have h1:=(h.km b hk).2;have h2:=hb.size;(exact⟨by omega,by omega⟩)
 obtain⟨O3,hO3⟩:∃ O,O=Obj.cells #[.string ru,.int .i64 (i:Nat),.slice an needs.length cn,.slice sl kids.length cap] 85 (0,0):=⟨_,rfl⟩;obtain⟨O6,hO6⟩:∃ O,O=Obj.cells #[.string ⟨#[]⟩,.int .i64 0,.string ⟨#[]⟩,.slice none 0 0,.slice none 0 0,.slice none 0 0,.slice none 0 0] 32 (0,0):=⟨_,rfl⟩;have zbf:=QAE hfin;(have hLI:(x.L:Int)≤200000:=by have h1:=h.l2;have h2:=h.plen;omega);clear h hp hv hbd hsub hpo hpn hsm hpl ht hw hfin hvW
 go_enter Tryz.func52,Tryz.ntmps52
 go_wp2_with fail;obtain⟨W,hW⟩:∃ W,W=((w.alloc O3).alloc O6).alloc (.cells #[.bool false,.bool true] 4 (0,0)):=⟨_,rfl⟩;rw [← hO3,← hO6,← hW];(have B0:Hid (Below w.heap.size w W):=by rw [hW];exact QAB (QAB (QAB (Below.refl _ w) _) _) _);(have P3:Hid (W.heap[w.heap.size]? = some (.cells #[.string ru,.int .i64 (i:Nat),.slice an needs.length cn,.slice sl kids.length cap] 85 (0,0))):=by rw [hW,← hO3];exact QAG (QAG (QAH w O3) _) _);(have P6:Hid (W.heap[w.heap.size+1]? = some (.cells #[.string ⟨#[]⟩,.int .i64 0,.string ⟨#[]⟩,.slice none 0 0,.slice none 0 0,.slice none 0 0,.slice none 0 0] 32 (0,0))):=by rw [hW,← hO6];exact QAG (QAa w O3 O6) _);(have P11:Hid (W.heap[w.heap.size+1+1]? = some (.cells #[.bool false,.bool true] 4 (0,0))):=by rw [hW];have:=QAH ((w.alloc O3).alloc O6) (.cells #[.bool false,.bool true] 4 (0,0));rw [World.size_alloc,World.size_alloc] at this;exact this);(have HZ:Hid (W.heap.size=w.heap.size+3):=by show _=_;rw [hW];simp);clear hW
 go_loopg [13] 2 (fun g c wr=>∃ (k:Nat) (q0 q1 q2 q3 q4 q5 q6:Value),k≤2∧g=2 - k∧c = .int .i64 (k:Nat)∧Hid (Below w.heap.size w wr)∧Hid (w.heap.size+3≤wr.heap.size)∧Hid (wr.heap[w.heap.size]? = some (.cells #[.string ru,.int .i64 (i:Nat),.slice an needs.length cn,.slice sl kids.length cap] 85 (0,0)))∧Hid (wr.heap[w.heap.size+1]? = some (.cells #[q0,q1,q2,q3,q4,q5,q6] 32 (0,0)))∧Hid (wr.heap[w.heap.size+1+1]? = some (.cells #[.bool false,.bool true] 4 (0,0)))∧Hid (0 < k→¬ Roomy (x.nods is) 0 0 1))
 case atStart=>exact⟨0,_,_,_,_,_,_,_,by omega,by omega,rfl,B0,(by show _≤_;have:=HZ.out;omega),P3,P6,P11,fun h=>absurd h (Nat.not_lt_zero _)⟩
 case round =>
  obtain⟨k,q0,q1,q2,q3,q4,q5,q6,hk,hg,rfl,HB,HZr,H3,H6,H11,HNr⟩:=hrel;have HG:Hid (gk=2 - k):=hg;clear hg;have hzr:w.heap.size+3≤wr.heap.size:=HZr.out;obtain⟨y0,y1,y2,y3,y4,y5,y6⟩:=QAj H6.out;obtain⟨f0,f1,f2,f3,f4,f5,f6⟩:=QCT H6.out;obtain⟨d0,d1,d2,d3,-⟩:=QAn H3.out;obtain⟨c0,c1,-⟩:=QAV H11.out;obtain⟨z0,z1,-⟩:=QCW (QAA HB.out HFi.out);by_cases h2:k=2
  ·subst h2
   clear c0 c1 z0 z1 d0 d1 d2 d3;(have hN:=HNr.out (by omega));have HNo:Hid (¬ Roomy (x.nods is) 0 0 1):=hN;clear hN;go_wp2_with fail;obtain⟨Wf,hWf⟩:∃ Wf,Wf=QBT wr (w.heap.size+1) (.string ⟨#[]⟩) (.int .i64 0) (.string ⟨#[]⟩) (.slice none 0 0) (.slice none 0 0) (.slice none 0 0) (.slice none 0 0):=⟨_,rfl⟩
   change bodyPost _ _ _ _ _ (QBT wr (w.heap.size+1) (.string ⟨#[]⟩) (.int .i64 0) (.string ⟨#[]⟩) (.slice none 0 0) (.slice none 0 0) (.slice none 0 0) (.slice none 0 0))
   have hE:=QBL (.string ⟨#[]⟩) (.int .i64 0) (.string ⟨#[]⟩) (.slice none 0 0) (.slice none 0 0) (.slice none 0 0) (.slice none 0 0) H6.out;have hKf:=QBK wr (w.heap.size+1) (.string ⟨#[]⟩) (.int .i64 0) (.string ⟨#[]⟩) (.slice none 0 0) (.slice none 0 0) (.slice none 0 0) (.slice none 0 0);rw [← hWf] at hE hKf ⊢;clear hWf;obtain⟨m0,m1,m2,m3,m4,m5,m6⟩:=QAj hE;have hz0:=HB.out.size;(exact bodyPost_ret (v := .tuple #[.agg #[.string ⟨#[]⟩,.int .i64 0,.string ⟨#[]⟩,.slice none 0 0,.slice none 0 0,.slice none 0 0,.slice none 0 0],.bool false]) (by simp [results,Tryz.results52,go_sem,m0,m1,m2,m3,m4,m5,m6]) rfl ⟨_,_,false,rfl,QFM Wf _,HB.out.trans (hKf.below (by omega) fun b hb=>by omega),fun h=>(by cases h),fun _=>⟨rfl,HNo.out⟩⟩)
  ·obtain⟨lean,hcl⟩:∃ lean,wr.cell? ⟨w.heap.size+1+1,k,none⟩=some (.bool lean)∧(k=0→lean=false):=by
    rcases (by omega:k=0∨k=1) with rfl|rfl
    ·exact⟨false,c0,fun _=>rfl⟩
    ·exact⟨true,c1,fun h=>by omega⟩
   have HLe:Hid (k=0→lean=false):=hcl.2;have hce:=hcl.1;(have hkI:(k:Int) < 2:=by omega);clear c0 c1 hcl;have HFr:Hid (wr.heap[x.bf]? = some (.cells #[.pointer (some ⟨x.bt,0,none⟩),.slice aW (2 * x.ps.length) cW,.slice (some ⟨x.bw,0,none⟩) x.L x.L,.slice adB br.length cB,.int .i64 (wk:Nat),.bool op] 92 (0,0))):=QAA HB.out HFi.out;have zb':x.bf < wr.heap.size:=QAE HFr.out;go_wp2_with fail;(refine QBv (by kernel_rfl) (by kernel_rfl) (by kernel_rfl) 37 rfl (by kernel_rfl) [fun _ v _=>v=(.pointer (some ⟨x.bf,0,none⟩)),fun _ v _=>v=(.pointer (some ⟨x.bf,0,none⟩)),fun _ v _=>v=(.pointer (some ⟨x.bf,0,none⟩)),fun _ v _=>v=(.pointer (some ⟨x.bt,0,none⟩)),fun _ v _=>v=(.pointer (some ⟨x.bf,0,none⟩)),fun _ v _=>v=(.pointer (some ⟨x.bf,0,none⟩)),fun _ v _=>v=(.pointer (some ⟨x.bf,1,none⟩)),fun _ v _=>v=(.slice aW (2 * x.ps.length) cW),fun _ v _=>v=(.bool lean),fun _ v _=>v=(.agg #[.pointer (some ⟨x.bt,0,none⟩),.slice aW (2 * x.ps.length) cW,.bool lean,.int .i64 0,.int .i64 0]),fun y v _=>v = .pointer (some ⟨y,0,none⟩),fun _ _ _=>True] (fun _ _=>true) (fun L=>StA wr #[.pointer (some ⟨x.bt,0,none⟩),.slice aW (2 * x.ps.length) cW,.bool lean,.int .i64 0,.int .i64 0] (L 10) (L 11)) (0) ?_ ?_ ?_)
   ·exact fun wx h _=>⟨h,fun e=>(by cases e)⟩
   ·refine⟨?_,?_,?_,?_,?_,?_,?_,?_,?_,?_,?_,?_,trivial⟩
    ·intro L y a wx hSt hLi hdl hcl hold hdep K hK
     have HSt:Hid (StA wr #[.pointer (some ⟨x.bt,0,none⟩),.slice aW (2 * x.ps.length) cW,.bool lean,.int .i64 0,.int .i64 0] (L 10) (L 11) y wx):=hSt;clear hSt;have t2:a.tmps[2]? = some (.pointer (some ⟨x.bf,0,none⟩)):=hold 2 rfl;clear hold hdep hdl hcl hLi;go_simp;(exact hK.out _ _ y HSt.out rfl (fun j hj hl=>⟨hl,fun u h=>h⟩))
    ·intro L y a wx hSt hLi hdl hcl hold hdep K hK
     have HSt:Hid (StA wr #[.pointer (some ⟨x.bt,0,none⟩),.slice aW (2 * x.ps.length) cW,.bool lean,.int .i64 0,.int .i64 0] (L 10) (L 11) y wx):=hSt;clear hSt;obtain⟨v17,t17,q17⟩:=hdep 0 rfl _ 17 rfl rfl;have e17:v17=(.pointer (some ⟨x.bf,0,none⟩)):=q17 rfl;subst e17;clear hold hdep hdl hcl hLi;go_simp;(exact hK.out _ _ y HSt.out rfl (fun j hj hl=>⟨hl,fun u h=>h⟩))
    ·intro L y a wx hSt hLi hdl hcl hold hdep K hK
     have HSt:Hid (StA wr #[.pointer (some ⟨x.bt,0,none⟩),.slice aW (2 * x.ps.length) cW,.bool lean,.int .i64 0,.int .i64 0] (L 10) (L 11) y wx):=hSt;clear hSt;obtain⟨v18,t18,q18⟩:=hdep 1 rfl _ 18 rfl rfl;have e18:v18=(.pointer (some ⟨x.bf,0,none⟩)):=q18 rfl;subst e18;clear hold hdep hdl hcl hLi;go_simp;(exact hK.out _ _ y HSt.out rfl (fun j hj hl=>⟨hl,fun u h=>h⟩))
    ·intro L y a wx hSt hLi hdl hcl hold hdep K hK
     have HSt:Hid (StA wr #[.pointer (some ⟨x.bt,0,none⟩),.slice aW (2 * x.ps.length) cW,.bool lean,.int .i64 0,.int .i64 0] (L 10) (L 11) y wx):=hSt;clear hSt;obtain⟨v19,t19,q19⟩:=hdep 2 rfl _ 19 rfl rfl;have e19:v19=(.pointer (some ⟨x.bf,0,none⟩)):=q19 rfl;subst e19;obtain⟨z0,z1,-⟩:=QCW (QAA HSt.out.below HFr.out);clear hold hdep hdl hcl hLi;go_simp;(exact hK.out _ _ y HSt.out rfl (fun j hj hl=>⟨hl,fun u h=>h⟩))
    ·intro L y a wx hSt hLi hdl hcl hold hdep K hK
     have HSt:Hid (StA wr #[.pointer (some ⟨x.bt,0,none⟩),.slice aW (2 * x.ps.length) cW,.bool lean,.int .i64 0,.int .i64 0] (L 10) (L 11) y wx):=hSt;clear hSt;have t2:a.tmps[2]? = some (.pointer (some ⟨x.bf,0,none⟩)):=hold 2 rfl;clear hold hdep hdl hcl hLi;go_simp;(exact hK.out _ _ y HSt.out rfl (fun j hj hl=>⟨hl,fun u h=>h⟩))
    ·intro L y a wx hSt hLi hdl hcl hold hdep K hK
     have HSt:Hid (StA wr #[.pointer (some ⟨x.bt,0,none⟩),.slice aW (2 * x.ps.length) cW,.bool lean,.int .i64 0,.int .i64 0] (L 10) (L 11) y wx):=hSt;clear hSt;obtain⟨v21,t21,q21⟩:=hdep 4 rfl _ 21 rfl rfl;have e21:v21=(.pointer (some ⟨x.bf,0,none⟩)):=q21 rfl;subst e21;clear hold hdep hdl hcl hLi;go_simp;(exact hK.out _ _ y HSt.out rfl (fun j hj hl=>⟨hl,fun u h=>h⟩))
    ·intro L y a wx hSt hLi hdl hcl hold hdep K hK
     have HSt:Hid (StA wr #[.pointer (some ⟨x.bt,0,none⟩),.slice aW (2 * x.ps.length) cW,.bool lean,.int .i64 0,.int .i64 0] (L 10) (L 11) y wx):=hSt;clear hSt;obtain⟨v22,t22,q22⟩:=hdep 5 rfl _ 22 rfl rfl;have e22:v22=(.pointer (some ⟨x.bf,0,none⟩)):=q22 rfl;subst e22;clear hold hdep hdl hcl hLi;go_simp;(exact hK.out _ _ y HSt.out rfl (fun j hj hl=>⟨hl,fun u h=>h⟩))
    ·intro L y a wx hSt hLi hdl hcl hold hdep K hK
     have HSt:Hid (StA wr #[.pointer (some ⟨x.bt,0,none⟩),.slice aW (2 * x.ps.length) cW,.bool lean,.int .i64 0,.int .i64 0] (L 10) (L 11) y wx):=hSt;clear hSt;obtain⟨v23,t23,q23⟩:=hdep 6 rfl _ 23 rfl rfl;have e23:v23=(.pointer (some ⟨x.bf,1,none⟩)):=q23 rfl;subst e23;obtain⟨z0,z1,-⟩:=QCW (QAA HSt.out.below HFr.out);clear hold hdep hdl hcl hLi;go_simp;(exact hK.out _ _ y HSt.out rfl (fun j hj hl=>⟨hl,fun u h=>h⟩))
    ·intro L y a wx hSt hLi hdl hcl hold hdep K hK
     have HSt:Hid (StA wr #[.pointer (some ⟨x.bt,0,none⟩),.slice aW (2 * x.ps.length) cW,.bool lean,.int .i64 0,.int .i64 0] (L 10) (L 11) y wx):=hSt;clear hSt;have t9:a.tmps[9]? = some (.bool lean):=hold 9 rfl;clear hold hdep hdl hcl hLi;go_simp;(exact hK.out _ _ y HSt.out rfl (fun j hj hl=>⟨hl,fun u h=>h⟩))
    ·intro L y a wx hSt hLi hdl hcl hold hdep K hK
     have HSt:Hid (StA wr #[.pointer (some ⟨x.bt,0,none⟩),.slice aW (2 * x.ps.length) cW,.bool lean,.int .i64 0,.int .i64 0] (L 10) (L 11) y wx):=hSt;clear hSt;obtain⟨v20,t20,q20⟩:=hdep 3 rfl _ 20 rfl rfl;have e20:v20=(.pointer (some ⟨x.bt,0,none⟩)):=q20 rfl;subst e20;obtain⟨v24,t24,q24⟩:=hdep 7 rfl _ 24 rfl rfl;have e24:v24=(.slice aW (2 * x.ps.length) cW):=q24 rfl;subst e24;obtain⟨v25,t25,q25⟩:=hdep 8 rfl _ 25 rfl rfl;have e25:v25=(.bool lean):=q25 rfl;subst e25;clear hold hdep hdl hcl hLi;go_simp;(exact hK.out _ _ y HSt.out rfl (fun j hj hl=>⟨hl,fun u h=>h⟩))
    ·intro L y a wx hSt hLi hdl hcl hold hdep K hK
     have HSt:Hid (StA wr #[.pointer (some ⟨x.bt,0,none⟩),.slice aW (2 * x.ps.length) cW,.bool lean,.int .i64 0,.int .i64 0] (L 10) (L 11) y wx):=hSt;clear hSt;(have e11:L 11=false:=QCb hLi fun h=>hcl 11 _ rfl h 10 rfl);clear hold hdep hdl;go_simp;refine hK.out _ _ wx.heap.size (HSt.out.alloc e11) rfl ?_;intro j hj hl;(refine⟨rfl,fun u h => ?_⟩)
     rcases j with _|_|_|_|_|_|_|_|_|_|_|_|j
     ·exact h
     ·exact h
     ·exact h
     ·exact h
     ·exact h
     ·exact h
     ·exact h
     ·exact h
     ·exact h
     ·exact h
     ·exact Bool.noConfusion (hLi.symm.trans hj)
     ·exact h
     ·exact h
    ·intro L y a wx hSt hLi hdl hcl hold hdep K hK
     have HSt:Hid (StA wr #[.pointer (some ⟨x.bt,0,none⟩),.slice aW (2 * x.ps.length) cW,.bool lean,.int .i64 0,.int .i64 0] (L 10) (L 11) y wx):=hSt;clear hSt;have e10:=hdl 10 rfl;obtain⟨v10,t10,q10⟩:=hdep 10 rfl _ 10 rfl rfl;have e10:v10=(.pointer (some ⟨y,0,none⟩)):=q10 rfl;subst e10;obtain⟨v26,t26,q26⟩:=hdep 9 rfl _ 26 rfl rfl;have e26:v26=(.agg #[.pointer (some ⟨x.bt,0,none⟩),.slice aW (2 * x.ps.length) cW,.bool lean,.int .i64 0,.int .i64 0]):=q26 rfl;subst e26
     have hbx:wx.heap[y]? = some (.cells #[.pointer none,.slice none 0 0,.bool false,.int .i64 0,.int .i64 0] 162 (0,0)):=by
      have h:=(HSt.out.box e10).2;rw [hLi] at h;exact h
     obtain⟨y0,y1,y2,y3,y4,f0,f1,f2,f3,f4⟩:=QCg hbx;clear hold hdep hdl hcl hbx;go_simp;obtain⟨w9,hw9⟩:∃ w9,w9=((((wx.setCell ⟨y,0,none⟩ (.pointer (some ⟨x.bt,0,none⟩))).setCell ⟨y,1,none⟩ (.slice aW (2 * x.ps.length) cW)).setCell ⟨y,2,none⟩ (.bool lean)).setCell ⟨y,3,none⟩ (.int .i64 0)).setCell ⟨y,4,none⟩ (.int .i64 0):=⟨_,rfl⟩;have hS9:=HSt.out.store e10 hLi;rw [← hw9];simp only [← hw9] at hS9;clear hw9;refine hK.out (.bool false) _ _ hS9 trivial ?_;intro j hj hl;(refine⟨rfl,fun u h => ?_⟩)
     rcases j with _|_|_|_|_|_|_|_|_|_|_|_|j
     ·exact h
     ·exact h
     ·exact h
     ·exact h
     ·exact h
     ·exact h
     ·exact h
     ·exact h
     ·exact h
     ·exact h
     ·exact h
     ·exact h
     ·exact h
   ·intro L y a wx hall hSt hsz hdf hold hgot
    have e10:L 10=true:=hall 10 (Nat.le_of_ble_eq_true rfl);have e11:L 11=true:=hall 11 (Nat.le_of_ble_eq_true rfl);have hS:StA wr #[.pointer (some ⟨x.bt,0,none⟩),.slice aW (2 * x.ps.length) cW,.bool lean,.int .i64 0,.int .i64 0] (L 10) (L 11) y wx:=hSt;rw [e10,e11] at hS;obtain⟨v10,t10,q10⟩:=hgot 10 _ 10 rfl rfl;have e10':v10 = .pointer (some ⟨y,0,none⟩):=q10 rfl;subst e10';obtain⟨tm,df⟩:=a;(obtain⟨ys,zs,hys,hzs,htm,rfl⟩:=QDH 10 1 6 10 11 17 27 rfl rfl rfl (by kernel_rfl) (Nat.le_of_ble_eq_true rfl) ⟨hsz,hdf,hold⟩);obtain⟨x10,rfl⟩:=QJj ys hys;obtain⟨x17,x18,x19,x20,x21,x22,x23,x24,x25,x26,rfl⟩:=QNh zs hzs;simp only [List.take_succ_cons,List.take_zero,List.drop_succ_cons,List.drop_zero,List.cons_append,List.nil_append] at htm;subst htm;obtain rfl:x10=_:=QAK t10;clear hys hzs hold hgot hall hSt hsz hdf e10 e11 t10 q10;have hBx:Below wr.heap.size wr wx:=hS.below;obtain⟨hy1,hy2⟩:=hS.box rfl;have HBx:Hid (Below wr.heap.size wr wx):=hBx;have HBy:Hid (wx.heap[y]? = some (.cells #[.pointer (some ⟨x.bt,0,none⟩),.slice aW (2 * x.ps.length) cW,.bool lean,.int .i64 0,.int .i64 0] 162 (0,0))):=hy2;have hyl:y < wx.heap.size:=QAE hy2;(have HC3:Hid (Calls Tryz.prog 103 #[.pointer (some ⟨y,0,none⟩),.agg #[.string ru,.int .i64 (i:Nat),.slice an needs.length cn,.slice sl kids.length cap],.slice ae is.length ce,.int .i64 1] wx (QFR x wx y lean 0 0 1 (.mk ru i needs kids) is)):=HCall.out wx y lean (QAC HB.out hBx) (by have:=HB.out.size;omega) hy2);obtain⟨d0,d1,d2,d3,-⟩:=QAn (QAA hBx H3.out);clear hS hBx hy2;go_wp2_with fail;refine HC3.out.mono ?_;clear HC3 d0 d1 d2 d3;rintro e w3 ⟨P,pv3,fits,st3,nd3,rfl,hP3,hw3,hk3,hf3,hf4⟩;obtain⟨a3,⟨k3,n3,kf3⟩,l3,r3,ks3⟩:=P;obtain⟨sf3,cf3,al3,cl3,ar3,cr3,sl3,cap3,rfl,-⟩:=hP3.parts;have hz3:wx.heap.size≤w3.heap.size:=hk3.size;have hzw:wr.heap.size≤wx.heap.size:=HBx.out.size;have HP3:Hid (PRp (wx.heap.size≤·) w3 (.mk a3 (.mk k3 n3 kf3) l3 r3 ks3) (.agg #[.string a3,.int .i64 k3,.string n3,.slice sf3 kf3.length cf3,.slice al3 l3.length cl3,.slice ar3 r3.length cr3,.slice sl3 ks3.length cap3])):=hP3;(have hBw3:Below wr.heap.size wx w3:=hk3.below hzw fun b hb=>by omega);have HB3:Hid (Below w.heap.size w w3):=(QAC HB.out HBx.out).trans (hBw3.mono HB.out.size);(have I3:Hid (w3.heap[w.heap.size]? = some (.cells #[.string ru,.int .i64 (i:Nat),.slice an needs.length cn,.slice sl kids.length cap] 85 (0,0))):=(hBw3.block _ (by omega)).trans (QAA HBx.out H3.out));(have I6:Hid (w3.heap[w.heap.size+1]? = some (.cells #[q0,q1,q2,q3,q4,q5,q6] 32 (0,0))):=(hBw3.block _ (by omega)).trans (QAA HBx.out H6.out));(have I11:Hid (w3.heap[w.heap.size+1+1]? = some (.cells #[.bool false,.bool true] 4 (0,0))):=(hBw3.block _ (by omega)).trans (QAA HBx.out H11.out));(have HF1:Hid (fits=true→WPf x.ps x.fs 1 (.mk ru i needs kids) is (.mk a3 (.mk k3 n3 kf3) l3 r3 ks3)∧(Pf.mk a3 (.mk k3 n3 kf3) l3 r3 ks3).size≤20000):=fun h=>⟨(hf3 h).1,by have h1:=(hf3 h).2.1;have h2:=(hf3 h).2.2.1;omega⟩);(have HF2:Hid (fits=false→k=0→¬ Roomy (x.nods is) 0 0 1):=fun h1 h2=>hf4 h1 (HLe.out h2));clear hP3 hw3 hk3 hf3 hf4 hBw3 y0 y1 y2 y3 y4 y5 y6 f0 f1 f2 f3 f4 f5 f6 z0 z1 hce;obtain⟨y0,y1,y2,y3,y4,y5,y6⟩:=QAj I6.out;obtain⟨f0,f1,f2,f3,f4,f5,f6⟩:=QCT I6.out;obtain⟨W4,hW4⟩:∃ W4,W4=QBT w3 (w.heap.size+1) (.string a3) (.int .i64 k3) (.string n3) (.slice sf3 kf3.length cf3) (.slice al3 l3.length cl3) (.slice ar3 r3.length cr3) (.slice sl3 ks3.length cap3):=⟨_,rfl⟩;have HE4:Hid (QBT w3 (w.heap.size+1) (.string a3) (.int .i64 k3) (.string n3) (.slice sf3 kf3.length cf3) (.slice al3 l3.length cl3) (.slice ar3 r3.length cr3) (.slice sl3 ks3.length cap3)=W4):=hW4.symm;have hK4:=QBK w3 (w.heap.size+1) (.string a3) (.int .i64 k3) (.string n3) (.slice sf3 kf3.length cf3) (.slice al3 l3.length cl3) (.slice ar3 r3.length cr3) (.slice sl3 ks3.length cap3)
    have h64:=QBL (.string a3) (.int .i64 k3) (.string n3) (.slice sf3 kf3.length cf3) (.slice al3 l3.length cl3) (.slice ar3 r3.length cr3) (.slice sl3 ks3.length cap3) I6.out;rw [← hW4] at hK4 h64;(have HK4:Hid (Kept (fun b=>b≠w.heap.size+1) w3 W4):=hK4);have H64:Hid (W4.heap[w.heap.size+1]? = some (.cells #[.string a3,.int .i64 k3,.string n3,.slice sf3 kf3.length cf3,.slice al3 l3.length cl3,.slice ar3 r3.length cr3,.slice sl3 ks3.length cap3] 32 (0,0))):=h64;(have HB4:Hid (Below w.heap.size w W4):=HB3.out.trans (hK4.below HB3.out.size fun b hb=>by omega));clear hW4 hK4 h64
    cases fits
    ·go_wp2_with fail
     unfold QBT at HE4;rw [HE4.out];go_wp2_with fail
     go_roundg (2 - (k+1))
     case measure=>have:=HG.out;omega
     case rel=>exact⟨k+1,_,_,_,_,_,_,_,by omega,rfl,by go_num,HB4,(by show _≤_;have:=HK4.out.size;omega),(HK4.out.block _ (by omega) (by omega)).trans I3.out,H64,(HK4.out.block _ (by omega) (by omega)).trans I11.out,fun _=>by
      rcases Nat.eq_zero_or_pos k with h0|h0
      ·exact HF2.out trivial h0
      ·exact HNr.out h0⟩
    ·go_wp2_with fail
     obtain⟨Wf,hWf⟩:∃ Wf,Wf=QBT W4 (w.heap.size+1) (.string a3) (.int .i64 k3) (.string n3) (.slice sf3 kf3.length cf3) (.slice al3 l3.length cl3) (.slice ar3 r3.length cr3) (.slice sl3 ks3.length cap3):=⟨_,rfl⟩
     change bodyPost _ _ _ _ _ (QBT (QBT w3 (w.heap.size+1) (.string a3) (.int .i64 k3) (.string n3) (.slice sf3 kf3.length cf3) (.slice al3 l3.length cl3) (.slice ar3 r3.length cr3) (.slice sl3 ks3.length cap3)) (w.heap.size+1) (.string a3) (.int .i64 k3) (.string n3) (.slice sf3 kf3.length cf3) (.slice al3 l3.length cl3) (.slice ar3 r3.length cr3) (.slice sl3 ks3.length cap3))
     have hE:=QBL (.string a3) (.int .i64 k3) (.string n3) (.slice sf3 kf3.length cf3) (.slice al3 l3.length cl3) (.slice ar3 r3.length cr3) (.slice sl3 ks3.length cap3) H64.out;have hKf:=QBK W4 (w.heap.size+1) (.string a3) (.int .i64 k3) (.string n3) (.slice sf3 kf3.length cf3) (.slice al3 l3.length cl3) (.slice ar3 r3.length cr3) (.slice sl3 ks3.length cap3);rw [HE4.out,← hWf];rw [← hWf] at hE hKf;clear hWf;obtain⟨m0,m1,m2,m3,m4,m5,m6⟩:=QAj hE;have hz4:=HK4.out.size;have hz0:=HB3.out.size;(refine bodyPost_ret (v := .tuple #[.agg #[.string a3,.int .i64 k3,.string n3,.slice sf3 kf3.length cf3,.slice al3 l3.length cl3,.slice ar3 r3.length cr3,.slice sl3 ks3.length cap3],.bool true]) (by simp [results,Tryz.results52,go_sem,m0,m1,m2,m3,m4,m5,m6]) rfl ⟨_,_,true,rfl,HP3.out.move fun b hb hp=>⟨(hKf.block b (by omega) (by omega)).trans (HK4.out.block b hb (by omega)),by omega⟩,HB4.out.trans (hKf.below (by omega) fun b hb=>by omega),fun _=>HF1.out trivial,fun h=>(by cases h)⟩)
def zPf:Value := .agg #[.string ⟨#[]⟩,.int .i64 0,.string ⟨#[]⟩,.slice none 0 0,.slice none 0 0,.slice none 0 0,.slice none 0 0]
inductive QEk (l r:List Fm) (w w':World):Value→Value→Bool→Int→Int→Prop
 | fault (h:(QAd l r).1≠0):QEk l r w w' zPf (.slice none 0 0) false (QAd l r).1 (QAd l r).2
 | much (h:(QAd l r).1=0) (hm:25 < Fm.sizes l+Fm.sizes r):QEk l r w w' zPf (.slice none 0 0) false 10 0
 | no (h:(QAd l r).1=0) (c:Value) (L:List (List UInt8)) (hc:TL w' c L) (ha:QER l r L) (hn:L.length≤100000):QEk l r w w' zPf c false 0 0
 | yes (h:(QAd l r).1=0) (P:Pf) (pv:Value) (hp:PRp (w.heap.size≤·) w' P pv) (hf:QCq 1 P) (hs:P.size≤20000) (hl:P.l=l) (hr:P.r=r) (hv:QMG l r) (ht:Tiny 0 P):QEk l r w w' pv (.slice none 0 0) true 0 0
def QMB (l r:List Fm) (w:World) (e:Ending) (w':World):Prop :=
 ∃ pv c val code at',e = .returned (.tuple #[pv,c,.bool val,.agg #[.int .i64 code,.int .i64 at']])∧Below w.heap.size w w'∧QEk l r w w' pv c val code at'
theorem QEf {l r:List Fm} (h:(QAd l r).1=0):QAd l r=(0,0):=by
 obtain⟨h1,h2⟩:=QCN h;unfold QAd;(rw [if_neg (by omega),QDD _ _ h2])
theorem QCi:∀ (l:List Fm),(∀ f∈l,f.pcode.1=0)→Fm.sizes l≤200 * l.length
 | [],_=>by rw [Fm.sizes];exact Nat.zero_le _
 | f :: l,h=>by
  (have h1:=(QAs (h f (by simp))).2);(have h2:=QCi l fun g hg=>h g (by simp [hg]));rw [Fm.sizes,List.length_cons];omega
theorem QJU {x:Fx} {il ir:List Nat} {l r:List Fm} (hl:ItsL x.fs il l) (hr:ItsR x.fs ir r):x.nods (il++ir)=Fm.sizes l+Fm.sizes r:=by
 have e:∀ (is:List Nat) (l:List Fm),is.length=l.length→(∀ (i:Nat) (f:Fm),l[i]? = some f→∃ n,is[i]? = some n∧itF x.fs n=f)→(is.map fun i=>(itF x.fs i).size).sum=Fm.sizes l:=by
  intro is
  induction is with
  | nil=>intro l hl _;cases l with
   | nil=>rw [Fm.sizes];rfl
   | cons f l=>cases hl
  | cons i is ih =>
   intro l hl h
   cases l with
   | nil=>cases hl
   | cons f l =>
    obtain⟨n,h1,h2⟩:=h 0 f rfl;(have e1:i=n:=by simpa using h1);subst e1
    rw [List.map_cons,List.sum_cons,Fm.sizes,h2,ih l (by simpa using hl) fun j g hj=>by
     (obtain⟨n,h3,h4⟩:=h (j+1) g (by simpa using hj))
     exact⟨n,by simpa using h3,h4⟩]
 unfold Fx.nods
 rw [List.map_append,List.sum_append,e il l hl.1 fun i f h=>by
  obtain⟨n,h1,h2⟩:=hl.2 i f h
  exact⟨2 * n,h1,by unfold itF;rw [show 2 * n / 2=n by omega,List.getD_eq_getElem?_getD,h2];rfl⟩,e ir r hr.1 fun i f h=>by
  obtain⟨n,h1,h2⟩:=hr.2 i f h
  exact⟨2 * n+1,h1,by unfold itF;rw [show (2 * n+1) / 2=n by omega,List.getD_eq_getElem?_getD,h2];rfl⟩]
theorem QMe {x:Fx} (n:Nat) (items:List Nat) (hb:∀ i∈items,i < n):x.mu (inF (List.replicate n 0) items).1≤x.nods items:=by
 (have h:=QHS x.sz (List.replicate n 0) items (List.replicate n 0,[]) rfl (by simpa using hb))
 have z:∀ (m k:Nat),muF x.sz k (List.replicate m 0)=0:=fun m=>by
  induction m with
  | zero=>intro k;rfl
  | succ m ih=>intro k;rw [List.replicate_succ,muF,ih,if_neg (by omega)]
 rw [z,Nat.zero_add] at h;exact h
theorem QOV:Gf 25≤20000:=by decide
theorem QMr {m:Nat} (h:m≤25):Roomy m 0 0 1:=by
 have h1:=QDu h;rw [QOU] at h1;have h2:Bs m * m≤12287 * 25:=Nat.mul_le_mul h1 h;(exact⟨by omega,by omega,by omega,by omega⟩)
def QDj (W:World) (b2 b5:Nat) (v0 v1 v2 v3 v4 v5 v6 c1 c2:Value):World:=((QBT W b2 v0 v1 v2 v3 v4 v5 v6).setCell ⟨b5,0,none⟩ c1).setCell ⟨b5,1,none⟩ c2
theorem QDw {W:World} {b2 b5:Nat} {u0 u1 u2 u3 u4 u5 u6 d1 d2:Value} {T T':TypeId} (h2:W.heap[b2]? = some (.cells #[u0,u1,u2,u3,u4,u5,u6] T (0,0))) (h5:W.heap[b5]? = some (.cells #[d1,d2] T' (0,0))) (hne:b2≠b5) (v0 v1 v2 v3 v4 v5 v6 c1 c2:Value) :
  (QDj W b2 b5 v0 v1 v2 v3 v4 v5 v6 c1 c2).heap[b2]? = some (.cells #[v0,v1,v2,v3,v4,v5,v6] T (0,0))∧(QDj W b2 b5 v0 v1 v2 v3 v4 v5 v6 c1 c2).heap[b5]? = some (.cells #[c1,c2] T' (0,0))∧Kept (fun b=>b≠b2∧b≠b5) W (QDj W b2 b5 v0 v1 v2 v3 v4 v5 v6 c1 c2):=by
 unfold QDj;refine⟨?_,?_,?_⟩
 ·rw [QAJ _ hne,QAJ _ hne]
  exact QBL _ _ _ _ _ _ _ h2
 ·rw [QAS (QAS ((QCD _ _ _ _ _ _ _ (Ne.symm hne)).trans h5) _) _]
  rfl
 ·exact QAM (QAM ((QBK W b2 v0 v1 v2 v3 v4 v5 v6).mono fun b _ h=>h.1) (QAf (ok:=fun b=>b≠b5) fun c h=>h) fun _ _ h=>h.2) (QAf (ok:=fun b=>b≠b5) fun c h=>h) fun _ _ h=>h.2
set_option maxRecDepth 10000 in
set_option maxHeartbeats 8000000 in
theorem QGj (l r:List Fm) (hl3:l.length≤400) (hr3:r.length≤400) (vl vr:Value) (w:World) (hl:FL w vl l) (hr:FL w vr r):Calls Tryz.prog 10 #[.agg #[vl,vr]] w (QMB l r w):=by
 have HL:Hid (FLp (· < w.heap.size) w vl l):=hl.low;have HR:Hid (FLp (· < w.heap.size) w vr r):=hr.low;(have HCk:Hid (∀ W,Below w.heap.size w W→Calls Tryz.prog 45 #[.agg #[vl,vr]] W fun e w'=>e = .returned (.agg #[.int .i64 (QAd l r).1,.int .i64 (QAd l r).2])∧Below W.heap.size W w'):=fun W hb=>QHN l r hl3 hr3 vl vr W (hl.up hb) (hr.up hb));obtain⟨al,cl,rfl,-⟩:=hl;obtain⟨ar,cr,rfl,-⟩:=hr;obtain⟨O1,hO1⟩:∃ O,O=Obj.cells #[.slice al l.length cl,.slice ar r.length cr] 24 (0,0):=⟨_,rfl⟩;obtain⟨O2,hO2⟩:∃ O,O=Obj.cells #[.string ⟨#[]⟩,.int .i64 0,.string ⟨#[]⟩,.slice none 0 0,.slice none 0 0,.slice none 0 0,.slice none 0 0] 32 (0,0):=⟨_,rfl⟩;obtain⟨O5,hO5⟩:∃ O,O=Obj.cells #[.int .i64 0,.int .i64 0] 35 (0,0):=⟨_,rfl⟩;obtain⟨W,hW⟩:∃ W,W=((w.alloc O1).alloc O2).alloc O5:=⟨_,rfl⟩;(have B0:Hid (Below w.heap.size w W):=by rw [hW];exact QAB (QAB (QAB (Below.refl _ w) _) _) _);(have P1:Hid (W.heap[w.heap.size]? = some (.cells #[.slice al l.length cl,.slice ar r.length cr] 24 (0,0))):=by rw [hW,← hO1];exact QAG (QAG (QAH w O1) _) _);(have P2:Hid (W.heap[w.heap.size+1]? = some (.cells #[.string ⟨#[]⟩,.int .i64 0,.string ⟨#[]⟩,.slice none 0 0,.slice none 0 0,.slice none 0 0,.slice none 0 0] 32 (0,0))):=by rw [hW,← hO2];exact QAG (QAa w O1 O2) _);(have P5:Hid (W.heap[w.heap.size+1+1]? = some (.cells #[.int .i64 0,.int .i64 0] 35 (0,0))):=by rw [hW,← hO5];have:=QAH ((w.alloc O1).alloc O2) O5;rw [World.size_alloc,World.size_alloc] at this;exact this);(have hz0:W.heap.size=w.heap.size+3:=by rw [hW];simp);have HWe:Hid (((w.alloc O1).alloc O2).alloc O5=W):=hW.symm;obtain⟨sc,hsc⟩:∃ sc,sc=QAd l r:=⟨_,rfl⟩;rw [← hsc] at HCk;have HSc:Hid (sc=QAd l r):=hsc;obtain⟨c1,c2⟩:=sc;clear hW hsc
 go_enter Tryz.func10,Tryz.ntmps10
 go_wp2_with fail;rw [← hO1,← hO2,← hO5,HWe.out];refine (HCk.out W B0.out).mono ?_;clear HCk;rintro e w1 ⟨rfl,hb1⟩;have hz1:W.heap.size≤w1.heap.size:=hb1.size;have Q1:Hid (w1.heap[w.heap.size]? = some (.cells #[.slice al l.length cl,.slice ar r.length cr] 24 (0,0))):=QAA hb1 P1.out;have Q2:Hid (w1.heap[w.heap.size+1]? = some (.cells #[.string ⟨#[]⟩,.int .i64 0,.string ⟨#[]⟩,.slice none 0 0,.slice none 0 0,.slice none 0 0,.slice none 0 0] 32 (0,0))):=QAA hb1 P2.out;have Q5:Hid (w1.heap[w.heap.size+1+1]? = some (.cells #[.int .i64 0,.int .i64 0] 35 (0,0))):=QAA hb1 P5.out;have HB1:Hid (Below w.heap.size w w1):=QAC B0.out hb1;obtain⟨y0,y1,f0,f1⟩:=QAV Q5.out;clear hb1 P1 P2 P5 B0;obtain⟨W1,hW1⟩:∃ W1,W1=(w1.setCell ⟨w.heap.size+1+1,0,none⟩ (.int .i64 c1)).setCell ⟨w.heap.size+1+1,1,none⟩ (.int .i64 c2):=⟨_,rfl⟩;have HE1:Hid ((w1.setCell ⟨w.heap.size+1+1,0,none⟩ (.int .i64 c1)).setCell ⟨w.heap.size+1+1,1,none⟩ (.int .i64 c2)=W1):=hW1.symm;(have hz2:w1.heap.size≤W1.heap.size:=by rw [hW1,QAO,QAO];exact Nat.le_refl _);(have R5:Hid (W1.heap[w.heap.size+1+1]? = some (.cells #[.int .i64 c1,.int .i64 c2] 35 (0,0))):=by rw [hW1,QAS (QAS Q5.out _) _];rfl);(have HK1:Hid (Kept (fun b=>b≠w.heap.size+1+1) w1 W1):=by rw [hW1];exact (QAf fun c h=>h).trans (QAf fun c h=>h));(have R1:Hid (W1.heap[w.heap.size]? = some (.cells #[.slice al l.length cl,.slice ar r.length cr] 24 (0,0))):=(HK1.out.block _ (by omega) (by omega)).trans Q1.out);(have R2:Hid (W1.heap[w.heap.size+1]? = some (.cells #[.string ⟨#[]⟩,.int .i64 0,.string ⟨#[]⟩,.slice none 0 0,.slice none 0 0,.slice none 0 0,.slice none 0 0] 32 (0,0))):=(HK1.out.block _ (by omega) (by omega)).trans Q2.out);(have HBW1:Hid (Below w.heap.size w W1):=HB1.out.trans (HK1.out.below (by omega) fun b hb=>by omega));clear hW1;by_cases hc:c1=0
 ·subst hc
  (have hs0:=QEf (l:=l) (r:=r) (by rw [← HSc.out]));(have hc2:c2=0:=by have h9:=HSc.out;rw [hs0] at h9;exact congrArg Prod.snd h9);subst hc2;have HS0:Hid (QAd l r=(0,0)):=hs0;(have hpc:=(QCN (l:=l) (r:=r) (by rw [hs0])).2);(have h60:=(QCN (l:=l) (r:=r) (by rw [hs0])).1);(have hszl:=QCi l fun f hf=>hpc f (List.mem_append_left _ hf));(have hszr:=QCi r fun f hf=>hpc f (List.mem_append_right _ hf));have HPC:Hid (∀ f∈l++r,f.pcode.1=0):=hpc;have HSz:Hid (l.length+r.length≤60∧Fm.sizes l≤200 * l.length∧Fm.sizes r≤200 * r.length):=⟨h60,hszl,hszr⟩;clear hpc h60 hszl hszr hs0;go_wp2_with fail;rw [HE1.out];refine (QMn W1).mono ?_;rintro e w2 ⟨rfl,htab,hb2⟩;have hz3:W1.heap.size≤w2.heap.size:=hb2.size;(obtain⟨T0,hT0⟩:∃ T0:Nat→Prop,T0=fun b=>W1.heap.size≤b∧b < w2.heap.size:=⟨_,rfl⟩);rw [← hT0] at htab;(have hT0':∀ b,T0 b→W1.heap.size≤b∧b < w2.heap.size:=fun b hb=>by rw [hT0] at hb;exact hb);(have HTab:Hid (Tab (PhS fun t=>∃ f∈l++r,t∈QEK f) w2 T0 (W1.heap.size+1) [] []):=⟨htab,TabOk.nil,fun g hg=>(by cases hg),fun b hb=>(hT0' b hb).2⟩);have HB2:Hid (Below w.heap.size w w2):=QAC HBW1.out hb2;have S1:Hid (w2.heap[w.heap.size]? = some (.cells #[.slice al l.length cl,.slice ar r.length cr] 24 (0,0))):=QAA hb2 R1.out;have S2:Hid (w2.heap[w.heap.size+1]? = some (.cells #[.string ⟨#[]⟩,.int .i64 0,.string ⟨#[]⟩,.slice none 0 0,.slice none 0 0,.slice none 0 0,.slice none 0 0] 32 (0,0))):=QAA hb2 R2.out;have S5:Hid (w2.heap[w.heap.size+1+1]? = some (.cells #[.int .i64 0,.int .i64 0] 35 (0,0))):=QAA hb2 R5.out;(have HItm:Hid (Calls Tryz.prog 47 #[.agg #[.slice al l.length cl,.slice ar r.length cr],.pointer (some ⟨W1.heap.size+1,0,none⟩)] w2 _):=QLF (QKp _) l r (fun f hf=>⟨HPC.out f (List.mem_append_left _ hf),fun t ht=>⟨f,List.mem_append_left _ hf,ht⟩⟩) (fun f hf=>⟨HPC.out f (List.mem_append_right _ hf),fun t ht=>⟨f,List.mem_append_right _ hf,ht⟩⟩) _ _ w2 T0 (W1.heap.size+1) [] [] (HL.out.move fun b hb hp=>⟨HB2.out.block b hb,fun h=>by have:=(hT0' b h).1;have:=HBW1.out.size;omega⟩) (HR.out.move fun b hb hp=>⟨HB2.out.block b hb,fun h=>by have:=(hT0' b h).1;have:=HBW1.out.size;omega⟩) HTab.out (by have:=HSz.out;simp only [List.length_nil];omega));have HT0:Hid (∀ b,T0 b→W1.heap.size≤b∧b < w2.heap.size):=hT0';clear htab hb2 hT0 hT0' R1 R2 R5 y0 y1 f0 f1;obtain⟨a0,a1,-⟩:=QAV S1.out;go_wp2_with fail;refine HItm.out.mono ?_;clear HItm;intro e w3 h3;obtain⟨adI,cpI,il,ir,T',ps,gs,he,hit,hIL,hIR,hgl⟩:=h3;obtain⟨is,his⟩:∃ is,is=il++ir:=⟨_,rfl⟩;rw [← his] at he hit;subst he;rw [List.nil_append] at hIL hIR;have htab3:=hit.tab;rw [List.nil_append,List.nil_append] at htab3;have hrow3:=hit.row;have hfar3:=hit.far;have hkp3:=hit.kept;have hgr3:=hit.grow;(have hz4:w2.heap.size+1≤w3.heap.size:=by have h1:=hkp3.size;simp at h1;exact h1);(have hK3:Kept (fun b=>¬ T0 b) w2 w3:=QAM (QAN (ok:=fun b=>¬ T0 b) (QAB (Below.refl w2.heap.size w2) (.cells #[.slice al l.length cl,.slice ar r.length cr] 24 (0,0))) fun _ h _=>h) hkp3 fun _ _ h=>h);(have HB3:Hid (Below w.heap.size w w3):=HB2.out.trans (hK3.below (by have:=HB2.out.size;omega) fun b hb h=>by have:=(HT0.out b h).1;have:=HBW1.out.size;omega));(have hnT:∀ b,b < w.heap.size+3→¬ T0 b:=fun b hb h=>by have:=(HT0.out b h).1;omega);(have V2:Hid (w3.heap[w.heap.size+1]? = some (.cells #[.string ⟨#[]⟩,.int .i64 0,.string ⟨#[]⟩,.slice none 0 0,.slice none 0 0,.slice none 0 0,.slice none 0 0] 32 (0,0))):=(hK3.block _ (by omega) (hnT _ (by omega))).trans S2.out);(have V5:Hid (w3.heap[w.heap.size+1+1]? = some (.cells #[.int .i64 0,.int .i64 0] 35 (0,0))):=(hK3.block _ (by omega) (hnT _ (by omega))).trans S5.out);(have HTb3:Hid (Tab (PhS fun t=>∃ f∈l++r,t∈QEK f) w3 T' (W1.heap.size+1) ps gs):=htab3)
  (have HRw3:Hid (w3.ownsRow (w2.alloc (.cells #[.slice al l.length cl,.slice ar r.length cr] 24 (0,0))).heap.size 82 1 (.slice adI is.length cpI) is.length (is.map fun i => .int .i64 (i:Nat))):=hrow3);have HIt:Hid (ItsL gs il l∧ItsR gs ir r∧is=il++ir):=⟨hIL,hIR,his⟩
  have hpl:ps.length≤100000:=by
   rw [htab3.ok.len];have:=HSz.out;omega
  have HTp:Hid (∀ b,T' b→W1.heap.size≤b):=fun b hb=>by
   rcases hgr3 b hb with h|h
   ·exact (HT0.out b h).1
   ·simp at h;omega
  have HNf:Hid (Calls Tryz.prog 48 #[.pointer (some ⟨W1.heap.size+1,0,none⟩)] w3 _):=QGH w3 T' (W1.heap.size+1) ps gs htab3 hpl;have HPsl:Hid (ps.length≤100000∧ps.length=gs.length∧gs.length≤Fm.sizes l+Fm.sizes r):=⟨hpl,htab3.ok.len,hgl⟩;clear hit hIL hIR hgl htab3 hrow3 hfar3 hkp3 hgr3 hK3 hnT his hpl a0 a1 S1 S2 S5;go_wp2_with fail;refine HNf.out.mono ?_;clear HNf;rintro e w4 ⟨x,M,hxP,hxT,hxb,hxp,hxf,hxL,rfl,hfs,hM,hb4⟩;subst hxp hxf;have HL2:Hid (x.L=2 * x.ps.length):=hxL;have hz5:w3.heap.size≤w4.heap.size:=hb4.size;have HM:Hid (∀ b,M b→w3.heap.size≤b):=hM;have HB4:Hid (Below w.heap.size w w4):=QAC HB3.out hb4;have HFs:Hid (FinSt x w4 M (List.replicate x.L 0) [] 0 false):=hfs;(have HTo:Hid (TabOk x.ps x.fs∧∀ g∈x.fs,g.pcode.1=0):=⟨HTb3.out.ok,fun g hg=>(HTb3.out.all g hg).1⟩);(have HOc:Hid (∀ g∈x.fs,∀ t∈QEK g,∃ f∈l++r,t∈QEK f):=fun g hg=>(HTb3.out.all g hg).2);have U2:Hid (w4.heap[w.heap.size+1]? = some (.cells #[.string ⟨#[]⟩,.int .i64 0,.string ⟨#[]⟩,.slice none 0 0,.slice none 0 0,.slice none 0 0,.slice none 0 0] 32 (0,0))):=QAA hb4 V2.out;have U5:Hid (w4.heap[w.heap.size+1+1]? = some (.cells #[.int .i64 0,.int .i64 0] 35 (0,0))):=QAA hb4 V5.out;obtain⟨hsi1,hsi2,hsi3⟩:=QJl HIt.out.1 HIt.out.2.1;rw [← HIt.out.2.2] at hsi1 hsi2 hsi3;have HSd:Hid (QAW x.fs is=l∧QAX x.fs is=r):=⟨hsi1,hsi2⟩
  have HBd:Hid (∀ i∈is,i < x.L):=fun i hi=>by
   have h1:=hsi3 i hi;have h2:=HPsl.out.2.1;have h3:=HL2.out;omega
  have hisl:is.length≤60:=by
   have h1:=HIt.out;have h2:=HSz.out.1;rw [h1.2.2,List.length_append,h1.1.1,h1.2.1.1];exact h2
  (have HNo:Hid (x.nods is=Fm.sizes l+Fm.sizes r):=by show _=_;rw [HIt.out.2.2];exact QJU HIt.out.1 HIt.out.2.1)
  have HI4:Hid (IRow (fun b=>¬ M b∧w1.heap.size≤b∧b < w3.heap.size) w4 (.slice adI is.length cpI) is):=QCt (QAz HRw3.out hb4) fun b hb=>by
   have h1:=HRw3.out.lt b hb;rw [World.size_alloc] at h1;(exact⟨fun h=>by have:=HM.out b h;omega,by omega,h1.2⟩)
  obtain⟨wh,fr,hpf⟩:∃ wh fr,inF (List.replicate x.L 0) is=(wh,fr):=⟨_,_,rfl⟩;have hSI:=SInv.start x.ps x.L is HBd.out;(have hPO:=QEp (List.replicate x.L 0) _ is rfl (by simpa using HBd.out));have hMu:=QMe (x:=x) x.L is HBd.out;rw [hpf] at hSI hPO hMu;have HSI:Hid (SInv x.ps wh fr fr):=hSI;have HPO:Hid (QHi (List.replicate x.L 0) is (wh,fr)):=hPO;have HMu:Hid (x.mu wh≤x.nods is):=hMu
  have HPut:Hid (Calls Tryz.prog 50 #[.pointer (some ⟨x.bf,0,none⟩),.slice adI is.length cpI] w4 fun e w'=>∃ M' v',e = .returned v'∧FinSt x w' M' wh fr 0 false∧IRow (fun b=>w4.heap.size≤b∧¬ M' b) w' v' fr∧(∀ b,M' b→M b∨w4.heap.size≤b)∧(∀ b,M b→M' b)∧Kept (fun b=>¬ M b) w4 w'):=by
   (have h:=QHz HFs.out is _ (HI4.out.move fun b _ hp=>⟨rfl,hp.1⟩) HBd.out (by omega) (by simp));rw [hpf,List.nil_append] at h;exact h
  (have hpls:∀ n,n < x.fs.length→Pl (x.fs.getD n QAR):=fun n hn=>QIY (HTo.out.2 _ (List.mem_of_getElem? (QBd hn))));have HPl:Hid (∀ n,n < x.fs.length→Pl (x.fs.getD n QAR)):=hpls;clear hsi1 hsi2 hsi3 hfs hM hb4 hpf hSI hPO hMu hpls hxP hxT hxL;go_wp2_with fail;refine HPut.out.mono ?_;clear HPut;rintro e w5 ⟨M1,v',rfl,hfs5,hrow5,hM1,hM1',hk5⟩;(have HFind:Hid (Calls Tryz.prog 49 #[.pointer (some ⟨x.bf,0,none⟩),v'] w5 (QCp x w5 M1 (fun y=>wh.getD y 0=1) wh fr 0 ((256+x.L) * Gf (x.mu wh)))):=QMR HTo.out.1 HPl.out HL2.out (x.mu wh+1) w5 M1 wh fr fr 0 v' hfs5 HSI.out (hrow5.move fun b _ hp=>⟨rfl,hp.2⟩) (Nat.lt_succ_self _) (by omega));have hz6:w4.heap.size≤w5.heap.size:=hk5.size
  have HM1:Hid (∀ b,M1 b→w3.heap.size≤b):=fun b hb=>by
   rcases hM1 b hb with h|h
   ·exact HM.out b h
   ·omega
  (have HB5:Hid (Below w.heap.size w w5):=HB4.out.trans (hk5.below HB4.out.size fun b hb h=>by have:=HM.out b h;omega));(have X2:Hid (w5.heap[w.heap.size+1]? = some (.cells #[.string ⟨#[]⟩,.int .i64 0,.string ⟨#[]⟩,.slice none 0 0,.slice none 0 0,.slice none 0 0,.slice none 0 0] 32 (0,0))):=(hk5.block _ (by omega) (fun h=>by have:=HM.out _ h;omega)).trans U2.out);(have X5:Hid (w5.heap[w.heap.size+1+1]? = some (.cells #[.int .i64 0,.int .i64 0] 35 (0,0))):=(hk5.block _ (by omega) (fun h=>by have:=HM.out _ h;omega)).trans U5.out);(have HI5:Hid (IRow (fun b=>¬ M1 b∧b < w3.heap.size) w5 (.slice adI is.length cpI) is):=HI4.out.move fun b hb hp=>⟨hk5.block b hb hp.1,fun h=>by have:=HM1.out b h;omega,hp.2.2⟩);obtain⟨av,cv,rfl,-⟩:=hrow5;clear hfs5 hM1 hM1' hk5 V2 V5 U2 U5;go_wp2_with fail;refine HFind.out.mono ?_;clear HFind;rintro e w6 ⟨M2,hM2,hM2',hk6,hcase⟩;have hz7:w5.heap.size≤w6.heap.size:=hk6.size
  have HM2:Hid (∀ b,M2 b→w3.heap.size≤b):=fun b hb=>by
   rcases hM2 b hb with h|h
   ·exact HM1.out b h
   ·omega
  (have HB6:Hid (Below w.heap.size w w6):=HB5.out.trans (hk6.below HB5.out.size fun b hb h=>by have:=HM1.out b h;omega));(have Y2:Hid (w6.heap[w.heap.size+1]? = some (.cells #[.string ⟨#[]⟩,.int .i64 0,.string ⟨#[]⟩,.slice none 0 0,.slice none 0 0,.slice none 0 0,.slice none 0 0] 32 (0,0))):=(hk6.block _ (by omega) (fun h=>by have:=HM1.out _ h;omega)).trans X2.out);(have Y5:Hid (w6.heap[w.heap.size+1+1]? = some (.cells #[.int .i64 0,.int .i64 0] 35 (0,0))):=(hk6.block _ (by omega) (fun h=>by have:=HM1.out _ h;omega)).trans X5.out);(have HI6:Hid (IRow (fun b=>¬ M2 b) w6 (.slice adI is.length cpI) is):=HI5.out.move fun b hb hp=>⟨hk6.block b hb hp.1,fun h=>by have:=HM2.out b h;omega⟩);clear hM2 hM2' hk6 X2 X5
  rcases hcase with ⟨⟨ru,i,needs,kids⟩,pv,wk',rfl,hpo,hpn,hnd,hpr,hfs6,-⟩|⟨op',wh',br',wk',rfl,hfs6,-,hwk2,hwk3,hwh,hop⟩
  ·obtain⟨an,cn,sl,cap,rfl,-⟩:=hpr.parts
   have HPO2:Hid (QAo x.ps (.mk ru i needs kids)∧QCk (.mk ru i needs kids)):=⟨hpo,hpn⟩
   have HSub:Hid (∀ y∈needs,y∈is):=fun y hy=>by
    have h1:=hnd y hy;(have h2:=(HSI.out.mem y).2 (by omega));exact (HPO.out.fresh y h2).2
   obtain⟨W7,hW7⟩:∃ W7,W7=w6.alloc (.cells #[.string ru,.int .i64 (i:Nat),.slice an needs.length cn,.slice sl kids.length cap] 85 (0,0)):=⟨_,rfl⟩;(have hb7:Below w6.heap.size w6 W7:=by rw [hW7];exact QAB (Below.refl _ w6) _);have HE7:Hid (w6.alloc (.cells #[.string ru,.int .i64 (i:Nat),.slice an needs.length cn,.slice sl kids.length cap] 85 (0,0))=W7):=hW7.symm;(have P9:Hid (W7.heap[w6.heap.size]? = some (.cells #[.string ru,.int .i64 (i:Nat),.slice an needs.length cn,.slice sl kids.length cap] 85 (0,0))):=by rw [hW7];exact QAH w6 _);have hf7:=hfs6.up hb7;have HFd7:Hid (FinSt x W7 M2 wh fr wk' false):=hf7;(have HWn:Hid (Calls Tryz.prog 52 #[.agg #[.string ru,.int .i64 (i:Nat),.slice an needs.length cn,.slice sl kids.length cap],.slice adI is.length cpI,.pointer (some ⟨x.bf,0,none⟩)] W7 (QMI x W7 (.mk ru i needs kids) is)):=QIp HTo.out.1 HPl.out (fun f hf=>by have:=(QAs (HTo.out.2 f hf)).2;omega) hpo hpn hf7 is _ _ (hpr.move fun b hb hp=>⟨hb7.block b hb,hp⟩) (HI6.out.move fun b hb hp=>⟨hb7.block b hb,hp⟩) HBd.out HSub.out (by omega));have HB7:Hid (Below w.heap.size w W7):=QAC HB6.out hb7;have Z2:Hid (W7.heap[w.heap.size+1]? = some (.cells #[.string ⟨#[]⟩,.int .i64 0,.string ⟨#[]⟩,.slice none 0 0,.slice none 0 0,.slice none 0 0,.slice none 0 0] 32 (0,0))):=QAA hb7 Y2.out;have Z5:Hid (W7.heap[w.heap.size+1+1]? = some (.cells #[.int .i64 0,.int .i64 0] 35 (0,0))):=QAA hb7 Y5.out;obtain⟨adB,cB,hfin,-⟩:=hfs6.fin;obtain⟨e0,e1,e2,e3,e4,e5⟩:=QCW hfin;have zbf:=QAE hfin;(have nb1:¬ x.bf=w6.heap.size:=by omega);(have nb2:¬ w6.heap.size=x.bf:=by omega);clear hpo hpn hnd hpr hfs6 hf7 hb7 hW7 hfin;go_wp2_with fail;rw [HE7.out];refine HWn.out.mono ?_;clear HWn e0 e1 e2 e3 e4 e5;rintro e w8 ⟨P,pv3,fits,rfl,hP3,hb8,hf1,hf2⟩;have hz8:W7.heap.size≤w8.heap.size:=hb8.size;(have hz9:w6.heap.size≤W7.heap.size:=by have:=QAE P9.out;omega);have A2:Hid (w8.heap[w.heap.size+1]? = some (.cells #[.string ⟨#[]⟩,.int .i64 0,.string ⟨#[]⟩,.slice none 0 0,.slice none 0 0,.slice none 0 0,.slice none 0 0] 32 (0,0))):=QAA hb8 Z2.out;have A5:Hid (w8.heap[w.heap.size+1+1]? = some (.cells #[.int .i64 0,.int .i64 0] 35 (0,0))):=QAA hb8 Z5.out;have HB8:Hid (Below w.heap.size w w8):=QAC HB7.out hb8;obtain⟨x0,x1,x2,x3,x4,x5,x6⟩:=QAj A2.out;obtain⟨g0,g1,g2,g3,g4,g5,g6⟩:=QCT A2.out;obtain⟨a0,a1,b0,b1⟩:=QAV A5.out;clear hb8 Z2 Z5 Y2 Y5
   cases fits
   ·obtain⟨rfl,hR⟩:=hf2 rfl
    have HRo:Hid (¬ Roomy (x.nods is) 0 0 1):=hR;clear hf1 hf2 hP3 hR;obtain⟨W9,hW9⟩:∃ W9,W9=QDj w8 (w.heap.size+1) (w.heap.size+1+1) (.string ⟨#[]⟩) (.int .i64 0) (.string ⟨#[]⟩) (.slice none 0 0) (.slice none 0 0) (.slice none 0 0) (.slice none 0 0) (.int .i64 10) (.int .i64 0):=⟨_,rfl⟩;have HE9:Hid (QDj w8 (w.heap.size+1) (w.heap.size+1+1) (.string ⟨#[]⟩) (.int .i64 0) (.string ⟨#[]⟩) (.slice none 0 0) (.slice none 0 0) (.slice none 0 0) (.slice none 0 0) (.int .i64 10) (.int .i64 0)=W9):=hW9.symm;(obtain⟨hF2,hF5,hK9⟩:=QDw A2.out A5.out (by omega) (.string ⟨#[]⟩) (.int .i64 0) (.string ⟨#[]⟩) (.slice none 0 0) (.slice none 0 0) (.slice none 0 0) (.slice none 0 0) (.int .i64 10) (.int .i64 0));rw [← hW9] at hF2 hF5 hK9;have F2:Hid (W9.heap[w.heap.size+1]? = some (.cells #[.string ⟨#[]⟩,.int .i64 0,.string ⟨#[]⟩,.slice none 0 0,.slice none 0 0,.slice none 0 0,.slice none 0 0] 32 (0,0))):=hF2;have F5:Hid (W9.heap[w.heap.size+1+1]? = some (.cells #[.int .i64 10,.int .i64 0] 35 (0,0))):=hF5;(have HB9:Hid (Below w.heap.size w W9):=HB8.out.trans (hK9.below HB8.out.size fun b hb=>by omega));have hz10:w8.heap.size≤W9.heap.size:=hK9.size;clear hF2 hF5 hK9 hW9;go_wp2_with fail;unfold QDj QBT at HE9;rw [HE9.out];clear x0 x1 x2 x3 x4 x5 x6 g0 g1 g2 g3 g4 g5 g6 a0 a1 b0 b1;obtain⟨x0,x1,x2,x3,x4,x5,x6⟩:=QAj F2.out;obtain⟨g0,g1,g2,g3,g4,g5,g6⟩:=QCT F2.out;obtain⟨a0,a1,b0,b1⟩:=QAV F5.out
    go_region
    go_wp2_with fail;obtain⟨W10,hW10⟩:∃ W10,W10=QDj W9 (w.heap.size+1) (w.heap.size+1+1) (.string ⟨#[]⟩) (.int .i64 0) (.string ⟨#[]⟩) (.slice none 0 0) (.slice none 0 0) (.slice none 0 0) (.slice none 0 0) (.int .i64 10) (.int .i64 0):=⟨_,rfl⟩
    change bodyPost _ _ _ _ _ (QDj W9 (w.heap.size+1) (w.heap.size+1+1) (.string ⟨#[]⟩) (.int .i64 0) (.string ⟨#[]⟩) (.slice none 0 0) (.slice none 0 0) (.slice none 0 0) (.slice none 0 0) (.int .i64 10) (.int .i64 0)).drew
    (obtain⟨hE2,hE5,hKf⟩:=QDw F2.out F5.out (by omega) (.string ⟨#[]⟩) (.int .i64 0) (.string ⟨#[]⟩) (.slice none 0 0) (.slice none 0 0) (.slice none 0 0) (.slice none 0 0) (.int .i64 10) (.int .i64 0));rw [← hW10] at hE2 hE5 hKf ⊢;clear hW10;obtain⟨Wf,hWf⟩:∃ Wf,Wf=W10.drew:=⟨_,rfl⟩;(have hE2':Wf.heap[w.heap.size+1]? = some (.cells #[.string ⟨#[]⟩,.int .i64 0,.string ⟨#[]⟩,.slice none 0 0,.slice none 0 0,.slice none 0 0,.slice none 0 0] 32 (0,0)):=by rw [hWf];exact hE2);(have hE5':Wf.heap[w.heap.size+1+1]? = some (.cells #[.int .i64 10,.int .i64 0] 35 (0,0)):=by rw [hWf];exact hE5);(have hKf':Kept (fun b=>b≠w.heap.size+1∧b≠w.heap.size+1+1) W9 Wf:=by rw [hWf];exact hKf.drew);rw [← hWf];clear hWf hE2 hE5 hKf;obtain⟨m0,m1,m2,m3,m4,m5,m6⟩:=QAj hE2';obtain⟨n0,n1,-⟩:=QAV hE5';(refine bodyPost_ret (v := .tuple #[zPf,.slice none 0 0,.bool false,.agg #[.int .i64 10,.int .i64 0]]) (by simp [results,zPf,Tryz.results10,go_sem,m0,m1,m2,m3,m4,m5,m6,n0,n1]) rfl ⟨_,_,_,_,_,rfl,HB9.out.trans (hKf'.below HB9.out.size fun b hb=>by omega),?_⟩);(refine .much (by rw [HS0.out]) ?_);apply Classical.byContradiction;intro h9;(exact HRo.out (QMr (by rw [HNo.out];omega)))
   ·obtain⟨hW1f,hsz⟩:=hf1 rfl
    have HWf:Hid (WPf x.ps x.fs 1 (.mk ru i needs kids) is P∧P.size≤20000):=⟨hW1f,hsz⟩;clear hf1 hf2 hW1f hsz;obtain⟨a3,⟨k3,n3,kf3⟩,l3,r3,ks3⟩:=P;obtain⟨sf3,cf3,al3,cl3,ar3,cr3,sl3,cap3,rfl,-⟩:=hP3.parts;have HP3:Hid (PRp (W7.heap.size≤·) w8 (.mk a3 (.mk k3 n3 kf3) l3 r3 ks3) (.agg #[.string a3,.int .i64 k3,.string n3,.slice sf3 kf3.length cf3,.slice al3 l3.length cl3,.slice ar3 r3.length cr3,.slice sl3 ks3.length cap3])):=hP3;obtain⟨W9,hW9⟩:∃ W9,W9=QBT w8 (w.heap.size+1) (.string a3) (.int .i64 k3) (.string n3) (.slice sf3 kf3.length cf3) (.slice al3 l3.length cl3) (.slice ar3 r3.length cr3) (.slice sl3 ks3.length cap3):=⟨_,rfl⟩;have HE9:Hid (QBT w8 (w.heap.size+1) (.string a3) (.int .i64 k3) (.string n3) (.slice sf3 kf3.length cf3) (.slice al3 l3.length cl3) (.slice ar3 r3.length cr3) (.slice sl3 ks3.length cap3)=W9):=hW9.symm;have hF2:=QBL (.string a3) (.int .i64 k3) (.string n3) (.slice sf3 kf3.length cf3) (.slice al3 l3.length cl3) (.slice ar3 r3.length cr3) (.slice sl3 ks3.length cap3) A2.out;have hK9:=QBK w8 (w.heap.size+1) (.string a3) (.int .i64 k3) (.string n3) (.slice sf3 kf3.length cf3) (.slice al3 l3.length cl3) (.slice ar3 r3.length cr3) (.slice sl3 ks3.length cap3);rw [← hW9] at hF2 hK9;have F2:Hid (W9.heap[w.heap.size+1]? = some (.cells #[.string a3,.int .i64 k3,.string n3,.slice sf3 kf3.length cf3,.slice al3 l3.length cl3,.slice ar3 r3.length cr3,.slice sl3 ks3.length cap3] 32 (0,0))):=hF2;(have F5:Hid (W9.heap[w.heap.size+1+1]? = some (.cells #[.int .i64 0,.int .i64 0] 35 (0,0))):=(hK9.block _ (by omega) (by omega)).trans A5.out);(have HB9:Hid (Below w.heap.size w W9):=HB8.out.trans (hK9.below HB8.out.size fun b hb=>by omega));have hz10:w8.heap.size≤W9.heap.size:=hK9.size;(have HK9:Hid (Kept (fun b=>b≠w.heap.size+1) w8 W9):=hK9);clear hF2 hK9 hW9 hP3;go_wp2_with fail;unfold QBT at HE9;rw [HE9.out];clear x0 x1 x2 x3 x4 x5 x6 g0 g1 g2 g3 g4 g5 g6 a0 a1 b0 b1;obtain⟨x0,x1,x2,x3,x4,x5,x6⟩:=QAj F2.out;obtain⟨g0,g1,g2,g3,g4,g5,g6⟩:=QCT F2.out;obtain⟨a0,a1,b0,b1⟩:=QAV F5.out
    go_region
    go_wp2_with fail;obtain⟨W10,hW10⟩:∃ W10,W10=QDj W9 (w.heap.size+1) (w.heap.size+1+1) (.string a3) (.int .i64 k3) (.string n3) (.slice sf3 kf3.length cf3) (.slice al3 l3.length cl3) (.slice ar3 r3.length cr3) (.slice sl3 ks3.length cap3) (.int .i64 0) (.int .i64 0):=⟨_,rfl⟩
    change bodyPost _ _ _ _ _ (QDj W9 (w.heap.size+1) (w.heap.size+1+1) (.string a3) (.int .i64 k3) (.string n3) (.slice sf3 kf3.length cf3) (.slice al3 l3.length cl3) (.slice ar3 r3.length cr3) (.slice sl3 ks3.length cap3) (.int .i64 0) (.int .i64 0)).drew
    (obtain⟨hE2,hE5,hKf⟩:=QDw F2.out F5.out (by omega) (.string a3) (.int .i64 k3) (.string n3) (.slice sf3 kf3.length cf3) (.slice al3 l3.length cl3) (.slice ar3 r3.length cr3) (.slice sl3 ks3.length cap3) (.int .i64 0) (.int .i64 0));rw [← hW10] at hE2 hE5 hKf ⊢;clear hW10;obtain⟨Wf,hWf⟩:∃ Wf,Wf=W10.drew:=⟨_,rfl⟩;(have hE2':Wf.heap[w.heap.size+1]? = some (.cells #[.string a3,.int .i64 k3,.string n3,.slice sf3 kf3.length cf3,.slice al3 l3.length cl3,.slice ar3 r3.length cr3,.slice sl3 ks3.length cap3] 32 (0,0)):=by rw [hWf];exact hE2);(have hE5':Wf.heap[w.heap.size+1+1]? = some (.cells #[.int .i64 0,.int .i64 0] 35 (0,0)):=by rw [hWf];exact hE5);(have hKf':Kept (fun b=>b≠w.heap.size+1∧b≠w.heap.size+1+1) W9 Wf:=by rw [hWf];exact hKf.drew);rw [← hWf];clear hWf hE2 hE5 hKf;obtain⟨m0,m1,m2,m3,m4,m5,m6⟩:=QAj hE2';obtain⟨n0,n1,-⟩:=QAV hE5';(refine bodyPost_ret (v := .tuple #[.agg #[.string a3,.int .i64 k3,.string n3,.slice sf3 kf3.length cf3,.slice al3 l3.length cl3,.slice ar3 r3.length cr3,.slice sl3 ks3.length cap3],.slice none 0 0,.bool true,.agg #[.int .i64 0,.int .i64 0]]) (by simp [results,Tryz.results10,go_sem,m0,m1,m2,m3,m4,m5,m6,n0,n1]) rfl ⟨_,_,_,_,_,rfl,HB9.out.trans (hKf'.below HB9.out.size fun b hb=>by omega),?_⟩);have hends:=HWf.out.1.ends;(have hbd2:∀ y∈is,y / 2 < x.ps.length:=fun y hy=>by have h1:=HBd.out y hy;have h2:=HL2.out;omega);(refine .yes (by rw [HS0.out]) (.mk a3 (.mk k3 n3 kf3) l3 r3 ks3) _ (HP3.out.move fun b hb hp=>⟨(hKf'.block b (by omega) (by omega)).trans (HK9.out.block b hb (by omega)),by omega⟩) (QNF HTo.out.1 HPl.out (fun n hn=>HTo.out.2 _ (List.mem_of_getElem? (QBd hn))) HWf.out.1 HPO2.out.1 HPO2.out.2 hbd2 HSub.out) HWf.out.2 (hends.1.trans HSd.out.1) (hends.2.trans HSd.out.2) ?_ (QNG HTo.out.1 HPl.out (fun n hn=>HTo.out.2 _ (List.mem_of_getElem? (QBd hn))) HWf.out.1 HPO2.out.1 hbd2 (fun y hy=>hbd2 y (HSub.out y hy)) 0 (by omega)));have hv:=QJY HTo.out.1 HPl.out HPO2.out.1 (is:=is) HSub.out;rw [HSd.out.1,HSd.out.2] at hv;exact hv
  ·obtain⟨W7,hW7⟩:∃ W7,W7=w6.alloc (.cells #[.string ⟨#[]⟩,.int .i64 0,.slice none 0 0,.slice none 0 0] 85 (0,0)):=⟨_,rfl⟩
   (have hb7:Below w6.heap.size w6 W7:=by rw [hW7];exact QAB (Below.refl _ w6) _);have HE7:Hid (w6.alloc (.cells #[.string ⟨#[]⟩,.int .i64 0,.slice none 0 0,.slice none 0 0] 85 (0,0))=W7):=hW7.symm;have HFd7:Hid (FinSt x W7 M2 wh' br' wk' op'):=hfs6.up hb7;have HB7:Hid (Below w.heap.size w W7):=QAC HB6.out hb7;have Z2:Hid (W7.heap[w.heap.size+1]? = some (.cells #[.string ⟨#[]⟩,.int .i64 0,.string ⟨#[]⟩,.slice none 0 0,.slice none 0 0,.slice none 0 0,.slice none 0 0] 32 (0,0))):=QAA hb7 Y2.out;have Z5:Hid (W7.heap[w.heap.size+1+1]? = some (.cells #[.int .i64 0,.int .i64 0] 35 (0,0))):=QAA hb7 Y5.out;have hz8:w6.heap.size≤W7.heap.size:=hb7.size;obtain⟨adB,cB,hfin,-⟩:=hfs6.fin;obtain⟨e0,e1,e2,e3,e4,e5⟩:=QCW hfin;have zbf:=QAE hfin;(have nb1:¬ x.bf=w6.heap.size:=by omega);(have nb2:¬ w6.heap.size=x.bf:=by omega);have HWh:Hid (∀ j,wh.getD j 0≠0→wh'.getD j 0≠0):=hwh;have hwl:=hfs6.wlen
   rcases hop with ⟨rfl,hos,hmb,hbn⟩|⟨rfl,hwk⟩
   ·have hlt:∀ i∈br',i < x.L:=fun i hi=>by
     have h1:=(hmb i).1 hi
     rcases Nat.lt_or_ge i wh'.length with h2|h2
     ·omega
     ·rw [List.getD_eq_getElem?_getD,List.getElem?_eq_none h2] at h1
      exact absurd rfl h1
    have hbl:br'.length≤400000:=by
     have h1:=QDM hbn hlt;have h2:=HL2.out;have h3:=HPsl.out.1;omega
    (have HCt:Hid (Calls Tryz.prog 51 #[.pointer (some ⟨x.bf,0,none⟩)] W7 fun e w'=>∃ v,e = .returned v∧TL w' v (srt (QBp x.ps br'))∧Below W7.heap.size W7 w'):=QHu HFd7.out hbl hlt)
    have HLe:Hid ((srt (QBp x.ps br')).length≤100000):=by
     show _≤_;have h1:=QDM hbn hlt;have h2:=HL2.out;have h3:=HPsl.out;have h4:=HSz.out;(have h5:(QBp x.ps br').length≤br'.length:=by unfold QBp;exact List.length_filterMap_le ..);have h6:(srt (QBp x.ps br')).length=(QBp x.ps br').length:=List.length_mergeSort ..;omega
    have HAg:Hid (QER l r (srt (QBp x.ps br'))):=by
     (have h:=QHV HTo.out.1 HTo.out.2 (is:=is) hos hmb hbn (by rw [hwl];exact HL2.out) (fun i hi=>HWh.out i (HPO.out.all i hi)) (by rw [HSd.out.1,HSd.out.2];exact HOc.out));rw [HSd.out.1,HSd.out.2] at h;exact h
    clear hos hmb hbn hlt hbl hwh hwk2 hwk3 hfs6 hb7 hW7 hfin hwl;unfold QEq;go_wp2_with fail;rw [HE7.out];refine HCt.out.mono ?_;clear HCt e0 e1 e2 e3 e4 e5;rintro e w8 ⟨cv9,rfl,htl,hb8⟩;have F2:Hid (w8.heap[w.heap.size+1]? = some (.cells #[.string ⟨#[]⟩,.int .i64 0,.string ⟨#[]⟩,.slice none 0 0,.slice none 0 0,.slice none 0 0,.slice none 0 0] 32 (0,0))):=QAA hb8 Z2.out;have F5:Hid (w8.heap[w.heap.size+1+1]? = some (.cells #[.int .i64 0,.int .i64 0] 35 (0,0))):=QAA hb8 Z5.out;have HB8:Hid (Below w.heap.size w w8):=QAC HB7.out hb8;have HTl:Hid (TL w8 cv9 (srt (QBp x.ps br'))):=htl;have hz9:W7.heap.size≤w8.heap.size:=hb8.size;obtain⟨x0,x1,x2,x3,x4,x5,x6⟩:=QAj F2.out;obtain⟨g0,g1,g2,g3,g4,g5,g6⟩:=QCT F2.out;obtain⟨a0,a1,b0,b1⟩:=QAV F5.out;clear htl hb8;go_wp2_with fail;obtain⟨W10,hW10⟩:∃ W10,W10=QDj w8 (w.heap.size+1) (w.heap.size+1+1) (.string ⟨#[]⟩) (.int .i64 0) (.string ⟨#[]⟩) (.slice none 0 0) (.slice none 0 0) (.slice none 0 0) (.slice none 0 0) (.int .i64 0) (.int .i64 0):=⟨_,rfl⟩
    change bodyPost _ _ _ _ _ (QDj w8 (w.heap.size+1) (w.heap.size+1+1) (.string ⟨#[]⟩) (.int .i64 0) (.string ⟨#[]⟩) (.slice none 0 0) (.slice none 0 0) (.slice none 0 0) (.slice none 0 0) (.int .i64 0) (.int .i64 0))
    (obtain⟨hE2,hE5,hKf⟩:=QDw F2.out F5.out (by omega) (.string ⟨#[]⟩) (.int .i64 0) (.string ⟨#[]⟩) (.slice none 0 0) (.slice none 0 0) (.slice none 0 0) (.slice none 0 0) (.int .i64 0) (.int .i64 0));rw [← hW10] at hE2 hE5 hKf ⊢;clear hW10;obtain⟨Wf,hWf⟩:∃ Wf,Wf=W10:=⟨_,rfl⟩;(have hE2':Wf.heap[w.heap.size+1]? = some (.cells #[.string ⟨#[]⟩,.int .i64 0,.string ⟨#[]⟩,.slice none 0 0,.slice none 0 0,.slice none 0 0,.slice none 0 0] 32 (0,0)):=by rw [hWf];exact hE2);(have hE5':Wf.heap[w.heap.size+1+1]? = some (.cells #[.int .i64 0,.int .i64 0] 35 (0,0)):=by rw [hWf];exact hE5);(have hKf':Kept (fun b=>b≠w.heap.size+1∧b≠w.heap.size+1+1) w8 Wf:=by rw [hWf];exact hKf);rw [← hWf];clear hWf hE2 hE5 hKf;obtain⟨m0,m1,m2,m3,m4,m5,m6⟩:=QAj hE2';obtain⟨n0,n1,-⟩:=QAV hE5';(refine bodyPost_ret (v := .tuple #[zPf,cv9,.bool false,.agg #[.int .i64 0,.int .i64 0]]) (by simp [results,zPf,Tryz.results10,go_sem,m0,m1,m2,m3,m4,m5,m6,n0,n1]) rfl ⟨_,_,_,_,_,rfl,HB8.out.trans (hKf'.below HB8.out.size fun b hb=>by omega),?_⟩);(refine .no (by rw [HS0.out]) _ _ ?_ HAg.out HLe.out);obtain⟨ad9,cp9,h1,h2,h3,h4⟩:=HTl.out;(refine⟨ad9,cp9,h1,h2,h3,fun hne => ?_⟩);obtain⟨g,h5,h6⟩:=h4 hne;(refine⟨g,h5,fun j t ht => ?_⟩);refine (QAQ (a:=⟨g,j,none⟩) ?_).trans (h6 j t ht);have hgl:=QAI (h6 j t ht);by_cases q1:g=w.heap.size+1
    ·show Wf.heap[g]? = w8.heap[g]?
     rw [q1,hE2',F2.out]
    ·by_cases q2:g=w.heap.size+1+1
     ·show Wf.heap[g]? = w8.heap[g]?
      rw [q2,hE5',F5.out]
     ·exact hKf'.block g hgl ⟨q1,q2⟩
   ·have HWk:Hid (67108864 < wk'∧wk'≤0+(256+x.L) * Gf (x.mu wh)):=⟨hwk,hwk2⟩
    obtain⟨x0,x1,x2,x3,x4,x5,x6⟩:=QAj Y2.out;obtain⟨g0,g1,g2,g3,g4,g5,g6⟩:=QCT Y2.out;obtain⟨a0,a1,b0,b1⟩:=QAV Y5.out;have q1:w.heap.size+1+1 < w6.heap.size:=QAE Y5.out;(have q2:¬ w.heap.size+1+1=w6.heap.size:=by omega);(have q3:¬ w6.heap.size=w.heap.size+1+1:=by omega);obtain⟨W8,hW8⟩:∃ W8,W8=(w6.setCell ⟨w.heap.size+1+1,0,none⟩ (.int .i64 10)).setCell ⟨w.heap.size+1+1,1,none⟩ (.int .i64 0):=⟨_,rfl⟩;have HE8:Hid ((w6.setCell ⟨w.heap.size+1+1,0,none⟩ (.int .i64 10)).setCell ⟨w.heap.size+1+1,1,none⟩ (.int .i64 0)=W8):=hW8.symm;(have hG5:W8.heap[w.heap.size+1+1]? = some (.cells #[.int .i64 10,.int .i64 0] 35 (0,0)):=by rw [hW8,QAS (QAS Y5.out _) _];rfl);(have hK8:Kept (fun b=>b≠w.heap.size+1+1) w6 W8:=by rw [hW8];exact (QAf fun c h=>h).trans (QAf fun c h=>h));obtain⟨W9,hW9⟩:∃ W9,W9=W8.alloc (.cells #[.string ⟨#[]⟩,.int .i64 0,.slice none 0 0,.slice none 0 0] 85 (0,0)):=⟨_,rfl⟩;have HE9:Hid (W8.alloc (.cells #[.string ⟨#[]⟩,.int .i64 0,.slice none 0 0,.slice none 0 0] 85 (0,0))=W9):=hW9.symm;(have hb9:Below W8.heap.size W8 W9:=by rw [hW9];exact QAB (Below.refl _ W8) _);have F5:Hid (W9.heap[w.heap.size+1+1]? = some (.cells #[.int .i64 10,.int .i64 0] 35 (0,0))):=QAA hb9 hG5;(have F2:Hid (W9.heap[w.heap.size+1]? = some (.cells #[.string ⟨#[]⟩,.int .i64 0,.string ⟨#[]⟩,.slice none 0 0,.slice none 0 0,.slice none 0 0,.slice none 0 0] 32 (0,0))):=QAA hb9 ((hK8.block _ (by omega) (by omega)).trans Y2.out));(have HB9:Hid (Below w.heap.size w W9):=QAC (HB6.out.trans (hK8.below HB6.out.size fun b hb=>by omega)) hb9);(have hz10:w6.heap.size≤W9.heap.size:=by have h1:=hK8.size;have h2:=hb9.size;omega);clear hwh hwk hwk2 hwk3 hfs6 hb7 hW7 hfin hwl hW9 hW8 hG5 hK8 hb9;unfold QEq;go_wp2_with fail;rw [HE8.out,HE9.out];clear x0 x1 x2 x3 x4 x5 x6 g0 g1 g2 g3 g4 g5 g6 a0 a1 b0 b1;obtain⟨x0,x1,x2,x3,x4,x5,x6⟩:=QAj F2.out;obtain⟨g0,g1,g2,g3,g4,g5,g6⟩:=QCT F2.out;obtain⟨a0,a1,b0,b1⟩:=QAV F5.out
    go_region
    go_wp2_with fail;obtain⟨W10,hW10⟩:∃ W10,W10=QDj W9 (w.heap.size+1) (w.heap.size+1+1) (.string ⟨#[]⟩) (.int .i64 0) (.string ⟨#[]⟩) (.slice none 0 0) (.slice none 0 0) (.slice none 0 0) (.slice none 0 0) (.int .i64 10) (.int .i64 0):=⟨_,rfl⟩
    change bodyPost _ _ _ _ _ (QDj W9 (w.heap.size+1) (w.heap.size+1+1) (.string ⟨#[]⟩) (.int .i64 0) (.string ⟨#[]⟩) (.slice none 0 0) (.slice none 0 0) (.slice none 0 0) (.slice none 0 0) (.int .i64 10) (.int .i64 0)).drew
    (obtain⟨hE2,hE5,hKf⟩:=QDw F2.out F5.out (by omega) (.string ⟨#[]⟩) (.int .i64 0) (.string ⟨#[]⟩) (.slice none 0 0) (.slice none 0 0) (.slice none 0 0) (.slice none 0 0) (.int .i64 10) (.int .i64 0));rw [← hW10] at hE2 hE5 hKf ⊢;clear hW10;obtain⟨Wf,hWf⟩:∃ Wf,Wf=W10.drew:=⟨_,rfl⟩;(have hE2':Wf.heap[w.heap.size+1]? = some (.cells #[.string ⟨#[]⟩,.int .i64 0,.string ⟨#[]⟩,.slice none 0 0,.slice none 0 0,.slice none 0 0,.slice none 0 0] 32 (0,0)):=by rw [hWf];exact hE2);(have hE5':Wf.heap[w.heap.size+1+1]? = some (.cells #[.int .i64 10,.int .i64 0] 35 (0,0)):=by rw [hWf];exact hE5);(have hKf':Kept (fun b=>b≠w.heap.size+1∧b≠w.heap.size+1+1) W9 Wf:=by rw [hWf];exact hKf.drew);rw [← hWf];clear hWf hE2 hE5 hKf;obtain⟨m0,m1,m2,m3,m4,m5,m6⟩:=QAj hE2';obtain⟨n0,n1,-⟩:=QAV hE5';(refine bodyPost_ret (v := .tuple #[zPf,.slice none 0 0,.bool false,.agg #[.int .i64 10,.int .i64 0]]) (by simp [results,zPf,Tryz.results10,go_sem,m0,m1,m2,m3,m4,m5,m6,n0,n1]) rfl ⟨_,_,_,_,_,rfl,HB9.out.trans (hKf'.below HB9.out.size fun b hb=>by omega),?_⟩);(refine .much (by rw [HS0.out]) ?_);apply Classical.byContradiction;intro h9;have h1:=HWk.out;have h2:=HMu.out;rw [HNo.out] at h2;(have h3:=QKG (show x.mu wh≤25 by omega));have h4:=QOV;have h5:=HL2.out;have h6:=HPsl.out;(have h7:(256+x.L) * Gf (x.mu wh)≤306 * 20000:=Nat.mul_le_mul (by omega) (by omega));omega
 ·have hcI:¬ c1=0:=hc
  obtain⟨a0,a1,b0,b1⟩:=QAV R5.out;obtain⟨x0,x1,x2,x3,x4,x5,x6⟩:=QAj R2.out;obtain⟨g0,g1,g2,g3,g4,g5,g6⟩:=QCT R2.out;go_wp2_with fail;rw [HE1.out];go_wp2_with fail
  go_region
  go_wp2_with fail;obtain⟨W9,hW9⟩:∃ W9,W9=QDj W1 (w.heap.size+1) (w.heap.size+1+1) (.string ⟨#[]⟩) (.int .i64 0) (.string ⟨#[]⟩) (.slice none 0 0) (.slice none 0 0) (.slice none 0 0) (.slice none 0 0) (.int .i64 c1) (.int .i64 c2):=⟨_,rfl⟩
  change bodyPost _ _ _ _ _ (QDj W1 (w.heap.size+1) (w.heap.size+1+1) (.string ⟨#[]⟩) (.int .i64 0) (.string ⟨#[]⟩) (.slice none 0 0) (.slice none 0 0) (.slice none 0 0) (.slice none 0 0) (.int .i64 c1) (.int .i64 c2)).drew
  (obtain⟨hE2,hE5,hKf⟩:=QDw R2.out R5.out (by omega) (.string ⟨#[]⟩) (.int .i64 0) (.string ⟨#[]⟩) (.slice none 0 0) (.slice none 0 0) (.slice none 0 0) (.slice none 0 0) (.int .i64 c1) (.int .i64 c2));rw [← hW9] at hE2 hE5 hKf ⊢;clear hW9;obtain⟨Wf,hWf⟩:∃ Wf,Wf=W9.drew:=⟨_,rfl⟩;(have hE2':Wf.heap[w.heap.size+1]? = some (.cells #[.string ⟨#[]⟩,.int .i64 0,.string ⟨#[]⟩,.slice none 0 0,.slice none 0 0,.slice none 0 0,.slice none 0 0] 32 (0,0)):=by rw [hWf];exact hE2);(have hE5':Wf.heap[w.heap.size+1+1]? = some (.cells #[.int .i64 c1,.int .i64 c2] 35 (0,0)):=by rw [hWf];exact hE5);(have hKf':Kept (fun b=>b≠w.heap.size+1∧b≠w.heap.size+1+1) W1 Wf:=by rw [hWf];exact hKf.drew);rw [← hWf];clear hWf hE2 hE5 hKf;obtain⟨m0,m1,m2,m3,m4,m5,m6⟩:=QAj hE2';obtain⟨n0,n1,-⟩:=QAV hE5';(refine bodyPost_ret (v := .tuple #[zPf,.slice none 0 0,.bool false,.agg #[.int .i64 c1,.int .i64 c2]]) (by simp [results,zPf,Tryz.results10,go_sem,m0,m1,m2,m3,m4,m5,m6,n0,n1]) rfl ⟨_,_,_,_,_,rfl,HBW1.out.trans (hKf'.below (by omega) fun b hb=>by omega),?_⟩);(have h9:=QEk.fault (l:=l) (r:=r) (w:=w) (w':=Wf) (by rw [← HSc.out];exact hc));rw [← HSc.out] at h9;exact h9
theorem QOK (l:List Value) (h0:l.length=4):∃ x0 x1 x2 x3,l=[x0,x1,x2,x3]:=by
 obtain⟨x0,l1,e0,h1⟩:=QAD h0;obtain⟨x1,l2,e1,h2⟩:=QAD h1;obtain⟨x2,l3,e2,h3⟩:=QAD h2;obtain⟨x3,l4,e3,h4⟩:=QAD h3;have e4:l4=[]:=List.length_eq_zero_iff.1 h4;subst e4 e3 e2 e1 e0;exact⟨x0,x1,x2,x3,rfl⟩
theorem QNi (l:List Value) (h0:l.length=13):∃ x0 x1 x2 x3 x4 x5 x6 x7 x8 x9 x10 x11 x12,l=[x0,x1,x2,x3,x4,x5,x6,x7,x8,x9,x10,x11,x12]:=by
 obtain⟨x0,l1,e0,h1⟩:=QAD h0;obtain⟨x1,l2,e1,h2⟩:=QAD h1;obtain⟨x2,l3,e2,h3⟩:=QAD h2;obtain⟨x3,l4,e3,h4⟩:=QAD h3;obtain⟨x4,l5,e4,h5⟩:=QAD h4;obtain⟨x5,l6,e5,h6⟩:=QAD h5;obtain⟨x6,l7,e6,h7⟩:=QAD h6;obtain⟨x7,l8,e7,h8⟩:=QAD h7;obtain⟨x8,l9,e8,h9⟩:=QAD h8;obtain⟨x9,l10,e9,h10⟩:=QAD h9;obtain⟨x10,l11,e10,h11⟩:=QAD h10;obtain⟨x11,l12,e11,h12⟩:=QAD h11;obtain⟨x12,l13,e12,h13⟩:=QAD h12;have e13:l13=[]:=List.length_eq_zero_iff.1 h13;subst e13 e12 e11 e10 e9 e8 e7 e6 e5 e4 e3 e2 e1 e0;exact⟨x0,x1,x2,x3,x4,x5,x6,x7,x8,x9,x10,x11,x12,rfl⟩
def fOr:Fm := .mk 6 ⟨#[]⟩ [fP,fQ]
theorem QIx:QAd [fOr] [fP]=(0,0):=by decide +kernel
theorem QHq (p:List UInt8→Bool):tv p fOr=(p [112] || p [113]):=by
 unfold fOr;rw [QKa];unfold fP fQ;rw [QDb,QDb]
theorem QKk:¬ QMG [fOr] [fP]:=fun h=>by
 obtain⟨g,hg,ht⟩:=h (fun t=>decide (t=[113])) fun f hf=>by
  rw [List.mem_singleton.1 hf,QHq]
  decide
 rw [List.mem_singleton.1 hg] at ht;unfold fP at ht;rw [QDb] at ht
 revert ht
 decide
theorem QHo {f:Fm} (hf:f∈[fOr]++[fP]) {t:List UInt8} (ht:t∈QEK f):t=[112]∨t=[113]:=by
 (have h1:QEK fOr=[[112],[113]]:=by decide +kernel);(have h2:QEK fP=[[112]]:=by decide +kernel);simp only [List.cons_append,List.nil_append,List.mem_cons,List.not_mem_nil,or_false] at hf
 rcases hf with rfl|rfl
 ·rw [h1] at ht;simpa using ht
 ·rw [h2] at ht;exact Or.inl (by simpa using ht)
theorem QKl {L:List (List UInt8)} (h:QER [fOr] [fP] L):L=[[113]]:=by
 (have h1:=h.left fOr (by simp));(have h2:=h.right fP (by simp));rw [QHq] at h1;unfold fP at h2;rw [QDb] at h2
 have h2':¬ ([112]:List UInt8)∈L:=by
  intro hm;have:decide (([112]:List UInt8)∈L)=true:=decide_eq_true hm;rw [show (⟨#[112]⟩:ByteArray).data.toList=[112] from rfl,this] at h2
  cases h2
 have h3:([113]:List UInt8)∈L:=by
  rw [decide_eq_false h2',Bool.false_or] at h1;exact of_decide_eq_true h1
 (refine QFt h.up (by decide) fun t=>⟨fun ht => ?_,fun ht => ?_⟩)
 ·obtain⟨f,hf,hn⟩:=h.occ t ht
  rcases QHo hf hn with e|e
  ·subst e;exact absurd ht h2'
  ·simp [e]
 ·rw [List.mem_singleton.1 ht];exact h3
theorem QHp (vl vr:Value) (w:World) (hl:FL w vl [fOr]) (hr:FL w vr [fP]):Calls Tryz.prog 10 #[.agg #[vl,vr]] w fun e w'=>∃ c,e = .returned (.tuple #[.agg #[.string ⟨#[]⟩,.int .i64 0,.string ⟨#[]⟩,.slice none 0 0,.slice none 0 0,.slice none 0 0,.slice none 0 0],c,.bool false,.agg #[.int .i64 0,.int .i64 0]])∧TL w' c [[113]]∧Below w.heap.size w w':=by
 (refine (QGj [fOr] [fP] (by decide) (by decide) vl vr w hl hr).mono ?_);rintro e w' ⟨pv,c,val,code,at',rfl,hb,hc⟩
 cases hc with
 | fault h=>exact absurd (by rw [QIx]) h
 | much h hm=>exact absurd hm (by decide +kernel)
 | no h c L hc ha hn=>exact⟨c,rfl,by rw [← QKl ha];exact hc,hb⟩
 | yes h P pv hp hf hs hl hr hv ht=>exact absurd hv QKk
theorem TL.keep {w w':World} {v:Value} {l:List (List UInt8)} (h:TL w v l) (hb:∀ b,b < w.heap.size→w'.heap[b]? = w.heap[b]?):TL w' v l:=by
 obtain⟨ad,cap,h1,h2,h3,h4⟩:=h;(refine⟨ad,cap,h1,h2,h3,fun hne => ?_⟩);obtain⟨g,h5,h6⟩:=h4 hne;(exact⟨g,h5,fun j t ht=>(QAQ (a:=⟨g,j,none⟩) (hb g (QAI (h6 j t ht)))).trans (h6 j t ht)⟩)
structure GB where
 g3:Nat
 g6:Nat
 c:Value
def QOA (f:Fm):QEC GB:=fun _ v w=>∃ sl cap,v = .agg #[.int .i64 6,.string ⟨#[]⟩,.slice sl 2 cap]∧Rep w (fun _=>True) f (.agg #[.int .i64 6,.string ⟨#[]⟩,.slice sl 2 cap])
def bFL (f:Fm):QEC GB:=fun _ v w=>∃ g,v = .slice (some ⟨g,0,none⟩) 1 1∧FL w (.slice (some ⟨g,0,none⟩) 1 1) [f]
def bSq (f f':Fm):QEC GB:=fun _ v w=>∃ g g',v = .agg #[.slice (some ⟨g,0,none⟩) 1 1,.slice (some ⟨g',0,none⟩) 1 1]∧FL w (.slice (some ⟨g,0,none⟩) 1 1) [f]∧FL w (.slice (some ⟨g',0,none⟩) 1 1) [f']
theorem QFL {f:Fm} {y y':GB} {w w':World} (hb:Below w.heap.size w w') (u:Value) (h:QOA f y u w):QOA f y' u w':=by
 obtain⟨sl,cap,e,h⟩:=h;(exact⟨sl,cap,e,h.move fun b hl hp=>⟨hb.block b hl,hp⟩⟩)
theorem QDh {f:Fm} {y y':GB} {w w':World} (hb:Below w.heap.size w w') (u:Value) (h:bFL f y u w):bFL f y' u w':=by
 obtain⟨g,e,h⟩:=h;exact⟨g,e,h.up hb⟩
theorem QFT {f f':Fm} {y y':GB} {w w':World} (hb:Below w.heap.size w w') (u:Value) (h:bSq f f' y u w):bSq f f' y' u w':=by
 obtain⟨g,g',e,h,h'⟩:=h;exact⟨g,g',e,h.up hb,h'.up hb⟩
structure StB (W:World) (l7 l13 l14:Bool) (y:GB) (w:World):Prop where
 below:Below W.heap.size W w
 b3:l13=true→W.heap.size≤y.g3∧w.heap[y.g3]? = some (.cells #[.string ⟨#[]⟩,.int .i64 0,.string ⟨#[]⟩,.slice none 0 0,.slice none 0 0,.slice none 0 0,.slice none 0 0] 32 (0,0))
 b6:l14=true→W.heap.size≤y.g6∧w.heap[y.g6]? = some (.cells #[.int .i64 0,.int .i64 0] 35 (0,0))
 tl:l7=true→TL w y.c [[113]]
theorem StB.up {W w w':World} {l7 l13 l14:Bool} {y:GB} (h:StB W l7 l13 l14 y w) (hb:Below w.heap.size w w'):StB W l7 l13 l14 y w' :=
 ⟨QAC h.below hb,fun e=>⟨(h.b3 e).1,QAA hb (h.b3 e).2⟩,fun e=>⟨(h.b6 e).1,QAA hb (h.b6 e).2⟩,fun e=>(h.tl e).keep fun b hl=>hb.block b hl⟩
theorem StB.same {W w w':World} {l7 l13 l14:Bool} {y:GB} (h:StB W l7 l13 l14 y w) (hB:Below W.heap.size W w') (hb:∀ b,b < w.heap.size→w'.heap[b]? = w.heap[b]?):StB W l7 l13 l14 y w' :=
 ⟨hB,fun e=>⟨(h.b3 e).1,(hb _ (QAE (h.b3 e).2)).trans (h.b3 e).2⟩,fun e=>⟨(h.b6 e).1,(hb _ (QAE (h.b6 e).2)).trans (h.b6 e).2⟩,fun e=>(h.tl e).keep hb⟩
theorem StB.prove {W w w':World} {l7 l13 l14:Bool} {y:GB} (h:StB W l7 l13 l14 y w) (hb:Below w.heap.size w w') {c:Value} (hc:TL w' c [[113]]):StB W true l13 l14 { y with c:=c } w' :=
 ⟨QAC h.below hb,fun e=>⟨(h.b3 e).1,QAA hb (h.b3 e).2⟩,fun e=>⟨(h.b6 e).1,QAA hb (h.b6 e).2⟩,fun _=>hc⟩
theorem StB.box3 {W w:World} {l7 l13 l14:Bool} {y:GB} (h:StB W l7 l13 l14 y w):StB W l7 true l14 { y with g3:=w.heap.size } (w.alloc (.cells #[.string ⟨#[]⟩,.int .i64 0,.string ⟨#[]⟩,.slice none 0 0,.slice none 0 0,.slice none 0 0,.slice none 0 0] 32 (0,0))):=by
 have hb:=QAB (Below.refl w.heap.size w) (.cells #[.string ⟨#[]⟩,.int .i64 0,.string ⟨#[]⟩,.slice none 0 0,.slice none 0 0,.slice none 0 0,.slice none 0 0] 32 (0,0));(exact⟨QAC h.below hb,fun _=>⟨h.below.size,QAH w _⟩,fun e=>⟨(h.b6 e).1,QAA hb (h.b6 e).2⟩,fun e=>(h.tl e).keep fun b hl=>hb.block b hl⟩)
theorem StB.box6 {W w:World} {l7 l13 l14:Bool} {y:GB} (h:StB W l7 l13 l14 y w):StB W l7 l13 true { y with g6:=w.heap.size } (w.alloc (.cells #[.int .i64 0,.int .i64 0] 35 (0,0))):=by
 have hb:=QAB (Below.refl w.heap.size w) (.cells #[.int .i64 0,.int .i64 0] 35 (0,0));(exact⟨QAC h.below hb,fun e=>⟨(h.b3 e).1,QAA hb (h.b3 e).2⟩,fun _=>⟨h.below.size,QAH w _⟩,fun e=>(h.tl e).keep fun b hl=>hb.block b hl⟩)
theorem StB.put3 {W w:World} {l7 l13 l14:Bool} {y:GB} (h:StB W l7 l13 l14 y w) (e:l13=true):StB W l7 l13 l14 y (QBT w y.g3 (.string ⟨#[]⟩) (.int .i64 0) (.string ⟨#[]⟩) (.slice none 0 0) (.slice none 0 0) (.slice none 0 0) (.slice none 0 0)):=by
 obtain⟨h1,h2⟩:=h.b3 e;(refine h.same ?_ fun b hl => ?_)
 ·exact h.below.trans ((QBK w y.g3 (.string ⟨#[]⟩) (.int .i64 0) (.string ⟨#[]⟩) (.slice none 0 0) (.slice none 0 0) (.slice none 0 0) (.slice none 0 0)).below h.below.size fun b hb=>by omega)
 ·by_cases q:b=y.g3
  ·rw [q,QBL (.string ⟨#[]⟩) (.int .i64 0) (.string ⟨#[]⟩) (.slice none 0 0) (.slice none 0 0) (.slice none 0 0) (.slice none 0 0) h2,h2]
  ·exact QCD _ _ _ _ _ _ _ q
theorem StB.put6 {W w:World} {l7 l13 l14:Bool} {y:GB} (h:StB W l7 l13 l14 y w) (e:l14=true):StB W l7 l13 l14 y ((w.setCell ⟨y.g6,0,none⟩ (.int .i64 0)).setCell ⟨y.g6,1,none⟩ (.int .i64 0)):=by
 obtain⟨h1,h2⟩:=h.b6 e;(refine h.same ((h.below.setCell (p:=⟨y.g6,0,none⟩) h1 _).setCell (p:=⟨y.g6,1,none⟩) h1 _) fun b hl => ?_);by_cases q:b=y.g6
 ·rw [q,QAS (QAS h2 _) _,h2]
  rfl
 ·rw [QAJ _ q,QAJ _ q]
set_option maxRecDepth 10000 in
set_option maxHeartbeats 8000000 in
theorem QEm (w:World):Calls Tryz.prog 7 #[] w fun e w'=>e = .returned (.bool true)∧Below w.heap.size w w':=by
 (have HN1:Hid (∀ W,Calls Tryz.prog 42 #[.string ⟨#[112]⟩] W _):=fun W=>QGb ⟨#[112]⟩ W);(have HN2:Hid (∀ W,Calls Tryz.prog 42 #[.string ⟨#[113]⟩] W _):=fun W=>QGb ⟨#[113]⟩ W)
 go_enter Tryz.func7,Tryz.ntmps7
 go_wp2_with fail;refine (HN1.out _).mono ?_;rintro e w1 ⟨rfl,hb1⟩;go_wp2_with fail;refine (HN2.out _).mono ?_;rintro e w2 ⟨rfl,hb2⟩;have HB2:Hid (Below w.heap.size w w2):=QAC hb1 hb2;clear hb1 hb2 HN1 HN2;go_wp2_with fail;obtain⟨W,hW⟩:∃ W,W=(w2.alloc (.cells #[.int .i64 1,.string ⟨#[112]⟩,.slice none 0 0] 29 (0,0))).alloc (.cells #[.int .i64 1,.string ⟨#[113]⟩,.slice none 0 0] 29 (0,0)):=⟨_,rfl⟩;rw [← hW];(have HBW:Hid (Below w.heap.size w W):=by rw [hW];exact QAB (QAB HB2.out _) _);(have P1:Hid (W.heap[w2.heap.size]? = some (.cells #[.int .i64 1,.string ⟨#[112]⟩,.slice none 0 0] 29 (0,0))):=by rw [hW];exact QAG (QAH w2 _) _);(have P2:Hid (W.heap[w2.heap.size+1]? = some (.cells #[.int .i64 1,.string ⟨#[113]⟩,.slice none 0 0] 29 (0,0))):=by rw [hW];exact QAa w2 _ _);clear hW HB2;(have HBo:Hid (∀ W,Calls Tryz.prog 43 #[.int .i64 6,.agg #[.int .i64 1,.string ⟨#[112]⟩,.slice none 0 0],.agg #[.int .i64 1,.string ⟨#[113]⟩,.slice none 0 0]] W fun e w'=>∃ x,e = .returned x∧Rep w' (fun _=>True) fOr x∧Below W.heap.size W w'):=fun W=>QMM 6 fP fQ _ _ W (Rep.leaf (by simp [maxLen,ByteArray.size])) (Rep.leaf (by simp [maxLen,ByteArray.size])));(have HPv:Hid (∀ vl vr W,FL W vl [fOr]→FL W vr [fP]→Calls Tryz.prog 10 #[.agg #[vl,vr]] W fun e w'=>∃ c,e = .returned (.tuple #[.agg #[.string ⟨#[]⟩,.int .i64 0,.string ⟨#[]⟩,.slice none 0 0,.slice none 0 0,.slice none 0 0,.slice none 0 0],c,.bool false,.agg #[.int .i64 0,.int .i64 0]])∧TL w' c [[113]]∧Below W.heap.size W w'):=fun vl vr W h1 h2=>QHp vl vr W h1 h2);(refine QBv (by kernel_rfl) (by kernel_rfl) (by kernel_rfl) 34 rfl (by kernel_rfl) [fun _ v _=>v=(.agg #[.int .i64 1,.string ⟨#[112]⟩,.slice none 0 0]),fun _ v _=>v=(.agg #[.int .i64 1,.string ⟨#[113]⟩,.slice none 0 0]),QOA fOr,bFL fOr,fun _ v _=>v=(.agg #[.int .i64 1,.string ⟨#[112]⟩,.slice none 0 0]),bFL fP,bSq fOr fP,fun y v _=>v = .tuple #[.agg #[.string ⟨#[]⟩,.int .i64 0,.string ⟨#[]⟩,.slice none 0 0,.slice none 0 0,.slice none 0 0,.slice none 0 0],y.c,.bool false,.agg #[.int .i64 0,.int .i64 0]],fun y v _=>v = .tuple #[.agg #[.string ⟨#[]⟩,.int .i64 0,.string ⟨#[]⟩,.slice none 0 0,.slice none 0 0,.slice none 0 0,.slice none 0 0],y.c,.bool false,.agg #[.int .i64 0,.int .i64 0]],fun _ v _=>v=(.agg #[.string ⟨#[]⟩,.int .i64 0,.string ⟨#[]⟩,.slice none 0 0,.slice none 0 0,.slice none 0 0,.slice none 0 0]),fun y v _=>v=y.c,fun _ v _=>v=(.bool false),fun _ v _=>v=(.agg #[.int .i64 0,.int .i64 0]),fun y v _=>v = .pointer (some ⟨y.g3,0,none⟩),fun y v _=>v = .pointer (some ⟨y.g6,0,none⟩),fun _ _ _=>True,fun y v _=>v=y.c,fun _ v _=>v=(.bool false),fun _ _ _=>True] (fun L j=>!((j == 2 || j == 3 || j == 5 || j == 6) && L 7)) (fun L=>StB W (L 7) (L 13) (L 14)) (⟨0,0,.bool false⟩) ?_ ?_ ?_)
 ·exact fun wx h _=>⟨h,fun e=>(by cases e),fun e=>(by cases e),fun e=>(by cases e)⟩
 ·refine⟨?_,?_,?_,?_,?_,?_,?_,?_,?_,?_,?_,?_,?_,?_,?_,?_,?_,?_,?_,trivial⟩
  ·intro L y a wx hSt hLi hdl hcl hold hdep K hK
   have HSt:Hid (StB W (L 7) (L 13) (L 14) y wx):=hSt;clear hSt;have t1:a.tmps[1]? = some (.pointer (some ⟨w2.heap.size,0,none⟩)):=hold 1 rfl;obtain⟨d0,d1,d2,-⟩:=QAb (QAA HSt.out.below P1.out);clear hold hdep hdl hcl hLi;go_simp;(exact hK.out _ _ y HSt.out rfl (fun j hj hl=>⟨hl,fun u h=>h⟩))
  ·intro L y a wx hSt hLi hdl hcl hold hdep K hK
   have HSt:Hid (StB W (L 7) (L 13) (L 14) y wx):=hSt;clear hSt;have t2:a.tmps[2]? = some (.pointer (some ⟨w2.heap.size+1,0,none⟩)):=hold 2 rfl;obtain⟨d0,d1,d2,-⟩:=QAb (QAA HSt.out.below P2.out);clear hold hdep hdl hcl hLi;go_simp;(exact hK.out _ _ y HSt.out rfl (fun j hj hl=>⟨hl,fun u h=>h⟩))
  ·intro L y a wx hSt hLi hdl hcl hold hdep K hK
   have HSt:Hid (StB W (L 7) (L 13) (L 14) y wx):=hSt;clear hSt;obtain⟨v10,t10,q10⟩:=hdep 0 rfl _ 10 rfl rfl;have e10:v10=(.agg #[.int .i64 1,.string ⟨#[112]⟩,.slice none 0 0]):=q10 rfl;subst e10;obtain⟨v11,t11,q11⟩:=hdep 1 rfl _ 11 rfl rfl;have e11:v11=(.agg #[.int .i64 1,.string ⟨#[113]⟩,.slice none 0 0]):=q11 rfl;subst e11;clear hold hdep hdl;go_simp;refine (HBo.out wx).mono ?_;rintro e w3 ⟨u,rfl,hu,hb3⟩;obtain⟨sl9,cap9,rfl⟩:=QAU hu;refine hK.out _ _ y (HSt.out.up hb3) ⟨sl9,cap9,rfl,hu⟩ ?_;intro j hj hl
   rcases j with _|_|_|_|_|_|_|_|_|_|_|_|_|_|_|_|_|_|_|j
   ·exact⟨hl,fun u h=>h⟩
   ·exact⟨hl,fun u h=>h⟩
   ·exact Bool.noConfusion (hLi.symm.trans hj)
   ·exact⟨hl,fun u h=>QDh (y:=y) (y':=y) hb3 u h⟩
   ·exact⟨hl,fun u h=>h⟩
   ·exact⟨hl,fun u h=>QDh (y:=y) (y':=y) hb3 u h⟩
   ·exact⟨hl,fun u h=>QFT (y:=y) (y':=y) hb3 u h⟩
   ·exact⟨hl,fun u h=>h⟩
   ·exact⟨hl,fun u h=>h⟩
   ·exact⟨hl,fun u h=>h⟩
   ·exact⟨hl,fun u h=>h⟩
   ·exact⟨hl,fun u h=>h⟩
   ·exact⟨hl,fun u h=>h⟩
   ·exact⟨hl,fun u h=>h⟩
   ·exact⟨hl,fun u h=>h⟩
   ·exact⟨hl,fun u h=>h⟩
   ·exact⟨hl,fun u h=>h⟩
   ·exact⟨hl,fun u h=>h⟩
   ·exact⟨hl,fun u h=>h⟩
   ·exact⟨hl,fun u h=>h⟩
  ·intro L y a wx hSt hLi hdl hcl hold hdep K hK
   have HSt:Hid (StB W (L 7) (L 13) (L 14) y wx):=hSt;clear hSt;(have e7:L 7=false:=QCb hLi fun h=>hcl 6 _ rfl (hcl 7 _ rfl h 6 rfl) 3 rfl);obtain⟨v12,t12,q12⟩:=hdep 2 rfl _ 12 rfl rfl;(obtain⟨sl9,cap9,e12,hr12⟩:=q12 (by show (!(L 7))=true;rw [e7];rfl));subst e12;(have HR:Hid (Rep wx (fun _=>True) fOr (.agg #[.int .i64 6,.string ⟨#[]⟩,.slice sl9 2 cap9])):=hr12);clear hold hdep hdl hr12;go_simp;have hb3:=QAB (Below.refl wx.heap.size wx) (.cells #[.int .i64 6,.string ⟨#[]⟩,.slice sl9 2 cap9] 29 (0,0));(refine hK.out _ _ y (HSt.out.up hb3) ⟨wx.heap.size,rfl,FL.sing (QAH wx _) (HR.out.move fun b hl hp=>⟨hb3.block b hl,hp⟩)⟩ ?_);intro j hj hl
   rcases j with _|_|_|_|_|_|_|_|_|_|_|_|_|_|_|_|_|_|_|j
   ·exact⟨hl,fun u h=>h⟩
   ·exact⟨hl,fun u h=>h⟩
   ·exact⟨hl,fun u h=>QFL (y:=y) (y':=y) hb3 u h⟩
   ·exact Bool.noConfusion (hLi.symm.trans hj)
   ·exact⟨hl,fun u h=>h⟩
   ·exact⟨hl,fun u h=>QDh (y:=y) (y':=y) hb3 u h⟩
   ·exact⟨hl,fun u h=>QFT (y:=y) (y':=y) hb3 u h⟩
   ·exact⟨hl,fun u h=>h⟩
   ·exact⟨hl,fun u h=>h⟩
   ·exact⟨hl,fun u h=>h⟩
   ·exact⟨hl,fun u h=>h⟩
   ·exact⟨hl,fun u h=>h⟩
   ·exact⟨hl,fun u h=>h⟩
   ·exact⟨hl,fun u h=>h⟩
   ·exact⟨hl,fun u h=>h⟩
   ·exact⟨hl,fun u h=>h⟩
   ·exact⟨hl,fun u h=>h⟩
   ·exact⟨hl,fun u h=>h⟩
   ·exact⟨hl,fun u h=>h⟩
   ·exact⟨hl,fun u h=>h⟩
  ·intro L y a wx hSt hLi hdl hcl hold hdep K hK
   have HSt:Hid (StB W (L 7) (L 13) (L 14) y wx):=hSt;clear hSt;have t1:a.tmps[1]? = some (.pointer (some ⟨w2.heap.size,0,none⟩)):=hold 1 rfl;obtain⟨d0,d1,d2,-⟩:=QAb (QAA HSt.out.below P1.out);clear hold hdep hdl hcl hLi;go_simp;(exact hK.out _ _ y HSt.out rfl (fun j hj hl=>⟨hl,fun u h=>h⟩))
  ·intro L y a wx hSt hLi hdl hcl hold hdep K hK
   have HSt:Hid (StB W (L 7) (L 13) (L 14) y wx):=hSt;clear hSt;obtain⟨v14,t14,q14⟩:=hdep 4 rfl _ 14 rfl rfl;have e14:v14=(.agg #[.int .i64 1,.string ⟨#[112]⟩,.slice none 0 0]):=q14 rfl;subst e14;clear hold hdep hdl;go_simp;have hb3:=QAB (Below.refl wx.heap.size wx) (.cells #[.int .i64 1,.string ⟨#[112]⟩,.slice none 0 0] 29 (0,0));(refine hK.out _ _ y (HSt.out.up hb3) ⟨wx.heap.size,rfl,FL.sing (QAH wx _) (Rep.leaf (by simp [maxLen,ByteArray.size]))⟩ ?_);intro j hj hl
   rcases j with _|_|_|_|_|_|_|_|_|_|_|_|_|_|_|_|_|_|_|j
   ·exact⟨hl,fun u h=>h⟩
   ·exact⟨hl,fun u h=>h⟩
   ·exact⟨hl,fun u h=>QFL (y:=y) (y':=y) hb3 u h⟩
   ·exact⟨hl,fun u h=>QDh (y:=y) (y':=y) hb3 u h⟩
   ·exact⟨hl,fun u h=>h⟩
   ·exact Bool.noConfusion (hLi.symm.trans hj)
   ·exact⟨hl,fun u h=>QFT (y:=y) (y':=y) hb3 u h⟩
   ·exact⟨hl,fun u h=>h⟩
   ·exact⟨hl,fun u h=>h⟩
   ·exact⟨hl,fun u h=>h⟩
   ·exact⟨hl,fun u h=>h⟩
   ·exact⟨hl,fun u h=>h⟩
   ·exact⟨hl,fun u h=>h⟩
   ·exact⟨hl,fun u h=>h⟩
   ·exact⟨hl,fun u h=>h⟩
   ·exact⟨hl,fun u h=>h⟩
   ·exact⟨hl,fun u h=>h⟩
   ·exact⟨hl,fun u h=>h⟩
   ·exact⟨hl,fun u h=>h⟩
   ·exact⟨hl,fun u h=>h⟩
  ·intro L y a wx hSt hLi hdl hcl hold hdep K hK
   have HSt:Hid (StB W (L 7) (L 13) (L 14) y wx):=hSt;clear hSt;(have e7:L 7=false:=QCb hLi fun h=>hcl 7 _ rfl h 6 rfl);obtain⟨v13,t13,q13⟩:=hdep 3 rfl _ 13 rfl rfl;(obtain⟨g13,e13,h13⟩:=q13 (by show (!(L 7))=true;rw [e7];rfl));subst e13;obtain⟨v15,t15,q15⟩:=hdep 5 rfl _ 15 rfl rfl;(obtain⟨g15,e15,h15⟩:=q15 (by show (!(L 7))=true;rw [e7];rfl));subst e15;have HF1:Hid (FL wx (.slice (some ⟨g13,0,none⟩) 1 1) [fOr]):=h13;have HF2:Hid (FL wx (.slice (some ⟨g15,0,none⟩) 1 1) [fP]):=h15;clear hold hdep hdl hcl h13 h15;go_simp;(exact hK.out _ _ y HSt.out ⟨g13,g15,rfl,HF1.out,HF2.out⟩ (fun j hj hl=>⟨hl,fun u h=>h⟩))
  ·intro L y a wx hSt hLi hdl hcl hold hdep K hK
   have HSt:Hid (StB W (L 7) (L 13) (L 14) y wx):=hSt;clear hSt;obtain⟨v16,t16,q16⟩:=hdep 6 rfl _ 16 rfl rfl;(obtain⟨g13,g15,e16,h13,h15⟩:=q16 (by show (!(L 7))=true;rw [hLi];rfl));subst e16;have HF1:Hid (FL wx (.slice (some ⟨g13,0,none⟩) 1 1) [fOr]):=h13;have HF2:Hid (FL wx (.slice (some ⟨g15,0,none⟩) 1 1) [fP]):=h15;clear hold hdep hdl h13 h15;go_simp;refine (HPv.out _ _ wx HF1.out HF2.out).mono ?_;rintro e w3 ⟨c9,rfl,htl,hb3⟩;refine hK.out _ _ { y with c:=c9 } (HSt.out.prove hb3 htl) rfl ?_;intro j hj hl
   rcases j with _|_|_|_|_|_|_|_|_|_|_|_|_|_|_|_|_|_|_|j
   ·exact⟨hl,fun u h=>h⟩
   ·exact⟨hl,fun u h=>h⟩
   ·exact Bool.noConfusion (show (false:Bool)=true from hl)
   ·exact Bool.noConfusion (show (false:Bool)=true from hl)
   ·exact⟨hl,fun u h=>h⟩
   ·exact Bool.noConfusion (show (false:Bool)=true from hl)
   ·exact Bool.noConfusion (show (false:Bool)=true from hl)
   ·exact Bool.noConfusion (hLi.symm.trans hj)
   ·exact Bool.noConfusion (hLi.symm.trans (hcl 8 _ rfl hj 7 rfl))
   ·exact Bool.noConfusion (hLi.symm.trans (hcl 8 _ rfl (hcl 9 _ rfl hj 8 rfl) 7 rfl))
   ·exact Bool.noConfusion (hLi.symm.trans (hcl 8 _ rfl (hcl 10 _ rfl hj 8 rfl) 7 rfl))
   ·exact Bool.noConfusion (hLi.symm.trans (hcl 8 _ rfl (hcl 11 _ rfl hj 8 rfl) 7 rfl))
   ·exact Bool.noConfusion (hLi.symm.trans (hcl 8 _ rfl (hcl 12 _ rfl hj 8 rfl) 7 rfl))
   ·exact⟨hl,fun u h=>h⟩
   ·exact⟨hl,fun u h=>h⟩
   ·exact⟨hl,fun u h=>h⟩
   ·exact Bool.noConfusion (hLi.symm.trans (hcl 16 _ rfl hj 7 rfl))
   ·exact⟨hl,fun u h=>h⟩
   ·exact⟨hl,fun u h=>h⟩
   ·exact⟨hl,fun u h=>h⟩
  ·intro L y a wx hSt hLi hdl hcl hold hdep K hK
   have HSt:Hid (StB W (L 7) (L 13) (L 14) y wx):=hSt;clear hSt;obtain⟨v17,t17,q17⟩:=hdep 7 rfl _ 17 rfl rfl;have e17:v17=(.tuple #[.agg #[.string ⟨#[]⟩,.int .i64 0,.string ⟨#[]⟩,.slice none 0 0,.slice none 0 0,.slice none 0 0,.slice none 0 0],y.c,.bool false,.agg #[.int .i64 0,.int .i64 0]]):=q17 rfl;subst e17;clear hold hdep hdl hcl hLi;go_simp;(exact hK.out _ _ y HSt.out rfl (fun j hj hl=>⟨hl,fun u h=>h⟩))
  ·intro L y a wx hSt hLi hdl hcl hold hdep K hK
   have HSt:Hid (StB W (L 7) (L 13) (L 14) y wx):=hSt;clear hSt;obtain⟨v9,t9,q9⟩:=hdep 8 rfl _ 9 rfl rfl;have e9:v9=(.tuple #[.agg #[.string ⟨#[]⟩,.int .i64 0,.string ⟨#[]⟩,.slice none 0 0,.slice none 0 0,.slice none 0 0,.slice none 0 0],y.c,.bool false,.agg #[.int .i64 0,.int .i64 0]]):=q9 rfl;subst e9;clear hold hdep hdl hcl hLi;go_simp;(exact hK.out _ _ y HSt.out rfl (fun j hj hl=>⟨hl,fun u h=>h⟩))
  ·intro L y a wx hSt hLi hdl hcl hold hdep K hK
   have HSt:Hid (StB W (L 7) (L 13) (L 14) y wx):=hSt;clear hSt;obtain⟨v9,t9,q9⟩:=hdep 8 rfl _ 9 rfl rfl;have e9:v9=(.tuple #[.agg #[.string ⟨#[]⟩,.int .i64 0,.string ⟨#[]⟩,.slice none 0 0,.slice none 0 0,.slice none 0 0,.slice none 0 0],y.c,.bool false,.agg #[.int .i64 0,.int .i64 0]]):=q9 rfl;subst e9;clear hold hdep hdl hcl hLi;go_simp;(exact hK.out _ _ y HSt.out rfl (fun j hj hl=>⟨hl,fun u h=>h⟩))
  ·intro L y a wx hSt hLi hdl hcl hold hdep K hK
   have HSt:Hid (StB W (L 7) (L 13) (L 14) y wx):=hSt;clear hSt;obtain⟨v9,t9,q9⟩:=hdep 8 rfl _ 9 rfl rfl;have e9:v9=(.tuple #[.agg #[.string ⟨#[]⟩,.int .i64 0,.string ⟨#[]⟩,.slice none 0 0,.slice none 0 0,.slice none 0 0,.slice none 0 0],y.c,.bool false,.agg #[.int .i64 0,.int .i64 0]]):=q9 rfl;subst e9;clear hold hdep hdl hcl hLi;go_simp;(exact hK.out _ _ y HSt.out rfl (fun j hj hl=>⟨hl,fun u h=>h⟩))
  ·intro L y a wx hSt hLi hdl hcl hold hdep K hK
   have HSt:Hid (StB W (L 7) (L 13) (L 14) y wx):=hSt;clear hSt;obtain⟨v9,t9,q9⟩:=hdep 8 rfl _ 9 rfl rfl;have e9:v9=(.tuple #[.agg #[.string ⟨#[]⟩,.int .i64 0,.string ⟨#[]⟩,.slice none 0 0,.slice none 0 0,.slice none 0 0,.slice none 0 0],y.c,.bool false,.agg #[.int .i64 0,.int .i64 0]]):=q9 rfl;subst e9;clear hold hdep hdl hcl hLi;go_simp;(exact hK.out _ _ y HSt.out rfl (fun j hj hl=>⟨hl,fun u h=>h⟩))
  ·intro L y a wx hSt hLi hdl hcl hold hdep K hK
   have HSt:Hid (StB W (L 7) (L 13) (L 14) y wx):=hSt;clear hSt;clear hold hdep hdl;go_simp;have hb3:=QAB (Below.refl wx.heap.size wx) (.cells #[.string ⟨#[]⟩,.int .i64 0,.string ⟨#[]⟩,.slice none 0 0,.slice none 0 0,.slice none 0 0,.slice none 0 0] 32 (0,0));refine hK.out _ _ { y with g3:=wx.heap.size } HSt.out.box3 rfl ?_;intro j hj hl
   rcases j with _|_|_|_|_|_|_|_|_|_|_|_|_|_|_|_|_|_|_|j
   ·exact⟨hl,fun u h=>h⟩
   ·exact⟨hl,fun u h=>h⟩
   ·exact⟨hl,fun u h=>QFL (y:=y) (y':=y) hb3 u h⟩
   ·exact⟨hl,fun u h=>QDh (y:=y) (y':=y) hb3 u h⟩
   ·exact⟨hl,fun u h=>h⟩
   ·exact⟨hl,fun u h=>QDh (y:=y) (y':=y) hb3 u h⟩
   ·exact⟨hl,fun u h=>QFT (y:=y) (y':=y) hb3 u h⟩
   ·exact⟨hl,fun u h=>h⟩
   ·exact⟨hl,fun u h=>h⟩
   ·exact⟨hl,fun u h=>h⟩
   ·exact⟨hl,fun u h=>h⟩
   ·exact⟨hl,fun u h=>h⟩
   ·exact⟨hl,fun u h=>h⟩
   ·exact Bool.noConfusion (hLi.symm.trans hj)
   ·exact⟨hl,fun u h=>h⟩
   ·exact⟨hl,fun u h=>h⟩
   ·exact⟨hl,fun u h=>h⟩
   ·exact⟨hl,fun u h=>h⟩
   ·exact⟨hl,fun u h=>h⟩
   ·exact⟨hl,fun u h=>h⟩
  ·intro L y a wx hSt hLi hdl hcl hold hdep K hK
   have HSt:Hid (StB W (L 7) (L 13) (L 14) y wx):=hSt;clear hSt;clear hold hdep hdl;go_simp;have hb3:=QAB (Below.refl wx.heap.size wx) (.cells #[.int .i64 0,.int .i64 0] 35 (0,0));refine hK.out _ _ { y with g6:=wx.heap.size } HSt.out.box6 rfl ?_;intro j hj hl
   rcases j with _|_|_|_|_|_|_|_|_|_|_|_|_|_|_|_|_|_|_|j
   ·exact⟨hl,fun u h=>h⟩
   ·exact⟨hl,fun u h=>h⟩
   ·exact⟨hl,fun u h=>QFL (y:=y) (y':=y) hb3 u h⟩
   ·exact⟨hl,fun u h=>QDh (y:=y) (y':=y) hb3 u h⟩
   ·exact⟨hl,fun u h=>h⟩
   ·exact⟨hl,fun u h=>QDh (y:=y) (y':=y) hb3 u h⟩
   ·exact⟨hl,fun u h=>QFT (y:=y) (y':=y) hb3 u h⟩
   ·exact⟨hl,fun u h=>h⟩
   ·exact⟨hl,fun u h=>h⟩
   ·exact⟨hl,fun u h=>h⟩
   ·exact⟨hl,fun u h=>h⟩
   ·exact⟨hl,fun u h=>h⟩
   ·exact⟨hl,fun u h=>h⟩
   ·exact⟨hl,fun u h=>h⟩
   ·exact Bool.noConfusion (hLi.symm.trans hj)
   ·exact⟨hl,fun u h=>h⟩
   ·exact⟨hl,fun u h=>h⟩
   ·exact⟨hl,fun u h=>h⟩
   ·exact⟨hl,fun u h=>h⟩
   ·exact⟨hl,fun u h=>h⟩
  ·intro L y a wx hSt hLi hdl hcl hold hdep K hK
   have HSt:Hid (StB W (L 7) (L 13) (L 14) y wx):=hSt;clear hSt;have e7:=hdl 7 rfl;have e13:=hdl 13 rfl;obtain⟨v3,t3,q3⟩:=hdep 13 rfl _ 3 rfl rfl;have e3:v3=(.pointer (some ⟨y.g3,0,none⟩)):=q3 rfl;subst e3;obtain⟨v18,t18,q18⟩:=hdep 9 rfl _ 18 rfl rfl;have e18:v18=(.agg #[.string ⟨#[]⟩,.int .i64 0,.string ⟨#[]⟩,.slice none 0 0,.slice none 0 0,.slice none 0 0,.slice none 0 0]):=q18 rfl;subst e18;have hbx:=(HSt.out.b3 e13).2;obtain⟨y0,y1,y2,y3,y4,y5,y6⟩:=QAj hbx;obtain⟨f0,f1,f2,f3,f4,f5,f6⟩:=QCT hbx;clear hold hdep hdl hcl hbx;go_simp;obtain⟨w9,hw9⟩:∃ w9,w9=QBT wx y.g3 (.string ⟨#[]⟩) (.int .i64 0) (.string ⟨#[]⟩) (.slice none 0 0) (.slice none 0 0) (.slice none 0 0) (.slice none 0 0):=⟨_,rfl⟩
   change K a (QBT wx y.g3 (.string ⟨#[]⟩) (.int .i64 0) (.string ⟨#[]⟩) (.slice none 0 0) (.slice none 0 0) (.slice none 0 0) (.slice none 0 0))
   have hS9:=HSt.out.put3 e13;rw [← hw9];rw [← hw9] at hS9;clear hw9;refine hK.out (.bool false) _ _ hS9 trivial ?_;intro j hj hl
   rcases j with _|_|_|_|_|_|_|_|_|_|_|_|_|_|_|_|_|_|_|j
   ·exact⟨hl,fun u h=>h⟩
   ·exact⟨hl,fun u h=>h⟩
   ·exact absurd (show (!(L 7))=true from hl) (by rw [e7];exact Bool.noConfusion)
   ·exact absurd (show (!(L 7))=true from hl) (by rw [e7];exact Bool.noConfusion)
   ·exact⟨hl,fun u h=>h⟩
   ·exact absurd (show (!(L 7))=true from hl) (by rw [e7];exact Bool.noConfusion)
   ·exact absurd (show (!(L 7))=true from hl) (by rw [e7];exact Bool.noConfusion)
   ·exact⟨hl,fun u h=>h⟩
   ·exact⟨hl,fun u h=>h⟩
   ·exact⟨hl,fun u h=>h⟩
   ·exact⟨hl,fun u h=>h⟩
   ·exact⟨hl,fun u h=>h⟩
   ·exact⟨hl,fun u h=>h⟩
   ·exact⟨hl,fun u h=>h⟩
   ·exact⟨hl,fun u h=>h⟩
   ·exact⟨hl,fun u h=>h⟩
   ·exact⟨hl,fun u h=>h⟩
   ·exact⟨hl,fun u h=>h⟩
   ·exact⟨hl,fun u h=>h⟩
   ·exact⟨hl,fun u h=>h⟩
  ·intro L y a wx hSt hLi hdl hcl hold hdep K hK
   have HSt:Hid (StB W (L 7) (L 13) (L 14) y wx):=hSt;clear hSt;obtain⟨v19,t19,q19⟩:=hdep 10 rfl _ 19 rfl rfl;have e19:v19=y.c:=q19 rfl;subst e19;clear hold hdep hdl hcl hLi;go_simp;(exact hK.out _ _ y HSt.out rfl (fun j hj hl=>⟨hl,fun u h=>h⟩))
  ·intro L y a wx hSt hLi hdl hcl hold hdep K hK
   have HSt:Hid (StB W (L 7) (L 13) (L 14) y wx):=hSt;clear hSt;obtain⟨v20,t20,q20⟩:=hdep 11 rfl _ 20 rfl rfl;have e20:v20=(.bool false):=q20 rfl;subst e20;clear hold hdep hdl hcl hLi;go_simp;(exact hK.out _ _ y HSt.out rfl (fun j hj hl=>⟨hl,fun u h=>h⟩))
  ·intro L y a wx hSt hLi hdl hcl hold hdep K hK
   have HSt:Hid (StB W (L 7) (L 13) (L 14) y wx):=hSt;clear hSt;have e7:=hdl 7 rfl;have e14:=hdl 14 rfl;obtain⟨v6,t6,q6⟩:=hdep 14 rfl _ 6 rfl rfl;have e6:v6=(.pointer (some ⟨y.g6,0,none⟩)):=q6 rfl;subst e6;obtain⟨v21,t21,q21⟩:=hdep 12 rfl _ 21 rfl rfl;have e21:v21=(.agg #[.int .i64 0,.int .i64 0]):=q21 rfl;subst e21;have hbx:=(HSt.out.b6 e14).2;obtain⟨y0,y1,f0,f1⟩:=QAV hbx;clear hold hdep hdl hcl hbx;go_simp;obtain⟨w9,hw9⟩:∃ w9,w9=(wx.setCell ⟨y.g6,0,none⟩ (.int .i64 0)).setCell ⟨y.g6,1,none⟩ (.int .i64 0):=⟨_,rfl⟩;have hS9:=HSt.out.put6 e14;rw [← hw9];rw [← hw9] at hS9;clear hw9;refine hK.out (.bool false) _ _ hS9 trivial ?_;intro j hj hl
   rcases j with _|_|_|_|_|_|_|_|_|_|_|_|_|_|_|_|_|_|_|j
   ·exact⟨hl,fun u h=>h⟩
   ·exact⟨hl,fun u h=>h⟩
   ·exact absurd (show (!(L 7))=true from hl) (by rw [e7];exact Bool.noConfusion)
   ·exact absurd (show (!(L 7))=true from hl) (by rw [e7];exact Bool.noConfusion)
   ·exact⟨hl,fun u h=>h⟩
   ·exact absurd (show (!(L 7))=true from hl) (by rw [e7];exact Bool.noConfusion)
   ·exact absurd (show (!(L 7))=true from hl) (by rw [e7];exact Bool.noConfusion)
   ·exact⟨hl,fun u h=>h⟩
   ·exact⟨hl,fun u h=>h⟩
   ·exact⟨hl,fun u h=>h⟩
   ·exact⟨hl,fun u h=>h⟩
   ·exact⟨hl,fun u h=>h⟩
   ·exact⟨hl,fun u h=>h⟩
   ·exact⟨hl,fun u h=>h⟩
   ·exact⟨hl,fun u h=>h⟩
   ·exact⟨hl,fun u h=>h⟩
   ·exact⟨hl,fun u h=>h⟩
   ·exact⟨hl,fun u h=>h⟩
   ·exact⟨hl,fun u h=>h⟩
   ·exact⟨hl,fun u h=>h⟩
 ·intro L y a wx hall hSt hsz hdf hold hgot
  have e7:L 7=true:=hall 7 (Nat.le_of_ble_eq_true rfl);have e13:L 13=true:=hall 13 (Nat.le_of_ble_eq_true rfl);have e14:L 14=true:=hall 14 (Nat.le_of_ble_eq_true rfl);have hS:StB W (L 7) (L 13) (L 14) y wx:=hSt;rw [e7,e13,e14] at hS;obtain⟨v6,t6,q6⟩:=hgot 14 _ 6 rfl rfl;have e6':v6 = .pointer (some ⟨y.g6,0,none⟩):=q6 rfl;subst e6';obtain⟨v4,t4,q4⟩:=hgot 16 _ 4 rfl rfl;have e4':v4=y.c:=q4 rfl;subst e4';obtain⟨v5,t5,q5⟩:=hgot 17 _ 5 rfl rfl;have e5':v5 = .bool false:=q5 rfl;subst e5';obtain⟨tm,df⟩:=a;(obtain⟨ys,zs,hys,hzs,htm,rfl⟩:=QDH 3 4 2 13 7 9 22 rfl rfl rfl (by kernel_rfl) (Nat.le_of_ble_eq_true rfl) ⟨hsz,hdf,hold⟩);obtain⟨x3,x4,x5,x6,rfl⟩:=QOK ys hys;obtain⟨x9,x10,x11,x12,x13,x14,x15,x16,x17,x18,x19,x20,x21,rfl⟩:=QNi zs hzs;simp only [List.take_succ_cons,List.take_zero,List.drop_succ_cons,List.drop_zero,List.cons_append,List.nil_append] at htm;subst htm;obtain rfl:x6=_:=QAK t6;obtain rfl:x4=_:=QAK t4;obtain rfl:x5=_:=QAK t5;have HTl:Hid (TL wx y.c [[113]]):=hS.tl rfl;have HB6:Hid (wx.heap[y.g6]? = some (.cells #[.int .i64 0,.int .i64 0] 35 (0,0))):=(hS.b6 rfl).2;have HBx:Hid (Below w.heap.size w wx):=QAC HBW.out hS.below;clear hys hzs hold hgot hall hSt hsz hdf e7 e13 e14 t6 q6 t4 q4 t5 q5 hS;obtain⟨g3,g6,c⟩:=y;have HTc:=HTl.out;obtain⟨adc,cpc,hvc,-⟩:=HTc;have hvc':c = .slice adc 1 cpc:=hvc;subst hvc';obtain⟨m0,m1,-⟩:=QAV HB6.out;clear hvc;go_wp2_with fail
  have hTn:TL (wx.alloc (.cells #[.string ⟨#[113]⟩] 9 (0,0))) (.slice (some ⟨wx.heap.size,0,none⟩) 1 1) [[113]]:=⟨_,1,rfl,Nat.le_refl _,by simp [maxLen],fun _=>⟨wx.heap.size,rfl,fun j t ht=>by
   rw [QAL (QAH wx _)]
   match j,ht with
   | 0,ht=>simp at ht;rw [← ht];rfl
   | j+1,ht=>simp at ht⟩⟩
  have hb9:=QAB (Below.refl wx.heap.size wx) (.cells #[.string ⟨#[113]⟩] 9 (0,0));(refine (QJr [[113]] _ _ _ (HTl.out.keep fun b hl=>hb9.block b hl) hTn).mono ?_);rintro e w9 ⟨rfl,hbx⟩;have B9:=QAC (QAC HBx.out hb9) hbx;clear hbx hTn hb9;go_wp2_with fail;go_ret;exact⟨rfl,B9⟩
set_option maxRecDepth 10000 in
set_option maxHeartbeats 4000000 in
theorem QHg (l r:List Fm) (v v':Value) (w:World) (h:FL w v l) (h':FL w v' r):Calls Tryz.prog 8 #[.agg #[v,v']] w fun e w'=>QNK (.mk ⟨#[]⟩ (.mk 0 ⟨#[]⟩ []) l r []) e∧Below w.heap.size w w':=by
 have HL:Hid (FL w v l):=h;have HR:Hid (FL w v' r):=h';obtain⟨aL,cL,rfl,-⟩:=h;obtain⟨aR,cR,rfl,-⟩:=h'
 have HC:Hid (∀ W,Below w.heap.size w W→Calls Tryz.prog 18 #[.agg #[.string ⟨#[]⟩,.int .i64 0,.string ⟨#[]⟩,.slice none 0 0,.slice aL l.length cL,.slice aR r.length cR,.slice none 0 0],.int .i64 0] W fun e w'=>QNK (.mk ⟨#[]⟩ (.mk 0 ⟨#[]⟩ []) l r []) e∧Below W.heap.size W w'):=fun W hb =>
  QJf _ _ W (PRep.def.2 ⟨_,_,_,_,_,none,0,rfl,by simp [ByteArray.size,maxLen],Rep.def.2 ⟨none,0,rfl,by simp [ByteArray.size,maxLen],Nat.le_refl _,by simp [maxLen],fun h=>absurd rfl h⟩,HL.out.up hb,HR.out.up hb,Nat.le_refl _,by simp [maxLen],fun h=>absurd rfl h⟩)
 have HB0:Hid (Below w.heap.size w (w.alloc (.cells #[.slice aL l.length cL,.slice aR r.length cR] 24 (0,0)))):=QAB (Below.refl _ w) _
 go_enter Tryz.func8,Tryz.ntmps8
 go_wp2_with fail;refine (HC.out _ HB0.out).mono ?_;rintro e w1 ⟨hvp,hb1⟩;have HB1:Hid (Below w.heap.size w w1):=QAC HB0.out hb1;clear hb1;obtain⟨bb,rfl,hbb⟩:=hvp;have HV:Hid _:=hbb;clear hbb;go_wp2_with fail;go_ret;exact⟨⟨bb,rfl,HV.out⟩,HB1.out⟩
end Go.Proofs.YtbmedfokpgghiacGreat
