import Derived.RangeFuncNested
import Derived.RangeFuncBound
import Derived.RangeFuncCalls
import Derived.RangeFuncLeaves
import Derived.Shelf.Abstract
import Derived.Shelf.RegionOpen
import Derived.WalkKit
import Derived.OwnWalkIn
import Derived.TacticsInMore
import Derived.LoopNIn
import Derived.LoopIn
import Derived.Test.YtbmedfokpgghiacGreatB29
namespace Go.Proofs.YtbmedfokpgghiacGreat
open Go.RowKit Go.Shelf
attribute [local go_sem] Oper.semAt_some
def QCj (br:List Nat) (k:Nat):List (Nat × Nat):=(List.range k).map fun j=>(br.length - 1 - j,br.getD (br.length - 1 - j) 0)
theorem QHl (br:List Nat) (k:Nat):QCj br (k+1)=QCj br k++[(br.length - 1 - k,br.getD (br.length - 1 - k) 0)]:=by simp [QCj,List.range_succ]
theorem QEG (br:List Nat) (k:Nat):(QCj br k).length=k:=by simp [QCj]
theorem QIv {br:List Nat} {i:Nat} (hi:i∈br):∃ y∈QCj br br.length,y.2=i:=by
 obtain⟨n,hn⟩:=List.getElem?_of_mem hi;have hlt:=(List.getElem?_eq_some_iff.1 hn).1;(refine⟨_,List.mem_map.2 ⟨br.length - 1 - n,List.mem_range.2 (by omega),rfl⟩,?_⟩);simp only;(rw [show br.length - 1 - (br.length - 1 - n)=n by omega,List.getD_eq_getElem?_getD,hn]);rfl
set_option maxHeartbeats 1000000 in
theorem QHm (a:Option Addr) (len cap:Nat) (w:World):Calls Tryz.prog 138 #[.slice a len cap] w fun e w'=>e = .returned (.func (.func 171) #[] #[.pointer (some ⟨w.heap.size,0,none⟩)])∧w'=w.alloc (.cells #[.slice a len cap] 78 (0,0)):=by
 go_enter Tryz.func138,Tryz.ntmps138
 go_wp2_with fail;go_ret;exact⟨rfl,rfl⟩
def QEF (Bs:Nat) (ad:Option Addr) (W W':World):Prop:=W'.heap[Bs]? = W.heap[Bs]? ∧ ∀ a,ad=some a→W'.heap[a.block]? = W.heap[a.block]?
set_option maxRecDepth 100000 in
set_option maxHeartbeats 4000000 in
theorem QMK (n:Nat) (hn:1≤n) (l Bs:Nat) (ad:Option Addr) (cap:Nat) (br:List Nat) (hbr:br.length≤400000) (J Jx:List {y:Nat × Nat // y.2∈br}→World→Prop)
  (hY:∀ pre x W,J pre W→pre.length < br.length→YieldAt Fence.wide (n - 1) Tryz.prog l #[.int .i64 (x.1.1:Nat),.int .i64 (x.1.2:Nat)] W fun e W' =>
   (e = .returned (.bool true)∧J (pre++[x]) W'∧QEF Bs ad W W')∨(e = .returned (.bool false)∧Jx (pre++[x]) W'))
  (W:World) (hBs:W.cell? ⟨Bs,0,none⟩=some (.slice ad br.length cap)) (hc:IRow (fun _=>True) W (.slice ad br.length cap) br) (h0:J [] W) :
  CallsIn Fence.wide n Tryz.prog 171 #[.func (.yield l) #[] #[],.pointer (some ⟨Bs,0,none⟩)] W fun e W'=>(∃ v,e = .returned v) ∧
   ((∃ ys:List {y:Nat × Nat // y.2∈br},ys.map Subtype.val=QCj br br.length∧J ys W')∨(∃ pre:List {y:Nat × Nat // y.2∈br},(∃ k,k≤br.length∧pre.map Subtype.val=QCj br k)∧Jx pre W')):=by
 (have hbI:(br.length:Int)≤400000:=by omega);(have HC:Hid (IRow (fun _=>True) W (.slice ad br.length cap) br):=hc)
 have hcap:(br.length:Int)≤(cap:Int):=by
  obtain⟨_,_,e,h1,-⟩:=hc;simp only [Value.slice.injEq,true_and] at e;omega
 clear hc;refine callsIn_of_wp Tryz.func171 rfl trivial ?_ rfl;simp only [Tryz.ntmps171,List.size_toArray,List.length_cons,List.length_nil,Nat.reduceAdd,Nat.reduceSub,Array.replicate_succ,Array.replicate_zero,List.push_toArray,List.append_toArray,List.nil_append,List.cons_append]
 gi_wp2
 gi_loopw [3] (fun i wr=>∃ (k:Nat) (pre:List {y:Nat × Nat // y.2∈br}),k≤br.length∧i = .int .i64 ((br.length:Int) - 1 - (k:Int))∧Hid (pre.map Subtype.val=QCj br k)∧J pre wr∧Hid (QEF Bs ad W wr))
  (fun i _=>(intOf i+1).toNat)
 case atStart=>exact⟨0,[],Nat.zero_le _,by simp,by show _=_;rfl,h0,⟨rfl,fun _ _=>rfl⟩⟩
 case round =>
  obtain⟨k,pre,hk,rfl,HPre,hJs,HKp⟩:=hrel;have hbs:wr.cell? ⟨Bs,0,none⟩=some (.slice ad br.length cap):=(QAQ (a:=⟨Bs,0,none⟩) HKp.out.1).trans hBs;by_cases hlt:k < br.length
  ·obtain⟨m,hm⟩:∃ m:Nat,m=br.length - 1 - k:=⟨_,rfl⟩
   (have hmI:(br.length:Int) - 1 - (k:Int)=(m:Int):=by omega);(obtain⟨t,ht⟩:∃ t,br[m]? = some t:=⟨_,List.getElem?_eq_getElem (by omega)⟩);obtain⟨b,off,rfl,-,hcell⟩:=HC.out.some' ht;have g0:=(QAQ (a:=⟨b,off+m,none⟩) (HKp.out.2 ⟨b,off,none⟩ rfl)).trans hcell;(have htd:br.getD (br.length - 1 - k) 0=t:=by rw [← hm,List.getD_eq_getElem?_getD,ht];rfl);(obtain⟨fn,tmps,assign,body,hy,hR⟩:=hY pre ⟨(m,t),List.mem_of_getElem? ht⟩ wr hJs (by have:=congrArg List.length HPre.out;rw [List.length_map,QEG] at this;omega))
   dsimp only at hy
   (have HUp:Hid ((pre++[(⟨(m,t),List.mem_of_getElem? ht⟩:{y:Nat × Nat // y.2∈br})]).map Subtype.val=QCj br (k+1)):=by show _=_;rw [QHl,htd,← hm,List.map_append,HPre.out];rfl);(have hmlt:(m:Int) < (br.length:Int):=by omega);(have hmc:(m:Int) < (cap:Int):=by omega);(have hm0:(0:Int)≤(m:Int):=by omega);have HM:Hid (m=br.length - 1 - k):=hm;rw [hmI];clear hcell htd hm
   gi_wp2
   refine hR.mono ?_;rintro e W3 (⟨rfl,hJ3,hk3⟩|⟨rfl,hJx3⟩)
   ·gi_wp2
    go_roundw
    case rel=>exact⟨k+1,_,by omega,by have:=HM.out;simp;omega,HUp,hJ3,⟨hk3.1.trans HKp.out.1,fun a ha=>(hk3.2 a ha).trans (HKp.out.2 a ha)⟩⟩
    case measure=>simp [intOf]
   ·gi_wp2
    refine bodyPost_ret (results_none rfl _ _ _) rfl ?_;(exact⟨⟨_,rfl⟩,.inr ⟨_,⟨k+1,by omega,HUp.out⟩,hJx3⟩⟩)
  ·have hke:k=br.length:=by omega
   subst hke;(have hneg:¬ (0:Int)≤(br.length:Int) - 1 - (br.length:Int):=by omega)
   gi_wp2
   go_end0
   exact⟨⟨_,rfl⟩,.inl ⟨pre,HPre.out,hJs⟩⟩
theorem QIw (n:Nat) (hn:1≤n) (Bs:Nat) (ad:Option Addr) (cap:Nat) (br:List Nat) (hbr:br.length≤400000) (w:World) (hBs:Bs < w.heap.size) (hc:w.cell? ⟨Bs,0,none⟩=some (.slice ad br.length cap)) (hI:IRow (fun _=>True) w (.slice ad br.length cap) br) :
  SeqStopsK Fence.wide n Tryz.prog 171 #[.pointer (some ⟨Bs,0,none⟩)] (fun x:{y:Nat × Nat // y.2∈br}=>#[Value.int .i64 (x.1.1:Nat),Value.int .i64 (x.1.2:Nat)]) (QEF Bs ad) (fun ys=>ys.map Subtype.val=QCj br br.length) (fun pre=>∃ k,k≤br.length∧pre.map Subtype.val=QCj br k) br.length w:=fun l J Jx W hW _ _ hY h0=>by
 have hc':=(hW.cell (p:=⟨Bs,0,none⟩) hBs).trans hc;(exact QMK n hn l Bs ad cap br hbr J Jx hY W hc' (hI.move fun b hb _=>⟨hW.block b hb,trivial⟩) h0)
theorem QLH {W W':World} {S:Nat→Prop} (h:Kept (fun r=>¬ S r) W W') (hc:∀ r,S r→∃ cs T f,W.heap[r]? = some (.cells cs T f)):KeepsOthers W W' :=
 ⟨h.size,fun r o ho hn=>by
  by_cases hs:S r
  ·obtain⟨cs,T,f,e⟩:=hc r hs
   rw [e] at ho
   cases ho
   cases hn
  ·exact (h.block r (QAE ho) hs).trans ho⟩
structure PickSt (x:Fx) (w:World) (M:Nat→Prop) (wh br:List Nat) (wk:Nat) (op:Bool) (b0 b1 b2 b3 b4:Nat) (W:World) (n best:Nat) (found:Bool) (few:Nat):Prop where
 c0:W.heap[b0]? = some (.cells #[.pointer (some ⟨x.bf,0,none⟩)] 80 (0,0))
 c1:W.heap[b1]? = some (.cells #[.int .i64 (best:Nat)] 82 (0,0))
 c2:W.heap[b2]? = some (.cells #[.bool found] 4 (0,0))
 c3:W.heap[b3]? = some (.cells #[.int .i64 (few:Nat)] 3 (0,0))
 st:FinSt x W M wh br (wk+n) op
 kept:Kept (fun b=>¬ M b) w W
 few2:few≤2
 yes:found=true→best∈br∧wh.getD best 0=1∧QCP x.ps wh best=true
 b4:b4 < W.heap.size
theorem PickSt.own {x:Fx} {w:World} {M:Nat→Prop} {wh br:List Nat} {wk:Nat} {op:Bool} {b0 b1 b2 b3 b4:Nat} {W W':World} {n best:Nat} {found:Bool} {few B:Nat} {row:Option Nat} (h:PickSt x w M wh br wk op b0 b1 b2 b3 b4 W n best found few) (hg:W.grownBy W' row) (hr:∀ r,row=some r→B≤r∧∃ o:Obj,W.heap[r]? = some o∧o.isCells=false) (hB:∀ b,M b∨x.K b→b < B) (hw:w.heap.size≤B):PickSt x w M wh br wk op b0 b1 b2 b3 b4 W' n best found few:=by
 have cell:∀ {r:Nat} {cs:Array Value} {T:TypeId} {f:Nat × Nat},W.heap[r]? = some (.cells cs T f)→W'.heap[r]? = some (.cells cs T f):=fun {r cs T f} e=>(hg.block r (QAE e) fun e2=>by
  obtain⟨-,o,ho,hn⟩:=hr r e2.symm;rw [e] at ho
  cases ho
  cases hn).trans e
 have low:∀ r,r < W.heap.size→r < B→W'.heap[r]? = W.heap[r]? := fun r hl hb=>hg.block r hl fun e2=>by
  have:=(hr r e2.symm).1;omega
 (exact⟨cell h.c0,cell h.c1,cell h.c2,cell h.c3,h.st.next (fun b hl hk=>low b hl (hB b hk.symm)) hg.size,⟨hg.os.trans h.kept.os,hg.tape.trans h.kept.tape,hg.output.trans h.kept.output,Nat.le_trans h.kept.size hg.size,fun b hb hm=>(low b (Nat.lt_of_lt_of_le hb h.kept.size) (by omega)).trans (h.kept.block b hb hm)⟩,h.few2,h.yes,Nat.lt_of_lt_of_le h.b4 hg.size⟩)
attribute [local go_sem] Oper.semAt_some
theorem PickSt.after {x:Fx} {w:World} {M:Nat→Prop} {wh br:List Nat} {wk:Nat} {op:Bool} {b1 b2 b3 b4:Nat} {W W':World} {n best best':Nat} {found found':Bool} {few few':Nat} (h:PickSt x w M wh br wk op w.heap.size b1 b2 b3 b4 W n best found few) (hn:b1=w.heap.size+1∧b2=w.heap.size+2∧b3=w.heap.size+3∧b4=w.heap.size+4)
  (hk:Kept (fun r=>¬ (r=x.bf∨r=b1∨r=b2∨r=b3)) W W') (hst:FinSt x W' M wh br (wk+(n+1)) op) (c1:W'.heap[b1]? = some (.cells #[.int .i64 (best':Nat)] 82 (0,0))) (c2:W'.heap[b2]? = some (.cells #[.bool found'] 4 (0,0))) (c3:W'.heap[b3]? = some (.cells #[.int .i64 (few':Nat)] 3 (0,0))) (hf:few'≤2) (hy:found'=true→best'∈br∧wh.getD best' 0=1∧QCP x.ps wh best'=true) {ad:Option Addr} (had:∀ a,ad=some a→a.block < w.heap.size∧a.block≠x.bf) (hlo:x.bf < w.heap.size) :
  KeepsOthers W W'∧QEF b4 ad W W'∧PickSt x w M wh br wk op w.heap.size b1 b2 b3 b4 W' (n+1) best' found' few':=by
 obtain⟨adB,cB,hfin,-⟩:=h.st.fin;(refine⟨QLH hk fun r hr => ?_,⟨hk.block b4 h.b4 (by omega),fun a ha => ?_⟩,⟨(hk.block _ (QAE h.c0) (by omega)).trans h.c0,c1,c2,c3,hst,QAM h.kept hk fun b hb hM e => ?_,hf,hy,Nat.lt_of_lt_of_le h.b4 hk.size⟩⟩)
 ·rcases hr with rfl|rfl|rfl|rfl
  ·exact⟨_,_,_,hfin⟩
  ·exact⟨_,_,_,h.c1⟩
  ·exact⟨_,_,_,h.c2⟩
  ·exact⟨_,_,_,h.c3⟩
 ·obtain⟨h1,h2⟩:=had a ha
  have hb4:=h.b4;(exact hk.block _ (by omega) (by omega))
 ·rcases e with e|e|e|e
  ·exact hM (e ▸ h.st.mf)
  ·omega
  ·omega
  ·omega
theorem QBl {w:World} {D b:Nat} (o:Obj) (h:b≠D):(w.putObj D o).heap[b]? = w.heap[b]? := by
 simp [World.putObj,Ne.symm h]
theorem QEb (w:World) (D:Nat) (o:Obj):(w.putObj D o).heap.size=w.heap.size:=by
 simp [World.putObj]
set_option maxRecDepth 100000 in
set_option maxHeartbeats 8000000 in
theorem QMm {x:Fx} (hwl:QEv x) {w:World} {M:Nat→Prop} {wh br:List Nat} {wk:Nat} {op:Bool} (h:FinSt x w M wh br wk op) (hbr:br.length≤400000) (hlt:∀ i∈br,i < x.L) (hwk:wk≤100000000) :
  Calls Tryz.prog 97 #[.pointer (some ⟨x.bf,0,none⟩)] w fun e w'=>∃ (best:Nat) (found:Bool) (d:Nat),e = .returned (.tuple #[.int .i64 (best:Nat),.bool found])∧FinSt x w' M wh br (wk+d) op∧d≤br.length∧Kept (fun b=>¬ M b) w w' ∧
   (found=true→best∈br∧wh.getD best 0=1∧QCP x.ps wh best=true)∧(found=false→∀ i∈br,wh.getD i 0=1→QCP x.ps wh i=false):=by
 obtain⟨adB,cB,hfin,hob,hmb⟩:=h.fin;have HS:Hid (FinSt x w M wh br wk op):=h;have HWl:Hid (QEv x):=hwl;(have HIB:Hid (IRow (fun b=>M b∧b≠x.bf) w (.slice adB br.length cB) br):=QCt hob fun b e=>⟨(hmb b e).1,(hmb b e).2.1⟩);have HFi:Hid (w.heap[x.bf]? = some (.cells #[.pointer (some ⟨x.bt,0,none⟩),x.vW,.slice (some ⟨x.bw,0,none⟩) x.L x.L,.slice adB br.length cB,.int .i64 (wk:Nat),.bool op] 92 (0,0))):=hfin;obtain⟨q0,q1,q2,q3,q4,q5⟩:=QCW hfin;have zf:=QAE hfin
 have HAd0:Hid (∀ a,adB=some a→a.block < w.heap.size∧a.block≠x.bf):=fun a ha=>by
  subst ha
  rcases hob.2 with ⟨hv,-⟩|⟨g,cap',cur,hv,-,hh,-⟩
  ·simp at hv
  ·simp only [Value.slice.injEq,Option.some.injEq,true_and] at hv
   rw [hv.1];(exact⟨QAE hh,(hmb g (by rw [hv.1];rfl)).2.1⟩)
 (have zf1:x.bf < w.heap.size+1:=by omega);(have zf2:x.bf < w.heap.size+1+1:=by omega);(have zf3:x.bf < w.heap.size+1+1+1:=by omega);(have zf4:x.bf < w.heap.size+1+1+1+1:=by omega);clear h hfin hob hmb;refine (callsIn_wide (n:=4)).1 ?_;refine callsIn_of_wp_marks Tryz.func97 rfl trivial ?_ rfl;simp only [Tryz.ntmps97,List.size_toArray,List.length_cons,List.length_nil,Nat.reduceAdd,Nat.reduceSub,Array.replicate_succ,Array.replicate_zero,List.push_toArray,List.append_toArray,List.nil_append,List.cons_append]
 gi_wp2_with (refine⟨trivial,?_⟩;gi_at_call 138;refine (callsIn_wide.2 (QHm _ _ _ _)).mono ?_;rintro e w' ⟨rfl,rfl⟩)
 obtain⟨W0,hW0⟩:∃ W0,W0=(((((w.alloc (.cells #[.pointer (some ⟨x.bf,0,none⟩)] 80 (0,0))).alloc (.cells #[.int .i64 0] 82 (0,0))).alloc (.cells #[.bool false] 4 (0,0))).alloc (.cells #[.int .i64 0] 3 (0,0))).alloc (.cells #[.slice adB br.length cB] 78 (0,0))):=⟨_,rfl⟩;(have HB0:Hid (Below w.heap.size w W0):=by rw [hW0];exact QAB (QAB (QAB (QAB (QAB (Below.refl _ w) _) _) _) _) _);(have HZ0:Hid (W0.heap.size=w.heap.size+1+1+1+1+1):=by show _=_;rw [hW0];simp);(have HQ0:Hid (W0.heap[w.heap.size]? = some (.cells #[.pointer (some ⟨x.bf,0,none⟩)] 80 (0,0))):=by rw [hW0];exact QAG (QAG (QAG (QAG (QAH w _) _) _) _) _);(have HQ1:Hid (W0.heap[w.heap.size+1]? = some (.cells #[.int .i64 0] 82 (0,0))):=by rw [hW0];exact QAG (QAG (QAG (QAa w _ _) _) _) _)
 have HQ2:Hid (W0.heap[w.heap.size+1+1]? = some (.cells #[.bool false] 4 (0,0))):=by
  rw [hW0];(exact QAG (QAG (by have:=QAH ((w.alloc (.cells #[.pointer (some ⟨x.bf,0,none⟩)] 80 (0,0))).alloc (.cells #[.int .i64 0] 82 (0,0))) (.cells #[.bool false] 4 (0,0));rw [World.size_alloc,World.size_alloc] at this;exact this) _) _)
 have HQ3:Hid (W0.heap[w.heap.size+1+1+1]? = some (.cells #[.int .i64 0] 3 (0,0))):=by
  rw [hW0];(exact QAG (by have:=QAH (((w.alloc (.cells #[.pointer (some ⟨x.bf,0,none⟩)] 80 (0,0))).alloc (.cells #[.int .i64 0] 82 (0,0))).alloc (.cells #[.bool false] 4 (0,0))) (.cells #[.int .i64 0] 3 (0,0));rw [World.size_alloc,World.size_alloc,World.size_alloc] at this;exact this) _)
 have HQ4:Hid (W0.heap[w.heap.size+1+1+1+1]? = some (.cells #[.slice adB br.length cB] 78 (0,0))):=by
  rw [hW0];have:=QAH ((((w.alloc (.cells #[.pointer (some ⟨x.bf,0,none⟩)] 80 (0,0))).alloc (.cells #[.int .i64 0] 82 (0,0))).alloc (.cells #[.bool false] 4 (0,0))).alloc (.cells #[.int .i64 0] 3 (0,0))) (.cells #[.slice adB br.length cB] 78 (0,0));rw [World.size_alloc,World.size_alloc,World.size_alloc,World.size_alloc] at this;exact this
 rw [← hW0];have HBr:Hid (br.length≤400000):=hbr;have HLt:Hid (∀ i∈br,i < x.L):=hlt;have HWk:Hid (wk≤100000000):=hwk
 have HL:Hid ((x.L:Int)≤200000):=by
  have h1:=HS.out.l2;have h2:=HS.out.plen;show (x.L:Int)≤200000;omega
 have HLo:Hid (x.bf < w.heap.size):=zf;clear hW0 hbr hlt hwk hwl q0 q1 q2 q3 q4 q5 zf zf1 zf2 zf3 zf4;generalize hb4:w.heap.size+1+1+1+1=b4 at *;generalize hb3:w.heap.size+1+1+1=b3 at *;generalize hb2:w.heap.size+1+1=b2 at *;generalize hb1:w.heap.size+1=b1 at *;(have HNm:Hid (b1=w.heap.size+1∧b2=w.heap.size+2∧b3=w.heap.size+3∧b4=w.heap.size+4):=⟨by omega,by omega,by omega,by omega⟩);have HAd:Hid (∀ a,adB=some a→a.block < w.heap.size∧a.block≠x.bf):=HAd0;clear hb1 hb2 hb3 hb4
 refine wpIn_rangeFunc_ownG rfl (by omega) (gf:=171) (lb:=#[.pointer (some ⟨b4,0,none⟩)]) rfl trivial (enters_of Tryz.func171 (by kernel_rfl) rfl)
  (QIw _ (by omega) b4 adB cB br HBr.out W0 (QAE HQ4.out) (QAL HQ4.out 0) (HIB.out.move fun b hb _=>⟨HB0.out.block b hb,trivial⟩))
  (fun h1 h2=>⟨h2.1.trans h1.1,fun a ha=>(h2.2 a ha).trans (h1.2 a ha)⟩) ?hKb (Below.refl _ _) (fun _=>rfl)
  (fun (pre:List {y:Nat × Nat // y.2∈br}) W=>∃ (best:Nat) (found:Bool) (few:Nat),PickSt x w M wh br wk op w.heap.size b1 b2 b3 b4 W pre.length best found few∧(found=false→∀ y∈pre,wh.getD y.1.2 0=1→QCP x.ps wh y.1.2=false))
  (fun c (pre:List {y:Nat × Nat // y.2∈br}) W=>c = .exit 0∧∃ (best few:Nat),PickSt x w M wh br wk op w.heap.size b1 b2 b3 b4 W pre.length best true few)
  ?hI ?hIx ?h0 (fun (y:{y:Nat × Nat // y.2∈br})=>{ tmps:=#[.pointer (some ⟨x.bf,0,none⟩),.pointer (some ⟨w.heap.size,0,none⟩),.pointer (some ⟨b1,0,none⟩),.pointer (some ⟨b2,0,none⟩),.pointer (some ⟨b3,0,none⟩),undef,.int .i64 (y.1.2:Nat),undef,.pointer (some ⟨x.bf,0,none⟩),.pointer (some ⟨x.bf,0,none⟩),.pointer (some ⟨x.bf,3,none⟩),.slice adB br.length cB,.func (.func 171) #[] #[.pointer (some ⟨b4,0,none⟩)],.int .i64 (y.1.1:Nat),.int .i64 (y.1.2:Nat),undef,undef,undef,undef,undef,undef,undef,undef,undef,undef,undef,undef,undef,undef,undef,undef,undef,undef,undef,undef,undef,undef,undef,undef,undef,undef,undef,undef,undef,undef,undef,undef,undef,undef,undef,undef,undef],defers:=[] }) ?assign ?body ?done ?stop
 case hKb =>
  intro W l o o' hl hW ho hw;have h4:=HZ0.out;have h5:=HNm.out;(refine⟨?_,fun a ha => ?_⟩)
  ·simp [World.putObj,Array.getElem?_setIfInBounds]
   omega
  ·have:=HAd.out a ha
   simp [World.putObj,Array.getElem?_setIfInBounds];omega
 case hI =>
  intro pre A B row hs hg hr;obtain⟨best,found,few,h1,h2⟩:=hs
  exact⟨best,found,few,h1.own hg hr (fun b hb=>by
   have h3:=HB0.out.size
   rcases hb with hb|hb
   ·have:=HS.out.old b hb
    omega
   ·have:=(HS.out.km b hb).2
    omega) HB0.out.size,h2⟩
 case hIx =>
  intro c pre A B row hs hg hr;obtain⟨hc,best,few,h1⟩:=hs
  exact⟨hc,best,few,h1.own hg hr (fun b hb=>by
   have h3:=HB0.out.size
   rcases hb with hb|hb
   ·have:=HS.out.old b hb
    omega
   ·have:=(HS.out.km b hb).2
    omega) HB0.out.size⟩
 case h0=>exact⟨0,false,0,⟨HQ0.out,HQ1.out,HQ2.out,HQ3.out,HS.out.up HB0.out,QAN HB0.out fun b h _=>h,by omega,(fun h=>by cases h),QAE HQ4.out⟩,fun _ y hy=>by cases hy⟩
 case assign =>
  intro l y W K hK
  gi_wp2
  exact hK
 case body =>
  rintro l pre ⟨⟨j,t⟩,hty⟩ W ⟨best,found,few,hps,hno⟩ hlen;simp only at hty ⊢;have HP:Hid (PickSt x w M wh br wk op w.heap.size b1 b2 b3 b4 W pre.length best found few):=hps;have HNo:Hid (found=false→∀ y∈pre,wh.getD y.1.2 0=1→QCP x.ps wh y.1.2=false):=hno;have htL:=HLt.out t hty;have HTy:Hid (t∈br):=hty;obtain⟨adF,cF,hfin,hob,hmb⟩:=hps.st.fin;obtain⟨q0,q1,q2,q3,q4,q5⟩:=QCW hfin;have q6:=QAh hfin 4;obtain⟨w0,-⟩:=hps.st.wcell htL;have k0:W.cell? ⟨w.heap.size,0,none⟩=some (.pointer (some ⟨x.bf,0,none⟩)):=QAL hps.c0 0;obtain⟨m,hm⟩:∃ m:Nat,m=wk+pre.length:=⟨_,rfl⟩;have HM:Hid (m=wk+pre.length):=hm;rw [← hm] at q4
  have hmI:(m:Int)≤100400000:=by
   have h1:=HWk.out;have h2:=HBr.out;omega
  (have htI:(t:Int) < (x.L:Int):=by omega);have hLI:=HL.out;have HN0:=HNm.out;have HLow:=HLo.out;(have nbf:¬ w.heap.size=x.bf:=by omega);(have nbf':¬ x.bf=w.heap.size:=by omega);(have nbw:¬ x.bw=x.bf:=fun e=>HS.out.ne e.symm);have nbw':¬ x.bf=x.bw:=HS.out.ne;(have HLen:Hid ((pre++[(⟨(j,t),hty⟩:{y:Nat × Nat // y.2∈br})]).length=pre.length+1):=by show _=_;simp)
  have HMemb:Hid (∀ y∈pre++[(⟨(j,t),hty⟩:{y:Nat × Nat // y.2∈br})],y∈pre∨y.1.2=t):=fun y hy=>by
   rcases List.mem_append.1 hy with h|h
   ·exact Or.inl h
   ·rw [List.mem_singleton.1 h];exact Or.inr rfl
  have HWt:Hid (wh.getD t 0=wh.getD t 0):=rfl;generalize hu:wh.getD t 0=u at w0;have HU:Hid (wh.getD t 0=u):=hu;have HS1:Hid (FinSt x (W.setCell ⟨x.bf,4,none⟩ (.int .i64 ((m:Int)+1))) M wh br (m+1) op):=(hm ▸ hps.st).work (m+1);clear hps hno hfin hob hmb hlen hm hu HWt HN0;generalize (pre++[(⟨(j,t),hty⟩:{y:Nat × Nat // y.2∈br})])=pre' at *;clear hty;(have HK1:Hid (Kept (fun r=>¬ (r=x.bf∨r=b1∨r=b2∨r=b3)) W (W.setCell ⟨x.bf,4,none⟩ (.int .i64 ((m:Int)+1)))):=QAf fun c hc e=>hc (Or.inl e))
  have HB1:Hid (b1≠x.bf∧b2≠x.bf∧b3≠x.bf):=by
   have h1:=HNm.out;(exact⟨by omega,by omega,by omega⟩)
  by_cases hu1:u=1
  ·subst hu1
   (have HT:Hid (∀ W',Below (W.setCell ⟨x.bf,4,none⟩ (.int .i64 ((m:Int)+1))).heap.size (W.setCell ⟨x.bf,4,none⟩ (.int .i64 ((m:Int)+1))) W'→Calls Tryz.prog 139 #[.pointer (some ⟨x.bf,0,none⟩),.int .i64 (t:Nat)] W' _):=fun W' hb=>QNA HWl.out (HS1.out.up hb) t htL);have HTv:Hid (QCP x.ps wh t=QCP x.ps wh t):=rfl;generalize htb:QCP x.ps wh t=tb at HT;have HTb:Hid (QCP x.ps wh t=tb):=htb;clear htb HTv
   cases tb
   ·gi_wp2_with (refine⟨trivial,?_⟩;gi_at_call 139;refine (CallsIn.inRound l (callsIn_wide.2 (HT.out _ (Below.refl _ _)))).mono ?_;rintro e w2 ⟨rfl,hb2⟩)
    (have HK2:Hid (Kept (fun r=>¬ (r=x.bf∨r=b1∨r=b2∨r=b3)) W w2):=QAM HK1.out (QAN hb2 fun _ h _=>h) fun _ _ h=>h);have HS2:Hid (FinSt x w2 M wh br (m+1) op):=HS1.out.up hb2;(have hc1:=(hb2.block b1 (by rw [QAO];exact QAE HP.out.c1)).trans ((QAJ _ HB1.out.1).trans HP.out.c1));(have hc2:=(hb2.block b2 (by rw [QAO];exact QAE HP.out.c2)).trans ((QAJ _ HB1.out.2.1).trans HP.out.c2));(have hc3:=(hb2.block b3 (by rw [QAO];exact QAE HP.out.c3)).trans ((QAJ _ HB1.out.2.2).trans HP.out.c3));(obtain⟨r1,r2,r3⟩:=HP.out.after (best':=best) (found':=found) (few':=few) HNm.out HK2.out (by rw [← Nat.add_assoc,← HM.out];exact HS2.out) hc1 hc2 hc3 HP.out.few2 HP.out.yes HAd.out HLo.out);(refine⟨r1.from _,r2,best,found,few,by rw [HLen.out];exact r3,fun hf y hy h1 => ?_⟩)
    rcases HMemb.out y hy with h2|h2
    ·exact HNo.out hf y h2 h1
    ·rw [h2]
     exact HTb.out
   ·have HO:Hid (∀ W',Below (W.setCell ⟨x.bf,4,none⟩ (.int .i64 ((m:Int)+1))).heap.size (W.setCell ⟨x.bf,4,none⟩ (.int .i64 ((m:Int)+1))) W'→Calls Tryz.prog 140 #[.pointer (some ⟨x.bf,0,none⟩),.int .i64 (t:Nat)] W' _):=fun W' hb=>QLS HWl.out (HS1.out.up hb) t htL
    have HYs:Hid (t∈br∧wh.getD t 0=1∧QCP x.ps wh t=true):=⟨HTy.out,HU.out,HTb.out⟩
    gi_wp2_with (refine⟨trivial,?_⟩;gi_at_call 139;refine (CallsIn.inRound l (callsIn_wide.2 (HT.out _ (Below.refl _ _)))).mono ?_;rintro e w2 ⟨rfl,hb2⟩;have HB2:Hid (Below (W.setCell ⟨x.bf,4,none⟩ (.int .i64 ((m:Int)+1))).heap.size (W.setCell ⟨x.bf,4,none⟩ (.int .i64 ((m:Int)+1))) w2):=hb2;clear hb2;have k2:w2.cell? ⟨w.heap.size,0,none⟩=some (.pointer (some ⟨x.bf,0,none⟩)):=QAL ((HB2.out.block w.heap.size (by rw [QAO];exact QAE HP.out.c0)).trans ((QAJ _ nbf).trans HP.out.c0)) 0)
    refine⟨trivial,?_⟩
    gi_at_call 140
    refine (CallsIn.inRound l (callsIn_wide.2 (HO.out _ HB2.out))).mono ?_;rintro e w3 ⟨c,rfl,hc,hb3⟩;have HB3:Hid (Below (W.setCell ⟨x.bf,4,none⟩ (.int .i64 ((m:Int)+1))).heap.size (W.setCell ⟨x.bf,4,none⟩ (.int .i64 ((m:Int)+1))) w3):=QAC HB2.out hb3;have HC2:Hid (c≤2):=hc;(have hcI:(c:Int)≤2:=by omega);(have HC1:Hid (w3.heap[b1]? = some (.cells #[.int .i64 (best:Nat)] 82 (0,0))):=(HB3.out.block b1 (by rw [QAO];exact QAE HP.out.c1)).trans ((QAJ _ HB1.out.1).trans HP.out.c1));(have HC22:Hid (w3.heap[b2]? = some (.cells #[.bool found] 4 (0,0))):=(HB3.out.block b2 (by rw [QAO];exact QAE HP.out.c2)).trans ((QAJ _ HB1.out.2.1).trans HP.out.c2));(have HC3:Hid (w3.heap[b3]? = some (.cells #[.int .i64 (few:Nat)] 3 (0,0))):=(HB3.out.block b3 (by rw [QAO];exact QAE HP.out.c3)).trans ((QAJ _ HB1.out.2.2).trans HP.out.c3));have m1:w3.cell? ⟨b1,0,none⟩=some (.int .i64 (best:Nat)):=QAL HC1.out 0;have m2:w3.cell? ⟨b2,0,none⟩=some (.bool found):=QAL HC22.out 0;have m3:w3.cell? ⟨b3,0,none⟩=some (.int .i64 (few:Nat)):=QAL HC3.out 0;have f1:=QAh HC1.out 0;have f2:=QAh HC22.out 0;have f3:=QAh HC3.out 0;(have n12:¬ b1=b2:=by have:=HNm.out;omega);(have n21:¬ b2=b1:=by have:=HNm.out;omega);(have n13:¬ b1=b3:=by have:=HNm.out;omega);(have n31:¬ b3=b1:=by have:=HNm.out;omega);(have n23:¬ b2=b3:=by have:=HNm.out;omega);(have n32:¬ b3=b2:=by have:=HNm.out;omega);(have HK3:Hid (Kept (fun r=>¬ (r=x.bf∨r=b1∨r=b2∨r=b3)) W w3):=QAM HK1.out (QAN HB3.out fun _ h _=>h) fun _ _ h=>h);have HS3:Hid (FinSt x w3 M wh br (m+1) op):=HS1.out.up HB3.out
    have HMn:Hid (∀ b,x.K b∨M b→b≠b1∧b≠b2∧b≠b3):=fun b hb=>by
     have h1:=HNm.out
     rcases hb with hb|hb
     ·have:=(HS.out.km b hb).2
      omega
     ·have:=HS.out.old b hb
      omega
    clear hb3 hc k0 k2 q0 q1 q2 q3 q4 q5 q6 w0 HT HO
    -- the item becomes the best one
    have HNew:Hid (∀ W',W'=((w3.setCell ⟨b1,0,none⟩ (.int .i64 (t:Nat))).setCell ⟨b3,0,none⟩ (.int .i64 (c:Nat))).setCell ⟨b2,0,none⟩ (.bool true)→KeepsOthers W W'∧QEF b4 adB W W'∧PickSt x w M wh br wk op w.heap.size b1 b2 b3 b4 W' pre'.length t true c):=fun W' e=>by
     subst e;rw [HLen.out];(refine HP.out.after (best':=t) (found':=true) (few':=c) HNm.out ?_ ?_ ?_ ?_ ?_ HC2.out (fun _=>HYs.out) HAd.out HLo.out)
     ·exact QAM (QAM (QAM HK3.out (QAf (ok:=fun r=>¬ (r=x.bf∨r=b1∨r=b2∨r=b3)) fun r hr e=>hr (Or.inr (Or.inl e))) fun _ _ h=>h) (QAf (ok:=fun r=>¬ (r=x.bf∨r=b1∨r=b2∨r=b3)) fun r hr e=>hr (Or.inr (Or.inr (Or.inr e)))) fun _ _ h=>h) (QAf (ok:=fun r=>¬ (r=x.bf∨r=b1∨r=b2∨r=b3)) fun r hr e=>hr (Or.inr (Or.inr (Or.inl e)))) fun _ _ h=>h
     ·rw [← Nat.add_assoc,← HM.out]
      exact HS3.out.next (fun b _ hb=>by
       obtain⟨e1,e2,e3⟩:=HMn.out b hb
       rw [QAJ _ e2,QAJ _ e3,QAJ _ e1]) (by rw [QAO,QAO,QAO];exact Nat.le_refl _)
     ·rw [QAJ _ n12,QAJ _ n13,QAS HC1.out];rfl
     ·rw [QAS ((QAJ _ n23).trans ((QAJ _ n21).trans HC22.out))];rfl
     ·rw [QAJ _ n32,QAS ((QAJ _ n31).trans HC3.out)];rfl
    have HOld:Hid (KeepsOthers W w3∧QEF b4 adB W w3∧PickSt x w M wh br wk op w.heap.size b1 b2 b3 b4 w3 pre'.length best found few):=by
     rw [HLen.out];(exact HP.out.after (best':=best) (found':=found) (few':=few) HNm.out HK3.out (by rw [← Nat.add_assoc,← HM.out];exact HS3.out) HC1.out HC22.out HC3.out HP.out.few2 HP.out.yes HAd.out HLo.out)
    have HCs:found=false∨(found=true∧c < few)∨(found=true∧¬ c < few):=by
     cases found
     ·exact Or.inl rfl
     ·rcases Classical.em (c < few) with h|h
      ·exact Or.inr (Or.inl ⟨rfl,h⟩)
      ·exact Or.inr (Or.inr ⟨rfl,h⟩)
    rcases HCs with rfl|⟨rfl,hcf⟩|⟨rfl,hcf⟩
    ·rcases Nat.lt_or_ge 1 c with hc1|hc1
     ·have hc1I:¬ (c:Int)≤1:=by omega
      gi_wp2
      obtain⟨r1,r2,r3⟩:=HNew.out _ rfl;(exact⟨r1.from _,r2,t,true,c,r3,fun h=>by cases h⟩)
     ·have hc1I:(c:Int)≤1:=by omega
      gi_wp2
      obtain⟨r1,r2,r3⟩:=HNew.out _ rfl;exact⟨r1.from _,rfl,t,c,r3⟩
    ·have hcfI:(c:Int) < (few:Int):=by omega
     rcases Nat.lt_or_ge 1 c with hc1|hc1
     ·have hc1I:¬ (c:Int)≤1:=by omega
      gi_wp2
      obtain⟨r1,r2,r3⟩:=HNew.out _ rfl;(exact⟨r1.from _,r2,t,true,c,r3,fun h=>by cases h⟩)
     ·have hc1I:(c:Int)≤1:=by omega
      gi_wp2
      obtain⟨r1,r2,r3⟩:=HNew.out _ rfl;exact⟨r1.from _,rfl,t,c,r3⟩
    ·have hcfI:¬ (c:Int) < (few:Int):=by omega
     obtain⟨r1,r2,r3⟩:=HOld.out;have R1:Hid (KeepsOthers W w3):=r1;have R2:Hid (QEF b4 adB W w3):=r2;have R3:Hid (PickSt x w M wh br wk op w.heap.size b1 b2 b3 b4 w3 pre'.length best true few):=r3;clear r1 r2 r3
     rcases Nat.lt_or_ge 1 few with hc1|hc1
     ·have hc1I:¬ (few:Int)≤1:=by omega
      gi_wp2
      (exact⟨R1.out.from _,R2.out,best,true,few,R3.out,fun h=>by cases h⟩)
     ·have hc1I:(few:Int)≤1:=by omega
      gi_wp2
      exact⟨R1.out.from _,rfl,best,few,R3.out⟩
  ·have hu1I:¬ (u:Int)=1:=by omega
   gi_wp2
   refine⟨trivial,?_⟩
   gi_wp2
   (obtain⟨r1,r2,r3⟩:=HP.out.after (best':=best) (found':=found) (few':=few) HNm.out HK1.out (by rw [← Nat.add_assoc,← HM.out];exact HS1.out) ((QAJ _ HB1.out.1).trans HP.out.c1) ((QAJ _ HB1.out.2.1).trans HP.out.c2) ((QAJ _ HB1.out.2.2).trans HP.out.c3) HP.out.few2 HP.out.yes HAd.out HLo.out);(refine⟨r1.from _,r2,best,found,few,by rw [HLen.out];exact r3,fun hf y hy h1 => ?_⟩)
   rcases HMemb.out y hy with h2|h2
   ·exact HNo.out hf y h2 h1
   ·rw [h2,HU.out] at h1
    exact absurd h1 hu1
 case done =>
  rintro D ys W hD hS ⟨best,found,few,hps,hno⟩ hK;obtain⟨c0,c1,c2,c3,hst,hke,-,hyes,-⟩:=hps;have m1:W.cell? ⟨b1,0,none⟩=some (.int .i64 (best:Nat)):=QAL c1 0;have m2:W.cell? ⟨b2,0,none⟩=some (.bool found):=QAL c2 0;have f1:=QAh c1 0;have f2:=QAh c2 0;(have n12:¬ b1=b2:=by have:=HNm.out;omega);(have n21:¬ b2=b1:=by have:=HNm.out;omega)
  gi_wp2
  gi_region
  all_goals gi_wp2
  (have hD0:w.heap.size+5≤D:=by have h1:=HZ0.out;have h2:=HNm.out;omega);(have nD1:D≠b1:=by have:=HNm.out;omega);(have nD2:D≠b2:=by have:=HNm.out;omega);have hK':((W.setCell ⟨b1,0,none⟩ (.int .i64 (best:Nat))).setCell ⟨b2,0,none⟩ (.bool found)).drew.heap[D]? = some (.deferred (some [])):=(QAJ _ nD2).trans ((QAJ _ nD1).trans hK);(refine⟨by simp,.inl ⟨_,_,rfl,run_takeDeferred hK',?_⟩⟩)
  have e1:(((W.setCell ⟨b1,0,none⟩ (.int .i64 (best:Nat))).setCell ⟨b2,0,none⟩ (.bool found)).drew.putObj D (.deferred none)).heap[b1]? = some (.cells #[.int .i64 (best:Nat)] 82 (0,0)):=by
   rw [QBl _ nD1.symm];show ((W.setCell ⟨b1,0,none⟩ (.int .i64 (best:Nat))).setCell ⟨b2,0,none⟩ (.bool found)).heap[b1]? = _;rw [QAJ _ n12,QAS c1];rfl
  have e2:(((W.setCell ⟨b1,0,none⟩ (.int .i64 (best:Nat))).setCell ⟨b2,0,none⟩ (.bool found)).drew.putObj D (.deferred none)).heap[b2]? = some (.cells #[.bool found] 4 (0,0)):=by
   rw [QBl _ nD2.symm];show ((W.setCell ⟨b1,0,none⟩ (.int .i64 (best:Nat))).setCell ⟨b2,0,none⟩ (.bool found)).heap[b2]? = _;rw [QAS ((QAJ _ n21).trans c2)];rfl
  have eo:∀ b,b≠b1→b≠b2→b≠D→(((W.setCell ⟨b1,0,none⟩ (.int .i64 (best:Nat))).setCell ⟨b2,0,none⟩ (.bool found)).drew.putObj D (.deferred none)).heap[b]? = W.heap[b]? := fun b h1 h2 h3=>by
   rw [QBl _ h3];show ((W.setCell ⟨b1,0,none⟩ (.int .i64 (best:Nat))).setCell ⟨b2,0,none⟩ (.bool found)).heap[b]? = _;rw [QAJ _ h2,QAJ _ h1]
  have es:(((W.setCell ⟨b1,0,none⟩ (.int .i64 (best:Nat))).setCell ⟨b2,0,none⟩ (.bool found)).drew.putObj D (.deferred none)).heap.size=W.heap.size:=by
   rw [QEb];show ((W.setCell ⟨b1,0,none⟩ (.int .i64 (best:Nat))).setCell ⟨b2,0,none⟩ (.bool found)).heap.size=_;rw [QAO,QAO]
  (have eK:Kept (fun b=>¬ M b) w (((W.setCell ⟨b1,0,none⟩ (.int .i64 (best:Nat))).setCell ⟨b2,0,none⟩ (.bool found)).drew.putObj D (.deferred none)):=⟨hke.os,hke.tape,hke.output,by rw [es];exact hke.size,fun b hb hm=>(eo b (by have:=HNm.out;omega) (by have:=HNm.out;omega) (by omega)).trans (hke.block b hb hm)⟩)
  have eS:FinSt x (((W.setCell ⟨b1,0,none⟩ (.int .i64 (best:Nat))).setCell ⟨b2,0,none⟩ (.bool found)).drew.putObj D (.deferred none)) M wh br (wk+ys.length) op:=hst.next (fun b _ hb=>by
   have hlow:b < w.heap.size:=by
    rcases hb with hb|hb
    ·exact (HS.out.km b hb).2
    ·exact HS.out.old b hb
   exact eo b (by have:=HNm.out;omega) (by have:=HNm.out;omega) (by omega)) (by rw [es];exact Nat.le_refl _)
  generalize ((W.setCell ⟨b1,0,none⟩ (.int .i64 (best:Nat))).setCell ⟨b2,0,none⟩ (.bool found)).drew.putObj D (.deferred none)=Wf at *;have m1':=QAL e1 0;have m2':=QAL e2 0;simp only [List.getElem?_toArray,List.getElem?_cons_zero] at m1' m2';(refine⟨.tuple #[.int .i64 (best:Nat),.bool found],by simp [results,Tryz.results97,go_sem,m1',m2'],best,found,ys.length,rfl,eS,?_,eK,hyes,?_⟩)
  ·have:=congrArg List.length hS
   rw [List.length_map,QEG] at this;omega
  ·intro hf i hi h1
   obtain⟨y,hy,rfl⟩:=QIv hi;rw [← hS] at hy;obtain⟨z,hz,rfl⟩:=List.mem_map.1 hy;exact hno hf z hz h1
 case stop =>
  rintro D c pre W hD hSp ⟨rfl,best,few,hps⟩ hK;obtain⟨c0,c1,c2,c3,hst,hke,-,hyes,-⟩:=hps;have m1:W.cell? ⟨b1,0,none⟩=some (.int .i64 (best:Nat)):=QAL c1 0;have m2:W.cell? ⟨b2,0,none⟩=some (.bool true):=QAL c2 0;have f1:=QAh c1 0;have f2:=QAh c2 0;(have n12:¬ b1=b2:=by have:=HNm.out;omega);(have n21:¬ b2=b1:=by have:=HNm.out;omega)
  gi_wp2
  gi_region
  all_goals gi_wp2
  (have hD0:w.heap.size+5≤D:=by have h1:=HZ0.out;have h2:=HNm.out;omega);(have nD1:D≠b1:=by have:=HNm.out;omega);(have nD2:D≠b2:=by have:=HNm.out;omega);have hK':((W.setCell ⟨b1,0,none⟩ (.int .i64 (best:Nat))).setCell ⟨b2,0,none⟩ (.bool true)).drew.heap[D]? = some (.deferred (some [])):=(QAJ _ nD2).trans ((QAJ _ nD1).trans hK);(refine⟨by simp,.inl ⟨_,_,rfl,run_takeDeferred hK',?_⟩⟩)
  have e1:(((W.setCell ⟨b1,0,none⟩ (.int .i64 (best:Nat))).setCell ⟨b2,0,none⟩ (.bool true)).drew.putObj D (.deferred none)).heap[b1]? = some (.cells #[.int .i64 (best:Nat)] 82 (0,0)):=by
   rw [QBl _ nD1.symm];show ((W.setCell ⟨b1,0,none⟩ (.int .i64 (best:Nat))).setCell ⟨b2,0,none⟩ (.bool true)).heap[b1]? = _;rw [QAJ _ n12,QAS c1];rfl
  have e2:(((W.setCell ⟨b1,0,none⟩ (.int .i64 (best:Nat))).setCell ⟨b2,0,none⟩ (.bool true)).drew.putObj D (.deferred none)).heap[b2]? = some (.cells #[.bool true] 4 (0,0)):=by
   rw [QBl _ nD2.symm];show ((W.setCell ⟨b1,0,none⟩ (.int .i64 (best:Nat))).setCell ⟨b2,0,none⟩ (.bool true)).heap[b2]? = _;rw [QAS ((QAJ _ n21).trans c2)];rfl
  have eo:∀ b,b≠b1→b≠b2→b≠D→(((W.setCell ⟨b1,0,none⟩ (.int .i64 (best:Nat))).setCell ⟨b2,0,none⟩ (.bool true)).drew.putObj D (.deferred none)).heap[b]? = W.heap[b]? := fun b h1 h2 h3=>by
   rw [QBl _ h3];show ((W.setCell ⟨b1,0,none⟩ (.int .i64 (best:Nat))).setCell ⟨b2,0,none⟩ (.bool true)).heap[b]? = _;rw [QAJ _ h2,QAJ _ h1]
  have es:(((W.setCell ⟨b1,0,none⟩ (.int .i64 (best:Nat))).setCell ⟨b2,0,none⟩ (.bool true)).drew.putObj D (.deferred none)).heap.size=W.heap.size:=by
   rw [QEb];show ((W.setCell ⟨b1,0,none⟩ (.int .i64 (best:Nat))).setCell ⟨b2,0,none⟩ (.bool true)).heap.size=_;rw [QAO,QAO]
  (have eK:Kept (fun b=>¬ M b) w (((W.setCell ⟨b1,0,none⟩ (.int .i64 (best:Nat))).setCell ⟨b2,0,none⟩ (.bool true)).drew.putObj D (.deferred none)):=⟨hke.os,hke.tape,hke.output,by rw [es];exact hke.size,fun b hb hm=>(eo b (by have:=HNm.out;omega) (by have:=HNm.out;omega) (by omega)).trans (hke.block b hb hm)⟩)
  have eS:FinSt x (((W.setCell ⟨b1,0,none⟩ (.int .i64 (best:Nat))).setCell ⟨b2,0,none⟩ (.bool true)).drew.putObj D (.deferred none)) M wh br (wk+pre.length) op:=hst.next (fun b _ hb=>by
   have hlow:b < w.heap.size:=by
    rcases hb with hb|hb
    ·exact (HS.out.km b hb).2
    ·exact HS.out.old b hb
   exact eo b (by have:=HNm.out;omega) (by have:=HNm.out;omega) (by omega)) (by rw [es];exact Nat.le_refl _)
  generalize ((W.setCell ⟨b1,0,none⟩ (.int .i64 (best:Nat))).setCell ⟨b2,0,none⟩ (.bool true)).drew.putObj D (.deferred none)=Wf at *;have m1':=QAL e1 0;have m2':=QAL e2 0;simp only [List.getElem?_toArray,List.getElem?_cons_zero] at m1' m2';(refine⟨.tuple #[.int .i64 (best:Nat),.bool true],by simp [results,Tryz.results97,go_sem,m1',m2'],best,true,pre.length,rfl,eS,?_,eK,(fun _=>hyes (by first|rfl|trivial)),(fun h=>by cases h)⟩);obtain⟨k,hk,he⟩:=hSp;have:=congrArg List.length he;rw [List.length_map,QEG] at this;omega
end Go.Proofs.YtbmedfokpgghiacGreat
