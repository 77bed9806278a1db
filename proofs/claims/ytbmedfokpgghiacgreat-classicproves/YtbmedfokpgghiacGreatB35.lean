import Derived.Test.YtbmedfokpgghiacGreatB29
import Derived.Test.YtbmedfokpgghiacGreatB18
import Derived.Test.YtbmedfokpgghiacGreatB07
import Derived.Deep.OwnRows
import Derived.Laws.OwnMore
namespace Go.Proofs.YtbmedfokpgghiacGreat
open Go.RowKit Go.Sort
theorem QNX:∃ i,Tryz.prog.info? 210=some i∧i.zero=some (.agg #[.string ⟨#[]⟩,.slice none 0 0])∧i.size=2∧i.bytes=40:=by
 (obtain⟨i,hi,h⟩:=Option.map_eq_some_iff.1 (show (Tryz.prog.info? 210).map (fun i=>(i.zero,i.size,i.bytes))=some (some (.agg #[.string ⟨#[]⟩,.slice none 0 0]),2,40) by kernel_rfl));simp only [Prod.mk.injEq] at h;exact⟨i,hi,h.1,h.2.1,h.2.2⟩
def WQ (P:Nat→Prop) (w:World) (cs:List Value) (ps:List PartM) (n:Nat):Prop:=cs.length=n * 2∧∀ i,i < n→∃ s u,cs[i * 2]? = some (.string s)∧cs[i * 2+1]? = some u∧s.data.toList=(QAP ps i).1∧PRows P w u (QAP ps i).2
theorem WQ.move {P P':Nat→Prop} {w w':World} {cs:List Value} {ps:List PartM} {n:Nat} (h:WQ P w cs ps n) (hb:∀ b,b < w.heap.size→P b→w'.heap[b]? = w.heap[b]? ∧ P' b):WQ P' w' cs ps n:=⟨h.1,fun i hi=>by
 obtain⟨s,u,h1,h2,h3,h4⟩:=h.2 i hi
 exact⟨s,u,h1,h2,h3,h4.move hb⟩⟩
theorem WQ.two {P:Nat→Prop} {w:World} {cs:List Value} {ps:List PartM} {n:Nat} {s0 s1:ByteArray} {u0 u1:Value} (h:WQ P w cs ps n) (h0:s0.data.toList=(QAP ps n).1) (g0:PRows P w u0 (QAP ps n).2) (h1:s1.data.toList=(QAP ps (n+1)).1) (g1:PRows P w u1 (QAP ps (n+1)).2):WQ P w (cs++[.string s0,u0,.string s1,u1]) ps (n+2):=by
 (refine⟨by simp [h.1];omega,fun i hi => ?_⟩)
 rcases Nat.lt_or_ge i n with hlt|hge
 ·obtain⟨s,u,e1,e2,e3,e4⟩:=h.2 i hlt
  (exact⟨s,u,by rw [List.getElem?_append_left (by rw [h.1];omega)];exact e1,by rw [List.getElem?_append_left (by rw [h.1];omega)];exact e2,e3,e4⟩)
 ·rcases Nat.lt_or_ge i (n+1) with h2|h2
  ·have e:i=n:=by omega
   subst e;refine⟨s0,u0,?_,?_,h0,g0⟩
   ·rw [List.getElem?_append_right (by rw [h.1];omega),h.1,Nat.sub_self];rfl
   ·rw [List.getElem?_append_right (by rw [h.1];omega),h.1,Nat.add_sub_cancel_left];rfl
  ·have e:i=n+1:=by omega
   subst e;refine⟨s1,u1,?_,?_,h1,g1⟩
   ·rw [List.getElem?_append_right (by rw [h.1];omega),h.1,show (n+1) * 2 - n * 2=2 by omega];rfl
   ·rw [List.getElem?_append_right (by rw [h.1];omega),h.1,show (n+1) * 2+1 - n * 2=3 by omega];rfl
theorem QGT (n:Nat):2 * n / 2=n∧(2 * n+1) / 2=n:=by omega
theorem QLs {ps:List PartM} {n:Nat} {p:PartM} (hp:ps[n]? = some p):QAP ps (2 * n)=QBf p.kind p.k0 p.k1∧QAP ps (2 * n+1)=QBg p.kind p.k0 p.k1:=by
 unfold QAP;rw [(QGT n).1,(QGT n).2,hp];simp only [(QAp n).1,(QAp n).2];exact⟨rfl,rfl⟩
def QOQ (S:Nat) (wy:List UInt8 × List (List Nat)):QCV:=fun v w _=>∃ s a n c,v = .agg #[.string s,.slice a n c]∧s.data.toList=wy.1∧PRows (fun b=>S≤b) w (.slice a n c) wy.2
theorem QJq (S:Nat) (wy:List UInt8 × List (List Nat)):QCF (QOQ S wy):=fun _ _ _ _ _ ⟨s,a,n,c,h1,h2,h3⟩ hb _=>⟨s,a,n,c,h1,h2,h3.move fun b hl hp=>⟨hb.block b hl,hp⟩⟩
def QOh (S:Nat) (wl wr:List UInt8 × List (List Nat)):QCV:=fun v w _=>∃ g sL aL nL cL sR aR nR cR,v = .slice (some ⟨g,0,none⟩) 2 2∧w.heap[g]? = some (.cells #[.string sL,.slice aL nL cL,.string sR,.slice aR nR cR] 210 (0,0))∧S≤g∧sL.data.toList=wl.1∧PRows (fun b=>S≤b∧b≠g) w (.slice aL nL cL) wl.2∧sR.data.toList=wr.1∧PRows (fun b=>S≤b∧b≠g) w (.slice aR nR cR) wr.2
theorem QJp (S:Nat) (wl wr:List UInt8 × List (List Nat)):QCF (QOh S wl wr):=fun _ _ _ _ _ ⟨g,sL,aL,nL,cL,sR,aR,nR,cR,h1,h2,h3,h4,h5,h6,h7⟩ hb _=>⟨g,sL,aL,nL,cL,sR,aR,nR,cR,h1,QAA hb h2,h3,h4,h5.move fun b hl hp=>⟨hb.block b hl,hp⟩,h6,h7.move fun b hl hp=>⟨hb.block b hl,hp⟩⟩
def QNu (S:Nat) (ps:List PartM) (m k:Nat):QCV:=fun v w _=>∃ g cap cs,v = .slice (some ⟨g,0,none⟩) (m+2) cap∧w.ownsRow S 210 2 (.slice (some ⟨g,0,none⟩) (m+2) cap) (m+2) cs∧WQ (fun b=>S≤b∧(Value.slice (some ⟨g,0,none⟩) (m+2) cap).ownBlock≠some b) w cs ps k
theorem QIm (S:Nat) (ps:List PartM) (m k:Nat):QCF (QNu S ps m k):=fun _ _ _ _ _ ⟨g,cap,cs,h1,h2,h3⟩ hb _=>⟨g,cap,cs,h1,QAz h2 hb,h3.move fun b hl hp=>⟨hb.block b hl,hp⟩⟩
theorem QNU (a:Array Value) (h:a.size=37):∃ x0 x1 x2 x3 x4 x5 x6 x7 x8 x9 x10 x11 x12 x13 x14 x15 x16 x17 x18 x19 x20 x21 x22 x23 x24 x25 x26 x27 x28 x29 x30 x31 x32 x33 x34 x35 x36,a=#[x0,x1,x2,x3,x4,x5,x6,x7,x8,x9,x10,x11,x12,x13,x14,x15,x16,x17,x18,x19,x20,x21,x22,x23,x24,x25,x26,x27,x28,x29,x30,x31,x32,x33,x34,x35,x36]:=by
 obtain⟨l⟩:=a;have h0:l.length=37:=h;obtain⟨x0,l1,e0,h1⟩:=QAD h0;obtain⟨x1,l2,e1,h2⟩:=QAD h1;obtain⟨x2,l3,e2,h3⟩:=QAD h2;obtain⟨x3,l4,e3,h4⟩:=QAD h3;obtain⟨x4,l5,e4,h5⟩:=QAD h4;obtain⟨x5,l6,e5,h6⟩:=QAD h5;obtain⟨x6,l7,e6,h7⟩:=QAD h6;obtain⟨x7,l8,e7,h8⟩:=QAD h7;obtain⟨x8,l9,e8,h9⟩:=QAD h8;obtain⟨x9,l10,e9,h10⟩:=QAD h9;obtain⟨x10,l11,e10,h11⟩:=QAD h10;obtain⟨x11,l12,e11,h12⟩:=QAD h11;obtain⟨x12,l13,e12,h13⟩:=QAD h12;obtain⟨x13,l14,e13,h14⟩:=QAD h13;obtain⟨x14,l15,e14,h15⟩:=QAD h14;obtain⟨x15,l16,e15,h16⟩:=QAD h15;obtain⟨x16,l17,e16,h17⟩:=QAD h16;obtain⟨x17,l18,e17,h18⟩:=QAD h17;obtain⟨x18,l19,e18,h19⟩:=QAD h18;obtain⟨x19,l20,e19,h20⟩:=QAD h19;obtain⟨x20,l21,e20,h21⟩:=QAD h20;obtain⟨x21,l22,e21,h22⟩:=QAD h21;obtain⟨x22,l23,e22,h23⟩:=QAD h22;obtain⟨x23,l24,e23,h24⟩:=QAD h23;obtain⟨x24,l25,e24,h25⟩:=QAD h24;obtain⟨x25,l26,e25,h26⟩:=QAD h25;obtain⟨x26,l27,e26,h27⟩:=QAD h26;obtain⟨x27,l28,e27,h28⟩:=QAD h27;obtain⟨x28,l29,e28,h29⟩:=QAD h28;obtain⟨x29,l30,e29,h30⟩:=QAD h29;obtain⟨x30,l31,e30,h31⟩:=QAD h30;obtain⟨x31,l32,e31,h32⟩:=QAD h31;obtain⟨x32,l33,e32,h33⟩:=QAD h32;obtain⟨x33,l34,e33,h34⟩:=QAD h33;obtain⟨x34,l35,e34,h35⟩:=QAD h34;obtain⟨x35,l36,e35,h36⟩:=QAD h35;obtain⟨x36,l37,e36,h37⟩:=QAD h36;have e37:l37=[]:=List.length_eq_zero_iff.1 h37;subst e37 e36 e35 e34 e33 e32 e31 e30 e29 e28 e27 e26 e25 e24 e23 e22 e21 e20 e19 e18 e17 e16 e15 e14 e13 e12 e11 e10 e9 e8 e7 e6 e5 e4 e3 e2 e1 e0;exact⟨x0,x1,x2,x3,x4,x5,x6,x7,x8,x9,x10,x11,x12,x13,x14,x15,x16,x17,x18,x19,x20,x21,x22,x23,x24,x25,x26,x27,x28,x29,x30,x31,x32,x33,x34,x35,x36,rfl⟩
set_option maxRecDepth 10000 in
set_option maxHeartbeats 8000000 in
theorem QKB {Ph:Fm→Prop} (w:World) (T:Nat→Prop) (bt:Nat) (ps:List PartM) (fs:List Fm) (h:Tab Ph w T bt ps fs) (hl:ps.length≤100000) :
  Calls Tryz.prog 93 #[.pointer (some ⟨bt,0,none⟩)] w fun e w'=>∃ v,e = .returned v∧WaysR (fun b=>w.heap.size≤b) w' v ps∧Below w.heap.size w w':=by
 obtain⟨i0,hi0,hz0,hz1,hz2⟩:=QNX;have HT:Hid (Tab Ph w T bt ps fs):=h;have HLn:Hid (Calls Tryz.prog 82 #[.pointer (some ⟨bt,0,none⟩)] w _):=QIZ w T bt ps _ h.tab;(have hlI:(ps.length:Int)≤100000:=by omega)
 have HSm:Hid (∀ p∈ps,QAu p):=by
  obtain⟨_,_,_,_,_,-,-,-,-,-,h6,-⟩:=h.tab;exact h6
 have HLl:Hid (ps.length≤100000):=hl;clear h hl
 go_enter Tryz.func93,Tryz.ntmps93
 go_wp2_with fail;refine HLn.out.mono ?_;rintro e w0 ⟨rfl,rfl⟩;clear HLn;go_wp2_with fail
 go_loopg [8,3] ps.length (fun g c s wr=>∃ n ad cap m cs,n≤ps.length∧g=ps.length - n∧c = .int .i64 (n:Nat)∧s = .slice ad m cap∧Hid (m=2 * n)∧Hid (wr.ownsRow w0.heap.size 210 2 (.slice ad m cap) m cs)∧Hid (WQ (fun b=>w0.heap.size≤b∧(Value.slice ad m cap).ownBlock≠some b) wr cs ps (2 * n))∧Hid (Below w0.heap.size w0 wr))
 case atStart=>exact⟨0,none,0,0,[],by omega,by omega,rfl,rfl,by show _=_;rfl,⟨rfl,Or.inl ⟨rfl,rfl⟩⟩,⟨rfl,fun i hi=>by simp at hi⟩,Below.refl _ _⟩
 case round =>
  obtain⟨n,ad,cap,m,cs,hn,hg,rfl,rfl,HM,HO,HQ,HB⟩:=hrel;have HG:Hid (gk=ps.length - n):=hg;clear hg;by_cases hlt:n < ps.length
  ·obtain⟨p,hp⟩:∃ p,ps[n]? = some p:=⟨_,List.getElem?_eq_getElem hlt⟩
   have hsm:=QCY (HSm.out p (List.mem_of_getElem? hp));have HW2:Hid (QAP ps (2 * n)=QBf p.kind p.k0 p.k1∧QAP ps (2 * n+1)=QBg p.kind p.k0 p.k1):=QLs hp;have HP:Hid (Calls Tryz.prog 99 #[.pointer (some ⟨bt,0,none⟩),.int .i64 (n:Nat)] wr _):=QEs wr T bt ps _ (HT.out.up HB.out).tab n p hp;unfold QAc at HP;(have HWL:Hid (∀ W,Calls Tryz.prog 135 #[.int .i64 p.kind,.int .i64 (p.k0:Nat),.int .i64 (p.k1:Nat)] W _):=fun W=>QNC p.kind p.k0 p.k1 (by omega) (by omega) W);(have HWR:Hid (∀ W,Calls Tryz.prog 136 #[.int .i64 p.kind,.int .i64 (p.k0:Nat),.int .i64 (p.k1:Nat)] W _):=fun W=>QND p.kind p.k0 p.k1 (by omega) (by omega) W);(have hltI:(n:Int) < (ps.length:Int):=by omega);generalize QBf p.kind p.k0 p.k1=wl at *;generalize QBg p.kind p.k0 p.k1=wr' at *;generalize p.kind=pk at *;generalize p.k0=p0 at *;generalize p.k1=p1 at *;generalize p.kids.length=pn at *;generalize p.name=pm at *;clear hsm hp;go_wp2_with fail;refine HP.out.mono ?_;clear HP;rintro e w1 ⟨rfl,hb1⟩;have HB1:Hid (Below w0.heap.size w0 w1):=QAC HB.out hb1;have HO1:Hid (w1.ownsRow w0.heap.size 210 2 (.slice ad m cap) m cs):=QAz HO.out hb1;(have HQ1:Hid (WQ (fun b=>w0.heap.size≤b∧(Value.slice ad m cap).ownBlock≠some b) w1 cs ps (2 * n)):=HQ.out.move fun b hb hq=>⟨hb1.block b hb,hq⟩);clear hb1 HO HQ HB;go_wp2_with fail;have HQ2:Hid ((w1.alloc (.cells #[.int .i64 pk,.string pm,.int .i64 (pn:Nat),.int .i64 (p0:Nat),.int .i64 (p1:Nat)] 158 (0,0))).heap[w1.heap.size]? = some (.cells #[.int .i64 pk,.string pm,.int .i64 (pn:Nat),.int .i64 (p0:Nat),.int .i64 (p1:Nat)] 158 (0,0))):=QAH w1 _;have HB2:Hid (Below w1.heap.size w1 (w1.alloc (.cells #[.int .i64 pk,.string pm,.int .i64 (pn:Nat),.int .i64 (p0:Nat),.int .i64 (p1:Nat)] 158 (0,0)))):=(Below.refl _ w1).alloc (Nat.le_refl _) _;generalize w1.alloc (.cells #[.int .i64 pk,.string pm,.int .i64 (pn:Nat),.int .i64 (p0:Nat),.int .i64 (p1:Nat)] 158 (0,0))=W2 at *;have zw:=QAE HQ2.out;have HB02:Hid (Below w0.heap.size w0 W2):=QAC HB1.out HB2.out;(refine QCd (by kernel_rfl) [tEq (.slice ad m cap),tEq (.pointer (some ⟨w1.heap.size,0,none⟩)),tEq (.int .i64 pk),tEq (.pointer (some ⟨w1.heap.size,3,none⟩)),tEq (.pointer (some ⟨w1.heap.size,3,none⟩)),tEq (.int .i64 (p0:Nat)),tEq (.pointer (some ⟨w1.heap.size,3,none⟩)),tEq (.pointer (some ⟨w1.heap.size,4,none⟩)),tEq (.int .i64 (p1:Nat)),QOQ W2.heap.size wl,tEq (.pointer (some ⟨w1.heap.size,0,none⟩)),tEq (.int .i64 pk),tEq (.pointer (some ⟨w1.heap.size,3,none⟩)),tEq (.pointer (some ⟨w1.heap.size,3,none⟩)),tEq (.int .i64 (p0:Nat)),tEq (.pointer (some ⟨w1.heap.size,3,none⟩)),tEq (.pointer (some ⟨w1.heap.size,4,none⟩)),tEq (.int .i64 (p1:Nat)),QOQ W2.heap.size wr',QOh W2.heap.size wl wr',QNu w0.heap.size ps m (2 * (n+1))] ?_ (by kernel_rfl) (by kernel_rfl) 37 rfl (by kernel_rfl) 21 _ rfl rfl (by kernel_rfl) [9,18,19] 20 (by omega) (fun _ _ w'=>w'.heap[w1.heap.size]? = some (.cells #[.int .i64 pk,.string pm,.int .i64 (pn:Nat),.int .i64 (p0:Nat),.int .i64 (p1:Nat)] 158 (0,0))∧Below w0.heap.size w0 w'∧W2.heap.size≤w'.heap.size) (fun s w'=>w'.heap[w1.heap.size]? = some (.cells #[.int .i64 pk,.string pm,.int .i64 (pn:Nat),.int .i64 (p0:Nat),.int .i64 (p1:Nat)] 158 (0,0))∧Below w0.heap.size w0 w'∧W2.heap.size≤w'.heap.size∧(s=false→Below W2.heap.size W2 w')) ⟨HQ2.out,HB02.out,Nat.le_refl _,fun _=>Below.refl _ _⟩ (fun s x x' h hb=>⟨QAA hb h.1,QAC h.2.1 hb,Nat.le_trans h.2.2.1 hb.size,fun e=>QAC (h.2.2.2 e) hb⟩) (fun x t x' _ h=>⟨h.1,h.2.1,h.2.2,fun e=>by cases e⟩) [] (by kernel_rfl) ?_ ?_ ?_)
   ·intro p hp
    simp only [List.mem_cons,List.not_mem_nil,or_false] at hp
    rcases hp with rfl|rfl|rfl|rfl|rfl|rfl|rfl|rfl|rfl|rfl|rfl|rfl|rfl|rfl|rfl|rfl|rfl|rfl|rfl|rfl|rfl
    all_goals first|exact QDP _|exact QJq _ _|exact QJp _ _ _|exact QIm _ _ _ _
   ·refine⟨fun _ _ _ _ _ _ h _ _=>h,fun _ _ _ _ _ _ h _ _=>h,fun _ _ _ _ _ _ h _ _=>h,fun _ _ _ _ _ _ h _ _=>h,fun _ _ _ _ _ _ h _ _=>h,fun _ _ _ _ _ _ h _ _=>h,fun _ _ _ _ _ _ h _ _=>h,fun _ _ _ _ _ _ h _ _=>h,fun _ _ _ _ _ _ h _ _=>h,fun h => ?_,fun _ _ _ _ _ _ h _ _=>h,fun _ _ _ _ _ _ h _ _=>h,fun _ _ _ _ _ _ h _ _=>h,fun _ _ _ _ _ _ h _ _=>h,fun _ _ _ _ _ _ h _ _=>h,fun _ _ _ _ _ _ h _ _=>h,fun _ _ _ _ _ _ h _ _=>h,fun _ _ _ _ _ _ h _ _=>h,fun h => ?_,fun h => ?_,fun h => ?_,trivial⟩
    all_goals exact Bool.noConfusion (((by kernel_rfl:(_:Bool)=true)).symm.trans h)
   ·refine⟨?_,?_,?_,?_,?_,?_,?_,?_,?_,?_,?_,?_,?_,?_,?_,?_,?_,?_,?_,?_,?_,trivial⟩
    ·intro a wx t s hB hs hold hdep K hK
     have t3:a.tmps[3]? = some (.slice ad m cap):=hold.2.2 3 rfl;clear hold hdep hs hB;go_simp;exact hK.out _ _ rfl (Below.refl _ _)
    ·intro a wx t s hB hs hold hdep K hK
     have t5:a.tmps[5]? = some (.pointer (some ⟨w1.heap.size,0,none⟩)):=hold.2.2 5 rfl;clear hold hdep hs hB;go_simp;exact hK.out _ _ rfl (Below.refl _ _)
    ·intro a wx t s hB hs hold hdep K hK
     obtain⟨v15,t15,q15⟩:=hdep 1 rfl _ 15 rfl rfl;have e15:v15=(.pointer (some ⟨w1.heap.size,0,none⟩)):=q15;subst e15;obtain⟨k0,k1,k2,k3,k4,-⟩:=QCg hB.1;clear hold hdep hs hB;go_simp;exact hK.out _ _ rfl (Below.refl _ _)
    ·intro a wx t s hB hs hold hdep K hK
     have t5:a.tmps[5]? = some (.pointer (some ⟨w1.heap.size,0,none⟩)):=hold.2.2 5 rfl;clear hold hdep hs hB;go_simp;exact hK.out _ _ rfl (Below.refl _ _)
    ·intro a wx t s hB hs hold hdep K hK
     obtain⟨v17,t17,q17⟩:=hdep 3 rfl _ 17 rfl rfl;have e17:v17=(.pointer (some ⟨w1.heap.size,3,none⟩)):=q17;subst e17;clear hold hdep hs hB;go_simp;exact hK.out _ _ rfl (Below.refl _ _)
    ·intro a wx t s hB hs hold hdep K hK
     obtain⟨v18,t18,q18⟩:=hdep 4 rfl _ 18 rfl rfl;have e18:v18=(.pointer (some ⟨w1.heap.size,3,none⟩)):=q18;subst e18;obtain⟨k0,k1,k2,k3,k4,-⟩:=QCg hB.1;clear hold hdep hs hB;go_simp;exact hK.out _ _ rfl (Below.refl _ _)
    ·intro a wx t s hB hs hold hdep K hK
     have t5:a.tmps[5]? = some (.pointer (some ⟨w1.heap.size,0,none⟩)):=hold.2.2 5 rfl;clear hold hdep hs hB;go_simp;exact hK.out _ _ rfl (Below.refl _ _)
    ·intro a wx t s hB hs hold hdep K hK
     obtain⟨v20,t20,q20⟩:=hdep 6 rfl _ 20 rfl rfl;have e20:v20=(.pointer (some ⟨w1.heap.size,3,none⟩)):=q20;subst e20;clear hold hdep hs hB;go_simp;exact hK.out _ _ rfl (Below.refl _ _)
    ·intro a wx t s hB hs hold hdep K hK
     obtain⟨v21,t21,q21⟩:=hdep 7 rfl _ 21 rfl rfl;have e21:v21=(.pointer (some ⟨w1.heap.size,4,none⟩)):=q21;subst e21;obtain⟨k0,k1,k2,k3,k4,-⟩:=QCg hB.1;clear hold hdep hs hB;go_simp;exact hK.out _ _ rfl (Below.refl _ _)
    ·intro a wx t s hB hs hold hdep K hK
     obtain⟨v16,t16,q16⟩:=hdep 2 rfl _ 16 rfl rfl;have e16:v16=(.int .i64 pk):=q16;subst e16;obtain⟨v19,t19,q19⟩:=hdep 5 rfl _ 19 rfl rfl;have e19:v19=(.int .i64 (p0:Nat)):=q19;subst e19;obtain⟨v22,t22,q22⟩:=hdep 8 rfl _ 22 rfl rfl;have e22:v22=(.int .i64 (p1:Nat)):=q22;subst e22;have hz:=hB.2.2.1;clear hold hdep hs hB;go_simp;refine (HWL.out wx).mono ?_;rintro e w2 ⟨v2,rfl,hr2,hb2⟩;obtain⟨s2,u2,rfl,hs2,hp2⟩:=hr2;have hp3:=hp2;obtain⟨a2,c2,rfl,-⟩:=hp3;(exact hK.out _ _ ⟨s2,a2,_,c2,rfl,hs2,hp2.move fun b hb hp=>⟨rfl,Nat.le_trans hz hp⟩⟩ hb2)
    ·intro a wx t s hB hs hold hdep K hK
     have t5:a.tmps[5]? = some (.pointer (some ⟨w1.heap.size,0,none⟩)):=hold.2.2 5 rfl;clear hold hdep hs hB;go_simp;exact hK.out _ _ rfl (Below.refl _ _)
    ·intro a wx t s hB hs hold hdep K hK
     obtain⟨v24,t24,q24⟩:=hdep 10 rfl _ 24 rfl rfl;have e24:v24=(.pointer (some ⟨w1.heap.size,0,none⟩)):=q24;subst e24;obtain⟨k0,k1,k2,k3,k4,-⟩:=QCg hB.1;clear hold hdep hs hB;go_simp;exact hK.out _ _ rfl (Below.refl _ _)
    ·intro a wx t s hB hs hold hdep K hK
     have t5:a.tmps[5]? = some (.pointer (some ⟨w1.heap.size,0,none⟩)):=hold.2.2 5 rfl;clear hold hdep hs hB;go_simp;exact hK.out _ _ rfl (Below.refl _ _)
    ·intro a wx t s hB hs hold hdep K hK
     obtain⟨v26,t26,q26⟩:=hdep 12 rfl _ 26 rfl rfl;have e26:v26=(.pointer (some ⟨w1.heap.size,3,none⟩)):=q26;subst e26;clear hold hdep hs hB;go_simp;exact hK.out _ _ rfl (Below.refl _ _)
    ·intro a wx t s hB hs hold hdep K hK
     obtain⟨v27,t27,q27⟩:=hdep 13 rfl _ 27 rfl rfl;have e27:v27=(.pointer (some ⟨w1.heap.size,3,none⟩)):=q27;subst e27;obtain⟨k0,k1,k2,k3,k4,-⟩:=QCg hB.1;clear hold hdep hs hB;go_simp;exact hK.out _ _ rfl (Below.refl _ _)
    ·intro a wx t s hB hs hold hdep K hK
     have t5:a.tmps[5]? = some (.pointer (some ⟨w1.heap.size,0,none⟩)):=hold.2.2 5 rfl;clear hold hdep hs hB;go_simp;exact hK.out _ _ rfl (Below.refl _ _)
    ·intro a wx t s hB hs hold hdep K hK
     obtain⟨v29,t29,q29⟩:=hdep 15 rfl _ 29 rfl rfl;have e29:v29=(.pointer (some ⟨w1.heap.size,3,none⟩)):=q29;subst e29;clear hold hdep hs hB;go_simp;exact hK.out _ _ rfl (Below.refl _ _)
    ·intro a wx t s hB hs hold hdep K hK
     obtain⟨v30,t30,q30⟩:=hdep 16 rfl _ 30 rfl rfl;have e30:v30=(.pointer (some ⟨w1.heap.size,4,none⟩)):=q30;subst e30;obtain⟨k0,k1,k2,k3,k4,-⟩:=QCg hB.1;clear hold hdep hs hB;go_simp;exact hK.out _ _ rfl (Below.refl _ _)
    ·intro a wx t s hB hs hold hdep K hK
     obtain⟨v25,t25,q25⟩:=hdep 11 rfl _ 25 rfl rfl;have e25:v25=(.int .i64 pk):=q25;subst e25;obtain⟨v28,t28,q28⟩:=hdep 14 rfl _ 28 rfl rfl;have e28:v28=(.int .i64 (p0:Nat)):=q28;subst e28;obtain⟨v31,t31,q31⟩:=hdep 17 rfl _ 31 rfl rfl;have e31:v31=(.int .i64 (p1:Nat)):=q31;subst e31;have hz:=hB.2.2.1;clear hold hdep hs hB;go_simp;refine (HWR.out wx).mono ?_;rintro e w2 ⟨v2,rfl,hr2,hb2⟩;obtain⟨s2,u2,rfl,hs2,hp2⟩:=hr2;have hp3:=hp2;obtain⟨a2,c2,rfl,-⟩:=hp3;(exact hK.out _ _ ⟨s2,a2,_,c2,rfl,hs2,hp2.move fun b hb hp=>⟨rfl,Nat.le_trans hz hp⟩⟩ hb2)
    ·intro a wx t s hB hs hold hdep K hK
     obtain⟨v23,t23,sL,aL,nL,cL,e23,hsL,hpL⟩:=hdep 9 rfl _ 23 rfl rfl;obtain⟨v32,t32,sR,aR,nR,cR,e32,hsR,hpR⟩:=hdep 18 rfl _ 32 rfl rfl;subst e23 e32;(have HL:Hid (sL.data.toList=wl.1∧PRows (fun b=>W2.heap.size≤b) wx (.slice aL nL cL) wl.2):=⟨hsL,hpL⟩);(have HR:Hid (sR.data.toList=wr'.1∧PRows (fun b=>W2.heap.size≤b) wx (.slice aR nR cR) wr'.2):=⟨hsR,hpR⟩);have hz:=hB.2.2.1;clear hold hdep hs hB hsL hpL hsR hpR;go_simp;(exact hK.out _ _ ⟨wx.heap.size,sL,aL,nL,cL,sR,aR,nR,cR,rfl,QAH wx _,hz,HL.out.1,HL.out.2.move fun b hb hp=>⟨Below.heap_alloc _ _ _ hb,hp,by omega⟩,HR.out.1,HR.out.2.move fun b hb hp=>⟨Below.heap_alloc _ _ _ hb,hp,by omega⟩⟩ (QAB (Below.refl _ wx) _))
    ·intro a wx t s hB hs hold hdep K hK
     (have hs0:s=false:=hs (by kernel_rfl));obtain⟨v14,t14,q14⟩:=hdep 0 rfl _ 14 rfl rfl;have e14:v14=(.slice ad m cap):=q14;obtain⟨v33,t33,g,sL,aL,nL,cL,sR,aR,nR,cR,e33,hgb,hg2,hsL,hpL,hsR,hpR⟩:=hdep 19 rfl _ 33 rfl rfl;subst e14 e33;have hbx:=hB.2.2.2 hs0;have hown:=QAz (QAz HO1.out HB2.out) hbx;have hm2:=HM.out;have hl2:=HLl.out;have h1:=HB1.out.size;have h2:=HB2.out.size;have h3:=hbx.size;have hbox:=hB.1;have hcs:=hB.2.1;clear hold hdep hs hB;(refine step_append_lies _ rfl _ _ 89 rfl w0.heap.size 210 i0 (.agg #[.string ⟨#[]⟩,.slice none 0 0]) 2 40 Tryz.underlying89 hi0 hz0 hz1 hz2 rfl (by decide) _ _ _ (QHv t14) hown ⟨g,0,none⟩ 2 2 [.string sL,.slice aL nL cL,.string sR,.slice aR nR cR] (QHv t33) rfl ?_ ?_ (by omega) (by unfold maxLen;omega) (by omega) (by omega) _ rfl ?_)
     ·exact World.news_of_block hgb
     ·intro u hu
      simp at hu
      rcases hu with rfl|rfl|rfl|rfl <;> rfl
     intro g3 cp3 w3 hown3 hgrow hat hlt3;(have hol:=fun b (e:(Value.slice ad m cap).ownBlock=some b)=>HO1.out.lt b e);(have kp:∀ b,b < wx.heap.size→(Value.slice ad m cap).ownBlock≠some b→w3.heap[b]? = wx.heap[b]? := fun b hb hn=>hgrow.block b hb fun e=>hn e.symm)
     have n3:∀ b,b < wx.heap.size→(Value.slice ad m cap).ownBlock≠some b→(Value.slice (some ⟨g3,0,none⟩) (m+2) cp3).ownBlock≠some b:=fun b hb hn e=>by
      (have eb:g3=b:=by simpa [Value.ownBlock] using e);subst eb
      rcases hat with h4|h4
      ·exact hn h4
      ·omega
     refine hK.out _ _ ⟨g3,cp3,_,rfl,hown3,?_⟩ ⟨?_,?_,?_⟩
     ·have hq:=(HQ1.out.move (w':=wx) (P':=fun b=>(w0.heap.size≤b∧(Value.slice ad m cap).ownBlock≠some b)∧b < wx.heap.size) fun b hb hq=>⟨(hbx.block b (by omega)).trans (HB2.out.block b hb),hq,by omega⟩)
      (have hq3:=hq.move (w':=w3) (P':=fun b=>w0.heap.size≤b∧(Value.slice (some ⟨g3,0,none⟩) (m+2) cp3).ownBlock≠some b) fun b hb hp=>⟨kp b hb hp.1.2,hp.1.1,n3 b hb hp.1.2⟩)
      have hL:=hpL.move (w':=w3) (P':=fun b=>w0.heap.size≤b∧(Value.slice (some ⟨g3,0,none⟩) (m+2) cp3).ownBlock≠some b) fun b hb hp=>by
       (have hn:(Value.slice ad m cap).ownBlock≠some b:=fun e=>by have h5:=(hol b e).2;have h6:=hp.1;omega);(exact⟨kp b hb hn,by have h6:=hp.1;omega,n3 b hb hn⟩)
      have hR:=hpR.move (w':=w3) (P':=fun b=>w0.heap.size≤b∧(Value.slice (some ⟨g3,0,none⟩) (m+2) cp3).ownBlock≠some b) fun b hb hp=>by
       (have hn:(Value.slice ad m cap).ownBlock≠some b:=fun e=>by have h5:=(hol b e).2;have h6:=hp.1;omega);(exact⟨kp b hb hn,by have h6:=hp.1;omega,n3 b hb hn⟩)
      (rw [show 2 * (n+1)=2 * n+2 by omega]);(exact hq3.two (by rw [HW2.out.1];exact hsL) (by rw [HW2.out.1];exact hL) (by rw [HW2.out.2];exact hsR) (by rw [HW2.out.2];exact hR))
     ·refine (kp _ (QAE hbox) fun e => ?_).trans hbox
      have h5:=(hol _ e).2;omega
     ·exact⟨hgrow.os.trans hcs.os,hgrow.tape.trans hcs.tape,hgrow.output.trans hcs.output,Nat.le_trans hcs.size hgrow.size,fun b hb=>(kp b (by omega) fun e=>by have h5:=(hol b e).1;omega).trans (hcs.block b hb)⟩
     ·have h5:=hgrow.size
      omega
   ·intro a wx t hB hold hgot K hK
    (obtain⟨v34,t34,g3,cp3,cs3,e34,hown3,hq3⟩:=hgot 20 _ 34 (by omega) (by kernel_rfl) rfl rfl);subst e34;have HO3:Hid (wx.ownsRow w0.heap.size 210 2 (.slice (some ⟨g3,0,none⟩) (m+2) cp3) (m+2) cs3):=hown3;(have HQ3:Hid (WQ (fun b=>w0.heap.size≤b∧(Value.slice (some ⟨g3,0,none⟩) (m+2) cp3).ownBlock≠some b) wx cs3 ps (2 * (n+1))):=hq3);have HB3:Hid (Below w0.heap.size w0 wx):=hB.2.1;obtain⟨tm,df⟩:=a;obtain⟨x0,x1,x2,x3,x4,x5,x6,x7,x8,x9,x10,x11,x12,x13,x14,x15,x16,x17,x18,x19,x20,x21,x22,x23,x24,x25,x26,x27,x28,x29,x30,x31,x32,x33,x34,x35,x36,htm⟩:=QNU tm hold.1;subst htm;obtain rfl:df=[]:=hold.2.1;have hh:=hold.2.2;obtain rfl:x0=_:=Option.some.inj (hh 0 rfl);obtain rfl:x1=_:=Option.some.inj (hh 1 rfl);obtain rfl:x2=_:=Option.some.inj (hh 2 rfl);obtain rfl:x4=_:=Option.some.inj (hh 4 rfl);obtain rfl:x5=_:=Option.some.inj (hh 5 rfl);obtain rfl:x6=_:=Option.some.inj (hh 6 rfl);obtain rfl:x7=_:=Option.some.inj (hh 7 rfl);obtain rfl:x8=_:=Option.some.inj (hh 8 rfl);obtain rfl:x9=_:=Option.some.inj (hh 9 rfl);obtain rfl:x10=_:=Option.some.inj (hh 10 rfl);obtain rfl:x11=_:=Option.some.inj (hh 11 rfl);obtain rfl:x12=_:=Option.some.inj (hh 12 rfl);obtain rfl:x13=_:=Option.some.inj (hh 13 rfl);obtain rfl:x35=_:=Option.some.inj (hh 35 rfl);obtain rfl:x36=_:=Option.some.inj (hh 36 rfl);obtain rfl:x34=_:=Option.some.inj t34;clear hh hold hgot hB hown3 hq3 t34;go_simp;refine hK.out _ _ ?_;go_wp2_with fail
    go_roundg (ps.length - (n+1))
    case measure=>have:=HG.out;omega
    case rel=>exact⟨n+1,some ⟨g3,0,none⟩,cp3,m+2,cs3,by omega,rfl,by go_num,rfl,by have:=HM.out;show _=_;omega,HO3,HQ3,HB3⟩
  ·have hge:¬ (n:Int) < (ps.length:Int):=by omega
   (have hne:n=ps.length:=by omega);subst hne;go_wp2_with fail;go_ret;have hm:=HM.out;subst hm;(refine⟨_,rfl,⟨ad,cap,rfl,(QAt HO.out).1,(QAt HO.out).2,fun hne => ?_⟩,HB.out⟩);have hpos:=List.length_pos_iff.2 hne;(obtain⟨g,rfl,hg⟩:=QBZ HO.out (by omega));(refine⟨g,rfl,(HO.out.lt g rfl).1,fun i hi => ?_⟩);obtain⟨s,u,h1,h2,h3,h4⟩:=HQ.out.2 i hi;have c1:=hg _ _ h1;have c2:=hg _ _ h2;rw [QAZ,Nat.zero_add] at c1 c2;(exact⟨s,u,c1,c2,h3,h4.move fun b _ hp=>⟨rfl,hp.1⟩⟩)
set_option maxRecDepth 10000 in
set_option maxHeartbeats 4000000 in
theorem QGH {Ph:Fm→Prop} (w:World) (T:Nat→Prop) (bt:Nat) (ps:List PartM) (fs:List Fm) (h:Tab Ph w T bt ps fs) (hl:ps.length≤100000) :
  Calls Tryz.prog 48 #[.pointer (some ⟨bt,0,none⟩)] w fun e w'=>∃ (x:Fx) (M:Nat→Prop),x.Ph=Ph∧x.T=T∧x.bt=bt∧x.ps=ps∧x.fs=fs∧x.L=2 * ps.length∧e = .returned (.pointer (some ⟨x.bf,0,none⟩))∧FinSt x w' M (List.replicate x.L 0) [] 0 false∧(∀ b,M b→w.heap.size≤b)∧Below w.heap.size w w':=by
 have HT:Hid (Tab Ph w T bt ps fs):=h;have HWs:Hid (Calls Tryz.prog 93 #[.pointer (some ⟨bt,0,none⟩)] w _):=QKB w T bt ps fs h hl;have HLl:Hid (ps.length≤100000):=hl;obtain⟨L,hL⟩:∃ L,L=2 * ps.length:=⟨_,rfl⟩;have HL:Hid (L=2 * ps.length):=hL;(have hLI:(2:Int) * (ps.length:Int)=(L:Int):=by omega);(have hLb:(L:Int)≤200000:=by omega);(have hmk:=fun w=>run_make_row' (P:=Tryz.prog) 90 3 (.int .i64 0) 8 Tryz.underlying90 (by kernel_rfl) rfl .i64 .i64 L (by omega) (by omega) w);clear h hl hL
 go_enter Tryz.func48,Tryz.ntmps48
 go_wp2_with fail;refine HWs.out.mono ?_;clear HWs;rintro e w1 ⟨v,rfl,hw,hb⟩;(have HW1:Hid (WaysR (fun b=>w.heap.size≤b) w1 v ps):=hw);have HB1:Hid (Below w.heap.size w w1):=hb;have HLn:Hid (Calls Tryz.prog 82 #[.pointer (some ⟨bt,0,none⟩)] w1 _):=QIZ w1 T bt ps _ (HT.out.up hb).tab;obtain⟨aW,cW,hv,-⟩:=hw;subst hv;clear hb;go_wp2_with fail;refine HLn.out.mono ?_;clear HLn;rintro e w2 ⟨rfl,rfl⟩;go_wp2_with fail;go_ret;have hL:=HL.out;have hb2:Below w2.heap.size w2 ((w2.alloc (.cells (madeCells #[.int .i64 0] L) 3 (0,0))).alloc (.cells #[.pointer (some ⟨bt,0,none⟩),.slice aW (2 * ps.length) cW,.slice (some ⟨w2.heap.size,0,none⟩) L L,.slice none 0 0,.int .i64 0,.bool false] 92 (0,0))):=QAB (QAB (Below.refl _ w2) _) _;have hz:w.heap.size≤w2.heap.size:=HB1.out.size;(refine⟨⟨Ph,fun b=>T b∨(w.heap.size≤b∧b < w2.heap.size),T,w2.heap.size+1,bt,w2.heap.size,L,.slice aW (2 * ps.length) cW,ps,fs⟩,fun b=>b=w2.heap.size+1∨b=w2.heap.size,rfl,rfl,rfl,rfl,rfl,hL,rfl,?_,fun b hb=>by omega,QAC HB1.out hb2⟩);(refine⟨(HT.out.up HB1.out).up hb2,HW1.out.move fun b hb hp=>⟨hb2.block b hb,Or.inr ⟨hp,hb⟩⟩,⟨none,0,QAa w2 _ _,⟨rfl,Or.inl ⟨rfl,rfl⟩⟩,fun b e=>by simp [Value.ownBlock] at e⟩,?_,Or.inl rfl,Or.inr rfl,by simp,fun b hb=>Or.inl hb,fun b hb => ?_,fun b hb => ?_,by simp,hL,HLl.out⟩)
 ·refine (QAG (QAH w2 _) _).trans ?_
  congr 2
  apply Array.ext';rw [toList_madeCells_one,List.map_replicate];rfl
 ·simp only [World.size_alloc]
  rcases hb with hb|hb
  ·have:=HT.out.old b hb
   (exact⟨by omega,by omega⟩)
  ·exact⟨by omega,by omega⟩
 ·simp only [World.size_alloc]
  omega
end Go.Proofs.YtbmedfokpgghiacGreat
