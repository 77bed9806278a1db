import Derived.Test.YtbmedfokpgghiacGreatB37
import Derived.Test.YtbmedfokpgghiacGreatB20
import Derived.Test.YtbmedfokpgghiacGreatB09
import Derived.Test.YtbmedfokpgghiacGreatB19
import Derived.Test.YtbmedfokpgghiacGreatB18
namespace Go.Proofs.YtbmedfokpgghiacGreat
open Go.RowKit
theorem QNV (a:Array Value) (h:a.size=38):∃ x0 x1 x2 x3 x4 x5 x6 x7 x8 x9 x10 x11 x12 x13 x14 x15 x16 x17 x18 x19 x20 x21 x22 x23 x24 x25 x26 x27 x28 x29 x30 x31 x32 x33 x34 x35 x36 x37,a=#[x0,x1,x2,x3,x4,x5,x6,x7,x8,x9,x10,x11,x12,x13,x14,x15,x16,x17,x18,x19,x20,x21,x22,x23,x24,x25,x26,x27,x28,x29,x30,x31,x32,x33,x34,x35,x36,x37]:=by
 obtain⟨l⟩:=a;have h0:l.length=38:=h;obtain⟨x0,l1,e0,h1⟩:=QAD h0;obtain⟨x1,l2,e1,h2⟩:=QAD h1;obtain⟨x2,l3,e2,h3⟩:=QAD h2;obtain⟨x3,l4,e3,h4⟩:=QAD h3;obtain⟨x4,l5,e4,h5⟩:=QAD h4;obtain⟨x5,l6,e5,h6⟩:=QAD h5;obtain⟨x6,l7,e6,h7⟩:=QAD h6;obtain⟨x7,l8,e7,h8⟩:=QAD h7;obtain⟨x8,l9,e8,h9⟩:=QAD h8;obtain⟨x9,l10,e9,h10⟩:=QAD h9;obtain⟨x10,l11,e10,h11⟩:=QAD h10;obtain⟨x11,l12,e11,h12⟩:=QAD h11;obtain⟨x12,l13,e12,h13⟩:=QAD h12;obtain⟨x13,l14,e13,h14⟩:=QAD h13;obtain⟨x14,l15,e14,h15⟩:=QAD h14;obtain⟨x15,l16,e15,h16⟩:=QAD h15;obtain⟨x16,l17,e16,h17⟩:=QAD h16;obtain⟨x17,l18,e17,h18⟩:=QAD h17;obtain⟨x18,l19,e18,h19⟩:=QAD h18;obtain⟨x19,l20,e19,h20⟩:=QAD h19;obtain⟨x20,l21,e20,h21⟩:=QAD h20;obtain⟨x21,l22,e21,h22⟩:=QAD h21;obtain⟨x22,l23,e22,h23⟩:=QAD h22;obtain⟨x23,l24,e23,h24⟩:=QAD h23;obtain⟨x24,l25,e24,h25⟩:=QAD h24;obtain⟨x25,l26,e25,h26⟩:=QAD h25;obtain⟨x26,l27,e26,h27⟩:=QAD h26;obtain⟨x27,l28,e27,h28⟩:=QAD h27;obtain⟨x28,l29,e28,h29⟩:=QAD h28;obtain⟨x29,l30,e29,h30⟩:=QAD h29;obtain⟨x30,l31,e30,h31⟩:=QAD h30;obtain⟨x31,l32,e31,h32⟩:=QAD h31;obtain⟨x32,l33,e32,h33⟩:=QAD h32;obtain⟨x33,l34,e33,h34⟩:=QAD h33;obtain⟨x34,l35,e34,h35⟩:=QAD h34;obtain⟨x35,l36,e35,h36⟩:=QAD h35;obtain⟨x36,l37,e36,h37⟩:=QAD h36;obtain⟨x37,l38,e37,h38⟩:=QAD h37;have e38:l38=[]:=List.length_eq_zero_iff.1 h38;subst e38 e37 e36 e35 e34 e33 e32 e31 e30 e29 e28 e27 e26 e25 e24 e23 e22 e21 e20 e19 e18 e17 e16 e15 e14 e13 e12 e11 e10 e9 e8 e7 e6 e5 e4 e3 e2 e1 e0;exact⟨x0,x1,x2,x3,x4,x5,x6,x7,x8,x9,x10,x11,x12,x13,x14,x15,x16,x17,x18,x19,x20,x21,x22,x23,x24,x25,x26,x27,x28,x29,x30,x31,x32,x33,x34,x35,x36,x37,rfl⟩
theorem QIH (l:List Fm) (f:Fm):(l++[f]).length=l.length+1:=by simp
def QNt (S n:Nat) (k:Int) (nm:ByteArray) (ks:List Fm):QCV:=fun v w t=>∃ sl cap,v = .agg #[.int .i64 k,.string nm,.slice sl ks.length cap]∧Rep w (tP 0 S t [n]) (.mk k nm ks) (.agg #[.int .i64 k,.string nm,.slice sl ks.length cap])
theorem QFK (S n:Nat) (k:Int) (nm:ByteArray) (ks:List Fm):QCF (QNt S n k nm ks):=fun _ _ _ _ _ ⟨sl,cap,e,h⟩ hb ht=>⟨sl,cap,e,h.move fun b hb1 hp=>⟨hb.block b hb1,hp.up ht hb1⟩⟩
set_option maxRecDepth 10000 in
set_option maxHeartbeats 8000000 in
theorem QFH {x:Fx} {w:World} {bz:Nat} {lean:Bool} {st nd:Nat} (h:WrSt x w bz lean st nd) (items:List Nat) {Q:Nat→Prop} (v:Value) (hv:IRow Q w v items) (hb:∀ i∈items,i < x.L) (hl:items.length≤200000) :
  Calls Tryz.prog 146 #[.pointer (some ⟨bz,0,none⟩),v] w fun e w'=>∃ u1 u2,e = .returned (.agg #[u1,u2])∧FLp (w.heap.size≤·) w' u1 (QAW x.fs items)∧FLp (w.heap.size≤·) w' u2 (QAX x.fs items)∧Below w.heap.size w w':=by
 have HV:Hid (IRow Q w v items):=hv;obtain⟨ad,cap,rfl,hc1,hc2,-⟩:=hv;have HB:Hid (∀ i∈items,i < x.L):=hb;have HW:Hid (WrSt x w bz lean st nd):=h;(have hlI:(items.length:Int)≤200000:=by omega);(have hlc:(items.length:Int)≤(cap:Int):=by omega);have HLs:Hid (items.length≤200000):=hl;have HL:Hid (x.L=2 * x.ps.length∧x.ps.length≤100000∧x.ps.length=x.fs.length):=⟨h.l2,h.plen,h.tab.ok.len⟩;clear hb h hc1 hc2 hl
 go_enter Tryz.func146,Tryz.ntmps146
 go_wp2_with fail;obtain⟨W,hW⟩:∃ W,W=(w.alloc (.cells #[.slice none 0 0,.slice none 0 0] 24 (0,0))).alloc (.cells #[.slice none 0 0,.slice none 0 0] 24 (0,0)):=⟨_,rfl⟩;rw [← hW];(have HB0:Hid (Below w.heap.size w W):=by rw [hW];exact QAB (QAB (Below.refl _ w) _) _);(have HP0:Hid (W.heap[w.heap.size]? = some (.cells #[.slice none 0 0,.slice none 0 0] 24 (0,0))):=by rw [hW];exact QAG (QAH w _) _);(have HP1:Hid (W.heap[w.heap.size+1]? = some (.cells #[.slice none 0 0,.slice none 0 0] 24 (0,0))):=by rw [hW];exact QAa w _ _);clear hW
 go_loopg [11] items.length (fun g c wr=>∃ k aL cL lL aR cR lR,k≤items.length∧g=items.length - k∧c = .int .i64 (k:Nat)∧Hid (lL=QAW x.fs (items.take k)∧lR=QAX x.fs (items.take k))∧Hid (Below w.heap.size w wr)∧Hid (wr.heap[w.heap.size]? = some (.cells #[.slice none 0 0,.slice none 0 0] 24 (0,0)))∧Hid (wr.heap[w.heap.size+1]? = some (.cells #[.slice aL lL.length cL,.slice aR lR.length cR] 24 (0,0)))∧Hid (Two (w.heap.size+2) wr aL cL lL aR cR lR))
 case atStart=>exact⟨0,none,0,[],none,0,[],by omega,by omega,rfl,⟨by simp [QAW],by simp [QAX]⟩,HB0,HP0,HP1,Two.nil⟩
 case round =>
  obtain⟨k,aL,cL,lL,aR,cR,lR,hk,hg,rfl,HSd,HBe,H0,H1,HT⟩:=hrel;have HG:Hid (gk=items.length - k):=hg;clear hg;by_cases hlt:k < items.length
  ·obtain⟨t,ht⟩:∃ t,items[k]? = some t:=⟨_,List.getElem?_eq_getElem hlt⟩
   obtain⟨b,off,rfl,hPb,hcell⟩:=HV.out.some' ht;have g0:=(HBe.out.cell (p:=⟨b,off+k,none⟩) (QAI hcell)).trans hcell;have htL:=HB.out t (List.mem_of_getElem? ht)
   obtain⟨k2,n2,ks2,hfe⟩:∃ k2 n2 ks2,itF x.fs t = .mk k2 n2 ks2:=by
    cases itF x.fs t with
    | mk a b c=>exact⟨a,b,c,rfl⟩
   (have hff:x.fs[t / 2]? = some (.mk k2 n2 ks2):=by rw [← hfe];exact QBd (by have:=HL.out;omega));obtain⟨th,hth⟩:∃ th,th=t / 2:=⟨_,rfl⟩;(have HPt:Hid (∀ W,Calls Tryz.prog 100 #[.int .i64 (t:Nat)] W fun e w'=>e = .returned (.int .i64 (th:Nat))∧w'=W):=fun W=>by rw [hth];exact QCn t (by have:=HL.out;omega) W);(have HRt:Hid (∀ W,Calls Tryz.prog 101 #[.int .i64 (t:Nat)] W fun e w'=>e = .returned (.bool (itR t))∧w'=W):=fun W=>QDX t (by have:=HL.out;omega) W);(have HFm:Hid (∀ W,Below wr.heap.size wr W→Calls Tryz.prog 147 #[.pointer (some ⟨x.bt,0,none⟩),.int .i64 (th:Nat)] W fun e w'=>∃ v,e = .returned v∧Rep w' (W.heap.size≤·) (.mk k2 n2 ks2) v∧Below W.heap.size W w'):=fun W hb=>by rw [hth];exact QHy ((HW.out.up HBe.out).up hb).tab hff)
   have HSt:Hid ((itR t=true→QAW x.fs (items.take (k+1))=lL∧QAX x.fs (items.take (k+1))=lR++[.mk k2 n2 ks2])∧(itR t=false→QAW x.fs (items.take (k+1))=lL++[.mk k2 n2 ks2]∧QAX x.fs (items.take (k+1))=lR)):=by
    have h1:=QLc (fs:=x.fs) ht;have h2:=HSd.out;rw [← h2.1,← h2.2,hfe] at h1;exact h1
   have hLl:lL.length≤200000∧lR.length≤200000:=by
    have h1:=HSd.out;have h2:=HLs.out;(have h3:(items.take k).length≤items.length:=by rw [List.length_take];omega);(have h4:=List.length_filter_le (fun i=>!itR i) (items.take k));have h5:=List.length_filter_le itR (items.take k);rw [h1.1,h1.2,QAW,QAX,List.length_map,List.length_map];omega
   have HLl:Hid (lL.length≤200000∧lR.length≤200000):=hLl;(have hltI:(k:Int) < (items.length:Int):=by omega);(have hltc:(k:Int) < (cap:Int):=by omega);have HZ:Hid (wr.heap[bz]? = some (.cells #[.pointer (some ⟨x.bt,0,none⟩),x.vW,.bool lean,.int .i64 (st:Nat),.int .i64 (nd:Nat)] 162 (0,0))):=(HW.out.up HBe.out).blk;clear hcell hPb ht htL hff hfe hth hLl;go_wp2_with fail;(refine QCd (by kernel_rfl) [tEq (.pointer (some ⟨bz,0,none⟩)),tEq (.pointer (some ⟨bz,0,none⟩)),tEq (.pointer (some ⟨bz,0,none⟩)),tEq (.pointer (some ⟨x.bt,0,none⟩)),tEq (.int .i64 (t:Nat)),tEq (.int .i64 (th:Nat)),QNt wr.heap.size 6 k2 n2 ks2,QOg wr.heap.size 7 #[.int .i64 0,.string ⟨#[]⟩,.slice none 0 0] 29] ?_ (by kernel_rfl) (by kernel_rfl) 38 rfl (by kernel_rfl) 8 _ rfl rfl (by kernel_rfl) [] 0 (by omega) (fun x _ y=>Below x.heap.size x y) (fun _ y=>Below wr.heap.size wr y) (Below.refl _ _) (fun _ _ _ h hb=>QAC h hb) (fun _ _ _ h hb=>QAC h hb) [] (by kernel_rfl) ?_ ?_ ?_)
   ·intro p hp
    simp only [List.mem_cons,List.not_mem_nil,or_false] at hp
    rcases hp with rfl|rfl|rfl|rfl|rfl|rfl|rfl|rfl
    all_goals first|exact QDP _|exact QFK _ _ _ _ _|exact QFz _ _ _ _
   ·refine⟨?_,?_,?_,?_,?_,?_,?_,?_,trivial⟩
    ·exact fun _ _ _ _ _ _ h _ _=>h
    ·exact fun _ _ _ _ _ _ h _ _=>h
    ·exact fun _ _ _ _ _ _ h _ _=>h
    ·exact fun _ _ _ _ _ _ h _ _=>h
    ·exact fun _ _ _ _ _ _ h _ _=>h
    ·exact fun _ _ _ _ _ _ h _ _=>h
    ·exact fun _ v w t w2 t2 h hb ht=>QFK _ _ _ _ _ v w t w2 t2 h hb ht
    ·exact fun _ v w t w2 t2 h hb ht=>QFz _ _ _ _ v w t w2 t2 h hb ht
   ·refine⟨?_,?_,?_,?_,?_,?_,?_,?_,trivial⟩
    ·intro a wx tg s hB hs hold hdep K hK;have t0:a.tmps[0]? = some (.pointer (some ⟨bz,0,none⟩)):=hold.2.2 0 rfl;clear hold hdep hs hB;go_simp;exact hK.out _ _ rfl (Below.refl _ _)
    ·intro a wx tg s hB hs hold hdep K hK;obtain⟨v15,t15,q15⟩:=hdep 0 rfl _ 15 rfl rfl;have e15:v15=(.pointer (some ⟨bz,0,none⟩)):=q15;subst e15;clear hold hdep hs hB;go_simp;exact hK.out _ _ rfl (Below.refl _ _)
    ·intro a wx tg s hB hs hold hdep K hK;obtain⟨v16,t16,q16⟩:=hdep 1 rfl _ 16 rfl rfl;have e16:v16=(.pointer (some ⟨bz,0,none⟩)):=q16;subst e16;clear hold hdep hs hB;go_simp;exact hK.out _ _ rfl (Below.refl _ _)
    ·intro a wx tg s hB hs hold hdep K hK;obtain⟨v17,t17,q17⟩:=hdep 2 rfl _ 17 rfl rfl;have e17:v17=(.pointer (some ⟨bz,0,none⟩)):=q17;subst e17;obtain⟨y0,y1,y2,y3,y4,-⟩:=QCg (QAA hB HZ.out);clear hold hdep hs hB;go_simp;exact hK.out _ _ rfl (Below.refl _ _)
    ·intro a wx tg s hB hs hold hdep K hK;have t7:a.tmps[7]? = some (.int .i64 (t:Nat)):=hold.2.2 7 rfl;clear hold hdep hs hB;go_simp;exact hK.out _ _ rfl (Below.refl _ _)
    ·intro a wx tg s hB hs hold hdep K hK;obtain⟨v19,t19,q19⟩:=hdep 4 rfl _ 19 rfl rfl;have e19:v19=(.int .i64 (t:Nat)):=q19;subst e19;clear hold hdep hs hB;go_simp;refine (HPt.out wx).mono ?_;rintro e w2 ⟨rfl,hw2⟩;have hw3:=hw2.symm;clear hw2;subst hw3;exact hK.out _ _ rfl (Below.refl _ _)
    ·intro a wx tg s hB hs hold hdep K hK;obtain⟨v18,t18,q18⟩:=hdep 3 rfl _ 18 rfl rfl;have e18:v18=(.pointer (some ⟨x.bt,0,none⟩)):=q18;subst e18;obtain⟨v20,t20,q20⟩:=hdep 5 rfl _ 20 rfl rfl;have e20:v20=(.int .i64 (th:Nat)):=q20;subst e20;have hb9:=hB;clear hold hdep hs hB;go_simp;refine (HFm.out wx hb9).mono ?_;rintro e w2 ⟨u,rfl,hu,hb2⟩;obtain⟨sl,cap,rfl⟩:=QAU hu;have hs9:=hb9.size;exact hK.out _ _ ⟨sl,cap,rfl,hu.move fun b _ hb=>⟨rfl,Or.inr ⟨by omega,by simp [QGG,Nat.not_lt.2 hb]⟩⟩⟩ hb2
    ·intro a wx tg s hB hs hold hdep K hK;have hb9:=hB.size;clear hold hdep hs hB;go_simp;exact hK.out _ _ ⟨wx.heap.size,rfl,QAH _ _,hb9,by simp [QGG]⟩ (QAB (Below.refl _ wx) _)
   ·intro a wx tg hB hold hgot K hK
    (obtain⟨v21,t21,sl2,cap2,e21,q21⟩:=hgot 6 _ 21 (by omega) rfl rfl rfl);subst e21;(obtain⟨v8,t8,g,e8,q8,hg8,hm8⟩:=hgot 7 _ 8 (by omega) rfl rfl rfl);subst e8;have HBx:Hid (Below wr.heap.size wr wx):=hB
    have HRp:Hid (Rep wx (fun b=>wr.heap.size≤b∧b≠g) (.mk k2 n2 ks2) (.agg #[.int .i64 k2,.string n2,.slice sl2 ks2.length cap2])):=q21.move fun b _ hb=>⟨rfl,by
     rcases hb with hb|hb
     ·omega
     ·exact⟨hb.1,fun e=>by rw [e,hm8] at hb;simp at hb⟩⟩
    have HGs:Hid (wr.heap.size≤g):=hg8;have HQ8:Hid (wx.heap[g]? = some (.cells #[.int .i64 0,.string ⟨#[]⟩,.slice none 0 0] 29 (0,0))):=q8;obtain⟨y0,y1,y2,z0,z1,z2⟩:=QAb q8;obtain⟨tm,df⟩:=a;obtain⟨x0,x1,x2,x3,x4,x5,x6,x7,x8,x9,x10,x11,x12,x13,x14,x15,x16,x17,x18,x19,x20,x21,x22,x23,x24,x25,x26,x27,x28,x29,x30,x31,x32,x33,x34,x35,x36,x37,htm⟩:=QNV tm hold.1;subst htm;obtain rfl:df=[]:=hold.2.1;have hh:=hold.2.2;obtain rfl:x0=_:=QAK (hh 0 rfl);obtain rfl:x1=_:=QAK (hh 1 rfl);obtain rfl:x2=_:=QAK (hh 2 rfl);obtain rfl:x3=_:=QAK (hh 3 rfl);obtain rfl:x4=_:=QAK (hh 4 rfl);obtain rfl:x5=_:=QAK (hh 5 rfl);obtain rfl:x6=_:=QAK (hh 6 rfl);obtain rfl:x7=_:=QAK (hh 7 rfl);obtain rfl:x9=_:=QAK (hh 9 rfl);obtain rfl:x10=_:=QAK (hh 10 rfl);obtain rfl:x11=_:=QAK (hh 11 rfl);obtain rfl:x12=_:=QAK (hh 12 rfl);obtain rfl:x13=_:=QAK (hh 13 rfl);obtain rfl:x14=_:=QAK (hh 14 rfl);obtain rfl:x22=_:=QAK (hh 22 rfl);obtain rfl:x23=_:=QAK (hh 23 rfl);obtain rfl:x24=_:=QAK (hh 24 rfl);obtain rfl:x25=_:=QAK (hh 25 rfl);obtain rfl:x26=_:=QAK (hh 26 rfl);obtain rfl:x27=_:=QAK (hh 27 rfl);obtain rfl:x28=_:=QAK (hh 28 rfl);obtain rfl:x29=_:=QAK (hh 29 rfl);obtain rfl:x30=_:=QAK (hh 30 rfl);obtain rfl:x31=_:=QAK (hh 31 rfl);obtain rfl:x32=_:=QAK (hh 32 rfl);obtain rfl:x33=_:=QAK (hh 33 rfl);obtain rfl:x34=_:=QAK (hh 34 rfl);obtain rfl:x35=_:=QAK (hh 35 rfl);obtain rfl:x36=_:=QAK (hh 36 rfl);obtain rfl:x37=_:=QAK (hh 37 rfl);obtain rfl:x21=_:=Option.some.inj t21;obtain rfl:x8=_:=Option.some.inj t8;clear hh hold hgot hB t21 t8 q21 q8 hg8 hm8;go_simp;refine hK.out _ _ ?_;have HB1x:Hid (Below wr.heap.size wr (((wx.setCell ⟨g,0,none⟩ (.int .i64 k2)).setCell ⟨g,1,none⟩ (.string n2)).setCell ⟨g,2,none⟩ (.slice sl2 ks2.length cap2))):=((HBx.out.setCell HGs.out _).setCell HGs.out _).setCell HGs.out _
    have HQgx:Hid ((((wx.setCell ⟨g,0,none⟩ (.int .i64 k2)).setCell ⟨g,1,none⟩ (.string n2)).setCell ⟨g,2,none⟩ (.slice sl2 ks2.length cap2)).heap[g]? = some (.cells #[.int .i64 k2,.string n2,.slice sl2 ks2.length cap2] 29 (0,0))):=by
     show _=_;(rw [QAS (by rw [QAS (by rw [QAS HQ8.out])])]);rfl
    (have HR1x:Hid (Rep (((wx.setCell ⟨g,0,none⟩ (.int .i64 k2)).setCell ⟨g,1,none⟩ (.string n2)).setCell ⟨g,2,none⟩ (.slice sl2 ks2.length cap2)) (wr.heap.size≤·) (.mk k2 n2 ks2) (.agg #[.int .i64 k2,.string n2,.slice sl2 ks2.length cap2])):=HRp.out.move fun b _ hb=>⟨(QAJ _ hb.2).trans ((QAJ _ hb.2).trans (QAJ _ hb.2)),hb.1⟩);clear y0 y1 y2 z0 z1 z2;obtain⟨W1,hW1⟩:∃ W1,W1=((wx.setCell ⟨g,0,none⟩ (.int .i64 k2)).setCell ⟨g,1,none⟩ (.string n2)).setCell ⟨g,2,none⟩ (.slice sl2 ks2.length cap2):=⟨_,rfl⟩;rw [← hW1] at HB1x HQgx HR1x ⊢;clear hW1;have HB1:Hid (Below wr.heap.size wr W1):=HB1x;have HQg:Hid (W1.heap[g]? = some (.cells #[.int .i64 k2,.string n2,.slice sl2 ks2.length cap2] 29 (0,0))):=HQgx;have HR1:Hid (Rep W1 (wr.heap.size≤·) (.mk k2 n2 ks2) (.agg #[.int .i64 k2,.string n2,.slice sl2 ks2.length cap2])):=HR1x;have HQ0:Hid (W1.heap[w.heap.size]? = some (.cells #[.slice none 0 0,.slice none 0 0] 24 (0,0))):=QAA HB1.out H0.out;have HQ1:Hid (W1.heap[w.heap.size+1]? = some (.cells #[.slice aL lL.length cL,.slice aR lR.length cR] 24 (0,0))):=QAA HB1.out H1.out;clear HB1x HQgx HR1x;go_wp2_with fail;refine (HRt.out _).mono ?_;rintro e w2 ⟨rfl,hw2⟩;have hw3:=hw2.symm;clear hw2;subst hw3;obtain⟨y0,y1,y2,z0,z1,z2⟩:=QAb HQg.out;obtain⟨c0,c1,d0,d1⟩:=QAV HQ1.out;obtain⟨i0,hi,hz0,hz1,hz2⟩:=QBb
    cases hR:itR t
    ·obtain⟨e1,e2⟩:=HSt.out.2 hR
     (obtain⟨cs,hown,happ⟩:=Two.app (.cells #[.int .i64 k2,.string n2,.slice sl2 ks2.length cap2] 29 (0,0)) HT.out (by have:=QAE H1.out;omega) HB1.out HR1.out);have HAp:Hid _:=happ;clear happ;have hlx:lL.length≤200000:=HLl.out.1;(have hws:w.heap.size+2≤W1.heap.size:=by have h1:=QAE H1.out;have h2:=HB1.out.size;omega)
     go_wp2_with (first
      | (
        at_builtin
        go_loud (refine wpList_append_lies _ rfl _ _ 22 rfl (w.heap.size+2) 29 i0 (.agg #[.int .i64 0,.string ⟨#[]⟩,.slice none 0 0]) 3 48 Tryz.underlying22 hi hz0 hz1 hz2 rfl (by decide) _ _ _ rfl hown ⟨W1.heap.size,0,none⟩ 1 1 [.int .i64 k2,.string n2,.slice sl2 ks2.length cap2] rfl rfl ?_ ?_ (by omega) (by unfold maxLen;omega) (by omega) (by simp;omega) _ rfl ?_)
        ·intro j u hu
         rw [QAZ,Nat.zero_add,QAL (QAH W1 _)];simpa using hu
        ·intro u hu
         simp at hu
         rcases hu with rfl|rfl|rfl <;> rfl
        intro g3 cp3 w3 hown3 hgrow hat hlt3;obtain⟨hb3,ht3⟩:=HAp.out g3 cp3 w3 hown3 hgrow hat hlt3;have HB3:Hid (Below (w.heap.size+2) W1 w3):=hb3;have HT3:Hid (Two (w.heap.size+2) w3 (some ⟨g3,0,none⟩) cp3 (lL++[.mk k2 n2 ks2]) aR cR lR):=ht3;(have HS1:Hid (w3.heap[w.heap.size+1]? = some (.cells #[.slice aL lL.length cL,.slice aR lR.length cR] 24 (0,0))):=(hb3.block _ (by omega)).trans HQ1.out);clear hown3 hgrow hat hlt3 hb3 ht3 hown
        obtain⟨s0,s1,s2,s3⟩:=QAV HS1.out)
      | fail)
     have T1:Hid ((w3.setCell ⟨w.heap.size+1,0,none⟩ (.slice (some ⟨g3,0,none⟩) (lL.length+1) cp3)).heap[w.heap.size+1]? = some (.cells #[.slice (some ⟨g3,0,none⟩) (lL.length+1) cp3,.slice aR lR.length cR] 24 (0,0))):=by
      show _=_;rw [QAS HS1.out]
      first|rfl|simp
     (have T0:Hid ((w3.setCell ⟨w.heap.size+1,0,none⟩ (.slice (some ⟨g3,0,none⟩) (lL.length+1) cp3)).heap[w.heap.size]? = some (.cells #[.slice none 0 0,.slice none 0 0] 24 (0,0))):=(QAJ _ (by omega)).trans ((HB3.out.block _ (by omega)).trans HQ0.out));(have TT:Hid (Two (w.heap.size+2) (w3.setCell ⟨w.heap.size+1,0,none⟩ (.slice (some ⟨g3,0,none⟩) (lL.length+1) cp3)) (some ⟨g3,0,none⟩) cp3 (lL++[.mk k2 n2 ks2]) aR cR lR):=HT3.out.same (fun b hb _=>QAJ _ (by omega)) (by rw [QAO];exact Nat.le_refl _));(have BB:Hid (Below w.heap.size w (w3.setCell ⟨w.heap.size+1,0,none⟩ (.slice (some ⟨g3,0,none⟩) (lL.length+1) cp3))):=((HBe.out.trans (HB1.out.mono HBe.out.size)).trans (HB3.out.mono (by omega))).setCell (by simp) _);go_wp2_with fail
     go_roundg (items.length - (k+1))
     case measure=>have:=HG.out;omega
     case rel=>exact⟨k+1,some ⟨g3,0,none⟩,cp3,lL++[.mk k2 n2 ks2],aR,cR,lR,by omega,rfl,by go_num,⟨e1.symm,e2.symm⟩,BB,T0,(by rw [QIH];exact T1),TT⟩
    ·obtain⟨e1,e2⟩:=HSt.out.1 hR
     (obtain⟨cs,hown,happ⟩:=Two.app (.cells #[.int .i64 k2,.string n2,.slice sl2 ks2.length cap2] 29 (0,0)) HT.out.swap (by have:=QAE H1.out;omega) HB1.out HR1.out);have HAp:Hid _:=happ;clear happ;have hlx:lR.length≤200000:=HLl.out.2;(have hws:w.heap.size+2≤W1.heap.size:=by have h1:=QAE H1.out;have h2:=HB1.out.size;omega)
     go_wp2_with (first
      | (
        at_builtin
        go_loud (refine wpList_append_lies _ rfl _ _ 22 rfl (w.heap.size+2) 29 i0 (.agg #[.int .i64 0,.string ⟨#[]⟩,.slice none 0 0]) 3 48 Tryz.underlying22 hi hz0 hz1 hz2 rfl (by decide) _ _ _ rfl hown ⟨W1.heap.size,0,none⟩ 1 1 [.int .i64 k2,.string n2,.slice sl2 ks2.length cap2] rfl rfl ?_ ?_ (by omega) (by unfold maxLen;omega) (by omega) (by simp;omega) _ rfl ?_)
        ·intro j u hu
         rw [QAZ,Nat.zero_add,QAL (QAH W1 _)];simpa using hu
        ·intro u hu
         simp at hu
         rcases hu with rfl|rfl|rfl <;> rfl
        intro g3 cp3 w3 hown3 hgrow hat hlt3;obtain⟨hb3,ht3⟩:=HAp.out g3 cp3 w3 hown3 hgrow hat hlt3;have HB3:Hid (Below (w.heap.size+2) W1 w3):=hb3;have HT3:Hid (Two (w.heap.size+2) w3 aL cL lL (some ⟨g3,0,none⟩) cp3 (lR++[.mk k2 n2 ks2])):=ht3.swap;(have HS1:Hid (w3.heap[w.heap.size+1]? = some (.cells #[.slice aL lL.length cL,.slice aR lR.length cR] 24 (0,0))):=(hb3.block _ (by omega)).trans HQ1.out);clear hown3 hgrow hat hlt3 hb3 ht3 hown
        obtain⟨s0,s1,s2,s3⟩:=QAV HS1.out)
      | fail)
     have T1:Hid ((w3.setCell ⟨w.heap.size+1,1,none⟩ (.slice (some ⟨g3,0,none⟩) (lR.length+1) cp3)).heap[w.heap.size+1]? = some (.cells #[.slice aL lL.length cL,.slice (some ⟨g3,0,none⟩) (lR.length+1) cp3] 24 (0,0))):=by
      show _=_;rw [QAS HS1.out]
      first|rfl|simp
     (have T0:Hid ((w3.setCell ⟨w.heap.size+1,1,none⟩ (.slice (some ⟨g3,0,none⟩) (lR.length+1) cp3)).heap[w.heap.size]? = some (.cells #[.slice none 0 0,.slice none 0 0] 24 (0,0))):=(QAJ _ (by omega)).trans ((HB3.out.block _ (by omega)).trans HQ0.out));(have TT:Hid (Two (w.heap.size+2) (w3.setCell ⟨w.heap.size+1,1,none⟩ (.slice (some ⟨g3,0,none⟩) (lR.length+1) cp3)) aL cL lL (some ⟨g3,0,none⟩) cp3 (lR++[.mk k2 n2 ks2])):=HT3.out.same (fun b hb _=>QAJ _ (by omega)) (by rw [QAO];exact Nat.le_refl _));(have BB:Hid (Below w.heap.size w (w3.setCell ⟨w.heap.size+1,1,none⟩ (.slice (some ⟨g3,0,none⟩) (lR.length+1) cp3))):=((HBe.out.trans (HB1.out.mono HBe.out.size)).trans (HB3.out.mono (by omega))).setCell (by simp) _);go_wp2_with fail
     go_roundg (items.length - (k+1))
     case measure=>have:=HG.out;omega
     case rel=>exact⟨k+1,aL,cL,lL,some ⟨g3,0,none⟩,cp3,lR++[.mk k2 n2 ks2],by omega,rfl,by go_num,⟨e1.symm,e2.symm⟩,BB,T0,(by rw [QIH];exact T1),TT⟩
  ·have hge:¬ (k:Int) < (items.length:Int):=by omega
   (have hke:k=items.length:=by omega);subst hke
   have HS:Hid (lL=QAW x.fs items∧lR=QAX x.fs items):=by
    have hS:=HSd.out;rw [List.take_length] at hS;exact hS
   obtain⟨c0,c1,d0,d1⟩:=QAV H1.out;obtain⟨b0,b1,f0,f1⟩:=QAV H0.out;clear hk hlt;go_wp2_with fail;obtain⟨Wf,hWf⟩:∃ Wf,Wf=(wr.setCell ⟨w.heap.size,0,none⟩ (.slice aL lL.length cL)).setCell ⟨w.heap.size,1,none⟩ (.slice aR lR.length cR):=⟨_,rfl⟩;rw [← hWf]
   have hE:Wf.heap[w.heap.size]? = some (.cells #[.slice aL lL.length cL,.slice aR lR.length cR] 24 (0,0)):=by
    rw [hWf,QAS (QAS H0.out _) _];rfl
   obtain⟨m0,m1,-⟩:=QAV hE
   have hBf:Below w.heap.size w Wf:=by
    rw [hWf];exact (HBe.out.setCell (p:=⟨w.heap.size,0,none⟩) (Nat.le_refl _) _).setCell (p:=⟨w.heap.size,1,none⟩) (Nat.le_refl _) _
   (have hTf:Two (w.heap.size+2) Wf aL cL lL aR cR lR:=HT.out.same (fun b hb _=>by rw [hWf,QAJ _ (by omega),QAJ _ (by omega)]) (by rw [hWf,QAO,QAO];exact Nat.le_refl _));(refine bodyPost_ret (v := .agg #[.slice aL lL.length cL,.slice aR lR.length cR]) (by clear hWf;simp [results,Tryz.results146,go_sem,m0,m1]) rfl ⟨_,_,rfl,?_,?_,hBf⟩)
   ·rw [← HS.out.1]
    (exact hTf.lists.1.move fun b _ hb=>⟨rfl,by omega⟩)
   ·rw [← HS.out.2]
    (exact hTf.lists.2.move fun b _ hb=>⟨rfl,by omega⟩)
theorem QKL (a:Array Value) (h:a.size=32):∃ x0 x1 x2 x3 x4 x5 x6 x7 x8 x9 x10 x11 x12 x13 x14 x15 x16 x17 x18 x19 x20 x21 x22 x23 x24 x25 x26 x27 x28 x29 x30 x31,a=#[x0,x1,x2,x3,x4,x5,x6,x7,x8,x9,x10,x11,x12,x13,x14,x15,x16,x17,x18,x19,x20,x21,x22,x23,x24,x25,x26,x27,x28,x29,x30,x31]:=by
 obtain⟨l⟩:=a;have h0:l.length=32:=h;obtain⟨x0,l1,e0,h1⟩:=QAD h0;obtain⟨x1,l2,e1,h2⟩:=QAD h1;obtain⟨x2,l3,e2,h3⟩:=QAD h2;obtain⟨x3,l4,e3,h4⟩:=QAD h3;obtain⟨x4,l5,e4,h5⟩:=QAD h4;obtain⟨x5,l6,e5,h6⟩:=QAD h5;obtain⟨x6,l7,e6,h7⟩:=QAD h6;obtain⟨x7,l8,e7,h8⟩:=QAD h7;obtain⟨x8,l9,e8,h9⟩:=QAD h8;obtain⟨x9,l10,e9,h10⟩:=QAD h9;obtain⟨x10,l11,e10,h11⟩:=QAD h10;obtain⟨x11,l12,e11,h12⟩:=QAD h11;obtain⟨x12,l13,e12,h13⟩:=QAD h12;obtain⟨x13,l14,e13,h14⟩:=QAD h13;obtain⟨x14,l15,e14,h15⟩:=QAD h14;obtain⟨x15,l16,e15,h16⟩:=QAD h15;obtain⟨x16,l17,e16,h17⟩:=QAD h16;obtain⟨x17,l18,e17,h18⟩:=QAD h17;obtain⟨x18,l19,e18,h19⟩:=QAD h18;obtain⟨x19,l20,e19,h20⟩:=QAD h19;obtain⟨x20,l21,e20,h21⟩:=QAD h20;obtain⟨x21,l22,e21,h22⟩:=QAD h21;obtain⟨x22,l23,e22,h23⟩:=QAD h22;obtain⟨x23,l24,e23,h24⟩:=QAD h23;obtain⟨x24,l25,e24,h25⟩:=QAD h24;obtain⟨x25,l26,e25,h26⟩:=QAD h25;obtain⟨x26,l27,e26,h27⟩:=QAD h26;obtain⟨x27,l28,e27,h28⟩:=QAD h27;obtain⟨x28,l29,e28,h29⟩:=QAD h28;obtain⟨x29,l30,e29,h30⟩:=QAD h29;obtain⟨x30,l31,e30,h31⟩:=QAD h30;obtain⟨x31,l32,e31,h32⟩:=QAD h31;have e32:l32=[]:=List.length_eq_zero_iff.1 h32;subst e32 e31 e30 e29 e28 e27 e26 e25 e24 e23 e22 e21 e20 e19 e18 e17 e16 e15 e14 e13 e12 e11 e10 e9 e8 e7 e6 e5 e4 e3 e2 e1 e0;exact⟨x0,x1,x2,x3,x4,x5,x6,x7,x8,x9,x10,x11,x12,x13,x14,x15,x16,x17,x18,x19,x20,x21,x22,x23,x24,x25,x26,x27,x28,x29,x30,x31,rfl⟩
def QDk:Value→World→Prop:=fun _ _=>True
theorem QEz:QDF QDk:=fun _ _ _ _ _=>trivial
set_option maxRecDepth 10000 in
set_option maxHeartbeats 8000000 in
theorem QJi (l:List (List UInt8)) (hl:l.length≤100000) (hnm:∀ t∈l,QBt t=true∧t.length≤1000) (hup:∀ (i:Nat) (a b:List UInt8),l[i]? = some a→l[i+1]? = some b→Op.bytesLess a b=true) (v:Value) (w:World) (hv:SL w v l) :
  Calls Tryz.prog 16 #[v] w fun e w'=>e = .returned (.bool true)∧Below w.heap.size w w':=by
 obtain⟨ad,cap,rfl,hc1,hc2,hc3⟩:=hv;have HC:Hid (l≠[]→∃ g off,ad=some ⟨g,off,none⟩∧∀ (j:Nat) (t:List UInt8),l[j]? = some t→w.cell? ⟨g,off+j,none⟩=some (.string ⟨t.toArray⟩)):=hc3;have HN:Hid (∀ t∈l,QBt t=true∧t.length≤1000):=hnm;have HU:Hid (∀ (i:Nat) (a b:List UInt8),l[i]? = some a→l[i+1]? = some b→Op.bytesLess a b=true):=hup;(have hlI:(l.length:Int)≤100000:=by omega);(have hcI:(l.length:Int)≤(cap:Int):=by omega);have HB0:Hid (Below w.heap.size w w):=Below.refl _ w;clear hc3 hnm hup hc2
 go_enter Tryz.func16,Tryz.ntmps16
 go_wp2_with fail
 go_loopg [3] l.length (fun g c wr=>∃ i,i≤l.length∧g=l.length - i∧c = .int .i64 (i:Nat)∧Hid (Below w.heap.size w wr))
 case atStart=>exact⟨0,by omega,by omega,rfl,HB0⟩
 case round =>
  obtain⟨i,hile,hg,rfl,HB⟩:=hrel;have HG:Hid (gk=l.length - i):=hg;clear hg;by_cases hlt:i < l.length
  ·obtain⟨t,ht⟩:∃ t,l[i]? = some t:=⟨_,List.getElem?_eq_getElem hlt⟩
   (obtain⟨b,off,rfl,hcc⟩:=HC.out (fun e=>by rw [e] at hlt;simp at hlt));have HC1:Hid (wr.cell? ⟨b,off+i,none⟩=some (.string ⟨t.toArray⟩)):=(HB.out.cell (p:=⟨b,off+i,none⟩) (QAI (hcc i t ht))).trans (hcc i t ht)
   have HNm:Hid (∀ W,Calls Tryz.prog 56 #[.string ⟨t.toArray⟩] W fun e w'=>e = .returned (.bool true)∧w'=W):=fun W=>by
    obtain⟨h1,h2⟩:=HN.out t (List.mem_of_getElem? ht);(have:=QFE ⟨t.toArray⟩ (by simp [ByteArray.size,maxLen];omega) W);simp only [h1] at this;exact this
   (have hltI:(i:Int) < (l.length:Int):=by omega);(have hltc:(i:Int) < (cap:Int):=by omega)
   rcases Nat.eq_zero_or_pos i with h0|h0
   ·have h0I:¬ (0:Int) < (i:Int):=by omega
    clear hcc h0;go_wp2_with fail;(refine QAT (by kernel_rfl) [kEq (.slice (some ⟨b,off,none⟩) l.length cap),kEq (.int .i64 (i:Nat)),kEq (.pointer (some ⟨b,off+i,none⟩)),kEq (.string ⟨t.toArray⟩),kEq (.bool true),kEq (.bool false),kEq (.bool false),kEq (.int .i64 (i:Nat)),kEq (.bool false),kEq (.bool false),QDk,QDk,QDk,QDk,QDk,QDk,QDk,QDk,QDk,QDk,kEq (.bool false),kEq (.bool false)] ?_ (by kernel_rfl) (by kernel_rfl) 32 rfl (by kernel_rfl) ?_ ?_)
    ·intro p hp
     simp only [List.mem_cons,List.not_mem_nil,or_false] at hp
     rcases hp with rfl|rfl|rfl|rfl|rfl|rfl|rfl|rfl|rfl|rfl|rfl|rfl|rfl|rfl|rfl|rfl|rfl|rfl|rfl|rfl|rfl|rfl
     all_goals first|exact QAe _|exact QEz
    ·refine⟨?_,?_,?_,?_,?_,?_,?_,?_,?_,?_,?_,?_,?_,?_,?_,?_,?_,?_,?_,?_,?_,?_,trivial⟩
     ·intro a wx hB hold hdep K hK;have t0:a.tmps[0]? = some (.slice (some ⟨b,off,none⟩) l.length cap):=hold.2.2 0 rfl;clear hold hdep;go_simp;exact hK.out _ _ rfl (Below.refl _ _)
     ·intro a wx hB hold hdep K hK;have t3:a.tmps[3]? = some (.int .i64 (i:Nat)):=hold.2.2 3 rfl;clear hold hdep;go_simp;exact hK.out _ _ rfl (Below.refl _ _)
     ·intro a wx hB hold hdep K hK;have t10:=QAF wx (hdep 0 rfl _ 10 rfl rfl);have t11:=QAF wx (hdep 1 rfl _ 11 rfl rfl);clear hold hdep;go_simp;exact hK.out _ _ rfl (Below.refl _ _)
     ·intro a wx hB hold hdep K hK;have t12:=QAF wx (hdep 2 rfl _ 12 rfl rfl);have y1:=(hB.cell (p:=⟨b,off+i,none⟩) (QAI HC1.out)).trans HC1.out;clear hold hdep;go_simp;exact hK.out _ _ rfl (Below.refl _ _)
     ·intro a wx hB hold hdep K hK;have t13:=QAF wx (hdep 3 rfl _ 13 rfl rfl);clear hold hdep;go_simp;refine (HNm.out wx).mono ?_;rintro e w2 ⟨rfl,hw2⟩;have hw3:=hw2.symm;clear hw2;subst hw3;exact hK.out _ _ rfl (Below.refl _ _)
     ·intro a wx hB hold hdep K hK;have t14:=QAF wx (hdep 4 rfl _ 14 rfl rfl);clear hold hdep;go_simp;exact hK.out _ _ rfl (Below.refl _ _)
     ·intro a wx hB hold hdep K hK;have t15:=QAF wx (hdep 5 rfl _ 15 rfl rfl);clear hold hdep;go_simp;exact hK.out _ _ rfl (Below.refl _ _)
     ·intro a wx hB hold hdep K hK;have t16:=QAF wx (hdep 6 rfl _ 16 rfl rfl);have t3:a.tmps[3]? = some (.int .i64 (i:Nat)):=hold.2.2 3 rfl;clear hold hdep;go_simp;exact hK.out _ _ rfl (Below.refl _ _)
     ·intro a wx hB hold hdep K hK;have t16:=QAF wx (hdep 6 rfl _ 16 rfl rfl);have t17:=QAF wx (hdep 7 rfl _ 17 rfl rfl);clear hold hdep;go_simp;(exact hK.out _ _ (by show Value.bool _=Value.bool _;simp;omega) (Below.refl _ _))
     ·intro a wx hB hold hdep K hK;have t16:=QAF wx (hdep 6 rfl _ 16 rfl rfl);have t18:=QAF wx (hdep 8 rfl _ 18 rfl rfl);clear hold hdep;go_simp;exact hK.out _ _ rfl (Below.refl _ _)
     iterate 10 (· intro a wx hB hold hdep K hK;have t19:=QAF wx (hdep 9 rfl _ 19 rfl rfl);clear hold hdep;go_simp;exact hK.out _ _ trivial (Below.refl _ _))
     ·intro a wx hB hold hdep K hK;have t16:=QAF wx (hdep 6 rfl _ 16 rfl rfl);have t19:=QAF wx (hdep 9 rfl _ 19 rfl rfl);clear hold hdep;go_simp;exact hK.out _ _ rfl (Below.refl _ _)
     ·intro a wx hB hold hdep K hK;have t16:=QAF wx (hdep 6 rfl _ 16 rfl rfl);have t30:=QAF wx (hdep 20 rfl _ 30 rfl rfl);clear hold hdep;go_simp;exact hK.out _ _ rfl (Below.refl _ _)
    ·intro a wx hB hold hgot
     obtain⟨v31,t31,p31⟩:=hgot 21 _ 31 rfl rfl;have e31:v31=(.bool false):=p31;subst e31;obtain⟨tm,df⟩:=a;obtain⟨x0,x1,x2,x3,x4,x5,x6,x7,x8,x9,x10,x11,x12,x13,x14,x15,x16,x17,x18,x19,x20,x21,x22,x23,x24,x25,x26,x27,x28,x29,x30,x31,htm⟩:=QKL tm hold.1;subst htm;obtain rfl:df=[]:=hold.2.1;have hh:=hold.2.2;obtain rfl:x0=_:=QAK (hh 0 rfl);obtain rfl:x1=_:=QAK (hh 1 rfl);obtain rfl:x2=_:=QAK (hh 2 rfl);obtain rfl:x3=_:=QAK (hh 3 rfl);obtain rfl:x4=_:=QAK (hh 4 rfl);obtain rfl:x5=_:=QAK (hh 5 rfl);obtain rfl:x6=_:=QAK (hh 6 rfl);obtain rfl:x7=_:=QAK (hh 7 rfl);obtain rfl:x8=_:=QAK (hh 8 rfl);obtain rfl:x9=_:=QAK (hh 9 rfl);obtain rfl:x31=_:=Option.some.inj t31;clear hh hold hgot t31 p31;have HB1:Hid (Below w.heap.size w wx):=QAC HB.out hB;clear hB;go_wp2_with fail;go_roundg (l.length - (i+1))
     case measure=>have:=HG.out;omega
     case rel=>exact⟨i+1,by omega,rfl,by go_num,HB1⟩
   ·have h0I:(0:Int) < (i:Int):=by omega
    (obtain⟨t0,ht0⟩:∃ t0,l[i - 1]? = some t0:=⟨_,List.getElem?_eq_getElem (by omega)⟩);have HC0:Hid (wr.cell? ⟨b,off+(i - 1),none⟩=some (.string ⟨t0.toArray⟩)):=(HB.out.cell (p:=⟨b,off+(i - 1),none⟩) (QAI (hcc (i - 1) t0 ht0))).trans (hcc (i - 1) t0 ht0);(have hrise:=HU.out (i - 1) t0 t ht0 (by rw [show i - 1+1=i by omega];exact ht));(have hm1:IntKind.i64.wrap ((i:Int) - 1)=(i:Int) - 1:=by rw [IntKind.wrap_i64];omega);(have hm2:(0:Int)≤(i:Int) - 1:=by omega);(have hm5:(1:Int)≤(i:Int):=by omega);(have hm3:(i:Int) - 1 < (l.length:Int):=by omega);(have hm4:((i:Int) - 1).toNat=i - 1:=by omega);clear hcc ht0 h0;go_wp2_with fail;(refine QAT (by kernel_rfl) [kEq (.slice (some ⟨b,off,none⟩) l.length cap),kEq (.int .i64 (i:Nat)),kEq (.pointer (some ⟨b,off+i,none⟩)),kEq (.string ⟨t.toArray⟩),kEq (.bool true),kEq (.bool false),kEq (.bool false),kEq (.int .i64 (i:Nat)),kEq (.bool true),kEq (.bool true),kEq (.slice (some ⟨b,off,none⟩) l.length cap),kEq (.int .i64 (i:Nat)),kEq (.int .i64 ((i:Int) - 1)),kEq (.pointer (some ⟨b,off+(i - 1),none⟩)),kEq (.string ⟨t0.toArray⟩),kEq (.slice (some ⟨b,off,none⟩) l.length cap),kEq (.int .i64 (i:Nat)),kEq (.pointer (some ⟨b,off+i,none⟩)),kEq (.string ⟨t.toArray⟩),kEq (.bool false),kEq (.bool false),kEq (.bool false)] ?_ (by kernel_rfl) (by kernel_rfl) 32 rfl (by kernel_rfl) ?_ ?_)
    ·intro p hp
     simp only [List.mem_cons,List.not_mem_nil,or_false] at hp
     rcases hp with rfl|rfl|rfl|rfl|rfl|rfl|rfl|rfl|rfl|rfl|rfl|rfl|rfl|rfl|rfl|rfl|rfl|rfl|rfl|rfl|rfl|rfl
     all_goals first|exact QAe _|exact QEz
    ·refine⟨?_,?_,?_,?_,?_,?_,?_,?_,?_,?_,?_,?_,?_,?_,?_,?_,?_,?_,?_,?_,?_,?_,trivial⟩
     ·intro a wx hB hold hdep K hK;have t0:a.tmps[0]? = some (.slice (some ⟨b,off,none⟩) l.length cap):=hold.2.2 0 rfl;clear hold hdep;go_simp;exact hK.out _ _ rfl (Below.refl _ _)
     ·intro a wx hB hold hdep K hK;have t3:a.tmps[3]? = some (.int .i64 (i:Nat)):=hold.2.2 3 rfl;clear hold hdep;go_simp;exact hK.out _ _ rfl (Below.refl _ _)
     ·intro a wx hB hold hdep K hK;have t10:=QAF wx (hdep 0 rfl _ 10 rfl rfl);have t11:=QAF wx (hdep 1 rfl _ 11 rfl rfl);clear hold hdep;go_simp;exact hK.out _ _ rfl (Below.refl _ _)
     ·intro a wx hB hold hdep K hK;have t12:=QAF wx (hdep 2 rfl _ 12 rfl rfl);have y1:=(hB.cell (p:=⟨b,off+i,none⟩) (QAI HC1.out)).trans HC1.out;have y0:=(hB.cell (p:=⟨b,off+(i - 1),none⟩) (QAI HC0.out)).trans HC0.out;clear hold hdep;go_simp;exact hK.out _ _ rfl (Below.refl _ _)
     ·intro a wx hB hold hdep K hK;have t13:=QAF wx (hdep 3 rfl _ 13 rfl rfl);clear hold hdep;go_simp;refine (HNm.out wx).mono ?_;rintro e w2 ⟨rfl,hw2⟩;have hw3:=hw2.symm;clear hw2;subst hw3;exact hK.out _ _ rfl (Below.refl _ _)
     ·intro a wx hB hold hdep K hK;have t14:=QAF wx (hdep 4 rfl _ 14 rfl rfl);clear hold hdep;go_simp;exact hK.out _ _ rfl (Below.refl _ _)
     ·intro a wx hB hold hdep K hK;have t15:=QAF wx (hdep 5 rfl _ 15 rfl rfl);clear hold hdep;go_simp;exact hK.out _ _ rfl (Below.refl _ _)
     ·intro a wx hB hold hdep K hK;have t16:=QAF wx (hdep 6 rfl _ 16 rfl rfl);have t3:a.tmps[3]? = some (.int .i64 (i:Nat)):=hold.2.2 3 rfl;clear hold hdep;go_simp;exact hK.out _ _ rfl (Below.refl _ _)
     ·intro a wx hB hold hdep K hK;have t16:=QAF wx (hdep 6 rfl _ 16 rfl rfl);have t17:=QAF wx (hdep 7 rfl _ 17 rfl rfl);clear hold hdep;go_simp;(exact hK.out _ _ (by show Value.bool _=Value.bool _;simp;omega) (Below.refl _ _))
     ·intro a wx hB hold hdep K hK;have t16:=QAF wx (hdep 6 rfl _ 16 rfl rfl);have t18:=QAF wx (hdep 8 rfl _ 18 rfl rfl);clear hold hdep;go_simp;exact hK.out _ _ rfl (Below.refl _ _)
     ·intro a wx hB hold hdep K hK;have t19:=QAF wx (hdep 9 rfl _ 19 rfl rfl);have t0:a.tmps[0]? = some (.slice (some ⟨b,off,none⟩) l.length cap):=hold.2.2 0 rfl;clear hold hdep;go_simp;exact hK.out _ _ rfl (Below.refl _ _)
     ·intro a wx hB hold hdep K hK;have t19:=QAF wx (hdep 9 rfl _ 19 rfl rfl);have t3:a.tmps[3]? = some (.int .i64 (i:Nat)):=hold.2.2 3 rfl;clear hold hdep;go_simp;exact hK.out _ _ rfl (Below.refl _ _)
     ·intro a wx hB hold hdep K hK;have t19:=QAF wx (hdep 9 rfl _ 19 rfl rfl);have t21:=QAF wx (hdep 11 rfl _ 21 rfl rfl);clear hold hdep;go_simp;exact hK.out _ _ rfl (Below.refl _ _)
     ·intro a wx hB hold hdep K hK;have t19:=QAF wx (hdep 9 rfl _ 19 rfl rfl);have t20:=QAF wx (hdep 10 rfl _ 20 rfl rfl);have t22:=QAF wx (hdep 12 rfl _ 22 rfl rfl);clear hold hdep;go_simp;exact hK.out _ _ rfl (Below.refl _ _)
     ·intro a wx hB hold hdep K hK;have t19:=QAF wx (hdep 9 rfl _ 19 rfl rfl);have t23:=QAF wx (hdep 13 rfl _ 23 rfl rfl);have y1:=(hB.cell (p:=⟨b,off+i,none⟩) (QAI HC1.out)).trans HC1.out;have y0:=(hB.cell (p:=⟨b,off+(i - 1),none⟩) (QAI HC0.out)).trans HC0.out;clear hold hdep;go_simp;exact hK.out _ _ rfl (Below.refl _ _)
     ·intro a wx hB hold hdep K hK;have t19:=QAF wx (hdep 9 rfl _ 19 rfl rfl);have t0:a.tmps[0]? = some (.slice (some ⟨b,off,none⟩) l.length cap):=hold.2.2 0 rfl;clear hold hdep;go_simp;exact hK.out _ _ rfl (Below.refl _ _)
     ·intro a wx hB hold hdep K hK;have t19:=QAF wx (hdep 9 rfl _ 19 rfl rfl);have t3:a.tmps[3]? = some (.int .i64 (i:Nat)):=hold.2.2 3 rfl;clear hold hdep;go_simp;exact hK.out _ _ rfl (Below.refl _ _)
     ·intro a wx hB hold hdep K hK;have t19:=QAF wx (hdep 9 rfl _ 19 rfl rfl);have t25:=QAF wx (hdep 15 rfl _ 25 rfl rfl);have t26:=QAF wx (hdep 16 rfl _ 26 rfl rfl);clear hold hdep;go_simp;exact hK.out _ _ rfl (Below.refl _ _)
     ·intro a wx hB hold hdep K hK;have t19:=QAF wx (hdep 9 rfl _ 19 rfl rfl);have t27:=QAF wx (hdep 17 rfl _ 27 rfl rfl);have y1:=(hB.cell (p:=⟨b,off+i,none⟩) (QAI HC1.out)).trans HC1.out;have y0:=(hB.cell (p:=⟨b,off+(i - 1),none⟩) (QAI HC0.out)).trans HC0.out;clear hold hdep;go_simp;exact hK.out _ _ rfl (Below.refl _ _)
     ·intro a wx hB hold hdep K hK;have t19:=QAF wx (hdep 9 rfl _ 19 rfl rfl);have t24:=QAF wx (hdep 14 rfl _ 24 rfl rfl);have t28:=QAF wx (hdep 18 rfl _ 28 rfl rfl);clear hold hdep;go_simp;exact hK.out _ _ rfl (Below.refl _ _)
     ·intro a wx hB hold hdep K hK;have t16:=QAF wx (hdep 6 rfl _ 16 rfl rfl);have t19:=QAF wx (hdep 9 rfl _ 19 rfl rfl);have t29:=QAF wx (hdep 19 rfl _ 29 rfl rfl);clear hold hdep;go_simp;exact hK.out _ _ rfl (Below.refl _ _)
     ·intro a wx hB hold hdep K hK;have t16:=QAF wx (hdep 6 rfl _ 16 rfl rfl);have t30:=QAF wx (hdep 20 rfl _ 30 rfl rfl);clear hold hdep;go_simp;exact hK.out _ _ rfl (Below.refl _ _)
    ·intro a wx hB hold hgot
     obtain⟨v31,t31,p31⟩:=hgot 21 _ 31 rfl rfl;have e31:v31=(.bool false):=p31;subst e31;obtain⟨tm,df⟩:=a;obtain⟨x0,x1,x2,x3,x4,x5,x6,x7,x8,x9,x10,x11,x12,x13,x14,x15,x16,x17,x18,x19,x20,x21,x22,x23,x24,x25,x26,x27,x28,x29,x30,x31,htm⟩:=QKL tm hold.1;subst htm;obtain rfl:df=[]:=hold.2.1;have hh:=hold.2.2;obtain rfl:x0=_:=QAK (hh 0 rfl);obtain rfl:x1=_:=QAK (hh 1 rfl);obtain rfl:x2=_:=QAK (hh 2 rfl);obtain rfl:x3=_:=QAK (hh 3 rfl);obtain rfl:x4=_:=QAK (hh 4 rfl);obtain rfl:x5=_:=QAK (hh 5 rfl);obtain rfl:x6=_:=QAK (hh 6 rfl);obtain rfl:x7=_:=QAK (hh 7 rfl);obtain rfl:x8=_:=QAK (hh 8 rfl);obtain rfl:x9=_:=QAK (hh 9 rfl);obtain rfl:x31=_:=Option.some.inj t31;clear hh hold hgot t31 p31;have HB1:Hid (Below w.heap.size w wx):=QAC HB.out hB;clear hB;go_wp2_with fail;go_roundg (l.length - (i+1))
     case measure=>have:=HG.out;omega
     case rel=>exact⟨i+1,by omega,rfl,by go_num,HB1⟩
  ·have hge:¬ (i:Int) < (l.length:Int):=by omega
   go_wp2_with fail;go_ret;exact⟨rfl,HB.out⟩
def QNH:Value := .agg #[.string ⟨#[]⟩,.int .i64 0,.string ⟨#[]⟩,.slice none 0 0,.slice none 0 0,.slice none 0 0,.slice none 0 0]
set_option maxRecDepth 10000 in
set_option maxHeartbeats 4000000 in
theorem QHU (w:World):Calls Tryz.prog 13 #[QNH] w fun e w'=>e = .returned (.bool true)∧Below w.heap.size w w':=by
 unfold QNH
 have HN:Hid (∀ W,Calls Tryz.prog 54 #[.agg #[.int .i64 0,.string ⟨#[]⟩,.slice none 0 0]] W fun e w'=>e = .returned (.bool true)∧Below W.heap.size W w'):=fun W=>by
  (have:=QMh 0 ⟨#[]⟩ [] _ W (Rep.def.2 ⟨none,0,rfl,by simp [ByteArray.size,maxLen],Nat.le_refl _,by simp [maxLen],fun h=>absurd rfl h⟩));exact this
 have HB0:Hid (Below w.heap.size w (w.alloc (.cells #[.string ⟨#[]⟩,.int .i64 0,.string ⟨#[]⟩,.slice none 0 0,.slice none 0 0,.slice none 0 0,.slice none 0 0] 32 (0,0)))):=QAB (Below.refl _ w) _;have HQ0:Hid ((w.alloc (.cells #[.string ⟨#[]⟩,.int .i64 0,.string ⟨#[]⟩,.slice none 0 0,.slice none 0 0,.slice none 0 0,.slice none 0 0] 32 (0,0))).heap[w.heap.size]? = _):=QAH _ _
 go_enter Tryz.func13,Tryz.ntmps13
 go_wp2_with fail;refine (HN.out _).mono ?_;rintro e w1 ⟨rfl,hb1⟩;have HB1:Hid (Below w.heap.size w w1):=QAC HB0.out hb1;obtain⟨q0,q1,q2,q3,q4,q5,q6⟩:=QAj (QAA hb1 HQ0.out);clear hb1;go_wp2_with fail;go_ret;exact⟨rfl,HB1.out⟩
theorem QNQ (a:Array Value) (h:a.size=10):∃ x0 x1 x2 x3 x4 x5 x6 x7 x8 x9,a=#[x0,x1,x2,x3,x4,x5,x6,x7,x8,x9]:=by
 obtain⟨l⟩:=a;have h0:l.length=10:=h;obtain⟨x0,l1,e0,h1⟩:=QAD h0;obtain⟨x1,l2,e1,h2⟩:=QAD h1;obtain⟨x2,l3,e2,h3⟩:=QAD h2;obtain⟨x3,l4,e3,h4⟩:=QAD h3;obtain⟨x4,l5,e4,h5⟩:=QAD h4;obtain⟨x5,l6,e5,h6⟩:=QAD h5;obtain⟨x6,l7,e6,h7⟩:=QAD h6;obtain⟨x7,l8,e7,h8⟩:=QAD h7;obtain⟨x8,l9,e8,h9⟩:=QAD h8;obtain⟨x9,l10,e9,h10⟩:=QAD h9;have e10:l10=[]:=List.length_eq_zero_iff.1 h10;subst e10 e9 e8 e7 e6 e5 e4 e3 e2 e1 e0;exact⟨x0,x1,x2,x3,x4,x5,x6,x7,x8,x9,rfl⟩
def tLs (S:Nat) (l:List Fm):QCV:=fun v w _=>∃ ad cp,v = .slice ad l.length cp∧FLp (S≤·) w (.slice ad l.length cp) l
theorem QEu (S:Nat) (l:List Fm):QCF (tLs S l):=fun _ _ _ _ _ ⟨ad,cp,e,h⟩ hb _=>⟨ad,cp,e,h.up hb⟩
def tTw (S:Nat) (l r:List Fm):QCV:=fun v w _=>∃ ad cp ad' cp',v = .agg #[.slice ad l.length cp,.slice ad' r.length cp']∧FLp (S≤·) w (.slice ad l.length cp) l∧FLp (S≤·) w (.slice ad' r.length cp') r
theorem QGv (S:Nat) (l r:List Fm):QCF (tTw S l r):=fun _ _ _ _ _ ⟨a,c,a',c',e,h,h'⟩ hb _=>⟨a,c,a',c',e,h.up hb,h'.up hb⟩
set_option maxRecDepth 10000 in
set_option maxHeartbeats 8000000 in
theorem QJV (l r:List Fm) (hll:l.length≤300) (hrl:r.length≤300) (hsl:∀ f∈l,Slim f) (hsr:∀ f∈r,Slim f) (v v':Value) (w:World) (h:FL w v l) (h':FL w v' r) :
  Calls Tryz.prog 9 #[.agg #[v,v']] w fun e w'=>∃ u1 u2,e = .returned (.agg #[u1,u2])∧FLp (w.heap.size≤·) w' u1 l∧FLp (w.heap.size≤·) w' u2 r∧Below w.heap.size w w':=by
 have h1:=h;have h2:=h';obtain⟨aL,cL,rfl,-⟩:=h;obtain⟨aR,cR,rfl,-⟩:=h';obtain⟨W,hW⟩:∃ W,W=(w.alloc (.cells #[.slice aL l.length cL,.slice aR r.length cR] 24 (0,0))).alloc (.cells #[.slice none 0 0,.slice none 0 0] 24 (0,0)):=⟨_,rfl⟩;(have HB0:Hid (Below w.heap.size w W):=by rw [hW];exact QAB (QAB (Below.refl _ w) _) _);(have HZ:Hid (W.heap[w.heap.size]? = some (.cells #[.slice aL l.length cL,.slice aR r.length cR] 24 (0,0))):=by rw [hW];exact QAG (QAH w _) _);(have HY:Hid (W.heap[w.heap.size+1]? = some (.cells #[.slice none 0 0,.slice none 0 0] 24 (0,0))):=by rw [hW];exact QAa w _ _);(have HL:Hid (∀ wx,Below W.heap.size W wx→Calls Tryz.prog 23 #[.slice aL l.length cL] wx fun e w'=>∃ ad cp,e = .returned (.slice ad l.length cp)∧FLp (wx.heap.size≤·) w' (.slice ad l.length cp) l∧Below wx.heap.size wx w'):=fun wx hb=>(QFC l hll hsl _ wx (h1.up (QAC HB0.out hb))).mono fun e w' ⟨ad,cp,e1,k,b⟩=>⟨ad,cp,e1,k.fl,b⟩);(have HR:Hid (∀ wx,Below W.heap.size W wx→Calls Tryz.prog 23 #[.slice aR r.length cR] wx fun e w'=>∃ ad cp,e = .returned (.slice ad r.length cp)∧FLp (wx.heap.size≤·) w' (.slice ad r.length cp) r∧Below wx.heap.size wx w'):=fun wx hb=>(QFC r hrl hsr _ wx (h2.up (QAC HB0.out hb))).mono fun e w' ⟨ad,cp,e1,k,b⟩=>⟨ad,cp,e1,k.fl,b⟩);clear h1 h2 hsl hsr
 go_enter Tryz.func9,Tryz.ntmps9
 go_wp2_with fail;rw [← hW];clear hW;(refine QCd (by kernel_rfl) [tEq (.pointer (some ⟨w.heap.size,0,none⟩)),tEq (.slice aL l.length cL),tLs W.heap.size l,tEq (.pointer (some ⟨w.heap.size,1,none⟩)),tEq (.slice aR r.length cR),tLs W.heap.size r,tTw W.heap.size l r] ?_ (by kernel_rfl) (by kernel_rfl) 10 rfl (by kernel_rfl) 7 _ rfl rfl (by kernel_rfl) [] 0 (by omega) (fun x _ y=>Below x.heap.size x y) (fun _ y=>Below W.heap.size W y) (Below.refl _ _) (fun _ _ _ h hb=>QAC h hb) (fun _ _ _ h hb=>QAC h hb) [] (by kernel_rfl) ?_ ?_ ?_)
 ·intro p hp
  simp only [List.mem_cons,List.not_mem_nil,or_false] at hp
  rcases hp with rfl|rfl|rfl|rfl|rfl|rfl|rfl
  all_goals first|exact QDP _|exact QEu _ _|exact QGv _ _ _
 ·refine⟨?_,?_,?_,?_,?_,?_,?_,trivial⟩
  ·exact fun _ _ _ _ _ _ h _ _=>h
  ·exact fun _ _ _ _ _ _ h _ _=>h
  ·exact fun _ v w t w2 t2 h hb ht=>(QEu _ _) v w t w2 t2 h hb ht
  ·exact fun _ _ _ _ _ _ h _ _=>h
  ·exact fun _ _ _ _ _ _ h _ _=>h
  ·exact fun _ v w t w2 t2 h hb ht=>(QEu _ _) v w t w2 t2 h hb ht
  ·exact fun _ v w t w2 t2 h hb ht=>(QGv _ _ _) v w t w2 t2 h hb ht
 ·refine⟨?_,?_,?_,?_,?_,?_,?_,trivial⟩
  ·intro a wx tg s hB hs hold hdep K hK;have t1:a.tmps[1]? = some (.pointer (some ⟨w.heap.size,0,none⟩)):=hold.2.2 1 rfl;clear hold hdep hs hB;go_simp;exact hK.out _ _ rfl (Below.refl _ _)
  ·intro a wx tg s hB hs hold hdep K hK;obtain⟨v3,t3,q3⟩:=hdep 0 rfl _ 3 rfl rfl;have e3:v3=(.pointer (some ⟨w.heap.size,0,none⟩)):=q3;subst e3;obtain⟨y0,y1,-⟩:=QAV (QAA hB HZ.out);clear hold hdep hs hB;go_simp;exact hK.out _ _ rfl (Below.refl _ _)
  ·intro a wx tg s hB hs hold hdep K hK;obtain⟨v4,t4,q4⟩:=hdep 1 rfl _ 4 rfl rfl;have e4:v4=(.slice aL l.length cL):=q4;subst e4;have hb9:=hB;clear hold hdep hs hB;go_simp;refine (HL.out wx hb9).mono ?_;rintro e w2 ⟨ad,cp,rfl,hu,hb2⟩;have hs9:=hb9.size;exact hK.out _ _ ⟨ad,cp,rfl,hu.move fun b _ hb=>⟨rfl,by omega⟩⟩ hb2
  ·intro a wx tg s hB hs hold hdep K hK;have t1:a.tmps[1]? = some (.pointer (some ⟨w.heap.size,0,none⟩)):=hold.2.2 1 rfl;clear hold hdep hs hB;go_simp;exact hK.out _ _ rfl (Below.refl _ _)
  ·intro a wx tg s hB hs hold hdep K hK;obtain⟨v6,t6,q6⟩:=hdep 3 rfl _ 6 rfl rfl;have e6:v6=(.pointer (some ⟨w.heap.size,1,none⟩)):=q6;subst e6;obtain⟨y0,y1,-⟩:=QAV (QAA hB HZ.out);clear hold hdep hs hB;go_simp;exact hK.out _ _ rfl (Below.refl _ _)
  ·intro a wx tg s hB hs hold hdep K hK;obtain⟨v7,t7,q7⟩:=hdep 4 rfl _ 7 rfl rfl;have e7:v7=(.slice aR r.length cR):=q7;subst e7;have hb9:=hB;clear hold hdep hs hB;go_simp;refine (HR.out wx hb9).mono ?_;rintro e w2 ⟨ad,cp,rfl,hu,hb2⟩;have hs9:=hb9.size;exact hK.out _ _ ⟨ad,cp,rfl,hu.move fun b _ hb=>⟨rfl,by omega⟩⟩ hb2
  ·intro a wx tg s hB hs hold hdep K hK;obtain⟨v5,t5,a5,c5,e5,q5⟩:=hdep 2 rfl _ 5 rfl rfl;obtain⟨v8,t8,a8,c8,e8,q8⟩:=hdep 5 rfl _ 8 rfl rfl;subst e5 e8;have Q5:Hid (FLp _ _ _ _):=q5;have Q8:Hid (FLp _ _ _ _):=q8;clear q5 q8;clear hold hdep hs hB;go_simp;exact hK.out _ _ ⟨a5,c5,a8,c8,rfl,Q5.out,Q8.out⟩ (Below.refl _ _)
 ·intro a wx tg hB hold hgot K hK
  (obtain⟨v9,t9,a5,c5,a8,c8,e9,q5,q8⟩:=hgot 6 _ 9 (by omega) rfl rfl rfl);subst e9;have HBx:Hid (Below W.heap.size W wx):=hB;have H5:Hid (FLp (W.heap.size≤·) wx (.slice a5 l.length c5) l):=q5;have H8:Hid (FLp (W.heap.size≤·) wx (.slice a8 r.length c8) r):=q8;have HP:Hid (wx.heap[w.heap.size+1]? = some (.cells #[.slice none 0 0,.slice none 0 0] 24 (0,0))):=QAA HBx.out HY.out;obtain⟨y0,y1,z0,z1⟩:=QAV HP.out;obtain⟨tm,df⟩:=a;obtain⟨x0,x1,x2,x3,x4,x5,x6,x7,x8,x9,htm⟩:=QNQ tm hold.1;subst htm;obtain rfl:df=[]:=hold.2.1;have hh:=hold.2.2;obtain rfl:x0=_:=QAK (hh 0 rfl);obtain rfl:x1=_:=QAK (hh 1 rfl);obtain rfl:x2=_:=QAK (hh 2 rfl);obtain rfl:x9=_:=Option.some.inj t9;clear hh hold hgot hB t9 q5 q8;go_simp;refine hK.out _ _ ?_;go_wp2_with fail;obtain⟨Wf,hWf⟩:∃ Wf,Wf=(wx.setCell ⟨w.heap.size+1,0,none⟩ (.slice a5 l.length c5)).setCell ⟨w.heap.size+1,1,none⟩ (.slice a8 r.length c8):=⟨_,rfl⟩;rw [← hWf]
  have hE:Wf.heap[w.heap.size+1]? = some (.cells #[.slice a5 l.length c5,.slice a8 r.length c8] 24 (0,0)):=by
   rw [hWf,QAS (QAS HP.out _) _];rfl
  obtain⟨m0,m1,-⟩:=QAV hE;have hzW:=QAE HY.out
  have hBf:Below w.heap.size w Wf:=by
   rw [hWf];(exact ((HB0.out.trans (HBx.out.mono (by omega))).setCell (p:=⟨w.heap.size+1,0,none⟩) (by simp) _).setCell (p:=⟨w.heap.size+1,1,none⟩) (by simp) _)
  (have mv:∀ b,W.heap.size≤b→Wf.heap[b]? = wx.heap[b]? := fun b hb=>by rw [hWf,QAJ _ (by omega),QAJ _ (by omega)]);(refine bodyPost_ret (v := .agg #[.slice a5 l.length c5,.slice a8 r.length c8]) (by clear hWf;simp [results,Tryz.results9,go_sem,m0,m1]) rfl ⟨_,_,rfl,?_,?_,hBf⟩)
  ·exact H5.out.move fun b _ hb=>⟨mv b hb,by omega⟩
  ·exact H8.out.move fun b _ hb=>⟨mv b hb,by omega⟩
end Go.Proofs.YtbmedfokpgghiacGreat
