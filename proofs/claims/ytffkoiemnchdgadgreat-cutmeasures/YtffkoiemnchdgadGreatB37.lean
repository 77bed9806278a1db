import Derived.Test.YtffkoiemnchdgadGreatB33
import Derived.Test.YtffkoiemnchdgadGreatB34
import Derived.Test.YtffkoiemnchdgadGreatB20
namespace Go.Proofs.YtffkoiemnchdgadGreat
open Go.RowKit
theorem QDe {f g:Fm}:∀ (i:Nat) (fs:List Fm),QAh f (fs.take i)=false→fs[i]? = some g→QAZ g f=true→fs.erase f=fs.take i++fs.drop (i+1)
 | _,[],_,h,_=>by simp at h
 | 0,x :: fs,_,h,hs=>by
  simp at h;subst h;rw [List.erase_cons,if_pos (show (x == f)=true from hs)]
  simp
 | i+1,x :: fs,hn,h,hs=>by
  rw [List.take_succ_cons] at hn;unfold QAh at hn;rw [List.any_cons,Bool.or_eq_false_iff] at hn;(rw [List.erase_cons,if_neg (by rw [show (x == f)=QAZ x f from rfl,hn.1];decide),QDe i fs hn.2 (by simpa using h) hs])
  simp
def tSl (n c:Nat) (P:Option Addr→Prop):QDJ:=fun v _ _=>∃ ad,v = .slice ad n c∧P ad
theorem QIc (n c:Nat) (P:Option Addr→Prop):QDu (tSl n c P):=fun _ _ _ _ _ h _ _=>h
theorem QJZ (a:Array Value) (h:a.size=29):∃ x0 x1 x2 x3 x4 x5 x6 x7 x8 x9 x10 x11 x12 x13 x14 x15 x16 x17 x18 x19 x20 x21 x22 x23 x24 x25 x26 x27 x28,a=#[x0,x1,x2,x3,x4,x5,x6,x7,x8,x9,x10,x11,x12,x13,x14,x15,x16,x17,x18,x19,x20,x21,x22,x23,x24,x25,x26,x27,x28]:=by
 obtain⟨l⟩:=a;have h0:l.length=29:=h;obtain⟨x0,l1,e0,h1⟩:=QAH h0;obtain⟨x1,l2,e1,h2⟩:=QAH h1;obtain⟨x2,l3,e2,h3⟩:=QAH h2;obtain⟨x3,l4,e3,h4⟩:=QAH h3;obtain⟨x4,l5,e4,h5⟩:=QAH h4;obtain⟨x5,l6,e5,h6⟩:=QAH h5;obtain⟨x6,l7,e6,h7⟩:=QAH h6;obtain⟨x7,l8,e7,h8⟩:=QAH h7;obtain⟨x8,l9,e8,h9⟩:=QAH h8;obtain⟨x9,l10,e9,h10⟩:=QAH h9;obtain⟨x10,l11,e10,h11⟩:=QAH h10;obtain⟨x11,l12,e11,h12⟩:=QAH h11;obtain⟨x12,l13,e12,h13⟩:=QAH h12;obtain⟨x13,l14,e13,h14⟩:=QAH h13;obtain⟨x14,l15,e14,h15⟩:=QAH h14;obtain⟨x15,l16,e15,h16⟩:=QAH h15;obtain⟨x16,l17,e16,h17⟩:=QAH h16;obtain⟨x17,l18,e17,h18⟩:=QAH h17;obtain⟨x18,l19,e18,h19⟩:=QAH h18;obtain⟨x19,l20,e19,h20⟩:=QAH h19;obtain⟨x20,l21,e20,h21⟩:=QAH h20;obtain⟨x21,l22,e21,h22⟩:=QAH h21;obtain⟨x22,l23,e22,h23⟩:=QAH h22;obtain⟨x23,l24,e23,h24⟩:=QAH h23;obtain⟨x24,l25,e24,h25⟩:=QAH h24;obtain⟨x25,l26,e25,h26⟩:=QAH h25;obtain⟨x26,l27,e26,h27⟩:=QAH h26;obtain⟨x27,l28,e27,h28⟩:=QAH h27;obtain⟨x28,l29,e28,h29⟩:=QAH h28;have e29:l29=[]:=List.length_eq_zero_iff.1 h29;subst e29 e28 e27 e26 e25 e24 e23 e22 e21 e20 e19 e18 e17 e16 e15 e14 e13 e12 e11 e10 e9 e8 e7 e6 e5 e4 e3 e2 e1 e0;exact⟨x0,x1,x2,x3,x4,x5,x6,x7,x8,x9,x10,x11,x12,x13,x14,x15,x16,x17,x18,x19,x20,x21,x22,x23,x24,x25,x26,x27,x28,rfl⟩
def tAp (A S:Nat) (l:List Fm):QDJ:=fun v w _=>∃ ad cp,v = .slice ad l.length cp∧AppL A S l ad cp w
theorem QIa (A S:Nat) (l:List Fm):QDu (tAp A S l):=fun _ w _ _ _ h hb _=>by
 obtain⟨ad,cp,hv,ha⟩:=h;exact⟨ad,cp,hv,ha.up hb⟩
set_option maxRecDepth 10000 in
set_option maxHeartbeats 4000000 in
theorem QAw (fs:List Fm) (hl:fs.length≤1000) (f:Fm) (v u:Value) (w:World) (h:FL w v fs) (hu:Rep w (fun _=>True) f u) :
  Calls Tryz.prog 143 #[v,u] w fun e w'=>∃ x,e = .returned x∧FL w' x (fs.erase f)∧Below w.heap.size w w':=by
 have HV:Hid (FLp (· < w.heap.size) w v fs):=h.low;obtain⟨ad,cap,rfl,h1,h2,h3⟩:=h;obtain⟨kf,nf,ksf⟩:=f;obtain⟨slf,capf,rfl⟩:=QAJ hu;(have hlI:(fs.length:Int)≤1000:=by omega);(have H3:Hid (fs≠[]→∃ b off,ad=some ⟨b,off,none⟩∧Reps w (fun _=>True) b off fs):=h3);clear h3
 go_enter Tryz.func143,Tryz.ntmps143
 go_wp2_with fail
 go_loopg [5] fs.length (fun g c wr=>∃ i,i≤fs.length∧g=fs.length - i∧c = .int .i64 (i:Nat)∧Below w.heap.size w wr∧wr.heap[w.heap.size]? = some (.cells #[.int .i64 kf,.string nf,.slice slf ksf.length capf] 24 (0,0))∧Hid (QAh (.mk kf nf ksf) (fs.take i)=false))
 case atStart=>exact⟨0,by omega,by omega,rfl,(Below.refl _ _).alloc (Nat.le_refl _) _,QAG _ _,by show _=_;rfl⟩
 case round =>
  obtain⟨i,hi,hg,rfl,hbr,q0,HN⟩:=hrel;have HG:Hid (gk=fs.length - i):=hg;clear hg;obtain⟨e0,e1,e2,-⟩:=QAX q0;have z0:=QAE q0;by_cases hlt:i < fs.length
  ·obtain⟨⟨k2,n2,ks2⟩,hki⟩:∃ f,fs[i]? = some f:=⟨_,List.getElem?_eq_getElem hlt⟩
   (obtain⟨b,off,rfl,hrs⟩:=H3.out (fun e=>by rw [e] at hlt;simp at hlt));obtain⟨sl2,cap2,g0,g1,g2,hrep2⟩:=(hrs.up hbr).at i k2 n2 ks2 hki;(have hltI:(i:Int) < (fs.length:Int):=by omega);(have hlc:(i:Int) < (cap:Int):=by omega);have zb:=QAI g0;have zz:=hbr.size;have hrepf:=hu.up hbr;(have hsm:=fun v u w h1 h2=>QER (.mk k2 n2 ks2) (.mk kf nf ksf) v u w h1 h2)
   have hnx:QAh (.mk kf nf ksf) (fs.take (i+1))=(QAh (.mk kf nf ksf) (fs.take i) || QAZ (.mk k2 n2 ks2) (.mk kf nf ksf)):=by
    unfold QAh;rw [List.take_add_one,hki,List.any_append]
    simp
   (have hin:QAZ (.mk k2 n2 ks2) (.mk kf nf ksf)=true→fs.erase (.mk kf nf ksf)=fs.take i++fs.drop (i+1):=fun h=>QDe i fs HN.out hki h);simp only at zb;generalize hbb:QAZ (.mk k2 n2 ks2) (.mk kf nf ksf)=bb at hsm hnx hin;have HS:Hid (∀ v u w,_→_→Calls Tryz.prog 78 #[v,u] w _):=hsm
   have HX:Hid (QAh (.mk kf nf ksf) (fs.take (i+1))=bb):=by
    show _=_;rw [hnx,HN.out,Bool.false_or]
   have HI:Hid (bb=true→fs.erase (.mk kf nf ksf)=fs.take i++fs.drop (i+1)):=hin;clear hki hrs H3 hsm hnx hin hbb;go_wp2_with fail
   go_region_held3 (fun w'=>w'.cell? ⟨b,off+i * 3,none⟩=some (.int .i64 k2)∧w'.cell? ⟨b,off+i * 3+1,none⟩=some (.string n2)∧w'.cell? ⟨b,off+i * 3+2,none⟩=some (.slice sl2 ks2.length cap2)∧w'.cell? ⟨w.heap.size,0,none⟩=some (.int .i64 kf)∧w'.cell? ⟨w.heap.size,1,none⟩=some (.string nf)∧w'.cell? ⟨w.heap.size,2,none⟩=some (.slice slf ksf.length capf)) (go_keep)
    (
     first
     | (
      go_at_call 78
      refine (HS.out _ _ _ (hrep2.up (Below.refl _ _).drew) (hrepf.up (Below.refl _ _).drew)).mono ?_;rintro e w1 ⟨rfl,hb1⟩;have c3:=(hb1.cell (p:=⟨b,off+i * 3,none⟩) zb).trans g0;have c4:=(hb1.cell (p:=⟨b,off+i * 3+1,none⟩) zb).trans g1;have c5:=(hb1.cell (p:=⟨b,off+i * 3+2,none⟩) zb).trans g2;have c6:=(hb1.cell (p:=⟨w.heap.size,0,none⟩) z0).trans e0;have c7:=(hb1.cell (p:=⟨w.heap.size,1,none⟩) z0).trans e1
      have c8:=(hb1.cell (p:=⟨w.heap.size,2,none⟩) z0).trans e2)
     | fail)
   have hb2:Below w.heap.size w w1:=hbr.drew.trans (hb1.mono zz);have q1:=(hb1.block _ z0).trans q0;clear c3 c4 c5 c6 c7 c8
   cases bb
   ·go_wp2_with fail
    go_roundg (fs.length - (i+1))
    case measure=>have:=HG.out;omega
    case rel=>exact⟨i+1,by omega,rfl,by go_num,hb2,q1,HX⟩
   ·have HE:Hid (fs.erase (.mk kf nf ksf)=fs.take i++fs.drop (i+1)):=HI.out rfl
    clear HI HX g0 g1 g2 e0 e1 e2;have HB2:Hid (Below w.heap.size w w1):=hb2;have hs1:=hb2.size;(have htk:(fs.take i).length=i:=by rw [List.length_take];omega);(have hdr:(fs.drop (i+1)).length=fs.length - (i+1):=by rw [List.length_drop]);have HTK:Hid ((fs.take i).length=i∧(fs.drop (i+1)).length=fs.length - (i+1)):=⟨htk,hdr⟩;(have hi1:((i:Int)+1)≤(fs.length:Int):=by omega);(have hi2:((i:Int)+1)≤(cap:Int):=by omega);(have hcap:(fs.length:Int)≤(cap:Int):=by omega);(have hN1:i≤cap:=by omega);have hN2:i+1≤fs.length:=hlt;(have hN3:i+1≤cap:=by omega);(have hw1:IntKind.i64.wrap ((i:Int)+1)=(i:Int)+1:=QDI (i+1) (by omega));clear htk hdr;go_wp2_with fail;(refine QEe (by kernel_rfl) [tEq (.slice (some ⟨b,off,none⟩) fs.length cap),tEq (.int .i64 (i:Nat)),tEq (.slice (some ⟨b,off,none⟩) i cap),tAp w.heap.size w1.heap.size (fs.take i),tEq (.slice (some ⟨b,off,none⟩) fs.length cap),tEq (.int .i64 (i:Nat)),tEq (.int .i64 ((i:Int)+1)),tSl (fs.length - (i+1)) (cap - (i+1)) (fun ad=>i+1 < fs.length→ad=some ⟨b,off+(i+1) * 3,none⟩),tAp w.heap.size w1.heap.size (fs.take i++fs.drop (i+1))] ?_ (by kernel_rfl) (by kernel_rfl) 29 rfl (by kernel_rfl) 9 _ rfl rfl (by kernel_rfl) [3] 8 (by decide) (fun wa _ wb=>Below w1.heap.size wa wb) (fun _ wx=>Below w1.heap.size w1 wx) (Below.refl _ _) (fun _ wa wb h1 h2=>QAC h1 h2) (fun wa _ wb h1 h2=>h1.trans h2) [] (by kernel_rfl) ?_ ?_ ?_)
    ·intro p hp
     simp only [List.mem_cons,List.not_mem_nil,or_false] at hp
     rcases hp with rfl|rfl|rfl|rfl|rfl|rfl|rfl|rfl|rfl
     all_goals first|exact QIb _|exact QIa _ _ _|exact QIc _ _ _
    ·refine⟨fun _ _ _ _ _ _ h _ _=>h,fun _ _ _ _ _ _ h _ _=>h,fun _ _ _ _ _ _ h _ _=>h,fun h => ?_,fun _ _ _ _ _ _ h _ _=>h,fun _ _ _ _ _ _ h _ _=>h,fun _ _ _ _ _ _ h _ _=>h,fun _ _ _ _ _ _ h _ _=>h,fun h => ?_,trivial⟩
     all_goals exact Bool.noConfusion (((by kernel_rfl:(_:Bool)=true)).symm.trans h)
    ·refine⟨?_,?_,?_,?_,?_,?_,?_,?_,?_,trivial⟩
     ·intro a wx t s hB hs hold hdep K hK
      have t0:a.tmps[0]? = some (.slice (some ⟨b,off,none⟩) fs.length cap):=hold.2.2 0 rfl;clear hold hdep hs;go_simp;exact hK.out _ _ rfl (Below.refl _ _)
     ·intro a wx t s hB hs hold hdep K hK
      have t5:a.tmps[5]? = some (.int .i64 (i:Nat)):=hold.2.2 5 rfl;clear hold hdep hs;go_simp;exact hK.out _ _ rfl (Below.refl _ _)
     ·intro a wx t s hB hs hold hdep K hK
      obtain⟨v18,t18,p18⟩:=hdep 0 rfl _ 18 rfl rfl;have e18:v18=(.slice (some ⟨b,off,none⟩) fs.length cap):=p18;subst e18;obtain⟨v19,t19,p19⟩:=hdep 1 rfl _ 19 rfl rfl;have e19:v19=(.int .i64 (i:Nat)):=p19;subst e19;clear hold hdep hs;go_simp;exact hK.out _ _ rfl (Below.refl _ _)
     ·intro a wx t s hB hs hold hdep K hK
      obtain⟨v20,t20,p20⟩:=hdep 2 rfl _ 20 rfl rfl;have e20:v20=(.slice (some ⟨b,off,none⟩) i cap):=p20;subst e20;have hzx:=hB.size;(refine QFF rfl _ _ rfl w.heap.size w1.heap.size [] (fs.take i) none 0 _ rfl AppL.nil (QDZ t20) ((HV.out.take hi).move fun q hq hp=>⟨(QAC HB2.out hB).block q hq,hp⟩) hs1 hzx (by have:=HTK.out.1;simp;omega) ?_);intro ad3 cp3 w3 ha hb hkk;(exact hK.out _ _ ⟨ad3,cp3,rfl,ha⟩ ⟨hb.os,hb.tape,hb.output,hb.size,fun j hj=>hkk j (by simp [Value.ownBlock]) hj⟩)
     ·intro a wx t s hB hs hold hdep K hK
      have t0:a.tmps[0]? = some (.slice (some ⟨b,off,none⟩) fs.length cap):=hold.2.2 0 rfl;clear hold hdep hs;go_simp;exact hK.out _ _ rfl (Below.refl _ _)
     ·intro a wx t s hB hs hold hdep K hK
      have t5:a.tmps[5]? = some (.int .i64 (i:Nat)):=hold.2.2 5 rfl;clear hold hdep hs;go_simp;exact hK.out _ _ rfl (Below.refl _ _)
     ·intro a wx t s hB hs hold hdep K hK
      obtain⟨v23,t23,p23⟩:=hdep 5 rfl _ 23 rfl rfl;have e23:v23=(.int .i64 (i:Nat)):=p23;subst e23;clear hold hdep hs;go_simp;exact hK.out _ _ rfl (Below.refl _ _)
     ·intro a wx t s hB hs hold hdep K hK
      obtain⟨v22,t22,p22⟩:=hdep 4 rfl _ 22 rfl rfl;have e22:v22=(.slice (some ⟨b,off,none⟩) fs.length cap):=p22;subst e22;obtain⟨v24,t24,p24⟩:=hdep 6 rfl _ 24 rfl rfl;have e24:v24=(.int .i64 ((i:Int)+1)):=p24;subst e24;clear hold hdep hs;by_cases hcc:cap=i+1
      ·have hcn:¬ i+1 < fs.length:=by omega
       (have hc0:cap - (i+1)=0:=by omega);have HC0:Hid (cap - (i+1)=0):=hc0;clear hc0;go_simp;(exact hK.out _ _ ⟨_,by rw [HC0.out],fun h=>absurd h hcn⟩ (Below.refl _ _))
      ·go_simp
       (exact hK.out _ _ ⟨_,rfl,fun _=>rfl⟩ (Below.refl _ _))
     ·intro a wx t s hB hs hold hdep K hK
      obtain⟨v21,t21,ad1,cp1,e21,ha1⟩:=hdep 3 rfl _ 21 rfl rfl;obtain⟨v25,t25,ad5,e25,h25⟩:=hdep 7 rfl _ 25 rfl rfl;subst e21 e25;have hzx:=hB.size;(refine QFF rfl _ _ rfl w.heap.size w1.heap.size (fs.take i) (fs.drop (i+1)) ad1 cp1 _ (QDZ t21) ha1 (QDZ t25) ((HV.out.drop hN2 h25).move fun q hq hp=>⟨(HB2.out.trans (hB.mono hs1)).block q hp,hp⟩) hs1 hzx (by have:=HTK.out;omega) ?_);intro ad3 cp3 w3 ha hb hkk;exact hK.out _ _ ⟨ad3,cp3,rfl,ha⟩ hb
    ·intro a wx t hB hold hgot K hK
     (obtain⟨v26,t26,ad3,cp3,e26,ha⟩:=hgot 8 _ 26 (by omega) (by kernel_rfl) rfl rfl);subst e26;have HA3:Hid (AppL w.heap.size w1.heap.size (fs.take i++fs.drop (i+1)) ad3 cp3 wx):=ha;obtain⟨tm,df⟩:=a;obtain⟨x0,x1,x2,x3,x4,x5,x6,x7,x8,x9,x10,x11,x12,x13,x14,x15,x16,x17,x18,x19,x20,x21,x22,x23,x24,x25,x26,x27,x28,htm⟩:=QJZ tm hold.1;subst htm;obtain rfl:df=[]:=hold.2.1;obtain rfl:x26=_:=Option.some.inj t26;clear hold hgot ha t26;go_simp;refine hK.out _ _ ?_;go_wp2_with fail;go_ret;have hf:=(HA3.out.flp hs1).list;rw [List.length_append,HTK.out.1,HTK.out.2,← HE.out] at hf;exact⟨_,rfl,hf,HB2.out.trans (hB.mono hs1)⟩
  ·have HT:Hid (fs.erase (.mk kf nf ksf)=fs):=by
    have:=HN.out;(rw [List.take_of_length_le (by omega)] at this);show _=_;rw [List.erase_of_not_mem];intro hm;rw [(QCF _ _).2 hm] at this
    cases this
   (have hge:¬ (i:Int) < (fs.length:Int):=by omega);have HB2:Hid (Below w.heap.size w wr):=hbr;have hsz:=hbr.size;clear H3 HN e0 e1 e2
   go_wp2_with (first
    | (
      at_builtin
      (refine QCj rfl _ _ rfl w.heap.size w.heap.size [] fs none 0 _ rfl AppL.nil rfl (HV.out.move fun q hq hp=>⟨HB2.out.block q hp,hp⟩) (Nat.le_refl _) hsz (by simp;omega) ?_);intro ad1 cp1 w1 h1 b1 k1;have H1:Hid (AppL w.heap.size w.heap.size fs ad1 cp1 w1):=h1
      clear h1 k1)
    | fail)
   go_ret;have hf:=(H1.out.flp (Nat.le_refl _)).list;(exact⟨_,rfl,by rw [HT.out];exact hf,HB2.out.trans b1⟩)
theorem QAD {o:Option Value} {c:Value} (w:World) (h:∃ v,o=some v∧kEq c v w):o=some c:=by
 obtain⟨v,h1,h2⟩:=h;have h3:v=c:=h2;rw [h1,h3]
theorem QIf {w X:World} {A Z:Obj} (h:X=((w.alloc A).alloc Z).alloc A):Hid (Below w.heap.size w X)∧Hid (X.heap[w.heap.size]? = some A)∧Hid (X.heap[w.heap.size+1]? = some Z)∧Hid (X.heap[w.heap.size+1+1]? = some A):=by
 subst h;exact⟨QAA (QAA (QAA (Below.refl _ w) _) _) _,QAF (QAF (QAG w _) _) _,QAF (QAd w _ _) _,QCk w _ _ _⟩
theorem QCq {x y:Value} (h:some x=some y):x=y:=Option.some.inj h
def QBO (i:Bool) (q:Ru):Bool :=
 match q with
 | .orR=>!i
 | .contrR=>!i
 | .orR1=>i
 | .orR2=>i
 | _=>true
def QBT (q:Ru) (k:Int) (bl br:Bool):Bool :=
 match q with
 | .ax=>bl && br
 | .tr=>(k == 2) && br
 | .fa=>(k == 3) && bl
 | .andL=>(k == 5) && bl
 | .andR=>(k == 5) && br
 | .orL=>(k == 6) && bl
 | .thenR=>(k == 7) && br
 | .notR=>(k == 4) && br
 | .contrL=>bl
 | .orR=>(k == 6) && br
 | .thenL=>(k == 7) && bl
 | .notL=>(k == 4) && bl
 | .contrR=>br
 | .cut=>true
 | .orR1=>(k == 6) && br
 | .orR2=>(k == 6) && br
theorem QFx (f:Fm) (l:List Fm):QAh f l=decide (f∈l):=by
 rw [Bool.eq_iff_iff,QCF,decide_eq_true_iff]
theorem QBo (q:Ru) (k:Int) (n:ByteArray) (ks:List Fm) (l r:List Fm):QAz q (.mk k n ks) l r=QBT q k (QAh (.mk k n ks) l) (QAh (.mk k n ks) r):=by
 rw [QFx,QFx]
 cases q <;> rfl
def kGd (b:Bool) (x:Value):Value→World→Prop:=fun v _=>b=true→v=x
theorem QAq (b:Bool) (x:Value):QCD (kGd b x):=fun _ _ _ h _=>h
set_option maxHeartbeats 1000000 in
theorem QAY (ad:Option Addr) (m cp:Nat) (ad':Option Addr) (m' cp':Nat) (w:World) :
  Calls Tryz.prog 144 #[.slice ad m cp,.slice ad' m' cp'] w fun e w'=>e = .returned (.agg #[.slice ad m cp,.slice ad' m' cp'])∧Below w.heap.size w w':=by
 have B:=QAA (Below.refl _ w) (.cells #[.slice ad m cp,.slice ad' m' cp'] 28 (0,0))
 go_enter Tryz.func144,Tryz.ntmps144
 go_wp2_with fail;(exact bodyPost_ret (v := .agg #[.slice ad m cp,.slice ad' m' cp']) (by simp [results,Tryz.results144,go_sem]) rfl ⟨rfl,B⟩)
abbrev QAO (w:World) (a0 a1 a2 z0 z1 z2:Value):World:=((w.alloc (.cells #[a0,a1,a2] 24 (0,0))).alloc (.cells #[z0,z1,z2] 24 (0,0))).alloc (.cells #[a0,a1,a2] 24 (0,0))
theorem QEU {w X:World} {a0 a1 a2 z0 z1 z2:Value} (h:X=QAO w a0 a1 a2 z0 z1 z2):Hid (∀ o,(X.alloc o).heap[w.heap.size+1+1+1]? = some o):=by
 intro o;subst h;have:=QCk (w.alloc (.cells #[a0,a1,a2] 24 (0,0))) (.cells #[z0,z1,z2] 24 (0,0)) (.cells #[a0,a1,a2] 24 (0,0)) o
 rwa [show (w.alloc (.cells #[a0,a1,a2] 24 (0,0))).heap.size=w.heap.size+1 by simp] at this
theorem QAj {w w4:World} {k:Int} {n:ByteArray} {ks:List Fm} {sf:Option Addr} {cf:Nat} (h:Rep w (fun _=>True) (.mk k n ks) (.agg #[.int .i64 k,.string n,.slice sf ks.length cf])) (B4:Below w.heap.size w w4) :
  (¬ (0:Int) < (ks.length:Int)∧Hid (Rep w4 (fun _=>True) QCy (.agg #[.int .i64 0,.string ⟨#[]⟩,.slice none 0 0]))∧Hid (Rep w4 (fun _=>True) QCy (.agg #[.int .i64 0,.string ⟨#[]⟩,.slice none 0 0]))∧Hid (Fm.kA (.mk k n ks)=QCy)∧Hid (Fm.kZ (.mk k n ks)=QCy)) ∨
  ∃ (b off m:Nat) (ka:Int) (na:ByteArray) (ksa:List Fm) (sa:Option Addr) (ca:Nat) (kz:Int) (nz:ByteArray) (ksz:List Fm) (sz:Option Addr) (cz:Nat),sf=some ⟨b,off,none⟩∧w4.cell? ⟨b,off,none⟩=some (.int .i64 ka)∧w4.cell? ⟨b,off+1,none⟩=some (.string na)∧w4.cell? ⟨b,off+2,none⟩=some (.slice sa ksa.length ca)∧w4.cell? ⟨b,off+m * 3,none⟩=some (.int .i64 kz)∧w4.cell? ⟨b,off+m * 3+1,none⟩=some (.string nz)∧w4.cell? ⟨b,off+m * 3+2,none⟩=some (.slice sz ksz.length cz)∧((ks.length:Int) - 1=(m:Nat))∧(0:Int) < (ks.length:Int)∧(0:Int) < (cf:Int)∧(m:Int) < (ks.length:Int)∧(m:Int) < (cf:Int)∧¬ b=w4.heap.size∧¬ b=w4.heap.size+1∧0 < ks.length∧b < w4.heap.size∧Hid (Rep w4 (fun _=>True) (.mk ka na ksa) (.agg #[.int .i64 ka,.string na,.slice sa ksa.length ca]))∧Hid (Rep w4 (fun _=>True) (.mk kz nz ksz) (.agg #[.int .i64 kz,.string nz,.slice sz ksz.length cz]))∧Hid (Fm.kA (.mk k n ks) = .mk ka na ksa)∧Hid (Fm.kZ (.mk k n ks) = .mk kz nz ksz):=by
 obtain⟨sf',cf',hv,-,hkc,hcm,hkr⟩:=Rep.def.1 h;simp only [Value.agg.injEq,Array.mk.injEq,List.cons.injEq,Value.slice.injEq,and_true,true_and] at hv;obtain⟨rfl,rfl⟩:=hv;by_cases hke:ks=[]
 ·subst hke
  (exact Or.inl ⟨by simp,Rep.leaf (by simp [maxLen,ByteArray.size]),Rep.leaf (by simp [maxLen,ByteArray.size]),rfl,rfl⟩)
 ·obtain⟨⟨ka,na,ksa⟩,hk0⟩:∃ f,ks[0]? = some f:=⟨_,List.getElem?_eq_getElem (List.length_pos_iff.2 hke)⟩
  have hpos:0 < ks.length:=List.length_pos_iff.2 hke;obtain⟨m,hm⟩:∃ m,m=ks.length - 1:=⟨_,rfl⟩;(obtain⟨⟨kz,nz,ksz⟩,hkz⟩:∃ f,ks[m]? = some f:=⟨_,List.getElem?_eq_getElem (by omega)⟩);obtain⟨b,off,rfl,-,hrs⟩:=hkr hke;obtain⟨sa,ca,g0,g1,g2,hra⟩:=(hrs.up B4).at 0 ka na ksa hk0;obtain⟨sz,cz,u0,u1,u2,hrz⟩:=(hrs.up B4).at m kz nz ksz hkz;simp only [Nat.zero_mul,Nat.add_zero] at g0 g1 g2;have zb:=QAI g0;simp only at zb;(refine Or.inr ⟨b,off,m,ka,na,ksa,sa,ca,kz,nz,ksz,sz,cz,rfl,g0,g1,g2,u0,u1,u2,by omega,by omega,by omega,by omega,by omega,by omega,by omega,hpos,zb,hra,hrz,?_,?_⟩)
  ·show ks.headD QCy=_
   rw [List.headD_eq_head?_getD,List.head?_eq_getElem?,hk0,Option.getD_some]
  ·show ks.getLastD QCy=_
   rw [List.getLastD_eq_getLast?,List.getLast?_eq_getElem?,← hm,hkz,Option.getD_some]
theorem QAs {w w4 X:World} {a0 a1 a2 z0 z1 z2 f2 vl vr vg vd:Value} {F fa fz:Fm} {k:Int} {n:ByteArray} {l r lg rd:List Fm} (hX:X=QAO w4 a0 a1 a2 z0 z1 z2) (B4:Below w.heap.size w w4) (hQ:Hid (w4.heap[w.heap.size]? = some (.cells #[.int .i64 k,.string n,f2] 24 (0,0)))) (hF:Hid (Rep w (fun _=>True) F (.agg #[.int .i64 k,.string n,f2]))) (hA:Hid (Rep w4 (fun _=>True) fa (.agg #[a0,a1,a2]))) (hZ:Hid (Rep w4 (fun _=>True) fz (.agg #[z0,z1,z2]))) (hl:Hid (FL w vl l)) (hr:Hid (FL w vr r)) (hg:Hid (FL w4 vg lg)) (hd:Hid (FL w4 vd rd)) (hkA:Hid (F.kA=fa)) (hkZ:Hid (F.kZ=fz)) :
  ∃ a0 a1 a2 z0 z1 z2 f2 fa fz,Hid (Below w4.heap.size w4 X)∧Hid (X.heap[w4.heap.size]? = some (.cells #[a0,a1,a2] 24 (0,0)))∧Hid (X.heap[w4.heap.size+1]? = some (.cells #[z0,z1,z2] 24 (0,0)))∧Hid (X.heap[w.heap.size]? = some (.cells #[.int .i64 k,.string n,f2] 24 (0,0)))∧Hid (FL X vl l)∧Hid (FL X vr r)∧Hid (FL X vg lg)∧Hid (FL X vd rd)∧Hid (Rep X (fun _=>True) fa (.agg #[a0,a1,a2]))∧Hid (Rep X (fun _=>True) fz (.agg #[z0,z1,z2]))∧Hid (Rep X (fun _=>True) F (.agg #[.int .i64 k,.string n,f2]))∧Hid (FL X (.slice (some ⟨w4.heap.size+1+1,0,none⟩) 1 1) [fa])∧Hid (F.kA=fa)∧Hid (F.kZ=fz):=by
 obtain⟨BX,HBA,HBZ,HBO⟩:=QIf hX;exact⟨a0,a1,a2,z0,z1,z2,f2,fa,fz,BX,HBA,HBZ,QAB BX.out hQ.out,hl.out.up (QAC B4 BX.out),hr.out.up (QAC B4 BX.out),hg.out.up BX.out,hd.out.up BX.out,hA.out.up BX.out,hZ.out.up BX.out,hF.out.up (QAC B4 BX.out),FL.sing HBO.out (hA.out.up BX.out),hkA,hkZ⟩
set_option maxRecDepth 10000 in
set_option maxHeartbeats 8000000 in
theorem QJC (i:Bool) (q:Ru) (t:ByteArray) (hq:(q = .thenL∧t=⟨#[116,104,101,110,45,108]⟩)∨(q = .notL∧t=⟨#[110,111,116,45,108]⟩)) (f:Fm) (l r:List Fm) (hl3:l.length≤300) (hr3:r.length≤300) (v VL VR:Value) (w:World) (hf:Rep w (fun _=>True) f v) (hl:FL w VL l) (hr:FL w VR r) :
  Calls Tryz.prog 113 #[.string t,v,.agg #[VL,VR],.bool i] w fun e w'=>∃ x,e = .returned (.tuple #[x,.bool (QBO i q),.bool (QAz q f l r)])∧SQs w' x (QAb i q f l r)∧Below w.heap.size w w':=by
 obtain⟨k,n,ks⟩:=f;obtain⟨sf,cf,rfl⟩:=QAJ hf;(have HF:Hid (Rep w (fun _=>True) (.mk k n ks) _):=hf);have HL:Hid (FL w VL l):=hl;have HR:Hid (FL w VR r):=hr;have HKS:=(Rep.def.1 hf);obtain⟨sf',cf',hv,-,hkc,hcm,hkr⟩:=HKS;simp only [Value.agg.injEq,Array.mk.injEq,List.cons.injEq,Value.slice.injEq,and_true,true_and] at hv;obtain⟨rfl,rfl⟩:=hv;(have hksI:(ks.length:Int)≤9223372036854775807:=by unfold maxLen at hcm;omega);(have hkcI:(ks.length:Int)≤(cf:Int):=by omega);obtain⟨adl,cpl,rfl,-⟩:=hl;obtain⟨adr,cpr,rfl,-⟩:=hr;obtain⟨O1,hO1⟩:∃ O,O=Obj.cells #[.int .i64 k,.string n,.slice sf ks.length cf] 24 (0,0):=⟨_,rfl⟩;obtain⟨O2,hO2⟩:∃ O,O=Obj.cells #[.slice adl l.length cpl,.slice adr r.length cpr] 28 (0,0):=⟨_,rfl⟩;obtain⟨W,hW⟩:∃ W,W=(w.alloc O1).alloc O2:=⟨_,rfl⟩;(have B0:Below w.heap.size w W:=by rw [hW];exact QAA (QAA (Below.refl _ w) _) _);(have p1:W.heap[w.heap.size]? = some O1:=by rw [hW];exact QAF (QAG w O1) _);(have p2:W.heap[w.heap.size+1]? = some O2:=by rw [hW];exact QAd w O1 O2);rw [hO1] at p1;rw [hO2] at p2;have P1:Hid (W.heap[w.heap.size]? = some _):=p1;have P2:Hid (W.heap[w.heap.size+1]? = some _):=p2;have HWe:Hid ((w.alloc O1).alloc O2=W):=hW.symm;clear hf hkr p1 p2 hW
 go_enter Tryz.func113,Tryz.ntmps113
 go_wp2_with fail;rw [← hO1,← hO2,HWe.out];clear hO1 hO2 HWe;(refine (QAw l (by omega) (.mk k n ks) _ _ W (HL.out.up B0) (HF.out.up B0)).mono ?_);rintro e w1 ⟨x1,rfl,hg,hb1⟩;have B1:=QAC B0 hb1;have Q1:Hid (w1.heap[w.heap.size]? = some _):=QAB hb1 P1.out;have Q2:Hid (w1.heap[w.heap.size+1]? = some _):=QAB hb1 P2.out;obtain⟨adg,cpg,rfl,-⟩:=id hg;have HG1:Hid (FL w1 _ (l.erase (.mk k n ks))):=hg;clear hg hb1 P1 P2 B0;obtain⟨j0,j1,j2,-⟩:=QAX Q1.out;go_wp2_with fail;(refine (QAw r (by omega) (.mk k n ks) _ _ w1 (HR.out.up B1) (HF.out.up B1)).mono ?_);rintro e w2 ⟨x2,rfl,hd,hb2⟩;have B2:=QAC B1 hb2;have Q3:Hid (w2.heap[w.heap.size]? = some _):=QAB hb2 Q1.out;obtain⟨add,cpd,rfl,-⟩:=id hd;have HD2:Hid (FL w2 _ (r.erase (.mk k n ks))):=hd;have HG2:Hid (FL w2 _ (l.erase (.mk k n ks))):=HG1.out.up hb2;clear hd hb2 Q1 Q2 j0 j1 j2 HG1 B1;obtain⟨j0,j1,j2,-⟩:=QAX Q3.out;go_wp2_with fail;refine (QBJ l (.mk k n ks) _ _ w2 (HL.out.up B2) (HF.out.up B2)).mono ?_;rintro e w3 ⟨rfl,hb3⟩;have B3:=QAC B2 hb3;have Q4:Hid (w3.heap[w.heap.size]? = some _):=QAB hb3 Q3.out;have HD3:Hid (FL w3 _ (r.erase (.mk k n ks))):=HD2.out.up hb3;have HG3:Hid (FL w3 _ (l.erase (.mk k n ks))):=HG2.out.up hb3;clear hb3 Q3 j0 j1 j2 HG2 HD2 B2;obtain⟨j0,j1,j2,-⟩:=QAX Q4.out;go_wp2_with fail;refine (QBJ r (.mk k n ks) _ _ w3 (HR.out.up B3) (HF.out.up B3)).mono ?_;rintro e w4 ⟨rfl,hb4⟩;have B4:=QAC B3 hb4;have Q5:Hid (w4.heap[w.heap.size]? = some _):=QAB hb4 Q4.out;have HD4:Hid (FL w4 _ (r.erase (.mk k n ks))):=HD3.out.up hb4;have HG4:Hid (FL w4 _ (l.erase (.mk k n ks))):=HG3.out.up hb4;clear hb4 Q4 j0 j1 j2 HG3 HD3 B3;obtain⟨j0,j1,j2,-⟩:=QAX Q5.out;have z4:=QAE Q5.out;have HOK:Hid (QAz q (.mk k n ks) l r=QBT q k (QAh (.mk k n ks) l) (QAh (.mk k n ks) r)):=QBo _ _ _ _ _ _;generalize QAh (.mk k n ks) l=bl at *;generalize QAh (.mk k n ks) r=br at *;have HE1:Hid ((l.erase (.mk k n ks)).length≤300):=Nat.le_trans List.length_erase_le hl3;have HE2:Hid ((r.erase (.mk k n ks)).length≤300):=Nat.le_trans List.length_erase_le hr3
 rcases hq with ⟨rfl,rfl⟩|⟨rfl,rfl⟩
 ·cases i
  ·rcases QAj HF.out B4 with ⟨hp0,HRA,HRZ,HKA,HKZ⟩|⟨b,off,m,ka,na,ksa,sa,ca,kz,nz,ksz,sz,cz,rfl,g0,g1,g2,u0,u1,u2,hmI,hp0,hp1,hp2,hp3,d1,d2,hpos,zb,HRA,HRZ,HKA,HKZ⟩
   all_goals go_wp2_with fail
   all_goals
    first | (obtain⟨X,hX⟩:∃ X,X=QAO w4 (.int .i64 ka) (.string na) (.slice sa ksa.length ca) (.int .i64 kz) (.string nz) (.slice sz ksz.length cz):=⟨_,rfl⟩;unfold QAO at hX;rw [← hX]) | (obtain⟨X,hX⟩:∃ X,X=QAO w4 (.int .i64 0) (.string ⟨#[]⟩) (.slice none 0 0) (.int .i64 0) (.string ⟨#[]⟩) (.slice none 0 0):=⟨_,rfl⟩;unfold QAO at hX;rw [← hX])
    obtain⟨a0,a1,a2,z0,z1,z2,f2,fa,fz,BX,HBA,HBZ,HBF,HLx,HRx,HGx,HDx,HRAx,HRZx,HRFx,HOx,HKA,HKZ⟩:=QAs hX B4 Q5 HF HRA HRZ HL HR HG4 HD4 HKA HKZ
    have HPL:Hid (QAb false .thenL (.mk k n ks) l r=[((l.erase (.mk k n ks)),(r++[fa])),(((l.erase (.mk k n ks))++[fz]),r)]):=by
     show _=_;unfold QAb
     first|rfl | (rw [HKA.out,HKZ.out];first|done|rfl) | (rw [HKA.out];first|done|rfl) | (rw [HKZ.out];first|done|rfl)
    (refine QAK (by kernel_rfl) [kEq (.func (.func 144) #[] #[]),kEq (.slice adg (l.erase (.mk k n ks)).length cpg),kEq (.slice adr r.length cpr),kEq (.agg #[a0,a1,a2]),kFL [fa],kFL (r++[fa]),kSQ ((l.erase (.mk k n ks)),(r++[fa])),kEq (.func (.func 144) #[] #[]),kEq (.slice adg (l.erase (.mk k n ks)).length cpg),kEq (.agg #[z0,z1,z2]),kFL [fz],kFL ((l.erase (.mk k n ks))++[fz]),kEq (.slice adr r.length cpr),kSQ (((l.erase (.mk k n ks))++[fz]),r),QAW [((l.erase (.mk k n ks)),(r++[fa])),(((l.erase (.mk k n ks))++[fz]),r)],kEq (.pointer (some ⟨w.heap.size,0,none⟩)),kEq (.int .i64 k),kEq (.bool (k == 7)),kEq (.bool (k == 7)),kGd (k == 7) (.bool bl),kEq (.bool ((k == 7) && bl)),QAW [((l.erase (.mk k n ks)),(r++[fa])),(((l.erase (.mk k n ks))++[fz]),r)],kEq (.bool true),kEq (.bool ((k == 7) && bl))] ?_ (by kernel_rfl) (by kernel_rfl) 349 rfl (by kernel_rfl) ?_ ?_)
    ·intro p hp
     simp only [List.mem_cons,List.not_mem_nil,or_false] at hp
     rcases hp with rfl|rfl|rfl|rfl|rfl|rfl|rfl|rfl|rfl|rfl|rfl|rfl|rfl|rfl|rfl|rfl|rfl|rfl|rfl|rfl|rfl|rfl|rfl|rfl
     all_goals first|exact QAN _|exact QAR _|exact QAS _|exact QAP _|exact QAq _ _
    ·refine⟨?_,?_,?_,?_,?_,?_,?_,?_,?_,?_,?_,?_,?_,?_,?_,?_,?_,?_,?_,?_,?_,?_,?_,?_,trivial⟩
     ·intro a wx hB hold hdep K hK;have t19:a.tmps[19]? = some (.func (.func 144) #[] #[]):=hold.2.2 19 rfl;clear hold hdep;go_simp;exact hK.out _ _ rfl (Below.refl _ _)
     ·intro a wx hB hold hdep K hK;have t13:a.tmps[13]? = some (.slice adg (l.erase (.mk k n ks)).length cpg):=hold.2.2 13 rfl;clear hold hdep;go_simp;exact hK.out _ _ rfl (Below.refl _ _)
     ·intro a wx hB hold hdep K hK;have t12:a.tmps[12]? = some (.slice adr r.length cpr):=hold.2.2 12 rfl;clear hold hdep;go_simp;exact hK.out _ _ rfl (Below.refl _ _)
     ·intro a wx hB hold hdep K hK;have t17:a.tmps[17]? = some (.pointer (some ⟨w4.heap.size,0,none⟩)):=hold.2.2 17 rfl;obtain⟨k0,k1,k2',-⟩:=QAX (QAB hB HBA.out);clear hold hdep;go_simp;exact hK.out _ _ rfl (Below.refl _ _)
     ·intro a wx hB hold hdep K hK;have t242:=QAD wx (hdep 3 rfl _ 242 rfl rfl);clear hold hdep;go_simp;exact hK.out _ _ (QAM (FL.sing (QAG wx _) ((HRAx.out.up hB).more _))) (QAA (Below.refl _ wx) _)
     ·intro a wx hB hold hdep K hK;have t241:=QAD wx (hdep 2 rfl _ 241 rfl rfl);obtain⟨v243,t243,p243⟩:=hdep 4 rfl _ 243 rfl rfl;obtain⟨ad243,m243,cp243,e243,f243⟩:=p243;subst e243;have H243:Hid (FL wx _ [fa]):=f243;clear f243;clear hold hdep;go_simp;(refine (QAl r [fa] (by have:=HE1.out;have:=HE2.out;first|omega|simp) (by simp) _ _ wx (HRx.out.up hB) H243.out).mono ?_);rintro e w1 ⟨x,rfl,hf,hb⟩;exact hK.out _ _ (QAM hf) hb
     ·intro a wx hB hold hdep K hK;have t239:=QAD wx (hdep 0 rfl _ 239 rfl rfl);have t240:=QAD wx (hdep 1 rfl _ 240 rfl rfl);obtain⟨v244,t244,p244⟩:=hdep 5 rfl _ 244 rfl rfl;obtain⟨ad244,m244,cp244,e244,f244⟩:=p244;subst e244;have H244:Hid (FL wx _ (r++[fa])):=f244;clear f244;clear hold hdep;go_simp;refine (QAY _ _ _ _ _ _ wx).mono ?_;rintro e w1 ⟨rfl,hb⟩;exact hK.out _ _ ⟨_,_,_,_,_,_,rfl,((HGx.out.up hB).up hb),((H244.out).up hb)⟩ hb
     ·intro a wx hB hold hdep K hK;have t19:a.tmps[19]? = some (.func (.func 144) #[] #[]):=hold.2.2 19 rfl;clear hold hdep;go_simp;exact hK.out _ _ rfl (Below.refl _ _)
     ·intro a wx hB hold hdep K hK;have t13:a.tmps[13]? = some (.slice adg (l.erase (.mk k n ks)).length cpg):=hold.2.2 13 rfl;clear hold hdep;go_simp;exact hK.out _ _ rfl (Below.refl _ _)
     ·intro a wx hB hold hdep K hK;have t18:a.tmps[18]? = some (.pointer (some ⟨w4.heap.size+1,0,none⟩)):=hold.2.2 18 rfl;obtain⟨k0,k1,k2',-⟩:=QAX (QAB hB HBZ.out);clear hold hdep;go_simp;exact hK.out _ _ rfl (Below.refl _ _)
     ·intro a wx hB hold hdep K hK;have t248:=QAD wx (hdep 9 rfl _ 248 rfl rfl);clear hold hdep;go_simp;exact hK.out _ _ (QAM (FL.sing (QAG wx _) ((HRZx.out.up hB).more _))) (QAA (Below.refl _ wx) _)
     ·intro a wx hB hold hdep K hK;have t247:=QAD wx (hdep 8 rfl _ 247 rfl rfl);obtain⟨v249,t249,p249⟩:=hdep 10 rfl _ 249 rfl rfl;obtain⟨ad249,m249,cp249,e249,f249⟩:=p249;subst e249;have H249:Hid (FL wx _ [fz]):=f249;clear f249;clear hold hdep;go_simp;(refine (QAl (l.erase (.mk k n ks)) [fz] (by have:=HE1.out;have:=HE2.out;first|omega|simp) (by simp) _ _ wx (HGx.out.up hB) H249.out).mono ?_);rintro e w1 ⟨x,rfl,hf,hb⟩;exact hK.out _ _ (QAM hf) hb
     ·intro a wx hB hold hdep K hK;have t12:a.tmps[12]? = some (.slice adr r.length cpr):=hold.2.2 12 rfl;clear hold hdep;go_simp;exact hK.out _ _ rfl (Below.refl _ _)
     ·intro a wx hB hold hdep K hK;have t246:=QAD wx (hdep 7 rfl _ 246 rfl rfl);obtain⟨v250,t250,p250⟩:=hdep 11 rfl _ 250 rfl rfl;obtain⟨ad250,m250,cp250,e250,f250⟩:=p250;subst e250;have H250:Hid (FL wx _ ((l.erase (.mk k n ks))++[fz])):=f250;clear f250;have t251:=QAD wx (hdep 12 rfl _ 251 rfl rfl);clear hold hdep;go_simp;refine (QAY _ _ _ _ _ _ wx).mono ?_;rintro e w1 ⟨rfl,hb⟩;exact hK.out _ _ ⟨_,_,_,_,_,_,rfl,((H250.out).up hb),((HRx.out.up hB).up hb)⟩ hb
     ·intro a wx hB hold hdep K hK;obtain⟨v245,t245,p245⟩:=hdep 6 rfl _ 245 rfl rfl;obtain⟨a245,m245,b245,c245,n245,d245,e245,f245,g245⟩:=p245;subst e245;have H245:Hid (FL wx _ (l.erase (.mk k n ks))):=f245;have J245:Hid (FL wx _ (r++[fa])):=g245;clear f245 g245;obtain⟨v252,t252,p252⟩:=hdep 13 rfl _ 252 rfl rfl;obtain⟨a252,m252,b252,c252,n252,d252,e252,f252,g252⟩:=p252;subst e252;have H252:Hid (FL wx _ ((l.erase (.mk k n ks))++[fz])):=f252;have J252:Hid (FL wx _ r):=g252;clear f252 g252;clear hold hdep;go_simp;exact hK.out _ _ (SQs.two (QAG wx _) (H245.out.up (QAA (Below.refl _ wx) _)) (J245.out.up (QAA (Below.refl _ wx) _)) (H252.out.up (QAA (Below.refl _ wx) _)) (J252.out.up (QAA (Below.refl _ wx) _))) (QAA (Below.refl _ wx) _)
     ·intro a wx hB hold hdep K hK;have t5:a.tmps[5]? = some (.pointer (some ⟨w.heap.size,0,none⟩)):=hold.2.2 5 rfl;clear hold hdep;go_simp;exact hK.out _ _ rfl (Below.refl _ _)
     ·intro a wx hB hold hdep K hK;have t254:=QAD wx (hdep 15 rfl _ 254 rfl rfl);obtain⟨k0,k1,k2',-⟩:=QAX (QAB hB HBF.out);clear hold hdep;go_simp;exact hK.out _ _ rfl (Below.refl _ _)
     ·intro a wx hB hold hdep K hK;have t255:=QAD wx (hdep 16 rfl _ 255 rfl rfl);clear hold hdep;go_simp;exact hK.out _ _ rfl (Below.refl _ _)
     ·intro a wx hB hold hdep K hK;have t256:=QAD wx (hdep 17 rfl _ 256 rfl rfl);clear hold hdep;go_simp;exact hK.out _ _ rfl (Below.refl _ _)
     ·intro a wx hB hold hdep K hK;obtain⟨v257,t257,p257⟩:=hdep 18 rfl _ 257 rfl rfl;have e257:v257=(.bool (k == 7)):=p257;subst e257;have t15:a.tmps[15]? = some (.bool bl):=hold.2.2 15 rfl;clear hold hdep;cases hq:(k == 7)
      ·rw [hq] at t257
       go_simp;(exact hK.out _ _ (fun h=>by rw [hq] at h;cases h) (Below.refl _ _))
      ·rw [hq] at t257
       go_simp;(exact hK.out _ _ (fun _=>rfl) (Below.refl _ _))
     ·intro a wx hB hold hdep K hK;have t257:=QAD wx (hdep 18 rfl _ 257 rfl rfl);obtain⟨v258,t258,p258⟩:=hdep 19 rfl _ 258 rfl rfl;have P258:Hid (kGd (k == 7) (.bool bl) v258 wx):=p258;clear hold hdep p258;cases hq:(k == 7)
      ·rw [hq] at t257
       go_simp;(exact hK.out _ _ (by rw [hq];rfl) (Below.refl _ _))
      ·rw [hq] at t257
       have e258:v258=(.bool bl):=P258.out hq;subst e258;go_simp;(exact hK.out _ _ (by rw [hq];rfl) (Below.refl _ _))
     ·intro a wx hB hold hdep K hK;obtain⟨v253,t253,p253⟩:=hdep 14 rfl _ 253 rfl rfl;have P253:Hid (QAW [((l.erase (.mk k n ks)),(r++[fa])),(((l.erase (.mk k n ks))++[fz]),r)] v253 wx):=p253;clear p253 hold hdep;go_simp;exact hK.out _ _ P253.out (Below.refl _ _)
     ·intro a wx hB hold hdep K hK;clear hold hdep;go_simp;exact hK.out _ _ rfl (Below.refl _ _)
     ·intro a wx hB hold hdep K hK;have t259:=QAD wx (hdep 20 rfl _ 259 rfl rfl);clear hold hdep;go_simp;exact hK.out _ _ rfl (Below.refl _ _)
    ·intro a wx hB hold hgot
     (obtain⟨v8,t8,p8⟩:=hgot 21 _ 8 rfl rfl;have P8:Hid (SQs wx v8 [((l.erase (.mk k n ks)),(r++[fa])),(((l.erase (.mk k n ks))++[fz]),r)]):=p8;obtain⟨v9,t9,p9⟩:=hgot 22 _ 9 rfl rfl;have e9:v9=(.bool true):=p9;subst e9;obtain⟨v10,t10,p10⟩:=hgot 23 _ 10 rfl rfl;have e10:v10=(.bool ((k == 7) && bl)):=p10;subst e10;have hD:a.defers=[]:=hold.2.1;clear hold hgot p8 p9 p10;go_wp2_with fail;(exact bodyPost_ret (v := .tuple #[v8,(.bool true),(.bool ((k == 7) && bl))]) (by simp [results,Tryz.results113,go_sem,t8,t9,t10]) hD ⟨_,by rw [HOK.out];rfl,by rw [HPL.out];exact P8.out,QAC (QAC B4 BX.out) hB⟩))
  ·rcases QAj HF.out B4 with ⟨hp0,HRA,HRZ,HKA,HKZ⟩|⟨b,off,m,ka,na,ksa,sa,ca,kz,nz,ksz,sz,cz,rfl,g0,g1,g2,u0,u1,u2,hmI,hp0,hp1,hp2,hp3,d1,d2,hpos,zb,HRA,HRZ,HKA,HKZ⟩
   all_goals go_wp2_with fail
   all_goals
    first | (obtain⟨X,hX⟩:∃ X,X=QAO w4 (.int .i64 ka) (.string na) (.slice sa ksa.length ca) (.int .i64 kz) (.string nz) (.slice sz ksz.length cz):=⟨_,rfl⟩;unfold QAO at hX;rw [← hX]) | (obtain⟨X,hX⟩:∃ X,X=QAO w4 (.int .i64 0) (.string ⟨#[]⟩) (.slice none 0 0) (.int .i64 0) (.string ⟨#[]⟩) (.slice none 0 0):=⟨_,rfl⟩;unfold QAO at hX;rw [← hX])
    obtain⟨a0,a1,a2,z0,z1,z2,f2,fa,fz,BX,HBA,HBZ,HBF,HLx,HRx,HGx,HDx,HRAx,HRZx,HRFx,HOx,HKA,HKZ⟩:=QAs hX B4 Q5 HF HRA HRZ HL HR HG4 HD4 HKA HKZ
    have HPL:Hid (QAb true .thenL (.mk k n ks) l r=[((l.erase (.mk k n ks)),[fa]),(((l.erase (.mk k n ks))++[fz]),r)]):=by
     show _=_;unfold QAb
     first|rfl | (rw [HKA.out,HKZ.out];first|done|rfl) | (rw [HKA.out];first|done|rfl) | (rw [HKZ.out];first|done|rfl)
    (refine QAK (by kernel_rfl) [kEq (.func (.func 144) #[] #[]),kEq (.slice adg (l.erase (.mk k n ks)).length cpg),kEq (.slice (some ⟨w4.heap.size+1+1,0,none⟩) 1 1),kSQ ((l.erase (.mk k n ks)),[fa]),kEq (.func (.func 144) #[] #[]),kEq (.slice adg (l.erase (.mk k n ks)).length cpg),kEq (.agg #[z0,z1,z2]),kFL [fz],kFL ((l.erase (.mk k n ks))++[fz]),kEq (.slice adr r.length cpr),kSQ (((l.erase (.mk k n ks))++[fz]),r),QAW [((l.erase (.mk k n ks)),[fa]),(((l.erase (.mk k n ks))++[fz]),r)],kEq (.pointer (some ⟨w.heap.size,0,none⟩)),kEq (.int .i64 k),kEq (.bool (k == 7)),kEq (.bool (k == 7)),kGd (k == 7) (.bool bl),kEq (.bool ((k == 7) && bl)),QAW [((l.erase (.mk k n ks)),[fa]),(((l.erase (.mk k n ks))++[fz]),r)],kEq (.bool true),kEq (.bool ((k == 7) && bl))] ?_ (by kernel_rfl) (by kernel_rfl) 349 rfl (by kernel_rfl) ?_ ?_)
    ·intro p hp
     simp only [List.mem_cons,List.not_mem_nil,or_false] at hp
     rcases hp with rfl|rfl|rfl|rfl|rfl|rfl|rfl|rfl|rfl|rfl|rfl|rfl|rfl|rfl|rfl|rfl|rfl|rfl|rfl|rfl|rfl
     all_goals first|exact QAN _|exact QAR _|exact QAS _|exact QAP _|exact QAq _ _
    ·refine⟨?_,?_,?_,?_,?_,?_,?_,?_,?_,?_,?_,?_,?_,?_,?_,?_,?_,?_,?_,?_,?_,trivial⟩
     ·intro a wx hB hold hdep K hK;have t19:a.tmps[19]? = some (.func (.func 144) #[] #[]):=hold.2.2 19 rfl;clear hold hdep;go_simp;exact hK.out _ _ rfl (Below.refl _ _)
     ·intro a wx hB hold hdep K hK;have t13:a.tmps[13]? = some (.slice adg (l.erase (.mk k n ks)).length cpg):=hold.2.2 13 rfl;clear hold hdep;go_simp;exact hK.out _ _ rfl (Below.refl _ _)
     ·intro a wx hB hold hdep K hK;have t20:a.tmps[20]? = some (.slice (some ⟨w4.heap.size+1+1,0,none⟩) 1 1):=hold.2.2 20 rfl;clear hold hdep;go_simp;exact hK.out _ _ rfl (Below.refl _ _)
     ·intro a wx hB hold hdep K hK;have t221:=QAD wx (hdep 0 rfl _ 221 rfl rfl);have t222:=QAD wx (hdep 1 rfl _ 222 rfl rfl);have t223:=QAD wx (hdep 2 rfl _ 223 rfl rfl);clear hold hdep;go_simp;refine (QAY _ _ _ _ _ _ wx).mono ?_;rintro e w1 ⟨rfl,hb⟩;exact hK.out _ _ ⟨_,_,_,_,_,_,rfl,((HGx.out.up hB).up hb),((HOx.out.up hB).up hb)⟩ hb
     ·intro a wx hB hold hdep K hK;have t19:a.tmps[19]? = some (.func (.func 144) #[] #[]):=hold.2.2 19 rfl;clear hold hdep;go_simp;exact hK.out _ _ rfl (Below.refl _ _)
     ·intro a wx hB hold hdep K hK;have t13:a.tmps[13]? = some (.slice adg (l.erase (.mk k n ks)).length cpg):=hold.2.2 13 rfl;clear hold hdep;go_simp;exact hK.out _ _ rfl (Below.refl _ _)
     ·intro a wx hB hold hdep K hK;have t18:a.tmps[18]? = some (.pointer (some ⟨w4.heap.size+1,0,none⟩)):=hold.2.2 18 rfl;obtain⟨k0,k1,k2',-⟩:=QAX (QAB hB HBZ.out);clear hold hdep;go_simp;exact hK.out _ _ rfl (Below.refl _ _)
     ·intro a wx hB hold hdep K hK;have t227:=QAD wx (hdep 6 rfl _ 227 rfl rfl);clear hold hdep;go_simp;exact hK.out _ _ (QAM (FL.sing (QAG wx _) ((HRZx.out.up hB).more _))) (QAA (Below.refl _ wx) _)
     ·intro a wx hB hold hdep K hK;have t226:=QAD wx (hdep 5 rfl _ 226 rfl rfl);obtain⟨v228,t228,p228⟩:=hdep 7 rfl _ 228 rfl rfl;obtain⟨ad228,m228,cp228,e228,f228⟩:=p228;subst e228;have H228:Hid (FL wx _ [fz]):=f228;clear f228;clear hold hdep;go_simp;(refine (QAl (l.erase (.mk k n ks)) [fz] (by have:=HE1.out;have:=HE2.out;first|omega|simp) (by simp) _ _ wx (HGx.out.up hB) H228.out).mono ?_);rintro e w1 ⟨x,rfl,hf,hb⟩;exact hK.out _ _ (QAM hf) hb
     ·intro a wx hB hold hdep K hK;have t12:a.tmps[12]? = some (.slice adr r.length cpr):=hold.2.2 12 rfl;clear hold hdep;go_simp;exact hK.out _ _ rfl (Below.refl _ _)
     ·intro a wx hB hold hdep K hK;have t225:=QAD wx (hdep 4 rfl _ 225 rfl rfl);obtain⟨v229,t229,p229⟩:=hdep 8 rfl _ 229 rfl rfl;obtain⟨ad229,m229,cp229,e229,f229⟩:=p229;subst e229;have H229:Hid (FL wx _ ((l.erase (.mk k n ks))++[fz])):=f229;clear f229;have t230:=QAD wx (hdep 9 rfl _ 230 rfl rfl);clear hold hdep;go_simp;refine (QAY _ _ _ _ _ _ wx).mono ?_;rintro e w1 ⟨rfl,hb⟩;exact hK.out _ _ ⟨_,_,_,_,_,_,rfl,((H229.out).up hb),((HRx.out.up hB).up hb)⟩ hb
     ·intro a wx hB hold hdep K hK;obtain⟨v224,t224,p224⟩:=hdep 3 rfl _ 224 rfl rfl;obtain⟨a224,m224,b224,c224,n224,d224,e224,f224,g224⟩:=p224;subst e224;have H224:Hid (FL wx _ (l.erase (.mk k n ks))):=f224;have J224:Hid (FL wx _ [fa]):=g224;clear f224 g224;obtain⟨v231,t231,p231⟩:=hdep 10 rfl _ 231 rfl rfl;obtain⟨a231,m231,b231,c231,n231,d231,e231,f231,g231⟩:=p231;subst e231;have H231:Hid (FL wx _ ((l.erase (.mk k n ks))++[fz])):=f231;have J231:Hid (FL wx _ r):=g231;clear f231 g231;clear hold hdep;go_simp;exact hK.out _ _ (SQs.two (QAG wx _) (H224.out.up (QAA (Below.refl _ wx) _)) (J224.out.up (QAA (Below.refl _ wx) _)) (H231.out.up (QAA (Below.refl _ wx) _)) (J231.out.up (QAA (Below.refl _ wx) _))) (QAA (Below.refl _ wx) _)
     ·intro a wx hB hold hdep K hK;have t5:a.tmps[5]? = some (.pointer (some ⟨w.heap.size,0,none⟩)):=hold.2.2 5 rfl;clear hold hdep;go_simp;exact hK.out _ _ rfl (Below.refl _ _)
     ·intro a wx hB hold hdep K hK;have t233:=QAD wx (hdep 12 rfl _ 233 rfl rfl);obtain⟨k0,k1,k2',-⟩:=QAX (QAB hB HBF.out);clear hold hdep;go_simp;exact hK.out _ _ rfl (Below.refl _ _)
     ·intro a wx hB hold hdep K hK;have t234:=QAD wx (hdep 13 rfl _ 234 rfl rfl);clear hold hdep;go_simp;exact hK.out _ _ rfl (Below.refl _ _)
     ·intro a wx hB hold hdep K hK;have t235:=QAD wx (hdep 14 rfl _ 235 rfl rfl);clear hold hdep;go_simp;exact hK.out _ _ rfl (Below.refl _ _)
     ·intro a wx hB hold hdep K hK;obtain⟨v236,t236,p236⟩:=hdep 15 rfl _ 236 rfl rfl;have e236:v236=(.bool (k == 7)):=p236;subst e236;have t15:a.tmps[15]? = some (.bool bl):=hold.2.2 15 rfl;clear hold hdep;cases hq:(k == 7)
      ·rw [hq] at t236
       go_simp;(exact hK.out _ _ (fun h=>by rw [hq] at h;cases h) (Below.refl _ _))
      ·rw [hq] at t236
       go_simp;(exact hK.out _ _ (fun _=>rfl) (Below.refl _ _))
     ·intro a wx hB hold hdep K hK;have t236:=QAD wx (hdep 15 rfl _ 236 rfl rfl);obtain⟨v237,t237,p237⟩:=hdep 16 rfl _ 237 rfl rfl;have P237:Hid (kGd (k == 7) (.bool bl) v237 wx):=p237;clear hold hdep p237;cases hq:(k == 7)
      ·rw [hq] at t236
       go_simp;(exact hK.out _ _ (by rw [hq];rfl) (Below.refl _ _))
      ·rw [hq] at t236
       have e237:v237=(.bool bl):=P237.out hq;subst e237;go_simp;(exact hK.out _ _ (by rw [hq];rfl) (Below.refl _ _))
     ·intro a wx hB hold hdep K hK;obtain⟨v232,t232,p232⟩:=hdep 11 rfl _ 232 rfl rfl;have P232:Hid (QAW [((l.erase (.mk k n ks)),[fa]),(((l.erase (.mk k n ks))++[fz]),r)] v232 wx):=p232;clear p232 hold hdep;go_simp;exact hK.out _ _ P232.out (Below.refl _ _)
     ·intro a wx hB hold hdep K hK;clear hold hdep;go_simp;exact hK.out _ _ rfl (Below.refl _ _)
     ·intro a wx hB hold hdep K hK;have t238:=QAD wx (hdep 17 rfl _ 238 rfl rfl);clear hold hdep;go_simp;exact hK.out _ _ rfl (Below.refl _ _)
    ·intro a wx hB hold hgot
     (obtain⟨v8,t8,p8⟩:=hgot 18 _ 8 rfl rfl;have P8:Hid (SQs wx v8 [((l.erase (.mk k n ks)),[fa]),(((l.erase (.mk k n ks))++[fz]),r)]):=p8;obtain⟨v9,t9,p9⟩:=hgot 19 _ 9 rfl rfl;have e9:v9=(.bool true):=p9;subst e9;obtain⟨v10,t10,p10⟩:=hgot 20 _ 10 rfl rfl;have e10:v10=(.bool ((k == 7) && bl)):=p10;subst e10;have hD:a.defers=[]:=hold.2.1;clear hold hgot p8 p9 p10;go_wp2_with fail;(exact bodyPost_ret (v := .tuple #[v8,(.bool true),(.bool ((k == 7) && bl))]) (by simp [results,Tryz.results113,go_sem,t8,t9,t10]) hD ⟨_,by rw [HOK.out];rfl,by rw [HPL.out];exact P8.out,QAC (QAC B4 BX.out) hB⟩))
 ·cases i
  ·rcases QAj HF.out B4 with ⟨hp0,HRA,HRZ,HKA,HKZ⟩|⟨b,off,m,ka,na,ksa,sa,ca,kz,nz,ksz,sz,cz,rfl,g0,g1,g2,u0,u1,u2,hmI,hp0,hp1,hp2,hp3,d1,d2,hpos,zb,HRA,HRZ,HKA,HKZ⟩
   all_goals go_wp2_with fail
   all_goals
    first | (obtain⟨X,hX⟩:∃ X,X=QAO w4 (.int .i64 ka) (.string na) (.slice sa ksa.length ca) (.int .i64 kz) (.string nz) (.slice sz ksz.length cz):=⟨_,rfl⟩;unfold QAO at hX;rw [← hX]) | (obtain⟨X,hX⟩:∃ X,X=QAO w4 (.int .i64 0) (.string ⟨#[]⟩) (.slice none 0 0) (.int .i64 0) (.string ⟨#[]⟩) (.slice none 0 0):=⟨_,rfl⟩;unfold QAO at hX;rw [← hX])
    obtain⟨a0,a1,a2,z0,z1,z2,f2,fa,fz,BX,HBA,HBZ,HBF,HLx,HRx,HGx,HDx,HRAx,HRZx,HRFx,HOx,HKA,HKZ⟩:=QAs hX B4 Q5 HF HRA HRZ HL HR HG4 HD4 HKA HKZ
    have HPL:Hid (QAb false .notL (.mk k n ks) l r=[((l.erase (.mk k n ks)),(r++[fa]))]):=by
     show _=_;unfold QAb
     first|rfl | (rw [HKA.out,HKZ.out];first|done|rfl) | (rw [HKA.out];first|done|rfl) | (rw [HKZ.out];first|done|rfl)
    (refine QAK (by kernel_rfl) [kEq (.func (.func 144) #[] #[]),kEq (.slice adg (l.erase (.mk k n ks)).length cpg),kEq (.slice adr r.length cpr),kEq (.agg #[a0,a1,a2]),kFL [fa],kFL (r++[fa]),kSQ ((l.erase (.mk k n ks)),(r++[fa])),QAW [((l.erase (.mk k n ks)),(r++[fa]))],kEq (.pointer (some ⟨w.heap.size,0,none⟩)),kEq (.int .i64 k),kEq (.bool (k == 4)),kEq (.bool (k == 4)),kGd (k == 4) (.bool bl),kEq (.bool ((k == 4) && bl)),QAW [((l.erase (.mk k n ks)),(r++[fa]))],kEq (.bool true),kEq (.bool ((k == 4) && bl))] ?_ (by kernel_rfl) (by kernel_rfl) 349 rfl (by kernel_rfl) ?_ ?_)
    ·intro p hp
     simp only [List.mem_cons,List.not_mem_nil,or_false] at hp
     rcases hp with rfl|rfl|rfl|rfl|rfl|rfl|rfl|rfl|rfl|rfl|rfl|rfl|rfl|rfl|rfl|rfl|rfl
     all_goals first|exact QAN _|exact QAR _|exact QAS _|exact QAP _|exact QAq _ _
    ·refine⟨?_,?_,?_,?_,?_,?_,?_,?_,?_,?_,?_,?_,?_,?_,?_,?_,?_,trivial⟩
     ·intro a wx hB hold hdep K hK;have t19:a.tmps[19]? = some (.func (.func 144) #[] #[]):=hold.2.2 19 rfl;clear hold hdep;go_simp;exact hK.out _ _ rfl (Below.refl _ _)
     ·intro a wx hB hold hdep K hK;have t13:a.tmps[13]? = some (.slice adg (l.erase (.mk k n ks)).length cpg):=hold.2.2 13 rfl;clear hold hdep;go_simp;exact hK.out _ _ rfl (Below.refl _ _)
     ·intro a wx hB hold hdep K hK;have t12:a.tmps[12]? = some (.slice adr r.length cpr):=hold.2.2 12 rfl;clear hold hdep;go_simp;exact hK.out _ _ rfl (Below.refl _ _)
     ·intro a wx hB hold hdep K hK;have t17:a.tmps[17]? = some (.pointer (some ⟨w4.heap.size,0,none⟩)):=hold.2.2 17 rfl;obtain⟨k0,k1,k2',-⟩:=QAX (QAB hB HBA.out);clear hold hdep;go_simp;exact hK.out _ _ rfl (Below.refl _ _)
     ·intro a wx hB hold hdep K hK;have t277:=QAD wx (hdep 3 rfl _ 277 rfl rfl);clear hold hdep;go_simp;exact hK.out _ _ (QAM (FL.sing (QAG wx _) ((HRAx.out.up hB).more _))) (QAA (Below.refl _ wx) _)
     ·intro a wx hB hold hdep K hK;have t276:=QAD wx (hdep 2 rfl _ 276 rfl rfl);obtain⟨v278,t278,p278⟩:=hdep 4 rfl _ 278 rfl rfl;obtain⟨ad278,m278,cp278,e278,f278⟩:=p278;subst e278;have H278:Hid (FL wx _ [fa]):=f278;clear f278;clear hold hdep;go_simp;(refine (QAl r [fa] (by have:=HE1.out;have:=HE2.out;first|omega|simp) (by simp) _ _ wx (HRx.out.up hB) H278.out).mono ?_);rintro e w1 ⟨x,rfl,hf,hb⟩;exact hK.out _ _ (QAM hf) hb
     ·intro a wx hB hold hdep K hK;have t274:=QAD wx (hdep 0 rfl _ 274 rfl rfl);have t275:=QAD wx (hdep 1 rfl _ 275 rfl rfl);obtain⟨v279,t279,p279⟩:=hdep 5 rfl _ 279 rfl rfl;obtain⟨ad279,m279,cp279,e279,f279⟩:=p279;subst e279;have H279:Hid (FL wx _ (r++[fa])):=f279;clear f279;clear hold hdep;go_simp;refine (QAY _ _ _ _ _ _ wx).mono ?_;rintro e w1 ⟨rfl,hb⟩;exact hK.out _ _ ⟨_,_,_,_,_,_,rfl,((HGx.out.up hB).up hb),((H279.out).up hb)⟩ hb
     ·intro a wx hB hold hdep K hK;obtain⟨v280,t280,p280⟩:=hdep 6 rfl _ 280 rfl rfl;obtain⟨a280,m280,b280,c280,n280,d280,e280,f280,g280⟩:=p280;subst e280;have H280:Hid (FL wx _ (l.erase (.mk k n ks))):=f280;have J280:Hid (FL wx _ (r++[fa])):=g280;clear f280 g280;clear hold hdep;go_simp;exact hK.out _ _ (SQs.one (QAG wx _) (H280.out.up (QAA (Below.refl _ wx) _)) (J280.out.up (QAA (Below.refl _ wx) _))) (QAA (Below.refl _ wx) _)
     ·intro a wx hB hold hdep K hK;have t5:a.tmps[5]? = some (.pointer (some ⟨w.heap.size,0,none⟩)):=hold.2.2 5 rfl;clear hold hdep;go_simp;exact hK.out _ _ rfl (Below.refl _ _)
     ·intro a wx hB hold hdep K hK;have t282:=QAD wx (hdep 8 rfl _ 282 rfl rfl);obtain⟨k0,k1,k2',-⟩:=QAX (QAB hB HBF.out);clear hold hdep;go_simp;exact hK.out _ _ rfl (Below.refl _ _)
     ·intro a wx hB hold hdep K hK;have t283:=QAD wx (hdep 9 rfl _ 283 rfl rfl);clear hold hdep;go_simp;exact hK.out _ _ rfl (Below.refl _ _)
     ·intro a wx hB hold hdep K hK;have t284:=QAD wx (hdep 10 rfl _ 284 rfl rfl);clear hold hdep;go_simp;exact hK.out _ _ rfl (Below.refl _ _)
     ·intro a wx hB hold hdep K hK;obtain⟨v285,t285,p285⟩:=hdep 11 rfl _ 285 rfl rfl;have e285:v285=(.bool (k == 4)):=p285;subst e285;have t15:a.tmps[15]? = some (.bool bl):=hold.2.2 15 rfl;clear hold hdep;cases hq:(k == 4)
      ·rw [hq] at t285
       go_simp;(exact hK.out _ _ (fun h=>by rw [hq] at h;cases h) (Below.refl _ _))
      ·rw [hq] at t285
       go_simp;(exact hK.out _ _ (fun _=>rfl) (Below.refl _ _))
     ·intro a wx hB hold hdep K hK;have t285:=QAD wx (hdep 11 rfl _ 285 rfl rfl);obtain⟨v286,t286,p286⟩:=hdep 12 rfl _ 286 rfl rfl;have P286:Hid (kGd (k == 4) (.bool bl) v286 wx):=p286;clear hold hdep p286;cases hq:(k == 4)
      ·rw [hq] at t285
       go_simp;(exact hK.out _ _ (by rw [hq];rfl) (Below.refl _ _))
      ·rw [hq] at t285
       have e286:v286=(.bool bl):=P286.out hq;subst e286;go_simp;(exact hK.out _ _ (by rw [hq];rfl) (Below.refl _ _))
     ·intro a wx hB hold hdep K hK;obtain⟨v281,t281,p281⟩:=hdep 7 rfl _ 281 rfl rfl;have P281:Hid (QAW [((l.erase (.mk k n ks)),(r++[fa]))] v281 wx):=p281;clear p281 hold hdep;go_simp;exact hK.out _ _ P281.out (Below.refl _ _)
     ·intro a wx hB hold hdep K hK;clear hold hdep;go_simp;exact hK.out _ _ rfl (Below.refl _ _)
     ·intro a wx hB hold hdep K hK;have t287:=QAD wx (hdep 13 rfl _ 287 rfl rfl);clear hold hdep;go_simp;exact hK.out _ _ rfl (Below.refl _ _)
    ·intro a wx hB hold hgot
     (obtain⟨v8,t8,p8⟩:=hgot 14 _ 8 rfl rfl;have P8:Hid (SQs wx v8 [((l.erase (.mk k n ks)),(r++[fa]))]):=p8;obtain⟨v9,t9,p9⟩:=hgot 15 _ 9 rfl rfl;have e9:v9=(.bool true):=p9;subst e9;obtain⟨v10,t10,p10⟩:=hgot 16 _ 10 rfl rfl;have e10:v10=(.bool ((k == 4) && bl)):=p10;subst e10;have hD:a.defers=[]:=hold.2.1;clear hold hgot p8 p9 p10;go_wp2_with fail;(exact bodyPost_ret (v := .tuple #[v8,(.bool true),(.bool ((k == 4) && bl))]) (by simp [results,Tryz.results113,go_sem,t8,t9,t10]) hD ⟨_,by rw [HOK.out];rfl,by rw [HPL.out];exact P8.out,QAC (QAC B4 BX.out) hB⟩))
  ·rcases QAj HF.out B4 with ⟨hp0,HRA,HRZ,HKA,HKZ⟩|⟨b,off,m,ka,na,ksa,sa,ca,kz,nz,ksz,sz,cz,rfl,g0,g1,g2,u0,u1,u2,hmI,hp0,hp1,hp2,hp3,d1,d2,hpos,zb,HRA,HRZ,HKA,HKZ⟩
   all_goals go_wp2_with fail
   all_goals
    first | (obtain⟨X,hX⟩:∃ X,X=QAO w4 (.int .i64 ka) (.string na) (.slice sa ksa.length ca) (.int .i64 kz) (.string nz) (.slice sz ksz.length cz):=⟨_,rfl⟩;unfold QAO at hX;rw [← hX]) | (obtain⟨X,hX⟩:∃ X,X=QAO w4 (.int .i64 0) (.string ⟨#[]⟩) (.slice none 0 0) (.int .i64 0) (.string ⟨#[]⟩) (.slice none 0 0):=⟨_,rfl⟩;unfold QAO at hX;rw [← hX])
    obtain⟨a0,a1,a2,z0,z1,z2,f2,fa,fz,BX,HBA,HBZ,HBF,HLx,HRx,HGx,HDx,HRAx,HRZx,HRFx,HOx,HKA,HKZ⟩:=QAs hX B4 Q5 HF HRA HRZ HL HR HG4 HD4 HKA HKZ
    have HPL:Hid (QAb true .notL (.mk k n ks) l r=[((l.erase (.mk k n ks)),[fa])]):=by
     show _=_;unfold QAb
     first|rfl | (rw [HKA.out,HKZ.out];first|done|rfl) | (rw [HKA.out];first|done|rfl) | (rw [HKZ.out];first|done|rfl)
    (refine QAK (by kernel_rfl) [kEq (.func (.func 144) #[] #[]),kEq (.slice adg (l.erase (.mk k n ks)).length cpg),kEq (.slice (some ⟨w4.heap.size+1+1,0,none⟩) 1 1),kSQ ((l.erase (.mk k n ks)),[fa]),QAW [((l.erase (.mk k n ks)),[fa])],kEq (.pointer (some ⟨w.heap.size,0,none⟩)),kEq (.int .i64 k),kEq (.bool (k == 4)),kEq (.bool (k == 4)),kGd (k == 4) (.bool bl),kEq (.bool ((k == 4) && bl)),QAW [((l.erase (.mk k n ks)),[fa])],kEq (.bool true),kEq (.bool ((k == 4) && bl))] ?_ (by kernel_rfl) (by kernel_rfl) 349 rfl (by kernel_rfl) ?_ ?_)
    ·intro p hp
     simp only [List.mem_cons,List.not_mem_nil,or_false] at hp
     rcases hp with rfl|rfl|rfl|rfl|rfl|rfl|rfl|rfl|rfl|rfl|rfl|rfl|rfl|rfl
     all_goals first|exact QAN _|exact QAR _|exact QAS _|exact QAP _|exact QAq _ _
    ·refine⟨?_,?_,?_,?_,?_,?_,?_,?_,?_,?_,?_,?_,?_,?_,trivial⟩
     ·intro a wx hB hold hdep K hK;have t19:a.tmps[19]? = some (.func (.func 144) #[] #[]):=hold.2.2 19 rfl;clear hold hdep;go_simp;exact hK.out _ _ rfl (Below.refl _ _)
     ·intro a wx hB hold hdep K hK;have t13:a.tmps[13]? = some (.slice adg (l.erase (.mk k n ks)).length cpg):=hold.2.2 13 rfl;clear hold hdep;go_simp;exact hK.out _ _ rfl (Below.refl _ _)
     ·intro a wx hB hold hdep K hK;have t20:a.tmps[20]? = some (.slice (some ⟨w4.heap.size+1+1,0,none⟩) 1 1):=hold.2.2 20 rfl;clear hold hdep;go_simp;exact hK.out _ _ rfl (Below.refl _ _)
     ·intro a wx hB hold hdep K hK;have t263:=QAD wx (hdep 0 rfl _ 263 rfl rfl);have t264:=QAD wx (hdep 1 rfl _ 264 rfl rfl);have t265:=QAD wx (hdep 2 rfl _ 265 rfl rfl);clear hold hdep;go_simp;refine (QAY _ _ _ _ _ _ wx).mono ?_;rintro e w1 ⟨rfl,hb⟩;exact hK.out _ _ ⟨_,_,_,_,_,_,rfl,((HGx.out.up hB).up hb),((HOx.out.up hB).up hb)⟩ hb
     ·intro a wx hB hold hdep K hK;obtain⟨v266,t266,p266⟩:=hdep 3 rfl _ 266 rfl rfl;obtain⟨a266,m266,b266,c266,n266,d266,e266,f266,g266⟩:=p266;subst e266;have H266:Hid (FL wx _ (l.erase (.mk k n ks))):=f266;have J266:Hid (FL wx _ [fa]):=g266;clear f266 g266;clear hold hdep;go_simp;exact hK.out _ _ (SQs.one (QAG wx _) (H266.out.up (QAA (Below.refl _ wx) _)) (J266.out.up (QAA (Below.refl _ wx) _))) (QAA (Below.refl _ wx) _)
     ·intro a wx hB hold hdep K hK;have t5:a.tmps[5]? = some (.pointer (some ⟨w.heap.size,0,none⟩)):=hold.2.2 5 rfl;clear hold hdep;go_simp;exact hK.out _ _ rfl (Below.refl _ _)
     ·intro a wx hB hold hdep K hK;have t268:=QAD wx (hdep 5 rfl _ 268 rfl rfl);obtain⟨k0,k1,k2',-⟩:=QAX (QAB hB HBF.out);clear hold hdep;go_simp;exact hK.out _ _ rfl (Below.refl _ _)
     ·intro a wx hB hold hdep K hK;have t269:=QAD wx (hdep 6 rfl _ 269 rfl rfl);clear hold hdep;go_simp;exact hK.out _ _ rfl (Below.refl _ _)
     ·intro a wx hB hold hdep K hK;have t270:=QAD wx (hdep 7 rfl _ 270 rfl rfl);clear hold hdep;go_simp;exact hK.out _ _ rfl (Below.refl _ _)
     ·intro a wx hB hold hdep K hK;obtain⟨v271,t271,p271⟩:=hdep 8 rfl _ 271 rfl rfl;have e271:v271=(.bool (k == 4)):=p271;subst e271;have t15:a.tmps[15]? = some (.bool bl):=hold.2.2 15 rfl;clear hold hdep;cases hq:(k == 4)
      ·rw [hq] at t271
       go_simp;(exact hK.out _ _ (fun h=>by rw [hq] at h;cases h) (Below.refl _ _))
      ·rw [hq] at t271
       go_simp;(exact hK.out _ _ (fun _=>rfl) (Below.refl _ _))
     ·intro a wx hB hold hdep K hK;have t271:=QAD wx (hdep 8 rfl _ 271 rfl rfl);obtain⟨v272,t272,p272⟩:=hdep 9 rfl _ 272 rfl rfl;have P272:Hid (kGd (k == 4) (.bool bl) v272 wx):=p272;clear hold hdep p272;cases hq:(k == 4)
      ·rw [hq] at t271
       go_simp;(exact hK.out _ _ (by rw [hq];rfl) (Below.refl _ _))
      ·rw [hq] at t271
       have e272:v272=(.bool bl):=P272.out hq;subst e272;go_simp;(exact hK.out _ _ (by rw [hq];rfl) (Below.refl _ _))
     ·intro a wx hB hold hdep K hK;obtain⟨v267,t267,p267⟩:=hdep 4 rfl _ 267 rfl rfl;have P267:Hid (QAW [((l.erase (.mk k n ks)),[fa])] v267 wx):=p267;clear p267 hold hdep;go_simp;exact hK.out _ _ P267.out (Below.refl _ _)
     ·intro a wx hB hold hdep K hK;clear hold hdep;go_simp;exact hK.out _ _ rfl (Below.refl _ _)
     ·intro a wx hB hold hdep K hK;have t273:=QAD wx (hdep 10 rfl _ 273 rfl rfl);clear hold hdep;go_simp;exact hK.out _ _ rfl (Below.refl _ _)
    ·intro a wx hB hold hgot
     (obtain⟨v8,t8,p8⟩:=hgot 11 _ 8 rfl rfl;have P8:Hid (SQs wx v8 [((l.erase (.mk k n ks)),[fa])]):=p8;obtain⟨v9,t9,p9⟩:=hgot 12 _ 9 rfl rfl;have e9:v9=(.bool true):=p9;subst e9;obtain⟨v10,t10,p10⟩:=hgot 13 _ 10 rfl rfl;have e10:v10=(.bool ((k == 4) && bl)):=p10;subst e10;have hD:a.defers=[]:=hold.2.1;clear hold hgot p8 p9 p10;go_wp2_with fail;(exact bodyPost_ret (v := .tuple #[v8,(.bool true),(.bool ((k == 4) && bl))]) (by simp [results,Tryz.results113,go_sem,t8,t9,t10]) hD ⟨_,by rw [HOK.out];rfl,by rw [HPL.out];exact P8.out,QAC (QAC B4 BX.out) hB⟩))
end Go.Proofs.YtffkoiemnchdgadGreat
