import Derived.Test.YtbmedfokpgghiacGreatB36
import Derived.Test.YtbmedfokpgghiacGreatB24
namespace Go.Proofs.YtbmedfokpgghiacGreat
open Go.RowKit
set_option maxRecDepth 20000 in
set_option maxHeartbeats 16000000 in
theorem QNn (i:Bool) (p:Pf) (HA0:Hid (p.lawT=QBw)) (hsm:SmallP p) (v:Value) (w:World) (hv:PRep w p v) :
  Calls Tryz.prog 59 #[v,.bool i] w fun e w'=>e = .returned (.int .i64 (QBa i p))∧Below w.heap.size w w':=by
 obtain⟨a,⟨k,n,kf⟩,l,r,ks⟩:=p;have HW0:Hid (a.data.toList=QBw):=HA0.out;clear HA0;obtain⟨hl3,hr3,hk3,hsk⟩:=hsm.parts;obtain⟨sf,cf,al,cl,ar,cr,sl,cap,rfl,ha,hf,hl,hr,hkc,hcm,hks⟩:=hv.parts;(have HF:Hid (Rep w (fun _=>True) (.mk k n kf) _):=hf);have HL:Hid (FL w (.slice al l.length cl) l):=hl;have HR:Hid (FL w (.slice ar r.length cr) r):=hr;have HK:Hid (ks≠[]→∃ b off,sl=some ⟨b,off,none⟩∧PReps w b off ks):=hks;have HSK:Hid (∀ k∈ks,SmallP k):=hsk;(have hkI:(ks.length:Int)≤1200:=by omega);(have hrI:(r.length:Int)≤300:=by omega);obtain⟨T,hT⟩:∃ T,T=QBa i (.mk a (.mk k n kf) l r ks):=⟨_,rfl⟩;rw [← hT];have HT:Hid (T=QBa i (.mk a (.mk k n kf) l r ks)):=hT;obtain⟨O,hO⟩:∃ O,O=Obj.cells #[.string a,.int .i64 k,.string n,.slice sf kf.length cf,.slice al l.length cl,.slice ar r.length cr,.slice sl ks.length cap] 32 (0,0):=⟨_,rfl⟩;have p1:(w.alloc O).heap[w.heap.size]? = some O:=QAH w O;rw [hO] at p1;have P1:Hid ((w.alloc (.cells #[.string a,.int .i64 k,.string n,.slice sf kf.length cf,.slice al l.length cl,.slice ar r.length cr,.slice sl ks.length cap] 32 (0,0))).heap[w.heap.size]? = some _):=p1;have B0:=QAB (Below.refl _ w) (.cells #[.string a,.int .i64 k,.string n,.slice sf kf.length cf,.slice al l.length cl,.slice ar r.length cr,.slice sl ks.length cap] 32 (0,0));(have hsq:=fun wx (hb:Below w.heap.size w wx)=>QDZ l r (by omega) (by omega) _ _ wx (HL.out.up hb) (HR.out.up hb));(have HS0:Hid ((QAd l r).1≠0→T=5):=fun h=>by rw [HT.out,QBa,if_pos (Or.inl h)]);(have HS1:Hid (i=true→1 < r.length→T=5):=fun h1 h2=>by rw [HT.out,QBa,if_pos (Or.inr ⟨h1,h2⟩)])
 have HS2:Hid ((QAd l r).1=0→¬ (i=true∧1 < r.length)→T=if a.data.toList=QBw then QDT (.mk k n kf) l r ks else match QBS i a.data.toList with
   | none=>4
   | some q=>if (Fm.mk k n kf).pcode.1≠0 then 5 else match QCw i q (.mk k n kf) l r with
    | none=>7
    | some ss=>if ks.length≠ss.length then 9 else QBq ks ss):=fun h1 h2=>by
  (rw [HT.out,QBa,if_neg (fun e=>e.elim (fun e=>e h1) h2)]);rfl
 generalize QAd l r=sq at *;obtain⟨s1,s2⟩:=sq;have HSQ:Hid (∀ wx,Below w.heap.size w wx→Calls Tryz.prog 11 _ wx _):=hsq;(have hfc:=fun a b w=>QDV a b w);clear hf hl hr hks hsk hv hsm hT hsq p1 hO
 go_enter Tryz.func59,Tryz.ntmps59
 go_upto_region 1 with fail
 go_cut [26] from 12 to 26 (fun v wc=>∃ c,v = .bool c∧Hid (c=true→T=5)∧Hid (c=false→T=if a.data.toList=QBw then QDT (.mk k n kf) l r ks else match QBS i a.data.toList with
   | none=>4
   | some q=>if (Fm.mk k n kf).pcode.1≠0 then 5 else match QCw i q (.mk k n kf) l r with
    | none=>7
    | some ss=>if ks.length≠ss.length then 9 else QBq ks ss)∧Hid (Below w.heap.size w wc)∧Hid (wc.heap[w.heap.size]? = some (.cells #[.string a,.int .i64 k,.string n,.slice sf kf.length cf,.slice al l.length cl,.slice ar r.length cr,.slice sl ks.length cap] 32 (0,0))))
 case first =>
  go_wp2_with fail;refine (HSQ.out _ B0).mono ?_;rintro e w1 ⟨rfl,hb1⟩;have B1:=QAC B0 hb1;have Q1:Hid (w1.heap[w.heap.size]? = some _):=QAA hb1 P1.out;obtain⟨j0,j1,j2,j3,j4,j5,j6⟩:=QAj Q1.out;clear hb1 P1 B0 HSQ;by_cases hs1:s1=0
  case neg =>
   (have hsJ:(s1 != 0)=true:=by simpa using hs1);have H5:Hid (T=5):=HS0.out hs1;go_wp2_with fail;go_meet;(exact⟨true,rfl,fun _=>H5.out,(fun h=>nomatch h),B1,Q1.out⟩)
  subst hs1
  cases i
  ·have HN:=HS2.out rfl (fun h=>nomatch h.1)
   go_wp2_with fail;go_meet;(exact⟨false,rfl,(fun h=>nomatch h),fun _=>HN,B1,Q1.out⟩)
  ·by_cases h1:1 < r.length
   ·have h1I:(1:Int) < (r.length:Int):=by omega
    have H5:Hid (T=5):=HS1.out rfl h1;go_wp2_with fail;go_meet;(exact⟨true,rfl,fun _=>H5.out,(fun h=>nomatch h),B1,Q1.out⟩)
   ·have h1I:¬ (1:Int) < (r.length:Int):=by omega
    (have HN:=HS2.out rfl (fun h=>h1 h.2));go_wp2_with fail;go_meet;(exact⟨false,by rw [decide_eq_false (show ¬ (1:Int) < (r.length:Int) by omega)],(fun h=>nomatch h),fun _=>HN,B1,Q1.out⟩)
 obtain⟨cc,rfl,H5,HN,B1,Q1⟩:=hcut;clear HS0 HS1 HS2 HSQ P1 B0;obtain⟨w1,hw1⟩:∃ x,x=wc:=⟨_,rfl⟩;subst hw1;have B1:=B1.out;obtain⟨j0,j1,j2,j3,j4,j5,j6⟩:=QAj Q1.out
 cases cc
 case true =>
  have H6:Hid (T=5):=H5.out rfl;clear H5 HN;go_wp2_with fail;go_ret;(exact⟨by rw [H6.out];rfl,B1⟩)
 have HTT:=HN.out rfl;clear HN H5;have hw:=HW0.out;clear HW0
 ·rw [if_pos hw] at HTT
  (have hae:a=⟨#[119,101,97,107]⟩:=by apply ByteArray.ext;apply Array.ext';exact hw);subst hae;have HT1:Hid (T=QDT (.mk k n kf) l r ks):=HTT;clear HTT hw HT
  all_goals
   by_cases hk:k=0
   case neg =>
    (have H5:Hid (T=5):=HT1.out.trans (QEP fun h=>hk (QHh.1 h).1));(have hkJ:(k != 0)=true:=by simpa using hk);go_wp2_with fail;go_ret;(exact⟨by rw [H5.out];rfl,B1⟩)
   subst hk;by_cases hn:n.data.toList=[]
   case neg =>
    (have H5:Hid (T=5):=HT1.out.trans (QEP fun h=>hn (QHh.1 h).2.1));(have hnJ:(n.toList == ([]:List UInt8))=false:=by rw [ByteArray.toList_eq];simpa using hn);(have hnE:(n.toList).isEmpty=false:=by rw [ByteArray.toList_eq];simpa using hn);clear hn;go_wp2_with fail;go_ret;(exact⟨by rw [H5.out];rfl,B1⟩)
   (have hn':n=⟨#[]⟩:=by apply ByteArray.ext;apply Array.ext';exact hn);subst hn';clear hn;by_cases hkf:kf=[]
   case neg =>
    (have H5:Hid (T=5):=HT1.out.trans (QEP fun h=>hkf (QHh.1 h).2.2));(have hkJ:(0:Int) < (kf.length:Int):=by have:=List.length_pos_iff.2 hkf;omega);clear hkf;go_wp2_with fail;go_ret;(exact⟨by rw [H5.out];rfl,B1⟩)
   subst hkf;by_cases hk1:ks.length=1
   case neg =>
    have H9:Hid (T=9):=HT1.out.trans (QKC hk1);(have hkJ:((ks.length:Int) != 1)=true:=by simp;omega);clear hk1;go_wp2_with fail;go_ret;(exact⟨by rw [H9.out];rfl,B1⟩)
   obtain⟨⟨ka,⟨kk,kn,kkf⟩,kl,kr,kks⟩,hks1⟩:∃ x,ks=[x]:=by
    match ks,hk1 with
    | [x],_=>exact⟨x,rfl⟩
   have HKL:Hid (ks.length=1):=hk1
   have HT2:Hid (T=if QBB kl l && QBB kr r then 0 else 7):=by
    have:=HT1.out;rw [hks1,QLu] at this;exact this
   (obtain⟨b,off,rfl,hrs⟩:=HK.out (by rw [hks1];simp));(obtain⟨hkl3,hkr3,-,-⟩:=(HSK.out (.mk ka (.mk kk kn kkf) kl kr kks) (by rw [hks1];exact List.mem_cons_self)).parts);(obtain⟨sf2,cf2,al2,cl2,ar2,cr2,sl2,cap2,x0,x1,x2,x3,x4,x5,x6,hrep⟩:=hrs.at 0 ka kk kn kkf kl kr kks (by rw [hks1];rfl));simp only [Nat.zero_mul,Nat.add_zero] at x0 x1 x2 x3 x4 x5 x6;obtain⟨_,_,_,_,_,_,_,_,hpe,-,-,hkl,hkr,-⟩:=hrep.parts;simp only [Value.agg.injEq,Array.mk.injEq,List.cons.injEq,Value.slice.injEq,and_true,true_and] at hpe;obtain⟨⟨rfl,rfl⟩,⟨rfl,rfl⟩,⟨rfl,rfl⟩,⟨rfl,rfl⟩⟩:=hpe;have HZ:Hid (b < w1.heap.size):=Nat.lt_of_lt_of_le (QAI x4) B1.size;have HC:Hid (w1.cell? ⟨b,off+4,none⟩=some (.slice al2 kl.length cl2)∧w1.cell? ⟨b,off+5,none⟩=some (.slice ar2 kr.length cr2)):=⟨(B1.cell (p:=⟨b,off+4,none⟩) (QAI x4)).trans x4,(B1.cell (p:=⟨b,off+5,none⟩) (QAI x5)).trans x5⟩;(have HW1':Hid (∀ wx,Below w1.heap.size w1 wx→Calls Tryz.prog 60 #[.slice al2 kl.length cl2,.slice al l.length cl] wx fun e w'=>e = .returned (.bool (QBB kl l))∧Below wx.heap.size wx w'):=fun wx hb=>QEL kl l (by omega) (by omega) _ _ wx (hkl.up (QAC B1 hb)) (HL.out.up (QAC B1 hb)));(have HW2':Hid (∀ wx,Below w1.heap.size w1 wx→Calls Tryz.prog 60 #[.slice ar2 kr.length cr2,.slice ar r.length cr] wx fun e w'=>e = .returned (.bool (QBB kr r))∧Below wx.heap.size wx w'):=fun wx hb=>QEL kr r (by omega) (by omega) _ _ wx (hkr.up (QAC B1 hb)) (HR.out.up (QAC B1 hb)));generalize QBB kl l=e1 at *;generalize QBB kr r=e2 at *;(have hc1:(1:Int)≤(cap:Int):=by omega);(have hc0:(0:Int) < (cap:Int):=by omega);(have hl0:(0:Int) < (ks.length:Int):=by omega);(have hl0N:0 < ks.length:=by omega);(have hl1:((ks.length:Int) != 1)=false:=by simp;omega);have HBP:Hid (w1.heap[w.heap.size]? = some _):=Q1.out;have BW:Hid (Below w.heap.size w w1):=B1;clear hrs HK hrep hkl hkr HL HR hks1 HSK x0 x1 x2 x3 x4 x5 x6 HT1 Q1
   cases e1
   ·have HW1:Hid (∀ wx,Below w1.heap.size w1 wx→Calls Tryz.prog 60 #[.slice al2 kl.length cl2,.slice al l.length cl] wx fun e w'=>e = .returned (.bool false)∧Below wx.heap.size wx w'):=HW1'
    have HT0:Hid (T=7):=HT2.out;clear HW1' HW2' HT2;go_wp2_with fail;clear j0 j1 j2 j3 j4 j5 j6 hl1 hk1;(refine QAT (by kernel_rfl) [kEq (.pointer (some ⟨w.heap.size,6,none⟩)),kEq (.slice (some ⟨b,off,none⟩) ks.length cap),kEq (.pointer (some ⟨b,off,none⟩)),kEq (.pointer (some ⟨b,off+4,none⟩)),kEq (.pointer (some ⟨b,off+4,none⟩)),kEq (.slice al2 kl.length cl2),kEq (.pointer (some ⟨w.heap.size,4,none⟩)),kEq (.pointer (some ⟨w.heap.size,4,none⟩)),kEq (.slice al l.length cl),kEq (.bool false),kEq (.bool true),kEq (.bool true),QCh,QCh,QCh,QCh,QCh,QCh,QCh,QCh,QCh,QCh,QCh,kEq (.bool true)] ?_ (by kernel_rfl) (by kernel_rfl) 150 rfl (by kernel_rfl) ?_ ?_)
    ·intro p hp
     simp only [List.mem_cons,List.not_mem_nil,or_false] at hp
     rcases hp with rfl|rfl|rfl|rfl|rfl|rfl|rfl|rfl|rfl|rfl|rfl|rfl|rfl|rfl|rfl|rfl|rfl|rfl|rfl|rfl|rfl|rfl|rfl|rfl
     all_goals first|exact QAe _|exact QCX
    ·refine⟨?_,?_,?_,?_,?_,?_,?_,?_,?_,?_,?_,?_,?_,?_,?_,?_,?_,?_,?_,?_,?_,?_,?_,?_,trivial⟩
     ·intro a wx hB hold hdep K hK;have t2:a.tmps[2]? = some (.pointer (some ⟨w.heap.size,0,none⟩)):=hold.2.2 2 rfl;clear hold hdep;go_simp;exact hK.out _ _ rfl (Below.refl _ _)
     ·intro a wx hB hold hdep K hK;have t51:=QAF wx (hdep 0 rfl _ 51 rfl rfl);obtain⟨k0,k1,k2',k3,k4,k5,k6⟩:=QAj (QAA hB HBP.out);clear hold hdep;go_simp;exact hK.out _ _ rfl (Below.refl _ _)
     ·intro a wx hB hold hdep K hK;have t52:=QAF wx (hdep 1 rfl _ 52 rfl rfl);clear hold hdep;go_simp;exact hK.out _ _ rfl (Below.refl _ _)
     ·intro a wx hB hold hdep K hK;have t53:=QAF wx (hdep 2 rfl _ 53 rfl rfl);clear hold hdep;go_simp;exact hK.out _ _ rfl (Below.refl _ _)
     ·intro a wx hB hold hdep K hK;have t54:=QAF wx (hdep 3 rfl _ 54 rfl rfl);clear hold hdep;go_simp;exact hK.out _ _ rfl (Below.refl _ _)
     ·intro a wx hB hold hdep K hK;have t55:=QAF wx (hdep 4 rfl _ 55 rfl rfl);obtain⟨g4,g5⟩:=HC.out;have q4:=(hB.cell (p:=⟨b,off+4,none⟩) HZ.out).trans g4;have q5:=(hB.cell (p:=⟨b,off+5,none⟩) HZ.out).trans g5;clear g4 g5;clear hold hdep;go_simp;exact hK.out _ _ rfl (Below.refl _ _)
     ·intro a wx hB hold hdep K hK;have t2:a.tmps[2]? = some (.pointer (some ⟨w.heap.size,0,none⟩)):=hold.2.2 2 rfl;clear hold hdep;go_simp;exact hK.out _ _ rfl (Below.refl _ _)
     ·intro a wx hB hold hdep K hK;have t57:=QAF wx (hdep 6 rfl _ 57 rfl rfl);clear hold hdep;go_simp;exact hK.out _ _ rfl (Below.refl _ _)
     ·intro a wx hB hold hdep K hK;have t58:=QAF wx (hdep 7 rfl _ 58 rfl rfl);obtain⟨k0,k1,k2',k3,k4,k5,k6⟩:=QAj (QAA hB HBP.out);clear hold hdep;go_simp;exact hK.out _ _ rfl (Below.refl _ _)
     ·intro a wx hB hold hdep K hK;have t56:=QAF wx (hdep 5 rfl _ 56 rfl rfl);have t59:=QAF wx (hdep 8 rfl _ 59 rfl rfl);clear hold hdep;go_simp;refine (HW1.out wx hB).mono ?_;rintro e w1 ⟨rfl,hb⟩;exact hK.out _ _ rfl hb
     ·intro a wx hB hold hdep K hK;have t60:=QAF wx (hdep 9 rfl _ 60 rfl rfl);clear hold hdep;go_simp;exact hK.out _ _ rfl (Below.refl _ _)
     ·intro a wx hB hold hdep K hK;have t61:=QAF wx (hdep 10 rfl _ 61 rfl rfl);clear hold hdep;go_simp;exact hK.out _ _ rfl (Below.refl _ _)
     iterate 11 (· intro a wx hB hold hdep K hK;have t62:=QAF wx (hdep 11 rfl _ 62 rfl rfl);clear hold hdep;go_simp;exact hK.out _ _ trivial (Below.refl _ _))
     ·intro a wx hB hold hdep K hK;have t62:=QAF wx (hdep 11 rfl _ 62 rfl rfl);clear hold hdep;go_simp;exact hK.out _ _ rfl (Below.refl _ _)
    ·intro a wx hB hold hgot
     (obtain⟨v74,t74,p74⟩:=hgot 23 _ 74 rfl rfl;have e74:v74=(.bool true):=p74;subst e74;obtain⟨tm,df⟩:=a;obtain⟨ys,hys,htm,rfl⟩:=QCm 51 24 (by kernel_rfl) (Nat.le_of_ble_eq_true rfl) hold;obtain⟨x51,x52,x53,x54,x55,x56,x57,x58,x59,x60,x61,x62,x63,x64,x65,x66,x67,x68,x69,x70,x71,x72,x73,x74,rfl⟩:=QHZ ys hys;simp only [List.take_succ_cons,List.take_zero,List.drop_succ_cons,List.drop_zero,List.cons_append,List.nil_append] at htm;subst htm;obtain rfl:x74=_:=QAK t74;clear hys hold hgot t74 p74;have B2:=QAC BW.out hB;go_wp2_with fail;go_ret;(exact⟨by rw [HT0.out];rfl,B2⟩))
   ·have HW1:Hid (∀ wx,Below w1.heap.size w1 wx→Calls Tryz.prog 60 #[.slice al2 kl.length cl2,.slice al l.length cl] wx fun e w'=>e = .returned (.bool true)∧Below wx.heap.size wx w'):=HW1'
    cases e2
    ·have HW2:Hid (∀ wx,Below w1.heap.size w1 wx→Calls Tryz.prog 60 #[.slice ar2 kr.length cr2,.slice ar r.length cr] wx fun e w'=>e = .returned (.bool false)∧Below wx.heap.size wx w'):=HW2'
     have HT0:Hid (T=7):=HT2.out;clear HW1' HW2' HT2;go_wp2_with fail;clear j0 j1 j2 j3 j4 j5 j6 hl1 hk1;(refine QAT (by kernel_rfl) [kEq (.pointer (some ⟨w.heap.size,6,none⟩)),kEq (.slice (some ⟨b,off,none⟩) ks.length cap),kEq (.pointer (some ⟨b,off,none⟩)),kEq (.pointer (some ⟨b,off+4,none⟩)),kEq (.pointer (some ⟨b,off+4,none⟩)),kEq (.slice al2 kl.length cl2),kEq (.pointer (some ⟨w.heap.size,4,none⟩)),kEq (.pointer (some ⟨w.heap.size,4,none⟩)),kEq (.slice al l.length cl),kEq (.bool true),kEq (.bool false),kEq (.bool false),kEq (.pointer (some ⟨w.heap.size,6,none⟩)),kEq (.slice (some ⟨b,off,none⟩) ks.length cap),kEq (.pointer (some ⟨b,off,none⟩)),kEq (.pointer (some ⟨b,off+4,none⟩)),kEq (.pointer (some ⟨b,off+5,none⟩)),kEq (.slice ar2 kr.length cr2),kEq (.pointer (some ⟨w.heap.size,4,none⟩)),kEq (.pointer (some ⟨w.heap.size,5,none⟩)),kEq (.slice ar r.length cr),kEq (.bool false),kEq (.bool true),kEq (.bool true)] ?_ (by kernel_rfl) (by kernel_rfl) 150 rfl (by kernel_rfl) ?_ ?_)
     ·intro p hp
      simp only [List.mem_cons,List.not_mem_nil,or_false] at hp
      rcases hp with rfl|rfl|rfl|rfl|rfl|rfl|rfl|rfl|rfl|rfl|rfl|rfl|rfl|rfl|rfl|rfl|rfl|rfl|rfl|rfl|rfl|rfl|rfl|rfl
      all_goals first|exact QAe _|exact QCX
     ·refine⟨?_,?_,?_,?_,?_,?_,?_,?_,?_,?_,?_,?_,?_,?_,?_,?_,?_,?_,?_,?_,?_,?_,?_,?_,trivial⟩
      ·intro a wx hB hold hdep K hK;have t2:a.tmps[2]? = some (.pointer (some ⟨w.heap.size,0,none⟩)):=hold.2.2 2 rfl;clear hold hdep;go_simp;exact hK.out _ _ rfl (Below.refl _ _)
      ·intro a wx hB hold hdep K hK;have t51:=QAF wx (hdep 0 rfl _ 51 rfl rfl);obtain⟨k0,k1,k2',k3,k4,k5,k6⟩:=QAj (QAA hB HBP.out);clear hold hdep;go_simp;exact hK.out _ _ rfl (Below.refl _ _)
      ·intro a wx hB hold hdep K hK;have t52:=QAF wx (hdep 1 rfl _ 52 rfl rfl);clear hold hdep;go_simp;exact hK.out _ _ rfl (Below.refl _ _)
      ·intro a wx hB hold hdep K hK;have t53:=QAF wx (hdep 2 rfl _ 53 rfl rfl);clear hold hdep;go_simp;exact hK.out _ _ rfl (Below.refl _ _)
      ·intro a wx hB hold hdep K hK;have t54:=QAF wx (hdep 3 rfl _ 54 rfl rfl);clear hold hdep;go_simp;exact hK.out _ _ rfl (Below.refl _ _)
      ·intro a wx hB hold hdep K hK;have t55:=QAF wx (hdep 4 rfl _ 55 rfl rfl);obtain⟨g4,g5⟩:=HC.out;have q4:=(hB.cell (p:=⟨b,off+4,none⟩) HZ.out).trans g4;have q5:=(hB.cell (p:=⟨b,off+5,none⟩) HZ.out).trans g5;clear g4 g5;clear hold hdep;go_simp;exact hK.out _ _ rfl (Below.refl _ _)
      ·intro a wx hB hold hdep K hK;have t2:a.tmps[2]? = some (.pointer (some ⟨w.heap.size,0,none⟩)):=hold.2.2 2 rfl;clear hold hdep;go_simp;exact hK.out _ _ rfl (Below.refl _ _)
      ·intro a wx hB hold hdep K hK;have t57:=QAF wx (hdep 6 rfl _ 57 rfl rfl);clear hold hdep;go_simp;exact hK.out _ _ rfl (Below.refl _ _)
      ·intro a wx hB hold hdep K hK;have t58:=QAF wx (hdep 7 rfl _ 58 rfl rfl);obtain⟨k0,k1,k2',k3,k4,k5,k6⟩:=QAj (QAA hB HBP.out);clear hold hdep;go_simp;exact hK.out _ _ rfl (Below.refl _ _)
      ·intro a wx hB hold hdep K hK;have t56:=QAF wx (hdep 5 rfl _ 56 rfl rfl);have t59:=QAF wx (hdep 8 rfl _ 59 rfl rfl);clear hold hdep;go_simp;refine (HW1.out wx hB).mono ?_;rintro e w1 ⟨rfl,hb⟩;exact hK.out _ _ rfl hb
      ·intro a wx hB hold hdep K hK;have t60:=QAF wx (hdep 9 rfl _ 60 rfl rfl);clear hold hdep;go_simp;exact hK.out _ _ rfl (Below.refl _ _)
      ·intro a wx hB hold hdep K hK;have t61:=QAF wx (hdep 10 rfl _ 61 rfl rfl);clear hold hdep;go_simp;exact hK.out _ _ rfl (Below.refl _ _)
      ·intro a wx hB hold hdep K hK;have t62:=QAF wx (hdep 11 rfl _ 62 rfl rfl);have t2:a.tmps[2]? = some (.pointer (some ⟨w.heap.size,0,none⟩)):=hold.2.2 2 rfl;clear hold hdep;go_simp;exact hK.out _ _ rfl (Below.refl _ _)
      ·intro a wx hB hold hdep K hK;have t62:=QAF wx (hdep 11 rfl _ 62 rfl rfl);have t63:=QAF wx (hdep 12 rfl _ 63 rfl rfl);obtain⟨k0,k1,k2',k3,k4,k5,k6⟩:=QAj (QAA hB HBP.out);clear hold hdep;go_simp;exact hK.out _ _ rfl (Below.refl _ _)
      ·intro a wx hB hold hdep K hK;have t62:=QAF wx (hdep 11 rfl _ 62 rfl rfl);have t64:=QAF wx (hdep 13 rfl _ 64 rfl rfl);clear hold hdep;go_simp;exact hK.out _ _ rfl (Below.refl _ _)
      ·intro a wx hB hold hdep K hK;have t62:=QAF wx (hdep 11 rfl _ 62 rfl rfl);have t65:=QAF wx (hdep 14 rfl _ 65 rfl rfl);clear hold hdep;go_simp;exact hK.out _ _ rfl (Below.refl _ _)
      ·intro a wx hB hold hdep K hK;have t62:=QAF wx (hdep 11 rfl _ 62 rfl rfl);have t66:=QAF wx (hdep 15 rfl _ 66 rfl rfl);clear hold hdep;go_simp;exact hK.out _ _ rfl (Below.refl _ _)
      ·intro a wx hB hold hdep K hK;have t62:=QAF wx (hdep 11 rfl _ 62 rfl rfl);have t67:=QAF wx (hdep 16 rfl _ 67 rfl rfl);obtain⟨g4,g5⟩:=HC.out;have q4:=(hB.cell (p:=⟨b,off+4,none⟩) HZ.out).trans g4;have q5:=(hB.cell (p:=⟨b,off+5,none⟩) HZ.out).trans g5;clear g4 g5;clear hold hdep;go_simp;exact hK.out _ _ rfl (Below.refl _ _)
      ·intro a wx hB hold hdep K hK;have t62:=QAF wx (hdep 11 rfl _ 62 rfl rfl);have t2:a.tmps[2]? = some (.pointer (some ⟨w.heap.size,0,none⟩)):=hold.2.2 2 rfl;clear hold hdep;go_simp;exact hK.out _ _ rfl (Below.refl _ _)
      ·intro a wx hB hold hdep K hK;have t62:=QAF wx (hdep 11 rfl _ 62 rfl rfl);have t69:=QAF wx (hdep 18 rfl _ 69 rfl rfl);clear hold hdep;go_simp;exact hK.out _ _ rfl (Below.refl _ _)
      ·intro a wx hB hold hdep K hK;have t62:=QAF wx (hdep 11 rfl _ 62 rfl rfl);have t70:=QAF wx (hdep 19 rfl _ 70 rfl rfl);obtain⟨k0,k1,k2',k3,k4,k5,k6⟩:=QAj (QAA hB HBP.out);clear hold hdep;go_simp;exact hK.out _ _ rfl (Below.refl _ _)
      ·intro a wx hB hold hdep K hK;have t62:=QAF wx (hdep 11 rfl _ 62 rfl rfl);have t68:=QAF wx (hdep 17 rfl _ 68 rfl rfl);have t71:=QAF wx (hdep 20 rfl _ 71 rfl rfl);clear hold hdep;go_simp;refine (HW2.out wx hB).mono ?_;rintro e w1 ⟨rfl,hb⟩;exact hK.out _ _ rfl hb
      ·intro a wx hB hold hdep K hK;have t62:=QAF wx (hdep 11 rfl _ 62 rfl rfl);have t72:=QAF wx (hdep 21 rfl _ 72 rfl rfl);clear hold hdep;go_simp;exact hK.out _ _ rfl (Below.refl _ _)
      ·intro a wx hB hold hdep K hK;have t62:=QAF wx (hdep 11 rfl _ 62 rfl rfl);have t73:=QAF wx (hdep 22 rfl _ 73 rfl rfl);clear hold hdep;go_simp;exact hK.out _ _ rfl (Below.refl _ _)
     ·intro a wx hB hold hgot
      (obtain⟨v74,t74,p74⟩:=hgot 23 _ 74 rfl rfl;have e74:v74=(.bool true):=p74;subst e74;obtain⟨tm,df⟩:=a;obtain⟨ys,hys,htm,rfl⟩:=QCm 51 24 (by kernel_rfl) (Nat.le_of_ble_eq_true rfl) hold;obtain⟨x51,x52,x53,x54,x55,x56,x57,x58,x59,x60,x61,x62,x63,x64,x65,x66,x67,x68,x69,x70,x71,x72,x73,x74,rfl⟩:=QHZ ys hys;simp only [List.take_succ_cons,List.take_zero,List.drop_succ_cons,List.drop_zero,List.cons_append,List.nil_append] at htm;subst htm;obtain rfl:x74=_:=QAK t74;clear hys hold hgot t74 p74;have B2:=QAC BW.out hB;go_wp2_with fail;go_ret;(exact⟨by rw [HT0.out];rfl,B2⟩))
    ·have HW2:Hid (∀ wx,Below w1.heap.size w1 wx→Calls Tryz.prog 60 #[.slice ar2 kr.length cr2,.slice ar r.length cr] wx fun e w'=>e = .returned (.bool true)∧Below wx.heap.size wx w'):=HW2'
     have HT0:Hid (T=0):=HT2.out;clear HW1' HW2' HT2;go_wp2_with fail;clear j0 j1 j2 j3 j4 j5 j6 hl1 hk1;(refine QAT (by kernel_rfl) [kEq (.pointer (some ⟨w.heap.size,6,none⟩)),kEq (.slice (some ⟨b,off,none⟩) ks.length cap),kEq (.pointer (some ⟨b,off,none⟩)),kEq (.pointer (some ⟨b,off+4,none⟩)),kEq (.pointer (some ⟨b,off+4,none⟩)),kEq (.slice al2 kl.length cl2),kEq (.pointer (some ⟨w.heap.size,4,none⟩)),kEq (.pointer (some ⟨w.heap.size,4,none⟩)),kEq (.slice al l.length cl),kEq (.bool true),kEq (.bool false),kEq (.bool false),kEq (.pointer (some ⟨w.heap.size,6,none⟩)),kEq (.slice (some ⟨b,off,none⟩) ks.length cap),kEq (.pointer (some ⟨b,off,none⟩)),kEq (.pointer (some ⟨b,off+4,none⟩)),kEq (.pointer (some ⟨b,off+5,none⟩)),kEq (.slice ar2 kr.length cr2),kEq (.pointer (some ⟨w.heap.size,4,none⟩)),kEq (.pointer (some ⟨w.heap.size,5,none⟩)),kEq (.slice ar r.length cr),kEq (.bool true),kEq (.bool false),kEq (.bool false)] ?_ (by kernel_rfl) (by kernel_rfl) 150 rfl (by kernel_rfl) ?_ ?_)
     ·intro p hp
      simp only [List.mem_cons,List.not_mem_nil,or_false] at hp
      rcases hp with rfl|rfl|rfl|rfl|rfl|rfl|rfl|rfl|rfl|rfl|rfl|rfl|rfl|rfl|rfl|rfl|rfl|rfl|rfl|rfl|rfl|rfl|rfl|rfl
      all_goals first|exact QAe _|exact QCX
     ·refine⟨?_,?_,?_,?_,?_,?_,?_,?_,?_,?_,?_,?_,?_,?_,?_,?_,?_,?_,?_,?_,?_,?_,?_,?_,trivial⟩
      ·intro a wx hB hold hdep K hK;have t2:a.tmps[2]? = some (.pointer (some ⟨w.heap.size,0,none⟩)):=hold.2.2 2 rfl;clear hold hdep;go_simp;exact hK.out _ _ rfl (Below.refl _ _)
      ·intro a wx hB hold hdep K hK;have t51:=QAF wx (hdep 0 rfl _ 51 rfl rfl);obtain⟨k0,k1,k2',k3,k4,k5,k6⟩:=QAj (QAA hB HBP.out);clear hold hdep;go_simp;exact hK.out _ _ rfl (Below.refl _ _)
      ·intro a wx hB hold hdep K hK;have t52:=QAF wx (hdep 1 rfl _ 52 rfl rfl);clear hold hdep;go_simp;exact hK.out _ _ rfl (Below.refl _ _)
      ·intro a wx hB hold hdep K hK;have t53:=QAF wx (hdep 2 rfl _ 53 rfl rfl);clear hold hdep;go_simp;exact hK.out _ _ rfl (Below.refl _ _)
      ·intro a wx hB hold hdep K hK;have t54:=QAF wx (hdep 3 rfl _ 54 rfl rfl);clear hold hdep;go_simp;exact hK.out _ _ rfl (Below.refl _ _)
      ·intro a wx hB hold hdep K hK;have t55:=QAF wx (hdep 4 rfl _ 55 rfl rfl);obtain⟨g4,g5⟩:=HC.out;have q4:=(hB.cell (p:=⟨b,off+4,none⟩) HZ.out).trans g4;have q5:=(hB.cell (p:=⟨b,off+5,none⟩) HZ.out).trans g5;clear g4 g5;clear hold hdep;go_simp;exact hK.out _ _ rfl (Below.refl _ _)
      ·intro a wx hB hold hdep K hK;have t2:a.tmps[2]? = some (.pointer (some ⟨w.heap.size,0,none⟩)):=hold.2.2 2 rfl;clear hold hdep;go_simp;exact hK.out _ _ rfl (Below.refl _ _)
      ·intro a wx hB hold hdep K hK;have t57:=QAF wx (hdep 6 rfl _ 57 rfl rfl);clear hold hdep;go_simp;exact hK.out _ _ rfl (Below.refl _ _)
      ·intro a wx hB hold hdep K hK;have t58:=QAF wx (hdep 7 rfl _ 58 rfl rfl);obtain⟨k0,k1,k2',k3,k4,k5,k6⟩:=QAj (QAA hB HBP.out);clear hold hdep;go_simp;exact hK.out _ _ rfl (Below.refl _ _)
      ·intro a wx hB hold hdep K hK;have t56:=QAF wx (hdep 5 rfl _ 56 rfl rfl);have t59:=QAF wx (hdep 8 rfl _ 59 rfl rfl);clear hold hdep;go_simp;refine (HW1.out wx hB).mono ?_;rintro e w1 ⟨rfl,hb⟩;exact hK.out _ _ rfl hb
      ·intro a wx hB hold hdep K hK;have t60:=QAF wx (hdep 9 rfl _ 60 rfl rfl);clear hold hdep;go_simp;exact hK.out _ _ rfl (Below.refl _ _)
      ·intro a wx hB hold hdep K hK;have t61:=QAF wx (hdep 10 rfl _ 61 rfl rfl);clear hold hdep;go_simp;exact hK.out _ _ rfl (Below.refl _ _)
      ·intro a wx hB hold hdep K hK;have t62:=QAF wx (hdep 11 rfl _ 62 rfl rfl);have t2:a.tmps[2]? = some (.pointer (some ⟨w.heap.size,0,none⟩)):=hold.2.2 2 rfl;clear hold hdep;go_simp;exact hK.out _ _ rfl (Below.refl _ _)
      ·intro a wx hB hold hdep K hK;have t62:=QAF wx (hdep 11 rfl _ 62 rfl rfl);have t63:=QAF wx (hdep 12 rfl _ 63 rfl rfl);obtain⟨k0,k1,k2',k3,k4,k5,k6⟩:=QAj (QAA hB HBP.out);clear hold hdep;go_simp;exact hK.out _ _ rfl (Below.refl _ _)
      ·intro a wx hB hold hdep K hK;have t62:=QAF wx (hdep 11 rfl _ 62 rfl rfl);have t64:=QAF wx (hdep 13 rfl _ 64 rfl rfl);clear hold hdep;go_simp;exact hK.out _ _ rfl (Below.refl _ _)
      ·intro a wx hB hold hdep K hK;have t62:=QAF wx (hdep 11 rfl _ 62 rfl rfl);have t65:=QAF wx (hdep 14 rfl _ 65 rfl rfl);clear hold hdep;go_simp;exact hK.out _ _ rfl (Below.refl _ _)
      ·intro a wx hB hold hdep K hK;have t62:=QAF wx (hdep 11 rfl _ 62 rfl rfl);have t66:=QAF wx (hdep 15 rfl _ 66 rfl rfl);clear hold hdep;go_simp;exact hK.out _ _ rfl (Below.refl _ _)
      ·intro a wx hB hold hdep K hK;have t62:=QAF wx (hdep 11 rfl _ 62 rfl rfl);have t67:=QAF wx (hdep 16 rfl _ 67 rfl rfl);obtain⟨g4,g5⟩:=HC.out;have q4:=(hB.cell (p:=⟨b,off+4,none⟩) HZ.out).trans g4;have q5:=(hB.cell (p:=⟨b,off+5,none⟩) HZ.out).trans g5;clear g4 g5;clear hold hdep;go_simp;exact hK.out _ _ rfl (Below.refl _ _)
      ·intro a wx hB hold hdep K hK;have t62:=QAF wx (hdep 11 rfl _ 62 rfl rfl);have t2:a.tmps[2]? = some (.pointer (some ⟨w.heap.size,0,none⟩)):=hold.2.2 2 rfl;clear hold hdep;go_simp;exact hK.out _ _ rfl (Below.refl _ _)
      ·intro a wx hB hold hdep K hK;have t62:=QAF wx (hdep 11 rfl _ 62 rfl rfl);have t69:=QAF wx (hdep 18 rfl _ 69 rfl rfl);clear hold hdep;go_simp;exact hK.out _ _ rfl (Below.refl _ _)
      ·intro a wx hB hold hdep K hK;have t62:=QAF wx (hdep 11 rfl _ 62 rfl rfl);have t70:=QAF wx (hdep 19 rfl _ 70 rfl rfl);obtain⟨k0,k1,k2',k3,k4,k5,k6⟩:=QAj (QAA hB HBP.out);clear hold hdep;go_simp;exact hK.out _ _ rfl (Below.refl _ _)
      ·intro a wx hB hold hdep K hK;have t62:=QAF wx (hdep 11 rfl _ 62 rfl rfl);have t68:=QAF wx (hdep 17 rfl _ 68 rfl rfl);have t71:=QAF wx (hdep 20 rfl _ 71 rfl rfl);clear hold hdep;go_simp;refine (HW2.out wx hB).mono ?_;rintro e w1 ⟨rfl,hb⟩;exact hK.out _ _ rfl hb
      ·intro a wx hB hold hdep K hK;have t62:=QAF wx (hdep 11 rfl _ 62 rfl rfl);have t72:=QAF wx (hdep 21 rfl _ 72 rfl rfl);clear hold hdep;go_simp;exact hK.out _ _ rfl (Below.refl _ _)
      ·intro a wx hB hold hdep K hK;have t62:=QAF wx (hdep 11 rfl _ 62 rfl rfl);have t73:=QAF wx (hdep 22 rfl _ 73 rfl rfl);clear hold hdep;go_simp;exact hK.out _ _ rfl (Below.refl _ _)
     ·intro a wx hB hold hgot
      (obtain⟨v74,t74,p74⟩:=hgot 23 _ 74 rfl rfl;have e74:v74=(.bool false):=p74;subst e74;obtain⟨tm,df⟩:=a;obtain⟨ys,hys,htm,rfl⟩:=QCm 51 24 (by kernel_rfl) (Nat.le_of_ble_eq_true rfl) hold;obtain⟨x51,x52,x53,x54,x55,x56,x57,x58,x59,x60,x61,x62,x63,x64,x65,x66,x67,x68,x69,x70,x71,x72,x73,x74,rfl⟩:=QHZ ys hys;simp only [List.take_succ_cons,List.take_zero,List.drop_succ_cons,List.drop_zero,List.cons_append,List.nil_append] at htm;subst htm;obtain rfl:x74=_:=QAK t74;clear hys hold hgot t74 p74;have B2:=QAC BW.out hB;go_wp2_with fail;go_ret;(exact⟨by rw [HT0.out];rfl,B2⟩))
theorem QLe (i:Bool) (p:Pf) (hsm:SmallP p) (v:Value) (w:World) (hv:PRep w p v) :
  Calls Tryz.prog 59 #[v,.bool i] w fun e w'=>e = .returned (.int .i64 (QBa i p))∧Below w.heap.size w w':=by
 by_cases h:p.lawT=QBw
 ·exact QNn i p h hsm v w hv
 ·exact QNm i p h hsm v w hv
mutual
theorem QGY (i:Bool):∀ (p:Pf) (d s c:Nat) (M:List (Pf × Nat)),QCa i (p.nodesD d++M) s=if (QCI i p d s c).1.1≠0 then (QCI i p d s c).1 else QCa i M (QCI i p d s c).2.1
 | .mk a f l r ks,d,s,c,M=>by
  rw [Pf.nodesD,List.cons_append,QCa,QDn];by_cases h1:s=20000∨400 < d
  ·rw [if_pos h1,if_pos h1]
   rfl
  ·rw [if_neg h1,if_neg h1]
   by_cases h2:QBa i (.mk a f l r ks)≠0
   ·rw [if_pos h2,if_pos h2,if_pos h2]
   ·rw [if_neg h2,if_neg h2]
    exact looks_scan i ks (d+1) (s+1) _ M
theorem looks_scan (i:Bool):∀ (ks:List Pf) (d s c:Nat) (M:List (Pf × Nat)),QCa i (Pf.nodesDL ks d++M) s=if (looks i ks d s c).1.1≠0 then (looks i ks d s c).1 else QCa i M (looks i ks d s c).2.1
 | [],d,s,c,M=>by
  rw [Pf.nodesDL,looks,List.nil_append]
  rfl
 | k :: ks,d,s,c,M=>by
  rw [Pf.nodesDL,List.append_assoc,QGY i k d s c,looks];by_cases h:(QCI i k d s c).1.1≠0
  ·rw [if_pos h,if_pos h,if_pos h]
  ·rw [if_neg h,if_neg h]
   exact looks_scan i ks d _ _ M
end
theorem QLa (i:Bool) (p:Pf):QCa i (p.stepsL 1 20001) 0=((QCI i p 1 0 0).1.1,if (QCI i p 1 0 0).1.1≠0 then (QCI i p 1 0 0).1.2 else 0):=by
 (rw [QJk (QDq p 1 20001) (by omega) (by omega)]);have h:=QGY i p 1 0 0 [];rw [List.append_nil] at h;rw [h]
 split
 ·rfl
 ·rename_i hn
  (have:(QCI i p 1 0 0).1.1=0:=Classical.byContradiction fun e=>hn e);rw [this,QCa]
mutual
theorem QEg:∀ (p:Pf) (d m:Nat),SmallP p→∀ x∈p.stepsL d m,SmallP x.1
 | .mk a f l r ks,d,m,h,x,hx=>by
  rw [Pf.stepsL] at hx
  rcases List.mem_cons.1 hx with rfl|hx
  ·exact h
  ·exact stepsLs_small ks d m 1 h.parts.2.2.2 x hx
theorem stepsLs_small:∀ (ks:List Pf) (d m n:Nat),(∀ k∈ks,SmallP k)→∀ x∈Pf.stepsLs ks d m n,SmallP x.1
 | [],d,m,n,_,x,hx=>by rw [Pf.stepsLs] at hx;cases hx
 | k :: ks,d,m,n,h,x,hx=>by
  rw [Pf.stepsLs] at hx
  split at hx
  ·rcases List.mem_append.1 hx with hx|hx
   ·exact QEg k _ _ (h k List.mem_cons_self) x hx
   ·exact stepsLs_small ks _ _ _ (fun y hy=>h y (List.mem_cons_of_mem _ hy)) x hx
  ·cases hx
end
mutual
theorem QFI:∀ (p:Pf) (d m:Nat),d≤402→∀ x∈p.stepsL d m,x.2≤403
 | .mk a f l r ks,d,m,h,x,hx=>by
  rw [Pf.stepsL] at hx
  rcases List.mem_cons.1 hx with rfl|hx
  ·show d≤403;omega
  ·exact stepsLs_deep ks d m 1 x hx
theorem stepsLs_deep:∀ (ks:List Pf) (d m n:Nat),∀ x∈Pf.stepsLs ks d m n,x.2≤403
 | [],d,m,n,x,hx=>by rw [Pf.stepsLs] at hx;cases hx
 | k :: ks,d,m,n,x,hx=>by
  rw [Pf.stepsLs] at hx
  split at hx
  ·rename_i h
   rcases List.mem_append.1 hx with hx|hx
   ·exact QFI k _ _ (by omega) x hx
   ·exact stepsLs_deep ks _ _ _ x hx
  ·cases hx
end
theorem QLZ {i:Bool} {L:List (Pf × Nat)} {j:Nat} {x:Pf × Nat} (h:L[j]? = some x):QCa i (L.drop j) j=if j=20000∨400 < x.2 then (2,0) else if QBa i x.1≠0 then (QBa i x.1,((j:Nat):Int)) else QCa i (L.drop (j+1)) (j+1):=by
 have hi:=(List.getElem?_eq_some_iff.1 h).1;rw [List.drop_eq_getElem_cons hi,QCa];rw [List.getElem?_eq_getElem hi] at h;rw [Option.some.inj h]
set_option maxRecDepth 10000 in
set_option maxHeartbeats 8000000 in
theorem QFq (i:Bool) (p:Pf) (hsm:SmallP p) (v:Value) (w:World) (hv:PRep w p v) :
  Calls Tryz.prog 19 #[v,.bool i] w fun e w'=>e = .returned (.agg #[.int .i64 (QCa i (p.stepsL 1 20001) 0).1,.int .i64 (QCa i (p.stepsL 1 20001) 0).2])∧Below w.heap.size w w':=by
 have HV:Hid (PRep w p v):=hv;(have hst:=fun wx (hb:Below w.heap.size w wx)=>QEO wx.heap.size (p.size+1) p v wx 1 20001 (Nat.lt_succ_self _) hsm (by omega) (by omega) (Nat.le_refl _) (PRep.low _ _ (PRep.up hb _ _ hv)));have HSM:Hid (∀ x∈p.stepsL 1 20001,SmallP x.1):=QEg p 1 20001 hsm;(have HDP:Hid (∀ x∈p.stepsL 1 20001,x.2≤403):=QFI p 1 20001 (by omega));have hlen:=(QCv p 1 20001).1;generalize p.stepsL 1 20001=L at *;obtain⟨T,hT⟩:∃ T,T=QCa i L 0:=⟨_,rfl⟩;rw [← hT];have HT0:Hid (T=QCa i (L.drop 0) 0):=hT;obtain⟨a,⟨k,n,kf⟩,l,r,ks⟩:=p;obtain⟨sf,cf,al,cl,ar,cr,sl,cap,rfl,-⟩:=hv.parts;(have HST:Hid (∀ wx,Below w.heap.size w wx→Calls Tryz.prog 58 _ wx fun e w'=>∃ ad cp ad' cp',e = .returned (.tuple #[.slice ad L.length cp,.slice ad' L.length cp'])∧KF (· < wx.heap.size) wx.heap.size w' ad cp (L.map Prod.fst)∧KD wx.heap.size w' ad' cp' (L.map Prod.snd)∧Below wx.heap.size wx w'):=hst);(have hLI:(L.length:Int)≤20002:=by omega);have B0:=QAB (QAB (Below.refl _ w) (.cells #[.string a,.int .i64 k,.string n,.slice sf kf.length cf,.slice al l.length cl,.slice ar r.length cr,.slice sl ks.length cap] 32 (0,0))) (.cells #[.int .i64 0,.int .i64 0] 35 (0,0));have N1:Hid (_=_):=QAa w (.cells #[.string a,.int .i64 k,.string n,.slice sf kf.length cf,.slice al l.length cl,.slice ar r.length cr,.slice sl ks.length cap] 32 (0,0)) (.cells #[.int .i64 0,.int .i64 0] 35 (0,0));clear hv hst hT hlen hsm
 go_enter Tryz.func19,Tryz.ntmps19
 go_wp2_with fail;refine (HST.out _ B0).mono ?_;rintro e w1 ⟨ad,cp,ad',cp',rfl,hkf,hkd,hb1⟩;have B1:=QAC B0 hb1;have Q1:Hid (w1.heap[w.heap.size+1]? = some (.cells #[.int .i64 0,.int .i64 0] 35 (0,0))):=QAA hb1 N1.out
 have hkf':KF (fun _=>True) 0 w1 ad cp (L.map Prod.fst):=by
  obtain⟨cs,ho,hp⟩:=hkf.low (Nat.zero_le _);(exact⟨cs,ho,PQ.move (fun b _ h=>⟨rfl,trivial,h.2⟩) hp⟩)
 (obtain⟨hc1,hc2,hc3⟩:=hkf'.rep fun _ _=>trivial);rw [List.length_map] at hc1;(have HC3:Hid (L.map Prod.fst≠[]→∃ b off,ad=some ⟨b,off,none⟩∧True∧PRps (fun _=>True) w1 b off (L.map Prod.fst)):=hc3);(have hkd':w1.ownsRow 0 3 1 (.slice ad' (L.map Prod.snd).length cp') (L.map Prod.snd).length ((L.map Prod.snd).map fun d=>Value.int .i64 (d:Nat)):=hkd.low (Nat.zero_le _));rw [List.length_map] at hkd';(have HKD:Hid (0 < L.length→∃ g,ad'=some ⟨g,0,none⟩∧(∀ j u,((L.map Prod.snd).map fun d=>Value.int .i64 ((d:Nat):Int))[j]? = some u→w1.cell? ((⟨g,0,none⟩:Addr).add j)=some u)):=fun h=>QBZ hkd' h)
 have hcD:L.length≤cp':=by
  rcases hkd'.2 with ⟨hv,h0⟩|⟨g,cap',cur,hv,-,-,h1,-⟩
  ·simp only [Value.slice.injEq] at hv
   omega
  ·simp only [Value.slice.injEq,true_and] at hv
   omega
 clear hkf hkf' hkd hkd' hc3 hb1 B0 HST N1;go_wp2_with fail
 go_loopg [7] L.length (fun gg c wr=>∃ j,j≤L.length∧gg=L.length - j∧c = .int .i64 (j:Nat)∧Hid (Below w1.heap.size w1 wr)∧Hid (T=QCa i (L.drop j) j))
 case atStart=>exact⟨0,by omega,by omega,rfl,Below.refl _ _,HT0⟩
 case round =>
  obtain⟨j,hj,hg,rfl,HBr,HT⟩:=hrel;have HG:Hid (gk=L.length - j):=hg;clear hg HT0;have BR:=QAC B1 HBr.out;have QR:=QAA HBr.out Q1.out;have zr:=QAE QR;by_cases hlt:j < L.length
  ·obtain⟨⟨⟨ka,⟨kk,kn,kkf⟩,kl,kr,kks⟩,dj⟩,hki⟩:∃ f,L[j]? = some f:=⟨_,List.getElem?_eq_getElem hlt⟩
   (have hltI:(j:Int) < (L.length:Int):=by omega);(have hlc:(j:Int) < (cp:Int):=by omega);(have hld:(j:Int) < (cp':Int):=by omega);(obtain⟨b,off,rfl,-,hrs⟩:=HC3.out (fun e=>by rw [List.map_eq_nil_iff] at e;rw [e] at hlt;simp at hlt));(have hrs':PRps (fun _=>True) wr b off (L.map Prod.fst):=hrs.move trivial fun q hq hp=>⟨HBr.out.block q hq,hp⟩);(obtain⟨sf2,cf2,al2,cl2,ar2,cr2,sl2,cap2,y0,y1,y2,y3,y4,y5,y6,hrep2⟩:=hrs'.at j ka kk kn kkf kl kr kks (by rw [List.getElem?_map,hki];rfl));(obtain⟨gd,rfl,hdc⟩:=HKD.out (by omega));(have hd1:=hdc j (.int .i64 (dj:Nat)) (by rw [List.getElem?_map,List.getElem?_map,hki];rfl));rw [QAZ,Nat.zero_add] at hd1;have d1:=(HBr.out.cell (p:=⟨gd,j,none⟩) (QAI hd1)).trans hd1;(have hdj:(dj:Int)≤403:=by have:=HDP.out _ (List.mem_of_getElem? hki);have:dj≤403:=this;omega);have hsc:=HT.out;rw [QLZ hki] at hsc;(have hsr:=fun wx (hb:Below wr.heap.size wr wx)=>QLe i (.mk ka (.mk kk kn kkf) kl kr kks) (HSM.out _ (List.mem_of_getElem? hki)) _ wx (PRep.up hb _ _ (PRp.rep _ _ hrep2)));generalize QBa i (.mk ka (.mk kk kn kkf) kl kr kks)=sc at *;have HSR:Hid (∀ wx,Below wr.heap.size wr wx→Calls Tryz.prog 59 _ wx _):=hsr;(have HSC:Hid (T=if j=20000∨400 < dj then (2,0) else if sc≠0 then (sc,((j:Nat):Int)) else QCa i (L.drop (j+1)) (j+1)):=hsc);(have HF2:Hid (∀ w,Calls Tryz.prog 14 #[.int .i64 2,.int .i64 0] w _):=fun w=>QDy 2 0 w);(have HFc:Hid (∀ w,Calls Tryz.prog 14 #[.int .i64 sc,.int .i64 (j:Nat)] w _):=fun w=>QDy sc (j:Nat) w);have HQR:Hid (wr.heap[w.heap.size+1]? = some _):=QR;have HBR:Hid (Below w.heap.size w wr):=BR;clear hki hrs hrs' hrep2 hsc hsr HT HC3 HKD hdc hd1 HSM HDP QR BR HV;by_cases hs:j=20000∨400 < dj
   ·have H2:Hid (T=(2,0)):=by
     show _=_;rw [HSC.out,if_pos hs]
    clear HSC HSR HFc;by_cases hj2:j=20000
    ·have hjI:(j:Int)=20000:=by omega
     (have hjq:((j:Int) == 20000)=true:=by rw [hjI];rfl);clear hjI hj2 hs;go_wp2_with fail;refine (HF2.out _).mono ?_;rintro e w2 ⟨rfl,hb2⟩;have q2:=QAA hb2 HQR.out;obtain⟨z1,z2,z3,z4⟩:=QAV q2;clear y0 y1 y2 y3 y4 y5 y6;go_wp2_with fail;have f2:=QCO q2 (.int .i64 2) (.int .i64 0);(have b2:=((QAC HBR.out hb2).setCell (p:=⟨w.heap.size+1,0,none⟩) (by simp) (.int .i64 2)).setCell (p:=⟨w.heap.size+1,1,none⟩) (by simp) (.int .i64 0));generalize World.setCell _ _ _=F at f2 b2 ⊢;clear z1 z2 z3 z4;obtain⟨k1,k2,-⟩:=QAV f2;(exact bodyPost_ret (v := .agg #[.int .i64 2,.int .i64 0]) (by simp [results,Tryz.results19,go_sem,k1,k2]) rfl ⟨by rw [H2.out],b2⟩)
    ·have hjq:((j:Int) == 20000)=false:=by rw [beq_eq_false_iff_ne];omega
     (have hdq:(400:Int) < (dj:Int):=by omega);clear hj2 hs;go_wp2_with fail;refine (HF2.out _).mono ?_;rintro e w2 ⟨rfl,hb2⟩;have q2:=QAA hb2 HQR.out;obtain⟨z1,z2,z3,z4⟩:=QAV q2;clear y0 y1 y2 y3 y4 y5 y6;go_wp2_with fail;have f2:=QCO q2 (.int .i64 2) (.int .i64 0);(have b2:=((QAC HBR.out hb2).setCell (p:=⟨w.heap.size+1,0,none⟩) (by simp) (.int .i64 2)).setCell (p:=⟨w.heap.size+1,1,none⟩) (by simp) (.int .i64 0));generalize World.setCell _ _ _=F at f2 b2 ⊢;clear z1 z2 z3 z4;obtain⟨k1,k2,-⟩:=QAV f2;(exact bodyPost_ret (v := .agg #[.int .i64 2,.int .i64 0]) (by simp [results,Tryz.results19,go_sem,k1,k2]) rfl ⟨by rw [H2.out],b2⟩)
   ·have hjq:((j:Int) == 20000)=false:=by rw [beq_eq_false_iff_ne];omega
    (have hdq:¬ (400:Int) < (dj:Int):=by omega)
    have HS2:Hid (T=if sc≠0 then (sc,((j:Nat):Int)) else QCa i (L.drop (j+1)) (j+1)):=by
     show _=_;rw [HSC.out,if_neg hs]
    clear HSC hs HF2;go_wp2_with fail;refine (HSR.out _ (Below.refl _ _)).mono ?_;rintro e w2 ⟨rfl,hb2⟩;have q2:Hid (w2.heap[w.heap.size+1]? = some _):=QAA hb2 HQR.out;have B2:Hid (Below w1.heap.size w1 w2):=QAC HBr.out hb2;have B3:Hid (Below w.heap.size w w2):=QAC HBR.out hb2;clear y0 y1 y2 y3 y4 y5 y6 d1 hb2;by_cases hz:sc=0
    ·subst hz
     have HT2:Hid (T=QCa i (L.drop (j+1)) (j+1)):=by
      have:=HS2.out
      rwa [if_neg (fun h=>h rfl)] at this
     clear HS2;go_wp2_with fail
     go_roundg (L.length - (j+1))
     case measure=>have:=HG.out;omega
     case rel=>exact⟨j+1,by omega,rfl,by go_num,B2,HT2⟩
    ·have hzJ:(sc != 0)=true:=by simpa using hz
     have HT2:Hid (T=(sc,((j:Nat):Int))):=by
      have:=HS2.out
      rwa [if_pos hz] at this
     clear HS2 hz;go_wp2_with fail;refine (HFc.out _).mono ?_;rintro e w3 ⟨rfl,hb3⟩;have q3:=QAA hb3 q2.out;obtain⟨z1,z2,z3,z4⟩:=QAV q3;go_wp2_with fail;have f2:=QCO q3 (.int .i64 sc) (.int .i64 (j:Nat));(have b2:=((QAC B3.out hb3).setCell (p:=⟨w.heap.size+1,0,none⟩) (by simp) (.int .i64 sc)).setCell (p:=⟨w.heap.size+1,1,none⟩) (by simp) (.int .i64 (j:Nat)));generalize World.setCell _ _ _=F at f2 b2 ⊢;clear z1 z2 z3 z4;obtain⟨k1,k2,-⟩:=QAV f2;(exact bodyPost_ret (v := .agg #[.int .i64 sc,.int .i64 (j:Nat)]) (by simp [results,Tryz.results19,go_sem,k1,k2]) rfl ⟨by rw [HT2.out],b2⟩)
  ·have hge:¬ (j:Int) < (L.length:Int):=by omega
   have H0:Hid (T=(0,0)):=by
    have:=HT.out;(rw [List.drop_of_length_le (by omega),QCa] at this);exact this
   obtain⟨z1,z2,z3,z4⟩:=QAV QR;clear HT HC3 HKD HSM HDP;go_wp2_with fail;have f2:=QCO QR (.int .i64 0) (.int .i64 0);(have b2:=(BR.setCell (p:=⟨w.heap.size+1,0,none⟩) (by simp) (.int .i64 0)).setCell (p:=⟨w.heap.size+1,1,none⟩) (by simp) (.int .i64 0));generalize World.setCell _ _ _=F at f2 b2 ⊢;clear z1 z2 z3 z4;obtain⟨k1,k2,-⟩:=QAV f2;(exact bodyPost_ret (v := .agg #[.int .i64 0,.int .i64 0]) (by simp [results,Tryz.results19,go_sem,k1,k2]) rfl ⟨by rw [H0.out],b2⟩)
end Go.Proofs.YtbmedfokpgghiacGreat
