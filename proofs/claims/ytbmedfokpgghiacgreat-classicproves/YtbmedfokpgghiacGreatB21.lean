import Derived.Test.YtbmedfokpgghiacGreatB15
import Derived.Test.YtbmedfokpgghiacGreatB14
import Derived.Deep.Upon
namespace Go.Proofs.YtbmedfokpgghiacGreat
open Go.RowKit
theorem QFm (f:Fm):QCL [f]=if f.pcode.1=0 then (0,0) else f.pcode:=by rw [QCL];rfl
set_option maxRecDepth 10000 in
set_option maxHeartbeats 8000000 in
theorem QDZ (l r:List Fm) (hl4:l.length≤400) (hr4:r.length≤400) (v u:Value) (w:World) (hv:FL w v l) (hu:FL w u r) :
  Calls Tryz.prog 11 #[.agg #[v,u]] w fun e w'=>e = .returned (.agg #[.int .i64 (QAd l r).1,.int .i64 (QAd l r).2])∧Below w.heap.size w w':=by
 obtain⟨adV,cpV,rfl,hv1,hv2,hv3⟩:=hv;obtain⟨adU,cpU,rfl,hu1,hu2,hu3⟩:=hu;(have HV:Hid (l≠[]→∃ b off,adV=some ⟨b,off,none⟩∧Reps w (fun _=>True) b off l):=hv3);(have HU:Hid (r≠[]→∃ b off,adU=some ⟨b,off,none⟩∧Reps w (fun _=>True) b off r):=hu3);(have hlI:(l.length:Int)≤400:=by omega);(have hrI:(r.length:Int)≤400:=by omega);have B0:=QAB (QAB (Below.refl _ w) (.cells #[.slice adV l.length cpV,.slice adU r.length cpU] 24 (0,0))) (.cells #[.int .i64 0,.int .i64 0] 35 (0,0));have N1:=QAa w (.cells #[.slice adV l.length cpV,.slice adU r.length cpU] 24 (0,0)) (.cells #[.int .i64 0,.int .i64 0] 35 (0,0));have N0:=QAG (QAH w (.cells #[.slice adV l.length cpV,.slice adU r.length cpU] 24 (0,0))) (.cells #[.int .i64 0,.int .i64 0] 35 (0,0));have HN:Hid (_∧_):=⟨N0,N1⟩;have HB0:Hid (Below _ _ _):=B0;unfold QAd;clear hv3 hu3 N0 N1 B0;by_cases hmany:60 < l.length+r.length
 ·rw [if_pos hmany]
  (have hmI:(60:Int) < (l.length:Int)+(r.length:Int):=by omega);clear hmany HV HU
  go_enter Tryz.func11,Tryz.ntmps11
  go_wp2_with fail;refine (QDy 2 0 _).mono ?_;rintro e w1 ⟨rfl,hb1⟩;have q1:=QAA hb1 HN.out.2;obtain⟨y1,y2,y3,y4⟩:=QAV q1;go_wp2_with fail;have f2:=QCO q1 (.int .i64 2) (.int .i64 0);(have b2:=((QAC HB0.out hb1).setCell (p:=⟨w.heap.size+1,0,none⟩) (by simp) (.int .i64 2)).setCell (p:=⟨w.heap.size+1,1,none⟩) (by simp) (.int .i64 0));generalize World.setCell _ _ _=F at f2 b2 ⊢;clear y1 y2 y3 y4;obtain⟨k1,k2,-⟩:=QAV f2;(exact bodyPost_ret (v := .agg #[.int .i64 2,.int .i64 0]) (by simp [results,Tryz.results11,go_sem,k1,k2]) rfl ⟨rfl,b2⟩)
 ·rw [if_neg hmany]
  (have hmI:¬ (60:Int) < (l.length:Int)+(r.length:Int):=by omega);obtain⟨T,hT⟩:∃ T,T=QAi (l++r) 0:=⟨_,rfl⟩;have HT:Hid (T=QAi ((l++r).drop 0) 0):=hT;rw [← hT];have hlr:(l++r).length=l.length+r.length:=List.length_append;have HLR:Hid ((l++r).length=l.length+r.length):=hlr;(have HM:Hid (l.length+r.length≤60):=by show _≤_;omega);clear hT hmany hlr
  go_enter Tryz.func11,Tryz.ntmps11
  go_wp2_with fail
  go_loopg [3] (l.length+r.length) (fun g cc wr=>∃ i,i≤l.length+r.length∧g=l.length+r.length - i∧cc = .int .i64 (i:Nat)∧Hid (Below w.heap.size w wr)∧Hid (wr.heap[w.heap.size]? = some (.cells #[.slice adV l.length cpV,.slice adU r.length cpU] 24 (0,0))∧wr.heap[w.heap.size+1]? = some (.cells #[.int .i64 0,.int .i64 0] 35 (0,0)))∧Hid (T=QAi ((l++r).drop i) i))
  case atStart=>exact⟨0,by omega,by omega,rfl,HB0,HN,HT⟩
  case round =>
   obtain⟨i,hi,hg,rfl,HBr,HQ,HW⟩:=hrel;have HG:Hid (gk=l.length+r.length - i):=hg;clear hg HT HN HB0;obtain⟨c0,c1,-⟩:=QAV HQ.out.1;have z0:=QAE HQ.out.1;have z1:=QAE HQ.out.2;by_cases hlt:i < l.length+r.length
   ·have hltI:(i:Int) < (l.length:Int)+(r.length:Int):=by omega
    (obtain⟨⟨k2,n2,ks2⟩,hki⟩:∃ f,(l++r)[i]? = some f:=⟨_,List.getElem?_eq_getElem (by rw [HLR.out];exact hlt)⟩);have hds:=HW.out;rw [QED hki] at hds;(have hpl:=fun v (w:World) h=>QFn [.mk k2 n2 ks2] (by simp) v w h);rw [QFm] at hpl;generalize (Fm.mk k2 n2 ks2).pcode=pc at hpl hds;obtain⟨pc1,pc2⟩:=pc;have HP:Hid (∀ v w,FL w v [.mk k2 n2 ks2]→Calls Tryz.prog 34 #[v] w _):=hpl;(have HD:Hid (T=if (pc1,pc2).1=0 then QAi ((l++r).drop (i+1)) (i+1) else ((pc1,pc2).1,((i:Nat):Int))):=hds);(have HFm:Hid (∀ w,Calls Tryz.prog 14 #[.int .i64 pc1,.int .i64 (i:Nat)] w _):=fun w=>QDy pc1 (i:Nat) w);clear hds HW hpl;by_cases hp:pc1=0
    ·subst hp
     have HD0:Hid (T=QAi ((l++r).drop (i+1)) (i+1)):=HD.out;(have HP0:Hid (∀ v w,FL w v [.mk k2 n2 ks2]→Calls Tryz.prog 34 #[v] w fun e w'=>e = .returned (.agg #[.int .i64 0,.int .i64 0])∧Below w.heap.size w w'):=fun v w h=>HP.out v w h);clear HD HP;by_cases hil:i < l.length
     ·have hilI:(i:Int) < (l.length:Int):=by omega
      rw [List.getElem?_append_left hil] at hki;(obtain⟨b,off,rfl,hrs⟩:=HV.out (fun e=>by rw [e] at hil;simp at hil));obtain⟨sl2,cap2,g0,g1,g2,hrep2⟩:=(hrs.up HBr.out).at i k2 n2 ks2 hki;(have hlc:(i:Int) < (cpV:Int):=by omega);(have HR2:Hid (Rep wr (fun _=>True) (.mk k2 n2 ks2) (.agg #[.int .i64 k2,.string n2,.slice sl2 ks2.length cap2])):=hrep2);have zb:=QAI g0;simp only at zb;(have d0:¬ b=wr.heap.size:=by omega);clear hki hrs HV HU hrep2;go_wp2_with fail;refine (HP0.out _ _ (FL.sing (QAa wr _ _) ((HR2.out.more _).more _))).mono ?_;rintro e w2 ⟨rfl,hb2⟩;have B2:=QAC (QAB (QAB HBr.out _) _) hb2;have Q2:=QAA hb2 (QAG (QAG HQ.out.1 _) _);have Q3:=QAA hb2 (QAG (QAG HQ.out.2 _) _);clear g0 g1 g2 c0 c1 hb2;go_wp2_with fail
      go_roundg (l.length+r.length - (i+1))
      case measure=>have:=HG.out;omega
      case rel=>exact⟨i+1,by omega,rfl,by go_num,QAB B2 _,⟨QAG Q2 _,QAG Q3 _⟩,HD0⟩
     ·have hilI:¬ (i:Int) < (l.length:Int):=by omega
      (rw [List.getElem?_append_right (by omega)] at hki);obtain⟨j,hj⟩:∃ j,j=i - l.length:=⟨_,rfl⟩;rw [← hj] at hki;(have hij:(i:Int) - (l.length:Int)=(j:Nat):=by omega);(have hjr:(j:Int) < (r.length:Int):=by omega);(have hjc:(j:Int) < (cpU:Int):=by omega);(obtain⟨b,off,rfl,hrs⟩:=HU.out (fun e=>by rw [e] at hjr;simp at hjr;omega));obtain⟨sl2,cap2,g0,g1,g2,hrep2⟩:=(hrs.up HBr.out).at j k2 n2 ks2 hki;(have HR2:Hid (Rep wr (fun _=>True) (.mk k2 n2 ks2) (.agg #[.int .i64 k2,.string n2,.slice sl2 ks2.length cap2])):=hrep2);have zb:=QAI g0;simp only at zb;(have d0:¬ b=wr.heap.size:=by omega);clear hki hrs HV HU hrep2 hj;go_wp2_with fail;refine (HP0.out _ _ (FL.sing (QAa wr _ _) ((HR2.out.more _).more _))).mono ?_;rintro e w2 ⟨rfl,hb2⟩;have B2:=QAC (QAB (QAB HBr.out _) _) hb2;have Q2:=QAA hb2 (QAG (QAG HQ.out.1 _) _);have Q3:=QAA hb2 (QAG (QAG HQ.out.2 _) _);clear g0 g1 g2 c0 c1 hb2;go_wp2_with fail
      go_roundg (l.length+r.length - (i+1))
      case measure=>have:=HG.out;omega
      case rel=>exact⟨i+1,by omega,rfl,by go_num,QAB B2 _,⟨QAG Q2 _,QAG Q3 _⟩,HD0⟩
    ·have HD0:Hid (T=(pc1,((i:Nat):Int))):=by
      have:=HD.out;rw [if_neg hp] at this;exact this
     have HP0:Hid (∀ v w,FL w v [.mk k2 n2 ks2]→Calls Tryz.prog 34 #[v] w fun e w'=>e = .returned (.agg #[.int .i64 pc1,.int .i64 pc2])∧Below w.heap.size w w'):=fun v w h=>by
      have:=HP.out v w h;rw [if_neg hp] at this;exact this
     (have hne':(pc1 != 0)=true:=by simpa using hp);clear HD HP;by_cases hil:i < l.length
     ·have hilI:(i:Int) < (l.length:Int):=by omega
      rw [List.getElem?_append_left hil] at hki;(obtain⟨b,off,rfl,hrs⟩:=HV.out (fun e=>by rw [e] at hil;simp at hil));obtain⟨sl2,cap2,g0,g1,g2,hrep2⟩:=(hrs.up HBr.out).at i k2 n2 ks2 hki;(have hlc:(i:Int) < (cpV:Int):=by omega);(have HR2:Hid (Rep wr (fun _=>True) (.mk k2 n2 ks2) (.agg #[.int .i64 k2,.string n2,.slice sl2 ks2.length cap2])):=hrep2);have zb:=QAI g0;simp only at zb;(have d0:¬ b=wr.heap.size:=by omega);clear hki hrs HV HU hrep2;go_wp2_with fail;refine (HP0.out _ _ (FL.sing (QAa wr _ _) ((HR2.out.more _).more _))).mono ?_;rintro e w2 ⟨rfl,hb2⟩;have B2:=QAC (QAB (QAB HBr.out _) _) hb2;have Q2:=QAA hb2 (QAG (QAG HQ.out.1 _) _);have Q3:=QAA hb2 (QAG (QAG HQ.out.2 _) _);clear g0 g1 g2 c0 c1 hb2;go_wp2_with fail;refine (HFm.out _).mono ?_;rintro e w3 ⟨rfl,hb3⟩;have B3:=QAC (QAB B2 _) hb3;have q3:=QAA hb3 (QAG Q3 _);obtain⟨y1,y2,y3,y4⟩:=QAV q3;go_wp2_with fail;have f2:=QCO q3 (.int .i64 pc1) (.int .i64 (i:Nat));(have b2:=(B3.setCell (p:=⟨w.heap.size+1,0,none⟩) (by simp) (.int .i64 pc1)).setCell (p:=⟨w.heap.size+1,1,none⟩) (by simp) (.int .i64 (i:Nat)));generalize World.setCell _ _ _=F at f2 b2 ⊢;clear y1 y2 y3 y4;obtain⟨k1,k2',-⟩:=QAV f2;(exact bodyPost_ret (v := .agg #[.int .i64 pc1,.int .i64 (i:Nat)]) (by simp [results,Tryz.results11,go_sem,k1,k2']) rfl ⟨by rw [HD0.out],b2⟩)
     ·have hilI:¬ (i:Int) < (l.length:Int):=by omega
      (rw [List.getElem?_append_right (by omega)] at hki);obtain⟨j,hj⟩:∃ j,j=i - l.length:=⟨_,rfl⟩;rw [← hj] at hki;(have hij:(i:Int) - (l.length:Int)=(j:Nat):=by omega);(have hjr:(j:Int) < (r.length:Int):=by omega);(have hjc:(j:Int) < (cpU:Int):=by omega);(obtain⟨b,off,rfl,hrs⟩:=HU.out (fun e=>by rw [e] at hjr;simp at hjr;omega));obtain⟨sl2,cap2,g0,g1,g2,hrep2⟩:=(hrs.up HBr.out).at j k2 n2 ks2 hki;(have HR2:Hid (Rep wr (fun _=>True) (.mk k2 n2 ks2) (.agg #[.int .i64 k2,.string n2,.slice sl2 ks2.length cap2])):=hrep2);have zb:=QAI g0;simp only at zb;(have d0:¬ b=wr.heap.size:=by omega);clear hki hrs HV HU hrep2 hj;go_wp2_with fail;refine (HP0.out _ _ (FL.sing (QAa wr _ _) ((HR2.out.more _).more _))).mono ?_;rintro e w2 ⟨rfl,hb2⟩;have B2:=QAC (QAB (QAB HBr.out _) _) hb2;have Q2:=QAA hb2 (QAG (QAG HQ.out.1 _) _);have Q3:=QAA hb2 (QAG (QAG HQ.out.2 _) _);clear g0 g1 g2 c0 c1 hb2;go_wp2_with fail;refine (HFm.out _).mono ?_;rintro e w3 ⟨rfl,hb3⟩;have B3:=QAC (QAB B2 _) hb3;have q3:=QAA hb3 (QAG Q3 _);obtain⟨y1,y2,y3,y4⟩:=QAV q3;go_wp2_with fail;have f2:=QCO q3 (.int .i64 pc1) (.int .i64 (i:Nat));(have b2:=(B3.setCell (p:=⟨w.heap.size+1,0,none⟩) (by simp) (.int .i64 pc1)).setCell (p:=⟨w.heap.size+1,1,none⟩) (by simp) (.int .i64 (i:Nat)));generalize World.setCell _ _ _=F at f2 b2 ⊢;clear y1 y2 y3 y4;obtain⟨k1,k2',-⟩:=QAV f2;(exact bodyPost_ret (v := .agg #[.int .i64 pc1,.int .i64 (i:Nat)]) (by simp [results,Tryz.results11,go_sem,k1,k2']) rfl ⟨by rw [HD0.out],b2⟩)
   ·have HF:Hid (T=(0,0)):=by
     have:=HW.out;(rw [List.drop_of_length_le (by rw [HLR.out];omega),QAi] at this);exact this
    (have hge:¬ (i:Int) < (l.length:Int)+(r.length:Int):=by omega);obtain⟨y1,y2,y3,y4⟩:=QAV HQ.out.2;clear HV HU HW;go_wp2_with fail;have f2:=QCO HQ.out.2 (.int .i64 0) (.int .i64 0);(have b2:=((HBr.out).setCell (p:=⟨w.heap.size+1,0,none⟩) (by simp) (.int .i64 0)).setCell (p:=⟨w.heap.size+1,1,none⟩) (by simp) (.int .i64 0));generalize World.setCell _ _ _=F at f2 b2 ⊢;clear y1 y2 y3 y4;obtain⟨k1,k2,-⟩:=QAV f2;(exact bodyPost_ret (v := .agg #[.int .i64 0,.int .i64 0]) (by simp [results,Tryz.results11,go_sem,k1,k2]) rfl ⟨by rw [HF.out],b2⟩)
theorem AppL.nil {A B:Nat} {w:World}:AppL A B [] none 0 w:=⟨[],⟨rfl,Or.inl ⟨rfl,rfl⟩⟩,trivial⟩
theorem AppL.cap {A B:Nat} {fs:List Fm} {ad:Option Addr} {cp:Nat} {w:World} (h:AppL A B fs ad cp w):fs.length≤cp:=by
 rcases h.shape with ⟨-,rfl,rfl⟩|⟨g,-,h⟩
 ·exact Nat.le_refl _
 ·exact h
theorem AppL.up {A B:Nat} {fs:List Fm} {ad:Option Addr} {cp:Nat} {w w':World} (h:AppL A B fs ad cp w) (hb:Below w.heap.size w w'):AppL A B fs ad cp w':=by
 obtain⟨cs,⟨h1,h2⟩,h3⟩:=h;(refine⟨cs,⟨h1,?_⟩,h3.move fun b hb1 hp=>⟨hb.block b hb1,hp⟩⟩)
 rcases h2 with h2|⟨g,cap,cur,hv,hg,hh,r⟩
 ·exact Or.inl h2
 ·exact Or.inr ⟨g,cap,cur,hv,hg,(hb.block g (QAE hh)).trans hh,r⟩
theorem QKc {o:Oper} {a:Act} {w:World} {K:Act→World→Prop} {Q:Exit→Act→World→Prop} (s x:Operand) (hop:o.op=Op.call { callee:=Callee.builtin Builtin.append,args:=#[s,x],argTypes:=#[22,22] })
  (A B:Nat) (fs gs:List Fm) (ad:Option Addr) (cp:Nat) (vx:Value) (hs:a.eval s = .slice ad fs.length cp) (hA:AppL A B fs ad cp w) (hx:a.eval x=vx) (hg:FLp (· < A) w vx gs) (hAB:A≤B) (hB:B≤w.heap.size) (hl:fs.length+gs.length≤2000)
  (h:∀ ad3 cp3 w3,AppL A B (fs++gs) ad3 cp3 w3→Below B w w3→(∀ b,(Value.slice ad fs.length cp).ownBlock≠some b→b < w.heap.size→w3.heap[b]? = w.heap[b]?)→K (a.put o.dst (.slice ad3 (fs++gs).length cp3)) w3):Oper.wp Tryz.prog o a w K Q:=by
 obtain⟨i0,hi,hz0,hz1,hz2⟩:=QBb;by_cases hne:gs=[]
 ·subst hne
  obtain⟨x0,c,rfl,-⟩:=hg
  have hsrc:Src Tryz.prog i0.size 22 (.slice x0 0 c) 0 [] w:=by
   cases x0 with
   | none=>exact Src.ofNil w Tryz.underlying22 c
   | some ad=>exact Src.ofSlice w Tryz.underlying22 ad 0 c [] (by simp) (fun j u h=>by simp at h) (fun u h=>by cases h)
  have hrun:=run_append_nothing (P:=Tryz.prog) w 22 22 o.type 29 i0 Tryz.underlying22 hi ad fs.length cp hA.cap (.slice x0 0 c) hsrc;have hx':a.eval x = .slice x0 0 c:=hx;(have h9:=h ad cp w (by rw [List.append_nil];exact hA) (Below.refl _ _) (fun _ _ _=>rfl));rw [List.append_nil] at h9;unfold Oper.wp;simp [execOp,hop,resolve,invoke,builtin,hs,hx',hrun,Result.andThen];exact h9
 ·have hg':=hg
  obtain⟨x0,c,rfl,-⟩:=hg';obtain⟨bs,offs,ds,rfl,hds,hcs⟩:=hg.cells hne;have hpos:0 < gs.length:=List.length_pos_iff.2 hne;obtain⟨cs,hown,hlq⟩:=hA
  refine wp_append_lies w s x 22 hop B 29 i0 (.agg #[.int .i64 0,.string ⟨#[]⟩,.slice none 0 0]) 3 48 Tryz.underlying22 hi hz0 hz1 hz2 rfl (by decide) _ _ _ hs hown ⟨bs,offs,none⟩ gs.length c ds hx hds.len (fun j u hu=>by
   rw [QAZ]
   exact hcs j u hu) hds.one hpos (by unfold maxLen;omega) (by omega) hB _ rfl ?_
  intro g3 cp3 w3 hown3 hgrow hat hlt3;(have hk:∀ j,j < B→w3.heap[j]? = w.heap[j]? := fun j hj=>hgrow.block j (by omega) (fun e=>by have:=(hown.lt j e.symm).1;omega));have e:fs.length+gs.length=(fs++gs).length:=List.length_append.symm;rw [e] at hown3 ⊢;(exact h _ _ w3 ⟨cs++ds,hown3,(hlq.append hds).move fun b _ hb=>⟨hk b (by have:b < A:=hb;omega),hb⟩⟩ ⟨hgrow.os,hgrow.tape,hgrow.output,hgrow.size,hk⟩ (fun b hb hlt=>hgrow.block b hlt fun e=>hb e.symm))
theorem QGt {ops:Array Oper} {o:Oper} {a:Act} {w:World} {K:Act→World→Prop} {Q:Exit→Act→World→Prop} {E:Prop} (hgd:o.guard=none) (s x:Operand) (hop:o.op=Op.call { callee:=Callee.builtin Builtin.append,args:=#[s,x],argTypes:=#[22,22] })
  (A B:Nat) (fs gs:List Fm) (ad:Option Addr) (cp:Nat) (vx:Value) (hs:a.eval s = .slice ad fs.length cp) (hA:AppL A B fs ad cp w) (hx:a.eval x=vx) (hg:FLp (· < A) w vx gs) (hAB:A≤B) (hB:B≤w.heap.size) (hl:fs.length+gs.length≤2000)
  (h:∀ ad3 cp3 w3,AppL A B (fs++gs) ad3 cp3 w3→Below B w w3→(∀ b,(Value.slice ad fs.length cp).ownBlock≠some b→b < w.heap.size→w3.heap[b]? = w.heap[b]?)→K (a.put o.dst (.slice ad3 (fs++gs).length cp3)) w3):if Region.wanted o (yielded ops a.tmps)=true then Oper.wp Tryz.prog o a w K Q else E:=by
 (have hw:Region.wanted o (yielded ops a.tmps)=true:=by simp [Region.wanted,hgd]);rw [if_pos hw];exact QKc s x hop A B fs gs ad cp vx hs hA hx hg hAB hB hl h
theorem QDs {ops:Array Oper} {rest:List Oper} {o:Oper} {a:Act} {w:World} {Q:Exit→Act→World→Prop} (hgd:o.guard=none) (s x:Operand) (hop:o.op=Op.call { callee:=Callee.builtin Builtin.append,args:=#[s,x],argTypes:=#[22,22] })
  (A B:Nat) (fs gs:List Fm) (ad:Option Addr) (cp:Nat) (vx:Value) (hs:a.eval s = .slice ad fs.length cp) (hA:AppL A B fs ad cp w) (hx:a.eval x=vx) (hg:FLp (· < A) w vx gs) (hAB:A≤B) (hB:B≤w.heap.size) (hl:fs.length+gs.length≤2000)
  (h:∀ ad3 cp3 w3,AppL A B (fs++gs) ad3 cp3 w3→Below B w w3→(∀ b,(Value.slice ad fs.length cp).ownBlock≠some b→b < w.heap.size→w3.heap[b]? = w.heap[b]?)→wpList Tryz.prog ops Q rest (a.put o.dst (.slice ad3 (fs++gs).length cp3)) w3):wpList Tryz.prog ops Q (o :: rest) a w :=
 wpList_plain hgd fun _ hK=>QKc s x hop A B fs gs ad cp vx hs hA hx hg hAB hB hl fun ad3 cp3 w3 h1 h2 h3=>hK _ _ (h ad3 cp3 w3 h1 h2 h3)
end Go.Proofs.YtbmedfokpgghiacGreat
