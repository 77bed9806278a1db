import Derived.Test.YtffkoiemnchdgadGreatB36
import Derived.Test.YtffkoiemnchdgadGreatB31
import Derived.Test.YtffkoiemnchdgadGreatB35
namespace Go.Proofs.YtffkoiemnchdgadGreat
open Go.RowKit
mutual
theorem QCS:∀ (p:Pf) (d m:Nat),(p.stepsL d m).length≤m+1∧0 < (p.stepsL d m).length
 | .mk a f l r ks,d,m=>by
  rw [Pf.stepsL,List.length_cons];have:=stepsLs_len ks d m 1;omega
theorem stepsLs_len:∀ (ks:List Pf) (d m n:Nat),n+(Pf.stepsLs ks d m n).length≤max n (m+1)
 | [],d,m,n=>by rw [Pf.stepsLs];simp;omega
 | k :: ks,d,m,n=>by
  rw [Pf.stepsLs]
  split
  ·rename_i h
   rw [List.length_append];have h1:=QCS k (d+1) (m - n);have h2:=stepsLs_len ks d m (n+(k.stepsL (d+1) (m - n)).length);omega
  ·simp;omega
end
theorem QFj {ks:List Pf} {i:Nat} {k:Pf} (h:ks[i]? = some k) (d m n:Nat):Pf.stepsLs (ks.drop i) d m n=if n≤m∧d < 402 then k.stepsL (d+1) (m - n)++Pf.stepsLs (ks.drop (i+1)) d m (n+(k.stepsL (d+1) (m - n)).length) else []:=by
 have hi:=(List.getElem?_eq_some_iff.1 h).1;rw [List.drop_eq_getElem_cons hi,Pf.stepsLs];rw [List.getElem?_eq_getElem hi] at h;rw [Option.some.inj h]
def KD (B:Nat) (w:World) (ad:Option Addr) (cap:Nat) (ds:List Nat):Prop:=w.ownsRow B 3 1 (.slice ad ds.length cap) ds.length (ds.map fun d=>Value.int .i64 (d:Nat))
theorem KD.low {B B':Nat} {w:World} {ad:Option Addr} {cap:Nat} {ds:List Nat} (h:KD B' w ad cap ds) (hB:B≤B'):KD B w ad cap ds:=QGI h hB
theorem QKD (ds:List Nat):∀ u∈ds.map (fun d=>Value.int .i64 ((d:Nat):Int)),u.oneCell'=true:=fun u hu=>by
 obtain⟨d,-,rfl⟩:=List.mem_map.1 hu;rfl
def StQ (A m:Nat):Prop:=∀ (p:Pf) (v:Value) (w:World) (d mo:Nat),p.size < m→SmallP p→d≤402→mo≤20001→A≤w.heap.size→PRp (· < A) w p v →
 Calls Tryz.prog 28 #[v,.int .i64 (d:Nat),.int .i64 (mo:Nat)] w fun e w'=>∃ ad cp ad' cp',e = .returned (.tuple #[.slice ad (p.stepsL d mo).length cp,.slice ad' (p.stepsL d mo).length cp'])∧KF (· < A) w.heap.size w' ad cp ((p.stepsL d mo).map Prod.fst)∧KD w.heap.size w' ad' cp' ((p.stepsL d mo).map Prod.snd)∧Below w.heap.size w w'
set_option maxRecDepth 10000 in
set_option maxHeartbeats 8000000 in
theorem QGV (A m:Nat) (ih:StQ A m):StQ A (m+1):=by
 intro p v w d mo hm hsm hd hmo hAw hv;obtain⟨a,⟨k,n,kf⟩,l,r,ks⟩:=p;obtain⟨-,-,hk3,hsk⟩:=hsm.parts;have HV:Hid (PRp (· < A) w (.mk a (.mk k n kf) l r ks) v):=hv;obtain⟨sf,cf,al,cl,ar,cr,sl,cap,rfl,-,-,-,-,hkc,hcm,hks⟩:=hv.parts;have HKS:Hid (ks≠[]→∃ b off,sl=some ⟨b,off,none⟩∧b < A∧PRps (· < A) w b off ks):=hks;have HIH:Hid (StQ A m):=ih;have HSK:Hid (∀ k∈ks,SmallP k):=hsk;rw [Pf.size] at hm;(have hkI:(ks.length:Int)≤1200:=by omega);(have HM:Hid (Pf.sizes ks < m):=by show _ < _;omega);(have hmo3:(mo:Int)≤20001:=by omega);(have hd3:(d:Int)≤402:=by omega);have HD:Hid (d≤402):=hd;have HMO:Hid (mo≤20001):=hmo;obtain⟨i1,hi1,hz10,hz11,hz12⟩:=QKB;obtain⟨i2,hi2,hz20,hz21,hz22⟩:=QJa;obtain⟨SL,hSL⟩:∃ SL,SL=Pf.stepsL (.mk a (.mk k n kf) l r ks) d mo:=⟨_,rfl⟩;(have hS1:SL=[(.mk a (.mk k n kf) l r ks,d)]++Pf.stepsLs (ks.drop 0) d mo 1:=by rw [hSL,Pf.stepsL];rfl);have hS2:=QCS (.mk a (.mk k n kf) l r ks) d mo;rw [← hSL] at hS2 ⊢;have HS1:Hid (SL=[(.mk a (.mk k n kf) l r ks,d)]++Pf.stepsLs (ks.drop 0) d mo 1):=hS1;obtain⟨O1,hO1⟩:∃ O,O=Obj.cells #[.string a,.int .i64 k,.string n,.slice sf kf.length cf,.slice al l.length cl,.slice ar r.length cr,.slice sl ks.length cap] 31 (0,0):=⟨_,rfl⟩;obtain⟨O3,hO3⟩:∃ O,O=Obj.cells #[.int .i64 (d:Nat)] 3 (0,0):=⟨_,rfl⟩;obtain⟨W,hW⟩:∃ W,W=((w.alloc O1).alloc O1).alloc O3:=⟨_,rfl⟩;(have B0:Below w.heap.size w W:=by rw [hW];exact QAA (QAA (QAA (Below.refl _ w) _) _) _);(have z0:W.heap.size=w.heap.size+3:=by rw [hW];simp);(have p1:W.heap[w.heap.size]? = some O1:=by rw [hW];exact QAF (QAF (QAG w O1) _) _);(have p2:W.heap[w.heap.size+1]? = some O1:=by rw [hW];exact QAF (QAd w O1 O1) _);(have p3:W.heap[w.heap.size+1+1]? = some O3:=by rw [hW];have:=QAG ((w.alloc O1).alloc O1) O3;simpa using this);rw [hO1] at p1 p2;rw [hO3] at p3;have P1:Hid (W.heap[w.heap.size]? = some _):=p1
 have HK0:Hid (KF (· < A) (w.heap.size+1) W (some ⟨w.heap.size+1,0,none⟩) 1 [.mk a (.mk k n kf) l r ks]):=by
  (refine⟨[.string a,.int .i64 k,.string n,.slice sf kf.length cf,.slice al l.length cl,.slice ar r.length cr,.slice sl ks.length cap],⟨rfl,Or.inr ⟨w.heap.size+1,1,_,rfl,Nat.le_refl _,p2,Nat.le_refl _,by simp [maxLen],rfl,rfl⟩⟩,?_,trivial⟩)
  exact HV.out.move fun b hb hp=>⟨B0.block b hb,hp,fun e=>by
   (have:w.heap.size+1=b:=by simpa [Value.ownBlock] using e);have:b < A:=hp
   omega⟩
 (have HI0:Hid (KD (w.heap.size+1) W (some ⟨w.heap.size+1+1,0,none⟩) 1 [d]):=⟨rfl,Or.inr ⟨w.heap.size+1+1,1,_,rfl,Nat.le_succ _,p3,Nat.le_refl _,by simp [maxLen],rfl,rfl⟩⟩);have HWe:Hid (((w.alloc O1).alloc O1).alloc O3=W):=hW.symm;clear hv hks ih hm hd p1 p2 p3 hW hS1 hSL hS2 hsk hsm hmo
 go_enter Tryz.func28,Tryz.ntmps28
 go_wp2_with fail;rw [← hO1,← hO3,HWe.out];clear hO1 hO3 HWe
 go_loopg [8,9,10] ks.length (fun g u y c wr=>∃ i ad cp ad' cp' Li nl,i≤ks.length∧g=ks.length - i∧c = .int .i64 (i:Nat)∧u = .slice ad nl cp∧y = .slice ad' nl cp'∧Hid (nl=Li.length∧nl≤mo+1∨nl=Li.length∧nl=1)∧Hid (Below w.heap.size w wr)∧wr.heap[w.heap.size]? = some (.cells #[.string a,.int .i64 k,.string n,.slice sf kf.length cf,.slice al l.length cl,.slice ar r.length cr,.slice sl ks.length cap] 31 (0,0))∧Hid (KF (· < A) (w.heap.size+1) wr ad cp (Li.map Prod.fst))∧Hid (KD (w.heap.size+1) wr ad' cp' (Li.map Prod.snd))∧Hid (∀ b,(Value.slice ad nl cp).ownBlock=some b→(Value.slice ad' nl cp').ownBlock≠some b)∧Hid (SL=Li++Pf.stepsLs (ks.drop i) d mo nl))
 case atStart =>
  (refine⟨0,some ⟨w.heap.size+1,0,none⟩,1,some ⟨w.heap.size+1+1,0,none⟩,1,[(.mk a (.mk k n kf) l r ks,d)],1,by omega,by omega,rfl,rfl,rfl,Or.inr ⟨rfl,rfl⟩,B0,P1.out,HK0,HI0,fun b e e' => ?_,HS1⟩);(have e1:w.heap.size+1=b:=by simpa [Value.ownBlock] using e);(have e2:w.heap.size+1+1=b:=by simpa [Value.ownBlock] using e');omega
 case round =>
  obtain⟨i,ad,cp,ad',cp',Li,nl,hile,hg,rfl,rfl,rfl,HNL,HBr,q0,HK,HI,HNE,HSL⟩:=hrel;have HG:Hid (gk=ks.length - i):=hg;have HQ0:Hid (wr.heap[w.heap.size]? = some _):=q0;clear hg
  have hnlI:(nl:Int)≤20002:=by
   have h1:=HNL.out;have:=HMO.out;omega
  (have hLi:nl=Li.length:=by have h1:=HNL.out;omega);have HLI:Hid (nl=Li.length):=hLi;clear hLi;obtain⟨-,-,-,-,-,-,c6⟩:=QAQ q0
  have HEX:Hid (SL=Li→∃ ad0 cp0 ad0' cp0',Value.tuple #[Value.slice ad nl cp,Value.slice ad' nl cp'] = .tuple #[.slice ad0 SL.length cp0,.slice ad0' SL.length cp0']∧KF (· < A) w.heap.size wr ad0 cp0 (SL.map Prod.fst)∧KD w.heap.size wr ad0' cp0' (SL.map Prod.snd)∧Below w.heap.size w wr):=fun h=>by
   subst h;(exact⟨ad,cp,ad',cp',by rw [HLI.out],HK.out.low (by omega),HI.out.low (by omega),HBr.out⟩)
  by_cases hlt:i < ks.length
  ·obtain⟨⟨ka,⟨kk,kn,kkf⟩,kl,kr,kks⟩,hki⟩:∃ f,ks[i]? = some f:=⟨_,List.getElem?_eq_getElem hlt⟩
   (have hltI:(i:Int) < (ks.length:Int):=by omega);have hSD:=HSL.out;rw [QFj hki] at hSD;by_cases hnm:nl≤mo
   case neg =>
    (rw [if_neg (fun h=>hnm h.1),List.append_nil] at hSD);(have hnI:¬ (nl:Int)≤(mo:Int):=by omega);have HE2:=HEX.out hSD;have HE3:Hid (∃ ad0 cp0 ad0' cp0',Value.tuple #[Value.slice ad nl cp,Value.slice ad' nl cp'] = .tuple #[.slice ad0 SL.length cp0,.slice ad0' SL.length cp0']∧_):=HE2;clear HE2 HEX hSD HSL HK HI HKS hki hnm;go_wp2_with fail;go_ret2;obtain⟨q1,q2,q3,q4,q5,q6⟩:=HE3.out;exact⟨q1,q2,q3,q4,congrArg Ending.returned q5,q6⟩
   by_cases hd4:d < 402
   case neg =>
    (rw [if_neg (fun h=>hd4 h.2),List.append_nil] at hSD);(have hnI:(nl:Int)≤(mo:Int):=by omega);(have hdI:¬ (d:Int) < 402:=by omega);have HE2:=HEX.out hSD;have HE3:Hid (∃ ad0 cp0 ad0' cp0',Value.tuple #[Value.slice ad nl cp,Value.slice ad' nl cp'] = .tuple #[.slice ad0 SL.length cp0,.slice ad0' SL.length cp0']∧_):=HE2;clear HE2 HEX hSD HSL HK HI HKS hki hnm;go_wp2_with fail;go_ret2;obtain⟨q1,q2,q3,q4,q5,q6⟩:=HE3.out;exact⟨q1,q2,q3,q4,congrArg Ending.returned q5,q6⟩
   rw [if_pos ⟨hnm,hd4⟩,← List.append_assoc] at hSD;(have hnI:(nl:Int)≤(mo:Int):=by omega);(have hdI:(d:Int) < 402:=by omega);(obtain⟨b,off,hsl,hbA,hrs⟩:=HKS.out (fun e=>by rw [e] at hlt;simp at hlt));subst hsl;(have hrs':PRps (· < A) wr b off ks:=hrs.move hbA fun q hq hp=>⟨HBr.out.block q hq,hp⟩);obtain⟨sf2,cf2,al2,cl2,ar2,cr2,sl2,cap2,y0,y1,y2,y3,y4,y5,y6,hrep2⟩:=hrs'.at i ka kk kn kkf kl kr kks hki;(have hlc:((i:Nat):Int) < ((cap:Nat):Int):=by omega);have hzr:=HBr.out.size;have hzr2:=QAE HQ0.out;(have hc:=HIH.out _ _ wr (d+1) (mo - nl) (Nat.lt_of_le_of_lt (QBN hki) HM.out) (HSK.out _ (List.mem_of_getElem? hki)) (by omega) (by have:=HMO.out;omega) (by omega) hrep2);have hlen:=QCS (.mk ka (.mk kk kn kkf) kl kr kks) (d+1) (mo - nl);generalize Pf.stepsL (.mk ka (.mk kk kn kkf) kl kr kks) (d+1) (mo - nl)=KL at *;(have hcast:((mo - nl:Nat):Int)=(mo:Int) - (nl:Int):=by omega);(have hcast2:((d+1:Nat):Int)=(d:Int)+1:=by omega);rw [hcast,hcast2] at hc;(have HC:Hid (Calls Tryz.prog 28 _ wr fun e w'=>∃ ad cp ad' cp',e = .returned (.tuple #[.slice ad KL.length cp,.slice ad' KL.length cp'])∧KF (· < A) wr.heap.size w' ad cp (KL.map Prod.fst)∧KD wr.heap.size w' ad' cp' (KL.map Prod.snd)∧Below wr.heap.size wr w'):=hc);have HSD:Hid (SL=(Li++KL)++Pf.stepsLs (ks.drop (i+1)) d mo (nl+KL.length)):=hSD;(have HB2:Hid (nl+KL.length≤mo+1∧nl+KL.length≤20002):=⟨by omega,by have:=HMO.out;omega⟩);have HP2:Hid (0 < KL.length):=hlen.2
   have HLF:Hid ((Li.map Prod.fst).length=nl∧(Li.map Prod.snd).length=nl∧(KL.map Prod.fst).length=KL.length∧(KL.map Prod.snd).length=KL.length):=by
    (refine⟨?_,?_,?_,?_⟩ <;> rw [List.length_map])
    ·exact HLI.out.symm
    ·exact HLI.out.symm
   clear hki hrs hrs' hrep2 hc hSD hlen HKS hbA HEX HSL hcast hcast2;go_wp2_with fail;refine HC.out.mono ?_;rintro e w1 ⟨ax,cx,ay,cy,rfl,hkx,hky,hb1⟩;have HB1:Hid (Below wr.heap.size wr w1):=hb1;have zw1:=hb1.size;obtain⟨cs,hoL,hpL⟩:=HK.out.up hb1;obtain⟨cs0,hoL0,-⟩:=HK.out;rw [HLF.out.1] at hoL hpL hoL0;have HOL:Hid (w1.ownsRow (w.heap.size+1) 31 7 (.slice ad nl cp) nl cs):=hoL;(have HPL:Hid (PQ (fun b=>b < A∧(Value.slice ad nl cp).ownBlock≠some b) w1 cs _):=hpL);(have HLL:Hid (∀ q,(Value.slice ad nl cp).ownBlock=some q→w.heap.size+1≤q∧q < wr.heap.size):=fun q e=>hoL0.lt q e);obtain⟨ds,hoX,hpX⟩:=hkx;rw [HLF.out.2.2.1] at hoX hpX;(have HPX:Hid (PQ (fun b=>b < A∧(Value.slice ad nl cp).ownBlock≠some b) w1 ds (KL.map Prod.fst)):=PQ.move (fun b _ hb=>⟨rfl,hb.1,fun e=>by have:=HLL.out b e;have:b < A:=hb.1;omega⟩) hpX);have HDL:Hid (ds.length=KL.length * 7):=hoX.1;obtain⟨gx,rfl,hxc⟩:=QCp hoX HP2.out;have HXC:Hid (∀ j u,ds[j]? = some u→w1.cell? ((⟨gx,0,none⟩:Addr).add j)=some u):=hxc;have hoI:=HI.out;unfold KD at hoI hky;rw [HLF.out.2.1] at hoI;rw [HLF.out.2.2.2] at hky;(have HOI:Hid (wr.ownsRow (w.heap.size+1) 3 1 (.slice ad' nl cp') nl ((Li.map Prod.snd).map fun d=>Value.int .i64 (d:Nat))):=hoI);(have HYL:Hid (((KL.map Prod.snd).map fun d=>Value.int .i64 ((d:Nat):Int)).length=KL.length * 1):=hky.1);obtain⟨gy,rfl,hyc⟩:=QCp hky HP2.out;(have HYC:Hid (∀ j u,((KL.map Prod.snd).map fun d=>Value.int .i64 ((d:Nat):Int))[j]? = some u→w1.cell? ((⟨gy,0,none⟩:Addr).add j)=some u):=hyc);have HGY:Hid (wr.heap.size≤gy∧gy < w1.heap.size):=hky.lt gy rfl;(have H1Y:Hid (∀ u∈(KL.map Prod.snd).map (fun d=>Value.int .i64 ((d:Nat):Int)),u.oneCell'=true):=QKD _);(generalize hfs:((KL.map Prod.snd).map fun d=>Value.int .i64 ((d:Nat):Int))=fs at HYL HYC H1Y);(generalize hes:((Li.map Prod.snd).map fun d=>Value.int .i64 ((d:Nat):Int))=es at HOI)
   have HFE:Hid (((Li++KL).map Prod.snd).map (fun d=>Value.int .i64 ((d:Nat):Int))=es++fs):=by
    show _=_;rw [List.map_append,List.map_append,hes,hfs]
   have HLN:Hid ((Li.map Prod.fst).length=nl):=HLF.out.1;clear hoL hpL hoL0 hoX hpX hxc hoI hky hyc hb1 y0 y1 y2 y3 y4 y5 y6 hfs hes
   go_wp2_with (first
    | (
      at_builtin
      (refine wpList_append_lies _ rfl _ _ 29 rfl (w.heap.size+1) 31 i1 (.agg #[.string ⟨#[]⟩,.int .i64 0,.string ⟨#[]⟩,.slice none 0 0,.slice none 0 0,.slice none 0 0,.slice none 0 0]) 7 136 Tryz.underlying29 hi1 hz10 hz11 hz12 rfl (by decide) _ _ _ rfl HOL.out ⟨gx,0,none⟩ KL.length cx ds rfl HDL.out HXC.out HPX.out.one HP2.out (by have:=HB2.out;unfold maxLen;omega) (by have:=HB2.out;omega) (by omega) _ rfl ?_);intro g3 cp3 w3 hown3 hgrow hat hlt3;have HK3:Hid (KF (· < A) (w.heap.size+1) w3 (some ⟨g3,0,none⟩) cp3 _):=KF.app (P:=(· < A)) HLN.out (j:=KL.length) HLF.out.2.2.1 HOL.out HPL.out HPX.out hown3 hgrow hat;have HG3:Hid (w1.grownBy w3 (Value.slice ad nl cp).ownBlock):=hgrow;have HA3:Hid ((Value.slice ad nl cp).ownBlock=some g3∨g3=w1.heap.size):=hat
      have HI3:Hid (w3.ownsRow (w.heap.size+1) 3 1 (.slice ad' nl cp') nl es):=QEs HOI.out fun q e=>by
       have:=HOI.out.lt q e;(exact (HG3.out.block q (by omega) fun e'=>HNE.out q e'.symm e).trans (HB1.out.block q this.2))
      have HY3:Hid (∀ j u,fs[j]? = some u→w3.cell? ((⟨gy,0,none⟩:Addr).add j)=some u):=fun j u hu=>by
       have h:=HYC.out j u hu;rw [QAn] at h ⊢;(exact (QBH (a:=⟨gy,0+j,none⟩) (HG3.out.block gy HGY.out.2 fun e'=>by have:=HLL.out gy e'.symm;have:=HGY.out.1;omega)).trans h)
      have z3:=hgrow.size;have HL3:Hid (g3 < w3.heap.size):=hlt3
      clear hown3 hgrow hat hlt3)
    | (
      at_builtin
      (refine wpList_append_lies _ rfl _ _ 56 rfl (w.heap.size+1) 3 i2 (.int .i64 0) 1 8 Tryz.underlying56 hi2 hz20 hz21 hz22 rfl (by decide) _ _ _ rfl HI3.out ⟨gy,0,none⟩ KL.length cy fs rfl HYL.out HY3.out H1Y.out HP2.out (by have:=HB2.out;unfold maxLen;omega) (by have:=HB2.out;omega) (by omega) _ rfl ?_);intro g4 cp4 w4 hown4 hgrow4 hat4 hlt4;have HO4:Hid (w4.ownsRow (w.heap.size+1) 3 1 (.slice (some ⟨g4,0,none⟩) (nl+KL.length) cp4) (nl+KL.length) _):=hown4;have HG4:Hid (w3.grownBy w4 (Value.slice ad' nl cp').ownBlock):=hgrow4;have HA4:Hid ((Value.slice ad' nl cp').ownBlock=some g4∨g4=w3.heap.size):=hat4
      clear hown4 hgrow4 hat4 hlt4)
    | fail)
   (have hID:∀ q,(Value.slice ad' nl cp').ownBlock=some q→w.heap.size+1≤q∧q < wr.heap.size:=fun q e=>HOI.out.lt q e)
   have hg3:∀ q,(Value.slice ad' nl cp').ownBlock=some q→g3≠q:=fun q e e'=>by
    have h1:=hID q e
    rcases HA3.out with h|h
    ·exact HNE.out g3 h (by rw [e,e'])
    ·omega
   have hlow:∀ q,q < w.heap.size+1→w4.heap[q]? = wr.heap[q]? := fun q hq=>by
    (rw [HG4.out.block q (by omega) fun e=>by have:=(hID q e.symm).1;omega,HG3.out.block q (by omega) fun e=>by have:=(HLL.out q e.symm).1;omega]);(exact HB1.out.block q (by omega))
   have z4:=HG4.out.size
   go_roundg (ks.length - (i+1))
   case measure=>have:=HG.out;omega
   case rel =>
    (refine⟨i+1,some ⟨g3,0,none⟩,cp3,some ⟨g4,0,none⟩,cp4,Li++KL,nl+KL.length,by omega,rfl,by go_num,rfl,rfl,Or.inl ⟨by rw [List.length_append,HLI.out],HB2.out.1⟩,?_,(hlow _ (by omega)).trans HQ0.out,?_,?_,fun q e e' => ?_,HSD⟩)
    ·show Below _ _ _
     have h1:=HBr.out;have h2:=HB1.out;have h3:=HG3.out;have h4:=HG4.out;(exact⟨h4.os.trans (h3.os.trans (h2.os.trans h1.os)),h4.tape.trans (h3.tape.trans (h2.tape.trans h1.tape)),h4.output.trans (h3.output.trans (h2.output.trans h1.output)),by omega,fun j hj=>(hlow j (by omega)).trans (h1.block j hj)⟩)
    ·show KF _ _ _ _ _ _
     rw [List.map_append];(refine HK3.out.keep (fun q hq hq2=>HG4.out.block q hq2 fun e=>by have:=(hID q e.symm).1;have:q < A:=hq;omega) fun q e => ?_);(have e:g3=q:=by simpa [Value.ownBlock] using e);subst e;(exact HG4.out.block g3 HL3.out fun e'=>hg3 g3 e'.symm rfl)
    ·show World.ownsRow _ _ _ _ _ _ _
     rw [HFE.out,List.length_map,List.length_append,← HLI.out];exact HO4.out
    ·have e:g3=q:=by simpa [Value.ownBlock] using e
     (have e':g4=q:=by simpa [Value.ownBlock] using e')
     rcases HA4.out with h|h
     ·exact hg3 g4 h (by omega)
     ·have:=HL3.out
      omega
  ·obtain rfl:i=ks.length:=by omega
   (have hge:¬ (ks.length:Int) < (ks.length:Int):=by omega);have hSD:=HSL.out;rw [List.drop_length,Pf.stepsLs,List.append_nil] at hSD;have HE2:=HEX.out hSD;have HE3:Hid (∃ ad0 cp0 ad0' cp0',Value.tuple #[Value.slice ad nl cp,Value.slice ad' nl cp'] = .tuple #[.slice ad0 SL.length cp0,.slice ad0' SL.length cp0']∧_):=HE2;clear HE2 HEX hSD HSL HK HI HKS;go_wp2_with fail;go_ret2;obtain⟨q1,q2,q3,q4,q5,q6⟩:=HE3.out;exact⟨q1,q2,q3,q4,congrArg Ending.returned q5,q6⟩
theorem QDG (A:Nat):∀ m,StQ A m
 | 0=>fun _ _ _ _ _ h=>absurd h (Nat.not_lt_zero _)
 | m+1=>QGV A m (QDG A m)
end Go.Proofs.YtffkoiemnchdgadGreat
