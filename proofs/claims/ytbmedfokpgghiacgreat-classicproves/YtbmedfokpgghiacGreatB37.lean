import Derived.Test.YtbmedfokpgghiacGreatB34
import Derived.Test.YtbmedfokpgghiacGreatB33
import Derived.Test.YtbmedfokpgghiacGreatB04
import Derived.Test.YtbmedfokpgghiacGreatB12
import Derived.Test.YtbmedfokpgghiacGreatB13
import Derived.Test.YtbmedfokpgghiacGreatB26
namespace Go.Proofs.YtbmedfokpgghiacGreat
open Go.RowKit Go.Sort
def QEq:Value := .agg #[.string ⟨#[]⟩,.int .i64 0,.slice none 0 0,.slice none 0 0]
def Fx.sz (x:Fx) (j:Nat):Nat:=(itF x.fs j).size
def Fx.mu (x:Fx) (wh:List Nat):Nat:=muF x.sz 0 wh
def QCp (x:Fx) (w:World) (M:Nat→Prop) (need:Nat→Prop) (wh br:List Nat) (wk cost:Nat) (e:Ending) (w':World):Prop :=
 ∃ M':Nat→Prop,(∀ b,M' b→M b∨w.heap.size≤b)∧(∀ b,M b→M' b)∧Kept (fun b=>¬ M b) w w' ∧
  (
   (∃ p pv wk',e = .returned (.tuple #[pv,.bool true])∧QAo x.ps p∧QCk p∧(∀ y∈p.needs,need y)∧PlanR (fun b=>w.heap.size≤b∧¬ M' b) w' p pv∧FinSt x w' M' wh br wk' false∧wk≤wk'∧wk'≤wk+cost∧wk'≤67108864+x.L) ∨
   (∃ op' wh' br' wk',e = .returned (.tuple #[QEq,.bool false])∧FinSt x w' M' wh' br' wk' op'∧wk≤wk'∧wk'≤wk+cost∧wk'≤67108864+x.L+256∧(∀ j,wh.getD j 0≠0→wh'.getD j 0≠0) ∧
    ((op'=true∧OpenS x.ps wh'∧(∀ i,i∈br' ↔ wh'.getD i 0≠0)∧br'.Nodup)∨(op'=false∧67108864 < wk'))))
def QFN (x:Fx) (n:Nat):Prop:=∀ (w:World) (M:Nat→Prop) (wh br fresh:List Nat) (wk:Nat) (v:Value),FinSt x w M wh br wk false→SInv x.ps wh br fresh→IRow (fun b=>¬ M b) w v fresh→x.mu wh < n→wk≤67108864+x.L →
 Calls Tryz.prog 49 #[.pointer (some ⟨x.bf,0,none⟩),v] w (QCp x w M (fun y=>wh.getD y 0=1) wh br wk ((256+x.L) * Gf (x.mu wh)))
def QES (x:Fx) (n:Nat):Prop:=∀ (w:World) (M:Nat→Prop) (wh br:List Nat) (wk i:Nat),FinSt x w M (wh.set i 2) br wk false→SInv x.ps wh br []→i < x.L→wh.getD i 0=1→(QAP x.ps i).2≠[]→x.mu wh < n→wk≤67108864+x.L →
 Calls Tryz.prog 141 #[.pointer (some ⟨x.bf,0,none⟩),.int .i64 (i:Nat)] w (QCp x w M (fun y=>wh.getD y 0=1) (wh.set i 2) br wk ((256+x.L) * Gf (x.mu wh) - (256+x.L)))
theorem QMu {wh:List Nat} {i:Nat} (hi:i < wh.length) (h1:wh.getD i 0=1):(wh.set i 2).set i 1=wh:=by
 rw [List.set_set];(refine QIB (by simp) fun j => ?_);rw [QBy _ _ _ _ hi]
 split
 ·rename_i e;rw [e,h1]
 ·rfl
theorem QCc (w:World) (r:Nat) (v0 v1 v2 v3:Value):Kept (fun b=>b≠r) w ((((w.setCell ⟨r,0,none⟩ v0).setCell ⟨r,1,none⟩ v1).setCell ⟨r,2,none⟩ v2).setCell ⟨r,3,none⟩ v3) :=
 ⟨rfl,rfl,rfl,by rw [QEZ];exact Nat.le_refl _,fun b _ hb=>QCJ _ _ _ _ hb⟩
theorem FinSt.p4 {x:Fx} {w:World} {M:Nat→Prop} {wh br:List Nat} {wk:Nat} {op:Bool} (h:FinSt x w M wh br wk op) {r:Nat} (v0 v1 v2 v3:Value) (hM:¬ M r) (hK:∀ b,x.K b→b≠r):FinSt x ((((w.setCell ⟨r,0,none⟩ v0).setCell ⟨r,1,none⟩ v1).setCell ⟨r,2,none⟩ v2).setCell ⟨r,3,none⟩ v3) M wh br wk op :=
 h.next (fun b _ hb=>QCJ _ _ _ _ (by
  rcases hb with hb|hb
  ·exact hK b hb
  ·exact fun e=>hM (e ▸ hb))) (by rw [QEZ];exact Nat.le_refl _)
set_option maxRecDepth 10000 in
set_option maxHeartbeats 4000000 in
theorem QKh {x:Fx} {n:Nat} (hov:QES x n) {w:World} {M:Nat→Prop} {wh br:List Nat} {wk i:Nat} (h:FinSt x w M wh br wk false) (hinv:SInv x.ps wh br []) (hi:i < x.L) (h1:wh.getD i 0=1) (hne:(QAP x.ps i).2≠[]) (hmu:x.mu wh < n) (hwk:wk≤67108864+x.L) :
  Calls Tryz.prog 98 #[.pointer (some ⟨x.bf,0,none⟩),.int .i64 (i:Nat)] w (QCp x w M (fun y=>wh.getD y 0=1) wh br wk ((256+x.L) * Gf (x.mu wh) - (256+x.L))):=by
 generalize hco:(256+x.L) * Gf (x.mu wh) - (256+x.L)=cost;have HS:Hid (FinSt x w M wh br wk false):=h
 have HOv:Hid (∀ (W:World),FinSt x W M (wh.set i 2) br wk false→Calls Tryz.prog 141 #[.pointer (some ⟨x.bf,0,none⟩),.int .i64 (i:Nat)] W (QCp x W M (fun y=>wh.getD y 0=1) (wh.set i 2) br wk cost)):=fun W hW=>by
  rw [← hco];exact hov W M wh br wk i hW hinv hi h1 hne hmu hwk
 (have HSb:Hid ((wh.set i 2).set i 1=wh):=QMu (by rw [h.wlen];exact hi) h1);(have HIl:Hid (i < wh.length):=by show i < wh.length;rw [h.wlen];exact hi)
 have HGs:Hid (∀ j,(wh.set i 2).getD j 0≠0 ↔ wh.getD j 0≠0):=fun j=>by
  rw [QBy _ _ _ _ HIl.out];by_cases e:j=i
  ·subst e;rw [if_pos rfl];exact⟨fun _=>by omega,fun _=>by omega⟩
  ·rw [if_neg e]
 have hL2:=h.l2;have hpl:=h.plen;(have hiI:(i:Int) < (x.L:Int):=by omega);(have hLI:(x.L:Int)≤200000:=by omega);obtain⟨adB,cB,hfin,-⟩:=h.fin;obtain⟨q0,q1,q2,-⟩:=QCW hfin;obtain⟨w0,wf0⟩:=h.wcell hi;have zf:=QAE hfin;have zw:=QAE h.whb;have hS1:=(h.put i 2).up ((Below.refl _ (w.setCell ⟨x.bw,i,none⟩ (.int .i64 (2:Nat)))).alloc (Nat.le_refl _) (.cells #[.string ⟨#[]⟩,.int .i64 0,.slice none 0 0,.slice none 0 0] 85 (0,0)));obtain⟨W1,hW1⟩:∃ W1,W1=((w.setCell ⟨x.bw,i,none⟩ (.int .i64 2)).alloc (.cells #[.string ⟨#[]⟩,.int .i64 0,.slice none 0 0,.slice none 0 0] 85 (0,0))):=⟨_,rfl⟩;(have HS1:Hid (FinSt x W1 M (wh.set i 2) br wk false):=by rw [hW1];exact hS1)
 have HR1:Hid (W1.heap[w.heap.size]? = some (.cells #[.string ⟨#[]⟩,.int .i64 0,.slice none 0 0,.slice none 0 0] 85 (0,0))):=by
  rw [hW1];have:=QAH (w.setCell ⟨x.bw,i,none⟩ (.int .i64 2)) (.cells #[.string ⟨#[]⟩,.int .i64 0,.slice none 0 0,.slice none 0 0] 85 (0,0));rw [QAO] at this;exact this
 (have HK1:Hid (Kept (fun b=>¬ M b) w W1):=by rw [hW1];exact (QAf fun c hc e=>hc (e ▸ h.mw)).alloc _);(have HZ1:Hid (W1.heap.size=w.heap.size+1):=by show _=_;rw [hW1,World.size_alloc,QAO]);have HWe:Hid ((w.setCell ⟨x.bw,i,none⟩ (.int .i64 2)).alloc (.cells #[.string ⟨#[]⟩,.int .i64 0,.slice none 0 0,.slice none 0 0] 85 (0,0))=W1):=hW1.symm;have HMo:Hid (∀ b,M b→b < w.heap.size):=h.old;have HMw:Hid (M x.bw):=h.mw;have HI1:Hid (wh.getD i 0=1):=h1;have HI2:Hid (i < x.L):=hi;clear hov h hinv hne hmu hwk hco hL2 hpl hfin hS1 h1 hW1;generalize wh.getD i 0=u at w0
 go_enter Tryz.func98,Tryz.ntmps98
 go_wp2_with fail;rw [HWe.out];refine (HOv.out W1 HS1.out).mono ?_;rintro e w2 ⟨M',hM1,hM2,hK,hcase⟩;have HM1:Hid (∀ b,M' b→M b∨W1.heap.size≤b):=hM1;have HM2:Hid (∀ b,M b→M' b):=hM2;(have HK2:Hid (Kept (fun b=>¬ M b) w w2):=QAM HK1.out hK fun _ _ h=>h);(have HR2:Hid (w2.heap[w.heap.size]? = some (.cells #[.string ⟨#[]⟩,.int .i64 0,.slice none 0 0,.slice none 0 0] 85 (0,0))):=(hK.block w.heap.size (QAE HR1.out) (fun hm=>by have:=HMo.out _ hm;omega)).trans HR1.out);obtain⟨r0,r1,r2,r3,r4,r5,r6,r7⟩:=QAn HR2.out;(have nrf:¬ w.heap.size=x.bf:=by omega);(have nrf':¬ x.bf=w.heap.size:=by omega);(have nrw:¬ w.heap.size=x.bw:=by omega);(have nrw':¬ x.bw=w.heap.size:=by omega)
 have HNR:Hid (¬ M' w.heap.size):=fun hm=>by
  have h3:=HZ1.out
  rcases HM1.out _ hm with h4|h4
  ·have:=HMo.out _ h4
   omega
  ·omega
 have HKR:Hid (∀ b,x.K b→b≠w.heap.size):=fun b hb e=>by
  have:=(HS.out.km b hb).2;omega
 clear hM1 hM2 hK q0 q1 q2 w0 wf0
 rcases hcase with ⟨p,pv,wk',rfl,hpo,hpn,hnd,hpr,hst,hw1,hw2,hw3⟩|⟨op',wh',br',wk',rfl,hst,hw1,hw2,hw3,hmono,hend⟩
 ·obtain⟨a,j,needs,kids⟩:=p
  obtain⟨an,cn,sl,cp,rfl,-⟩:=hpr.parts;(have HPr:Hid (PlanR (fun b=>W1.heap.size≤b∧¬ M' b) w2 (.mk a j needs kids) (.agg #[.string a,.int .i64 (j:Nat),.slice an needs.length cn,.slice sl kids.length cp])):=hpr);have HSt:Hid (FinSt x w2 M' (wh.set i 2) br wk' false):=hst;have HPo:Hid (QAo x.ps (.mk a j needs kids)∧QCk (.mk a j needs kids)∧(∀ y∈(Plan.mk a j needs kids).needs,wh.getD y 0=1)):=⟨hpo,hpn,hnd⟩;have HWk:Hid (wk≤wk'∧wk'≤wk+cost∧wk'≤67108864+x.L):=⟨hw1,hw2,hw3⟩;obtain⟨adC,cC,hfin,-⟩:=hst.fin;obtain⟨q0,q1,q2,-⟩:=QCW hfin;obtain⟨w0,wf0⟩:=hst.wcell hi;generalize (wh.set i 2).getD i 0=u at w0;clear hpr hst hpo hpn hnd hw1 hw2 hw3 hfin;go_wp2_with fail;obtain⟨Wf,hWf⟩:∃ Wf,Wf=(((((((((w2.setCell ⟨w.heap.size,0,none⟩ (.string a)).setCell ⟨w.heap.size,1,none⟩ (.int .i64 (j:Nat))).setCell ⟨w.heap.size,2,none⟩ (.slice an needs.length cn)).setCell ⟨w.heap.size,3,none⟩ (.slice sl kids.length cp)).setCell ⟨x.bw,i,none⟩ (.int .i64 1)).setCell ⟨w.heap.size,0,none⟩ (.string a)).setCell ⟨w.heap.size,1,none⟩ (.int .i64 (j:Nat))).setCell ⟨w.heap.size,2,none⟩ (.slice an needs.length cn)).setCell ⟨w.heap.size,3,none⟩ (.slice sl kids.length cp)):=⟨_,rfl⟩;rw [← hWf];(have hE:Wf.heap[w.heap.size]? = some (.cells #[.string a,.int .i64 (j:Nat),.slice an needs.length cn,.slice sl kids.length cp] 85 (0,0)):=by rw [hWf];exact QCK _ _ _ _ ((QAJ _ nrw).trans (QCK _ _ _ _ HR2.out)));obtain⟨m0,m1,m2,m3,-⟩:=QAn hE;(refine bodyPost_ret (v := .tuple #[.agg #[.string a,.int .i64 (j:Nat),.slice an needs.length cn,.slice sl kids.length cp],.bool true]) (by clear hWf;simp [results,Tryz.results98,go_sem,m0,m1,m2,m3]) rfl ?_);rw [hWf];(refine⟨M',fun b hb => ?_,HM2.out,?_,?_⟩)
  ·have h3:=HZ1.out
   rcases HM1.out b hb with h4|h4
   ·exact Or.inl h4
   ·exact Or.inr (by omega)
  ·have k1:=QAM HK2.out (QCc w2 w.heap.size (.string a) (.int .i64 (j:Nat)) (.slice an needs.length cn) (.slice sl kids.length cp)) fun b hb _ e=>by omega
   (have k2:=QAM k1 (QAf (b:=x.bw) (i:=i) (v := .int .i64 1) (ok:=fun c=>c≠x.bw) fun c hc=>hc) fun b _ hm e=>hm (e ▸ HMw.out));(exact QAM k2 (QCc _ w.heap.size (.string a) (.int .i64 (j:Nat)) (.slice an needs.length cn) (.slice sl kids.length cp)) fun b hb _ e=>by omega)
  ·refine Or.inl ⟨_,_,wk',rfl,HPo.out.1,HPo.out.2.1,HPo.out.2.2,HPr.out.move fun b hb hp => ?_,?_,HWk.out⟩
   ·have h3:=HZ1.out
    (have nb:b≠w.heap.size:=by omega);(have nw:b≠x.bw:=fun e=>hp.2 (e ▸ HM2.out _ HMw.out));(exact⟨by rw [QCJ _ _ _ _ nb,QAJ _ nw,QCJ _ _ _ _ nb],by omega,hp.2⟩)
   ·have f1:=((HSt.out.p4 (.string a) (.int .i64 (j:Nat)) (.slice an needs.length cn) (.slice sl kids.length cp) HNR.out HKR.out).put i 1).p4 (.string a) (.int .i64 (j:Nat)) (.slice an needs.length cn) (.slice sl kids.length cp) HNR.out HKR.out
    rw [HSb.out] at f1;exact f1
 ·have HSt:Hid (FinSt x w2 M' wh' br' wk' op'):=hst
  have HWk:Hid (wk≤wk'∧wk'≤wk+cost∧wk'≤67108864+x.L+256):=⟨hw1,hw2,hw3⟩;have HMn:Hid (∀ j,(wh.set i 2).getD j 0≠0→wh'.getD j 0≠0):=hmono;have HEn:Hid ((op'=true∧OpenS x.ps wh'∧(∀ i,i∈br' ↔ wh'.getD i 0≠0)∧br'.Nodup)∨(op'=false∧67108864 < wk')):=hend;obtain⟨adC,cC,hfin,-⟩:=hst.fin;obtain⟨q0,q1,q2,-⟩:=QCW hfin;obtain⟨w0,wf0⟩:=hst.wcell hi;generalize wh'.getD i 0=u at w0;clear hst hw1 hw2 hw3 hfin hmono hend;unfold QEq;go_wp2_with fail;obtain⟨Wf,hWf⟩:∃ Wf,Wf=(((((((((w2.setCell ⟨w.heap.size,0,none⟩ (.string ⟨#[]⟩)).setCell ⟨w.heap.size,1,none⟩ (.int .i64 0)).setCell ⟨w.heap.size,2,none⟩ (.slice none 0 0)).setCell ⟨w.heap.size,3,none⟩ (.slice none 0 0)).setCell ⟨x.bw,i,none⟩ (.int .i64 1)).setCell ⟨w.heap.size,0,none⟩ (.string ⟨#[]⟩)).setCell ⟨w.heap.size,1,none⟩ (.int .i64 0)).setCell ⟨w.heap.size,2,none⟩ (.slice none 0 0)).setCell ⟨w.heap.size,3,none⟩ (.slice none 0 0)):=⟨_,rfl⟩;rw [← hWf];(have hE:Wf.heap[w.heap.size]? = some (.cells #[.string ⟨#[]⟩,.int .i64 0,.slice none 0 0,.slice none 0 0] 85 (0,0)):=by rw [hWf];exact QCK _ _ _ _ ((QAJ _ nrw).trans (QCK _ _ _ _ HR2.out)));obtain⟨m0,m1,m2,m3,-⟩:=QAn hE;(refine bodyPost_ret (v := .tuple #[.agg #[.string ⟨#[]⟩,.int .i64 0,.slice none 0 0,.slice none 0 0],.bool false]) (by clear hWf;simp [results,Tryz.results98,go_sem,m0,m1,m2,m3]) rfl ?_);rw [hWf];(refine⟨M',fun b hb => ?_,HM2.out,?_,?_⟩)
  ·have h3:=HZ1.out
   rcases HM1.out b hb with h4|h4
   ·exact Or.inl h4
   ·exact Or.inr (by omega)
  ·have k1:=QAM HK2.out (QCc w2 w.heap.size (.string ⟨#[]⟩) (.int .i64 0) (.slice none 0 0) (.slice none 0 0)) fun b hb _ e=>by omega
   (have k2:=QAM k1 (QAf (b:=x.bw) (i:=i) (v := .int .i64 1) (ok:=fun c=>c≠x.bw) fun c hc=>hc) fun b _ hm e=>hm (e ▸ HMw.out));(exact QAM k2 (QCc _ w.heap.size (.string ⟨#[]⟩) (.int .i64 0) (.slice none 0 0) (.slice none 0 0)) fun b hb _ e=>by omega)
  ·have hlen':i < wh'.length:=by rw [HSt.out.wlen];exact HI2.out
   (have hnz:wh'.getD i 0≠0:=HMn.out i ((HGs.out i).2 (by rw [HI1.out];omega)))
   have gs:∀ j,(wh'.set i 1).getD j 0≠0 ↔ wh'.getD j 0≠0:=fun j=>by
    rw [QBy _ _ _ _ hlen'];by_cases e:j=i
    ·subst e;rw [if_pos rfl];exact⟨fun _=>hnz,fun _=>by omega⟩
    ·rw [if_neg e]
   (refine Or.inr ⟨op',wh'.set i 1,br',wk',rfl,?_,HWk.out.1,HWk.out.2.1,HWk.out.2.2,fun j hj=>(gs j).2 (HMn.out j ((HGs.out j).2 hj)),?_⟩)
   ·exact ((HSt.out.p4 (.string ⟨#[]⟩) (.int .i64 0) (.slice none 0 0) (.slice none 0 0) HNR.out HKR.out).put i 1).p4 (.string ⟨#[]⟩) (.int .i64 0) (.slice none 0 0) (.slice none 0 0) HNR.out HKR.out
   ·rcases HEn.out with ⟨h1,h2,h3,h4⟩|h1
    ·exact Or.inl ⟨h1,h2.back hlen' hnz,fun j=>(h3 j).trans (gs j).symm,h4⟩
    ·exact Or.inr h1
set_option maxRecDepth 10000 in
set_option maxHeartbeats 8000000 in
theorem QGQ {x:Fx} (hwl:QEv x) {n:Nat} (hov:QES x n):QFN x n:=by
 intro w M wh br fresh wk v h hinv hfr hmu hwk;have hfr':=hfr;obtain⟨adf,cf,rfl,hc1,hc2,-⟩:=hfr';obtain⟨cost,hco⟩:∃ cost,cost=(256+x.L) * Gf (x.mu wh):=⟨_,rfl⟩;rw [← hco]
 have HCo:Hid (256+x.L≤cost):=by
  show 256+x.L≤cost;rw [hco];have:=QNx (x.mu wh);exact Nat.le_trans (Nat.le_of_eq (Nat.mul_one _).symm) (Nat.mul_le_mul_left _ this)
 have HS:Hid (FinSt x w M wh br wk false):=h;have HIv:Hid (SInv x.ps wh br fresh):=hinv;(have HFr:Hid (IRow (fun b=>¬ M b) w (.slice adf fresh.length cf) fresh):=hfr);have HWl:Hid (QEv x):=hwl;have HMo:Hid (∀ b,M b→b < w.heap.size):=h.old;(have HLo:Hid (∀ i∈br,i < x.L):=fun i hi=>by have:=hinv.lt hi;rw [h.wlen] at this;exact this);(have HFl:Hid (∀ i∈fresh,i < x.L):=fun i hi=>HLo.out i ((hinv.mem i).2 (by rw [hinv.fresh i hi];omega)));(have HBr:Hid (br.length≤x.L):=by have:=hinv.len;rw [h.wlen] at this;exact this)
 have HOv:Hid (∀ (W:World) (M':Nat→Prop) (i d:Nat),FinSt x W M' wh br d false→SInv x.ps wh br []→i < x.L→wh.getD i 0=1→(QAP x.ps i).2≠[]→d≤67108864+x.L→Calls Tryz.prog 98 #[.pointer (some ⟨x.bf,0,none⟩),.int .i64 (i:Nat)] W (QCp x W M' (fun y=>wh.getD y 0=1) wh br d (cost - (256+x.L)))):=fun W M' i d h1 h2 h3 h4 h5 h6=>by
  rw [hco];exact QKh hov h1 h2 h3 h4 h5 hmu h6
 have HWk:Hid (wk≤67108864+x.L):=hwk;have hL2:=h.l2;have hpl:=h.plen;(have hLI:(x.L:Int)≤200000:=by omega);(have hwI:(wk:Int)≤68000000:=by omega);(have hfI:(fresh.length:Int)≤(cf:Int):=by omega);obtain⟨adB,cB,hfin,-⟩:=h.fin;obtain⟨q0,q1,q2,q3,q4,q5⟩:=QCW hfin;have qf4:=QAh hfin 4;have zf:=QAE hfin;obtain⟨W1,hW1⟩:∃ W1,W1=((w.setCell ⟨x.bf,4,none⟩ (.int .i64 ((wk:Int)+256))).alloc (.cells #[.string ⟨#[]⟩,.int .i64 0,.slice none 0 0,.slice none 0 0] 85 (0,0))):=⟨_,rfl⟩;(have HS1:Hid (FinSt x W1 M wh br (wk+256) false):=by rw [hW1];exact (h.work (wk+256)).up ((Below.refl _ _).alloc (Nat.le_refl _) _))
 have HR1:Hid (W1.heap[w.heap.size]? = some (.cells #[.string ⟨#[]⟩,.int .i64 0,.slice none 0 0,.slice none 0 0] 85 (0,0))):=by
  rw [hW1];have:=QAH (w.setCell ⟨x.bf,4,none⟩ (.int .i64 ((wk:Int)+256))) (.cells #[.string ⟨#[]⟩,.int .i64 0,.slice none 0 0,.slice none 0 0] 85 (0,0));rw [QAO] at this;exact this
 (have HK1:Hid (Kept (fun b=>¬ M b) w W1):=by rw [hW1];exact (QAf fun c hc e=>hc (e ▸ h.mf)).alloc _);(have HZ1:Hid (W1.heap.size=w.heap.size+1):=by show _=_;rw [hW1,World.size_alloc,QAO]);have HWe:Hid ((w.setCell ⟨x.bf,4,none⟩ (.int .i64 ((wk:Int)+256))).alloc (.cells #[.string ⟨#[]⟩,.int .i64 0,.slice none 0 0,.slice none 0 0] 85 (0,0))=W1):=hW1.symm;have HMf:Hid (M x.bf):=h.mf
 have HKR:Hid (∀ b,x.K b→b≠w.heap.size):=fun b hb e=>by
  have:=(h.km b hb).2;omega
 have HFin:Hid (br.Nodup∧∀ i,i∈br ↔ wh.getD i 0≠0):=⟨hinv.nodup,hinv.mem⟩;clear hov hwl h hinv hfr hmu hwk hco hL2 hpl hfin hW1 hc1 hc2;by_cases hbig:67108864 < wk+256
 ·have hbI:(67108864:Int) < (wk:Int)+256:=by omega
  go_enter Tryz.func49,Tryz.ntmps49
  go_wp2_with fail;rw [HWe.out];obtain⟨m0,m1,m2,m3,-⟩:=QAn HR1.out;(refine bodyPost_ret (v := .tuple #[.agg #[.string ⟨#[]⟩,.int .i64 0,.slice none 0 0,.slice none 0 0],.bool false]) (by simp [results,Tryz.results49,go_sem,m0,m1,m2,m3]) rfl ?_);have h1:=HCo.out;have h2:=HWk.out;(exact⟨M,fun b h=>Or.inl h,fun b h=>h,HK1.out,Or.inr ⟨false,wh,br,wk+256,rfl,HS1.out,by omega,by omega,by omega,fun j h=>h,Or.inr ⟨rfl,hbig⟩⟩⟩)
 ·have hbI:¬ (67108864:Int) < (wk:Int)+256:=by omega
  (have HIF:Hid (Calls Tryz.prog 94 #[.slice adf fresh.length cf,.func (.func 95) #[.pointer (some ⟨x.bf,0,none⟩)] #[]] W1 _):=QFe (QFo (x:=x) (M:=M) (wh:=wh) (br:=br) (wk:=wk+256) (op:=false)) fresh HFl.out _ W1 (HFr.out.move fun b hb hm=>⟨HK1.out.block b hb hm,trivial⟩) HS1.out);(have nrf:¬ w.heap.size=x.bf:=by omega);(have nrf':¬ x.bf=w.heap.size:=by omega)
  cases hany:fresh.any fun i=>!(QBO x.ps wh i).isEmpty
  ·have HQ:Hid (∀ i∈fresh,QBO x.ps wh i=[]):=fun i hi=>by
    have:=List.any_eq_false.1 hany i hi;simpa using this
   (have hidx:QBU (fun i=>!(QBO x.ps wh i).isEmpty) fresh = -1:=by unfold QBU;rw [hany];rfl);rw [hidx] at HIF;have HIv2:Hid (SInv x.ps wh br []):=HIv.out.quiet HQ.out;clear hany hidx
   go_enter Tryz.func49,Tryz.ntmps49
   go_wp2_with fail;rw [HWe.out];refine HIF.out.mono ?_;rintro e w2 ⟨rfl,hb2⟩;have HB2:Hid (Below W1.heap.size W1 w2):=hb2;(have HPk:Hid (Calls Tryz.prog 97 #[.pointer (some ⟨x.bf,0,none⟩)] w2 _):=QMm HWl.out (HS1.out.up hb2) (by have:=HBr.out;omega) HLo.out (by omega));clear hb2 q0 q1 q2 q3 q4 q5 qf4;go_wp2_with fail;refine HPk.out.mono ?_;rintro e w3 ⟨best,found,d,rfl,hst,hd,hk3,hyes,hno⟩;have HS3:Hid (FinSt x w3 M wh br (wk+256+d) false):=hst;(have HK3:Hid (Kept (fun b=>¬ M b) w w3):=QAM (QAM HK1.out (QAN HB2.out fun _ h _=>h) fun _ _ h=>h) hk3 fun _ _ h=>h);(have HR3:Hid (w3.heap[w.heap.size]? = some (.cells #[.string ⟨#[]⟩,.int .i64 0,.slice none 0 0,.slice none 0 0] 85 (0,0))):=(hk3.block w.heap.size (Nat.lt_of_lt_of_le (QAE HR1.out) HB2.out.size) (fun hm=>by have:=HMo.out _ hm;omega)).trans ((HB2.out.block _ (QAE HR1.out)).trans HR1.out));have HZ3:Hid (w.heap.size < w3.heap.size):=QAE HR3.out;obtain⟨r0,r1,r2,r3,r4,r5,r6,r7⟩:=QAn HR3.out;have HD:Hid (d≤br.length):=hd;have HYes:Hid (found=true→best∈br∧wh.getD best 0=1∧QCP x.ps wh best=true):=hyes;have HNo:Hid (found=false→∀ i∈br,wh.getD i 0=1→QCP x.ps wh i=false):=hno;have zlt:=HZ3.out;obtain⟨adC,cC,hfin,-⟩:=hst.fin;obtain⟨q0,q1,q2,q3,q4,q5⟩:=QCW hfin;have qf5:=QAh hfin 5;clear hst hd hk3 hyes hno hfin HPk HIF
   cases found
   ·have HOp:Hid (OpenS x.ps wh):=HIv2.out.opened (HNo.out (by first|rfl|trivial))
    go_wp2_with fail;obtain⟨Wf,hWf⟩:∃ Wf,Wf=(((((w3.setCell ⟨x.bf,5,none⟩ (.bool true)).setCell ⟨w.heap.size,0,none⟩ (.string ⟨#[]⟩)).setCell ⟨w.heap.size,1,none⟩ (.int .i64 0)).setCell ⟨w.heap.size,2,none⟩ (.slice none 0 0)).setCell ⟨w.heap.size,3,none⟩ (.slice none 0 0)):=⟨_,rfl⟩;rw [← hWf];(have hE:Wf.heap[w.heap.size]? = some (.cells #[.string ⟨#[]⟩,.int .i64 0,.slice none 0 0,.slice none 0 0] 85 (0,0)):=by rw [hWf];exact QCK _ _ _ _ ((QAJ _ nrf).trans HR3.out));obtain⟨m0,m1,m2,m3,-⟩:=QAn hE;(refine bodyPost_ret (v := .tuple #[.agg #[.string ⟨#[]⟩,.int .i64 0,.slice none 0 0,.slice none 0 0],.bool false]) (by clear hWf;simp [results,Tryz.results49,go_sem,m0,m1,m2,m3]) rfl ?_);rw [hWf];have h1:=HCo.out;have h2:=HWk.out;have h3:=HD.out;have h4:=HBr.out;(have hmr:¬ M w.heap.size:=fun hm=>by have:=HMo.out _ hm;omega);(refine⟨M,fun b h=>Or.inl h,fun b h=>h,QAM (QAM HK3.out (QAf (b:=x.bf) (ok:=fun c=>c≠x.bf) fun c hc=>hc) fun b _ hm e=>hm (e ▸ HMf.out)) (QCc _ w.heap.size _ _ _ _) fun b hb _ e=>by omega,Or.inr ⟨true,wh,br,wk+256+d,rfl,(HS3.out.opn true).p4 _ _ _ _ hmr HKR.out,by omega,by omega,by omega,fun j h=>h,Or.inl ⟨rfl,HOp.out,HFin.out.2,HFin.out.1⟩⟩⟩)
   ·obtain⟨hb1,hb2,hb3⟩:=HYes.out (by first|rfl|trivial)
    have hways:(QAP x.ps best).2≠[]:=fun e=>by
     unfold QCP at hb3;rw [e] at hb3;simp at hb3
    (have HTA:Hid (Calls Tryz.prog 98 #[.pointer (some ⟨x.bf,0,none⟩),.int .i64 (best:Nat)] w3 _):=HOv.out w3 M best (wk+256+d) HS3.out HIv2.out (HLo.out best hb1) hb2 hways (by have h1:=HD.out;have h2:=HBr.out;omega));clear hb1 hb2 hb3 hways;go_wp2_with fail;refine HTA.out.mono ?_;rintro e w4 ⟨M',hM1,hM2,hK,hcase⟩;have HM1:Hid (∀ b,M' b→M b∨w3.heap.size≤b):=hM1;have HM2:Hid (∀ b,M b→M' b):=hM2;(have HK4:Hid (Kept (fun b=>¬ M b) w w4):=QAM HK3.out hK fun _ _ h=>h);(have hmr:¬ M w.heap.size:=fun hm=>by have:=HMo.out _ hm;omega);have HR4:Hid (w4.heap[w.heap.size]? = some (.cells #[.string ⟨#[]⟩,.int .i64 0,.slice none 0 0,.slice none 0 0] 85 (0,0))):=(hK.block w.heap.size zlt hmr).trans HR3.out
    have HNR:Hid (¬ M' w.heap.size):=fun hm=>by
     rcases HM1.out _ hm with h4|h4
     ·exact hmr h4
     ·omega
    have HMa:Hid (∀ b,M' b→M b∨w.heap.size≤b):=fun b hb=>by
     rcases HM1.out b hb with h4|h4
     ·exact Or.inl h4
     ·exact Or.inr (by omega)
    obtain⟨r0,r1,r2,r3,r4,r5,r6,r7⟩:=QAn HR4.out;clear hM1 hM2 hK q0 q1 q2 q3 q4 q5 qf5 HTA
    rcases hcase with ⟨p,pv,wk',rfl,hpo,hpn,hnd,hpr,hst,hw1,hw2,hw3⟩|⟨op',wh',br',wk',rfl,hst,hw1,hw2,hw3,hmono,hend⟩
    ·obtain⟨a,j,needs,kids⟩:=p
     obtain⟨an,cn,sl,cp,rfl,-⟩:=hpr.parts;(have HPr:Hid (PlanR (fun b=>w3.heap.size≤b∧¬ M' b) w4 (.mk a j needs kids) (.agg #[.string a,.int .i64 (j:Nat),.slice an needs.length cn,.slice sl kids.length cp])):=hpr);have HSt:Hid (FinSt x w4 M' wh br wk' false):=hst;have HPo:Hid (QAo x.ps (.mk a j needs kids)∧QCk (.mk a j needs kids)∧(∀ y∈(Plan.mk a j needs kids).needs,wh.getD y 0=1)):=⟨hpo,hpn,hnd⟩;have HWn:Hid (wk+256+d≤wk'∧wk'≤wk+256+d+(cost - (256+x.L))∧wk'≤67108864+x.L):=⟨hw1,hw2,hw3⟩;clear hpr hst hpo hpn hnd hw1 hw2 hw3;go_wp2_with fail;obtain⟨Wf,hWf⟩:∃ Wf,Wf=((((w4.setCell ⟨w.heap.size,0,none⟩ (.string a)).setCell ⟨w.heap.size,1,none⟩ (.int .i64 (j:Nat))).setCell ⟨w.heap.size,2,none⟩ (.slice an needs.length cn)).setCell ⟨w.heap.size,3,none⟩ (.slice sl kids.length cp)):=⟨_,rfl⟩;rw [← hWf];(have hE:Wf.heap[w.heap.size]? = some (.cells #[.string a,.int .i64 (j:Nat),.slice an needs.length cn,.slice sl kids.length cp] 85 (0,0)):=by rw [hWf];exact QCK _ _ _ _ HR4.out);obtain⟨m0,m1,m2,m3,-⟩:=QAn hE;(refine bodyPost_ret (v := .tuple #[.agg #[.string a,.int .i64 (j:Nat),.slice an needs.length cn,.slice sl kids.length cp],.bool true]) (by clear hWf;simp [results,Tryz.results49,go_sem,m0,m1,m2,m3]) rfl ?_);rw [hWf];have h1:=HCo.out;have h2:=HWk.out;have h3:=HD.out;have h4:=HBr.out;have h5:=HWn.out;(refine⟨M',HMa.out,HM2.out,QAM HK4.out (QCc _ w.heap.size _ _ _ _) fun b hb _ e=>by omega,Or.inl ⟨_,_,wk',rfl,HPo.out.1,HPo.out.2.1,HPo.out.2.2,HPr.out.move fun b hb hp=>⟨QCJ _ _ _ _ (by omega),by omega,hp.2⟩,HSt.out.p4 _ _ _ _ HNR.out HKR.out,by omega,by omega,by omega⟩⟩)
    ·have HSt:Hid (FinSt x w4 M' wh' br' wk' op'):=hst
     have HWn:Hid (wk+256+d≤wk'∧wk'≤wk+256+d+(cost - (256+x.L))∧wk'≤67108864+x.L+256):=⟨hw1,hw2,hw3⟩;have HMn:Hid (∀ j,wh.getD j 0≠0→wh'.getD j 0≠0):=hmono;have HEn:Hid ((op'=true∧OpenS x.ps wh'∧(∀ i,i∈br' ↔ wh'.getD i 0≠0)∧br'.Nodup)∨(op'=false∧67108864 < wk')):=hend;clear hst hw1 hw2 hw3 hmono hend;unfold QEq;go_wp2_with fail;obtain⟨Wf,hWf⟩:∃ Wf,Wf=((((w4.setCell ⟨w.heap.size,0,none⟩ (.string ⟨#[]⟩)).setCell ⟨w.heap.size,1,none⟩ (.int .i64 0)).setCell ⟨w.heap.size,2,none⟩ (.slice none 0 0)).setCell ⟨w.heap.size,3,none⟩ (.slice none 0 0)):=⟨_,rfl⟩;rw [← hWf];(have hE:Wf.heap[w.heap.size]? = some (.cells #[.string ⟨#[]⟩,.int .i64 0,.slice none 0 0,.slice none 0 0] 85 (0,0)):=by rw [hWf];exact QCK _ _ _ _ HR4.out);obtain⟨m0,m1,m2,m3,-⟩:=QAn hE;(refine bodyPost_ret (v := .tuple #[.agg #[.string ⟨#[]⟩,.int .i64 0,.slice none 0 0,.slice none 0 0],.bool false]) (by clear hWf;simp [results,Tryz.results49,go_sem,m0,m1,m2,m3]) rfl ?_);rw [hWf];have h1:=HCo.out;have h2:=HWk.out;have h3:=HD.out;have h4:=HBr.out;have h5:=HWn.out;(refine⟨M',HMa.out,HM2.out,QAM HK4.out (QCc _ w.heap.size _ _ _ _) fun b hb _ e=>by omega,Or.inr ⟨op',wh',br',wk',rfl,HSt.out.p4 _ _ _ _ HNR.out HKR.out,by omega,by omega,by omega,HMn.out,HEn.out⟩⟩)
  ·obtain⟨y,e1,e2,e3⟩:=QKv hany
   rw [e1] at HIF;(have hcl:QBO x.ps wh y≠[]:=fun e=>by rw [e] at e3;simp at e3);have hym:y∈fresh:=List.mem_of_getElem? e2;(obtain⟨k,hk⟩:∃ k,k=fresh.findIdx fun i=>!(QBO x.ps wh i).isEmpty:=⟨_,rfl⟩);rw [← hk] at HIF e2;have hkl:=(List.getElem?_eq_some_iff.1 e2).1;obtain⟨b,off,rfl,hPb,hcell⟩:=HFr.out.some' e2;(have HCl:Hid (∀ W,Below W1.heap.size W1 W→W.cell? ⟨b,off+k,none⟩=some (.int .i64 (y:Nat))):=fun W hb=>(QAQ (a:=⟨b,off+k,none⟩) ((hb.block b (Nat.lt_of_lt_of_le (QAI hcell) HK1.out.size)).trans (HK1.out.block b (QAI hcell) hPb))).trans hcell);(have HCc:Hid (∀ W,Below W1.heap.size W1 W→Calls Tryz.prog 96 #[.pointer (some ⟨x.bf,0,none⟩),.int .i64 (y:Nat)] W _):=fun W hb=>QHs (HS1.out.up hb) y (HFl.out y hym) (HIv.out.fresh y hym) hcl);(have hkI:(k:Int) < (fresh.length:Int):=by omega);(have hkc:(k:Int) < (cf:Int):=by omega);clear hany e1 e2 e3 hcl hym hcell hPb hk
   go_enter Tryz.func49,Tryz.ntmps49
   go_wp2_with fail;rw [HWe.out];refine HIF.out.mono ?_;rintro e w2 ⟨rfl,hb2⟩;have HB2:Hid (Below W1.heap.size W1 w2):=hb2;have g0:=HCl.out w2 hb2;clear hb2;go_wp2_with fail;refine (HCc.out w2 HB2.out).mono ?_;rintro e w3 ⟨⟨a,j,needs,kids⟩,pv,rfl,hpr,hpo,hpn,hnd,hb3⟩;obtain⟨an,cn,sl,cp,rfl,-⟩:=hpr.parts;have HB3:Hid (Below W1.heap.size W1 w3):=QAC HB2.out hb3;(have HPr:Hid (PlanR (fun b=>w2.heap.size≤b) w3 (.mk a j needs kids) (.agg #[.string a,.int .i64 (j:Nat),.slice an needs.length cn,.slice sl kids.length cp])):=hpr);have HPo:Hid (QAo x.ps (.mk a j needs kids)∧QCk (.mk a j needs kids)∧(∀ y∈(Plan.mk a j needs kids).needs,wh.getD y 0=1)):=⟨hpo,hpn,hnd⟩;have HR3:Hid (w3.heap[w.heap.size]? = some (.cells #[.string ⟨#[]⟩,.int .i64 0,.slice none 0 0,.slice none 0 0] 85 (0,0))):=(HB3.out.block _ (QAE HR1.out)).trans HR1.out;obtain⟨r0,r1,r2,r3,r4,r5,r6,r7⟩:=QAn HR3.out;clear hpr hpo hpn hnd hb3 q0 q1 q2 q3 q4 q5 qf4 g0;go_wp2_with fail;obtain⟨Wf,hWf⟩:∃ Wf,Wf=((((w3.setCell ⟨w.heap.size,0,none⟩ (.string a)).setCell ⟨w.heap.size,1,none⟩ (.int .i64 (j:Nat))).setCell ⟨w.heap.size,2,none⟩ (.slice an needs.length cn)).setCell ⟨w.heap.size,3,none⟩ (.slice sl kids.length cp)):=⟨_,rfl⟩;rw [← hWf];(have hE:Wf.heap[w.heap.size]? = some (.cells #[.string a,.int .i64 (j:Nat),.slice an needs.length cn,.slice sl kids.length cp] 85 (0,0)):=by rw [hWf];exact QCK _ _ _ _ HR3.out);obtain⟨m0,m1,m2,m3,-⟩:=QAn hE;(refine bodyPost_ret (v := .tuple #[.agg #[.string a,.int .i64 (j:Nat),.slice an needs.length cn,.slice sl kids.length cp],.bool true]) (by clear hWf;simp [results,Tryz.results49,go_sem,m0,m1,m2,m3]) rfl ?_);rw [hWf];have h1:=HCo.out;have h2:=HWk.out;have h3:=HB2.out.size;have h4:=HZ1.out;(refine⟨M,fun b h=>Or.inl h,fun b h=>h,QAM (QAM HK1.out (QAN HB3.out fun _ h _=>h) fun _ _ h=>h) (QCc w3 w.heap.size _ _ _ _) fun b hb _ e=>by omega,Or.inl ⟨_,_,wk+256,rfl,HPo.out.1,HPo.out.2.1,HPo.out.2.2,HPr.out.move fun b hb hp => ?_,(HS1.out.up HB3.out).p4 _ _ _ _ (fun hm=>by have:=HMo.out _ hm;omega) HKR.out,by omega,by omega,by omega⟩⟩);(exact⟨QCJ _ _ _ _ (by omega),by omega,fun hm=>by have:=HMo.out _ hm;omega⟩)
open Go.RowKit Go.Sort Go.Shelf Go.Lib
def QDC (n:Nat):Value := .int .i64 (n:Nat)
theorem QDE {w:World} {g b q:Nat} (d:Array Nat) (h:b≠g):(putRow QDC (Sort.ahead w q) g 0 d).heap[b]? = w.heap[b]? := by
 simp [putRow,mapBlock,Sort.ahead,Array.getElem?_modify,Ne.symm h]
theorem QDY {w:World} {g q:Nat} (d:Array Nat):(putRow QDC (Sort.ahead w q) g 0 d).heap.size=w.heap.size:=by
 simp [putRow,mapBlock,Sort.ahead]
theorem QEc {w:World} {g q:Nat} (d:Array Nat):Kept (fun b=>b≠g) w (putRow QDC (Sort.ahead w q) g 0 d) :=
 ⟨rfl,rfl,rfl,by rw [QDY];exact Nat.le_refl _,fun b _ hb=>QDE d hb⟩
theorem QBj {l:List Nat} {j:Nat} (hj:j < l.length):l.toArray[j]! = l[j]:=by
 (rw [getElem!_pos _ j (by simpa using hj)])
 simp
theorem QGU {B:Nat} {w:World} {g cap:Nat} {l:List Nat} (h:w.ownsRow B 82 1 (.slice (some ⟨g,0,none⟩) l.length cap) l.length (l.map fun i=>(.int .i64 (i:Nat):Value))):Holds QDC w g 0 l.toArray:=by
 intro j hj;(have hj':j < l.length:=by simpa using hj);(obtain⟨g',e,hc⟩:=QBZ h (by omega))
 cases e
 (have:=hc j (.int .i64 (l[j]:Nat)) (by rw [List.getElem?_map,List.getElem?_eq_getElem hj'];rfl));rw [QAZ] at this;(refine⟨by rw [QBj hj'];exact this,?_⟩)
 rcases h.2 with ⟨hv,-⟩|⟨g2,cap',cur,hv,-,hh,-⟩
 ·cases hv
 ·cases hv
  exact QAh hh _
theorem QFd {P:Nat→Prop} {w:World} {g n cap:Nat} {l m:List Nat} (h:Holds QDC w g 0 (l++m).toArray) (hn:n=l.length) (hc:l.length≤cap) (hm:cap≤maxLen) (hp:P g):IRow P w (.slice (some ⟨g,0,none⟩) n cap) l:=by
 subst hn;(refine⟨_,cap,rfl,hc,hm,fun _=>⟨g,0,rfl,hp,fun j x hj => ?_⟩⟩);have hl:=(List.getElem?_eq_some_iff.1 hj).1;(have:=(h j (by simp;omega)).1);(rw [QBj (by simp;omega),List.getElem_append_left hl] at this);rw [List.getElem?_eq_getElem hl] at hj;rw [this,Option.some.inj hj];rfl
set_option maxRecDepth 10000 in
set_option maxHeartbeats 2000000 in
theorem QIF {P:Nat→Prop} (l:List Nat) (v:Value) (w:World) (hv:IRow P w v l) (t:Nat):Calls Tryz.prog 193 #[v,.int .i64 (t:Nat)] w fun e w'=>e = .returned (.int .i64 (QBU (fun y=>decide (t=y)) l))∧w'=w:=by
 obtain⟨ad,cap,rfl,h1,h2,h3⟩:=hv;(have hlI:(l.length:Int)≤9223372036854775807:=by unfold maxLen at h2;omega);have H3:Hid (l≠[]→∃ g off,ad=some ⟨g,off,none⟩∧P g∧∀ (j x:Nat),l[j]? = some x→w.cell? ⟨g,off+j,none⟩=some (.int .i64 (x:Nat))):=h3;clear h3
 go_enter Tryz.func193,Tryz.ntmps193
 go_wp2_with fail
 go_loopg [8] l.length (fun g c wr=>∃ i,i≤l.length∧g=l.length - i∧c = .int .i64 (i:Nat)∧wr=w∧Hid ((l.take i).any (fun y=>decide (t=y))=false))
 case atStart=>exact⟨0,by omega,by omega,rfl,rfl,by show _=_;rfl⟩
 case round =>
  obtain⟨i,hi,hg,rfl,rfl,HN⟩:=hrel;have HG:Hid (gk=l.length - i):=hg;clear hg;by_cases hlt:i < l.length
  ·obtain⟨y,hy⟩:∃ x,l[i]? = some x:=⟨_,List.getElem?_eq_getElem hlt⟩
   (obtain⟨g,off,rfl,-,hc⟩:=H3.out (fun e=>by rw [e] at hlt;simp at hlt));have g0:=hc i y hy;(have hltI:(i:Int) < (l.length:Int):=by omega);(have hlc:(i:Int) < (cap:Int):=by omega)
   have HXi:Hid (t=y→QBU (fun y=>decide (t=y)) l=((i:Nat):Int)):=fun hp=>by
    unfold QBU;(rw [if_pos (List.any_eq_true.2 ⟨y,List.mem_of_getElem? hy,by simpa using hp⟩),QEx HN.out hy (by simpa using hp)])
   have HXn:Hid (¬ t=y→(l.take (i+1)).any (fun y=>decide (t=y))=false):=fun hp=>by
    rw [List.take_add_one,hy,List.any_append,HN.out];simp [hp]
   clear hc hy H3;by_cases e:t=y
   ·have HX':Hid (QBU (fun y=>decide (t=y)) l=((i:Nat):Int)):=HXi.out e
    (have eI:(t:Int)=(y:Int):=by omega);clear HXn HXi;subst e;go_wp2_with fail;go_ret;(exact⟨by rw [HX'.out];rfl,rfl⟩)
   ·have HX':Hid ((l.take (i+1)).any (fun y=>decide (t=y))=false):=HXn.out e
    (have eI:¬ (t:Int)=(y:Int):=by omega);clear HXn HXi;go_wp2_with fail
    go_roundg (l.length - (i+1))
    case measure=>have:=HG.out;omega
    case rel=>exact⟨i+1,by omega,rfl,by go_num,rfl,HX'⟩
  ·have HT:Hid (QBU (fun y=>decide (t=y)) l = -1):=by
    have:=HN.out;(rw [List.take_of_length_le (by omega)] at this);show _=_;unfold QBU;rw [this];rfl
   (have hge:¬ (i:Int) < (l.length:Int):=by omega);clear H3 HN;go_wp2_with fail;go_ret;(exact⟨by rw [HT.out];rfl,rfl⟩)
set_option maxHeartbeats 1000000 in
theorem QHt {P:Nat→Prop} (l:List Nat) (v:Value) (w:World) (hv:IRow P w v l) (t:Nat):Calls Tryz.prog 176 #[v,.int .i64 (t:Nat)] w fun e w'=>e = .returned (.bool (l.contains t))∧w'=w:=by
 have hcall:=QIF l v w hv t
 have hany:(l.any fun y=>decide (t=y))=l.contains t:=by
  rw [List.contains_eq_any_beq]
  congr 1
 (have HX:Hid ((l.contains t=true→0≤QBU (fun y=>decide (t=y)) l)∧(l.contains t=false→QBU (fun y=>decide (t=y)) l = -1)):=⟨fun h=>by rw [QGO,hany];exact h,fun h=>by unfold QBU;rw [hany,h];rfl⟩);(generalize QBU (fun y=>decide (t=y)) l=r at *);clear hany hv;generalize l.contains t=bb at *
 cases bb
 ·have e:=HX.out.2 (by first|rfl|trivial)
  subst e;clear HX
  go_enter Tryz.func176,Tryz.ntmps176
  go_wp2_with fail;refine hcall.mono ?_;rintro e w1 ⟨rfl,rfl⟩;go_wp2_with fail;go_ret;exact⟨rfl,rfl⟩
 ·have e:=HX.out.1 (by first|rfl|trivial)
  clear HX
  go_enter Tryz.func176,Tryz.ntmps176
  go_wp2_with fail;refine hcall.mono ?_;rintro e w1 ⟨rfl,rfl⟩;go_wp2_with fail;go_ret;(exact⟨by simp,rfl⟩)
theorem QIS (args:Array Value) (w:World):(callFunc 175 args).run Tryz.prog w = .ok (.enter 175 args) w:=by
 simp [go_sem]
set_option maxHeartbeats 1000000 in
theorem QGf {P:Nat→Prop} (c:Nat) (v:Value) (fr:List Nat) (w:World) (hc:w.cell? ⟨c,0,none⟩=some v) (hv:IRow P w v fr) (t:Nat):Calls Tryz.prog 175 #[.int .i64 (t:Nat),.pointer (some ⟨c,0,none⟩)] w fun e w'=>e = .returned (.bool (fr.contains t))∧w'=w:=by
 have hcall:=QHt fr v w hv t;obtain⟨ad,cap,rfl,-⟩:=hv;generalize fr.contains t=bb at *
 go_enter Tryz.func175,Tryz.ntmps175
 go_wp2_with fail;refine hcall.mono ?_;rintro e w1 ⟨rfl,rfl⟩;go_wp2_with fail;go_ret;exact⟨rfl,rfl⟩
structure FreshAt (c:Nat) (v:Value) (fr:List Nat) (Q:Nat→Prop) (w:World):Prop where
 box:w.heap[c]? = some (.cells #[v] 78 (0,0))
 row:IRow Q w v fr
theorem FreshAt.move {c:Nat} {v:Value} {fr:List Nat} {Q Q':Nat→Prop} {w w':World} (h:FreshAt c v fr Q w) (hc:w'.heap[c]? = w.heap[c]?) (hb:∀ b,b < w.heap.size→Q b→w'.heap[b]? = w.heap[b]? ∧ Q' b):FreshAt c v fr Q' w':=⟨hc.trans h.box,h.row.move hb⟩
theorem QLV {Q:Nat→Prop} (c:Nat) (v:Value) (fr:List Nat):QFO 175 #[] #[.pointer (some ⟨c,0,none⟩)] (fun i=>fr.contains i) (fun _=>True) (FreshAt c v fr Q) where
 up h hb:=h.move (hb.block c (QAE h.box)) fun b hl hq=>⟨hb.block b hl,hq⟩
 ent _ w:=QIS _ w
 call t w h _:=(QGf c v fr w (QAL h.box 0) h.row t).mono fun e w' he=>⟨he.1,by rw [he.2];exact Below.refl _ _⟩
theorem QMO {P:Nat→Prop} (l:List Nat) (v:Value) (w:World) (hv:IRow P w v l) (hne:l≠[]) (hl:l.length≤10000000):Calls Tryz.prog 178 #[v] w fun e w'=>∃ g cap,e = .returned (.slice (some ⟨g,0,none⟩) l.length cap)∧w'.ownsRow w.heap.size 82 1 (.slice (some ⟨g,0,none⟩) l.length cap) l.length (l.map fun i=>(.int .i64 (i:Nat):Value))∧Below w.heap.size w w':=by
 obtain⟨i0,hi,hz0,hz1,hz2⟩:=QEX;obtain⟨ad,cap,rfl,h1,h2,h3⟩:=hv;obtain⟨b,off,rfl,-,hc⟩:=h3 hne
 have hcon:=AnyE.slices_Clone Tryz.layItClone i0 (.int .i64 0) 1 8 hi hz0 hz1 hz2 rfl (by decide) Tryz.sizeOf82 b off l.length cap (l.map fun i=>(.int .i64 (i:Nat):Value)) w (by simp) (by unfold maxLen;omega) (by omega) (fun j u hu=>by
  rw [List.getElem?_map] at hu;obtain⟨y,hy,rfl⟩:=Option.map_eq_some_iff.1 hu
  exact hc j y hy) (fun u hu=>by
   obtain⟨y,-,rfl⟩:=List.mem_map.1 hu
   rfl)
 refine hcon.mono ?_;rintro e w' ⟨v',rfl,hown,-,hb⟩;have hown':=hown
 rcases hown'.2 with ⟨-,h0⟩|⟨g,cap',cur,rfl,-⟩
 ·exact absurd (List.length_eq_zero_iff.1 h0) hne
 ·exact⟨g,cap',rfl,hown,hb⟩
theorem QOi (P:Program) (T:TypeId):EqlAt P T QDC (fun x y=>decide (x=y)) :=
 ⟨fun x y w=>by
  have:=(EqlAt.intD P T .i64).1 (x:Int) (y:Int) w;refine this.trans ?_
  congr 3
  rw [Bool.eq_iff_iff];simp only [decide_eq_true_eq]
  omega,fun op a b x y w=>(EqlAt.intD P T .i64).2 op a b (x:Int) (y:Int) w⟩
theorem QOj (P:Program) (T:TypeId):NeqAt P T QDC (fun x y=>decide (x=y)) :=
 ⟨fun x y w=>by
  have:=(NeqAt.intD P T .i64).1 (x:Int) (y:Int) w;refine this.trans ?_
  congr 4
  rw [Bool.eq_iff_iff];simp only [decide_eq_true_eq]
  omega,fun op a b x y w=>(NeqAt.intD P T .i64).2 op a b (x:Int) (y:Int) w⟩
theorem QOd:OneCell QDC:=fun _=>rfl
theorem QOC {Q:Nat→Prop} (c:Nat) (vf:Value) (fr:List Nat) (l:List Nat) (g cap:Nat) (w:World) (hf:FreshAt c vf fr Q w) (hcg:c≠g) (hQ:∀ b,Q b→b≠g) (hH:Holds QDC w g 0 l.toArray) (hl:l.length≤10000000) (hcap:l.length≤cap) (hcm:cap≤maxLen) :
  Calls Tryz.prog 177 #[.slice (some ⟨g,0,none⟩) l.length cap,.func (.func 175) #[] #[.pointer (some ⟨c,0,none⟩)]] w fun e w'=>e = .returned (.slice (some ⟨g,0,none⟩) (l.filter fun x=>!fr.contains x).length cap)∧IRow (fun b=>b=g) w' (.slice (some ⟨g,0,none⟩) (l.filter fun x=>!fr.contains x).length cap) (l.filter fun x=>!fr.contains x)∧Kept (fun b=>b≠g) w w':=by
 (have hsz:l.toArray.size=l.length:=by simp)
 have hg:g < w.heap.size∨l=[]:=by
  rcases Nat.eq_zero_or_pos l.length with h0|h0
  ·exact Or.inr (List.length_eq_zero_iff.1 h0)
  ·exact Or.inl (QAI (hH 0 (by omega)).1)
 (have give:∀ W,FreshAt c vf fr Q W→∀ t,FnGives Tryz.prog 175 #[.pointer (some ⟨c,0,none⟩)] #[QDC t] (.bool (fr.contains t)) W:=fun W hW t=>(QGf c vf fr W (QAL hW.box 0) hW.row t).mono fun e w' he=>⟨he.1,0,he.2⟩)
 have hcon:=AnyE.slices_DeleteFunc Tryz.layItDel QDC QOd (fun x=>fr.contains x) 175 #[.pointer (some ⟨c,0,none⟩)] (fun args w=>QIS args w) 0 Tryz.zeroValue82 g 0 cap l.toArray w
  (fun W x hb=>give W (hf.move (hb.block c (QAE hf.box)) fun b hl hq=>⟨hb.block b hl,hq⟩) x)
  (fun n os dk x hdk=>give _ (hf.move (Q':=Q) (by
   have h1:=QAE hf.box;show ((putRow QDC (Sort.ahead w n) g 0 dk).heap++os)[c]? = _
   rw [Array.getElem?_append_left (by rw [QDY];exact h1),QDE dk hcg]) fun b hb hq=>⟨by
    show ((putRow QDC (Sort.ahead w n) g 0 dk).heap++os)[b]? = _
    rw [Array.getElem?_append_left (by rw [QDY];exact hb),QDE dk (hQ b hq)],hq⟩) x) hH (by rw [hsz];omega) (by rw [hsz];exact hcap)
 rw [hsz] at hcon;refine hcon.mono ?_;rintro e w' ⟨rfl,q,rfl⟩;(have hfl:(l.filter fun x=>!fr.contains x).length≤l.length:=List.length_filter_le _ _);refine⟨rfl,?_,QEc _⟩;(have hH2:=holds_putRow QDC (Sort.ahead w q) g 0 l.toArray ((l.filter fun x=>!fr.contains x)++List.replicate (l.length - (l.filter fun x=>!fr.contains x).length) 0).toArray (holds_ahead _ _ _ _ _ _ hH) (by rw [List.size_toArray,List.size_toArray,List.length_append,List.length_replicate];omega));(exact QFd hH2 rfl (by omega) hcm rfl)
theorem QNl (l:List Nat) (g cap:Nat) (w:World) (hH:Holds QDC w g 0 l.toArray) (hne:l≠[]) (hl:l.length≤10000000) :
  Calls Tryz.prog 179 #[.slice (some ⟨g,0,none⟩) l.length cap] w fun e w'=>e = .returned (.tuple #[])∧∃ l':List Nat,l'.Perm l∧l'.Pairwise (·≤·)∧Holds QDC w' g 0 l'.toArray∧Kept (fun b=>b≠g) w w':=by
 have hpos:=List.length_pos_iff.2 hne;(have hg:=QAI (hH 0 (by simpa using hpos)).1);simp only at hg;(obtain⟨zs,hzs⟩:∃ zs:List Int,zs=l.map fun n:Nat=>(n:Int):=⟨_,rfl⟩);(have hzl:zs.length=l.length:=by rw [hzs];simp)
 have hHz:Holds (Value.int .i64) w g 0 zs.toArray:=fun j hj=>by
  (have hj':j < l.length:=by simpa [hzl] using hj);(obtain⟨h1,h2⟩:=hH j (by simpa using hj'));refine⟨?_,h2⟩;(rw [h1,QBj hj',getElem!_pos _ j (by simpa [hzl] using hj')]);subst hzs;simp [QDC]
 (have hcon:=AnyM.slices_Sort_int Tryz.layItSort g 0 cap zs w hHz hg (by omega));rw [hzl] at hcon;refine hcon.mono ?_;rintro e w' ⟨rfl,n,os,rfl⟩;(obtain⟨ys,hys⟩:∃ ys,ys=zs.mergeSort fun x y=>decide (x≤y):=⟨_,rfl⟩);rw [← hys];(have hperm:ys.Perm zs:=by rw [hys];exact List.mergeSort_perm ..);have hyl:ys.length=zs.length:=hperm.length_eq
 have hsorted:ys.Pairwise (fun a b=>decide (a≤b)=true):=by
  rw [hys];(exact List.pairwise_mergeSort (fun a b c h1 h2=>by simp at h1 h2 ⊢;omega) (fun a b=>by simp;omega) _)
 have hnn:∀ y∈ys,((y.toNat:Nat):Int)=y:=fun y hy=>by
  have:=hperm.mem_iff.1 hy;rw [hzs] at this;obtain⟨m,-,rfl⟩:=List.mem_map.1 this
  simp
 have hmap:(ys.map Int.toNat).map (fun n:Nat=>(n:Int))=ys:=by
  rw [List.map_map];(exact (List.map_congr_left fun y hy=>hnn y hy).trans (List.map_id _))
 refine⟨rfl,ys.map Int.toNat,?_,?_,?_,?_⟩
 ·have h1:=hperm.map Int.toNat
  refine h1.trans ?_;rw [hzs,List.map_map];(exact List.Perm.of_eq ((List.map_congr_left fun m _=>by simp).trans (List.map_id _)))
 ·rw [List.pairwise_map]
  (exact hsorted.imp fun h=>Int.toNat_le_toNat (by simpa using h))
 ·have hHp:=holds_putRow (Value.int .i64) (Sort.ahead w n) g 0 zs.toArray ys.toArray (holds_ahead _ _ _ _ _ _ hHz) (by simpa using hyl)
  intro j hj;(have hj':j < ys.length:=by simpa using hj);(obtain⟨h1,h2⟩:=hHp j (by simpa using hj'));(have hgs:g < (putRow (Value.int .i64) (Sort.ahead w n) g 0 ys.toArray).heap.size:=by simpa [putRow,mapBlock,Sort.ahead] using hg)
  have hgb:(grow (putRow (Value.int .i64) (Sort.ahead w n) g 0 ys.toArray) os).heap[g]? = (putRow (Value.int .i64) (Sort.ahead w n) g 0 ys.toArray).heap[g]? := by
   show ((putRow (Value.int .i64) (Sort.ahead w n) g 0 ys.toArray).heap++os)[g]? = _;rw [Array.getElem?_append_left hgs]
  refine⟨(QAQ (a:=⟨g,0+j,none⟩) hgb).trans (h1.trans ?_),?_⟩
  ·rw [QBj (by simpa using hj'),getElem!_pos _ j (by simpa using hj')]
   simp only [QDC,List.getElem_map,List.getElem_toArray];rw [hnn _ (List.getElem_mem _)]
  ·rw [← h2]
   unfold World.frozen?;simp only;rw [hgb]
 ·refine⟨rfl,rfl,rfl,?_,fun b hb hne => ?_⟩
  ·show _≤((putRow (Value.int .i64) (Sort.ahead w n) g 0 ys.toArray).heap++os).size
   rw [Array.size_append];simp [putRow,mapBlock,Sort.ahead]
  ·show ((putRow (Value.int .i64) (Sort.ahead w n) g 0 ys.toArray).heap++os)[b]? = _
   (rw [Array.getElem?_append_left (by simpa [putRow,mapBlock,Sort.ahead] using hb)]);simp [putRow,mapBlock,Sort.ahead,Array.getElem?_modify,Ne.symm hne]
theorem QET {l:List Nat} (h:l.Pairwise (·≤·)):∀ m,m≤l.length→(compactUpTo l.toArray m).Pairwise (· < ·)∧∀ y∈compactUpTo l.toArray m,∃ j,j < m∧y=l.toArray[j]!
 | 0,_=>⟨by simp [compactUpTo],fun y hy=>by simp [compactUpTo] at hy⟩
 | m+1,hm=>by
  (obtain⟨h1,h2⟩:=QET h m (by omega));rw [compactUpTo_succ];by_cases hk:keeps l.toArray m=true
  ·rw [if_pos hk]
   (refine⟨?_,fun y hy => ?_⟩)
   ·rw [List.pairwise_append]
    (refine⟨h1,by simp,fun y hy z hz => ?_⟩);rw [List.mem_singleton.1 hz];obtain⟨j,hj,rfl⟩:=h2 y hy;(rw [QBj (by omega),QBj (by omega)]);(have hle:∀ a b,(ha:a < b)→(hb:b < l.length)→l[a]≤l[b]:=fun a b ha hb=>List.pairwise_iff_getElem.1 h a b (by omega) hb ha);(have hm0:0 < m:=by omega)
    have hne:l[m]≠l[m - 1]:=by
     have:=of_decide_eq_true hk
     rcases this with h3|h3
     ·omega
     ·rw [QBj (by omega),QBj (by omega)] at h3
      exact h3
    (have h4:=hle (m - 1) m (by omega) (by omega))
    rcases Nat.lt_or_ge j (m - 1) with h5|h5
    ·have:=hle j (m - 1) h5 (by omega)
     omega
    ·have:j=m - 1:=by omega
     subst this;omega
   ·rcases List.mem_append.1 hy with hy|hy
    ·obtain⟨j,hj,e⟩:=h2 y hy
     (exact⟨j,by omega,e⟩)
    ·rw [List.mem_singleton.1 hy]
     (exact⟨m,by omega,rfl⟩)
  ·rw [if_neg hk,List.append_nil]
   (refine⟨h1,fun y hy => ?_⟩);obtain⟨j,hj,e⟩:=h2 y hy;(exact⟨j,by omega,e⟩)
theorem QHO (l:List Nat) (y:Nat):y∈compactUpTo l.toArray l.length ↔ y∈l:=by
 constructor
 ·intro h
  unfold compactUpTo at h;obtain⟨j,hj,rfl⟩:=List.mem_map.1 h;have:=List.mem_range.1 (List.mem_filter.1 hj).1;rw [QBj this];exact List.getElem_mem _
 ·intro h
  obtain⟨j,hj⟩:=List.getElem?_of_mem h;have hlt:=(List.getElem?_eq_some_iff.1 hj).1;rw [List.getElem?_eq_getElem hlt] at hj
  have key:∀ j,j < l.length→l.toArray[j]! ∈ compactUpTo l.toArray l.length:=by
   intro j
   induction j with
   | zero=>intro hj;exact List.mem_map.2 ⟨0,List.mem_filter.2 ⟨List.mem_range.2 hj,by simp [keeps]⟩,rfl⟩
   | succ j ih =>
    intro hj;by_cases hk:keeps l.toArray (j+1)=true
    ·exact List.mem_map.2 ⟨j+1,List.mem_filter.2 ⟨List.mem_range.2 hj,hk⟩,rfl⟩
    ·have e:l.toArray[j+1]! = l.toArray[j]! := by simpa [keeps] using hk
     rw [e];(exact ih (by omega))
  have:=key j hlt;rw [QBj hlt,Option.some.inj hj] at this;exact this
theorem QNO (l:List Nat) (g cap:Nat) (w:World) (hH:Holds QDC w g 0 l.toArray) (hs:l.Pairwise (·≤·)) (hl:l.length≤10000000) (hcap:l.length≤cap) (hcm:cap≤maxLen) :
  Calls Tryz.prog 180 #[.slice (some ⟨g,0,none⟩) l.length cap] w fun e w'=>∃ l':List Nat,e = .returned (.slice (some ⟨g,0,none⟩) l'.length cap)∧IRow (fun b=>b=g) w' (.slice (some ⟨g,0,none⟩) l'.length cap) l'∧l'.Nodup∧(∀ y,y∈l' ↔ y∈l)∧Kept (fun b=>b≠g) w w':=by
 (have hsz:l.toArray.size=l.length:=by simp);(have hcon:=AnyE.slices_Compact Tryz.layItComp QDC QOd (QOi _ _) (QOj _ _) 0 Tryz.zeroValue82 g 0 cap l.toArray w hH (by rw [hsz];omega) (by rw [hsz];exact hcap));rw [hsz] at hcon;refine hcon.mono ?_;rintro e w' ⟨rfl,q,rfl⟩;obtain⟨h1,-⟩:=QET hs l.length (Nat.le_refl _)
 have hcl:(compactUpTo l.toArray l.length).length≤l.length:=by
  unfold compactUpTo;rw [List.length_map];(exact Nat.le_trans (List.length_filter_le _ _) (by simp))
 (refine⟨compactUpTo l.toArray l.length,rfl,?_,h1.imp (fun h=>Nat.ne_of_lt h),QHO l,QEc _⟩);(have hH2:=holds_putRow QDC (Sort.ahead w q) g 0 l.toArray (compactUpTo l.toArray l.length++List.replicate (l.length - (compactUpTo l.toArray l.length).length) 0).toArray (holds_ahead _ _ _ _ _ _ hH) (by rw [List.size_toArray,List.size_toArray,List.length_append,List.length_replicate];omega));(exact QFd hH2 rfl (by omega) hcm rfl)
open Go.RowKit
theorem QNT (a:Array Value) (h:a.size=33):∃ x0 x1 x2 x3 x4 x5 x6 x7 x8 x9 x10 x11 x12 x13 x14 x15 x16 x17 x18 x19 x20 x21 x22 x23 x24 x25 x26 x27 x28 x29 x30 x31 x32,a=#[x0,x1,x2,x3,x4,x5,x6,x7,x8,x9,x10,x11,x12,x13,x14,x15,x16,x17,x18,x19,x20,x21,x22,x23,x24,x25,x26,x27,x28,x29,x30,x31,x32]:=by
 obtain⟨l⟩:=a;have h0:l.length=33:=h;obtain⟨x0,l1,e0,h1⟩:=QAD h0;obtain⟨x1,l2,e1,h2⟩:=QAD h1;obtain⟨x2,l3,e2,h3⟩:=QAD h2;obtain⟨x3,l4,e3,h4⟩:=QAD h3;obtain⟨x4,l5,e4,h5⟩:=QAD h4;obtain⟨x5,l6,e5,h6⟩:=QAD h5;obtain⟨x6,l7,e6,h7⟩:=QAD h6;obtain⟨x7,l8,e7,h8⟩:=QAD h7;obtain⟨x8,l9,e8,h9⟩:=QAD h8;obtain⟨x9,l10,e9,h10⟩:=QAD h9;obtain⟨x10,l11,e10,h11⟩:=QAD h10;obtain⟨x11,l12,e11,h12⟩:=QAD h11;obtain⟨x12,l13,e12,h13⟩:=QAD h12;obtain⟨x13,l14,e13,h14⟩:=QAD h13;obtain⟨x14,l15,e14,h15⟩:=QAD h14;obtain⟨x15,l16,e15,h16⟩:=QAD h15;obtain⟨x16,l17,e16,h17⟩:=QAD h16;obtain⟨x17,l18,e17,h18⟩:=QAD h17;obtain⟨x18,l19,e18,h19⟩:=QAD h18;obtain⟨x19,l20,e19,h20⟩:=QAD h19;obtain⟨x20,l21,e20,h21⟩:=QAD h20;obtain⟨x21,l22,e21,h22⟩:=QAD h21;obtain⟨x22,l23,e22,h23⟩:=QAD h22;obtain⟨x23,l24,e23,h24⟩:=QAD h23;obtain⟨x24,l25,e24,h25⟩:=QAD h24;obtain⟨x25,l26,e25,h26⟩:=QAD h25;obtain⟨x26,l27,e26,h27⟩:=QAD h26;obtain⟨x27,l28,e27,h28⟩:=QAD h27;obtain⟨x28,l29,e28,h29⟩:=QAD h28;obtain⟨x29,l30,e29,h30⟩:=QAD h29;obtain⟨x30,l31,e30,h31⟩:=QAD h30;obtain⟨x31,l32,e31,h32⟩:=QAD h31;obtain⟨x32,l33,e32,h33⟩:=QAD h32;have e33:l33=[]:=List.length_eq_zero_iff.1 h33;subst e33 e32 e31 e30 e29 e28 e27 e26 e25 e24 e23 e22 e21 e20 e19 e18 e17 e16 e15 e14 e13 e12 e11 e10 e9 e8 e7 e6 e5 e4 e3 e2 e1 e0;exact⟨x0,x1,x2,x3,x4,x5,x6,x7,x8,x9,x10,x11,x12,x13,x14,x15,x16,x17,x18,x19,x20,x21,x22,x23,x24,x25,x26,x27,x28,x29,x30,x31,x32,rfl⟩
theorem PRows.three {P:Nat→Prop} {w:World} {b:Nat} {u u' u2:Value} {pr pr' pr2:List Nat} {T:TypeId} (hp:P b) (h:w.heap[b]? = some (.cells #[u,u',u2] T (0,0))) (hu:IRow P w u pr) (hu':IRow P w u' pr') (hu2:IRow P w u2 pr2):PRows P w (.slice (some ⟨b,0,none⟩) 3 3) [pr,pr',pr2]:=by
 (refine⟨_,3,rfl,Nat.le_refl _,by simp [maxLen],fun _=>⟨b,0,rfl,hp,fun j q hj => ?_⟩⟩);rw [Nat.zero_add,QAL h]
 match j,hj with
 | 0,hj=>simp at hj;subst hj;exact⟨u,rfl,hu⟩
 | 1,hj=>simp at hj;subst hj;exact⟨u',rfl,hu'⟩
 | 2,hj=>simp at hj;subst hj;exact⟨u2,rfl,hu2⟩
 | j+3,hj=>simp at hj
def kPR (rs:List (List Nat)):Value→World→Prop:=fun v w=>PRows (fun _=>True) w v rs
theorem QLG (rs:List (List Nat)):QDF (kPR rs):=fun _ _ _ h hb=>PRows.move h fun b hl _=>⟨hb.block b hl,trivial⟩
def QMa (B:Nat) (l:List Nat):Value→World→Prop:=fun v w=>∃ ad cp,v = .slice ad l.length cp∧OwnI B l ad cp w
theorem QJO (B:Nat) (l:List Nat):QDF (QMa B l):=fun _ _ _ ⟨ad,cp,e,h⟩ hb=>⟨ad,cp,e,QAz h hb⟩
theorem OwnI.low {B B':Nat} {l:List Nat} {ad:Option Addr} {cp:Nat} {w:World} (h:OwnI B l ad cp w) (hB:B'≤B):OwnI B' l ad cp w:=by
 obtain⟨h0,h1⟩:=h
 rcases h1 with h1|⟨g,cap,cur,hv,hg,h2⟩
 ·exact⟨h0,Or.inl h1⟩
 ·exact⟨h0,Or.inr ⟨g,cap,cur,hv,Nat.le_trans hB hg,h2⟩⟩
theorem QLE {l:List Nat} {i:Nat} (h:i∈l):∃ k,QBU (fun y=>decide (i=y)) l=(k:Nat)∧k < l.length∧l.take k++l.drop (k+1)=l.erase i:=by
 (have ha:l.any (fun y=>decide (i=y))=true:=List.any_eq_true.2 ⟨i,h,by simp⟩);(have hlt:l.findIdx (fun y=>decide (i=y)) < l.length:=List.findIdx_lt_length_of_exists ⟨i,h,by simp⟩);(refine⟨l.findIdx fun y=>decide (i=y),by unfold QBU;rw [if_pos ha],hlt,?_⟩)
 have hf:(fun y=>decide (i=y))=fun y=>y == i:=by
  funext y
  rw [Bool.eq_iff_iff];simp only [decide_eq_true_eq,beq_iff_eq];exact eq_comm
 rw [List.erase_eq_eraseIdx_of_idxOf rfl,List.eraseIdx_eq_take_drop_succ,List.idxOf,hf]
theorem IRow.part {P:Nat→Prop} {w:World} {be oe cE:Nat} {l:List Nat} (h:IRow P w (.slice (some ⟨be,oe,none⟩) l.length cE) l) (k:Nat) (hk:k < l.length):IRow P w (.slice (some ⟨be,oe,none⟩) k cE) (l.take k)∧∃ ad9,((cE=k+1∧ad9=some ⟨be,oe,none⟩)∨(¬ cE=k+1∧ad9=some ⟨be,oe+(k+1),none⟩))∧IRow P w (.slice ad9 (l.length - (k+1)) (cE - (k+1))) (l.drop (k+1)):=by
 obtain⟨ad',cap',e,h2,h3,h4⟩:=h;simp only [Value.slice.injEq,true_and] at e;obtain⟨rfl,rfl⟩:=e;(obtain⟨b,off,h5,h6,h7⟩:=h4 (fun e=>by rw [e] at hk;simp at hk));(obtain⟨rfl,rfl⟩:be=b∧oe=off:=by simpa using h5);(refine⟨⟨_,cE,by rw [List.length_take,Nat.min_eq_left (by omega)],by rw [List.length_take];omega,h3,fun _=>⟨be,oe,rfl,h6,fun j t hj=>h7 j t ?_⟩⟩,?_⟩)
 ·have:=(List.getElem?_eq_some_iff.1 hj).1
  rw [List.length_take] at this;(rw [List.getElem?_take_of_lt (by omega)] at hj);exact hj
 ·by_cases hce:cE=k+1
  ·refine⟨_,Or.inl ⟨hce,rfl⟩,_,cE - (k+1),by rw [List.length_drop],by rw [List.length_drop];omega,by omega,fun hne=>absurd (List.length_eq_zero_iff.1 ?_) hne⟩
   rw [List.length_drop];omega
  ·refine⟨_,Or.inr ⟨hce,rfl⟩,_,cE - (k+1),by rw [List.length_drop],by rw [List.length_drop];omega,by omega,fun _=>⟨be,oe+(k+1),rfl,h6,fun j t hj => ?_⟩⟩
   rw [List.getElem?_drop] at hj;rw [Nat.add_assoc];exact h7 _ t hj
set_option maxRecDepth 10000 in
set_option maxHeartbeats 8000000 in
theorem QIb {x:Fx} {w:World} {bz:Nat} {lean:Bool} {st nd:Nat} (h:WrSt x w bz lean st nd) (i nr:Nat) (its pr:List Nat) {Q:Nat→Prop} (v:Value) (hv:IRow Q w v its) (hi:i∈its) (hiL:i < x.L) (hpr:(QAP x.ps i).2[nr]? = some pr) (hl:its.length≤10000) (hlp:pr.length≤10) :
  Calls Tryz.prog 148 #[.pointer (some ⟨bz,0,none⟩),.int .i64 (i:Nat),.int .i64 (nr:Nat),v] w fun e w'=>∃ ad cp,e = .returned (.slice ad (its.erase i++pr).length cp)∧OwnI w.heap.size (its.erase i++pr) ad cp w'∧Below w.heap.size w w':=by
 obtain⟨k,hk1,hk2,hk3⟩:=QLE hi;(have hv0:IRow (fun _=>True) w v its:=hv.move fun _ _ _=>⟨rfl,trivial⟩)
 have HIx:Hid (∀ W,W=w→Calls Tryz.prog 193 #[v,.int .i64 (i:Nat)] W fun e w'=>e = .returned (.int .i64 (k:Nat))∧w'=W):=fun W hW=>by
  subst hW;rw [← hk1];exact QIF its v W hv i
 obtain⟨adE,cE,rfl,hc1,hc2,hc3⟩:=hv;obtain⟨be,oe,rfl,-,-⟩:=hc3 (List.ne_nil_of_mem hi);(have hps:x.ps≠[]:=fun e=>by have:=h.l2;rw [e] at this;simp at this;omega);obtain⟨adW,cW,eW,hw1,hw2,hw3⟩:=h.ways;obtain⟨bW,rfl,-,hw4⟩:=hw3 hps;(obtain⟨s0,u,-,hCw,-,hPr⟩:=hw4 i (by have:=h.l2;omega));obtain⟨adP,cP,rfl,hp1,hp2,hp3⟩:=hPr;have hnr:nr < (QAP x.ps i).2.length:=(List.getElem?_eq_some_iff.1 hpr).1;(obtain⟨bp,op,rfl,-,hp4⟩:=hp3 (fun e=>by rw [e] at hnr;simp at hnr));obtain⟨u2,hCp,hR⟩:=hp4 nr pr hpr;(have hR0:IRow (fun _=>True) w u2 pr:=hR.move fun _ _ _=>⟨rfl,trivial⟩);obtain⟨adp,cq,rfl,-,-,-⟩:=hR;obtain⟨np,hnp⟩:∃ np,np=pr.length:=⟨_,rfl⟩;obtain⟨nP,hnP⟩:∃ nP,nP=(QAP x.ps i).2.length:=⟨_,rfl⟩;obtain⟨nW,hnW⟩:∃ nW,nW=2 * x.ps.length:=⟨_,rfl⟩;obtain⟨n,hn⟩:∃ n,n=its.length:=⟨_,rfl⟩;obtain⟨hr1,ad9,hAd,hr2⟩:=hv0.part k hk2;have HAd:Hid ((cE=k+1∧ad9=some ⟨be,oe,none⟩)∨(¬ cE=k+1∧ad9=some ⟨be,oe+(k+1),none⟩)):=hAd;obtain⟨l1,hl1⟩:∃ l1,l1=its.take k:=⟨_,rfl⟩;obtain⟨l2,hl2⟩:∃ l2,l2=its.drop (k+1):=⟨_,rfl⟩;have hz:=h.blk;have hL:=h.l2;have hpn:=h.plen;rw [eW] at hz;rw [← hnp] at hCp hR0;rw [← hnP] at hCw hp1 hnr;rw [← hnW] at hz hw1;rw [← hn] at hk2 hc1 hr2 hl HIx ⊢;rw [← hl1] at hr1 hk3;rw [← hl2] at hr2 hk3;(have HEq:Hid (l1++(l2++pr)=its.erase i++pr):=by show _=_;rw [← hk3,List.append_assoc]);(have HLn:Hid ([l1,l2,pr].flatten.length≤100000∧n≤10000):=⟨by rw [hl1,hl2];simp;omega,hl⟩);(have HF:Hid (∀ W,Below w.heap.size w W→IRow (fun _=>True) W (.slice (some ⟨be,oe,none⟩) k cE) l1∧IRow (fun _=>True) W (.slice ad9 (n - (k+1)) (cE - (k+1))) l2∧IRow (fun _=>True) W (.slice adp np cq) pr):=fun W hb=>⟨hr1.move fun b hl _=>⟨hb.block b hl,trivial⟩,hr2.move fun b hl _=>⟨hb.block b hl,trivial⟩,hR0.move fun b hl _=>⟨hb.block b hl,trivial⟩⟩);have HZ:Hid (w.heap[bz]? = some (.cells #[.pointer (some ⟨x.bt,0,none⟩),(.slice (some ⟨bW,0,none⟩) nW cW),.bool lean,.int .i64 (st:Nat),.int .i64 (nd:Nat)] 162 (0,0))):=hz;have HCw:Hid (w.cell? ⟨bW,i * 2+1,none⟩=some (.slice (some ⟨bp,op,none⟩) nP cP)):=hCw;have HCp:Hid (w.cell? ⟨bp,op+nr,none⟩=some (.slice adp np cq)):=hCp;(have gi:(i:Int) < (nW:Int):=by omega);(have gi2:(i:Int) < (cW:Int):=by omega);(have gn:(nr:Int) < (nP:Int):=by omega);(have gn2:(nr:Int) < (cP:Int):=by omega);(have gk:(k:Int) < (n:Int):=by omega);(have gw:IntKind.i64.wrap ((k:Int)+1)=(k:Int)+1:=by rw [IntKind.wrap_i64];omega);(have gN:k≤cE:=by omega);(have gN3:(0:Int)≤(k:Int)+1:=by omega);(have gN4:(k:Int)+1≤(n:Int):=by omega);(have gN1:k+1≤cE:=by omega);(have gN2:k+1≤n:=by omega);(have gk2:(k:Int) < (cE:Int):=by omega);(have gk3:(n:Int)≤(cE:Int):=by omega);(have gn3:(n:Int)≤10000:=by omega);clear hAd hnp hnP hnW hn hl1 hl2 hk3 hk1 hr1 hr2 hR0 hCp hCw hz hp4 hp3 hw4 hw3 hc3 hv0 hw2 hp2 hc2 hL hpn h hl hlp hi hpr eW hps hp1 hw1 hc1 hnr hk2 hiL
 go_enter Tryz.func148,Tryz.ntmps148
 go_wp2_with fail;refine (HIx.out _ rfl).mono ?_;rintro e w2 ⟨rfl,hw2⟩;have hw3:=hw2.symm;clear hw2;subst hw3;go_wp2_with fail;(refine QAT (by kernel_rfl) [kEq (.slice (some ⟨be,oe,none⟩) n cE),kEq (.int .i64 (k:Nat)),kEq (.slice (some ⟨be,oe,none⟩) k cE),kEq (.slice (some ⟨be,oe,none⟩) n cE),kEq (.int .i64 (k:Nat)),kEq (.int .i64 ((k:Int)+1)),kEq (.slice ad9 (n - (k+1)) (cE - (k+1))),kEq (.pointer (some ⟨bz,0,none⟩)),kEq (.pointer (some ⟨bz,0,none⟩)),kEq (.pointer (some ⟨bz,1,none⟩)),kEq (.slice (some ⟨bW,0,none⟩) nW cW),kEq (.int .i64 (i:Nat)),kEq (.pointer (some ⟨bW,i * 2,none⟩)),kEq (.pointer (some ⟨bW,i * 2+1,none⟩)),kEq (.slice (some ⟨bp,op,none⟩) nP cP),kEq (.int .i64 (nr:Nat)),kEq (.pointer (some ⟨bp,op+nr,none⟩)),kEq (.slice adp np cq),kPR [l1,l2,pr],QMa w.heap.size (l1++(l2++pr)),QMa w.heap.size (l1++(l2++pr))] ?_ (by kernel_rfl) (by kernel_rfl) 33 rfl (by kernel_rfl) ?_ ?_)
 ·intro p hp
  simp only [List.mem_cons,List.not_mem_nil,or_false] at hp
  rcases hp with rfl|rfl|rfl|rfl|rfl|rfl|rfl|rfl|rfl|rfl|rfl|rfl|rfl|rfl|rfl|rfl|rfl|rfl|rfl|rfl|rfl
  all_goals first|exact QAe _|exact QLG _|exact QJO _ _
 ·refine⟨?_,?_,?_,?_,?_,?_,?_,?_,?_,?_,?_,?_,?_,?_,?_,?_,?_,?_,?_,?_,?_,trivial⟩
  ·intro a wx hB hold hdep K hK;have t3:a.tmps[3]? = some (.slice (some ⟨be,oe,none⟩) n cE):=hold.2.2 3 rfl;clear hold hdep;go_simp;exact hK.out _ _ rfl (Below.refl _ _)
  ·intro a wx hB hold hdep K hK;have t9:a.tmps[9]? = some (.int .i64 (k:Nat)):=hold.2.2 9 rfl;clear hold hdep;go_simp;exact hK.out _ _ rfl (Below.refl _ _)
  ·intro a wx hB hold hdep K hK;have t13:=QAF wx (hdep 0 rfl _ 13 rfl rfl);have t14:=QAF wx (hdep 1 rfl _ 14 rfl rfl);clear hold hdep;go_simp;exact hK.out _ _ rfl (Below.refl _ _)
  ·intro a wx hB hold hdep K hK;have t3:a.tmps[3]? = some (.slice (some ⟨be,oe,none⟩) n cE):=hold.2.2 3 rfl;clear hold hdep;go_simp;exact hK.out _ _ rfl (Below.refl _ _)
  ·intro a wx hB hold hdep K hK;have t9:a.tmps[9]? = some (.int .i64 (k:Nat)):=hold.2.2 9 rfl;clear hold hdep;go_simp;exact hK.out _ _ rfl (Below.refl _ _)
  ·intro a wx hB hold hdep K hK;have t17:=QAF wx (hdep 4 rfl _ 17 rfl rfl);clear hold hdep;go_simp;exact hK.out _ _ rfl (Below.refl _ _)
  ·intro a wx hB hold hdep K hK;have t16:=QAF wx (hdep 3 rfl _ 16 rfl rfl);have t18:=QAF wx (hdep 5 rfl _ 18 rfl rfl);clear hold hdep;rcases HAd.out with ⟨hce,rfl⟩|⟨hce,rfl⟩
   ·go_simp
    (exact hK.out _ _ (by show Value.slice _ _ _=Value.slice _ _ _;rw [hce,Nat.sub_self]) (Below.refl _ _))
   ·go_simp
    exact hK.out _ _ rfl (Below.refl _ _)
  ·intro a wx hB hold hdep K hK;have t0:a.tmps[0]? = some (.pointer (some ⟨bz,0,none⟩)):=hold.2.2 0 rfl;clear hold hdep;go_simp;exact hK.out _ _ rfl (Below.refl _ _)
  ·intro a wx hB hold hdep K hK;have t20:=QAF wx (hdep 7 rfl _ 20 rfl rfl);clear hold hdep;go_simp;exact hK.out _ _ rfl (Below.refl _ _)
  ·intro a wx hB hold hdep K hK;have t21:=QAF wx (hdep 8 rfl _ 21 rfl rfl);clear hold hdep;go_simp;exact hK.out _ _ rfl (Below.refl _ _)
  ·intro a wx hB hold hdep K hK;have t22:=QAF wx (hdep 9 rfl _ 22 rfl rfl);obtain⟨y0,y1,y2,y3,y4,-⟩:=QCg (QAA hB HZ.out);clear hold hdep;go_simp;exact hK.out _ _ rfl (Below.refl _ _)
  ·intro a wx hB hold hdep K hK;have t1:a.tmps[1]? = some (.int .i64 (i:Nat)):=hold.2.2 1 rfl;clear hold hdep;go_simp;exact hK.out _ _ rfl (Below.refl _ _)
  ·intro a wx hB hold hdep K hK;have t23:=QAF wx (hdep 10 rfl _ 23 rfl rfl);have t24:=QAF wx (hdep 11 rfl _ 24 rfl rfl);clear hold hdep;go_simp;exact hK.out _ _ rfl (Below.refl _ _)
  ·intro a wx hB hold hdep K hK;have t25:=QAF wx (hdep 12 rfl _ 25 rfl rfl);clear hold hdep;go_simp;exact hK.out _ _ rfl (Below.refl _ _)
  ·intro a wx hB hold hdep K hK;have t26:=QAF wx (hdep 13 rfl _ 26 rfl rfl);have y9:=(hB.cell (p:=⟨bW,i * 2+1,none⟩) (QAI HCw.out)).trans HCw.out;clear hold hdep;go_simp;exact hK.out _ _ rfl (Below.refl _ _)
  ·intro a wx hB hold hdep K hK;have t2:a.tmps[2]? = some (.int .i64 (nr:Nat)):=hold.2.2 2 rfl;clear hold hdep;go_simp;exact hK.out _ _ rfl (Below.refl _ _)
  ·intro a wx hB hold hdep K hK;have t27:=QAF wx (hdep 14 rfl _ 27 rfl rfl);have t28:=QAF wx (hdep 15 rfl _ 28 rfl rfl);clear hold hdep;go_simp;exact hK.out _ _ rfl (Below.refl _ _)
  ·intro a wx hB hold hdep K hK;have t29:=QAF wx (hdep 16 rfl _ 29 rfl rfl);have y9:=(hB.cell (p:=⟨bp,op+nr,none⟩) (QAI HCp.out)).trans HCp.out;clear hold hdep;go_simp;exact hK.out _ _ rfl (Below.refl _ _)
  ·intro a wx hB hold hdep K hK;have t15:=QAF wx (hdep 2 rfl _ 15 rfl rfl);have t19:=QAF wx (hdep 6 rfl _ 19 rfl rfl);have t30:=QAF wx (hdep 17 rfl _ 30 rfl rfl);have HBx:Hid (Below w.heap.size w wx):=hB;clear hold hdep hB;go_simp;refine hK.out _ _ ?_ (QAB (Below.refl _ wx) _);obtain⟨e1,e2,e3⟩:=HF.out _ (QAB HBx.out _);exact PRows.three trivial (QAH _ _) e1 e2 e3
  ·intro a wx hB hold hdep K hK;obtain⟨v31,t31,p31⟩:=hdep 18 rfl _ 31 rfl rfl;have P31:Hid (kPR [l1,l2,pr] v31 wx):=p31;have HBx:Hid (Below w.heap.size w wx):=hB;clear hold hdep hB p31;go_simp;refine (QKt [l1,l2,pr] HLn.out.1 (by simp) v31 wx P31.out).mono ?_;rintro e w2 ⟨ad2,cp2,rfl,ho,hb⟩;(have hfl:[l1,l2,pr].flatten=l1++(l2++pr):=by simp);rw [hfl] at ho ⊢;exact hK.out _ _ ⟨ad2,cp2,rfl,ho.low HBx.out.size⟩ hb
  ·intro a wx hB hold hdep K hK;obtain⟨v32,t32,p32⟩:=hdep 19 rfl _ 32 rfl rfl;have P32:Hid (QMa w.heap.size (l1++(l2++pr)) v32 wx):=p32;clear p32 hold hdep;go_simp;exact hK.out _ _ P32.out (Below.refl _ _)
 ·intro a wx hB hold hgot
  (obtain⟨v8,t8,p8⟩:=hgot 20 _ 8 rfl rfl;have P8:Hid (QMa w.heap.size (l1++(l2++pr)) v8 wx):=p8;have HBx:Hid (Below w.heap.size w wx):=hB;obtain⟨tm,df⟩:=a;obtain⟨x0,x1,x2,x3,x4,x5,x6,x7,x8,x9,x10,x11,x12,x13,x14,x15,x16,x17,x18,x19,x20,x21,x22,x23,x24,x25,x26,x27,x28,x29,x30,x31,x32,htm⟩:=QNT tm hold.1;subst htm;obtain rfl:df=[]:=hold.2.1;obtain rfl:x8=_:=Option.some.inj t8;clear hold hgot t8 p8;go_wp2_with fail;go_ret;obtain⟨ad2,cp2,rfl,ho⟩:=P8.out;(exact⟨ad2,cp2,by rw [← HEq.out];rfl,by rw [← HEq.out];exact ho,HBx.out⟩))
theorem KP.moveE {P:Nat→Prop} {B:Nat} {w w':World} {ad:Option Addr} {cap:Nat} {fs:List Fm} (h:KP P B w ad cap fs) (ho:∀ b,(Value.slice ad fs.length cap).ownBlock=some b→P b) (hb:∀ b,b < w.heap.size→P b→w'.heap[b]? = w.heap[b]?):KP P B w' ad cap fs:=by
 obtain⟨cs,h1,h2⟩:=h;(exact⟨cs,QBF h1 fun b hb1=>hb b (h1.lt b hb1).2 (ho b hb1),h2.move fun b hl hp=>⟨hb b hl hp.1,hp⟩⟩)
def Two (B:Nat) (w:World) (aL:Option Addr) (cL:Nat) (lL:List Fm) (aR:Option Addr) (cR:Nat) (lR:List Fm):Prop :=
 ∃ D E:Nat→Prop,(∀ b,D b→¬ E b)∧(∀ b,D b∨E b→B≤b∧b < w.heap.size)∧KP D B w aL cL lL∧(∀ b,(Value.slice aL lL.length cL).ownBlock=some b→D b)∧KP E B w aR cR lR∧∀ b,(Value.slice aR lR.length cR).ownBlock=some b→E b
theorem Two.nil {B:Nat} {w:World}:Two B w none 0 [] none 0 [] :=
 ⟨fun _=>False,fun _=>False,fun _ h=>h.elim,fun _ h=>(h.elim id id).elim,KP.nil,fun b h=>by simp [Value.ownBlock] at h,KP.nil,fun b h=>by simp [Value.ownBlock] at h⟩
theorem Two.swap {B:Nat} {w:World} {aL:Option Addr} {cL:Nat} {lL:List Fm} {aR:Option Addr} {cR:Nat} {lR:List Fm} (h:Two B w aL cL lL aR cR lR):Two B w aR cR lR aL cL lL:=by
 obtain⟨D,E,h1,h2,h3,h4,h5,h6⟩:=h;(exact⟨E,D,fun b he hd=>h1 b hd he,fun b h=>h2 b h.symm,h5,h6,h3,h4⟩)
theorem Two.same {B:Nat} {w w':World} {aL:Option Addr} {cL:Nat} {lL:List Fm} {aR:Option Addr} {cR:Nat} {lR:List Fm} (h:Two B w aL cL lL aR cR lR) (hb:∀ b,B≤b→b < w.heap.size→w'.heap[b]? = w.heap[b]?) (hs:w.heap.size≤w'.heap.size):Two B w' aL cL lL aR cR lR:=by
 obtain⟨D,E,h1,h2,h3,h4,h5,h6⟩:=h;(exact⟨D,E,h1,fun b h=>⟨(h2 b h).1,Nat.lt_of_lt_of_le (h2 b h).2 hs⟩,h3.moveE h4 fun b hl hp=>hb b (h2 b (Or.inl hp)).1 hl,h4,h5.moveE h6 fun b hl hp=>hb b (h2 b (Or.inr hp)).1 hl,h6⟩)
theorem Two.app {B:Nat} {wr w1:World} {aL:Option Addr} {cL:Nat} {lL:List Fm} {aR:Option Addr} {cR:Nat} {lR:List Fm} {kid:Fm} {c0 c1 c2:Value} (o:Obj) (h:Two B wr aL cL lL aR cR lR) (hB:B≤wr.heap.size) (hb:Below wr.heap.size wr w1) (hrep:Rep w1 (wr.heap.size≤·) kid (.agg #[c0,c1,c2])) :
  ∃ cs,(w1.alloc o).ownsRow B 29 3 (.slice aL lL.length cL) lL.length cs∧∀ (g3 cp3:Nat) (w3:World),w3.ownsRow B 29 3 (.slice (some ⟨g3,0,none⟩) (lL.length+1) cp3) (lL.length+1) (cs++[c0,c1,c2])→(w1.alloc o).grownBy w3 (Value.slice aL lL.length cL).ownBlock→((Value.slice aL lL.length cL).ownBlock=some g3∨g3=(w1.alloc o).heap.size)→g3 < w3.heap.size →
   Below B w1 w3∧Two B w3 (some ⟨g3,0,none⟩) cp3 (lL++[kid]) aR cR lR:=by
 obtain⟨D,E,h1,h2,h3,h4,h5,h6⟩:=h;have hz:=hb.size;(have same1:∀ b,b < wr.heap.size→(w1.alloc o).heap[b]? = wr.heap[b]? := fun b hl=>(Below.heap_alloc _ _ _ (by omega)).trans (hb.block b hl));(obtain⟨cs,hown,hlq⟩:=h3.moveE h4 (w':=w1.alloc o) fun b hl _=>same1 b hl);(refine⟨cs,hown,fun g3 cp3 w3 hown3 hgrow hat hlt3 => ?_⟩);have hs3:=hgrow.size;(have hsa:(w1.alloc o).heap.size=w1.heap.size+1:=by simp)
 obtain⟨hbb,hkp⟩:=KP.app (P:=fun b=>D b∨(wr.heap.size≤b∧b < w3.heap.size)) rfl (by omega) hown (hlq.move fun b _ hp=>⟨rfl,Or.inl hp.1,hp.2⟩) (hrep.move fun b hb1 hb2=>⟨rfl,Or.inr ⟨hb2,by omega⟩,fun e=>by
  have:=(h2 b (Or.inl (h4 b e))).2
  omega⟩) hown3 hgrow hat
 (refine⟨hbb,_,E,fun b hd he => ?_,fun b hde => ?_,hkp,fun b e => ?_,?_,h6⟩)
 ·rcases hd with hd|hd
  ·exact h1 b hd he
  ·have:=(h2 b (Or.inr he)).2
   omega
 ·rcases hde with (hd|hd)|he
  ·have:=h2 b (Or.inl hd)
   omega
  ·omega
  ·have:=h2 b (Or.inr he)
   omega
 ·have e:g3=b:=by simpa [Value.ownBlock] using e
  subst e
  rcases hat with h|h
  ·exact Or.inl (h4 _ h)
  ·exact Or.inr ⟨by omega,hlt3⟩
 ·refine h5.moveE h6 fun b hl hp => ?_
  (rw [hgrow.block b (by omega) (fun e=>h1 b (h4 b e.symm) hp),same1 b hl])
theorem Two.lists {B:Nat} {w:World} {aL:Option Addr} {cL:Nat} {lL:List Fm} {aR:Option Addr} {cR:Nat} {lR:List Fm} (h:Two B w aL cL lL aR cR lR):FLp (B≤·) w (.slice aL lL.length cL) lL∧FLp (B≤·) w (.slice aR lR.length cR) lR:=by
 obtain⟨D,E,h1,h2,h3,h4,h5,h6⟩:=h;(exact⟨QHR (h3.move (fun _ _=>rfl) fun b _ hp=>(h2 b (Or.inl hp)).1) fun _ h=>h,QHR (h5.move (fun _ _=>rfl) fun b _ hp=>(h2 b (Or.inr hp)).1) fun _ h=>h⟩)
def QAW (fs:List Fm) (is:List Nat):List Fm:=(is.filter fun i=>!itR i).map (itF fs)
def QAX (fs:List Fm) (is:List Nat):List Fm:=(is.filter itR).map (itF fs)
theorem QLc {fs:List Fm} {is:List Nat} {k t:Nat} (h:is[k]? = some t):(itR t=true→QAW fs (is.take (k+1))=QAW fs (is.take k)∧QAX fs (is.take (k+1))=QAX fs (is.take k)++[itF fs t])∧(itR t=false→QAW fs (is.take (k+1))=QAW fs (is.take k)++[itF fs t]∧QAX fs (is.take (k+1))=QAX fs (is.take k)):=by
 unfold QAW QAX;rw [List.take_add_one,h];simp only [Option.toList,List.filter_append,List.map_append,List.filter_cons,List.filter_nil];(exact⟨fun e=>by simp [e],fun e=>by simp [e]⟩)
theorem QAw (fs:List Fm) (a b:List Nat):QAW fs (a++b)=QAW fs a++QAW fs b:=by simp [QAW]
theorem QAx (fs:List Fm) (a b:List Nat):QAX fs (a++b)=QAX fs a++QAX fs b:=by simp [QAX]
theorem QEM {fs:List Fm} {a b:List Nat} (h:a.Perm b):(QAW fs a).Perm (QAW fs b):=(h.filter _).map _
theorem QEN {fs:List Fm} {a b:List Nat} (h:a.Perm b):(QAX fs a).Perm (QAX fs b):=(h.filter _).map _
theorem QGq {fs:List Fm} {is:List Nat} {i:Nat} (hi:i∈is) (hr:itR i=false):itF fs i∈QAW fs is∧(QAW fs (is.erase i)).Perm ((QAW fs is).erase (itF fs i))∧(QAX fs (is.erase i)).Perm (QAX fs is):=by
 have hp:=List.perm_cons_erase hi;have h1:=QEM (fs:=fs) hp;have h2:=QEN (fs:=fs) hp;(have e1:QAW fs (i :: is.erase i)=itF fs i :: QAW fs (is.erase i):=by simp [QAW,hr]);(have e2:QAX fs (i :: is.erase i)=QAX fs (is.erase i):=by simp [QAX,hr]);rw [e1] at h1;rw [e2] at h2;refine⟨h1.mem_iff.2 (List.mem_cons_self ..),?_,h2.symm⟩;have:=h1.erase (itF fs i);rw [List.erase_cons_head] at this;exact this.symm
theorem QFx {fs:List Fm} {is:List Nat} {i:Nat} (hi:i∈is) (hr:itR i=true):itF fs i∈QAX fs is∧(QAX fs (is.erase i)).Perm ((QAX fs is).erase (itF fs i))∧(QAW fs (is.erase i)).Perm (QAW fs is):=by
 have hp:=List.perm_cons_erase hi;have h1:=QEN (fs:=fs) hp;have h2:=QEM (fs:=fs) hp;(have e1:QAX fs (i :: is.erase i)=itF fs i :: QAX fs (is.erase i):=by simp [QAX,hr]);(have e2:QAW fs (i :: is.erase i)=QAW fs (is.erase i):=by simp [QAW,hr]);rw [e1] at h1;rw [e2] at h2;refine⟨h1.mem_iff.2 (List.mem_cons_self ..),?_,h2.symm⟩;have:=h1.erase (itF fs i);rw [List.erase_cons_head] at this;exact this.symm
theorem QBr (fs:List Fm) (n:Nat):QAW fs [2 * n]=[fs.getD n QAR]∧QAX fs [2 * n]=[]∧QAW fs [2 * n+1]=[]∧QAX fs [2 * n+1]=[fs.getD n QAR]:=by
 have h1:=QAp n;have h2:=QCH fs n;simp [QAW,QAX,h1.1,h1.2,h2.1,h2.2]
theorem QEt (fs:List Fm) (i j:Nat):QAW fs [i,j]=QAW fs [i]++QAW fs [j]∧QAX fs [i,j]=QAX fs [i]++QAX fs [j]:=⟨QAw fs [i] [j],QAx fs [i] [j]⟩
theorem QNE {ps:List PartM} {fs:List Fm} (h:TabOk ps fs) {i:Nat} {p:PartM} (hp:ps[i / 2]? = some p) (hpl:Pl (fs.getD (i / 2) QAR)) (is:List Nat) (hi:i∈is) (hne:(QAP ps i).2≠[]) :
  ∃ q ss,QBS false (QAP ps i).1=some q∧(QAP ps i).1≠QBw∧(QAP ps i).1≠Ru.cut.text∧QCw false q (itF fs i) (QAW fs is) (QAX fs is)=some ss∧ss.length=(QAP ps i).2.length∧∀ (j:Nat) (pr:List Nat) (s:List Fm × List Fm),(QAP ps i).2[j]? = some pr→ss[j]? = some s→(QAW fs (is.erase i++pr)).Perm s.1∧(QAX fs (is.erase i++pr)).Perm s.2:=by
 have hw:QAP ps i=if itR i then QBg p.kind p.k0 p.k1 else QBf p.kind p.k0 p.k1:=by
  unfold QAP;rw [hp]
 have hf:itF fs i=fs.getD (i / 2) QAR:=rfl;have hforms:=QBe h hp hpl;rw [← hf] at hforms;rw [hw] at hne ⊢;clear hw hf hpl h hp
 cases hr:itR i
 ·obtain⟨hm,hA,hB⟩:=QGq (fs:=fs) hi hr
  simp only [hr,Bool.false_eq_true,if_false] at hne ⊢
  rcases hforms with ⟨hk,-⟩|⟨hk,-⟩|⟨hk,-⟩|⟨hk,a,hks,-,hf,-⟩|⟨hk,a,b,hks,-,-,hf,-⟩
  ·rw [hk] at hne
   exact absurd rfl hne
  ·rw [hk] at hne
   exact absurd rfl hne
  ·rw [hk] at hne
   exact absurd rfl hne
  ·have e0:p.k0=a:=by unfold PartM.k0;rw [hks];rfl
   rw [hk,e0];clear hne e0 hks hk;have ew:QBf 4 a p.k1=(Ru.text .notL,[[2 * a+1]]):=rfl;rw [ew];(have hkd:(itF fs i).kind=4:=by rw [hf];rfl);(have hka:(itF fs i).kidA=fs.getD a QAR:=by rw [hf];rfl);(refine⟨.notL,[((QAW fs is).erase (itF fs i),QAX fs is++[(fs.getD a QAR)])],(show QBS false (Ru.text .notL)=some .notL by decide),(show Ru.text .notL≠QBw by decide),(show Ru.text .notL≠Ru.cut.text by decide),?_,rfl,?_⟩)
   ·unfold QCw
    simp only [hkd,hm,hka,and_self,if_true,Bool.false_eq_true,if_false]
   ·intro j pr s h1 h2
    match j,h1,h2 with
    | 0,h1,h2 =>
     simp only [List.getElem?_cons_zero,Option.some.injEq] at h1 h2;subst h1 h2;simp only [QAw,QAx,QBr,List.append_nil]
     first|exact⟨hA.append_right _,hB⟩|exact⟨hA,hB.append_right _⟩|exact⟨hA.append_right _,hB.append_right _⟩|exact⟨hA,hB⟩
    | j+1,h1,h2=>simp at h1
  ·have e0:p.k0=a:=by unfold PartM.k0;rw [hks];rfl
   (have e1:p.k1=b:=by unfold PartM.k1;rw [hks];rfl);rw [e0,e1];clear hne e0 e1 hks
   rcases hk with hk|hk|hk
   ·rw [hk] at hf ⊢
    clear hk;have ew:QBf 5 a b=(Ru.text .andL,[[2 * a,2 * b]]):=rfl;rw [ew];(have hkd:(itF fs i).kind=5:=by rw [hf];rfl);(have hka:(itF fs i).kidA=fs.getD a QAR:=by rw [hf];rfl);(have hkb:(itF fs i).kidB=fs.getD b QAR:=by rw [hf];rfl);(refine⟨.andL,[((QAW fs is).erase (itF fs i)++[(fs.getD a QAR),(fs.getD b QAR)],QAX fs is)],(show QBS false (Ru.text .andL)=some .andL by decide),(show Ru.text .andL≠QBw by decide),(show Ru.text .andL≠Ru.cut.text by decide),?_,rfl,?_⟩)
    ·unfold QCw
     simp only [hkd,hm,hka,hkb,and_self,if_true]
    ·intro j pr s h1 h2
     match j,h1,h2 with
     | 0,h1,h2 =>
      simp only [List.getElem?_cons_zero,Option.some.injEq] at h1 h2;subst h1 h2;simp only [QAw,QAx,QEt,QBr,List.append_nil,List.cons_append,List.nil_append]
      first|exact⟨hA.append_right _,hB⟩|exact⟨hA,hB.append_right _⟩|exact⟨hA.append_right _,hB.append_right _⟩|exact⟨hA,hB⟩
     | j+1,h1,h2=>simp at h1
   ·rw [hk] at hf ⊢
    clear hk;have ew:QBf 6 a b=(Ru.text .orL,[[2 * a],[2 * b]]):=rfl;rw [ew];(have hkd:(itF fs i).kind=6:=by rw [hf];rfl);(have hka:(itF fs i).kidA=fs.getD a QAR:=by rw [hf];rfl);(have hkb:(itF fs i).kidB=fs.getD b QAR:=by rw [hf];rfl);(refine⟨.orL,[((QAW fs is).erase (itF fs i)++[(fs.getD a QAR)],QAX fs is),((QAW fs is).erase (itF fs i)++[(fs.getD b QAR)],QAX fs is)],(show QBS false (Ru.text .orL)=some .orL by decide),(show Ru.text .orL≠QBw by decide),(show Ru.text .orL≠Ru.cut.text by decide),?_,rfl,?_⟩)
    ·unfold QCw
     simp only [hkd,hm,hka,hkb,and_self,if_true]
    ·intro j pr s h1 h2
     match j,h1,h2 with
     | 0,h1,h2 =>
      simp only [List.getElem?_cons_zero,Option.some.injEq] at h1 h2;subst h1 h2;simp only [QAw,QAx,QBr,List.append_nil]
      first|exact⟨hA.append_right _,hB⟩|exact⟨hA,hB.append_right _⟩|exact⟨hA.append_right _,hB.append_right _⟩|exact⟨hA,hB⟩
     | 1,h1,h2 =>
      simp only [List.getElem?_cons_zero,List.getElem?_cons_succ,Option.some.injEq] at h1 h2;subst h1 h2;simp only [QAw,QAx,QBr,List.append_nil]
      first|exact⟨hA.append_right _,hB⟩|exact⟨hA,hB.append_right _⟩|exact⟨hA.append_right _,hB.append_right _⟩|exact⟨hA,hB⟩
     | j+2,h1,h2=>simp at h1
   ·rw [hk] at hf ⊢
    clear hk;have ew:QBf 7 a b=(Ru.text .thenL,[[2 * a+1],[2 * b]]):=rfl;rw [ew];(have hkd:(itF fs i).kind=7:=by rw [hf];rfl);(have hka:(itF fs i).kidA=fs.getD a QAR:=by rw [hf];rfl);(have hkb:(itF fs i).kidB=fs.getD b QAR:=by rw [hf];rfl);(refine⟨.thenL,[((QAW fs is).erase (itF fs i),QAX fs is++[(fs.getD a QAR)]),((QAW fs is).erase (itF fs i)++[(fs.getD b QAR)],QAX fs is)],(show QBS false (Ru.text .thenL)=some .thenL by decide),(show Ru.text .thenL≠QBw by decide),(show Ru.text .thenL≠Ru.cut.text by decide),?_,rfl,?_⟩)
    ·unfold QCw
     simp only [hkd,hm,hka,hkb,and_self,if_true,Bool.false_eq_true,if_false]
    ·intro j pr s h1 h2
     match j,h1,h2 with
     | 0,h1,h2 =>
      simp only [List.getElem?_cons_zero,Option.some.injEq] at h1 h2;subst h1 h2;simp only [QAw,QAx,QBr,List.append_nil]
      first|exact⟨hA.append_right _,hB⟩|exact⟨hA,hB.append_right _⟩|exact⟨hA.append_right _,hB.append_right _⟩|exact⟨hA,hB⟩
     | 1,h1,h2 =>
      simp only [List.getElem?_cons_zero,List.getElem?_cons_succ,Option.some.injEq] at h1 h2;subst h1 h2;simp only [QAw,QAx,QBr,List.append_nil]
      first|exact⟨hA.append_right _,hB⟩|exact⟨hA,hB.append_right _⟩|exact⟨hA.append_right _,hB.append_right _⟩|exact⟨hA,hB⟩
     | j+2,h1,h2=>simp at h1
 ·obtain⟨hm,hB,hA⟩:=QFx (fs:=fs) hi hr
  simp only [hr,if_true] at hne ⊢
  rcases hforms with ⟨hk,-⟩|⟨hk,-⟩|⟨hk,-⟩|⟨hk,a,hks,-,hf,-⟩|⟨hk,a,b,hks,-,-,hf,-⟩
  ·rw [hk] at hne
   exact absurd rfl hne
  ·rw [hk] at hne
   exact absurd rfl hne
  ·rw [hk] at hne
   exact absurd rfl hne
  ·have e0:p.k0=a:=by unfold PartM.k0;rw [hks];rfl
   rw [hk,e0];clear hne e0 hks hk;have ew:QBg 4 a p.k1=(Ru.text .notR,[[2 * a]]):=rfl;rw [ew];(have hkd:(itF fs i).kind=4:=by rw [hf];rfl);(have hka:(itF fs i).kidA=fs.getD a QAR:=by rw [hf];rfl);(refine⟨.notR,[(QAW fs is++[(fs.getD a QAR)],(QAX fs is).erase (itF fs i))],(show QBS false (Ru.text .notR)=some .notR by decide),(show Ru.text .notR≠QBw by decide),(show Ru.text .notR≠Ru.cut.text by decide),?_,rfl,?_⟩)
   ·unfold QCw
    simp only [hkd,hm,hka,and_self,if_true]
   ·intro j pr s h1 h2
    match j,h1,h2 with
    | 0,h1,h2 =>
     simp only [List.getElem?_cons_zero,Option.some.injEq] at h1 h2;subst h1 h2;simp only [QAw,QAx,QBr,List.append_nil]
     first|exact⟨hA.append_right _,hB⟩|exact⟨hA,hB.append_right _⟩|exact⟨hA.append_right _,hB.append_right _⟩|exact⟨hA,hB⟩
    | j+1,h1,h2=>simp at h1
  ·have e0:p.k0=a:=by unfold PartM.k0;rw [hks];rfl
   (have e1:p.k1=b:=by unfold PartM.k1;rw [hks];rfl);rw [e0,e1];clear hne e0 e1 hks
   rcases hk with hk|hk|hk
   ·rw [hk] at hf ⊢
    clear hk;have ew:QBg 5 a b=(Ru.text .andR,[[2 * a+1],[2 * b+1]]):=rfl;rw [ew];(have hkd:(itF fs i).kind=5:=by rw [hf];rfl);(have hka:(itF fs i).kidA=fs.getD a QAR:=by rw [hf];rfl);(have hkb:(itF fs i).kidB=fs.getD b QAR:=by rw [hf];rfl);(refine⟨.andR,[(QAW fs is,(QAX fs is).erase (itF fs i)++[(fs.getD a QAR)]),(QAW fs is,(QAX fs is).erase (itF fs i)++[(fs.getD b QAR)])],(show QBS false (Ru.text .andR)=some .andR by decide),(show Ru.text .andR≠QBw by decide),(show Ru.text .andR≠Ru.cut.text by decide),?_,rfl,?_⟩)
    ·unfold QCw
     simp only [hkd,hm,hka,hkb,and_self,if_true]
    ·intro j pr s h1 h2
     match j,h1,h2 with
     | 0,h1,h2 =>
      simp only [List.getElem?_cons_zero,Option.some.injEq] at h1 h2;subst h1 h2;simp only [QAw,QAx,QBr,List.append_nil]
      first|exact⟨hA.append_right _,hB⟩|exact⟨hA,hB.append_right _⟩|exact⟨hA.append_right _,hB.append_right _⟩|exact⟨hA,hB⟩
     | 1,h1,h2 =>
      simp only [List.getElem?_cons_zero,List.getElem?_cons_succ,Option.some.injEq] at h1 h2;subst h1 h2;simp only [QAw,QAx,QBr,List.append_nil]
      first|exact⟨hA.append_right _,hB⟩|exact⟨hA,hB.append_right _⟩|exact⟨hA.append_right _,hB.append_right _⟩|exact⟨hA,hB⟩
     | j+2,h1,h2=>simp at h1
   ·rw [hk] at hf ⊢
    clear hk;have ew:QBg 6 a b=(Ru.text .orR,[[2 * a+1,2 * b+1]]):=rfl;rw [ew];(have hkd:(itF fs i).kind=6:=by rw [hf];rfl);(have hka:(itF fs i).kidA=fs.getD a QAR:=by rw [hf];rfl);(have hkb:(itF fs i).kidB=fs.getD b QAR:=by rw [hf];rfl);(refine⟨.orR,[(QAW fs is,(QAX fs is).erase (itF fs i)++[(fs.getD a QAR),(fs.getD b QAR)])],(show QBS false (Ru.text .orR)=some .orR by decide),(show Ru.text .orR≠QBw by decide),(show Ru.text .orR≠Ru.cut.text by decide),?_,rfl,?_⟩)
    ·unfold QCw
     simp only [hkd,hm,hka,hkb,and_self,if_true]
    ·intro j pr s h1 h2
     match j,h1,h2 with
     | 0,h1,h2 =>
      simp only [List.getElem?_cons_zero,Option.some.injEq] at h1 h2;subst h1 h2;simp only [QAw,QAx,QEt,QBr,List.append_nil,List.cons_append,List.nil_append]
      first|exact⟨hA.append_right _,hB⟩|exact⟨hA,hB.append_right _⟩|exact⟨hA.append_right _,hB.append_right _⟩|exact⟨hA,hB⟩
     | j+1,h1,h2=>simp at h1
   ·rw [hk] at hf ⊢
    clear hk;have ew:QBg 7 a b=(Ru.text .thenR,[[2 * a,2 * b+1]]):=rfl;rw [ew];(have hkd:(itF fs i).kind=7:=by rw [hf];rfl);(have hka:(itF fs i).kidA=fs.getD a QAR:=by rw [hf];rfl);(have hkb:(itF fs i).kidB=fs.getD b QAR:=by rw [hf];rfl);(refine⟨.thenR,[(QAW fs is++[(fs.getD a QAR)],(QAX fs is).erase (itF fs i)++[(fs.getD b QAR)])],(show QBS false (Ru.text .thenR)=some .thenR by decide),(show Ru.text .thenR≠QBw by decide),(show Ru.text .thenR≠Ru.cut.text by decide),?_,rfl,?_⟩)
    ·unfold QCw
     simp only [hkd,hm,hka,hkb,and_self,if_true]
    ·intro j pr s h1 h2
     match j,h1,h2 with
     | 0,h1,h2 =>
      simp only [List.getElem?_cons_zero,Option.some.injEq] at h1 h2;subst h1 h2;simp only [QAw,QAx,QEt,QBr,List.append_nil,List.nil_append]
      first|exact⟨hA.append_right _,hB⟩|exact⟨hA,hB.append_right _⟩|exact⟨hA.append_right _,hB.append_right _⟩|exact⟨hA,hB⟩
     | j+1,h1,h2=>simp at h1
end Go.Proofs.YtbmedfokpgghiacGreat
