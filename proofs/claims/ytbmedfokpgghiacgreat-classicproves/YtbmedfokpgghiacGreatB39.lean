import Derived.Test.YtbmedfokpgghiacGreatB37
namespace Go.Proofs.YtbmedfokpgghiacGreat
open Go.RowKit Go.Sort Go.Shelf
theorem QLf {P:Nat→Prop} {ops:Array Oper} {o:Oper} {a:Act} {w:World} {K:Act→World→Prop} {Q:Exit→Act→World→Prop} {E:Prop} (hgd:o.guard=none) (s x:Operand) (hop:o.op=Op.call { callee:=Callee.builtin Builtin.append,args:=#[s,x],argTypes:=#[78,78] })
  (B:Nat) (is js:List Nat) (ad:Option Addr) (cp:Nat) (vx:Value) (hs:a.eval s = .slice ad is.length cp) (hown:w.ownsRow B 82 1 (.slice ad is.length cp) is.length (is.map fun i=>(.int .i64 (i:Nat):Value))) (hx:a.eval x=vx) (hg:IRow P w vx js) (hB:B≤w.heap.size) (hl:is.length+js.length≤10000000)
  (h:∀ ad3 cp3 w3,w3.ownsRow B 82 1 (.slice ad3 (is++js).length cp3) (is++js).length ((is++js).map fun i=>(.int .i64 (i:Nat):Value))→Kept (fun b=>(Value.slice ad is.length cp).ownBlock≠some b) w w3→(∀ b,(Value.slice ad3 (is++js).length cp3).ownBlock=some b→(Value.slice ad is.length cp).ownBlock=some b∨(w.heap.size≤b∧b < w3.heap.size))→K (a.put o.dst (.slice ad3 (is++js).length cp3)) w3):if Region.wanted o (yielded ops a.tmps)=true then Oper.wp Tryz.prog o a w K Q else E:=by
 (have hw:Region.wanted o (yielded ops a.tmps)=true:=by simp [Region.wanted,hgd]);rw [if_pos hw];exact QKd s x hop B is js ad cp vx hs hown hx hg hB hl h
structure OvR (x:Fx) (w:World) (M:Nat→Prop) (wh:List Nat) (i:Nat) (a:ByteArray) (R S:Nat) (wr:World) (k:Nat) (M':Nat→Prop) (needs:List Nat) (kids:List Plan) (adN:Option Addr) (cN:Nat) (adK:Option Addr) (cK:Nat):Prop where
 mg:∀ b,M' b→M b∨w.heap.size≤b
 mm:∀ b,M b→M' b
 kept:Kept (fun b=>¬ M b) w wr
 res:wr.heap[R]? = some (.cells #[.string ⟨#[]⟩,.int .i64 0,.slice none 0 0,.slice none 0 0] 85 (0,0))
 step:wr.heap[S]? = some (.cells #[.string a,.int .i64 (i:Nat),.slice adN needs.length cN,.slice adK kids.length cK] 85 (0,0))
 rows:wr.ownsRow w.heap.size 82 1 (.slice adN needs.length cN) needs.length (needs.map fun i=>(.int .i64 (i:Nat):Value))
 kid:∃ cs,wr.ownsRow w.heap.size 85 4 (.slice adK kids.length cK) kids.length cs∧PlQ (fun b=>w.heap.size≤b∧¬ M' b∧b≠R∧b≠S∧(Value.slice adN needs.length cN).ownBlock≠some b∧(Value.slice adK kids.length cK).ownBlock≠some b) wr cs kids
 fr:¬ M' R
 fs:¬ M' S
 rs:R≠S
 fn:∀ b,(Value.slice adN needs.length cN).ownBlock=some b→¬ M' b∧b≠R∧b≠S∧(Value.slice adK kids.length cK).ownBlock≠some b
 fk:∀ b,(Value.slice adK kids.length cK).ownBlock=some b→¬ M' b∧b≠R∧b≠S
 lr:w.heap.size≤R
 ls:w.heap.size≤S
 len:kids.length=k
 ok:∀ (j:Nat) (q:Plan),kids[j]? = some q→QAo x.ps q∧QCk q∧i ∉ q.needs∧∀ pr,(QAP x.ps i).2[j]? = some pr→∀ y∈q.needs,y∈pr∨y∈needs
 here:∀ y∈needs,wh.getD y 0=1
 inn:i∈needs
 nlen:needs.length≤1+k * x.L
theorem OvR.move {x:Fx} {w:World} {M:Nat→Prop} {wh:List Nat} {i:Nat} {a:ByteArray} {R S:Nat} {wr w1:World} {k:Nat} {M' M1:Nat→Prop} {needs:List Nat} {kids:List Plan} {adN:Option Addr} {cN:Nat} {adK:Option Addr} {cK:Nat} (h:OvR x w M wh i a R S wr k M' needs kids adN cN adK cK) (hk:Kept (fun b=>¬ M' b) wr w1) (hg:∀ b,M1 b→M' b∨wr.heap.size≤b) (hm:∀ b,M' b→M1 b):OvR x w M wh i a R S w1 k M1 needs kids adN cN adK cK:=by
 obtain⟨cs,hkr,hkq⟩:=h.kid;have hs:=h.kept.size
 have no:∀ b,b < wr.heap.size→¬ M' b→¬ M1 b:=fun b hb hn h1=>by
  rcases hg b h1 with h2|h2
  ·exact hn h2
  ·omega
 (refine⟨fun b hb => ?_,fun b hb=>hm b (h.mm b hb),QAM h.kept hk fun b hb hn h1 => ?_,(hk.block R (QAE h.res) h.fr).trans h.res,(hk.block S (QAE h.step) h.fs).trans h.step,QBF h.rows fun b e=>hk.block b (h.rows.lt b e).2 (h.fn b e).1,⟨cs,QBF hkr fun b e=>hk.block b (hkr.lt b e).2 (h.fk b e).1,hkq.move fun b hb hp=>⟨hk.block b hb hp.2.1,hp.1,no b hb hp.2.1,hp.2.2⟩⟩,no R (QAE h.res) h.fr,no S (QAE h.step) h.fs,h.rs,fun b e=>⟨no b (h.rows.lt b e).2 (h.fn b e).1,(h.fn b e).2⟩,fun b e=>⟨no b (hkr.lt b e).2 (h.fk b e).1,(h.fk b e).2⟩,h.lr,h.ls,h.len,h.ok,h.here,h.inn,h.nlen⟩)
 ·rcases hg b hb with h2|h2
  ·exact h.mg b h2
  ·exact Or.inr (by omega)
 ·rcases h.mg b h1 with h2|h2
  ·exact hn h2
  ·omega
theorem OvR.up {x:Fx} {w:World} {M:Nat→Prop} {wh:List Nat} {i:Nat} {a:ByteArray} {R S:Nat} {wr w1:World} {k:Nat} {M':Nat→Prop} {needs:List Nat} {kids:List Plan} {adN:Option Addr} {cN:Nat} {adK:Option Addr} {cK:Nat} (h:OvR x w M wh i a R S wr k M' needs kids adN cN adK cK) (hb:Below wr.heap.size wr w1):OvR x w M wh i a R S w1 k M' needs kids adN cN adK cK:=h.move (QAN hb fun _ h _=>h) (fun _ h=>Or.inl h) fun _ h=>h
theorem QNd {w:World} {g x:Nat} (h:w.heap[g]? = some (.cells #[.int .i64 (x:Nat)] 82 (0,0))) {B:Nat} (hB:B≤g):w.ownsRow B 82 1 (.slice (some ⟨g,0,none⟩) [x].length 1) [x].length ([x].map fun i=>(.int .i64 (i:Nat):Value)) :=
 ⟨rfl,Or.inr ⟨g,1,#[.int .i64 (x:Nat)],rfl,hB,h,Nat.le_refl _,by unfold maxLen;omega,rfl,rfl⟩⟩
theorem QMY:∃ i,Tryz.prog.info? 85=some i∧i.zero=some (.agg #[.string ⟨#[]⟩,.int .i64 0,.slice none 0 0,.slice none 0 0])∧i.size=4∧i.bytes=72:=by
 (obtain⟨i,hi,h⟩:=Option.map_eq_some_iff.1 (show (Tryz.prog.info? 85).map (fun i=>(i.zero,i.size,i.bytes))=some (some (.agg #[.string ⟨#[]⟩,.int .i64 0,.slice none 0 0,.slice none 0 0]),4,72) by kernel_rfl));simp only [Prod.mk.injEq] at h;exact⟨i,hi,h.1,h.2.1,h.2.2⟩
set_option maxRecDepth 10000 in
set_option maxHeartbeats 8000000 in
theorem QLT {x:Fx} (hwl:QEv x) {n:Nat} (hfind:QFN x n) (hmu:∀ (wh:List Nat) (i:Nat) (pr:List Nat),wh.length=x.L→i < x.L→wh.getD i 0=1→pr∈(QAP x.ps i).2→x.mu (inF (wh.set i 2) pr).1+(QAP x.ps i).2.length≤x.mu wh):QES x (n+1):=by
 intro w M wh br wk i h hinv hi h1 hne hmuw hwk;obtain⟨b,cW,s,adP,cP,hvW,hc1,hc2,hKb,hs,hu,hst,hpr⟩:=h.way hi;have HS:Hid (FinSt x w M (wh.set i 2) br wk false):=h;have HIv:Hid (SInv x.ps wh br []):=hinv;have HWl:Hid ((QAP x.ps i).2.length≤2∧∀ pr∈(QAP x.ps i).2,pr.length≤2∧∀ j∈pr,j < x.L):=hwl i hi;have HPr:Hid (PRows x.K w (.slice adP (QAP x.ps i).2.length cP) (QAP x.ps i).2):=hpr;have HNe:Hid ((QAP x.ps i).2≠[]):=hne;have HRu:Hid (s.data.toList=(QAP x.ps i).1):=hst;(have hwlen:wh.length=x.L:=by have:=h.wlen;simpa using this);have HLen:Hid (wh.length=x.L):=hwlen;have HI:Hid (i < x.L∧wh.getD i 0=1):=⟨hi,h1⟩;obtain⟨cst,hcst⟩:∃ cst,cst=(256+x.L) * Gf (x.mu wh - (QAP x.ps i).2.length):=⟨_,rfl⟩;obtain⟨cost,hcost⟩:∃ cost,cost=(256+x.L) * Gf (x.mu wh) - (256+x.L):=⟨_,rfl⟩
 have HCo:Hid ((QAP x.ps i).2.length * cst≤cost):=by
  show _≤_;obtain⟨pr,hpr⟩:=List.exists_mem_of_ne_nil _ hne;have hm:=hmu wh i pr hwlen hi h1 hpr;have hlen2:=HWl.out.1;have hlen1:=List.length_pos_iff.2 hne;generalize (QAP x.ps i).2.length=len at *;rw [hcst,hcost];(have hcases:len=1∨len=2:=by omega)
  rcases hcases with rfl|rfl
  ·have h5:=QKH (x.mu wh - 1)
   (rw [show x.mu wh - 1+1=x.mu wh by omega] at h5);have:=Nat.mul_le_mul_left (256+x.L) h5;rw [Nat.mul_add] at this;omega
  ·have h5:=QNy (x.mu wh - 2)
   (rw [show x.mu wh - 2+2=x.mu wh by omega] at h5);have:=Nat.mul_le_mul_left (256+x.L) h5;rw [Nat.mul_add,Nat.mul_left_comm] at this;omega
 rw [← hcost]
 have HFd:Hid (∀ (W:World) (M1:Nat→Prop) (pr:List Nat) (d:Nat) (v:Value),pr∈(QAP x.ps i).2→FinSt x W M1 (inF (wh.set i 2) pr).1 (br++(inF (wh.set i 2) pr).2) d false→IRow (fun b=>¬ M1 b) W v (inF (wh.set i 2) pr).2→d≤67108864+x.L→Calls Tryz.prog 49 #[.pointer (some ⟨x.bf,0,none⟩),v] W (QCp x W M1 (fun y=>(inF (wh.set i 2) pr).1.getD y 0=1) (inF (wh.set i 2) pr).1 (br++(inF (wh.set i 2) pr).2) d cst)):=fun W M1 pr d v hpr hW hv hd=>by
  have hm:=hmu wh i pr hwlen hi h1 hpr;have hlen1:=List.length_pos_iff.2 hne;(have hb:∀ j∈pr,j < wh.length:=fun j hj=>by rw [hwlen];exact (HWl.out.2 pr hpr).2 j hj);(have hcall:=hfind W M1 _ _ _ d v hW (hinv.step (by rw [hwlen];exact hi) h1 hpr hb) hv (by omega) hd);(refine hcall.mono fun e w' hp => ?_);obtain⟨M',g1,g2,g3,g4⟩:=hp
  have hle:(256+x.L) * Gf (x.mu (inF (wh.set i 2) pr).1)≤cst:=by
   rw [hcst];(exact Nat.mul_le_mul_left _ (QKG (by omega)))
  refine⟨M',g1,g2,g3,?_⟩
  rcases g4 with ⟨p,pv,wk',a1,a2,a3,a4,a5,a6,a7,a8,a9⟩|⟨op',wh',br',wk',a1,a2,a3,a4,a5,a6,a7⟩
  ·exact Or.inl ⟨p,pv,wk',a1,a2,a3,a4,a5,a6,a7,by omega,a9⟩
  ·exact Or.inr ⟨op',wh',br',wk',a1,a2,a3,by omega,a5,a6,a7⟩
 have HWk:Hid (wk≤67108864+x.L):=hwk;(have HBr:Hid (br.length≤x.L):=by have:=hinv.len;rw [hwlen] at this;exact this);have hL2:=h.l2;have hpl:=h.plen;obtain⟨adB,cB,hfin,-,-⟩:=h.fin;obtain⟨q0,q1,q2,-⟩:=QCW hfin;(have hiI:(i:Int) < (x.L:Int):=by omega);(have hicI:(i:Int) < (cW:Int):=by omega);(have hLI:(x.L:Int)≤200000:=by omega);have HLI:Hid ((x.L:Int)≤200000):=hLI;have hl2:(QAP x.ps i).2.length≤2:=HWl.out.1;(have hlI:((QAP x.ps i).2.length:Int)≤2:=by omega);have zb:=QAI hs;have zf:=QAE hfin;simp only at zb;(have zf1:x.bf < w.heap.size+1:=by omega);(have zf2:x.bf < w.heap.size+1+1:=by omega);(have zf3:x.bf < w.heap.size+1+1+1:=by omega);(have zb1:b < w.heap.size+1:=by omega);(have zb2:b < w.heap.size+1+1:=by omega);(have zb3:b < w.heap.size+1+1+1:=by omega);rw [hvW] at q1
 have hsm:s.size≤6:=by
  have:s.data.toList.length≤6:=by
   rw [hst];unfold QAP QBf QBg
   cases x.ps[i / 2]? with
   | none=>simp
   | some p =>
    simp only
    split <;> (repeat' split) <;> (dsimp only;first|decide|simp)
  exact this
 (have HSm:Hid (s.size≤maxLen):=by show _≤_;unfold maxLen;omega);obtain⟨W1,hW1⟩:∃ W1,W1=(((w.alloc (.cells #[.string ⟨#[]⟩,.int .i64 0,.slice none 0 0,.slice none 0 0] 85 (0,0))).alloc (.cells #[.int .i64 (i:Nat)] 82 (0,0))).alloc (.cells #[.string s,.int .i64 (i:Nat),.slice (some ⟨w.heap.size+1,0,none⟩) 1 1,.slice none 0 0] 85 (0,0))):=⟨_,rfl⟩;(have HB1:Hid (Below w.heap.size w W1):=by rw [hW1];exact QAB (QAB (QAB (Below.refl _ w) _) _) _)
 have HO1:Hid (OvR x w M wh i s w.heap.size (w.heap.size+1+1) W1 0 M [i] [] (some ⟨w.heap.size+1,0,none⟩) 1 none 0):=by
  (have e0:W1.heap[w.heap.size]? = some (.cells #[.string ⟨#[]⟩,.int .i64 0,.slice none 0 0,.slice none 0 0] 85 (0,0)):=by rw [hW1];exact QAG (QAG (QAH w _) _) _);(have e1:W1.heap[w.heap.size+1]? = some (.cells #[.int .i64 (i:Nat)] 82 (0,0)):=by rw [hW1];exact QAG (QAa w _ _) _)
  have e2:W1.heap[w.heap.size+1+1]? = some (.cells #[.string s,.int .i64 (i:Nat),.slice (some ⟨w.heap.size+1,0,none⟩) 1 1,.slice none 0 0] 85 (0,0)):=by
   rw [hW1];have:=QAH ((w.alloc (.cells #[.string ⟨#[]⟩,.int .i64 0,.slice none 0 0,.slice none 0 0] 85 (0,0))).alloc (.cells #[.int .i64 (i:Nat)] 82 (0,0))) (.cells #[.string s,.int .i64 (i:Nat),.slice (some ⟨w.heap.size+1,0,none⟩) 1 1,.slice none 0 0] 85 (0,0));rw [World.size_alloc,World.size_alloc] at this;exact this
  (have nm:∀ b,w.heap.size≤b→¬ M b:=fun b hb hm=>by have:=h.old b hm;omega);(refine⟨fun b hb=>Or.inl hb,fun b hb=>hb,QAN HB1.out fun b hb _=>hb,e0,e2,QNd e1 (by omega),⟨[],⟨rfl,Or.inl ⟨rfl,rfl⟩⟩,PlQ.nil⟩,nm _ (Nat.le_refl _),nm _ (by omega),by omega,fun b e => ?_,fun b e=>by simp [Value.ownBlock] at e,Nat.le_refl _,by omega,rfl,fun j q hq=>by simp at hq,fun y hy=>by rw [List.mem_singleton.1 hy];exact h1,by simp,by simp⟩);(have e':w.heap.size+1=b:=by simpa [Value.ownBlock] using e);subst e';(exact⟨nm _ (by omega),by omega,by omega,by simp [Value.ownBlock]⟩)
 have HS1:Hid (FinSt x W1 M (wh.set i 2) br wk false):=h.up HB1.out;have HWe:Hid ((((w.alloc (.cells #[.string ⟨#[]⟩,.int .i64 0,.slice none 0 0,.slice none 0 0] 85 (0,0))).alloc (.cells #[.int .i64 (i:Nat)] 82 (0,0))).alloc (.cells #[.string s,.int .i64 (i:Nat),.slice (some ⟨w.heap.size+1,0,none⟩) 1 1,.slice none 0 0] 85 (0,0)))=W1):=hW1.symm;clear hpr hfind hmu h hinv hne h1 hmuw hwk hL2 hpl hfin hW1 hcst hcost hst hwlen hvW hwl hsm;have HPrs:Hid ((QAP x.ps i).2=(QAP x.ps i).2):=rfl;generalize hprs:(QAP x.ps i).2=prs at HWl HPr HNe HCo HFd hu hl2 hlI;have HPe:Hid ((QAP x.ps i).2=prs):=hprs;clear HPrs hprs
 go_enter Tryz.func141,Tryz.ntmps141
 go_wp2_with fail;rw [HWe.out];clear q0 q1 q2 hs hu zf1 zf2 zf3 zb1 zb2 zb3
 go_loopg [34] prs.length (fun g c wr=>∃ k M' needs kids adN cN adK cK wk',k≤prs.length∧g=prs.length - k∧c = .int .i64 (k:Nat)∧Hid (FinSt x wr M' (wh.set i 2) br wk' false)∧Hid (OvR x w M wh i s w.heap.size (w.heap.size+1+1) wr k M' needs kids adN cN adK cK)∧Hid (wk≤wk'∧wk'≤wk+k * cst∧wk'≤67108864+x.L))
 case atStart=>exact⟨0,M,[i],[],_,_,_,_,wk,by omega,by omega,rfl,HS1,HO1,⟨by omega,by omega,HWk.out⟩⟩
 case round =>
  obtain⟨k,M',needs,kids,adN,cN,adK,cK,wk',hk,hg,rfl,HF,HO,HW⟩:=hrel;have HG:Hid (gk=prs.length - k):=hg;clear hg;by_cases hlt:k < prs.length
  ·obtain⟨pr,hpr⟩:∃ pr,prs[k]? = some pr:=⟨_,List.getElem?_eq_getElem hlt⟩
   have HPm:Hid (prs[k]? = some pr∧pr∈prs):=⟨hpr,List.mem_of_getElem? hpr⟩;(obtain⟨bp,off,aj,cj,rfl,hKp,hcell,hrow,hcp,hcm⟩:=(HPr.out.move (P':=fun b=>x.K b) (w':=wr) fun b hb hKb=>⟨HO.out.kept.block b hb (HS.out.km b hKb).1,hKb⟩).some' hpr);(have hltI:(k:Int) < (prs.length:Int):=by omega);(have hltc:(k:Int) < (cP:Int):=by omega);have hpb:=HWl.out.2 pr HPm.out.2;(have HCall:Hid (Calls Tryz.prog 50 #[.pointer (some ⟨x.bf,0,none⟩),.slice aj pr.length cj] wr _):=QHz HF.out pr _ (hrow.move fun b hb hKb=>⟨rfl,(HF.out.km b hKb).1⟩) hpb.2 (by omega) (by have:=HBr.out;have:=HLI.out;omega));clear hKp hrow hcp hcm hpr hpb;go_wp2_with fail;refine HCall.out.mono ?_;clear HCall;rintro e wp ⟨M1,v1,rfl,hst1,hrow1,hg1,hm1,hk1⟩
   obtain⟨aF,cF,rfl,-⟩:∃ aF cF,v1 = .slice aF (inF (wh.set i 2) pr).2.length cF∧True:=by
    obtain⟨aF,cF,e,-⟩:=hrow1;exact⟨aF,cF,e,trivial⟩
   (have HFi:Hid (∀ (W:World) (M1:Nat→Prop) (d:Nat) (v:Value),FinSt x W M1 (inF (wh.set i 2) pr).1 (br++(inF (wh.set i 2) pr).2) d false→IRow (fun b=>¬ M1 b) W v (inF (wh.set i 2) pr).2→d≤67108864+x.L→Calls Tryz.prog 49 #[.pointer (some ⟨x.bf,0,none⟩),v] W _):=fun W M1 d v h1 h2 h3=>HFd.out W M1 pr d v HPm.out.2 h1 h2 h3);(have HBk:Hid (QCS (inF (wh.set i 2) pr).1 (inF (wh.set i 2) pr).2=wh.set i 2):=QML fun j hj=>by rw [List.length_set,HLen.out];exact (HWl.out.2 pr HPm.out.2).2 j hj);(have HPk:Hid (QHi (wh.set i 2) pr (inF (wh.set i 2) pr)):=QEp _ _ pr rfl fun j hj=>by rw [List.length_set,HLen.out];exact (HWl.out.2 pr HPm.out.2).2 j hj);generalize inF (wh.set i 2) pr=I at *;(have HFl:Hid (∀ j∈I.2,j < x.L):=fun j hj=>(HWl.out.2 pr HPm.out.2).2 j (HPk.out.fresh j hj).2);have HFn:Hid (I.2.length≤x.L):=QDM HPk.out.nodup HFl.out;have HS1':Hid (FinSt x wp M1 I.1 (br++I.2) wk' false):=hst1;(have HR1:Hid (IRow (fun b=>wr.heap.size≤b∧¬ M1 b) wp (.slice aF I.2.length cF) I.2):=hrow1);have HOp:Hid (OvR x w M wh i s w.heap.size (w.heap.size+1+1) wp k M1 needs kids adN cN adK cK):=HO.out.move hk1 hg1 hm1;(have HKp:Hid (Kept (fun b=>¬ M b) w wp):=HOp.out.kept);have B2:Below wp.heap.size wp (wp.alloc (.cells #[.slice aF I.2.length cF] 78 (0,0))):=(Below.refl _ wp).alloc (Nat.le_refl _) _;(have HFc:Hid (Calls Tryz.prog 49 #[.pointer (some ⟨x.bf,0,none⟩),.slice aF I.2.length cF] (wp.alloc (.cells #[.slice aF I.2.length cF] 78 (0,0))) _):=HFi.out _ M1 wk' _ (hst1.up B2) (hrow1.move fun b hb hp=>⟨B2.block b hb,hp.2⟩) HW.out.2.2);have HO2:Hid (OvR x w M wh i s w.heap.size (w.heap.size+1+1) (wp.alloc (.cells #[.slice aF I.2.length cF] 78 (0,0))) k M1 needs kids adN cN adK cK):=HOp.out.up B2;have HBx:Hid ((wp.alloc (.cells #[.slice aF I.2.length cF] 78 (0,0))).heap[wp.heap.size]? = some (.cells #[.slice aF I.2.length cF] 78 (0,0))):=QAH wp _;(have HZ2:Hid ((wp.alloc (.cells #[.slice aF I.2.length cF] 78 (0,0))).heap.size=wp.heap.size+1):=by show _=_;rw [World.size_alloc]);have HM1o:Hid (∀ b,M1 b→b < wp.heap.size):=hst1.old;(have HRow2:Hid (IRow (fun b=>wr.heap.size≤b∧b < wp.heap.size∧¬ M1 b) (wp.alloc (.cells #[.slice aF I.2.length cF] 78 (0,0))) (.slice aF I.2.length cF) I.2):=hrow1.move fun b hb hp=>⟨B2.block b hb,hp.1,hb,hp.2⟩);have HSz:Hid (wr.heap.size≤wp.heap.size∧w.heap.size+1+1 < wr.heap.size):=⟨hk1.size,QAE HO.out.step⟩;clear hst1 hrow1 hg1 hm1 hk1 B2 HFi hcell;go_wp2_with fail;refine HFc.out.mono ?_;clear HFc;rintro e w3 ⟨M2,hM1,hM2,hK,hcase⟩;have HO3:Hid (OvR x w M wh i s w.heap.size (w.heap.size+1+1) w3 k M2 needs kids adN cN adK cK):=HO2.out.move hK hM1 hM2;(have HBx3:Hid (w3.heap[wp.heap.size]? = some (.cells #[.slice aF I.2.length cF] 78 (0,0))):=(hK.block wp.heap.size (QAE HBx.out) (fun hm=>by have:=HM1o.out _ hm;omega)).trans HBx.out)
   have HNx:Hid (¬ M2 wp.heap.size):=fun hm=>by
    have h3:=HZ2.out
    rcases hM1 _ hm with h4|h4
    ·have:=HM1o.out _ h4
     omega
    ·omega
   have HRow3:Hid (IRow (fun b=>wr.heap.size≤b∧b < wp.heap.size∧¬ M2 b) w3 (.slice aF I.2.length cF) I.2):=HRow2.out.move fun b hb hp=>⟨hK.block b hb hp.2.2,hp.1,hp.2.1,fun hm=>by
    have h3:=HZ2.out
    rcases hM1 _ hm with h4|h4
    ·exact hp.2.2 h4
    ·omega⟩
   have HZ3:Hid (wp.heap.size < w3.heap.size):=QAE HBx3.out;have HM2g:Hid (∀ b,M2 b→M b∨w.heap.size≤b):=HO3.out.mg;have zx:=HZ3.out;(have zx1:wp.heap.size < w3.heap.size+1:=by omega);clear hM1 hM2 hK HO2 HBx HRow2
   rcases hcase with ⟨p,pv,wk2,rfl,hpo,hpn,hnd,hplr,hst,hw1,hw2,hw3⟩|⟨op',wh',br',wk2,rfl,hst,hw1,hw2,hw3,hmono,hend⟩
   ·obtain⟨a,j,ns,ks⟩:=p
    obtain⟨an,cn,sl,cp,rfl,-⟩:=hplr.parts;(have HPl:Hid (PlanR (fun b=>wp.heap.size+1≤b∧¬ M2 b) w3 (.mk a j ns ks) (.agg #[.string a,.int .i64 (j:Nat),.slice an ns.length cn,.slice sl ks.length cp])):=by rw [← HZ2.out];exact hplr);have HPo:Hid (QAo x.ps (.mk a j ns ks)∧QCk (.mk a j ns ks)∧∀ y∈ns,I.1.getD y 0=1):=⟨hpo,hpn,hnd⟩;have HW2:Hid (wk'≤wk2∧wk2≤wk'+cst∧wk2≤67108864+x.L):=⟨hw1,hw2,hw3⟩;have HSt3:Hid (FinSt x w3 M2 I.1 (br++I.2) wk2 false):=hst;have B4:Below w3.heap.size w3 (w3.alloc (.cells #[.string a,.int .i64 (j:Nat),.slice an ns.length cn,.slice sl ks.length cp] 85 (0,0))):=(Below.refl _ w3).alloc (Nat.le_refl _) _;(have HTb:Hid (Calls Tryz.prog 174 #[.pointer (some ⟨x.bf,0,none⟩),.slice aF I.2.length cF] (w3.alloc (.cells #[.string a,.int .i64 (j:Nat),.slice an ns.length cn,.slice sl ks.length cp] 85 (0,0))) _):=QKw (hst.up B4) I.2 _ (HRow3.out.move fun b hb hp=>⟨B4.block b hb,hp.2.2⟩) HFl.out (by simp) (by have h5:=HBr.out;have h6:=HFn.out;have h7:=HLI.out;simp;omega));have HO4:Hid (OvR x w M wh i s w.heap.size (w.heap.size+1+1) (w3.alloc (.cells #[.string a,.int .i64 (j:Nat),.slice an ns.length cn,.slice sl ks.length cp] 85 (0,0))) k M2 needs kids adN cN adK cK):=HO3.out.up B4;have HBk4:Hid ((w3.alloc (.cells #[.string a,.int .i64 (j:Nat),.slice an ns.length cn,.slice sl ks.length cp] 85 (0,0))).heap[w3.heap.size]? = some (.cells #[.string a,.int .i64 (j:Nat),.slice an ns.length cn,.slice sl ks.length cp] 85 (0,0))):=QAH w3 _;have HM2o:Hid (∀ b,M2 b→b < w3.heap.size):=hst.old;obtain⟨x0,-⟩:=QOb HBx3.out;clear hplr hpo hpn hnd hst hw1 hw2 hw3 B4 HSt3;go_wp2_with fail;refine HTb.out.mono ?_;clear HTb;rintro e w5 ⟨rfl,hst5,hk5⟩;rw [HBk.out,List.length_append,Nat.add_sub_cancel,List.take_left] at hst5;have HSt5:Hid (FinSt x w5 M2 (wh.set i 2) br wk2 false):=hst5;(have HO5:Hid (OvR x w M wh i s w.heap.size (w.heap.size+1+1) w5 k M2 needs kids adN cN adK cK):=HO4.out.move hk5 (fun _ h=>Or.inl h) fun _ h=>h);(have h4k:=fun (b:Nat) (hb:b < w3.heap.size) (hm:¬ M2 b)=>(hk5.block b (by rw [World.size_alloc];omega) hm).trans (Below.heap_alloc w3 (.cells #[.string a,.int .i64 (j:Nat),.slice an ns.length cn,.slice sl ks.length cp] 85 (0,0)) b hb));(have HKb5:Hid (w5.heap[w3.heap.size]? = some (.cells #[.string a,.int .i64 (j:Nat),.slice an ns.length cn,.slice sl ks.length cp] 85 (0,0))):=(hk5.block w3.heap.size (QAE HBk4.out) (fun hm=>by have:=HM2o.out _ hm;omega)).trans HBk4.out);(have HFr5:Hid (FreshAt wp.heap.size (.slice aF I.2.length cF) I.2 (fun b=>wr.heap.size≤b∧b < wp.heap.size∧¬ M2 b) w5):=⟨(h4k _ HZ3.out HNx.out).trans HBx3.out,HRow3.out.move fun b hb hp=>⟨h4k b hb hp.2.2,hp⟩⟩);(have HPl5:Hid (PlanR (fun b=>wp.heap.size+1≤b∧b < w3.heap.size∧¬ M2 b) w5 (.mk a j ns ks) (.agg #[.string a,.int .i64 (j:Nat),.slice an ns.length cn,.slice sl ks.length cp])):=HPl.out.move fun b hb hp=>⟨h4k b hb hp.2,hp.1,hb,hp.2⟩);have HZ5:Hid (w3.heap.size < w5.heap.size):=QAE HKb5.out;obtain⟨an',cn',sl',cp',e',-,hnr,-⟩:=HPl5.out.parts;simp only [Value.agg.injEq,Array.mk.injEq,List.cons.injEq,Value.slice.injEq,true_and,and_true] at e';obtain⟨⟨rfl,rfl⟩,rfl,rfl⟩:=e';(have HNr:Hid (IRow (fun b=>wp.heap.size+1≤b∧b < w3.heap.size∧¬ M2 b) w5 (.slice an ns.length cn) ns):=hnr);(have HCf:Hid (Calls Tryz.prog 173 #[.slice an ns.length cn,.func (.func 175) #[] #[.pointer (some ⟨wp.heap.size,0,none⟩)]] w5 _):=QEH (QLV wp.heap.size _ I.2) ns (fun _ _=>trivial) _ w5 (hnr.move fun b _ _=>⟨rfl,trivial⟩) HFr5.out);obtain⟨y0,y1,y2,y3,-⟩:=QAn HKb5.out;clear hst5 hk5 h4k hnr x0 HO4 HBk4 HPl HBx3 HRow3;(generalize hany:(ns.any fun i=>I.2.contains i)=any at HCf);(have HAny:Hid ((ns.any fun i=>I.2.contains i)=any):=hany);clear hany;go_wp2_with fail;refine HCf.out.mono ?_
    clear HCf;rintro e w6 ⟨rfl,hb6⟩;have HSt6:Hid (FinSt x w6 M2 (wh.set i 2) br wk2 false):=HSt5.out.up hb6;have HO6:Hid (OvR x w M wh i s w.heap.size (w.heap.size+1+1) w6 k M2 needs kids adN cN adK cK):=HO5.out.up hb6;have HKb6:Hid (w6.heap[w3.heap.size]? = some (.cells #[.string a,.int .i64 (j:Nat),.slice an ns.length cn,.slice sl ks.length cp] 85 (0,0))):=QAA hb6 HKb5.out;(have HFr6:Hid (FreshAt wp.heap.size (.slice aF I.2.length cF) I.2 (fun b=>wr.heap.size≤b∧b < wp.heap.size∧¬ M2 b) w6):=HFr5.out.move (hb6.block _ (QAE HFr5.out.box)) fun b hb hp=>⟨hb6.block b hb,hp⟩);(have HPl6:Hid (PlanR (fun b=>wp.heap.size+1≤b∧b < w3.heap.size∧¬ M2 b) w6 (.mk a j ns ks) (.agg #[.string a,.int .i64 (j:Nat),.slice an ns.length cn,.slice sl ks.length cp])):=HPl5.out.move fun b hb hp=>⟨hb6.block b hb,hp⟩);(have HNr6:Hid (IRow (fun b=>wp.heap.size+1≤b∧b < w3.heap.size∧¬ M2 b) w6 (.slice an ns.length cn) ns):=HNr.out.move fun b hb hp=>⟨hb6.block b hb,hp⟩);have HZ6:Hid (w3.heap.size < w6.heap.size):=QAE HKb6.out
    have HNs:Hid (∀ y∈ns,y∈I.2∨wh.getD y 0=1):=fun y hy=>by
     have h5:=HPo.out.2.2 y hy;rw [HPk.out.get] at h5;by_cases e:y∈I.2
     ·exact Or.inl e
     ·rw [if_neg e,QBy _ _ _ _ (by rw [HLen.out];exact HI.out.1)] at h5
      by_cases e2:y=i
      ·rw [if_pos e2] at h5;omega
      ·rw [if_neg e2] at h5;exact Or.inr h5
    have HNi:Hid (i ∉ ns):=fun hy=>by
     have h5:=HPo.out.2.2 i hy;rw [HPk.out.get] at h5;(have h6:(wh.set i 2).getD i 0=2:=by rw [QBy _ _ _ _ (by rw [HLen.out];exact HI.out.1),if_pos rfl]);by_cases e:i∈I.2
     ·have:=(HPk.out.fresh i e).1
      omega
     ·rw [if_neg e] at h5
      omega
    have HWn:Hid (wk≤wk2∧wk2≤wk+(k+1) * cst∧wk2≤67108864+x.L):=by
     have h5:=HW.out;have h6:=HW2.out;(refine⟨by omega,?_,h6.2.2⟩);rw [Nat.add_mul,Nat.one_mul];omega
    obtain⟨v0,v1,v2,v3,-⟩:=QAn HKb6.out;obtain⟨r0,r1,r2,r3,r4,r5,r6,r7⟩:=QAn HO6.out.res;have zx6:=HZ6.out;have z5:=HZ5.out;(have zr:¬ w.heap.size=w3.heap.size:=by have:=HSz.out;omega);(have zr':¬ w3.heap.size=w.heap.size:=by omega);clear hb6 y0 y1 y2 y3 HPl5 HNr HKb5 HFr5 HO5 HSt5
    cases any
    ·go_wp2_with fail
     obtain⟨Wf,hWf⟩:∃ Wf,Wf=((((w6.setCell ⟨w.heap.size,0,none⟩ (.string a)).setCell ⟨w.heap.size,1,none⟩ (.int .i64 (j:Nat))).setCell ⟨w.heap.size,2,none⟩ (.slice an ns.length cn)).setCell ⟨w.heap.size,3,none⟩ (.slice sl ks.length cp)):=⟨_,rfl⟩;rw [← hWf];(have hE:Wf.heap[w.heap.size]? = some (.cells #[.string a,.int .i64 (j:Nat),.slice an ns.length cn,.slice sl ks.length cp] 85 (0,0)):=by rw [hWf];exact QCK _ _ _ _ HO6.out.res);obtain⟨m0,m1,m2,m3,-⟩:=QAn hE;(refine bodyPost_ret (v := .tuple #[.agg #[.string a,.int .i64 (j:Nat),.slice an ns.length cn,.slice sl ks.length cp],.bool true]) (by clear hWf;simp [results,Tryz.results141,go_sem,m0,m1,m2,m3]) rfl ?_);rw [hWf];have h5:=HWn.out;have h6:=HCo.out;(have h7:(k+1) * cst≤prs.length * cst:=Nat.mul_le_mul_right _ (by omega));have h8:=HSz.out;(refine⟨M2,HM2g.out,HO6.out.mm,QAM HO6.out.kept (QCc w6 w.heap.size _ _ _ _) fun b hb _ e=>by omega,Or.inl ⟨_,_,wk2,rfl,HPo.out.1,HPo.out.2.1,fun y hy => ?_,HPl6.out.move fun b hb hp=>⟨QCJ _ _ _ _ (by omega),by omega,hp.2.2⟩,HSt6.out.p4 _ _ _ _ HO6.out.fr (fun b hb e=>by have:=(HS.out.km b hb).2;omega),by omega,by omega,by omega⟩⟩)
     rcases HNs.out y hy with h9|h9
     ·have:=List.any_eq_false.1 HAny.out y hy
      (exact absurd (by simpa using h9) this)
     ·exact h9
    ·obtain⟨i0,hi0,hz0,hz1,hz2⟩:=QMY
     obtain⟨cs,hkr,hkq⟩:=HO6.out.kid;have hown:=QAz hkr (show Below w6.heap.size w6 _ from (Below.refl _ w6).alloc (Nat.le_refl _) (.cells #[.string a,.int .i64 (j:Nat),.slice an ns.length cn,.slice sl ks.length cp] 85 (0,0)));have HKr:Hid ((w6.alloc (.cells #[.string a,.int .i64 (j:Nat),.slice an ns.length cn,.slice sl ks.length cp] 85 (0,0))).ownsRow w.heap.size 85 4 (.slice adK kids.length cK) kids.length cs):=hown;(have HKq:Hid (w6.ownsRow w.heap.size 85 4 (.slice adK kids.length cK) kids.length cs∧PlQ (fun b=>w.heap.size≤b∧¬ M2 b∧b≠w.heap.size∧b≠w.heap.size+1+1∧(Value.slice adN needs.length cN).ownBlock≠some b∧(Value.slice adK kids.length cK).ownBlock≠some b) w6 cs kids):=⟨hkr,hkq⟩);obtain⟨s0,s1,s2,s3,t0,t1,t2,t3⟩:=QAn HO6.out.step;(have HKl:Hid (kids.length≤2):=by have:=HO6.out.len;show _≤_;omega);have zs6:w.heap.size+1+1 < w6.heap.size:=QAE HO6.out.step;(have zs7:w.heap.size+1+1 < w6.heap.size+1:=by omega);clear hkr hkq hown r0 r1 r2 r3 r4 r5 r6 r7
     go_wp2_with (first
      | (
        at_builtin
        (refine wpList_append_lies _ rfl _ _ 83 rfl w.heap.size 85 i0 (.agg #[.string ⟨#[]⟩,.int .i64 0,.slice none 0 0,.slice none 0 0]) 4 72 Tryz.underlying83 hi0 hz0 hz1 hz2 rfl (by decide) _ _ _ rfl HKr.out ⟨w6.heap.size,0,none⟩ 1 1 [.string a,.int .i64 (j:Nat),.slice an ns.length cn,.slice sl ks.length cp] rfl rfl ?_ ?_ (by omega) (by have:=HKl.out;unfold maxLen;omega) (by have:=HKl.out;omega) ?_ _ rfl ?_)
        ·exact World.news_of_block (QAH w6 _)
        ·intro u hu
         simp at hu
         rcases hu with rfl|rfl|rfl|rfl <;> rfl
        ·have:=HO6.out.kept.size
         rw [World.size_alloc];omega
        intro g7 c7 w7 hown7 hgrow hat7 hlt7;have HG7:Hid ((w6.alloc (.cells #[.string a,.int .i64 (j:Nat),.slice an ns.length cn,.slice sl ks.length cp] 85 (0,0))).grownBy w7 (Value.slice adK kids.length cK).ownBlock):=hgrow;have HA7:Hid ((Value.slice adK kids.length cK).ownBlock=some g7∨g7=(w6.alloc (.cells #[.string a,.int .i64 (j:Nat),.slice an ns.length cn,.slice sl ks.length cp] 85 (0,0))).heap.size):=hat7;have HOw7:Hid (w7.ownsRow w.heap.size 85 4 (.slice (some ⟨g7,0,none⟩) (kids.length+1) c7) (kids.length+1) (cs++[.string a,.int .i64 (j:Nat),.slice an ns.length cn,.slice sl ks.length cp])):=hown7;(have HK7:Hid (∀ b,b < w6.heap.size→(Value.slice adK kids.length cK).ownBlock≠some b→w7.heap[b]? = w6.heap[b]?):=fun b hb hn=>(hgrow.block b (by rw [World.size_alloc];omega) (fun e=>hn e.symm)).trans (Below.heap_alloc _ _ _ hb));(have HZ7:Hid (w6.heap.size+1≤w7.heap.size):=by have:=hgrow.size;rw [World.size_alloc] at this;exact this);(have HS7:Hid (w7.heap[w.heap.size+1+1]? = some (.cells #[.string s,.int .i64 (i:Nat),.slice adN needs.length cN,.slice adK kids.length cK] 85 (0,0))):=(HK7.out _ zs6 (fun e=>(HO6.out.fk _ e).2.2 rfl)).trans HO6.out.step);obtain⟨p0,p1,p2,p3,o0,o1,o2,o3⟩:=QAn HS7.out
        clear hown7 hgrow hat7)
      | fail)
     obtain⟨S,hS⟩:∃ S,S=w.heap.size+1+1:=⟨_,rfl⟩;rw [← hS] at HO6 HS7 HKq HO HO1 HSz ⊢;(have oldN:∀ b,(Value.slice adN needs.length cN).ownBlock=some b→b < wr.heap.size:=fun b e=>(HO.out.rows.lt b e).2)
     have oldK:∀ b,(Value.slice adK kids.length cK).ownBlock=some b→b < wr.heap.size:=fun b e=>by
      obtain⟨_,h1,-⟩:=HO.out.kid;exact (h1.lt b e).2
     have hsz:=HSz.out;(have k8:∀ b,b < w6.heap.size→(Value.slice adK kids.length cK).ownBlock≠some b→b≠S→(w7.setCell ⟨S,3,none⟩ (.slice (some ⟨g7,0,none⟩) (kids.length+1) c7)).heap[b]? = w6.heap[b]? := fun b hb h1 h2=>(QAJ _ h2).trans (HK7.out b hb h1));obtain⟨W8,hW8⟩:∃ W8,W8=w7.setCell ⟨S,3,none⟩ (.slice (some ⟨g7,0,none⟩) (kids.length+1) c7):=⟨_,rfl⟩;rw [← hW8] at k8 ⊢
     have g7n:(Value.slice adK kids.length cK).ownBlock=some g7∨w6.heap.size < g7:=by
      rcases HA7.out with h1|h1
      ·exact Or.inl h1
      ·rw [World.size_alloc] at h1;exact Or.inr (by omega)
     have g7l:g7 < w7.heap.size:=hlt7;(have hz8:W8.heap.size=w7.heap.size:=by rw [hW8,QAO]);have h67:=HZ7.out;have hwp3:=HZ3.out;have hm6:∀ b,M2 b→b < w3.heap.size:=HM2o.out
     have HSt8:Hid (FinSt x W8 M2 (wh.set i 2) br wk2 false):=HSt6.out.next (fun b hb hKM=>k8 b hb (fun e=>by
      rcases hKM with h1|h1
      ·exact (HSt6.out.km b h1).1 |> fun _=>by
        have h2:=(HS.out.km b h1).2;have h3:=((HKq.out.1).lt b e).1;omega
      ·exact (HO6.out.fk b e).1 h1) (fun e=>by
      rcases hKM with h1|h1
      ·have h2:=(HS.out.km b h1).2
       omega
      ·exact HO6.out.fs (e ▸ h1))) (by omega)
     (have HRes8:Hid (W8.heap[w.heap.size]? = some (.cells #[.string ⟨#[]⟩,.int .i64 0,.slice none 0 0,.slice none 0 0] 85 (0,0))):=(k8 _ (QAE HO6.out.res) (fun e=>(HO6.out.fk _ e).2.1 rfl) (by omega)).trans HO6.out.res)
     have HStp8:Hid (W8.heap[S]? = some (.cells #[.string s,.int .i64 (i:Nat),.slice adN needs.length cN,.slice (some ⟨g7,0,none⟩) (kids.length+1) c7] 85 (0,0))):=by
      rw [hW8,QAS HS7.out];rfl
     (have HN8:Hid (W8.ownsRow w.heap.size 82 1 (.slice adN needs.length cN) needs.length (needs.map fun i=>(.int .i64 (i:Nat):Value))):=QBF HO6.out.rows fun b e=>k8 b (HO6.out.rows.lt b e).2 (HO6.out.fn b e).2.2.2 (HO6.out.fn b e).2.2.1)
     have nS7:g7≠S:=fun e=>by
      rcases g7n with h1|h1
      ·exact (HO6.out.fk g7 h1).2.2 e
      ·omega
     have HKr8:Hid (W8.ownsRow w.heap.size 85 4 (.slice (some ⟨g7,0,none⟩) (kids.length+1) c7) (kids.length+1) (cs++[.string a,.int .i64 (j:Nat),.slice an ns.length cn,.slice sl ks.length cp])):=QBF HOw7.out fun b e=>by
      (have eb:g7=b:=by simpa [Value.ownBlock] using e);subst eb;rw [hW8];exact QAJ _ nS7
     have HPl8:Hid (PlQ (fun b=>w.heap.size≤b∧¬ M2 b∧b≠w.heap.size∧b≠S∧(Value.slice adN needs.length cN).ownBlock≠some b∧b≠g7∧b < w6.heap.size) W8 (cs++[.string a,.int .i64 (j:Nat),.slice an ns.length cn,.slice sl ks.length cp]) (kids++[.mk a j ns ks])):=by
      (refine PlQ.snoc (HKq.out.2.move fun b hb hp=>⟨k8 b hb hp.2.2.2.2.2 hp.2.2.2.1,hp.1,hp.2.1,hp.2.2.1,hp.2.2.2.1,hp.2.2.2.2.1,fun e => ?_,hb⟩) (HPl6.out.move fun b hb hp=>⟨k8 b hb (fun e=>by have:=oldK b e;omega) (by omega),by omega,hp.2.2,by omega,by omega,fun e=>by have:=oldN b e;omega,fun e => ?_,hb⟩))
      ·subst e
       rcases g7n with h1|h1
       ·exact hp.2.2.2.2.2 h1
       ·omega
      ·subst e
       rcases g7n with h1|h1
       ·have:=oldK b h1
        omega
       ·omega
     (have HFr8:Hid (FreshAt wp.heap.size (.slice aF I.2.length cF) I.2 (fun b=>wr.heap.size≤b∧b < wp.heap.size∧¬ M2 b) W8):=HFr6.out.move (k8 _ (by omega) (fun e=>by have:=oldK _ e;omega) (by omega)) fun b hb hp=>⟨k8 b hb (fun e=>by have:=oldK b e;omega) (by omega),hp⟩);(have HNr8:Hid (IRow (fun b=>wp.heap.size+1≤b∧b < w3.heap.size∧¬ M2 b) W8 (.slice an ns.length cn) ns):=HNr6.out.move fun b hb hp=>⟨k8 b hb (fun e=>by have:=oldK b e;omega) (by omega),hp⟩);(have HKb8:Hid (W8.heap[w3.heap.size]? = some (.cells #[.string a,.int .i64 (j:Nat),.slice an ns.length cn,.slice sl ks.length cp] 85 (0,0))):=(k8 _ (by omega) (fun e=>by have:=oldK _ e;omega) (by omega)).trans HKb6.out);(have HKe8:Hid (Kept (fun b=>¬ M b) w W8):=QAM HO6.out.kept (ok':=fun b=>(Value.slice adK kids.length cK).ownBlock≠some b∧b≠S) ⟨by rw [hW8];exact HG7.out.os,by rw [hW8];exact HG7.out.tape,by rw [hW8];exact HG7.out.output,by omega,fun b hb hp=>k8 b hb hp.1 hp.2⟩ fun b hb _=>⟨fun e=>by have:=(HKq.out.1.lt b e).1;omega,by omega⟩);have H6o:Hid (OvR x w M wh i s w.heap.size S w6 k M2 needs kids adN cN adK cK):=HO6;have HG7n:Hid ((Value.slice adK kids.length cK).ownBlock=some g7∨w6.heap.size < g7):=g7n;(have HZ8:Hid (w6.heap.size < W8.heap.size∧g7 < W8.heap.size∧wp.heap.size < w3.heap.size∧w3.heap.size < w6.heap.size∧wr.heap.size≤wp.heap.size∧S < wr.heap.size∧S=w.heap.size+2∧g7≠S):=⟨by omega,by omega,by omega,by omega,by omega,by omega,by omega,nS7⟩);have HoldN:Hid (∀ b,(Value.slice adN needs.length cN).ownBlock=some b→b < wr.heap.size):=oldN;have HoldK:Hid (∀ b,(Value.slice adK kids.length cK).ownBlock=some b→b < wr.heap.size):=oldK;clear hW8 k8 oldN oldK g7n nS7 hS;clear HKr HOw7 HG7 HA7 HK7 HS7 HKq;clear s0 s1 s2 s3 t0 t1 t2 t3 p0 p1 p2 p3 o0 o1 o2 o3 v0 v1 v2 v3
     have HNn:Hid (ns≠[]∧ns.length≤x.L):=by
      (refine⟨fun e => ?_,?_⟩)
      ·have:=HAny.out
       rw [e] at this;simp at this
      ·have hnd:=HPo.out.2.1
       cases hnd with
       | mk _ _ _ _ hn _ _ =>
        (refine QDM hn fun y hy => ?_)
        rcases HNs.out y hy with h1|h1
        ·exact HFl.out y h1
        ·rcases Nat.lt_or_ge y wh.length with h2|h2
         ·rw [HLen.out] at h2;exact h2
         ·rw [List.getD_eq_getElem?_getD,List.getElem?_eq_none h2] at h1
          (exact absurd h1 (by simp))
     (have HCl:Hid (∀ W,Below W8.heap.size W8 W→Calls Tryz.prog 178 #[.slice an ns.length cn] W _):=fun W hb=>QMO ns _ W (HNr8.out.move (P':=fun _=>True) fun b hl _=>⟨hb.block b hl,trivial⟩) HNn.out.1 (by have h1:=HNn.out.2;have h2:=HLI.out;omega))
     have HDl:Hid (∀ W g c,Below W8.heap.size W8 W→W8.heap.size≤g→W.ownsRow W8.heap.size 82 1 (.slice (some ⟨g,0,none⟩) ns.length c) ns.length (ns.map fun i=>(.int .i64 (i:Nat):Value))→Calls Tryz.prog 177 #[.slice (some ⟨g,0,none⟩) ns.length c,.func (.func 175) #[] #[.pointer (some ⟨wp.heap.size,0,none⟩)]] W _):=fun W g c hb hg ho=>by
      have h1:=HZ8.out;have h2:=HNn.out.2;have h3:=HLI.out;(exact QOC wp.heap.size _ I.2 ns g c W (HFr8.out.move (hb.block _ (QAE HFr8.out.box)) fun b hl hq=>⟨hb.block b hl,hq⟩) (by omega) (fun b hq=>by omega) (QGU ho) (by omega) (QAt ho).1 (QAt ho).2)
     (obtain⟨del,hdel⟩:∃ del,del=ns.filter fun x=>!I.2.contains x:=⟨_,rfl⟩);(have HDel:Hid (del=ns.filter fun x=>!I.2.contains x):=hdel);rw [← hdel] at HDl;obtain⟨-,-,e2,e3,-,-,f2,f3⟩:=QAn HStp8.out;obtain⟨-,-,u2,-⟩:=QAn HKb8.out;have zS:S < W8.heap.size:=QAE HStp8.out
     have HDn:Hid (del.length≤x.L):=by
      rw [hdel];exact Nat.le_trans (List.length_filter_le _ _) HNn.out.2
     clear hdel
     go_region_law
      (
       first
       | (
        refine QLf rfl _ _ rfl w.heap.size needs del adN cN _ rfl HN10.out rfl HD10.out ?_ ?_ ?_
        ·have h1:=HZ8.out
         have h2:=HB10.out.size;omega
        ·have h1:=HDn.out
         have h2:=HLI.out;have h3:=HO6.out.nlen;have h4:=HKl.out;have h5:=HO6.out.len;(have h6:k * x.L≤2 * x.L:=Nat.mul_le_mul_right _ (by omega));omega
        intro ad11 c11 w11 hown11 hk11 hat11;(have HN11:Hid (w11.ownsRow w.heap.size 82 1 (.slice ad11 (needs++del).length c11) (needs++del).length ((needs++del).map fun i=>(.int .i64 (i:Nat):Value))):=hown11);(have HK11:Hid (Kept (fun b=>(Value.slice adN needs.length cN).ownBlock≠some b) w10 w11):=hk11);have HA11:Hid (∀ b,(Value.slice ad11 (needs++del).length c11).ownBlock=some b→(Value.slice adN needs.length cN).ownBlock=some b∨(w10.heap.size≤b∧b < w11.heap.size)):=hat11;(have HS11:Hid (w11.heap[S]? = some (.cells #[.string s,.int .i64 (i:Nat),.slice adN needs.length cN,.slice (some ⟨g7,0,none⟩) (kids.length+1) c7] 85 (0,0))):=(HK11.out.block S (QAE HS10.out) (fun e=>(H6o.out.fn _ e).2.2.1 rfl)).trans HS10.out);obtain⟨-,-,a2,a3,-,-,b2,b3⟩:=QAn HS11.out;have zS11:=QAE HS11.out
        clear hown11 hk11 hat11)
       | (
        go_simp
        refine (HCl.out _ (Below.refl _ _).drew).mono ?_;rintro e w9 ⟨g9,c9,rfl,hown9,hb9⟩;have HB9:Hid (Below W8.heap.size W8 w9):=QAC (Below.refl _ W8).drew hb9;(have HO9:Hid (w9.ownsRow W8.heap.size 82 1 (.slice (some ⟨g9,0,none⟩) ns.length c9) ns.length (ns.map fun i=>(.int .i64 (i:Nat):Value))):=hown9);have HS9:Hid (w9.heap[S]? = some (.cells #[.string s,.int .i64 (i:Nat),.slice adN needs.length cN,.slice (some ⟨g7,0,none⟩) (kids.length+1) c7] 85 (0,0))):=QAA HB9.out HStp8.out;obtain⟨-,-,c2,c3,-,-,d2,d3⟩:=QAn HS9.out;have zS9:=QAE HS9.out;clear hown9 hb9
        dsimp only)
       | (
        go_simp
        refine (HDl.out w9 g9 c9 HB9.out (HO9.out.lt g9 rfl).1 HO9.out).mono ?_;rintro e w10 ⟨rfl,hrow10,hk10⟩;have hg9:=(HO9.out.lt g9 rfl).1;(have HB10:Hid (Below W8.heap.size W8 w10):=⟨hk10.os.trans HB9.out.os,hk10.tape.trans HB9.out.tape,hk10.output.trans HB9.out.output,Nat.le_trans HB9.out.size hk10.size,fun b hb=>(hk10.block b (Nat.lt_of_lt_of_le hb HB9.out.size) (by omega)).trans (HB9.out.block b hb)⟩);(have HD10:Hid (IRow (fun b=>b=g9) w10 (.slice (some ⟨g9,0,none⟩) del.length c9) del):=hrow10);(have HN10:Hid (w10.ownsRow w.heap.size 82 1 (.slice adN needs.length cN) needs.length (needs.map fun i=>(.int .i64 (i:Nat):Value))):=QAz HN8.out HB10.out);have HS10:Hid (w10.heap[S]? = some (.cells #[.string s,.int .i64 (i:Nat),.slice adN needs.length cN,.slice (some ⟨g7,0,none⟩) (kids.length+1) c7] 85 (0,0))):=QAA HB10.out HStp8.out;obtain⟨-,-,h2,h3,-,-,i2,i3⟩:=QAn HS10.out;have zS10:=QAE HS10.out;clear hrow10 hk10 hg9
        dsimp only)
       | fail)
     all_goals
      have hz:=HZ8.out;have hz10:=HB10.out.size;have hz11:=HK11.out.size;(have k12:∀ b,b < W8.heap.size→(Value.slice adN needs.length cN).ownBlock≠some b→b≠S→(w11.setCell ⟨S,2,none⟩ (.slice ad11 (needs++del).length c11)).heap[b]? = W8.heap[b]? := fun b hb h1 h2=>(QAJ _ h2).trans ((HK11.out.block b (by omega) h1).trans (HB10.out.block b hb)))
      have n7:∀ b,(Value.slice adN needs.length cN).ownBlock=some b→b≠g7:=fun b e1 e2=>by
       subst e2
       rcases HG7n.out with h1|h1
       ·exact (H6o.out.fn b e1).2.2.2 h1
       ·have:=HoldN.out b e1
        omega
      have own11:∀ b,(Value.slice ad11 (needs++del).length c11).ownBlock=some b→(Value.slice adN needs.length cN).ownBlock=some b∨w10.heap.size≤b:=fun b e=>by
       rcases HA11.out b e with h1|h1
       ·exact Or.inl h1
       ·exact Or.inr h1.1
      have HO12:Hid (OvR x w M wh i s w.heap.size S (w11.setCell ⟨S,2,none⟩ (.slice ad11 (needs++del).length c11)) (k+1) M2 (needs++del) (kids++[.mk a j ns ks]) ad11 c11 (some ⟨g7,0,none⟩) c7):=by
       (have hkl:(kids++[Plan.mk a j ns ks]).length=kids.length+1:=by simp);(have hdelm:∀ y,y∈del ↔ y∈ns∧y ∉ I.2:=fun y=>by rw [HDel.out,List.mem_filter];simp);(refine⟨HM2g.out,H6o.out.mm,QAM HKe8.out (ok':=fun b=>(Value.slice adN needs.length cN).ownBlock≠some b∧b≠S) ⟨HK11.out.os.trans HB10.out.os,HK11.out.tape.trans HB10.out.tape,HK11.out.output.trans HB10.out.output,by rw [QAO];omega,fun b hb hp=>k12 b hb hp.1 hp.2⟩ fun b hb _=>⟨fun e=>by have:=(HN8.out.lt b e).1;omega,by omega⟩,(k12 _ (QAE HRes8.out) (fun e=>(H6o.out.fn _ e).2.1 rfl) (by omega)).trans HRes8.out,?_,?_,⟨_,?_,HPl8.out.move fun b hb hp=>⟨k12 b hb hp.2.2.2.2.1 hp.2.2.2.1,hp.1,hp.2.1,hp.2.2.1,hp.2.2.2.1,fun e => ?_,fun e=>hp.2.2.2.2.2.1 (by simpa [Value.ownBlock] using e.symm)⟩⟩,H6o.out.fr,H6o.out.fs,H6o.out.rs,fun b e => ?_,fun b e => ?_,H6o.out.lr,H6o.out.ls,by rw [List.length_append,H6o.out.len];rfl,fun j' q hq => ?_,fun y hy => ?_,List.mem_append_left _ H6o.out.inn,?_⟩)
       ·rw [QAS HS11.out,hkl]
        rfl
       ·exact QBF HN11.out fun b e=>QAJ _ (by
         rcases own11 b e with h1|h1
         ·exact (H6o.out.fn b h1).2.2.1
         ·omega)
       ·rw [hkl]
        exact QBF HKr8.out fun b e=>by
         (have eb:g7=b:=by simpa [Value.ownBlock] using e);subst eb;(exact k12 g7 hz.2.1 (fun e1=>n7 g7 e1 rfl) hz.2.2.2.2.2.2.2)
       ·rcases own11 b e with h1|h1
        ·exact hp.2.2.2.2.1 h1
        ·have:=hp.2.2.2.2.2.2
         omega
       ·rcases own11 b e with h1|h1
        ·exact⟨(H6o.out.fn b h1).1,(H6o.out.fn b h1).2.1,(H6o.out.fn b h1).2.2.1,fun e2=>n7 b h1 (by simpa [Value.ownBlock] using e2.symm)⟩
        ·refine⟨fun hm=>by have:=hm6 b hm;omega,by omega,by omega,fun e2 => ?_⟩
         (have:g7=b:=by simpa [Value.ownBlock] using e2);omega
       ·have eb:g7=b:=by simpa [Value.ownBlock] using e
        subst eb;(refine⟨fun hm => ?_,?_,hz.2.2.2.2.2.2.2⟩)
        ·rcases HG7n.out with h1|h1
         ·exact (H6o.out.fk g7 h1).1 hm
         ·have:=hm6 g7 hm
          omega
        ·rcases HG7n.out with h1|h1
         ·exact (H6o.out.fk g7 h1).2.1
         ·omega
       ·rcases Nat.lt_or_ge j' kids.length with hj|hj
        ·rw [List.getElem?_append_left hj] at hq
         obtain⟨b1,b2,b4,b3⟩:=H6o.out.ok j' q hq;(refine⟨b1,b2,b4,fun pr' hpr' y hy => ?_⟩)
         rcases b3 pr' hpr' y hy with h1|h1
         ·exact Or.inl h1
         ·exact Or.inr (List.mem_append_left _ h1)
        ·rw [List.getElem?_append_right hj] at hq
         have hj0:j' - kids.length=0:=by
          rcases Nat.eq_zero_or_pos (j' - kids.length) with h0|h0
          ·exact h0
          ·rw [List.getElem?_eq_none (by simp;omega)] at hq;cases hq
         rw [hj0] at hq;(have eq:Plan.mk a j ns ks=q:=by simpa using hq);subst eq;(have hjk:j'=k:=by have:=H6o.out.len;omega);(refine⟨HPo.out.1,HPo.out.2.1,HNi.out,fun pr' hpr' y hy => ?_⟩);rw [HPe.out,hjk,HPm.out.1] at hpr';have epr:pr=pr':=Option.some.inj hpr';subst epr;by_cases hyI:y∈I.2
         ·exact Or.inl (HPk.out.fresh y hyI).2
         ·exact Or.inr (List.mem_append_right _ ((hdelm y).2 ⟨hy,hyI⟩))
       ·rcases List.mem_append.1 hy with h1|h1
        ·exact H6o.out.here y h1
        ·obtain⟨h2,h3⟩:=(hdelm y).1 h1
         exact (HNs.out y h2).resolve_left h3
       ·have h1:=H6o.out.nlen
        have h2:=HDn.out;rw [List.length_append,Nat.add_mul,Nat.one_mul];omega
      have HSt12:Hid (FinSt x (w11.setCell ⟨S,2,none⟩ (.slice ad11 (needs++del).length c11)) M2 (wh.set i 2) br wk2 false):=HSt8.out.next (fun b hb hKM=>k12 b hb (fun e=>by
       rcases hKM with h1|h1
       ·have h2:=(HS.out.km b h1).2
        have h3:=(HN8.out.lt b e).1;omega
       ·exact (H6o.out.fn b e).1 h1) (fun e=>by
       rcases hKM with h1|h1
       ·have h2:=(HS.out.km b h1).2
        omega
       ·exact H6o.out.fs (e ▸ h1))) (by rw [QAO];omega)
      have hnl:(needs++del).length=needs.length+del.length:=List.length_append;(have eS:S=w.heap.size+1+1:=by omega);subst eS;clear k12 n7 own11 hz10 hz11 hz hm6 a2 a3 b2 b3;go_wp2_with fail
      go_roundg (prs.length - (k+1))
      case measure=>have:=HG.out;omega
      case rel =>
       (refine⟨k+1,M2,needs++del,kids++[.mk a j ns ks],ad11,c11,some ⟨g7,0,none⟩,c7,wk2,by omega,rfl,by go_num,?_,?_,HWn⟩)
       ·first|exact HSt12 | (rw [hnl] at HSt12;exact HSt12)
       ·first|exact HO12 | (rw [hnl] at HO12;exact HO12)
   ·have HSt:Hid (FinSt x w3 M2 wh' br' wk2 op'):=hst
    have HWn:Hid (wk'≤wk2∧wk2≤wk'+cst∧wk2≤67108864+x.L+256):=⟨hw1,hw2,hw3⟩;have HMn:Hid (∀ j,I.1.getD j 0≠0→wh'.getD j 0≠0):=hmono;have HEn:Hid ((op'=true∧OpenS x.ps wh'∧(∀ i,i∈br' ↔ wh'.getD i 0≠0)∧br'.Nodup)∨(op'=false∧67108864 < wk2)):=hend;obtain⟨r0,r1,r2,r3,r4,r5,r6,r7⟩:=QAn HO3.out.res;have zr3:w.heap.size < w3.heap.size:=QAE HO3.out.res;(have zr4:w.heap.size < w3.heap.size+1:=by omega);clear hst hw1 hw2 hw3 hmono hend;unfold QEq;go_wp2_with fail;obtain⟨Wf,hWf⟩:∃ Wf,Wf=((((w3.setCell ⟨w.heap.size,0,none⟩ (.string ⟨#[]⟩)).setCell ⟨w.heap.size,1,none⟩ (.int .i64 0)).setCell ⟨w.heap.size,2,none⟩ (.slice none 0 0)).setCell ⟨w.heap.size,3,none⟩ (.slice none 0 0)).alloc (.cells #[.string ⟨#[]⟩,.int .i64 0,.slice none 0 0,.slice none 0 0] 85 (0,0)):=⟨_,rfl⟩;rw [← hWf];(have hE:Wf.heap[w.heap.size]? = some (.cells #[.string ⟨#[]⟩,.int .i64 0,.slice none 0 0,.slice none 0 0] 85 (0,0)):=by rw [hWf];exact QAG (QCK _ _ _ _ HO3.out.res) _);obtain⟨m0,m1,m2,m3,-⟩:=QAn hE;(refine bodyPost_ret (v := .tuple #[.agg #[.string ⟨#[]⟩,.int .i64 0,.slice none 0 0,.slice none 0 0],.bool false]) (by clear hWf;simp [results,Tryz.results141,go_sem,m0,m1,m2,m3]) rfl ?_);rw [hWf];have h5:=HWn.out;have h6:=HCo.out;(have h7:(k+1) * cst≤prs.length * cst:=Nat.mul_le_mul_right _ (by omega));have h8:=HW.out;rw [Nat.add_mul,Nat.one_mul] at h7;(refine⟨M2,HM2g.out,HO3.out.mm,(QAM HO3.out.kept (QCc w3 w.heap.size _ _ _ _) fun b hb _ e=>by omega).alloc _,Or.inr ⟨op',wh',br',wk2,rfl,(HSt.out.p4 _ _ _ _ HO3.out.fr (fun b hb e=>by have:=(HS.out.km b hb).2;omega)).up ((Below.refl _ _).alloc (Nat.le_refl _) _),by omega,by omega,by omega,fun j hj=>HMn.out j ?_,HEn.out⟩⟩);rw [HPk.out.get];by_cases e:j∈I.2
    ·rw [if_pos e];omega
    ·rw [if_neg e];exact hj
  ·have hge:¬ (k:Int) < (prs.length:Int):=by omega
   (have hke:k=prs.length:=by omega);subst hke;(have hnne:needs≠[]:=fun e=>by have:=HO.out.inn;rw [e] at this;cases this)
   obtain⟨g,hg⟩:∃ g,adN=some ⟨g,0,none⟩:=by
    rcases HO.out.rows.2 with ⟨-,h0⟩|⟨g,cap',cur,hv,-⟩
    ·exact absurd (List.length_eq_zero_iff.1 h0) hnne
    ·simp only [Value.slice.injEq,true_and] at hv
     exact⟨g,hv.1⟩
   subst hg
   have hnlen:needs.length≤10000000:=by
    have h1:=HO.out.nlen;have h2:=HLI.out;have h3:prs.length * x.L≤2 * x.L:=Nat.mul_le_mul_right _ hl2;omega
   have hcaps:=QAt HO.out.rows;have HSo:Hid (Calls Tryz.prog 179 #[.slice (some ⟨g,0,none⟩) needs.length cN] wr _):=QNl needs g cN wr (QGU HO.out.rows) hnne hnlen;obtain⟨gM,gR,gS,gK⟩:=HO.out.fn g rfl;have HGn:Hid (¬ M' g∧g≠w.heap.size∧g≠w.heap.size+1+1∧(Value.slice adK kids.length cK).ownBlock≠some g∧w.heap.size≤g∧g < wr.heap.size):=⟨gM,gR,gS,gK,HO.out.rows.lt g rfl⟩;have HCp:Hid (needs.length≤10000000∧needs.length≤cN∧cN≤maxLen):=⟨hnlen,hcaps⟩;obtain⟨s0,s1,s2,s3,-⟩:=QAn HO.out.step;clear hnne hnlen hcaps gM gR gS gK;go_wp2_with fail;refine HSo.out.mono ?_;clear HSo;rintro e w2 ⟨rfl,l1,hperm,hsorted,hH,hk2⟩;have hl1:l1.length=needs.length:=hperm.length_eq;(have hcc0:=QNO l1 g cN w2 hH hsorted (by rw [hl1];exact HCp.out.1) (by rw [hl1];exact HCp.out.2.1) HCp.out.2.2);rw [hl1] at hcc0;have HCc:Hid (Calls Tryz.prog 180 #[.slice (some ⟨g,0,none⟩) needs.length cN] w2 _):=hcc0;(have HMem:Hid (∀ y,y∈l1 ↔ y∈needs):=fun y=>hperm.mem_iff);(have HK2:Hid (Kept (fun b=>b≠g) wr w2):=hk2);(have HS2:Hid (w2.heap[w.heap.size+1+1]? = some (.cells #[.string s,.int .i64 (i:Nat),.slice (some ⟨g,0,none⟩) needs.length cN,.slice adK kids.length cK] 85 (0,0))):=(hk2.block _ (QAE HO.out.step) (fun e=>HGn.out.2.2.1 e.symm)).trans HO.out.step);obtain⟨a0,a1,a2,a3,-⟩:=QAn HS2.out;clear hH hsorted hperm hk2 hl1 hcc0 s0 s1 s2 s3;go_wp2_with fail;refine HCc.out.mono ?_;clear HCc;rintro e w3 ⟨l2,rfl,hrow,hnd,hmem,hk3⟩;(have HK3:Hid (Kept (fun b=>b≠g) wr w3):=QAM HK2.out hk3 fun _ _ h=>h);(have HS3:Hid (w3.heap[w.heap.size+1+1]? = some (.cells #[.string s,.int .i64 (i:Nat),.slice (some ⟨g,0,none⟩) needs.length cN,.slice adK kids.length cK] 85 (0,0))):=(HK3.out.block _ (QAE HO.out.step) (fun e=>HGn.out.2.2.1 e.symm)).trans HO.out.step);(have HR3:Hid (w3.heap[w.heap.size]? = some (.cells #[.string ⟨#[]⟩,.int .i64 0,.slice none 0 0,.slice none 0 0] 85 (0,0))):=(HK3.out.block _ (QAE HO.out.res) (fun e=>HGn.out.2.1 e.symm)).trans HO.out.res);(have HRow:Hid (IRow (fun b=>b=g) w3 (.slice (some ⟨g,0,none⟩) l2.length cN) l2):=hrow);(have HNd:Hid (l2.Nodup∧∀ y,y∈l2 ↔ y∈needs):=⟨hnd,fun y=>(hmem y).trans (HMem.out y)⟩);obtain⟨b0,b1,b2,b3,c0,c1,c2,c3⟩:=QAn HS3.out;obtain⟨r0,r1,r2,r3,r4,r5,r6,r7⟩:=QAn HR3.out;(have nRS:¬ w.heap.size=w.heap.size+1+1:=by omega);(have nSR:¬ w.heap.size+1+1=w.heap.size:=by omega);clear hrow hnd hmem hk3 a0 a1 a2 a3;go_wp2_with fail;obtain⟨Wf,hWf⟩:∃ Wf,Wf=(((((w3.setCell ⟨w.heap.size+1+1,2,none⟩ (.slice (some ⟨g,0,none⟩) l2.length cN)).setCell ⟨w.heap.size,0,none⟩ (.string s)).setCell ⟨w.heap.size,1,none⟩ (.int .i64 (i:Nat))).setCell ⟨w.heap.size,2,none⟩ (.slice (some ⟨g,0,none⟩) l2.length cN)).setCell ⟨w.heap.size,3,none⟩ (.slice adK kids.length cK)):=⟨_,rfl⟩;rw [← hWf];(have hE:Wf.heap[w.heap.size]? = some (.cells #[.string s,.int .i64 (i:Nat),.slice (some ⟨g,0,none⟩) l2.length cN,.slice adK kids.length cK] 85 (0,0)):=by rw [hWf];exact QCK _ _ _ _ ((QAJ _ nRS).trans HR3.out));obtain⟨m0,m1,m2,m3,-⟩:=QAn hE;(refine bodyPost_ret (v := .tuple #[.agg #[.string s,.int .i64 (i:Nat),.slice (some ⟨g,0,none⟩) l2.length cN,.slice adK kids.length cK],.bool true]) (by clear hWf;simp [results,Tryz.results141,go_sem,m0,m1,m2,m3]) rfl ?_)
   have kf:∀ b,b < wr.heap.size→b≠g→b≠w.heap.size→b≠w.heap.size+1+1→Wf.heap[b]? = wr.heap[b]? := fun b hb h1 h2 h3=>by
    rw [hWf,QCJ _ _ _ _ h2,QAJ _ h3];exact HK3.out.block b hb h1
   (have kg:Wf.heap[g]? = w3.heap[g]? := by rw [hWf,QCJ _ _ _ _ HGn.out.2.1,QAJ _ HGn.out.2.2.1]);(have zf':w3.heap.size=Wf.heap.size:=by rw [hWf,QEZ,QAO]);have z3:=HK3.out.size;have hgg:=HGn.out;obtain⟨cs,hkr,hkq⟩:=HO.out.kid;have h5:=HW.out;have h6:=HCo.out;(refine⟨M',HO.out.mg,HO.out.mm,⟨by rw [hWf];exact HK3.out.os.trans HO.out.kept.os,by rw [hWf];exact HK3.out.tape.trans HO.out.kept.tape,by rw [hWf];exact HK3.out.output.trans HO.out.kept.output,by have:=HO.out.kept.size;omega,fun b hb hm=>(kf b (Nat.lt_of_lt_of_le hb HO.out.kept.size) (by omega) (by omega) (by omega)).trans (HO.out.kept.block b hb hm)⟩,Or.inl ⟨.mk s i l2 kids,_,wk',rfl,?_,QCk.mk _ _ _ _ HNd.out.1 (fun q hq => ?_) (fun q hq => ?_),fun y hy=>HO.out.here y ((HNd.out.2 y).1 hy),?_,?_,h5.1,by omega,h5.2.2⟩⟩)
   ·refine QAo.step s i l2 kids (by have h7:=HS.out.l2;omega) HRu.out ((HNd.out.2 i).2 HO.out.inn) (by rw [HPe.out];exact HNe.out) (by rw [HPe.out];exact HO.out.len) (fun j q hq=>(HO.out.ok j q hq).1) fun j q pr hq hpr y hy => ?_
    rcases (HO.out.ok j q hq).2.2.2 pr hpr y hy with h7|h7
    ·exact Or.inl h7
    ·exact Or.inr ((HNd.out.2 y).2 h7)
   ·obtain⟨j,hj⟩:=List.getElem?_of_mem hq
    exact (HO.out.ok j q hj).2.1
   ·obtain⟨j,hj⟩:=List.getElem?_of_mem hq
    exact (HO.out.ok j q hj).2.2.1
   ·have hkids:0 < kids.length:=by
     rw [HO.out.len];exact List.length_pos_iff.2 HNe.out
    obtain⟨gk',ek,hck⟩:=QBZ hkr hkids;subst ek;have hgk:=HO.out.fk gk' rfl;have hgkl:=hkr.lt gk' rfl;(have hgkg:gk'≠g:=fun e=>hgg.2.2.2.1 (by rw [e];rfl));(refine (hkq.move (P':=fun b=>w.heap.size≤b∧¬ M' b) fun b hb hp=>⟨kf b hb (fun e=>hp.2.2.2.2.1 (by rw [e];rfl)) hp.2.2.1 hp.2.2.2.1,hp.1,hp.2.1⟩).plan HSm.out (HRow.out.move fun b _ hp=>⟨by rw [hp];exact kg,by rw [hp];exact hgg.2.2.2.2.1,by rw [hp];exact hgg.1⟩) (QAt hkr).1 (QAt hkr).2 (b:=gk') (fun _=>⟨rfl,hgkl.1,hgk.1⟩) fun j u hu => ?_);have:=hck j u hu;rw [QAZ,Nat.zero_add] at this;exact (QAQ (a:=⟨gk',j,none⟩) (kf gk' hgkl.2 hgkg hgk.2.1 hgk.2.2)).trans this
   ·exact HF.out.next (fun b hb hKM=>kf b hb (fun e=>by
     rcases hKM with h7|h7
     ·have:=(HS.out.km b h7).2
      omega
     ·exact hgg.1 (e ▸ h7)) (fun e=>by
     rcases hKM with h7|h7
     ·have:=(HS.out.km b h7).2
      omega
     ·exact HO.out.fr (e ▸ h7)) (fun e=>by
     rcases hKM with h7|h7
     ·have:=(HS.out.km b h7).2
      omega
     ·exact HO.out.fs (e ▸ h7))) (by omega)
end Go.Proofs.YtbmedfokpgghiacGreat
