import Derived.Test.YtbmedfokpgghiacGreatB22
import Derived.Laws.Bits64
import Derived.Test.YtbmedfokpgghiacGreatB14
import Derived.Deep.AppendLies
namespace Go.Proofs.YtbmedfokpgghiacGreat
open Go.RowKit Go.Maps Go.WideMaps
theorem QOO {w:World} {b:Nat} {x0 x1 x2 x3 x4:Value} {T:TypeId} (h:w.heap[b]? = some (.cells #[x0,x1,x2,x3,x4] T (0,0))) (v:Value):(w.setCell ⟨b,3,none⟩ v).heap[b]? = some (.cells #[x0,x1,x2,v,x4] T (0,0)):=by
 simp [World.setCell,Array.getElem?_modify,h]
theorem QOP {w:World} {b:Nat} {x0 x1 x2 x3 x4:Value} {T:TypeId} (h:w.heap[b]? = some (.cells #[x0,x1,x2,x3,x4] T (0,0))) (v:Value):(w.setCell ⟨b,4,none⟩ v).heap[b]? = some (.cells #[x0,x1,x2,x3,v] T (0,0)):=by
 simp [World.setCell,Array.getElem?_modify,h]
theorem QCz:∀ (ks:List Fm) (i:Nat) (g:Fm),ks[i]? = some g→Fm.sizes (ks.take (i+1))=Fm.sizes (ks.take i)+g.size∧Fm.sizes (ks.take i)+g.size≤Fm.sizes ks
 | [],i,g,h=>by simp at h
 | x :: ks,0,g,h=>by
  (have e:x=g:=by simpa using h);subst e;(have e0:Fm.sizes ([]:List Fm)=0:=by rw [Fm.sizes]);rw [List.take_succ_cons,List.take_zero,List.take_zero,e0];(have e1:Fm.sizes [x]=x.size+0:=by simp [Fm.sizes]);(have:Fm.sizes (x :: ks)=x.size+Fm.sizes ks:=by rw [Fm.sizes])
  omega
 | x :: ks,i+1,g,h=>by
  (have:=QCz ks i g (by simpa using h));(have e:Fm.sizes (x :: ks)=x.size+Fm.sizes ks:=by rw [Fm.sizes]);rw [List.take_succ_cons,List.take_succ_cons,Fm.sizes,Fm.sizes];omega
theorem QAM {ok ok':Nat→Prop} {a b c:World} (h:Kept ok a b) (k:Kept ok' b c) (hi:∀ x,x < a.heap.size→ok x→ok' x):Kept ok a c :=
 ⟨k.os.trans h.os,k.tape.trans h.tape,k.output.trans h.output,Nat.le_trans h.size k.size,fun x hx ho=>(k.block x (Nat.lt_of_lt_of_le hx h.size) (hi x hx ho)).trans (h.block x hx ho)⟩
def QNL (Ph:Fm→Prop) (m:Nat):Prop:=∀ (f:Fm) (v:Value) (w:World) (T:Nat→Prop) (bt:Nat) (ps:List PartM) (fs:List Fm),f.size < m→Ph f→Rep w (fun b=>¬ T b) f v→Tab Ph w T bt ps fs→fs.length+f.size≤100000 →
 Calls Tryz.prog 91 #[.pointer (some ⟨bt,0,none⟩),v] w fun e w'=>∃ n T' ps' gs,e = .returned (.int .i64 (n:Nat))∧(fs++gs)[n]? = some f∧Tab Ph w' T' bt (ps++ps') (fs++gs)∧gs.length≤f.size∧(∀ b,T' b→T b∨w.heap.size≤b)∧Kept (fun b=>¬ T b) w w'
set_option maxRecDepth 10000 in
set_option maxHeartbeats 4000000 in
theorem QMi {Ph:Fm→Prop} (hc:QDe Ph) (m:Nat) (ih:QNL Ph m):QNL Ph (m+1):=by
 intro f v w T bt ps fs hm hf hrep htab hlen;obtain⟨k,n,ks⟩:=f;(have hrep2:Rep w (fun b=>¬ T b∧b < w.heap.size) (.mk k n ks) v:=hrep.weak fun b h1 h2=>⟨h2,h1⟩);obtain⟨sl,cap,rfl,hx1,hx2,hx3,hx4⟩:=Rep.def.1 hrep2;(have HX:Hid (ks≠[]→∃ b off,sl=some ⟨b,off,none⟩∧(¬ T b∧b < w.heap.size)∧Reps w (fun b=>¬ T b∧b < w.heap.size) b off ks):=hx4);have HTab:Hid (Tab Ph w T bt ps fs):=htab;have HPh:Hid (Ph (.mk k n ks)):=hf;have hk2:ks.length≤2:=(hc.fine _ hf).small.2;have HC:Hid (QDe Ph):=hc;have HIH:Hid (QNL Ph m):=ih;have HMs:Hid ((Fm.mk k n ks).size < m+1):=hm;have HLn:Hid (fs.length+(Fm.mk k n ks).size≤100000):=hlen;(have hkI:(ks.length:Int)≤2:=by omega);(have hkc:(ks.length:Int)≤(cap:Int):=by omega);clear hx4 hrep hrep2 htab hf hc ih hm hlen
 go_enter Tryz.func91,Tryz.ntmps91
 go_wp2_with fail;have B0:Below w.heap.size w ((w.alloc (.cells #[.int .i64 k,.string n,.slice sl ks.length cap] 29 (0,0))).alloc (.cells #[.int .i64 k,.string n,.int .i64 (ks.length:Nat),.int .i64 0,.int .i64 0] 158 (0,0))):=QAB (QAB (Below.refl _ w) _) _;have Q0:((w.alloc (.cells #[.int .i64 k,.string n,.slice sl ks.length cap] 29 (0,0))).alloc (.cells #[.int .i64 k,.string n,.int .i64 (ks.length:Nat),.int .i64 0,.int .i64 0] 158 (0,0))).heap[w.heap.size+1]? = some (.cells #[.int .i64 k,.string n,.int .i64 (ks.length:Nat),.int .i64 0,.int .i64 0] 158 (0,0)):=QAa w _ _;(have Z0:((w.alloc (.cells #[.int .i64 k,.string n,.slice sl ks.length cap] 29 (0,0))).alloc (.cells #[.int .i64 k,.string n,.int .i64 (ks.length:Nat),.int .i64 0,.int .i64 0] 158 (0,0))).heap.size=w.heap.size+2:=by simp);have HB0:Hid (Below w.heap.size w ((w.alloc (.cells #[.int .i64 k,.string n,.slice sl ks.length cap] 29 (0,0))).alloc (.cells #[.int .i64 k,.string n,.int .i64 (ks.length:Nat),.int .i64 0,.int .i64 0] 158 (0,0)))):=B0;have HQ0:Hid (((w.alloc (.cells #[.int .i64 k,.string n,.slice sl ks.length cap] 29 (0,0))).alloc (.cells #[.int .i64 k,.string n,.int .i64 (ks.length:Nat),.int .i64 0,.int .i64 0] 158 (0,0))).heap[w.heap.size+1]? = some (.cells #[.int .i64 k,.string n,.int .i64 (ks.length:Nat),.int .i64 0,.int .i64 0] 158 (0,0))):=Q0;have HZ0:Hid (((w.alloc (.cells #[.int .i64 k,.string n,.slice sl ks.length cap] 29 (0,0))).alloc (.cells #[.int .i64 k,.string n,.int .i64 (ks.length:Nat),.int .i64 0,.int .i64 0] 158 (0,0))).heap.size=w.heap.size+2):=Z0;clear B0 Q0 Z0;generalize (w.alloc (.cells #[.int .i64 k,.string n,.slice sl ks.length cap] 29 (0,0))).alloc (.cells #[.int .i64 k,.string n,.int .i64 (ks.length:Nat),.int .i64 0,.int .i64 0] 158 (0,0))=W at *;have HT0:Hid (Tab Ph W T bt ps fs):=HTab.out.up HB0.out
 go_loopg [21] ks.length (fun g c wr=>∃ i js T' ps' gs,i≤ks.length∧g=ks.length - i∧c = .int .i64 (i:Nat)∧js.length=i∧Hid (NumsAre (fs++gs) js (ks.take i))∧Hid (Tab Ph wr T' bt (ps++ps') (fs++gs))∧Hid (gs.length≤Fm.sizes (ks.take i))∧Hid (∀ b,T' b→T b∨w.heap.size+2≤b)∧Hid (Kept (fun b=>¬ T b) w wr)∧Hid (w.heap.size+2≤wr.heap.size)∧Hid (wr.heap[w.heap.size+1]? = some (.cells #[.int .i64 k,.string n,.int .i64 (ks.length:Nat),.int .i64 ((js.getD 0 0:Nat):Int),.int .i64 ((js.getD 1 0:Nat):Int)] 158 (0,0))))
 case atStart =>
  (refine⟨0,[],T,[],[],by omega,by omega,rfl,rfl,⟨(fun j hj=>by cases hj),rfl⟩,by rw [List.append_nil,List.append_nil];exact HT0.out,Nat.zero_le _,fun b h=>Or.inl h,QAN HB0.out fun _ h _=>h,Nat.le_of_eq HZ0.out.symm,HQ0.out⟩)
 case round =>
  obtain⟨i,js,T',ps',gs,hi,hg,rfl,hjl,HNu,HTa,HGl,HT',HKe,HSz,HQ⟩:=hrel;have HG:Hid (gk=ks.length - i):=hg;clear hg HT0 HQ0 HB0 HZ0
  have hTb:¬ T' (w.heap.size+1):=fun h=>by
   rcases HT'.out _ h with h|h
   ·have:=HTab.out.old _ h
    omega
   ·omega
  have HTb:Hid (¬ T' (w.heap.size+1)):=hTb;clear hTb;by_cases hlt:i < ks.length
  ·obtain⟨⟨kk,kn,kks⟩,hkid⟩:∃ g,ks[i]? = some g:=⟨_,List.getElem?_eq_getElem hlt⟩
   (obtain⟨b,off,rfl,hb,hrs⟩:=HX.out (fun e=>by rw [e] at hlt;simp at hlt));(have HRs:Hid (Reps wr (fun b=>¬ T b∧b < w.heap.size) b off ks):=hrs.kept hb (HKe.out.mono fun _ _ h=>h.1));obtain⟨sk,ck,c0,c1,c2,hrk⟩:=HRs.out.at i kk kn kks hkid;(have HRk:Hid (Rep wr (fun b=>¬ T b∧b < w.heap.size) (.mk kk kn kks) _):=hrk);(have hltI:(i:Int) < (ks.length:Int):=by omega);(have hltc:(i:Int) < (cap:Int):=by omega);(have hi2:(i:Int) < 2:=by omega);have zb:=QAI c0;simp only at zb;clear hrs hrk hb HX;go_wp2_with fail;have hsz:=QCz ks i _ hkid;have HSk:Hid (Fm.sizes (ks.take (i+1))=Fm.sizes (ks.take i)+(Fm.mk kk kn kks).size):=hsz.1
   have hcall:=HIH.out (.mk kk kn kks) _ (wr.alloc (.cells #[.int .i64 kk,.string kn,.slice sk kks.length ck] 29 (0,0))) T' bt (ps++ps') (fs++gs) (by have:=HMs.out;rw [Fm.size] at this;omega) (HC.out.kids _ _ _ HPh.out _ (List.mem_of_getElem? hkid))
    (HRk.out.move (ok':=fun b=>¬ T' b) fun b h1 h2=>⟨Below.heap_alloc _ _ _ h1,fun h=>by
     rcases HT'.out b h with h|h
     ·exact h2.1 h
     ·have:=h2.2
      omega⟩) (HTa.out.up ((Below.refl _ wr).alloc (Nat.le_refl _) _)) (by
     have h1:=HLn.out;have h2:=HGl.out;rw [Fm.size] at h1;rw [List.length_append]
     omega)
   refine hcall.mono ?_;clear hcall;rintro e w2 ⟨j,T2,ps2,gs2,rfl,hj,htab2,hgl2,hT2,hke2⟩;have hsw:w.heap.size+2≤wr.heap.size:=HSz.out;(have Q2:Hid (w2.heap[w.heap.size+1]? = some _):=(hke2.block (w.heap.size+1) (by simp;omega) HTb.out).trans (QAG HQ.out _))
   have hT2b:∀ b,T2 b→T b∨w.heap.size+2≤b:=fun b h=>by
    rcases hT2 b h with h|h
    ·exact HT'.out b h
    ·right
     simp at h;omega
   have hT2n:¬ T2 (w.heap.size+1):=fun h=>by
    rcases hT2b _ h with h|h
    ·have:=HTab.out.old _ h
     omega
    ·omega
   have HK2:Hid (Kept (fun b=>¬ T b) w w2):=QAM (HKe.out.alloc _) hke2 fun b hb h h'=>by
    rcases HT'.out b h' with h2|h2
    ·exact h h2
    ·omega
   have HTa2:Hid (Tab Ph w2 T2 bt (ps++ps'++ps2) (fs++gs++gs2)):=htab2;have HT2b:Hid (∀ b,T2 b→T b∨w.heap.size+2≤b):=hT2b;have HT2n:Hid (¬ T2 (w.heap.size+1)):=hT2n;have HJ:Hid ((fs++gs++gs2)[j]? = some (.mk kk kn kks)):=hj;have HGl2:Hid (gs2.length≤(Fm.mk kk kn kks).size):=hgl2
   have HS2:Hid (wr.heap.size+1≤w2.heap.size):=by
    have:=hke2.size;simp at this;exact this
   have HTk:Hid (ks.take (i+1)=ks.take i++[.mk kk kn kks]):=by
    show _=_;rw [List.take_add_one,hkid];rfl
   clear hj htab2 hgl2 hT2 hke2 hT2b hT2n HTa HKe HT' HTb HIH HRs HRk c0 c1 c2 zb hsz hkid;obtain⟨d0,d1,d2,d3,d4,z0,z1,z2,z3,z4⟩:=QCg Q2.out;(have e01:i=0∨i=1:=by omega)
   rcases e01 with rfl|rfl
   ·go_wp2_with fail
    go_roundg (ks.length - (0+1))
    case measure=>have:=HG.out;omega
    case rel =>
     have hs2:=HS2.out;(refine⟨0+1,js++[j],T2,ps'++ps2,gs++gs2,by omega,rfl,by go_num,by rw [List.length_append,hjl];rfl,?_,?_,?_,HT2b.out,HK2.out.setCell (fun h=>absurd h (by simp)) _,?_,?_⟩)
     ·rw [← List.append_assoc,HTk.out]
      exact HNu.out.grow.snoc HJ.out
     ·rw [← List.append_assoc,← List.append_assoc]
      (exact HTa2.out.same (fun b hb _=>Below.heap_setCell _ _ _ _ (fun e=>HT2n.out (by simp at e;rw [← e];exact hb))) (by simp [World.setCell]))
     ·show _≤_
      rw [HSk.out,List.length_append];have h1:=HGl.out;have h2:=HGl2.out;omega
     ·show _≤_
      simp [World.setCell];omega
     ·have hq:=Q2.out
      obtain rfl:js=[]:=List.length_eq_zero_iff.1 hjl;exact QOO hq _
   ·go_wp2_with fail
    go_roundg (ks.length - (1+1))
    case measure=>have:=HG.out;omega
    case rel =>
     have hs2:=HS2.out;(refine⟨1+1,js++[j],T2,ps'++ps2,gs++gs2,by omega,rfl,by go_num,by rw [List.length_append,hjl];rfl,?_,?_,?_,HT2b.out,HK2.out.setCell (fun h=>absurd h (by simp)) _,?_,?_⟩)
     ·rw [← List.append_assoc,HTk.out]
      exact HNu.out.grow.snoc HJ.out
     ·rw [← List.append_assoc,← List.append_assoc]
      (exact HTa2.out.same (fun b hb _=>Below.heap_setCell _ _ _ _ (fun e=>HT2n.out (by simp at e;rw [← e];exact hb))) (by simp [World.setCell]))
     ·show _≤_
      rw [HSk.out,List.length_append];have h1:=HGl.out;have h2:=HGl2.out;omega
     ·show _≤_
      simp [World.setCell];omega
     ·have hq:=Q2.out
      obtain⟨j0,rfl⟩:∃ x,js=[x]:=List.length_eq_one_iff.1 hjl;exact QOP hq _
  ·have hge:¬ (i:Int) < (ks.length:Int):=by omega
   (have hie:i=ks.length:=by omega);subst hie;clear HG;rw [List.take_length] at HNu HGl;obtain⟨x0,hx0⟩:∃ x,x=js.getD 0 0:=⟨_,rfl⟩;obtain⟨x1,hx1⟩:∃ x,x=js.getD 1 0:=⟨_,rfl⟩;rw [← hx0,← hx1] at HQ;obtain⟨p,hpe⟩:∃ p:PartM,p=⟨k,n,js⟩:=⟨_,rfl⟩
   have hlf:(fs++gs).length≤100000:=by
    have h1:=HLn.out;have h2:=HGl.out;rw [Fm.size] at h1;rw [List.length_append];omega
   (have hsm:=QJW (p:=p) HC.out HPh.out (by rw [hpe]) (by rw [hpe]) (by rw [hpe];exact HNu.out) hlf);obtain⟨adP,cP,adN,cN,bm,h1,-,-,-,h5,-⟩:=HTa.out.tab;obtain⟨nn,D,hmap,hnn,hh1,hh2⟩:=h5;(have hkv:(Value.agg #[.int .i64 k,.string n,.int .i64 (ks.length:Nat),.int .i64 (x0:Nat),.int .i64 (x1:Nat)]) = .agg ⟨QAc p⟩:=by rw [hpe,hx0,hx1];unfold QAc PartM.k0 PartM.k1;rw [hjl])
   have hkey:keyOf Tryz.prog 158 (.agg #[.int .i64 k,.string n,.int .i64 (ks.length:Nat),.int .i64 (x0:Nat),.int .i64 (x1:Nat)])=some (QBA p):=by
    rw [hkv];(exact QKO _ _ _ _ _ (WalkArith.wf_i64 (by have:=hsm.1.kind;omega)) (WalkArith.wf_i64 (by have:=hsm.1.two;omega)) (WalkArith.wf_i64 (by have:=QCY hsm.1;omega)) (WalkArith.wf_i64 (by have:=QCY hsm.1;omega)) hsm.1.name)
   obtain⟨c,hcw,hat,hlk⟩:∃ c,(Lit.int .i64 c).wf=true∧D.atKey (QBA p) (.lit (.int .i64 0)) = .lit (.int .i64 c)∧∀ x,(Instr.lookup 145 (.map (some bm)) (.agg #[.int .i64 k,.string n,.int .i64 (ks.length:Nat),.int .i64 (x0:Nat),.int .i64 (x1:Nat)]) true).run Tryz.prog (wr.drewN x) = .ok (.tuple #[.int .i64 c,.bool (Maps.has D (QBA p))]) (wr.drewN x):=by
    have QCI:∀ x,∃ c,(Instr.lookup 145 (.map (some bm)) (.agg #[.int .i64 k,.string n,.int .i64 (ks.length:Nat),.int .i64 (x0:Nat),.int .i64 (x1:Nat)]) true).run Tryz.prog (wr.drewN x) = .ok (.tuple #[.int .i64 c,.bool (Maps.has D (QBA p))]) (wr.drewN x)∧D.atKey (QBA p) (.lit (.int .i64 0)) = .lit (.int .i64 c)∧(Lit.int .i64 c).wf=true:=fun x=>by
     have hm:(wr.drewN x).ownsMap Tryz.prog 158 (plainElem Tryz.prog 3) bm nn D:=hmap;(obtain⟨v,pl,hrun,hv⟩:=hm.look_ok QKS Tryz.underlying145 (QKe _) (plainElem_int Tryz.underlying3 (WalkArith.wf_i64 (by omega))) hkey);obtain⟨c,rfl,hz,hw⟩:=plainElem_int_inv Tryz.underlying3 hv;(exact⟨c,hrun,by injection hz,hw⟩)
    obtain⟨c,-,hat,hcw⟩:=QCI 0;(refine⟨c,hcw,hat,fun x => ?_⟩);obtain⟨c',hrun,hat',-⟩:=QCI x;rw [hat] at hat';(have:c=c':=by injection hat' with e;injection e);rw [this];exact hrun
   have HSm:Hid (QAu p∧n.size≤8):=hsm;have HKv:Hid ((Value.agg #[.int .i64 k,.string n,.int .i64 (ks.length:Nat),.int .i64 (x0:Nat),.int .i64 (x1:Nat)]) = .agg ⟨QAc p⟩):=hkv;have HPe:Hid (p=⟨k,n,js⟩):=hpe;have HLf:Hid ((fs++gs).length≤100000):=hlf;have hhas:=hh1 p hsm.1;have HH2:Hid (∀ p,p∈ps++ps'→∃ i,(ps++ps')[i]? = some p∧∀ z,D.atKey (QBA p) z = .lit (.int .i64 (i:Nat))):=hh2;have HAt:Hid (D.atKey (QBA p) (.lit (.int .i64 0)) = .lit (.int .i64 c)):=hat;obtain⟨j0,j1,j2,-⟩:=QAb h1;obtain⟨c0,c1,c2,c3,c4,-⟩:=QCg HQ.out;rw [hhas] at hlk;clear hx0 hx1 hh1 hh2 hmap hnn hhas hsm hkv hkey hpe hlf h1 hcw hat hjl hlt hi hge HX HIH;by_cases hin:p∈ps++ps'
   ·rw [decide_eq_true hin] at hlk
    have HIn:Hid (p∈ps++ps'):=hin;clear hin;go_wp2_with fail
    go_quiet (fail)
    go_wp2_with fail;go_ret;obtain⟨i,hi,hz⟩:=HH2.out p HIn.out
    have hci:(c:Int)=(i:Nat):=by
     have h1:=(hz (.lit (.int .i64 0))).symm.trans HAt.out
     injection h1 with h2
     injection h2 with h3 h4
     exact h4.symm
    (have hfm:p.fm (fs++gs) = .mk k n ks:=Tab.fm (by rw [HPe.out]) (by rw [HPe.out]) (by rw [HPe.out];exact HNu.out));(refine⟨i,T',ps',gs,by rw [hci];rfl,by rw [← hfm];exact HTa.out.ok.found hi,HTa.out.same (fun _ _ _=>rfl) (Nat.le_refl _),?_,fun b h => ?_,HKe.out.drewN _⟩)
    ·have:=HGl.out
     rw [Fm.size];omega
    ·rcases HT'.out b h with h|h
     ·exact Or.inl h
     ·exact Or.inr (by omega)
   ·rw [decide_eq_false hin] at hlk
    have HIn:Hid (p ∉ ps++ps'):=hin;clear hin;go_wp2_with fail
    go_quiet (fail)
    go_wp2_with fail;(have hfm:p.fm (fs++gs) = .mk k n ks:=Tab.fm (by rw [HPe.out]) (by rw [HPe.out]) (by rw [HPe.out];exact HNu.out));have HFm:Hid (p.fm (fs++gs) = .mk k n ks):=hfm;have hlen2:=HTa.out.ok.len;(have hkl:∀ j∈p.kids,j < (fs++gs).length:=by rw [HPe.out];exact HNu.out.1)
    have hcall:=QMk (wr.drewN nq) T' bt (ps++ps') ((fs++gs).map Fm.size) (HTa.out.tab.same fun _ _ _=>rfl) p HSm.out.1 HIn.out (by rw [hlen2];exact hkl) (by rw [hlen2];exact HLf.out) (fun m hm=>by
     obtain⟨g,hg,rfl⟩:=List.mem_map.1 hm;have:=HC.out.small g (HTa.out.all g hg)
     omega) (by have:=HSm.out.2;rw [HPe.out];exact this)
    rw [← HKv.out,QMg hkl] at hcall;refine hcall.mono ?_;clear hcall;rintro e w5 ⟨rfl,htab5,hke5⟩;have HTab5:Hid (TabAt w5 _ bt (ps++ps'++[p]) ((fs++gs).map Fm.size++[(p.fm (fs++gs)).size])):=htab5;(have HKe5:Hid (Kept (fun b=>¬ T' b) (wr.drewN nq) w5):=hke5);have HKl:Hid (∀ j∈p.kids,j < (fs++gs).length):=hkl;have HLe:Hid ((ps++ps').length=(fs++gs).length):=hlen2;clear htab5 hke5 hkl hlen2 hfm;go_wp2_with fail;go_ret;(refine⟨(ps++ps').length,fun b=>T' b∨(wr.heap.size≤b∧b < w5.heap.size),ps'++[p],gs++[p.fm (fs++gs)],by rw [List.length_append,Int.natCast_add];rfl,?_,⟨?_,?_,?_,?_⟩,?_,?_,?_⟩)
    ·rw [HLe.out,← List.append_assoc,HFm.out]
     simp
    ·have:=HTab5.out
     rw [← List.append_assoc,← List.append_assoc,List.map_append];exact this
    ·rw [← List.append_assoc,← List.append_assoc]
     exact HTa.out.ok.snoc HKl.out HIn.out
    ·intro g hg
     rw [← List.append_assoc] at hg
     rcases List.mem_append.1 hg with h|h
     ·exact HTa.out.all g h
     ·rw [List.mem_singleton.1 h,HFm.out];exact HPh.out
    ·intro b hb
     rcases hb with h|h
     ·exact Nat.lt_of_lt_of_le (HTa.out.old b h) HKe5.out.size
     ·exact h.2
    ·have:=HGl.out
     rw [Fm.size,List.length_append];show _+1≤_;omega
    ·intro b hb
     have hsw:w.heap.size+2≤wr.heap.size:=HSz.out
     rcases hb with h|h
     ·rcases HT'.out b h with h|h
      ·exact Or.inl h
      ·exact Or.inr (by omega)
     ·exact Or.inr (by omega)
    ·exact QAM (HKe.out.drewN nq) HKe5.out fun b hb h h'=>by
      rcases HT'.out b h' with h2|h2
      ·exact h h2
      ·omega
theorem QIQ {Ph:Fm→Prop} (hc:QDe Ph):∀ m,QNL Ph m
 | 0=>fun _ _ _ _ _ _ _ h=>absurd h (Nat.not_lt_zero _)
 | m+1=>QMi hc m (QIQ hc m)
theorem QFl {Ph:Fm→Prop} (hc:QDe Ph) (f:Fm) (v:Value) (w:World) (T:Nat→Prop) (bt:Nat) (ps:List PartM) (fs:List Fm) (hf:Ph f) (hrep:Rep w (fun b=>¬ T b) f v) (htab:Tab Ph w T bt ps fs) (hl:fs.length+f.size≤100000) :
  Calls Tryz.prog 91 #[.pointer (some ⟨bt,0,none⟩),v] w fun e w'=>∃ n T' ps' gs,e = .returned (.int .i64 (n:Nat))∧(fs++gs)[n]? = some f∧Tab Ph w' T' bt (ps++ps') (fs++gs)∧gs.length≤f.size∧(∀ b,T' b→T b∨w.heap.size≤b)∧Kept (fun b=>¬ T b) w w' :=
 QIQ hc (f.size+1) f v w T bt ps fs (Nat.lt_succ_self _) hf hrep htab hl
open Go.RowKit
set_option maxHeartbeats 1000000 in
theorem QCf (n:Nat) (hn:n≤1000000) (w:World):Calls Tryz.prog 90 #[.int .i64 (n:Nat)] w fun e w'=>e = .returned (.int .i64 ((2 * n:Nat):Int))∧w'=w:=by
 (have hnI:(n:Int)≤1000000:=by omega)
 go_enter Tryz.func90,Tryz.ntmps90
 go_wp2_with fail;go_ret;(exact⟨by rw [Int.natCast_mul];rfl,rfl⟩)
set_option maxHeartbeats 1000000 in
theorem QCG (n:Nat) (hn:n≤1000000) (w:World):Calls Tryz.prog 92 #[.int .i64 (n:Nat)] w fun e w'=>e = .returned (.int .i64 ((2 * n+1:Nat):Int))∧w'=w:=by
 (have hnI:(n:Int)≤1000000:=by omega)
 go_enter Tryz.func92,Tryz.ntmps92
 go_wp2_with fail;go_ret;(exact⟨by rw [Int.natCast_add,Int.natCast_mul];rfl,rfl⟩)
set_option maxHeartbeats 1000000 in
theorem QCn (i:Nat) (hn:i≤3000000) (w:World):Calls Tryz.prog 100 #[.int .i64 (i:Nat)] w fun e w'=>e = .returned (.int .i64 ((i / 2:Nat):Int))∧w'=w:=by
 (have hnI:(i:Int)≤3000000:=by omega)
 go_enter Tryz.func100,Tryz.ntmps100
 go_wp2_with fail;go_ret;exact⟨rfl,rfl⟩
theorem QNZ (i:Nat):(((i:Int) % 2) == 1)=itR i:=by
 unfold itR;rw [Bool.eq_iff_iff]
 simp
 omega
set_option maxHeartbeats 1000000 in
theorem QDX (i:Nat) (hn:i≤3000000) (w:World):Calls Tryz.prog 101 #[.int .i64 (i:Nat)] w fun e w'=>e = .returned (.bool (itR i))∧w'=w:=by
 (have hnI:(i:Int)≤3000000:=by omega)
 go_enter Tryz.func101,Tryz.ntmps101
 go_wp2_with fail;go_ret;(exact⟨by rw [← QNZ];rfl,rfl⟩)
def QBc (i:Nat):Nat:=if itR i then i - 1 else i+1
theorem QIt (i:Nat):i ^^^ 1=QBc i:=by
 (have h1:(i ^^^ 1) / 2=i / 2:=by rw [Nat.xor_div_two];simp)
 have h2:(i ^^^ 1) % 2=(i+1) % 2:=by
  have:=@Nat.xor_mod_two_eq_one i 1;omega
 unfold QBc itR
 rcases Nat.mod_two_eq_zero_or_one i with h|h
 ·rw [h]
  simp
  omega
 ·rw [h]
  simp
  omega
theorem QNq (i:Nat) (h:i≤3000000):bits .xor .i64 (i:Int) 1=((QBc i:Nat):Int):=by
 (have hx:i ^^^ 1 < 2 ^ 64:=Nat.xor_lt_two_pow (by omega) (by omega))
 have h1:(BitVec.ofInt 64 (i:Int)).toNat=i:=by
  (rw [BitVec.ofInt_natCast,BitVec.toNat_ofNat];exact Nat.mod_eq_of_lt (by omega))
 have h2:(BitVec.ofInt 64 ((1:Nat):Int)).toNat=1:=by
  rw [BitVec.ofInt_natCast,BitVec.toNat_ofNat]
 show IntKind.i64.wrap ((BitVec.ofInt 64 (i:Int) ^^^ BitVec.ofInt 64 ((1:Nat):Int)).toNat:Int)=_;rw [BitVec.toNat_xor,h1,h2,IntKind.wrap_i64,QIt];(have:QBc i≤3000001:=by unfold QBc;split <;> omega);omega
set_option maxHeartbeats 1000000 in
theorem QHj (i:Nat) (hn:i≤3000000) (w:World):Calls Tryz.prog 170 #[.int .i64 (i:Nat)] w fun e w'=>e = .returned (.int .i64 ((QBc i:Nat):Int))∧w'=w:=by
 (have hnI:(i:Int)≤3000000:=by omega)
 go_enter Tryz.func170,Tryz.ntmps170
 go_wp2_with fail;go_ret;(exact⟨by rw [← QNq i hn];rfl,rfl⟩)
structure ItSt (Ph:Fm→Prop) (w0:World) (T:Nat→Prop) (bt:Nat) (ps:List PartM) (fs:List Fm) (wr:World) (ad:Option Addr) (cap:Nat) (its:List Nat) (T':Nat→Prop) (ps':List PartM) (gs:List Fm):Prop where
 tab:Tab Ph wr T' bt (ps++ps') (fs++gs)
 row:wr.ownsRow w0.heap.size 82 1 (.slice ad its.length cap) its.length (its.map fun i => .int .i64 (i:Nat))
 far:∀ b,(Value.slice ad its.length cap).ownBlock=some b→¬ T' b
 grow:∀ b,T' b→T b∨w0.heap.size≤b
 kept:Kept (fun b=>¬ T b) w0 wr
theorem ItSt.up {Ph:Fm→Prop} {w0:World} {T:Nat→Prop} {bt:Nat} {ps:List PartM} {fs:List Fm} {wr wx:World} {ad:Option Addr} {cap:Nat} {its:List Nat} {T':Nat→Prop} {ps':List PartM} {gs:List Fm} (h:ItSt Ph w0 T bt ps fs wr ad cap its T' ps' gs) (hb:Below wr.heap.size wr wx):ItSt Ph w0 T bt ps fs wx ad cap its T' ps' gs :=
 ⟨h.tab.up hb,QAz h.row hb,h.far,h.grow,h.kept.trans (QAN hb fun _ h _=>h)⟩
theorem ItSt.step {Ph:Fm→Prop} {w0:World} {T:Nat→Prop} {bt:Nat} {ps:List PartM} {fs:List Fm} {wr w2 w5:World} {ad:Option Addr} {cap:Nat} {its:List Nat} {T' T2:Nat→Prop} {ps' ps2:List PartM} {gs gs2:List Fm} {x g c5:Nat} {o:Obj} (h:ItSt Ph w0 T bt ps fs wr ad cap its T' ps' gs)
  (ht2:Tab Ph w2 T2 bt (ps++ps'++ps2) (fs++gs++gs2)) (hT2:∀ b,T2 b→T' b∨wr.heap.size≤b) (hk2:Kept (fun b=>¬ T' b) wr w2)
  (hown5:w5.ownsRow w0.heap.size 82 1 (.slice (some ⟨g,0,none⟩) (its.length+1) c5) (its.length+1) ((its.map fun i=>(.int .i64 (i:Nat):Value))++[.int .i64 (x:Nat)]))
  (hg5:(w2.alloc o).grownBy w5 (Value.slice ad its.length cap).ownBlock) (hat:(Value.slice ad its.length cap).ownBlock=some g∨g=(w2.alloc o).heap.size) :
  ItSt Ph w0 T bt ps fs w5 (some ⟨g,0,none⟩) c5 (its++[x]) T2 (ps'++ps2) (gs++gs2):=by
 have hlow:=h.kept.size;have hsz:=hk2.size
 have hnot:∀ b,(Value.slice ad its.length cap).ownBlock=some b→¬ T2 b:=fun b hb h2=>by
  rcases hT2 b h2 with h3|h3
  ·exact h.far b hb h3
  ·have:=(h.row.lt b hb).2
   omega
 (have hblk:∀ b,b < w2.heap.size→(Value.slice ad its.length cap).ownBlock≠some b→w5.heap[b]? = w2.heap[b]? := fun b hb hne=>(hg5.block b (by simp;omega) (fun e=>hne e.symm)).trans (Below.heap_alloc _ _ _ hb))
 have hs5:w2.heap.size≤w5.heap.size:=by
  have:=hg5.size;simp at this;omega
 refine⟨?_,?_,?_,?_,?_⟩
 ·rw [← List.append_assoc,← List.append_assoc]
  (exact ht2.same (fun b hb hl=>hblk b hl fun e=>hnot b e hb) hs5)
 ·rw [List.length_append,List.map_append]
  exact hown5
 ·intro b hb
  (have e:g=b:=by simpa [Value.ownBlock] using hb);subst e
  rcases hat with h1|h1
  ·exact hnot g h1
  ·intro h2
   have h3:=ht2.old g h2;simp at h1;omega
 ·intro b hb
  rcases hT2 b hb with h1|h1
  ·exact h.grow b h1
  ·exact Or.inr (by omega)
 ·refine QAM (QAM h.kept hk2 fun b hb h1 h2 => ?_) (ok':=fun b=>(Value.slice ad its.length cap).ownBlock≠some b) ⟨hg5.os,hg5.tape,hg5.output,hs5,fun b hb hne=>hblk b hb hne⟩ fun b hb _ e => ?_
  ·rcases h.grow b h2 with h3|h3
   ·exact h1 h3
   ·omega
  ·have:=(h.row.lt b e).1
   omega
def ItsL (fs:List Fm) (its:List Nat) (l:List Fm):Prop:=its.length=l.length∧∀ (i:Nat) (f:Fm),l[i]? = some f→∃ n:Nat,its[i]? = some (2 * n)∧fs[n]? = some f
def ItsR (fs:List Fm) (its:List Nat) (l:List Fm):Prop:=its.length=l.length∧∀ (i:Nat) (f:Fm),l[i]? = some f→∃ n:Nat,its[i]? = some (2 * n+1)∧fs[n]? = some f
theorem ItsL.snoc {fs gs:List Fm} {its:List Nat} {l:List Fm} {f:Fm} {n:Nat} (h:ItsL fs its l) (hn:(fs++gs)[n]? = some f):ItsL (fs++gs) (its++[2 * n]) (l++[f]):=by
 (refine⟨by simp [h.1],fun i g hg => ?_⟩)
 rcases Nat.lt_or_ge i l.length with hi|hi
 ·rw [List.getElem?_append_left hi] at hg
  obtain⟨m,h1,h2⟩:=h.2 i g hg;(exact⟨m,by rw [List.getElem?_append_left (by rw [h.1];exact hi)];exact h1,by rw [List.getElem?_append_left (List.getElem?_eq_some_iff.1 h2).1];exact h2⟩)
 ·rw [List.getElem?_append_right hi] at hg
  have e:i - l.length=0:=by
   rcases Nat.eq_zero_or_pos (i - l.length) with h0|h0
   ·exact h0
   ·rw [List.getElem?_eq_none (by simp;omega)] at hg;cases hg
  rw [e] at hg;simp at hg;subst hg;(exact⟨n,by rw [List.getElem?_append_right (by rw [h.1];exact hi),h.1,e];rfl,hn⟩)
theorem ItsL.grow {fs gs:List Fm} {its:List Nat} {l:List Fm} (h:ItsL fs its l):ItsL (fs++gs) its l:=⟨h.1,fun i f hf=>by
 obtain⟨n,h1,h2⟩:=h.2 i f hf
 exact⟨n,h1,by rw [List.getElem?_append_left (List.getElem?_eq_some_iff.1 h2).1];exact h2⟩⟩
theorem ItsR.snoc {fs gs:List Fm} {its:List Nat} {l:List Fm} {f:Fm} {n:Nat} (h:ItsR fs its l) (hn:(fs++gs)[n]? = some f):ItsR (fs++gs) (its++[2 * n+1]) (l++[f]):=by
 (refine⟨by simp [h.1],fun i g hg => ?_⟩)
 rcases Nat.lt_or_ge i l.length with hi|hi
 ·rw [List.getElem?_append_left hi] at hg
  obtain⟨m,h1,h2⟩:=h.2 i g hg;(exact⟨m,by rw [List.getElem?_append_left (by rw [h.1];exact hi)];exact h1,by rw [List.getElem?_append_left (List.getElem?_eq_some_iff.1 h2).1];exact h2⟩)
 ·rw [List.getElem?_append_right hi] at hg
  have e:i - l.length=0:=by
   rcases Nat.eq_zero_or_pos (i - l.length) with h0|h0
   ·exact h0
   ·rw [List.getElem?_eq_none (by simp;omega)] at hg;cases hg
  rw [e] at hg;simp at hg;subst hg;(exact⟨n,by rw [List.getElem?_append_right (by rw [h.1];exact hi),h.1,e];rfl,hn⟩)
theorem QEX:∃ i,Tryz.prog.info? 82=some i∧i.zero=some (.int .i64 0)∧i.size=1∧i.bytes=8:=by
 (obtain⟨i,hi,h⟩:=Option.map_eq_some_iff.1 (show (Tryz.prog.info? 82).map (fun i=>(i.zero,i.size,i.bytes))=some (some (.int .i64 0),1,8) by kernel_rfl));simp only [Prod.mk.injEq] at h;exact⟨i,hi,h.1,h.2.1,h.2.2⟩
theorem QEI:∀ l:List Fm,l.length≤Fm.sizes l
 | []=>Nat.zero_le _
 | f :: l=>by
  have h1:=QEI l;(have h2:1≤f.size:=by cases f;rw [Fm.size];omega);rw [Fm.sizes,List.length_cons];omega
theorem QEo:∀ (l:List Fm) (i:Nat),Fm.sizes (l.take i)≤Fm.sizes l
 | [],i=>by simp
 | f :: l,0=>by rw [List.take_zero];show Fm.sizes []≤_;simp [Fm.sizes]
 | f :: l,i+1=>by
  have:=QEo l i;rw [List.take_succ_cons,Fm.sizes,Fm.sizes];omega
set_option maxRecDepth 10000 in
set_option maxHeartbeats 4000000 in
theorem QLF {Ph:Fm→Prop} (hc:QDe Ph) (l r:List Fm) (hpl:∀ f∈l,Ph f) (hpr:∀ f∈r,Ph f) (vl vr:Value) (w:World) (T:Nat→Prop) (bt:Nat) (ps:List PartM) (fs:List Fm) (hl:FLp (fun b=>¬ T b) w vl l) (hr:FLp (fun b=>¬ T b) w vr r) (htab:Tab Ph w T bt ps fs) (hsz:fs.length+Fm.sizes l+Fm.sizes r≤100000) :
  Calls Tryz.prog 47 #[.agg #[vl,vr],.pointer (some ⟨bt,0,none⟩)] w fun e w'=>∃ ad cap il ir T' ps' gs,e = .returned (.slice ad (il++ir).length cap)∧ItSt Ph (w.alloc (.cells #[vl,vr] 24 (0,0))) T bt ps fs w' ad cap (il++ir) T' ps' gs∧ItsL (fs++gs) il l∧ItsR (fs++gs) ir r∧gs.length≤Fm.sizes l+Fm.sizes r:=by
 have hl':=hl;have hr':=hr;obtain⟨al,cl,rfl,hl1,hl2,-⟩:=hl';obtain⟨ar,cr,rfl,hr1,hr2,-⟩:=hr';obtain⟨i1,hi1,hz10,hz11,hz12⟩:=QEX;have hll:=QEI l;have hrl:=QEI r;(have hlI:(l.length:Int)≤100000:=by omega);(have hrI:(r.length:Int)≤100000:=by omega);(have hlc:(l.length:Int)≤(cl:Int):=by omega);(have hrc:(r.length:Int)≤(cr:Int):=by omega);have HC:Hid (QDe Ph):=hc;have HPL:Hid (∀ f∈l,Ph f):=hpl;have HPR:Hid (∀ f∈r,Ph f):=hpr;have HLn:Hid (fs.length+Fm.sizes l+Fm.sizes r≤100000):=hsz;have HTab:Hid (Tab Ph w T bt ps fs):=htab;obtain⟨W,hW⟩:∃ W,W=w.alloc (.cells #[.slice al l.length cl,.slice ar r.length cr] 24 (0,0)):=⟨_,rfl⟩;(have BW:Below w.heap.size w W:=by rw [hW];exact QAB (Below.refl _ w) _);(have HLW:Hid (FLp (fun b=>¬ T b) W (.slice al l.length cl) l):=hl.up BW);(have HRW:Hid (FLp (fun b=>¬ T b) W (.slice ar r.length cr) r):=hr.up BW);(have HS0:Hid (ItSt Ph W T bt ps fs W none 0 [] T [] []):=⟨by rw [List.append_nil,List.append_nil];exact htab.up BW,⟨rfl,Or.inl ⟨rfl,rfl⟩⟩,fun b hb=>by simp [Value.ownBlock] at hb,fun b h=>Or.inl h,Kept.refl _ _⟩);(have HWQ:Hid (W.heap[w.heap.size]? = some (.cells #[.slice al l.length cl,.slice ar r.length cr] 24 (0,0))):=by rw [hW];exact QAH w _)
 have HWn:Hid (¬ T w.heap.size):=fun h=>by
  have:=htab.old _ h;omega
 have HWe:Hid (w.alloc (.cells #[.slice al l.length cl,.slice ar r.length cr] 24 (0,0))=W):=hW.symm
 have HWs:Hid (w.heap.size+1=W.heap.size):=by
  show w.heap.size+1=W.heap.size;rw [hW]
  simp
 rw [← hW];clear hl hr hpl hpr hsz htab hc hW BW
 go_enter Tryz.func47,Tryz.ntmps47
 go_wp2_with fail;rw [HWe.out]
 go_loopg [13,5] l.length (fun g c s wr=>∃ i ad cap il T' ps' gs,i≤l.length∧g=l.length - i∧c = .int .i64 (i:Nat)∧s = .slice ad il.length cap∧Hid (ItSt Ph W T bt ps fs wr ad cap il T' ps' gs)∧Hid (ItsL (fs++gs) il (l.take i))∧Hid (gs.length≤Fm.sizes (l.take i)))
 case atStart=>exact⟨0,none,0,[],T,[],[],by omega,by omega,rfl,rfl,HS0,⟨rfl,fun i f h=>by simp at h⟩,Nat.zero_le _⟩
 case round =>
  obtain⟨i,ad,cap,il,T',ps',gs,hi,hg,rfl,rfl,HSt,HIt,HGl⟩:=hrel;have HG:Hid (gk=l.length - i):=hg;clear hg HS0;by_cases hlt:i < l.length
  ·obtain⟨⟨kk,kn,kks⟩,hkid⟩:∃ g,l[i]? = some g:=⟨_,List.getElem?_eq_getElem hlt⟩
   (have hfl:=HLW.out.move (w':=wr) (P':=fun b=>¬ T b∧b < W.heap.size) fun b h1 h2=>⟨HSt.out.kept.block b h1 h2,h2,h1⟩);obtain⟨_,_,hve,-,-,hfl2⟩:=hfl;simp only [Value.slice.injEq,true_and] at hve;obtain⟨rfl,rfl⟩:=hve;(obtain⟨b,off,rfl,hb,hrs⟩:=hfl2 (fun e=>by rw [e] at hlt;simp at hlt));obtain⟨sk,ck,c0,c1,c2,hrk⟩:=hrs.at i kk kn kks hkid;(have hltI:(i:Int) < (l.length:Int):=by omega);(have hltc:(i:Int) < (cl:Int):=by omega);have zb:=QAI c0;simp only at zb;have hsz:=QCz l i _ hkid;have HSk:Hid (Fm.sizes (l.take (i+1))=Fm.sizes (l.take i)+(Fm.mk kk kn kks).size):=hsz.1
   have HTk:Hid (l.take (i+1)=l.take i++[.mk kk kn kks]):=by
    show _=_;rw [List.take_add_one,hkid];rfl
   have hStA:=HSt.out.up ((Below.refl _ wr).alloc (Nat.le_refl _) (.cells #[.int .i64 kk,.string kn,.slice sk kks.length ck] 29 (0,0)));have HStA:Hid (ItSt Ph W T bt ps fs (wr.alloc (.cells #[.int .i64 kk,.string kn,.slice sk kks.length ck] 29 (0,0))) ad cap il T' ps' gs):=hStA
   have hcall:=QFl HC.out (.mk kk kn kks) _ (wr.alloc (.cells #[.int .i64 kk,.string kn,.slice sk kks.length ck] 29 (0,0))) T' bt (ps++ps') (fs++gs) (HPL.out _ (List.mem_of_getElem? hkid))
    (hrk.move (ok':=fun b=>¬ T' b) fun b h1 h2=>⟨Below.heap_alloc _ _ _ h1,fun h=>by
     rcases HSt.out.grow b h with h|h
     ·exact h2.1 h
     ·have:=h2.2
      omega⟩) hStA.tab (by
     have h1:=HLn.out;have h2:=HGl.out;rw [List.length_append]
     omega)
   have hIl:=HIt.out.1;rw [List.length_take,Nat.min_eq_left hi] at hIl;have HIl:Hid (il.length=i):=hIl;have HCall:Hid (Calls Tryz.prog 91 _ _ _):=hcall;clear hfl2 hb hrs hrk hStA hsz hkid HSt hcall hIl;go_wp2_with fail;refine HCall.out.mono ?_;clear HCall;rintro e w2 ⟨n,T2,ps2,gs2,rfl,hj,htab2,hgl2,hT2,hke2⟩;have HTa2:Hid (Tab Ph w2 T2 bt (ps++ps'++ps2) (fs++gs++gs2)):=htab2;have HT2:Hid (∀ b,T2 b→T' b∨(wr.alloc (.cells #[.int .i64 kk,.string kn,.slice sk kks.length ck] 29 (0,0))).heap.size≤b):=hT2;(have HK2:Hid (Kept (fun b=>¬ T' b) (wr.alloc (.cells #[.int .i64 kk,.string kn,.slice sk kks.length ck] 29 (0,0))) w2):=hke2);have HJ:Hid ((fs++gs++gs2)[n]? = some (.mk kk kn kks)):=hj;have HGl2:Hid (gs2.length≤(Fm.mk kk kn kks).size):=hgl2
   have hnn:n≤1000000:=by
    have h0:=(List.getElem?_eq_some_iff.1 hj).1;have h1:=HLn.out;have h2:=HGl.out;have h3:=HSk.out;have h4:=(QEo l (i+1));rw [List.length_append,List.length_append] at h0;omega
   have HNn:Hid (n≤1000000):=hnn;(have hat:=fun wx=>QCf n HNn.out wx);have HAt:Hid (∀ wx,Calls Tryz.prog 90 #[.int .i64 (n:Nat)] wx _):=hat;(have HW2:Hid (w2.ownsRow W.heap.size 82 1 (.slice ad il.length cap) il.length (il.map fun i => .int .i64 (i:Nat))):=QBk HStA.out.row fun b hb=>HK2.out.block b (HStA.out.row.lt b hb).2 (HStA.out.far b hb));clear hj htab2 hgl2 hT2 hke2 hat hnn c0 c1 c2 zb;go_wp2_with fail;refine (HAt.out w2).mono ?_;rintro e w2' ⟨rfl,hw2⟩;subst hw2;clear HAt;have hown:=QAz HW2.out (show Below w2'.heap.size w2' _ from (Below.refl _ w2').alloc (Nat.le_refl _) (.cells #[.int .i64 ((2 * n:Nat):Int)] 82 (0,0)));(have hlen:il.length≤100000:=by have:=HIl.out;omega)
   go_wp2_with (first
    | (
      at_builtin
      (refine wpList_append_lies _ rfl _ _ 78 rfl W.heap.size 82 i1 (.int .i64 0) 1 8 Tryz.underlying78 hi1 hz10 hz11 hz12 rfl (by decide) _ _ _ rfl hown ⟨w2'.heap.size,0,none⟩ 1 1 [.int .i64 ((2 * n:Nat):Int)] rfl rfl ?_ ?_ (by omega) (by unfold maxLen;omega) (by omega) ?_ _ rfl ?_)
      ·intro j u hu
       rw [QAZ,Nat.zero_add];(exact (QAL (QAH w2' _) j).trans (by simpa using hu))
      ·intro u hu
       simp at hu;subst hu;rfl
      ·have h1:=HStA.out.kept.size
       have h2:=HK2.out.size;simp at h1 h2 ⊢;omega
      intro g5 cp5 w5 hown5 hgrow hat5 hlt5;have HG5:Hid ((w2'.alloc (.cells #[.int .i64 ((2 * n:Nat):Int)] 82 (0,0))).grownBy w5 (Value.slice ad il.length cap).ownBlock):=hgrow;have HA5:Hid ((Value.slice ad il.length cap).ownBlock=some g5∨g5=(w2'.alloc (.cells #[.int .i64 ((2 * n:Nat):Int)] 82 (0,0))).heap.size):=hat5;have HW5:Hid (w5.ownsRow W.heap.size 82 1 (.slice (some ⟨g5,0,none⟩) (il.length+1) cp5) (il.length+1) _):=hown5
      clear hgrow hat5 hown5 hown)
    | fail)
   have HSt5:Hid (ItSt Ph W T bt ps fs w5 (some ⟨g5,0,none⟩) cp5 (il++[2 * n]) T2 (ps'++ps2) (gs++gs2)):=HStA.out.step HTa2.out HT2.out HK2.out HW5.out HG5.out HA5.out
   go_roundg (l.length - (i+1))
   case measure=>have:=HG.out;omega
   case rel =>
    (refine⟨i+1,some ⟨g5,0,none⟩,cp5,il++[2 * n],T2,ps'++ps2,gs++gs2,by omega,rfl,by go_num,by rw [List.length_append];rfl,HSt5,?_,?_⟩)
    ·rw [← List.append_assoc,HTk.out]
     exact HIt.out.snoc HJ.out
    ·show _≤_
     rw [HSk.out,List.length_append];have h1:=HGl.out;have h2:=HGl2.out;omega
  ·have hge:¬ (i:Int) < (l.length:Int):=by omega
   (have hie:i=l.length:=by omega);subst hie;clear HG;rw [List.take_length] at HIt HGl;(obtain⟨q0,q1,-⟩:=QAV ((HSt.out.kept.block w.heap.size (by have:=HWs.out;omega) HWn.out).trans HWQ.out));have HLl:Hid (ItsL (fs++gs) il l):=HIt;clear HIt;go_wp2_with fail;clear q0 q1
   go_loopg [28,5] r.length (fun g c s wx=>∃ i ad cap its ir T' ps' gs,i≤r.length∧g=r.length - i∧c = .int .i64 (i:Nat)∧s = .slice ad its.length cap∧Hid (its=il++ir)∧Hid (ItSt Ph W T bt ps fs wx ad cap its T' ps' gs)∧Hid (ItsL (fs++gs) il l)∧Hid (ItsR (fs++gs) ir (r.take i))∧Hid (gs.length≤Fm.sizes l+Fm.sizes (r.take i)))
   case atStart=>exact⟨0,ad,cap,il,[],T',ps',gs,by omega,by omega,rfl,rfl,(List.append_nil _).symm,HSt,HLl,⟨rfl,fun i f h=>by simp at h⟩,Nat.le_trans HGl.out (Nat.le_add_right _ _)⟩
   case round =>
   clear HSt HLl HGl;obtain⟨i,ad,cap,its,ir,T',ps',gs,hi,hg,rfl,rfl,HEq,HSt,HLl,HIt,HGl⟩:=hrel;have HG:Hid (gk=r.length - i):=hg;clear hg;by_cases hlt:i < r.length
   ·obtain⟨⟨kk,kn,kks⟩,hkid⟩:∃ g,r[i]? = some g:=⟨_,List.getElem?_eq_getElem hlt⟩
    (have hfl:=HRW.out.move (w':=wr) (P':=fun b=>¬ T b∧b < W.heap.size) fun b h1 h2=>⟨HSt.out.kept.block b h1 h2,h2,h1⟩);obtain⟨_,_,hve,-,-,hfl2⟩:=hfl;simp only [Value.slice.injEq,true_and] at hve;obtain⟨rfl,rfl⟩:=hve;(obtain⟨b,off,rfl,hb,hrs⟩:=hfl2 (fun e=>by rw [e] at hlt;simp at hlt));obtain⟨sk,ck,c0,c1,c2,hrk⟩:=hrs.at i kk kn kks hkid;(have hltI:(i:Int) < (r.length:Int):=by omega);(have hltc:(i:Int) < (cr:Int):=by omega);have zb:=QAI c0;simp only at zb;have hsz:=QCz r i _ hkid;have HSk:Hid (Fm.sizes (r.take (i+1))=Fm.sizes (r.take i)+(Fm.mk kk kn kks).size):=hsz.1
    have HTk:Hid (r.take (i+1)=r.take i++[.mk kk kn kks]):=by
     show _=_;rw [List.take_add_one,hkid];rfl
    have hStA:=HSt.out.up ((Below.refl _ wr).alloc (Nat.le_refl _) (.cells #[.int .i64 kk,.string kn,.slice sk kks.length ck] 29 (0,0)));have HStA:Hid (ItSt Ph W T bt ps fs (wr.alloc (.cells #[.int .i64 kk,.string kn,.slice sk kks.length ck] 29 (0,0))) ad cap its T' ps' gs):=hStA
    have hcall:=QFl HC.out (.mk kk kn kks) _ (wr.alloc (.cells #[.int .i64 kk,.string kn,.slice sk kks.length ck] 29 (0,0))) T' bt (ps++ps') (fs++gs) (HPR.out _ (List.mem_of_getElem? hkid))
     (hrk.move (ok':=fun b=>¬ T' b) fun b h1 h2=>⟨Below.heap_alloc _ _ _ h1,fun h=>by
      rcases HSt.out.grow b h with h|h
      ·exact h2.1 h
      ·have:=h2.2
       omega⟩) hStA.tab (by
      have h1:=HLn.out;have h2:=HGl.out;rw [List.length_append]
      omega)
    have hIl:=HIt.out.1;rw [List.length_take,Nat.min_eq_left hi] at hIl;have HIl:Hid (ir.length=i):=hIl;have HCall:Hid (Calls Tryz.prog 91 _ _ _):=hcall;clear hfl2 hb hrs hrk hStA hsz hkid HSt hcall hIl;go_wp2_with fail;refine HCall.out.mono ?_;clear HCall;rintro e w2 ⟨n,T2,ps2,gs2,rfl,hj,htab2,hgl2,hT2,hke2⟩;have HTa2:Hid (Tab Ph w2 T2 bt (ps++ps'++ps2) (fs++gs++gs2)):=htab2;have HT2:Hid (∀ b,T2 b→T' b∨(wr.alloc (.cells #[.int .i64 kk,.string kn,.slice sk kks.length ck] 29 (0,0))).heap.size≤b):=hT2;(have HK2:Hid (Kept (fun b=>¬ T' b) (wr.alloc (.cells #[.int .i64 kk,.string kn,.slice sk kks.length ck] 29 (0,0))) w2):=hke2);have HJ:Hid ((fs++gs++gs2)[n]? = some (.mk kk kn kks)):=hj;have HGl2:Hid (gs2.length≤(Fm.mk kk kn kks).size):=hgl2
    have hnn:n≤1000000:=by
     have h0:=(List.getElem?_eq_some_iff.1 hj).1;have h1:=HLn.out;have h2:=HGl.out;have h3:=HSk.out;have h4:=(QEo r (i+1));rw [List.length_append,List.length_append] at h0;omega
    have HNn:Hid (n≤1000000):=hnn;(have hat:=fun wx=>QCG n HNn.out wx);have HAt:Hid (∀ wx,Calls Tryz.prog 92 #[.int .i64 (n:Nat)] wx _):=hat;(have HW2:Hid (w2.ownsRow W.heap.size 82 1 (.slice ad its.length cap) its.length (its.map fun i => .int .i64 (i:Nat))):=QBk HStA.out.row fun b hb=>HK2.out.block b (HStA.out.row.lt b hb).2 (HStA.out.far b hb));clear hj htab2 hgl2 hT2 hke2 hat hnn c0 c1 c2 zb;go_wp2_with fail;refine (HAt.out w2).mono ?_;rintro e w2' ⟨rfl,hw2⟩;subst hw2;clear HAt;have hown:=QAz HW2.out (show Below w2'.heap.size w2' _ from (Below.refl _ w2').alloc (Nat.le_refl _) (.cells #[.int .i64 ((2 * n+1:Nat):Int)] 82 (0,0)));(have hlen:its.length≤200000:=by have h1:=HIl.out;have h2:=HLl.out.1;rw [HEq.out,List.length_append];omega)
    go_wp2_with (first
     | (
       at_builtin
       (refine wpList_append_lies _ rfl _ _ 78 rfl W.heap.size 82 i1 (.int .i64 0) 1 8 Tryz.underlying78 hi1 hz10 hz11 hz12 rfl (by decide) _ _ _ rfl hown ⟨w2'.heap.size,0,none⟩ 1 1 [.int .i64 ((2 * n+1:Nat):Int)] rfl rfl ?_ ?_ (by omega) (by unfold maxLen;omega) (by omega) ?_ _ rfl ?_)
       ·intro j u hu
        rw [QAZ,Nat.zero_add];(exact (QAL (QAH w2' _) j).trans (by simpa using hu))
       ·intro u hu
        simp at hu;subst hu;rfl
       ·have h1:=HStA.out.kept.size
        have h2:=HK2.out.size;simp at h1 h2 ⊢;omega
       intro g5 cp5 w5 hown5 hgrow hat5 hlt5;have HG5:Hid ((w2'.alloc (.cells #[.int .i64 ((2 * n+1:Nat):Int)] 82 (0,0))).grownBy w5 (Value.slice ad its.length cap).ownBlock):=hgrow;have HA5:Hid ((Value.slice ad its.length cap).ownBlock=some g5∨g5=(w2'.alloc (.cells #[.int .i64 ((2 * n+1:Nat):Int)] 82 (0,0))).heap.size):=hat5;have HW5:Hid (w5.ownsRow W.heap.size 82 1 (.slice (some ⟨g5,0,none⟩) (its.length+1) cp5) (its.length+1) _):=hown5
       clear hgrow hat5 hown5 hown)
     | fail)
    have HSt5:Hid (ItSt Ph W T bt ps fs w5 (some ⟨g5,0,none⟩) cp5 (its++[2 * n+1]) T2 (ps'++ps2) (gs++gs2)):=HStA.out.step HTa2.out HT2.out HK2.out HW5.out HG5.out HA5.out
    go_roundg (r.length - (i+1))
    case measure=>have:=HG.out;omega
    case rel =>
     (refine⟨i+1,some ⟨g5,0,none⟩,cp5,its++[2 * n+1],ir++[2 * n+1],T2,ps'++ps2,gs++gs2,by omega,rfl,by go_num,by rw [List.length_append];rfl,by show _=_;rw [HEq.out,List.append_assoc],HSt5,by rw [← List.append_assoc];exact HLl.out.grow,?_,?_⟩)
     ·rw [← List.append_assoc,HTk.out]
      exact HIt.out.snoc HJ.out
     ·show _≤_
      rw [HSk.out,List.length_append];have h1:=HGl.out;have h2:=HGl2.out;omega
   ·have hge:¬ (i:Int) < (r.length:Int):=by omega
    (have hie:i=r.length:=by omega);subst hie;clear HG;rw [List.take_length] at HIt HGl;go_wp2_with fail;go_ret;have heq:=HEq.out;subst heq;(exact⟨ad,cap,il,ir,by rw [← List.length_append];rfl,T',ps',gs,HSt.out,HLl.out,HIt.out,HGl.out⟩)
def IRow (P:Nat→Prop) (w:World) (v:Value) (its:List Nat):Prop:=∃ ad cap,v = .slice ad its.length cap∧its.length≤cap∧cap≤maxLen∧(its≠[]→∃ b off,ad=some ⟨b,off,none⟩∧P b∧∀ (j x:Nat),its[j]? = some x→w.cell? ⟨b,off+j,none⟩=some (.int .i64 (x:Nat)))
def PRows (P:Nat→Prop) (w:World) (v:Value) (prs:List (List Nat)):Prop:=∃ ad cap,v = .slice ad prs.length cap∧prs.length≤cap∧cap≤maxLen∧(prs≠[]→∃ b off,ad=some ⟨b,off,none⟩∧P b∧∀ (j:Nat) (pr:List Nat),prs[j]? = some pr→∃ u,w.cell? ⟨b,off+j,none⟩=some u∧IRow P w u pr)
def QOZ (P:Nat→Prop) (w:World) (v:Value) (wy:List UInt8 × List (List Nat)):Prop:=∃ s u,v = .agg #[.string s,u]∧s.data.toList=wy.1∧PRows P w u wy.2
theorem IRow.move {P P':Nat→Prop} {w w':World} {v:Value} {its:List Nat} (h:IRow P w v its) (hb:∀ b,b < w.heap.size→P b→w'.heap[b]? = w.heap[b]? ∧ P' b):IRow P' w' v its:=by
 obtain⟨ad,cap,h1,h2,h3,h4⟩:=h;(refine⟨ad,cap,h1,h2,h3,fun hne => ?_⟩);obtain⟨b,off,h5,h6,h7⟩:=h4 hne;obtain⟨x,hx⟩:∃ x,its[0]? = some x:=⟨_,List.getElem?_eq_getElem (List.length_pos_iff.2 hne)⟩;have hlt:=QAI (h7 0 x hx);simp only at hlt;(exact⟨b,off,h5,(hb b hlt h6).2,fun j x hj=>(QAQ (a:=⟨b,off+j,none⟩) (hb b hlt h6).1).trans (h7 j x hj)⟩)
theorem PRows.move {P P':Nat→Prop} {w w':World} {v:Value} {prs:List (List Nat)} (h:PRows P w v prs) (hb:∀ b,b < w.heap.size→P b→w'.heap[b]? = w.heap[b]? ∧ P' b):PRows P' w' v prs:=by
 obtain⟨ad,cap,h1,h2,h3,h4⟩:=h;(refine⟨ad,cap,h1,h2,h3,fun hne => ?_⟩);obtain⟨b,off,h5,h6,h7⟩:=h4 hne;obtain⟨x,hx⟩:∃ x,prs[0]? = some x:=⟨_,List.getElem?_eq_getElem (List.length_pos_iff.2 hne)⟩;obtain⟨u,hu,-⟩:=h7 0 x hx;have hlt:=QAI hu;simp only at hlt;(refine⟨b,off,h5,(hb b hlt h6).2,fun j pr hj => ?_⟩);obtain⟨u,hu,hr⟩:=h7 j pr hj;exact⟨u,(QAQ (a:=⟨b,off+j,none⟩) (hb b hlt h6).1).trans hu,hr.move hb⟩
theorem IRow.one {P:Nat→Prop} {w:World} {b x:Nat} {T:TypeId} (hp:P b) (h:w.heap[b]? = some (.cells #[.int .i64 (x:Nat)] T (0,0))):IRow P w (.slice (some ⟨b,0,none⟩) 1 1) [x]:=by
 (refine⟨_,1,rfl,Nat.le_refl _,by simp [maxLen],fun _=>⟨b,0,rfl,hp,fun j y hj => ?_⟩⟩);rw [Nat.zero_add,QAL h]
 match j,hj with
 | 0,hj=>simp at hj;rw [hj];rfl
 | j+1,hj=>simp at hj
theorem IRow.two {P:Nat→Prop} {w:World} {b x y:Nat} {T:TypeId} (hp:P b) (h:w.heap[b]? = some (.cells #[.int .i64 (x:Nat),.int .i64 (y:Nat)] T (0,0))):IRow P w (.slice (some ⟨b,0,none⟩) 2 2) [x,y]:=by
 (refine⟨_,2,rfl,Nat.le_refl _,by simp [maxLen],fun _=>⟨b,0,rfl,hp,fun j z hj => ?_⟩⟩);rw [Nat.zero_add,QAL h]
 match j,hj with
 | 0,hj=>simp at hj;rw [hj];rfl
 | 1,hj=>simp at hj;rw [hj];rfl
 | j+2,hj=>simp at hj
theorem PRows.one {P:Nat→Prop} {w:World} {b:Nat} {u:Value} {pr:List Nat} {T:TypeId} (hp:P b) (h:w.heap[b]? = some (.cells #[u] T (0,0))) (hu:IRow P w u pr):PRows P w (.slice (some ⟨b,0,none⟩) 1 1) [pr]:=by
 (refine⟨_,1,rfl,Nat.le_refl _,by simp [maxLen],fun _=>⟨b,0,rfl,hp,fun j y hj => ?_⟩⟩);rw [Nat.zero_add,QAL h]
 match j,hj with
 | 0,hj=>simp at hj;rw [← hj];exact⟨u,rfl,hu⟩
 | j+1,hj=>simp at hj
theorem PRows.two {P:Nat→Prop} {w:World} {b:Nat} {u u':Value} {pr pr':List Nat} {T:TypeId} (hp:P b) (h:w.heap[b]? = some (.cells #[u,u'] T (0,0))) (hu:IRow P w u pr) (hu':IRow P w u' pr'):PRows P w (.slice (some ⟨b,0,none⟩) 2 2) [pr,pr']:=by
 (refine⟨_,2,rfl,Nat.le_refl _,by simp [maxLen],fun _=>⟨b,0,rfl,hp,fun j y hj => ?_⟩⟩);rw [Nat.zero_add,QAL h]
 match j,hj with
 | 0,hj=>simp at hj;rw [← hj];exact⟨u,rfl,hu⟩
 | 1,hj=>simp at hj;rw [← hj];exact⟨u',rfl,hu'⟩
 | j+2,hj=>simp at hj
theorem QFU (w:World) (o o' o'' o3:Obj):((((w.alloc o).alloc o').alloc o'').alloc o3).heap[w.heap.size+1+1+1]? = some o3:=by
 have h:=QAH (((w.alloc o).alloc o').alloc o'') o3;(rw [show (((w.alloc o).alloc o').alloc o'').heap.size=w.heap.size+1+1+1 by simp] at h);exact h
set_option maxRecDepth 10000 in
set_option maxHeartbeats 4000000 in
theorem QNC (k:Int) (a b:Nat) (ha:a≤1000000) (hb:b≤1000000) (w:World):Calls Tryz.prog 135 #[.int .i64 k,.int .i64 (a:Nat),.int .i64 (b:Nat)] w fun e w'=>∃ v,e = .returned v∧QOZ (w.heap.size≤·) w' v (QBf k a b)∧Below w.heap.size w w':=by
 obtain⟨la,hla⟩:∃ x:Nat,x=2 * a:=⟨_,rfl⟩;have Ela:Hid (la=2 * a):=hla;(have Hla:Hid (∀ wx,Calls Tryz.prog 90 #[.int .i64 (a:Nat)] wx fun e w'=>e = .returned (.int .i64 (la:Nat))∧w'=wx):=fun wx=>by rw [hla];exact QCf a ha wx);obtain⟨lb,hlb⟩:∃ x:Nat,x=2 * b:=⟨_,rfl⟩;have Elb:Hid (lb=2 * b):=hlb;(have Hlb:Hid (∀ wx,Calls Tryz.prog 90 #[.int .i64 (b:Nat)] wx fun e w'=>e = .returned (.int .i64 (lb:Nat))∧w'=wx):=fun wx=>by rw [hlb];exact QCf b hb wx);obtain⟨ra,hra⟩:∃ x:Nat,x=2 * a+1:=⟨_,rfl⟩;have Era:Hid (ra=2 * a+1):=hra;(have Hra:Hid (∀ wx,Calls Tryz.prog 92 #[.int .i64 (a:Nat)] wx fun e w'=>e = .returned (.int .i64 (ra:Nat))∧w'=wx):=fun wx=>by rw [hra];exact QCG a ha wx);clear ha hb hla hlb hra;by_cases h4:k=4
 ·subst h4
  have HWy:Hid (QBf 4 a b=(Ru.text .notL,[[ra]])):=by
   show _=_;rw [Era.out];rfl
  go_enter Tryz.func135,Tryz.ntmps135
  go_wp2_with fail;refine (Hra.out _).mono ?_;rintro e w1 ⟨rfl,rfl⟩;go_wp2_with fail;(refine bodyPost_ret (v := .agg #[.string ⟨#[110,111,116,45,108]⟩,.slice (some ⟨w.heap.size+1+1,0,none⟩) 1 1]) (by simp [results,Tryz.results135,go_sem]) rfl ⟨_,rfl,?_,QAB (QAB (QAB (Below.refl _ w) _) _) _⟩);rw [HWy.out];(exact⟨_,_,rfl,rfl,PRows.one (by omega) (QBW w _ _ _) (IRow.one (by omega) (QAG (QAa w _ _) _))⟩)
 by_cases h5:k=5
 ·subst h5
  have HWy:Hid (QBf 5 a b=(Ru.text .andL,[[la,lb]])):=by
   show _=_;rw [Ela.out,Elb.out];rfl
  go_enter Tryz.func135,Tryz.ntmps135
  go_wp2_with fail;refine (Hla.out _).mono ?_;rintro e w1 ⟨rfl,rfl⟩;go_wp2_with fail;refine (Hlb.out _).mono ?_;rintro e w1 ⟨rfl,rfl⟩;go_wp2_with fail;(refine bodyPost_ret (v := .agg #[.string ⟨#[97,110,100,45,108]⟩,.slice (some ⟨w.heap.size+1+1,0,none⟩) 1 1]) (by simp [results,Tryz.results135,go_sem]) rfl ⟨_,rfl,?_,QAB (QAB (QAB (Below.refl _ w) _) _) _⟩);rw [HWy.out];(exact⟨_,_,rfl,rfl,PRows.one (by omega) (QBW w _ _ _) (IRow.two (by omega) (QAG (QAa w _ _) _))⟩)
 by_cases h6:k=6
 ·subst h6
  have HWy:Hid (QBf 6 a b=(Ru.text .orL,[[la],[lb]])):=by
   show _=_;rw [Ela.out,Elb.out];rfl
  go_enter Tryz.func135,Tryz.ntmps135
  go_wp2_with fail;refine (Hla.out _).mono ?_;rintro e w1 ⟨rfl,rfl⟩;go_wp2_with fail;refine (Hlb.out _).mono ?_;rintro e w1 ⟨rfl,rfl⟩;go_wp2_with fail;(refine bodyPost_ret (v := .agg #[.string ⟨#[111,114,45,108]⟩,.slice (some ⟨w.heap.size+1+1+1,0,none⟩) 2 2]) (by simp [results,Tryz.results135,go_sem]) rfl ⟨_,rfl,?_,QAB (QAB (QAB (QAB (Below.refl _ w) _) _) _) _⟩);rw [HWy.out];(exact⟨_,_,rfl,rfl,PRows.two (by omega) (QFU w _ _ _ _) (IRow.one (by omega) (QAG (QAG (QAa w _ _) _) _)) (IRow.one (by omega) (QAG (QBW w _ _ _) _))⟩)
 by_cases h7:k=7
 ·subst h7
  have HWy:Hid (QBf 7 a b=(Ru.text .thenL,[[ra],[lb]])):=by
   show _=_;rw [Era.out,Elb.out];rfl
  go_enter Tryz.func135,Tryz.ntmps135
  go_wp2_with fail;refine (Hra.out _).mono ?_;rintro e w1 ⟨rfl,rfl⟩;go_wp2_with fail;refine (Hlb.out _).mono ?_;rintro e w1 ⟨rfl,rfl⟩;go_wp2_with fail;(refine bodyPost_ret (v := .agg #[.string ⟨#[116,104,101,110,45,108]⟩,.slice (some ⟨w.heap.size+1+1+1,0,none⟩) 2 2]) (by simp [results,Tryz.results135,go_sem]) rfl ⟨_,rfl,?_,QAB (QAB (QAB (QAB (Below.refl _ w) _) _) _) _⟩);rw [HWy.out];(exact⟨_,_,rfl,rfl,PRows.two (by omega) (QFU w _ _ _ _) (IRow.one (by omega) (QAG (QAG (QAa w _ _) _) _)) (IRow.one (by omega) (QAG (QBW w _ _ _) _))⟩)
 have HWy:Hid (QBf k a b=([],[])):=by
  show _=_;unfold QBf;rw [if_neg h4,if_neg h5,if_neg h6,if_neg h7]
 go_enter Tryz.func135,Tryz.ntmps135
 go_wp2_with fail;(refine bodyPost_ret (v := .agg #[.string ⟨#[]⟩,.slice none 0 0]) (by simp [results,Tryz.results135,go_sem]) rfl ⟨_,rfl,?_,QAB (Below.refl _ w) _⟩);rw [HWy.out];(exact⟨_,_,rfl,rfl,none,0,rfl,Nat.le_refl _,Nat.zero_le _,fun h=>absurd rfl h⟩)
set_option maxRecDepth 10000 in
set_option maxHeartbeats 4000000 in
theorem QND (k:Int) (a b:Nat) (ha:a≤1000000) (hb:b≤1000000) (w:World):Calls Tryz.prog 136 #[.int .i64 k,.int .i64 (a:Nat),.int .i64 (b:Nat)] w fun e w'=>∃ v,e = .returned v∧QOZ (w.heap.size≤·) w' v (QBg k a b)∧Below w.heap.size w w':=by
 obtain⟨la,hla⟩:∃ x:Nat,x=2 * a:=⟨_,rfl⟩;have Ela:Hid (la=2 * a):=hla;(have Hla:Hid (∀ wx,Calls Tryz.prog 90 #[.int .i64 (a:Nat)] wx fun e w'=>e = .returned (.int .i64 (la:Nat))∧w'=wx):=fun wx=>by rw [hla];exact QCf a ha wx);obtain⟨ra,hra⟩:∃ x:Nat,x=2 * a+1:=⟨_,rfl⟩;have Era:Hid (ra=2 * a+1):=hra;(have Hra:Hid (∀ wx,Calls Tryz.prog 92 #[.int .i64 (a:Nat)] wx fun e w'=>e = .returned (.int .i64 (ra:Nat))∧w'=wx):=fun wx=>by rw [hra];exact QCG a ha wx);obtain⟨rb,hrb⟩:∃ x:Nat,x=2 * b+1:=⟨_,rfl⟩;have Erb:Hid (rb=2 * b+1):=hrb;(have Hrb:Hid (∀ wx,Calls Tryz.prog 92 #[.int .i64 (b:Nat)] wx fun e w'=>e = .returned (.int .i64 (rb:Nat))∧w'=wx):=fun wx=>by rw [hrb];exact QCG b hb wx);clear ha hb hla hra hrb;by_cases h4:k=4
 ·subst h4
  have HWy:Hid (QBg 4 a b=(Ru.text .notR,[[la]])):=by
   show _=_;rw [Ela.out];rfl
  go_enter Tryz.func136,Tryz.ntmps136
  go_wp2_with fail;refine (Hla.out _).mono ?_;rintro e w1 ⟨rfl,rfl⟩;go_wp2_with fail;(refine bodyPost_ret (v := .agg #[.string ⟨#[110,111,116,45,114]⟩,.slice (some ⟨w.heap.size+1+1,0,none⟩) 1 1]) (by simp [results,Tryz.results136,go_sem]) rfl ⟨_,rfl,?_,QAB (QAB (QAB (Below.refl _ w) _) _) _⟩);rw [HWy.out];(exact⟨_,_,rfl,rfl,PRows.one (by omega) (QBW w _ _ _) (IRow.one (by omega) (QAG (QAa w _ _) _))⟩)
 by_cases h5:k=5
 ·subst h5
  have HWy:Hid (QBg 5 a b=(Ru.text .andR,[[ra],[rb]])):=by
   show _=_;rw [Era.out,Erb.out];rfl
  go_enter Tryz.func136,Tryz.ntmps136
  go_wp2_with fail;refine (Hra.out _).mono ?_;rintro e w1 ⟨rfl,rfl⟩;go_wp2_with fail;refine (Hrb.out _).mono ?_;rintro e w1 ⟨rfl,rfl⟩;go_wp2_with fail;(refine bodyPost_ret (v := .agg #[.string ⟨#[97,110,100,45,114]⟩,.slice (some ⟨w.heap.size+1+1+1,0,none⟩) 2 2]) (by simp [results,Tryz.results136,go_sem]) rfl ⟨_,rfl,?_,QAB (QAB (QAB (QAB (Below.refl _ w) _) _) _) _⟩);rw [HWy.out];(exact⟨_,_,rfl,rfl,PRows.two (by omega) (QFU w _ _ _ _) (IRow.one (by omega) (QAG (QAG (QAa w _ _) _) _)) (IRow.one (by omega) (QAG (QBW w _ _ _) _))⟩)
 by_cases h6:k=6
 ·subst h6
  have HWy:Hid (QBg 6 a b=(Ru.text .orR,[[ra,rb]])):=by
   show _=_;rw [Era.out,Erb.out];rfl
  go_enter Tryz.func136,Tryz.ntmps136
  go_wp2_with fail;refine (Hra.out _).mono ?_;rintro e w1 ⟨rfl,rfl⟩;go_wp2_with fail;refine (Hrb.out _).mono ?_;rintro e w1 ⟨rfl,rfl⟩;go_wp2_with fail;(refine bodyPost_ret (v := .agg #[.string ⟨#[111,114,45,114]⟩,.slice (some ⟨w.heap.size+1+1,0,none⟩) 1 1]) (by simp [results,Tryz.results136,go_sem]) rfl ⟨_,rfl,?_,QAB (QAB (QAB (Below.refl _ w) _) _) _⟩);rw [HWy.out];(exact⟨_,_,rfl,rfl,PRows.one (by omega) (QBW w _ _ _) (IRow.two (by omega) (QAG (QAa w _ _) _))⟩)
 by_cases h7:k=7
 ·subst h7
  have HWy:Hid (QBg 7 a b=(Ru.text .thenR,[[la,rb]])):=by
   show _=_;rw [Ela.out,Erb.out];rfl
  go_enter Tryz.func136,Tryz.ntmps136
  go_wp2_with fail;refine (Hla.out _).mono ?_;rintro e w1 ⟨rfl,rfl⟩;go_wp2_with fail;refine (Hrb.out _).mono ?_;rintro e w1 ⟨rfl,rfl⟩;go_wp2_with fail;(refine bodyPost_ret (v := .agg #[.string ⟨#[116,104,101,110,45,114]⟩,.slice (some ⟨w.heap.size+1+1,0,none⟩) 1 1]) (by simp [results,Tryz.results136,go_sem]) rfl ⟨_,rfl,?_,QAB (QAB (QAB (Below.refl _ w) _) _) _⟩);rw [HWy.out];(exact⟨_,_,rfl,rfl,PRows.one (by omega) (QBW w _ _ _) (IRow.two (by omega) (QAG (QAa w _ _) _))⟩)
 have HWy:Hid (QBg k a b=([],[])):=by
  show _=_;unfold QBg;rw [if_neg h4,if_neg h5,if_neg h6,if_neg h7]
 go_enter Tryz.func136,Tryz.ntmps136
 go_wp2_with fail;(refine bodyPost_ret (v := .agg #[.string ⟨#[]⟩,.slice none 0 0]) (by simp [results,Tryz.results136,go_sem]) rfl ⟨_,rfl,?_,QAB (Below.refl _ w) _⟩);rw [HWy.out];(exact⟨_,_,rfl,rfl,none,0,rfl,Nat.le_refl _,Nat.zero_le _,fun h=>absurd rfl h⟩)
end Go.Proofs.YtbmedfokpgghiacGreat
