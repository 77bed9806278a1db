import Derived.Test.YtffkoiemnchdgadGreatB18
import Derived.Test.YtffkoiemnchdgadGreatB04
namespace Go.Proofs.YtffkoiemnchdgadGreat
open Go.RowKit
mutual
def PRep (w:World):Pf→Value→Prop
 | .mk a f l r ks,v=>∃ c0 c1 c2 vl vr sl cap,v = .agg #[.string a,c0,c1,c2,vl,vr,.slice sl ks.length cap]∧a.size≤maxLen∧Rep w (fun _=>True) f (.agg #[c0,c1,c2])∧FL w vl l∧FL w vr r∧ks.length≤cap∧cap≤maxLen∧(ks≠[]→∃ b off,sl=some ⟨b,off,none⟩∧PReps w b off ks)
def PReps (w:World) (b:Nat):Nat→List Pf→Prop
 | _,[]=>True
 | off,p :: ps=>(∃ c0 c1 c2 c3 c4 c5 c6,w.cell? ⟨b,off,none⟩=some c0∧w.cell? ⟨b,off+1,none⟩=some c1∧w.cell? ⟨b,off+2,none⟩=some c2∧w.cell? ⟨b,off+3,none⟩=some c3∧w.cell? ⟨b,off+4,none⟩=some c4∧w.cell? ⟨b,off+5,none⟩=some c5∧w.cell? ⟨b,off+6,none⟩=some c6∧PRep w p (.agg #[c0,c1,c2,c3,c4,c5,c6]))∧PReps w b (off+7) ps
end
theorem PRep.def {w:World} {a:ByteArray} {f:Fm} {l r:List Fm} {ks:List Pf} {v:Value}:PRep w (.mk a f l r ks) v ↔ ∃ c0 c1 c2 vl vr sl cap,v = .agg #[.string a,c0,c1,c2,vl,vr,.slice sl ks.length cap]∧a.size≤maxLen∧Rep w (fun _=>True) f (.agg #[c0,c1,c2])∧FL w vl l∧FL w vr r∧ks.length≤cap∧cap≤maxLen∧(ks≠[]→∃ b off,sl=some ⟨b,off,none⟩∧PReps w b off ks):=by
 rw [PRep]
theorem PReps.nil {w:World} {b off:Nat}:PReps w b off []:=by rw [PReps];trivial
theorem PReps.cons {w:World} {b off:Nat} {p:Pf} {ps:List Pf}:PReps w b off (p :: ps) ↔ (∃ c0 c1 c2 c3 c4 c5 c6,w.cell? ⟨b,off,none⟩=some c0∧w.cell? ⟨b,off+1,none⟩=some c1∧w.cell? ⟨b,off+2,none⟩=some c2∧w.cell? ⟨b,off+3,none⟩=some c3∧w.cell? ⟨b,off+4,none⟩=some c4∧w.cell? ⟨b,off+5,none⟩=some c5∧w.cell? ⟨b,off+6,none⟩=some c6∧PRep w p (.agg #[c0,c1,c2,c3,c4,c5,c6]))∧PReps w b (off+7) ps:=by
 rw [PReps]
mutual
theorem PRep.up {w w':World} (hb:Below w.heap.size w w'):∀ (p:Pf) (v:Value),PRep w p v→PRep w' p v
 | .mk a f l r ks,v,h=>by
  rw [PRep.def] at h ⊢;obtain⟨c0,c1,c2,vl,vr,sl,cap,hv,ha,hf,hl,hr,h1,h2,h3⟩:=h;(refine⟨c0,c1,c2,vl,vr,sl,cap,hv,ha,hf.up hb,hl.up hb,hr.up hb,h1,h2,fun hne => ?_⟩);obtain⟨b,off,hs,hp⟩:=h3 hne;exact⟨b,off,hs,PReps.up hb b off ks hp⟩
theorem PReps.up {w w':World} (hb:Below w.heap.size w w') (b:Nat):∀ (off:Nat) (ps:List Pf),PReps w b off ps→PReps w' b off ps
 | _,[],_=>PReps.nil
 | off,p :: ps,h=>by
  rw [PReps.cons] at h ⊢;obtain⟨⟨c0,c1,c2,c3,c4,c5,c6,h0,h1,h2,h3,h4,h5,h6,hp⟩,hs⟩:=h;(have k:=fun (o:Nat) (c:Value) (h:w.cell? ⟨b,o,none⟩=some c)=>(hb.cell (p:=⟨b,o,none⟩) (QAI h)).trans h);exact⟨⟨c0,c1,c2,c3,c4,c5,c6,k _ _ h0,k _ _ h1,k _ _ h2,k _ _ h3,k _ _ h4,k _ _ h5,k _ _ h6,PRep.up hb p _ hp⟩,PReps.up hb b (off+7) ps hs⟩
end
theorem PReps.get {w:World} {b:Nat}:∀ {off:Nat} {ps:List Pf} (_:PReps w b off ps) (i:Nat) (p:Pf) (_:ps[i]? = some p),
  ∃ c0 c1 c2 c3 c4 c5 c6,w.cell? ⟨b,off+i * 7,none⟩=some c0∧w.cell? ⟨b,off+i * 7+1,none⟩=some c1∧w.cell? ⟨b,off+i * 7+2,none⟩=some c2∧w.cell? ⟨b,off+i * 7+3,none⟩=some c3∧w.cell? ⟨b,off+i * 7+4,none⟩=some c4∧w.cell? ⟨b,off+i * 7+5,none⟩=some c5∧w.cell? ⟨b,off+i * 7+6,none⟩=some c6∧PRep w p (.agg #[c0,c1,c2,c3,c4,c5,c6])
 | off,[],_,i,p,hp=>by simp at hp
 | off,q :: qs,h,i,p,hp=>by
  obtain⟨h1,h2⟩:=PReps.cons.1 h
  cases i with
  | zero=>simp at hp;subst hp;simpa using h1
  | succ i =>
   (have:=PReps.get h2 i p (by simpa using hp));(have e:off+7+i * 7=off+(i+1) * 7:=by omega)
   rwa [e] at this
theorem PRep.parts {w:World} {a:ByteArray} {k:Int} {n:ByteArray} {kf:List Fm} {l r:List Fm} {ks:List Pf} {v:Value} (h:PRep w (.mk a (.mk k n kf) l r ks) v) :
  ∃ sf cf al cl ar cr sl cap,v = .agg #[.string a,.int .i64 k,.string n,.slice sf kf.length cf,.slice al l.length cl,.slice ar r.length cr,.slice sl ks.length cap]∧a.size≤maxLen∧Rep w (fun _=>True) (.mk k n kf) (.agg #[.int .i64 k,.string n,.slice sf kf.length cf])∧FL w (.slice al l.length cl) l∧FL w (.slice ar r.length cr) r∧ks.length≤cap∧cap≤maxLen∧(ks≠[]→∃ b off,sl=some ⟨b,off,none⟩∧PReps w b off ks):=by
 obtain⟨c0,c1,c2,vl,vr,sl,cap,hv,ha,hf,hl,hr,h1,h2,h3⟩:=PRep.def.1 h;obtain⟨sf,cf,hfv⟩:=QAJ hf;simp only [Value.agg.injEq,Array.mk.injEq,List.cons.injEq,and_true] at hfv;obtain⟨rfl,rfl,rfl⟩:=hfv;have hl':=hl;have hr':=hr;obtain⟨al,cl,rfl,-⟩:=hl;obtain⟨ar,cr,rfl,-⟩:=hr;exact⟨sf,cf,al,cl,ar,cr,sl,cap,hv,ha,hf,hl',hr',h1,h2,h3⟩
theorem PReps.at {w:World} {b off:Nat} {ps:List Pf} (h:PReps w b off ps) (i:Nat) (a:ByteArray) (k:Int) (n:ByteArray) (kf:List Fm) (l r:List Fm) (ks:List Pf) (hp:ps[i]? = some (.mk a (.mk k n kf) l r ks)) :
  ∃ sf cf al cl ar cr sl cap,w.cell? ⟨b,off+i * 7,none⟩=some (.string a)∧w.cell? ⟨b,off+i * 7+1,none⟩=some (.int .i64 k)∧w.cell? ⟨b,off+i * 7+2,none⟩=some (.string n)∧w.cell? ⟨b,off+i * 7+3,none⟩=some (.slice sf kf.length cf)∧w.cell? ⟨b,off+i * 7+4,none⟩=some (.slice al l.length cl)∧w.cell? ⟨b,off+i * 7+5,none⟩=some (.slice ar r.length cr)∧w.cell? ⟨b,off+i * 7+6,none⟩=some (.slice sl ks.length cap) ∧
   PRep w (.mk a (.mk k n kf) l r ks) (.agg #[.string a,.int .i64 k,.string n,.slice sf kf.length cf,.slice al l.length cl,.slice ar r.length cr,.slice sl ks.length cap]):=by
 obtain⟨c0,c1,c2,c3,c4,c5,c6,h0,h1,h2,h3,h4,h5,h6,hr⟩:=h.get i _ hp;obtain⟨sf,cf,al,cl,ar,cr,sl,cap,hv,-⟩:=hr.parts;simp only [Value.agg.injEq,Array.mk.injEq,List.cons.injEq,and_true] at hv;obtain⟨rfl,rfl,rfl,rfl,rfl,rfl,rfl⟩:=hv;exact⟨sf,cf,al,cl,ar,cr,sl,cap,h0,h1,h2,h3,h4,h5,h6,hr⟩
theorem QAd (w:World) (o o':Obj):((w.alloc o).alloc o').heap[w.heap.size+1]? = some o':=by
 have:=QAG (w.alloc o) o'
 rwa [show (w.alloc o).heap.size=w.heap.size+1 by simp] at this
theorem QCk (w:World) (o o' o'':Obj):(((w.alloc o).alloc o').alloc o'').heap[w.heap.size+1+1]? = some o'':=by
 have:=QAd (w.alloc o) o' o''
 rwa [show (w.alloc o).heap.size=w.heap.size+1 by simp] at this
theorem QCs {l:List Fm} {i:Nat} {f:Fm} (h:l[i]? = some f):QAe (l.drop i) i=if f.pcode.1=0 then QAe (l.drop (i+1)) (i+1) else (f.pcode.1,(i:Nat)):=by
 have hi:i < l.length:=(List.getElem?_eq_some_iff.1 h).1;rw [List.drop_eq_getElem_cons hi,QAe];rw [List.getElem?_eq_getElem hi] at h;rw [Option.some.inj h]
set_option maxRecDepth 10000 in
set_option maxHeartbeats 4000000 in
theorem QFU (l r:List Fm) (hl4:l.length≤400) (hr4:r.length≤400) (v u:Value) (w:World) (hv:FL w v l) (hu:FL w u r) :
  Calls Tryz.prog 42 #[.agg #[v,u]] w fun e w'=>e = .returned (.agg #[.int .i64 (QAx l r).1,.int .i64 (QAx l r).2])∧Below w.heap.size w w':=by
 have HV:Hid (FL w v l):=hv;have HU:Hid (FL w u r):=hu;obtain⟨adV,cpV,rfl,hv1,hv2,-⟩:=hv;obtain⟨adU,cpU,rfl,hu1,hu2,-⟩:=hu;(have hlI:(l.length:Int)≤400:=by omega);(have hrI:(r.length:Int)≤400:=by omega);unfold QAx;by_cases hmany:60 < l.length+r.length
 ·rw [if_pos hmany]
  (have hmI:(60:Int) < (l.length:Int)+(r.length:Int):=by omega);clear HV HU hv1 hv2 hu1 hu2 hmany
  go_enter Tryz.func42,Tryz.ntmps42
  go_wp2_with fail;(exact bodyPost_ret (v := .agg #[.int .i64 2,.int .i64 0]) (by simp [results,Tryz.results42,go_sem]) rfl ⟨rfl,QAA (QAA (Below.refl _ w) _) _⟩)
 ·rw [if_neg hmany]
  (have hmI:¬ (60:Int) < (l.length:Int)+(r.length:Int):=by omega);(have hll:(l++r).length≤60:=by rw [List.length_append];omega);obtain⟨c,hc⟩:∃ c,c=l++r:=⟨_,rfl⟩;rw [← hc] at hll ⊢;have HC:Hid (c=l++r):=hc;clear hc;clear hmany hv1 hv2 hu1 hu2
  go_enter Tryz.func42,Tryz.ntmps42
  go_wp2_with fail;(refine (QCM w.heap.size l r hl4 hr4 _ _ _ _ (by simp;omega) (HV.out.low.up (QAA (QAA (QAA (Below.refl _ w) _) _) _)) (HU.out.low.up (QAA (QAA (QAA (Below.refl _ w) _) _) _)) (QCk w _ _ _)).mono ?_);rintro e w1 ⟨x,rfl,hF,hb1⟩;have q1:=QAB hb1 (QAF (QAd w (.cells #[.slice adV l.length cpV,.slice adU r.length cpU] 28 (0,0)) (.cells #[.int .i64 0,.int .i64 0] 37 (0,0))) (.cells #[.slice adV l.length cpV,.slice adU r.length cpU] 22 (0,0)));have HQ:Hid (w1.heap[w.heap.size+1]? = some (.cells #[.int .i64 0,.int .i64 0] 37 (0,0))):=q1;have B1:=QAC (QAA (QAA (QAA (Below.refl _ w) _) _) _) hb1;have z1:=QAE q1;have hF2:=hF.list;rw [← HC.out] at hF2;obtain⟨ad,cap,rfl,h1,h2,h3⟩:=hF2;(have H3:Hid (c≠[]→∃ b off,ad=some ⟨b,off,none⟩∧Reps w1 (fun _=>True) b off c):=h3);(have hcI:(c.length:Int)≤60:=by omega);clear h3 hF q1 hb1 HV HU;go_wp2_with fail
  go_loopg [22] c.length (fun g cc wr=>∃ i,i≤c.length∧g=c.length - i∧cc = .int .i64 (i:Nat)∧Below w1.heap.size w1 wr∧Hid (QAe (c.drop i) i=QAe c 0))
  case atStart=>exact⟨0,by omega,by omega,rfl,Below.refl _ _,by show _=_;simp⟩
  case round =>
   obtain⟨i,hi,hg,rfl,hbr,HN⟩:=hrel;have HG:Hid (gk=c.length - i):=hg;have zr:=hbr.size;clear hg;by_cases hlt:i < c.length
   ·obtain⟨⟨k2,n2,ks2⟩,hki⟩:∃ f,c[i]? = some f:=⟨_,List.getElem?_eq_getElem hlt⟩
    (obtain⟨b,off,rfl,hrs⟩:=H3.out (fun e=>by rw [e] at hlt;simp at hlt));obtain⟨sl2,cap2,g0,g1,g2,hrep2⟩:=(hrs.up hbr).at i k2 n2 ks2 hki;(have hltI:(i:Int) < (c.length:Int):=by omega);(have hlc:(i:Int) < (cap:Int):=by omega);have hds:=HN.out;rw [QCs hki] at hds;(have hpl:=fun v (w:World) h=>QCv (.mk k2 n2 ks2) v w h);generalize (Fm.mk k2 n2 ks2).pcode=pc at hpl hds;(have HP:Hid (∀ v w,Rep w (fun _=>True) (.mk k2 n2 ks2) v→Calls Tryz.prog 84 #[v] w _):=hpl);(have HD:Hid ((if pc.1=0 then QAe (c.drop (i+1)) (i+1) else (pc.1,((i:Nat):Int)))=QAe c 0):=hds);obtain⟨pc1,pc2⟩:=pc;clear hki hrs H3 hds HN hpl;by_cases hp:pc1=0
    ·subst hp
     have HT:Hid (QAe (c.drop (i+1)) (i+1)=QAe c 0):=by
      have:=HD.out
      rwa [if_pos rfl] at this
     clear HD;go_wp2_with fail;refine (HP.out _ _ (hrep2.more _)).mono ?_;rintro e w2 ⟨rfl,hb2⟩;have B2:=QAC (QAA hbr _) hb2;clear g0 g1 g2 hb2;go_wp2_with fail
     go_roundg (c.length - (i+1))
     case measure=>have:=HG.out;omega
     case rel=>exact⟨i+1,by omega,rfl,by go_num,B2,HT⟩
    ·have HT:Hid (QAe c 0=(pc1,((i:Nat):Int))):=by
      have:=HD.out;rw [if_neg hp] at this;exact this.symm
     (have hne':(pc1 != 0)=true:=by simpa using hp);clear HD;go_wp2_with fail;refine (HP.out _ _ (hrep2.more _)).mono ?_;rintro e w2 ⟨rfl,hb2⟩;have B2:=QAC (QAA hbr _) hb2;have q2:=QAB B2 HQ.out;obtain⟨y1,y2,y3,y4⟩:=QAU q2;have z2:=QAE q2;clear g0 g1 g2 hb2;go_wp2_with fail;have f2:=QBB q2 (.int .i64 pc1) (.int .i64 (i:Nat));(have b2:=((QAC B1 B2).setCell (p:=⟨w.heap.size+1,0,none⟩) (by simp) (.int .i64 pc1)).setCell (p:=⟨w.heap.size+1,1,none⟩) (by simp) (.int .i64 (i:Nat)));generalize World.setCell _ _ _=F at f2 b2 ⊢;clear y1 y2 y3 y4;obtain⟨k1,k2,-⟩:=QAU f2;(exact bodyPost_ret (v := .agg #[.int .i64 pc1,.int .i64 (i:Nat)]) (by simp [results,Tryz.results42,go_sem,k1,k2]) rfl ⟨by rw [HT.out],b2⟩)
   ·have HT:Hid (QAe c 0=(0,0)):=by
     have:=HN.out;(rw [List.drop_of_length_le (by omega),QAe] at this);exact this.symm
    (have hge:¬ (i:Int) < (c.length:Int):=by omega);have q2:=QAB hbr HQ.out;obtain⟨y1,y2,y3,y4⟩:=QAU q2;clear H3 HN;go_wp2_with fail;have f2:=QBB q2 (.int .i64 0) (.int .i64 0);(have b2:=((QAC B1 hbr).setCell (p:=⟨w.heap.size+1,0,none⟩) (by simp) (.int .i64 0)).setCell (p:=⟨w.heap.size+1,1,none⟩) (by simp) (.int .i64 0));generalize World.setCell _ _ _=F at f2 b2 ⊢;clear y1 y2 y3 y4;obtain⟨k1,k2,-⟩:=QAU f2;(exact bodyPost_ret (v := .agg #[.int .i64 0,.int .i64 0]) (by simp [results,Tryz.results42,go_sem,k1,k2]) rfl ⟨by rw [HT.out],b2⟩)
theorem QEZ {w:World} {b:Nat} {c0 c1 c2 c3:Value} {T:TypeId} (h:w.heap[b]? = some (.cells #[c0,c1,c2,c3] T (0,0))):w.cell? ⟨b,0,none⟩=some c0∧w.cell? ⟨b,1,none⟩=some c1∧w.cell? ⟨b,2,none⟩=some c2∧w.cell? ⟨b,3,none⟩=some c3∧w.frozen? ⟨b,2,none⟩=false∧w.frozen? ⟨b,3,none⟩=false :=
 ⟨QAL h 0,QAL h 1,QAL h 2,QAL h 3,QBM h 2,QBM h 3⟩
theorem QAQ {w:World} {b:Nat} {c0 c1 c2 c3 c4 c5 c6:Value} {T:TypeId} (h:w.heap[b]? = some (.cells #[c0,c1,c2,c3,c4,c5,c6] T (0,0))):w.cell? ⟨b,0,none⟩=some c0∧w.cell? ⟨b,1,none⟩=some c1∧w.cell? ⟨b,2,none⟩=some c2∧w.cell? ⟨b,3,none⟩=some c3∧w.cell? ⟨b,4,none⟩=some c4∧w.cell? ⟨b,5,none⟩=some c5∧w.cell? ⟨b,6,none⟩=some c6 :=
 ⟨QAL h 0,QAL h 1,QAL h 2,QAL h 3,QAL h 4,QAL h 5,QAL h 6⟩
def Ck (w:World) (bc:Nat) (i:Bool) (m:Nat) (s c:Nat):Prop:=w.heap[bc]? = some (.cells #[.bool i,.map (some m),.int .i64 (s:Nat),.int .i64 (c:Nat)] 178 (0,0))
def QCG (i:Bool) (l r:List Fm):Bool:=decide ((QAx l r).1≠0) || (i && decide (1 < r.length))
set_option maxHeartbeats 4000000 in
theorem QFz (i:Bool) (m s c bc:Nat) (l r:List Fm) (hl4:l.length≤400) (hr4:r.length≤400) (v u:Value) (w:World) (hv:FL w v l) (hu:FL w u r) (hc:Ck w bc i m s c) :
  Calls Tryz.prog 196 #[.pointer (some ⟨bc,0,none⟩),.agg #[v,u]] w fun e w'=>e = .returned (.bool (QCG i l r))∧Below w.heap.size w w':=by
 have B0:=QAA (Below.refl _ w) (.cells #[v,u] 28 (0,0));have hcs:=QFU l r hl4 hr4 v u (w.alloc (.cells #[v,u] 28 (0,0))) (hv.up B0) (hu.up B0);have hne:QCG i l r=(decide ((QAx l r).1≠0) || (i && decide (1 < r.length))):=rfl;rw [hne];clear hne;generalize QAx l r=sc at *;obtain⟨s1,s2⟩:=sc;have hfc:=QCO s1 s2;have HS:Hid (Calls Tryz.prog 42 _ _ _):=hcs;obtain⟨adU,cpU,rfl,-⟩:=hu;obtain⟨adV,cpV,rfl,-⟩:=hv;(have hrI:(r.length:Int)≤400:=by omega);have HCk:Hid (w.heap[bc]? = some (.cells #[.bool i,.map (some m),.int .i64 (s:Nat),.int .i64 (c:Nat)] 178 (0,0))):=hc;clear hcs hc;by_cases h0:s1=0
 ·subst h0
  cases i
  ·go_enter Tryz.func196,Tryz.ntmps196
   go_wp2_with (first
    | (
      go_at_call 42
      refine HS.out.mono ?_;rintro e w1 ⟨rfl,hb1⟩;have B1:=QAC B0 hb1
      obtain⟨k0,-⟩:=QEZ (QAB hb1 (QAF HCk.out _)))
    | fail)
   go_ret;exact⟨rfl,B1⟩
  ·by_cases h1:1 < r.length
   ·have h1I:(1:Int) < (r.length:Int):=by omega
    have HT:Hid (decide (1 < r.length)=true):=decide_eq_true h1;clear h1
    go_enter Tryz.func196,Tryz.ntmps196
    go_wp2_with (first
     | (
       go_at_call 42
       refine HS.out.mono ?_;rintro e w1 ⟨rfl,hb1⟩;have B1:=QAC B0 hb1;obtain⟨k0,-⟩:=QEZ (QAB hb1 (QAF HCk.out _))
       obtain⟨y0,y1,-⟩:=QAU (QAB hb1 (QAG w _)))
     | fail)
    go_ret;(exact⟨by rw [HT.out];rfl,B1⟩)
   ·have h1I:¬ (1:Int) < (r.length:Int):=by omega
    have HT:Hid (decide (1 < r.length)=false):=decide_eq_false h1;have HD:Hid (decide ((1:Int) < (r.length:Int))=false):=decide_eq_false h1I;clear h1
    go_enter Tryz.func196,Tryz.ntmps196
    go_wp2_with (first
     | (
       go_at_call 42
       refine HS.out.mono ?_;rintro e w1 ⟨rfl,hb1⟩;have B1:=QAC B0 hb1;obtain⟨k0,-⟩:=QEZ (QAB hb1 (QAF HCk.out _))
       obtain⟨y0,y1,-⟩:=QAU (QAB hb1 (QAG w _)))
     | fail)
    go_ret;(exact⟨by rw [HT.out];show Ending.returned (.bool (decide ((1:Int) < (r.length:Int))))=_;rw [HD.out];rfl,B1⟩)
 ·have hne':(s1 != 0)=true:=by simpa using h0
  (have HT:Hid ((decide (s1≠0) || (i && decide (1 < r.length)))=true):=by show _=_;rw [decide_eq_true h0];rfl)
  go_enter Tryz.func196,Tryz.ntmps196
  go_wp2_with (first
   | (
     go_at_call 42
     refine HS.out.mono ?_;rintro e w1 ⟨rfl,hb1⟩
     have B1:=QAC B0 hb1)
   | fail)
  go_ret;(exact⟨by rw [HT.out];rfl,B1⟩)
def StV (w:World) (v:Value) (f:Fm) (l r:List Fm):Prop:=∃ c0 c1 c2 vl vr vg vd,v = .agg #[c0,c1,c2,vl,vr,vg,vd]∧Rep w (fun _=>True) f (.agg #[c0,c1,c2])∧FL w vl l∧FL w vr r∧FL w vg (l.erase f)∧FL w vd (r.erase f)
theorem StV.up {w w':World} {v:Value} {f:Fm} {l r:List Fm} (h:StV w v f l r) (hb:Below w.heap.size w w'):StV w' v f l r:=by
 obtain⟨c0,c1,c2,vl,vr,vg,vd,hv,h1,h2,h3,h4,h5⟩:=h;exact⟨c0,c1,c2,vl,vr,vg,vd,hv,h1.up hb,h2.up hb,h3.up hb,h4.up hb,h5.up hb⟩
theorem QFu (f:Fm) (l:List Fm):decide ((l.erase f).length < l.length)=decide (f∈l):=by
 by_cases h:f∈l
 ·rw [decide_eq_true h,decide_eq_true]
  have:=List.length_erase_of_mem h;have:=List.length_pos_of_mem h;omega
 ·rw [decide_eq_false h,List.erase_of_not_mem h,decide_eq_false (Nat.lt_irrefl _)]
set_option maxHeartbeats 1000000 in
theorem QCz (f:Fm) (l r:List Fm) (v:Value) (w:World) (hv:StV w v f l r) :
  Calls Tryz.prog 172 #[v] w fun e w'=>e = .returned (.bool (decide (f∈l)))∧Below w.heap.size w w':=by
 obtain⟨c0,c1,c2,vl,vr,vg,vd,rfl,h1,⟨ad,cp,rfl,-⟩,-,⟨adg,cpg,rfl,-⟩,-⟩:=hv;have HE:Hid (decide ((l.erase f).length < l.length)=decide (f∈l)):=QFu f l;clear h1
 go_enter Tryz.func172,Tryz.ntmps172
 go_wp2_with fail;go_ret;(exact⟨by rw [← HE.out];rfl,QAA (Below.refl _ w) _⟩)
set_option maxHeartbeats 1000000 in
theorem QCb (f:Fm) (l r:List Fm) (v:Value) (w:World) (hv:StV w v f l r) :
  Calls Tryz.prog 173 #[v] w fun e w'=>e = .returned (.bool (decide (f∈r)))∧Below w.heap.size w w':=by
 obtain⟨c0,c1,c2,vl,vr,vg,vd,rfl,h1,-,⟨ad,cp,rfl,-⟩,-,⟨adg,cpg,rfl,-⟩⟩:=hv;have HE:Hid (decide ((r.erase f).length < r.length)=decide (f∈r)):=QFu f r;clear h1
 go_enter Tryz.func173,Tryz.ntmps173
 go_wp2_with fail;go_ret;(exact⟨by rw [← HE.out];rfl,QAA (Below.refl _ w) _⟩)
set_option maxHeartbeats 1000000 in
theorem QBA (k:Int) (n:ByteArray) (a:Fm) (ks:List Fm) (l r:List Fm) (v:Value) (w:World) (hv:StV w v (.mk k n (a :: ks)) l r) :
  Calls Tryz.prog 179 #[v] w fun e w'=>∃ x,e = .returned x∧Rep w' (fun _=>True) a x∧Below w.heap.size w w':=by
 obtain⟨c0,c1,c2,vl,vr,vg,vd,rfl,h1,-⟩:=hv;obtain⟨sl,cap,hv0,-,hkc,hcm,hks⟩:=Rep.def.1 h1;simp only [Value.agg.injEq,Array.mk.injEq,List.cons.injEq,and_true] at hv0;obtain⟨rfl,rfl,rfl⟩:=hv0;(obtain⟨b,off,rfl,-,hrs⟩:=hks (by simp));obtain⟨ka,na,ksa⟩:=a;obtain⟨sla,capa,g0,g1,g2,hra⟩:=hrs.at 0 ka na ksa rfl;simp only [Nat.zero_mul,Nat.add_zero] at g0 g1 g2;(have hc0:(0:Int) < ((ks.length:Int)+1):=by omega);(have hlI:((ks.length:Int)+1)≤9223372036854775807:=by unfold maxLen at hcm;simp at hkc;omega);(have HR:Hid (Rep w (fun _=>True) (.mk ka na ksa) (.agg #[.int .i64 ka,.string na,.slice sla ksa.length capa])):=hra);have z0:=QAI g0;simp only at z0;(have d0:¬ b=w.heap.size:=by omega);(have d1:¬ b=w.heap.size+1:=by omega);clear h1 hrs hks hra hkc hcm
 go_enter Tryz.func179,Tryz.ntmps179
 go_wp2_with fail;(exact bodyPost_ret (v := .agg #[.int .i64 ka,.string na,.slice sla ksa.length capa]) (by simp [results,Tryz.results179,go_sem]) rfl ⟨_,rfl,(HR.out.more _).more _,QAA (QAA (Below.refl _ w) _) _⟩)
set_option maxHeartbeats 1000000 in
theorem QBX (k:Int) (n:ByteArray) (a0 a:Fm) (ks:List Fm) (l r:List Fm) (v:Value) (w:World) (hv:StV w v (.mk k n (a0 :: a :: ks)) l r) :
  Calls Tryz.prog 180 #[v] w fun e w'=>∃ x,e = .returned x∧Rep w' (fun _=>True) a x∧Below w.heap.size w w':=by
 obtain⟨c0,c1,c2,vl,vr,vg,vd,rfl,h1,-⟩:=hv;obtain⟨sl,cap,hv0,-,hkc,hcm,hks⟩:=Rep.def.1 h1;simp only [Value.agg.injEq,Array.mk.injEq,List.cons.injEq,and_true] at hv0;obtain⟨rfl,rfl,rfl⟩:=hv0;(obtain⟨b,off,rfl,-,hrs⟩:=hks (by simp));obtain⟨ka,na,ksa⟩:=a;obtain⟨sla,capa,g0,g1,g2,hra⟩:=hrs.at 1 ka na ksa rfl;simp only [Nat.one_mul] at g0 g1 g2;(have hc0:(1:Int) < ((ks.length:Int)+1+1):=by omega);(have hlI:((ks.length:Int)+1+1)≤9223372036854775807:=by unfold maxLen at hcm;simp at hkc;omega);(have HR:Hid (Rep w (fun _=>True) (.mk ka na ksa) (.agg #[.int .i64 ka,.string na,.slice sla ksa.length capa])):=hra);have z0:=QAI g0;simp only at z0;(have d0:¬ b=w.heap.size:=by omega);(have d1:¬ b=w.heap.size+1:=by omega);clear h1 hrs hks hra hkc hcm
 go_enter Tryz.func180,Tryz.ntmps180
 go_wp2_with fail;(exact bodyPost_ret (v := .agg #[.int .i64 ka,.string na,.slice sla ksa.length capa]) (by simp [results,Tryz.results180,go_sem]) rfl ⟨_,rfl,(HR.out.more _).more _,QAA (QAA (Below.refl _ w) _) _⟩)
def SQs (w:World) (v:Value) (ss:List (List Fm × List Fm)):Prop:=∃ ad cap,v = .slice ad ss.length cap∧ss.length≤cap∧cap≤maxLen∧(ss≠[]→∃ b off,ad=some ⟨b,off,none⟩∧∀ (j:Nat) (s:List Fm × List Fm),ss[j]? = some s→∃ vl vr,w.cell? ⟨b,off+j * 2,none⟩=some vl∧w.cell? ⟨b,off+j * 2+1,none⟩=some vr∧FL w vl s.1∧FL w vr s.2)
theorem SQs.up {w w':World} {v:Value} {ss:List (List Fm × List Fm)} (h:SQs w v ss) (hb:Below w.heap.size w w'):SQs w' v ss:=by
 obtain⟨ad,cap,h1,h2,h3,h4⟩:=h;(refine⟨ad,cap,h1,h2,h3,fun hne => ?_⟩);obtain⟨b,off,h5,h6⟩:=h4 hne;(refine⟨b,off,h5,fun j s hs => ?_⟩);obtain⟨vl,vr,h7,h8,h9,h10⟩:=h6 j s hs;exact⟨vl,vr,(hb.cell (p:=⟨b,off+j * 2,none⟩) (QAI h7)).trans h7,(hb.cell (p:=⟨b,off+j * 2+1,none⟩) (QAI h8)).trans h8,h9.up hb,h10.up hb⟩
theorem SQs.nil {w:World}:SQs w (.slice none 0 0) []:=⟨none,0,rfl,Nat.le_refl _,by simp,fun h=>absurd rfl h⟩
theorem SQs.one {w:World} {b:Nat} {T:TypeId} {vl vr:Value} {s:List Fm × List Fm} (hb:w.heap[b]? = some (.cells #[vl,vr] T (0,0))) (h1:FL w vl s.1) (h2:FL w vr s.2):SQs w (.slice (some ⟨b,0,none⟩) 1 1) [s]:=by
 (refine⟨_,1,rfl,Nat.le_refl _,by simp [maxLen],fun _=>⟨b,0,rfl,fun j t ht => ?_⟩⟩)
 cases j with
 | zero=>simp at ht;subst ht;exact⟨vl,vr,QAL hb 0,QAL hb 1,h1,h2⟩
 | succ j=>simp at ht
theorem SQs.two {w:World} {b:Nat} {T:TypeId} {vl vr vl' vr':Value} {s s':List Fm × List Fm} (hb:w.heap[b]? = some (.cells #[vl,vr,vl',vr'] T (0,0))) (h1:FL w vl s.1) (h2:FL w vr s.2) (h3:FL w vl' s'.1) (h4:FL w vr' s'.2):SQs w (.slice (some ⟨b,0,none⟩) 2 2) [s,s']:=by
 (refine⟨_,2,rfl,Nat.le_refl _,by simp [maxLen],fun _=>⟨b,0,rfl,fun j t ht => ?_⟩⟩)
 rcases j with _|_|j
 ·simp at ht;subst ht;exact⟨vl,vr,QAL hb 0,QAL hb 1,h1,h2⟩
 ·simp at ht;subst ht;exact⟨vl',vr',QAL hb 2,QAL hb 3,h3,h4⟩
 ·simp at ht
theorem FL.sing {w:World} {b:Nat} {T:TypeId} {c0 c1 c2:Value} {f:Fm} (hb:w.heap[b]? = some (.cells #[c0,c1,c2] T (0,0))) (h:Rep w (fun _=>True) f (.agg #[c0,c1,c2])):FL w (.slice (some ⟨b,0,none⟩) 1 1) [f] :=
 ⟨_,1,rfl,Nat.le_refl _,by simp [maxLen],fun _=>⟨b,0,rfl,Reps.cons.2 ⟨⟨c0,c1,c2,QAL hb 0,QAL hb 1,QAL hb 2,h⟩,Reps.nil⟩⟩⟩
theorem FL.duo {w:World} {b:Nat} {T:TypeId} {c0 c1 c2 c3 c4 c5:Value} {f g:Fm} (hb:w.heap[b]? = some (.cells #[c0,c1,c2,c3,c4,c5] T (0,0))) (h:Rep w (fun _=>True) f (.agg #[c0,c1,c2])) (h':Rep w (fun _=>True) g (.agg #[c3,c4,c5])):FL w (.slice (some ⟨b,0,none⟩) 2 2) [f,g] :=
 ⟨_,2,rfl,Nat.le_refl _,by simp [maxLen],fun _=>⟨b,0,rfl,Reps.cons.2 ⟨⟨c0,c1,c2,QAL hb 0,QAL hb 1,QAL hb 2,h⟩,Reps.cons.2 ⟨⟨c3,c4,c5,QAL hb 3,QAL hb 4,QAL hb 5,h'⟩,Reps.nil⟩⟩⟩⟩
theorem FL.none {w:World}:FL w (.slice none 0 0) []:=⟨_,0,rfl,Nat.le_refl _,by simp,fun h=>absurd rfl h⟩
def kEq (x:Value):Value→World→Prop:=fun v _=>v=x
def QCB (k:Int) (n:ByteArray) (ks:List Fm):Value→World→Prop:=fun v w=>∃ sl cap,v = .agg #[.int .i64 k,.string n,.slice sl ks.length cap]∧Rep w (fun _=>True) (.mk k n ks) (.agg #[.int .i64 k,.string n,.slice sl ks.length cap])
def kFL (l:List Fm):Value→World→Prop:=fun v w=>∃ ad m cap,v = .slice ad m cap∧FL w (.slice ad m cap) l
def kSQ (s:List Fm × List Fm):Value→World→Prop:=fun v w=>∃ ad m cap ad' m' cap',v = .agg #[.slice ad m cap,.slice ad' m' cap']∧FL w (.slice ad m cap) s.1∧FL w (.slice ad' m' cap') s.2
def QAW (ss:List (List Fm × List Fm)):Value→World→Prop:=fun v w=>SQs w v ss
theorem QAN (x:Value):QCD (kEq x):=fun _ _ _ h _=>h
theorem QAc (k:Int) (n:ByteArray) (ks:List Fm):QCD (QCB k n ks):=fun _ _ _ h hb=>by
 obtain⟨sl,cap,hv,hr⟩:=h;exact⟨sl,cap,hv,hr.up hb⟩
theorem QAR (l:List Fm):QCD (kFL l):=fun _ _ _ h hb=>by
 obtain⟨ad,m,cap,hv,hl⟩:=h;exact⟨ad,m,cap,hv,hl.up hb⟩
theorem QAS (s:List Fm × List Fm):QCD (kSQ s):=fun _ _ _ h hb=>by
 obtain⟨ad,m,cap,ad',m',cap',hv,h1,h2⟩:=h;exact⟨ad,m,cap,ad',m',cap',hv,h1.up hb,h2.up hb⟩
theorem QAP (ss:List (List Fm × List Fm)):QCD (QAW ss):=fun _ _ _ h hb=>SQs.up h hb
theorem QAt {k:Int} {n:ByteArray} {ks:List Fm} {w:World} {x:Value} (h:Rep w (fun _=>True) (.mk k n ks) x):QCB k n ks x w:=by
 obtain⟨sl,cap,rfl⟩:=QAJ h;exact⟨sl,cap,rfl,h⟩
theorem QAM {l:List Fm} {w:World} {x:Value} (h:FL w x l):kFL l x w:=by
 have h':=h;obtain⟨ad,cap,rfl,-⟩:=h;exact⟨ad,_,cap,rfl,h'⟩
end Go.Proofs.YtffkoiemnchdgadGreat
