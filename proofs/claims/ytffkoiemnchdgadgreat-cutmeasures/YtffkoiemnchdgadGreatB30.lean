import Derived.Test.YtffkoiemnchdgadGreatB29
import Derived.Test.YtffkoiemnchdgadGreatB04
namespace Go.Proofs.YtffkoiemnchdgadGreat
open Go.RowKit
theorem QJw {w:World} {b:Nat} {c0 c1 c2 c3 c4 c5 c6:Value} {T:TypeId} (h:w.heap[b]? = some (.cells #[c0,c1,c2,c3,c4,c5,c6] T (0,0))):w.frozen? ⟨b,0,none⟩=false∧w.frozen? ⟨b,1,none⟩=false∧w.frozen? ⟨b,2,none⟩=false∧w.frozen? ⟨b,3,none⟩=false∧w.frozen? ⟨b,4,none⟩=false∧w.frozen? ⟨b,5,none⟩=false∧w.frozen? ⟨b,6,none⟩=false :=
 ⟨QBM h 0,QBM h 1,QBM h 2,QBM h 3,QBM h 4,QBM h 5,QBM h 6⟩
def QEP (w:World) (b:Nat) (y0 y1 y2 y3 y4 y5 y6:Value):World:=((((((w.setCell ⟨b,0,none⟩ y0).setCell ⟨b,1,none⟩ y1).setCell ⟨b,2,none⟩ y2).setCell ⟨b,3,none⟩ y3).setCell ⟨b,4,none⟩ y4).setCell ⟨b,5,none⟩ y5).setCell ⟨b,6,none⟩ y6
theorem QGM {w:World} {b:Nat} {x0 x1 x2 x3 x4 x5 x6:Value} {T:TypeId} (h:w.heap[b]? = some (.cells #[x0,x1,x2,x3,x4,x5,x6] T (0,0))) (y0 y1 y2 y3 y4 y5 y6:Value) :
  (QEP w b y0 y1 y2 y3 y4 y5 y6).heap[b]? = some (.cells #[y0,y1,y2,y3,y4,y5,y6] T (0,0)):=by
 simp [QEP,World.setCell,Array.getElem?_modify,h]
theorem QDE {w:World} {b i:Nat} (h:i≠b) (y0 y1 y2 y3 y4 y5 y6:Value):(QEP w b y0 y1 y2 y3 y4 y5 y6).heap[i]? = w.heap[i]? := by
 unfold QEP
 repeat rw [Below.heap_setCell _ _ _ _ h]
theorem QDD {B:Nat} {a w:World} {b:Nat} (h:Below B a w) (hb:B≤b) (y0 y1 y2 y3 y4 y5 y6:Value):Below B a (QEP w b y0 y1 y2 y3 y4 y5 y6) :=
 ((((((h.setCell (p:=⟨b,0,none⟩) hb y0).setCell (p:=⟨b,1,none⟩) hb y1).setCell (p:=⟨b,2,none⟩) hb y2).setCell (p:=⟨b,3,none⟩) hb y3).setCell (p:=⟨b,4,none⟩) hb y4).setCell (p:=⟨b,5,none⟩) hb y5).setCell (p:=⟨b,6,none⟩) hb y6
def QKC (P:Nat→Prop) (l:List Fm):Value→World→Prop:=fun v w=>∃ ad m cap,v = .slice ad m cap∧FLp P w (.slice ad m cap) l
theorem QGq (P:Nat→Prop) (l:List Fm):QCD (QKC P l):=fun _ _ _ h hb=>by
 obtain⟨ad,m,cap,hv,hl⟩:=h;exact⟨ad,m,cap,hv,hl.up hb⟩
def kSt (P:Nat→Prop) (c0 c1 c2 vl vr:Value) (g d:List Fm):Value→World→Prop:=fun v w=>∃ ad m cap ad' m' cap',v = .agg #[c0,c1,c2,vl,vr,.slice ad m cap,.slice ad' m' cap']∧FLp P w (.slice ad m cap) g∧FLp P w (.slice ad' m' cap') d
theorem QHz (P:Nat→Prop) (c0 c1 c2 vl vr:Value) (g d:List Fm):QCD (kSt P c0 c1 c2 vl vr g d):=fun _ _ _ h hb=>by
 obtain⟨ad,m,cap,ad',m',cap',hv,h1,h2⟩:=h;exact⟨ad,m,cap,ad',m',cap',hv,h1.up hb,h2.up hb⟩
theorem QJI {w w2:World} {f:Fm} {l r:List Fm} {c0 c1 c2 vl vr vg vd:Value} (hf:Rep w (fun _=>True) f (.agg #[c0,c1,c2])) (hl:FL w vl l) (hr:FL w vr r) (hB:Below w.heap.size w w2)
  (hg:FLp (fun b=>b < w.heap.size∨w.heap.size+3≤b) w2 vg (l.erase f)) (hd:FLp (fun b=>b < w.heap.size∨w.heap.size+3≤b) w2 vd (r.erase f)) (y0 y1 y2 y3 y4 y5 y6:Value) :
  StV (QEP w2 (w.heap.size+1+1) y0 y1 y2 y3 y4 y5 y6) (.agg #[c0,c1,c2,vl,vr,vg,vd]) f l r:=by
 (have hB':=QDD (b:=w.heap.size+1+1) hB (by omega) y0 y1 y2 y3 y4 y5 y6);(refine⟨c0,c1,c2,vl,vr,vg,vd,rfl,hf.up hB',hl.up hB',hr.up hB',(hg.move fun k _ hk=>⟨QDE (by omega) _ _ _ _ _ _ _,hk⟩).list,(hd.move fun k _ hk=>⟨QDE (by omega) _ _ _ _ _ _ _,hk⟩).list⟩)
set_option maxRecDepth 10000 in
set_option maxHeartbeats 8000000 in
theorem QHS (f:Fm) (l r:List Fm) (hl4:l.length≤300) (hr4:r.length≤300) (u vl vr:Value) (w:World) (hf:Rep w (fun _=>True) f u) (hl:FL w vl l) (hr:FL w vr r) :
  Calls Tryz.prog 198 #[u,.agg #[vl,vr]] w fun e w'=>∃ x,e = .returned x∧StV w' x f l r∧Below w.heap.size w w':=by
 obtain⟨k,n,ks⟩:=f;obtain⟨sf,cf,rfl⟩:=QAJ hf;(have HF:Hid (Rep w (fun _=>True) (.mk k n ks) _):=hf);have HL:Hid (FL w vl l):=hl;have HR:Hid (FL w vr r):=hr;obtain⟨adl,cpl,rfl,-⟩:=hl;obtain⟨adr,cpr,rfl,-⟩:=hr;obtain⟨O1,hO1⟩:∃ O,O=Obj.cells #[.int .i64 k,.string n,.slice sf ks.length cf] 24 (0,0):=⟨_,rfl⟩;obtain⟨O2,hO2⟩:∃ O,O=Obj.cells #[.slice adl l.length cpl,.slice adr r.length cpr] 28 (0,0):=⟨_,rfl⟩;obtain⟨O3,hO3⟩:∃ O,O=Obj.cells #[.int .i64 0,.string ⟨#[]⟩,.slice none 0 0,.slice none 0 0,.slice none 0 0,.slice none 0 0,.slice none 0 0] 248 (0,0):=⟨_,rfl⟩;obtain⟨W,hW⟩:∃ W,W=((w.alloc O1).alloc O2).alloc O3:=⟨_,rfl⟩;(have B0:Below w.heap.size w W:=by rw [hW];exact QAA (QAA (QAA (Below.refl _ w) _) _) _);(have z0:W.heap.size=w.heap.size+3:=by rw [hW];simp);(have p1:W.heap[w.heap.size]? = some O1:=by rw [hW];exact QAF (QAF (QAG w _) _) _);(have p2:W.heap[w.heap.size+1]? = some O2:=by rw [hW];exact QAF (QAd w _ _) _);(have p3:W.heap[w.heap.size+1+1]? = some O3:=by rw [hW];exact QCk w _ _ _);rw [hO1] at p1;rw [hO2] at p2;rw [hO3] at p3;have P1:Hid (W.heap[w.heap.size]? = some _):=p1;have P2:Hid (W.heap[w.heap.size+1]? = some _):=p2;have P3:Hid (W.heap[w.heap.size+1+1]? = some _):=p3
 have HWL:Hid (∀ wx,Below W.heap.size W wx→Calls Tryz.prog 222 #[.slice adl l.length cpl,.agg #[.int .i64 k,.string n,.slice sf ks.length cf]] wx fun e w'=>∃ ad m cp,e = .returned (.slice ad m cp)∧FLp (fun b=>b < w.heap.size∨w.heap.size+3≤b) w' (.slice ad m cp) (l.erase (.mk k n ks))∧Below wx.heap.size wx w'):=fun wx hb=>by
  have hbx:=QAC B0 hb;(refine (QDo w.heap.size l (.mk k n ks) (by omega) _ _ wx hbx.size ((HL.out.low).up hbx) (HF.out.up hbx)).mono ?_);rintro e w' ⟨x,rfl,hx,hb'⟩;have hx':=hx;obtain⟨ad,cp,rfl,-⟩:=hx;(exact⟨ad,_,cp,rfl,hx'.move fun q _ hq=>⟨rfl,hq.imp id fun h=>by have:=hb.size;omega⟩,hb'⟩)
 have HWR:Hid (∀ wx,Below W.heap.size W wx→Calls Tryz.prog 222 #[.slice adr r.length cpr,.agg #[.int .i64 k,.string n,.slice sf ks.length cf]] wx fun e w'=>∃ ad m cp,e = .returned (.slice ad m cp)∧FLp (fun b=>b < w.heap.size∨w.heap.size+3≤b) w' (.slice ad m cp) (r.erase (.mk k n ks))∧Below wx.heap.size wx w'):=fun wx hb=>by
  have hbx:=QAC B0 hb;(refine (QDo w.heap.size r (.mk k n ks) (by omega) _ _ wx hbx.size ((HR.out.low).up hbx) (HF.out.up hbx)).mono ?_);rintro e w' ⟨x,rfl,hx,hb'⟩;have hx':=hx;obtain⟨ad,cp,rfl,-⟩:=hx;(exact⟨ad,_,cp,rfl,hx'.move fun q _ hq=>⟨rfl,hq.imp id fun h=>by have:=hb.size;omega⟩,hb'⟩)
 clear hf
 go_enter Tryz.func198,Tryz.ntmps198
 go_wp2_with fail;rw [← hO1,← hO2,← hO3,← hW];clear p1 p2 p3;(refine QEY (by kernel_rfl) [kEq (.agg #[.int .i64 k,.string n,.slice sf ks.length cf]),kEq (.pointer (some ⟨w.heap.size+1,0,none⟩)),kEq (.slice adl l.length cpl),kEq (.pointer (some ⟨w.heap.size+1,1,none⟩)),kEq (.slice adr r.length cpr),kEq (.pointer (some ⟨w.heap.size+1,0,none⟩)),kEq (.slice adl l.length cpl),kEq (.agg #[.int .i64 k,.string n,.slice sf ks.length cf]),QKC (fun b=>b < w.heap.size∨w.heap.size+3≤b) (l.erase (.mk k n ks)),kEq (.pointer (some ⟨w.heap.size+1,1,none⟩)),kEq (.slice adr r.length cpr),kEq (.agg #[.int .i64 k,.string n,.slice sf ks.length cf]),QKC (fun b=>b < w.heap.size∨w.heap.size+3≤b) (r.erase (.mk k n ks)),kSt (fun b=>b < w.heap.size∨w.heap.size+3≤b) (.int .i64 k) (.string n) (.slice sf ks.length cf) (.slice adl l.length cpl) (.slice adr r.length cpr) (l.erase (.mk k n ks)) (r.erase (.mk k n ks))] ?_ (by kernel_rfl) (by kernel_rfl) 19 rfl (by kernel_rfl) 14 _ rfl rfl (by kernel_rfl) ?_ ?_)
 ·intro p hp
  simp only [List.mem_cons,List.not_mem_nil,or_false] at hp
  rcases hp with rfl|rfl|rfl|rfl|rfl|rfl|rfl|rfl|rfl|rfl|rfl|rfl|rfl|rfl
  all_goals first|exact QAN _|exact QGq _ _|exact QHz _ _ _ _ _ _ _ _
 ·refine⟨?_,?_,?_,?_,?_,?_,?_,?_,?_,?_,?_,?_,?_,?_,trivial⟩
  ·intro a wx hB hold hdep K hK
   have t2:a.tmps[2]? = some (.pointer (some ⟨w.heap.size,0,none⟩)):=hold.2.2 2 rfl;obtain⟨k0,k1,k2,-⟩:=QAX (QAB hB P1.out);clear hold hdep;go_simp;exact hK.out _ _ rfl (Below.refl _ _)
  ·intro a wx hB hold hdep K hK
   have t3:a.tmps[3]? = some (.pointer (some ⟨w.heap.size+1,0,none⟩)):=hold.2.2 3 rfl;clear hold hdep;go_simp;exact hK.out _ _ rfl (Below.refl _ _)
  ·intro a wx hB hold hdep K hK
   obtain⟨v6,t6,p6⟩:=hdep 1 rfl _ 6 rfl rfl;have e6:v6=(.pointer (some ⟨w.heap.size+1,0,none⟩)):=p6;subst e6;obtain⟨k0,k1,-⟩:=QAU (QAB hB P2.out);clear hold hdep;go_simp;exact hK.out _ _ rfl (Below.refl _ _)
  ·intro a wx hB hold hdep K hK
   have t3:a.tmps[3]? = some (.pointer (some ⟨w.heap.size+1,0,none⟩)):=hold.2.2 3 rfl;clear hold hdep;go_simp;exact hK.out _ _ rfl (Below.refl _ _)
  ·intro a wx hB hold hdep K hK
   obtain⟨v8,t8,p8⟩:=hdep 3 rfl _ 8 rfl rfl;have e8:v8=(.pointer (some ⟨w.heap.size+1,1,none⟩)):=p8;subst e8;obtain⟨k0,k1,-⟩:=QAU (QAB hB P2.out);clear hold hdep;go_simp;exact hK.out _ _ rfl (Below.refl _ _)
  ·intro a wx hB hold hdep K hK
   have t3:a.tmps[3]? = some (.pointer (some ⟨w.heap.size+1,0,none⟩)):=hold.2.2 3 rfl;clear hold hdep;go_simp;exact hK.out _ _ rfl (Below.refl _ _)
  ·intro a wx hB hold hdep K hK
   obtain⟨v10,t10,p10⟩:=hdep 5 rfl _ 10 rfl rfl;have e10:v10=(.pointer (some ⟨w.heap.size+1,0,none⟩)):=p10;subst e10;obtain⟨k0,k1,-⟩:=QAU (QAB hB P2.out);clear hold hdep;go_simp;exact hK.out _ _ rfl (Below.refl _ _)
  ·intro a wx hB hold hdep K hK
   have t2:a.tmps[2]? = some (.pointer (some ⟨w.heap.size,0,none⟩)):=hold.2.2 2 rfl;obtain⟨k0,k1,k2,-⟩:=QAX (QAB hB P1.out);clear hold hdep;go_simp;exact hK.out _ _ rfl (Below.refl _ _)
  ·intro a wx hB hold hdep K hK
   obtain⟨v11,t11,p11⟩:=hdep 6 rfl _ 11 rfl rfl;have e11:v11=(.slice adl l.length cpl):=p11;subst e11;obtain⟨v12,t12,p12⟩:=hdep 7 rfl _ 12 rfl rfl;have e12:v12=(.agg #[.int .i64 k,.string n,.slice sf ks.length cf]):=p12;subst e12;clear hold hdep;go_simp;refine (HWL.out wx hB).mono ?_;rintro e w1 ⟨ad,m,cp,rfl,hx,hb⟩;exact hK.out _ _ ⟨_,_,_,rfl,hx⟩ hb
  ·intro a wx hB hold hdep K hK
   have t3:a.tmps[3]? = some (.pointer (some ⟨w.heap.size+1,0,none⟩)):=hold.2.2 3 rfl;clear hold hdep;go_simp;exact hK.out _ _ rfl (Below.refl _ _)
  ·intro a wx hB hold hdep K hK
   obtain⟨v14,t14,p14⟩:=hdep 9 rfl _ 14 rfl rfl;have e14:v14=(.pointer (some ⟨w.heap.size+1,1,none⟩)):=p14;subst e14;obtain⟨k0,k1,-⟩:=QAU (QAB hB P2.out);clear hold hdep;go_simp;exact hK.out _ _ rfl (Below.refl _ _)
  ·intro a wx hB hold hdep K hK
   have t2:a.tmps[2]? = some (.pointer (some ⟨w.heap.size,0,none⟩)):=hold.2.2 2 rfl;obtain⟨k0,k1,k2,-⟩:=QAX (QAB hB P1.out);clear hold hdep;go_simp;exact hK.out _ _ rfl (Below.refl _ _)
  ·intro a wx hB hold hdep K hK
   obtain⟨v15,t15,p15⟩:=hdep 10 rfl _ 15 rfl rfl;have e15:v15=(.slice adr r.length cpr):=p15;subst e15;obtain⟨v16,t16,p16⟩:=hdep 11 rfl _ 16 rfl rfl;have e16:v16=(.agg #[.int .i64 k,.string n,.slice sf ks.length cf]):=p16;subst e16;clear hold hdep;go_simp;refine (HWR.out wx hB).mono ?_;rintro e w1 ⟨ad,m,cp,rfl,hx,hb⟩;exact hK.out _ _ ⟨_,_,_,rfl,hx⟩ hb
  ·intro a wx hB hold hdep K hK
   obtain⟨v5,t5,p5⟩:=hdep 0 rfl _ 5 rfl rfl;have e5:v5=(.agg #[.int .i64 k,.string n,.slice sf ks.length cf]):=p5;subst e5;obtain⟨v7,t7,p7⟩:=hdep 2 rfl _ 7 rfl rfl;have e7:v7=(.slice adl l.length cpl):=p7;subst e7;obtain⟨v9,t9,p9⟩:=hdep 4 rfl _ 9 rfl rfl;have e9:v9=(.slice adr r.length cpr):=p9;subst e9;obtain⟨v13,t13,adg,mg,cpg,e13,p13⟩:=hdep 8 rfl _ 13 rfl rfl;obtain⟨v17,t17,add,md,cpd,e17,p17⟩:=hdep 12 rfl _ 17 rfl rfl;subst e13 e17;have HG:Hid (FLp _ wx _ _):=p13;have HD:Hid (FLp _ wx _ _):=p17;clear hold hdep p13 p17;go_simp;exact hK.out _ _ ⟨_,_,_,_,_,_,rfl,HG.out,HD.out⟩ (Below.refl _ _)
 ·intro a wx hB hold hgot K hK
  have t4:a.tmps[4]? = some (.pointer (some ⟨w.heap.size+1+1,0,none⟩)):=hold.2.2 4 rfl;have hD:a.defers=[]:=hold.2.1;(obtain⟨v18,t18,adg,mg,cpg,add,md,cpd,e18,hg,hd⟩:=hgot 13 _ 18 (by omega) rfl rfl);subst e18;have HG:Hid (FLp _ wx _ (l.erase (.mk k n ks))):=hg;have HD:Hid (FLp _ wx _ (r.erase (.mk k n ks))):=hd;have q3:=QAB hB P3.out;have HQ:Hid (wx.heap[w.heap.size+1+1]? = some _):=q3;obtain⟨j0,j1,j2,j3,j4,j5,j6⟩:=QAQ q3;obtain⟨m0,m1,m2,m3,m4,m5,m6⟩:=QJw q3;clear hold hgot hg hd q3;go_simp;refine hK.out _ _ ?_;have hE:=QJI HF.out HL.out HR.out (QAC B0 hB) HG.out HD.out (.int .i64 k) (.string n) (.slice sf ks.length cf) (.slice adl l.length cpl) (.slice adr r.length cpr) (.slice adg mg cpg) (.slice add md cpd);have f7:=QGM HQ.out (.int .i64 k) (.string n) (.slice sf ks.length cf) (.slice adl l.length cpl) (.slice adr r.length cpr) (.slice adg mg cpg) (.slice add md cpd);(have b7:=QDD (b:=w.heap.size+1+1) (QAC B0 hB) (by omega) (.int .i64 k) (.string n) (.slice sf ks.length cf) (.slice adl l.length cpl) (.slice adr r.length cpr) (.slice adg mg cpg) (.slice add md cpd));show Exit.then _ _ _ _ (QEP wx (w.heap.size+1+1) _ _ _ _ _ _ _);generalize QEP wx (w.heap.size+1+1) _ _ _ _ _ _ _=F at *;have HE:Hid (StV F _ (.mk k n ks) l r):=hE;clear hE j0 j1 j2 j3 j4 j5 j6 m0 m1 m2 m3 m4 m5 m6;obtain⟨j0,j1,j2,j3,j4,j5,j6⟩:=QAQ f7;go_wp2_with fail;(exact bodyPost_ret (v := .agg #[.int .i64 k,.string n,.slice sf ks.length cf,.slice adl l.length cpl,.slice adr r.length cpr,.slice adg mg cpg,.slice add md cpd]) (by simp [results,Tryz.results198,go_sem,t4,j0,j1,j2,j3,j4,j5,j6]) hD ⟨_,rfl,HE.out,b7⟩)
def KL (w:World) (v:Value) (ks:List Pf):Prop:=∃ sl cap,v = .slice sl ks.length cap∧ks.length≤cap∧cap≤maxLen∧(ks≠[]→∃ b off,sl=some ⟨b,off,none⟩∧PReps w b off ks)
theorem KL.up {w w':World} {v:Value} {ks:List Pf} (h:KL w v ks) (hb:Below w.heap.size w w'):KL w' v ks:=by
 obtain⟨sl,cap,h1,h2,h3,h4⟩:=h;(refine⟨sl,cap,h1,h2,h3,fun hne => ?_⟩);obtain⟨b,off,h5,h6⟩:=h4 hne;exact⟨b,off,h5,PReps.up hb b off ks h6⟩
theorem QGs {ks:List Pf} {ss:List (List Fm × List Fm)} {i:Nat} {k:Pf} {s:List Fm × List Fm} (hk:ks[i]? = some k) (hs:ss[i]? = some s):QAo (ks.drop i) (ss.drop i)=if QBk k.l s.1 && QBk k.r s.2 then QAo (ks.drop (i+1)) (ss.drop (i+1)) else 7:=by
 have hi:i < ks.length:=(List.getElem?_eq_some_iff.1 hk).1;have hj:i < ss.length:=(List.getElem?_eq_some_iff.1 hs).1;rw [List.drop_eq_getElem_cons hi,List.drop_eq_getElem_cons hj,QAo];rw [List.getElem?_eq_getElem hi] at hk;rw [List.getElem?_eq_getElem hj] at hs;rw [Option.some.inj hk,Option.some.inj hs]
set_option maxRecDepth 10000 in
set_option maxHeartbeats 4000000 in
theorem QFZ (ks:List Pf) (ss:List (List Fm × List Fm)) (hsm:∀ s∈ss,s.1.length≤400∧s.2.length≤400) (v u:Value) (w:World) (hv:KL w v ks) (hu:SQs w u ss) :
  Calls Tryz.prog 199 #[v,u] w fun e w'=>e = .returned (.int .i64 (if ks.length≠ss.length then 9 else QAo ks ss))∧Below w.heap.size w w':=by
 obtain⟨sl,cap,rfl,h1,h2,h3⟩:=hv;obtain⟨ad,cp,rfl,g1,g2,g3⟩:=hu;(have hlI:(ks.length:Int)≤9223372036854775807:=by unfold maxLen at h2;omega);(have hmI:(ss.length:Int)≤9223372036854775807:=by unfold maxLen at g2;omega);have H3:Hid (ks≠[]→∃ b off,sl=some ⟨b,off,none⟩∧PReps w b off ks):=h3;have G3:Hid (ss≠[]→∃ b off,ad=some ⟨b,off,none⟩∧∀ (j:Nat) (s:List Fm × List Fm),ss[j]? = some s→∃ vl vr,w.cell? ⟨b,off+j * 2,none⟩=some vl∧w.cell? ⟨b,off+j * 2+1,none⟩=some vr∧FL w vl s.1∧FL w vr s.2):=g3;have HSm:Hid (∀ s∈ss,s.1.length≤400∧s.2.length≤400):=hsm;clear h3 g3 hsm;by_cases hl:ks.length=ss.length
 ·rw [if_neg (fun h=>h hl)]
  have HLe:Hid (ks.length=ss.length):=hl;(have hlc:(ss.length:Int)≤(cap:Int):=by omega);obtain⟨m,hm⟩:∃ m,m=ss.length:=⟨_,rfl⟩;rw [hl,← hm];rw [← hm] at hl g1 hmI hlc;rw [hl] at h1 hlI;have HMm:Hid (m=ss.length):=hm;clear hl hm
  go_enter Tryz.func199,Tryz.ntmps199
  go_wp2_with fail
  go_loopg [15] m (fun g c wr=>∃ i,i≤m∧g=m - i∧c = .int .i64 (i:Nat)∧Below w.heap.size w wr∧Hid (QAo (ks.drop i) (ss.drop i)=QAo ks ss))
  case atStart=>exact⟨0,by omega,by omega,rfl,Below.refl _ _,by show _=_;simp⟩
  case round =>
   obtain⟨i,hi,hg,rfl,hbr,HN⟩:=hrel;have HG:Hid (gk=m - i):=hg;clear hg;by_cases hlt:i < m
   ·have hks:i < ks.length:=by have:=HLe.out;have:=HMm.out;omega
    (have hss:i < ss.length:=by have:=HMm.out;omega);obtain⟨⟨ka,⟨kk,kn,kf⟩,kl,kr,kks⟩,hki⟩:∃ f,ks[i]? = some f:=⟨_,List.getElem?_eq_getElem hks⟩;obtain⟨⟨s1,s2⟩,hsi⟩:∃ f,ss[i]? = some f:=⟨_,List.getElem?_eq_getElem hss⟩;(obtain⟨b,off,rfl,hrs⟩:=H3.out (fun e=>by rw [e] at hks;simp at hks));(obtain⟨b',off',rfl,hrs'⟩:=G3.out (fun e=>by rw [e] at hss;simp at hss));obtain⟨sf,cf,al,cl,ar,cr,sl2,cap2,x0,x1,x2,x3,x4,x5,x6,hrep⟩:=(PReps.up hbr b off ks hrs).at i ka kk kn kf kl kr kks hki;obtain⟨vl,vr,y0,y1,hyl,hyr⟩:=hrs' i (s1,s2) hsi;obtain⟨_,_,_,_,_,_,_,_,hpe,-,-,hkl,hkr,-⟩:=hrep.parts;simp only [Value.agg.injEq,Array.mk.injEq,List.cons.injEq,Value.slice.injEq,and_true,true_and] at hpe;obtain⟨⟨rfl,rfl⟩,⟨rfl,rfl⟩,⟨rfl,rfl⟩,⟨rfl,rfl⟩⟩:=hpe;have y0':=(hbr.cell (p:=⟨b',off'+i * 2,none⟩) (QAI y0)).trans y0;have y1':=(hbr.cell (p:=⟨b',off'+i * 2+1,none⟩) (QAI y1)).trans y1;have HYL:Hid (FL w vl s1):=hyl;have HYR:Hid (FL w vr s2):=hyr;obtain⟨ayl,cyl,rfl,-⟩:=hyl;obtain⟨ayr,cyr,rfl,-⟩:=hyr;have HKL:Hid (FL wr (.slice al kl.length cl) kl):=hkl;have HKR:Hid (FL wr (.slice ar kr.length cr) kr):=hkr;have hds:=HN.out;rw [QGs hki hsi] at hds;(have HD:Hid ((if QBk kl s1 && QBk kr s2 then QAo (ks.drop (i+1)) (ss.drop (i+1)) else 7)=QAo ks ss):=hds);have hs12:=HSm.out _ (List.mem_of_getElem? hsi);(have HE1:Hid (∀ wx,Below w.heap.size w wx→Below wr.heap.size wr wx→Calls Tryz.prog 223 #[.slice al kl.length cl,.slice ayl s1.length cyl] wx fun e w'=>e = .returned (.bool (QBk kl s1))∧Below wx.heap.size wx w'):=fun wx hb1 hb2=>QFy kl s1 hs12.1 _ _ wx (HKL.out.up hb2) (HYL.out.up hb1));(have HE2:Hid (∀ wx,Below w.heap.size w wx→Below wr.heap.size wr wx→Calls Tryz.prog 223 #[.slice ar kr.length cr,.slice ayr s2.length cyr] wx fun e w'=>e = .returned (.bool (QBk kr s2))∧Below wx.heap.size wx w'):=fun wx hb1 hb2=>QFy kr s2 hs12.2 _ _ wx (HKR.out.up hb2) (HYR.out.up hb1));(have hltI:(i:Int) < (m:Int):=by omega);(have hic:(i:Int) < (cap:Int):=by omega);(have hicp:(i:Int) < (cp:Int):=by omega);have zb:b < wr.heap.size:=QAI x0;have zb':b' < wr.heap.size:=QAI y0';(have d1:¬ b=wr.heap.size:=by omega);(have d2:¬ b'=wr.heap.size:=by omega);generalize QBk kl s1=e1 at *;generalize QBk kr s2=e2 at *;clear hki hsi hrs hrs' H3 G3 hds HN hrep hkl hkr y0 y1 hs12 HYL HYR HKL HKR HSm hks hss;go_wp2_with fail;refine (HE1.out _ (QAA (QAA hbr _) _) (QAA (QAA (Below.refl _ _) _) _)).mono ?_;rintro e w1 ⟨rfl,hb1⟩;have Bw:=QAC (QAA (QAA hbr _) _) hb1;have Br:=QAC (QAA (QAA (Below.refl _ wr) _) _) hb1;obtain⟨u0,u1,-⟩:=QAU (QAB hb1 (QAF (QAG wr (.cells #[.slice ayl s1.length cyl,.slice ayr s2.length cyr] 28 (0,0))) (.cells #[.slice al kl.length cl,.slice ar kr.length cr] 28 (0,0))));obtain⟨t0,t1,-⟩:=QAU (QAB hb1 (QAd wr (.cells #[.slice ayl s1.length cyl,.slice ayr s2.length cyr] 28 (0,0)) (.cells #[.slice al kl.length cl,.slice ar kr.length cr] 28 (0,0))))
    cases e1
    ·have HT:Hid (QAo ks ss=7):=by
      have:=HD.out;simp only [Bool.false_and] at this;exact this.symm
     clear HD HE2;go_wp2_with fail;go_ret;(exact⟨by rw [HT.out];rfl,Bw⟩)
    ·go_wp2_with fail
     refine (HE2.out _ Bw Br).mono ?_;rintro e w2 ⟨rfl,hb2⟩;have Bw2:=QAC Bw hb2;clear Br Bw hb2
     cases e2
     ·have HT:Hid (QAo ks ss=7):=by
       have:=HD.out;simp only [Bool.true_and] at this;exact this.symm
      clear HD;go_wp2_with fail;go_ret;(exact⟨by rw [HT.out];rfl,Bw2⟩)
     ·have HT:Hid (QAo (ks.drop (i+1)) (ss.drop (i+1))=QAo ks ss):=by
       have:=HD.out;simp only [Bool.true_and,if_true] at this;exact this
      clear HD;go_wp2_with fail
      go_roundg (m - (i+1))
      case measure=>have:=HG.out;omega
      case rel=>exact⟨i+1,by omega,rfl,by go_num,Bw2,HT⟩
   ·have HT:Hid (QAo ks ss=0):=by
     have:=HN.out;(rw [List.drop_of_length_le (by have:=HLe.out;have:=HMm.out;omega),QAo] at this)
     ·exact this.symm
     ·intro k ks' s ss' h;cases h
    (have hge:¬ (i:Int) < (m:Int):=by omega);clear H3 G3 HN;go_wp2_with fail;go_ret;(exact⟨by rw [HT.out];rfl,hbr⟩)
 ·rw [if_pos hl]
  (have hlJ:((ks.length:Int) != (ss.length:Int))=true:=by simp;omega);clear H3 G3
  go_enter Tryz.func199,Tryz.ntmps199
  go_wp2_with fail;go_ret;exact⟨rfl,Below.refl _ _⟩
theorem QCr {k:Int} {n:ByteArray} {kf:List Fm}:Fm.mk k n kf = .mk 0 ⟨#[]⟩ [] ↔ k=0∧n.data.toList=[]∧kf=[]:=by
 constructor
 ·intro h
  injection h with h1 h2 h3
  (exact⟨h1,by rw [h2],h3⟩)
 ·rintro ⟨h1,h2,h3⟩
  (have:n=⟨#[]⟩:=by apply ByteArray.ext;apply Array.ext';exact h2);rw [h1,this,h3]
theorem QBi {f:Fm} {l r:List Fm} {ks:List Pf} (h:¬ f = .mk 0 ⟨#[]⟩ []):QBx f l r ks=5:=by
 unfold QBx;rw [if_neg h]
theorem QFK {l r:List Fm} {k:Pf}:QBx (.mk 0 ⟨#[]⟩ []) l r [k]=if QAV k.l l && QAV k.r r then 0 else 7:=by
 unfold QBx;rw [if_pos rfl]
theorem QEX {l r:List Fm} {ks:List Pf} (h:¬ ks.length=1):QBx (.mk 0 ⟨#[]⟩ []) l r ks=9:=by
 unfold QBx;rw [if_pos rfl]
 split
 ·exact absurd rfl h
 ·rfl
set_option maxRecDepth 10000 in
set_option maxHeartbeats 4000000 in
theorem QFk (a:ByteArray) (f:Fm) (l r:List Fm) (ks:List Pf) (hl4:l.length≤300) (hr4:r.length≤300) (v:Value) (w:World) (hv:PRep w (.mk a f l r ks) v) :
  Calls Tryz.prog 197 #[v] w fun e w'=>e = .returned (.int .i64 (QBx f l r ks))∧Below w.heap.size w w':=by
 obtain⟨k,n,kf⟩:=f;obtain⟨sf,cf,al,cl,ar,cr,sl,cap,rfl,-,-,hl,hr,hkc,hcm,hks⟩:=hv.parts;have HL:Hid (FL w (.slice al l.length cl) l):=hl;have HR:Hid (FL w (.slice ar r.length cr) r):=hr;(have hkI:(ks.length:Int)≤9223372036854775807:=by unfold maxLen at hcm;omega);have HK:Hid (ks≠[]→∃ b off,sl=some ⟨b,off,none⟩∧PReps w b off ks):=hks;clear hv hl hr hks;by_cases hk:k=0
 ·subst hk
  by_cases hn:n.data.toList=[]
  ·have hn':n=⟨#[]⟩:=by apply ByteArray.ext;apply Array.ext';exact hn
   subst hn';by_cases hkf:kf=[]
   ·subst hkf
    by_cases hk1:ks.length=1
    ·obtain⟨⟨ka,⟨kk,kn,kkf⟩,kl,kr,kks⟩,rfl⟩:∃ x,ks=[x]:=by
      match ks,hk1 with
      | [x],_=>exact⟨x,rfl⟩
     (obtain⟨b,off,rfl,hrs⟩:=HK.out (by simp));obtain⟨sf2,cf2,al2,cl2,ar2,cr2,sl2,cap2,x0,x1,x2,x3,x4,x5,x6,hrep⟩:=hrs.at 0 ka kk kn kkf kl kr kks rfl;simp only [Nat.zero_mul,Nat.add_zero] at x0 x1 x2 x3 x4 x5 x6;obtain⟨_,_,_,_,_,_,_,_,hpe,-,-,hkl,hkr,-⟩:=hrep.parts;simp only [Value.agg.injEq,Array.mk.injEq,List.cons.injEq,Value.slice.injEq,and_true,true_and] at hpe;obtain⟨⟨rfl,rfl⟩,⟨rfl,rfl⟩,⟨rfl,rfl⟩,⟨rfl,rfl⟩⟩:=hpe;(have HW1:Hid (∀ wx,Below w.heap.size w wx→Calls Tryz.prog 221 #[.slice al2 kl.length cl2,.slice al l.length cl] wx fun e w'=>e = .returned (.bool (QAV kl l))∧Below wx.heap.size wx w'):=fun wx hb=>QDH kl l (by omega) _ _ wx (hkl.up hb) (HL.out.up hb));(have HW2:Hid (∀ wx,Below w.heap.size w wx→Calls Tryz.prog 221 #[.slice ar2 kr.length cr2,.slice ar r.length cr] wx fun e w'=>e = .returned (.bool (QAV kr r))∧Below wx.heap.size wx w'):=fun wx hb=>QDH kr r (by omega) _ _ wx (hkr.up hb) (HR.out.up hb));rw [QFK];(show Calls Tryz.prog _ _ _ fun e w'=>e = .returned (.int .i64 (if QAV kl l && QAV kr r then 0 else 7))∧_);generalize QAV kl l=e1 at *;generalize QAV kr r=e2 at *;(have hc1:(1:Int)≤(cap:Int):=by simp at hkc;omega);have zb:b < w.heap.size:=QAI x0;(have d1:¬ b=w.heap.size:=by omega);clear hrs HK hrep hkl hkr HL HR hk1 hn hkc hcm
     go_enter Tryz.func197,Tryz.ntmps197
     go_wp2_with fail;refine (HW1.out _ (QAA (QAA (Below.refl _ _) _) _)).mono ?_;rintro e w1 ⟨rfl,hb1⟩;have B1:=QAC (QAA (QAA (Below.refl _ w) _) _) hb1;obtain⟨t0,t1,-⟩:=QAU (QAB hb1 (QAd w _ _));obtain⟨j0,j1,j2,j3,j4,j5,j6⟩:=QAQ (QAB hb1 (QAF (QAG w _) _))
     cases e1
     ·go_wp2_with fail
      go_ret;exact⟨rfl,B1⟩
     ·go_wp2_with fail
      refine (HW2.out _ B1).mono ?_;rintro e w2 ⟨rfl,hb2⟩;have B2:=QAC B1 hb2
      cases e2
      ·go_wp2_with fail
       go_ret;exact⟨rfl,B2⟩
      ·go_wp2_with fail
       go_ret;exact⟨rfl,B2⟩
    ·have hkJ:((ks.length:Int) != 1)=true:=by simp;omega
     rw [QEX hk1];clear HK hk1
     go_enter Tryz.func197,Tryz.ntmps197
     go_wp2_with fail;go_ret;exact⟨rfl,QAA (Below.refl _ w) _⟩
   ·rw [QBi fun h=>hkf (QCr.1 h).2.2]
    have hkJ:((kf.length:Int) != 0)=true:=by
     have:=List.length_pos_iff.2 hkf
     simp
     exact hkf
    clear HK hkf
    go_enter Tryz.func197,Tryz.ntmps197
    go_wp2_with fail;go_ret;exact⟨rfl,QAA (Below.refl _ w) _⟩
  ·rw [QBi fun h=>hn (QCr.1 h).2.1]
   (have hnJ:(n.toList == ([]:List UInt8))=false:=by rw [ByteArray.toList_eq];simpa using hn);(have hnE:(n.toList).isEmpty=false:=by rw [ByteArray.toList_eq];simpa using hn);clear HK hn
   go_enter Tryz.func197,Tryz.ntmps197
   go_wp2_with fail;go_ret;exact⟨rfl,QAA (Below.refl _ w) _⟩
 ·rw [QBi fun h=>hk (QCr.1 h).1]
  (have hkJ:(k != 0)=true:=by simpa using hk);clear HK
  go_enter Tryz.func197,Tryz.ntmps197
  go_wp2_with fail;go_ret;exact⟨rfl,QAA (Below.refl _ w) _⟩
open Go.RowKit Go.Maps Go.WideMaps
theorem QIY {i:Bool} {a:ByteArray} {f:Fm} {l r:List Fm} {ks:List Pf} (h:QCG i l r=true):QAg i (.mk a f l r ks)=5:=by
 rw [QAg,if_pos];unfold QCG at h;rw [Bool.or_eq_true,Bool.and_eq_true] at h
 rcases h with h|h
 ·exact Or.inl (by simpa using h)
 ·exact Or.inr ⟨h.1,by simpa using h.2⟩
theorem QCH {i:Bool} {l r:List Fm} (h:QCG i l r=false):¬ ((QAx l r).1≠0∨(i=true∧1 < r.length)):=by
 unfold QCG at h;rw [Bool.or_eq_false_iff] at h;rintro (h' | h')
 ·have:=h.1
  simp at this;exact h' this
 ·have:=h.2
  rw [h'.1] at this;simp at this;omega
theorem QHR {i:Bool} {a:ByteArray} {f:Fm} {l r:List Fm} {ks:List Pf} (h:QCG i l r=false) (hw:a.data.toList=QBd):QAg i (.mk a f l r ks)=QBx f l r ks:=by
 rw [QAg,if_neg (QCH h),if_pos hw]
theorem QHQ {i:Bool} {a:ByteArray} {f:Fm} {l r:List Fm} {ks:List Pf} (h:QCG i l r=false) (hw:¬ a.data.toList=QBd) (hr:QAp i a.data.toList=none):QAg i (.mk a f l r ks)=4:=by
 rw [QAg,if_neg (QCH h),if_neg hw,hr]
theorem QHO {i:Bool} {a:ByteArray} {f:Fm} {l r:List Fm} {ks:List Pf} {q:Ru} (h:QCG i l r=false) (hw:¬ a.data.toList=QBd) (hr:QAp i a.data.toList=some q) (hp:f.pcode.1≠0):QAg i (.mk a f l r ks)=5:=by
 rw [QAg,if_neg (QCH h),if_neg hw,hr];(show (if f.pcode.1≠0 then (5:Int) else _)=5);rw [if_pos hp]
theorem QGU {i:Bool} {a:ByteArray} {f:Fm} {l r:List Fm} {ks:List Pf} {q:Ru} (h:QCG i l r=false) (hw:¬ a.data.toList=QBd) (hr:QAp i a.data.toList=some q) (hp:f.pcode.1=0) (hn:QBP i q f l r=none):QAg i (.mk a f l r ks)=7:=by
 rw [QAg,if_neg (QCH h),if_neg hw,hr];(show (if f.pcode.1≠0 then (5:Int) else _)=7);(rw [if_neg (fun h=>h hp),hn])
theorem QHP {i:Bool} {a:ByteArray} {f:Fm} {l r:List Fm} {ks:List Pf} {q:Ru} {ss:List (List Fm × List Fm)} (h:QCG i l r=false) (hw:¬ a.data.toList=QBd) (hr:QAp i a.data.toList=some q) (hp:f.pcode.1=0) (hn:QBP i q f l r=some ss):QAg i (.mk a f l r ks)=if ks.length≠ss.length then 9 else QAo ks ss:=by
 rw [QAg,if_neg (QCH h),if_neg hw,hr];(show (if f.pcode.1≠0 then (5:Int) else _)=_);(rw [if_neg (fun h=>h hp),hn])
theorem QHH {i:Bool} {q:Ru} {f:Fm} {l r:List Fm} {ss:List (List Fm × List Fm)} (hl:l.length≤300) (hr:r.length≤300) (h:QBP i q f l r=some ss):∀ s∈ss,s.1.length≤400∧s.2.length≤400:=by
 have h1:(l.erase f).length≤l.length:=List.length_erase_le;have h2:(r.erase f).length≤r.length:=List.length_erase_le
 cases q <;> simp only [QBP] at h
 all_goals
  first
  | (
    split at h
    ·cases h
     intro s hs
     first
     | (cases hs;done)
     | skip
     all_goals simp only [List.mem_cons,List.not_mem_nil,or_false] at hs
     all_goals cases i
     all_goals
      first
      | (rcases hs with rfl|rfl <;> simp <;> omega)
      | (subst hs;simp;omega)
      | (subst hs;simp)
    ·cases h)
  | (
    cases h
    intro s hs;simp only [List.mem_cons,List.not_mem_nil,or_false] at hs
    cases i
    all_goals (rcases hs with rfl|rfl <;> simp <;> omega))
theorem QHL {i:Bool} {w:World} {m:Nat} (h:RulesAt i w m) (a:ByteArray) (ha:a.size≤maxLen):(QAp i a.data.toList=none→∀ wx,Below w.heap.size w wx→(Instr.lookup 175 (.map (some m)) (.string a) true).run Tryz.prog wx = .ok (.tuple #[.nilFunc,.bool false]) wx) ∧
  ∀ q,QAp i a.data.toList=some q→∃ v B,RuleFn i q v B w∧∀ wx,Below w.heap.size w wx→(Instr.lookup 175 (.map (some m)) (.string a) true).run Tryz.prog wx = .ok (.tuple #[v,.bool true]) wx:=by
 obtain⟨n,D,h1,h2,h3⟩:=h;have hkey:keyOf Tryz.prog 9 (.string a)=some (.string a.data.toList):=keyOf_string_mk Tryz.underlying9 ha;(have hz:∀ w,(zeroValue 215).run Tryz.prog w = .ok .nilFunc w:=fun w=>by kernel_rfl);(have hl:=fun (wx:World) (hb:Below w.heap.size w wx)=>(h1.kept (QBs hb) (by simp)).look_ok QCJ Tryz.underlying175 (hz wx) (show QBt .nilFunc=some (.held .nilFunc,[]) from rfl) hkey)
 constructor
 ·intro hn wx hb
  obtain⟨v,ps,hrun,hv⟩:=hl wx hb;(have hh:Maps.has D (.string a.data.toList)=false:=by rw [h2,hn];rfl);rw [atKey_of_not_has hh] at hv;rw [hh] at hrun;unfold QBt at hv;simp only [Option.some.injEq,Prod.mk.injEq,DataW.held.injEq] at hv;rw [hv.1] at hrun;exact hrun
 ·intro q hq
  obtain⟨v,B,hat,hr⟩:=h3 _ q hq;(refine⟨v,B,hr,fun wx hb => ?_⟩);obtain⟨v',ps,hrun,hv⟩:=hl wx hb;(have hh:Maps.has D (.string a.data.toList)=true:=by rw [h2,hq];rfl);rw [hat] at hv;rw [hh] at hrun;unfold QBt at hv;simp only [Option.some.injEq,Prod.mk.injEq,DataW.held.injEq] at hv;rw [hv.1] at hrun;exact hrun
end Go.Proofs.YtffkoiemnchdgadGreat
