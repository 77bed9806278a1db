import Derived.Test.YtffkoiemnchdgadGreatB20
namespace Go.Proofs.YtffkoiemnchdgadGreat
open Go.RowKit
set_option maxRecDepth 10000 in
set_option maxHeartbeats 4000000 in
theorem QJn (k:Int) (n:ByteArray) (ka:Int) (na:ByteArray) (ksa:List Fm) (kb:Int) (nb:ByteArray) (ksb:List Fm) (l r:List Fm) (hl4:l.length≤300) (hr4:r.length≤300) (v:Value) (w:World) (hv:StV w v (.mk k n [.mk ka na ksa,.mk kb nb ksb]) l r) :
  Calls Tryz.prog 188 #[v] w fun e w'=>∃ x,e = .returned x∧SQs w' x [((l.erase (.mk k n [.mk ka na ksa,.mk kb nb ksb])),(([]:List Fm)++[(.mk ka na ksa)])),(((l.erase (.mk k n [.mk ka na ksa,.mk kb nb ksb]))++[(.mk kb nb ksb)]),r)]∧Below w.heap.size w w':=by
 have hS:=hv;obtain⟨c0,c1,c2,vl,vr,vg,vd,rfl,hf,hl,hr,hg,hd⟩:=hv;obtain⟨sf,cf,hfv⟩:=QAJ hf;simp only [Value.agg.injEq,Array.mk.injEq,List.cons.injEq,and_true] at hfv;obtain⟨rfl,rfl,rfl⟩:=hfv;obtain⟨gl,hgl⟩:∃ gl,gl=l.erase (.mk k n [.mk ka na ksa,.mk kb nb ksb]):=⟨_,rfl⟩;obtain⟨dr,hdr⟩:∃ dr,dr=r.erase (.mk k n [.mk ka na ksa,.mk kb nb ksb]):=⟨_,rfl⟩;rw [← hgl] at hg;rw [← hdr] at hd;(have hgl4:gl.length≤300:=by rw [hgl];exact Nat.le_trans List.length_erase_le hl4);(have hdr4:dr.length≤300:=by rw [hdr];exact Nat.le_trans List.length_erase_le hr4);have HEg:Hid (gl=l.erase (.mk k n [.mk ka na ksa,.mk kb nb ksb])):=hgl;have HEd:Hid (dr=r.erase (.mk k n [.mk ka na ksa,.mk kb nb ksb])):=hdr;clear hgl hdr;(have HF:Hid (Rep w (fun _=>True) (.mk k n [.mk ka na ksa,.mk kb nb ksb]) _):=hf);have HL:Hid (FL w vl l):=hl;have HR:Hid (FL w vr r):=hr;have HGl:Hid (FL w vg gl):=hg;have HDr:Hid (FL w vd dr):=hd;obtain⟨adl,cpl,rfl,-⟩:=hl;obtain⟨adr,cpr,rfl,-⟩:=hr;obtain⟨adg,cpg,rfl,-⟩:=hg;obtain⟨add,cpd,rfl,-⟩:=hd;have B0:=QAA (Below.refl _ w) (.cells #[.int .i64 k,.string n,.slice sf ([.mk ka na ksa,.mk kb nb ksb]:List Fm).length cf,.slice adl l.length cpl,.slice adr r.length cpr,.slice adg gl.length cpg,.slice add dr.length cpd] 248 (0,0));have HS:Hid (StV (w.alloc (.cells #[.int .i64 k,.string n,.slice sf ([.mk ka na ksa,.mk kb nb ksb]:List Fm).length cf,.slice adl l.length cpl,.slice adr r.length cpr,.slice adg gl.length cpg,.slice add dr.length cpd] 248 (0,0))) _ (.mk k n [.mk ka na ksa,.mk kb nb ksb]) l r):=hS.up B0;have HB:Hid ((w.alloc (.cells #[.int .i64 k,.string n,.slice sf ([.mk ka na ksa,.mk kb nb ksb]:List Fm).length cf,.slice adl l.length cpl,.slice adr r.length cpr,.slice adg gl.length cpg,.slice add dr.length cpd] 248 (0,0))).heap[w.heap.size]? = some (.cells #[.int .i64 k,.string n,.slice sf ([.mk ka na ksa,.mk kb nb ksb]:List Fm).length cf,.slice adl l.length cpl,.slice adr r.length cpr,.slice adg gl.length cpg,.slice add dr.length cpd] 248 (0,0))):=QAG w _;have hlx:=HL.out.up B0;have hrx:=HR.out.up B0;have hgx:=HGl.out.up B0;have hdx:=HDr.out.up B0;have hfx:=HF.out.up B0;clear hf HL HR HGl HDr hS HF;have HF:Hid (Rep _ _ _ _):=hfx;have HL:Hid (FL _ _ l):=hlx;have HR:Hid (FL _ _ r):=hrx;have HGl:Hid (FL _ _ gl):=hgx;have HDr:Hid (FL _ _ dr):=hdx;clear hfx hlx hrx hgx hdx
 go_enter Tryz.func188,Tryz.ntmps188
 go_wp2_with fail;(refine QAK (by kernel_rfl) [kEq (.pointer (some ⟨w.heap.size,5,none⟩)),kEq (.slice adg gl.length cpg),kEq (.agg #[.int .i64 k,.string n,.slice sf ([.mk ka na ksa,.mk kb nb ksb]:List Fm).length cf,.slice adl l.length cpl,.slice adr r.length cpr,.slice adg gl.length cpg,.slice add dr.length cpd]),QCB ka na ksa,kFL [(.mk ka na ksa)],kFL (([]:List Fm)++[(.mk ka na ksa)]),kSQ (gl,(([]:List Fm)++[(.mk ka na ksa)])),kEq (.pointer (some ⟨w.heap.size,5,none⟩)),kEq (.slice adg gl.length cpg),kEq (.agg #[.int .i64 k,.string n,.slice sf ([.mk ka na ksa,.mk kb nb ksb]:List Fm).length cf,.slice adl l.length cpl,.slice adr r.length cpr,.slice adg gl.length cpg,.slice add dr.length cpd]),QCB kb nb ksb,kFL [(.mk kb nb ksb)],kFL (gl++[(.mk kb nb ksb)]),kEq (.pointer (some ⟨w.heap.size,4,none⟩)),kEq (.slice adr r.length cpr),kSQ ((gl++[(.mk kb nb ksb)]),r),QAW [(gl,(([]:List Fm)++[(.mk ka na ksa)])),((gl++[(.mk kb nb ksb)]),r)],QAW [(gl,(([]:List Fm)++[(.mk ka na ksa)])),((gl++[(.mk kb nb ksb)]),r)]] ?_ (by kernel_rfl) (by kernel_rfl) 20 rfl (by kernel_rfl) ?_ ?_)
 ·intro p hp
  simp only [List.mem_cons,List.not_mem_nil,or_false] at hp
  rcases hp with rfl|rfl|rfl|rfl|rfl|rfl|rfl|rfl|rfl|rfl|rfl|rfl|rfl|rfl|rfl|rfl|rfl|rfl
  all_goals first|exact QAN _|exact QAR _|exact QAc _ _ _|exact QAS _|exact QAP _
 ·refine⟨?_,?_,?_,?_,?_,?_,?_,?_,?_,?_,?_,?_,?_,?_,?_,?_,?_,?_,trivial⟩
  ·intro a wx hB hold hdep K hK
   have t1:a.tmps[1]? = some (.pointer (some ⟨w.heap.size,0,none⟩)):=hold.2.2 1 rfl;clear hold hdep;go_simp;exact hK.out _ _ rfl (Below.refl _ _)
  ·intro a wx hB hold hdep K hK
   obtain⟨v3,t3,p3⟩:=hdep 0 rfl _ 3 rfl rfl;have e3:v3=(.pointer (some ⟨w.heap.size,5,none⟩)):=p3;subst e3;obtain⟨k0,k1,k2,k3,k4,k5,k6⟩:=QAQ (QAB hB HB.out);clear hold hdep;go_simp;exact hK.out _ _ rfl (Below.refl _ _)
  ·intro a wx hB hold hdep K hK
   have t1:a.tmps[1]? = some (.pointer (some ⟨w.heap.size,0,none⟩)):=hold.2.2 1 rfl;obtain⟨k0,k1,k2,k3,k4,k5,k6⟩:=QAQ (QAB hB HB.out);clear hold hdep;go_simp;exact hK.out _ _ rfl (Below.refl _ _)
  ·intro a wx hB hold hdep K hK
   obtain⟨v5,t5,p5⟩:=hdep 2 rfl _ 5 rfl rfl;have e5:v5=(.agg #[.int .i64 k,.string n,.slice sf ([.mk ka na ksa,.mk kb nb ksb]:List Fm).length cf,.slice adl l.length cpl,.slice adr r.length cpr,.slice adg gl.length cpg,.slice add dr.length cpd]):=p5;subst e5;clear hold hdep;go_simp;refine (QBA k n (.mk ka na ksa) [(.mk kb nb ksb)] l r _ wx (HS.out.up hB)).mono ?_;rintro e w1 ⟨x,rfl,hr,hb⟩;exact hK.out _ _ (QAt hr) hb
  ·intro a wx hB hold hdep K hK
   obtain⟨v6,t6,p6⟩:=hdep 3 rfl _ 6 rfl rfl;obtain⟨s6,c6,e6,f6⟩:=p6;subst e6;(have H6:Hid (Rep wx (fun _=>True) (.mk ka na ksa) _):=f6);clear f6;clear hold hdep;go_simp;exact hK.out _ _ (QAM (FL.sing (QAG wx _) (H6.out.more _))) (QAA (Below.refl _ wx) _)
  ·intro a wx hB hold hdep K hK
   obtain⟨v7,t7,p7⟩:=hdep 4 rfl _ 7 rfl rfl;obtain⟨ad7,m7,cp7,e7,f7⟩:=p7;subst e7;have H7:Hid (FL wx _ [(.mk ka na ksa)]):=f7;clear f7;clear hold hdep;go_simp;(refine (QAT ([]:List Fm) [(.mk ka na ksa)] (by simp) (by simp) _ _ wx (FL.none) H7.out).mono ?_);rintro e w1 ⟨x,rfl,hf,hb⟩;exact hK.out _ _ (QAM hf) hb
  ·intro a wx hB hold hdep K hK
   obtain⟨v4,t4,p4⟩:=hdep 1 rfl _ 4 rfl rfl;have e4:v4=(.slice adg gl.length cpg):=p4;subst e4;obtain⟨v8,t8,p8⟩:=hdep 5 rfl _ 8 rfl rfl;obtain⟨a8,m8,b8,e8,f8⟩:=p8;subst e8;have H8:Hid (FL wx _ (([]:List Fm)++[(.mk ka na ksa)])):=f8;clear f8;clear hold hdep;go_simp;exact hK.out _ _ ⟨_,_,_,_,_,_,rfl,HGl.out.up hB,H8.out⟩ (Below.refl _ _)
  ·intro a wx hB hold hdep K hK
   have t1:a.tmps[1]? = some (.pointer (some ⟨w.heap.size,0,none⟩)):=hold.2.2 1 rfl;clear hold hdep;go_simp;exact hK.out _ _ rfl (Below.refl _ _)
  ·intro a wx hB hold hdep K hK
   obtain⟨v10,t10,p10⟩:=hdep 7 rfl _ 10 rfl rfl;have e10:v10=(.pointer (some ⟨w.heap.size,5,none⟩)):=p10;subst e10;obtain⟨k0,k1,k2,k3,k4,k5,k6⟩:=QAQ (QAB hB HB.out);clear hold hdep;go_simp;exact hK.out _ _ rfl (Below.refl _ _)
  ·intro a wx hB hold hdep K hK
   have t1:a.tmps[1]? = some (.pointer (some ⟨w.heap.size,0,none⟩)):=hold.2.2 1 rfl;obtain⟨k0,k1,k2,k3,k4,k5,k6⟩:=QAQ (QAB hB HB.out);clear hold hdep;go_simp;exact hK.out _ _ rfl (Below.refl _ _)
  ·intro a wx hB hold hdep K hK
   obtain⟨v12,t12,p12⟩:=hdep 9 rfl _ 12 rfl rfl;have e12:v12=(.agg #[.int .i64 k,.string n,.slice sf ([.mk ka na ksa,.mk kb nb ksb]:List Fm).length cf,.slice adl l.length cpl,.slice adr r.length cpr,.slice adg gl.length cpg,.slice add dr.length cpd]):=p12;subst e12;clear hold hdep;go_simp;refine (QBX k n (.mk ka na ksa) (.mk kb nb ksb) [] l r _ wx (HS.out.up hB)).mono ?_;rintro e w1 ⟨x,rfl,hr,hb⟩;exact hK.out _ _ (QAt hr) hb
  ·intro a wx hB hold hdep K hK
   obtain⟨v13,t13,p13⟩:=hdep 10 rfl _ 13 rfl rfl;obtain⟨s13,c13,e13,f13⟩:=p13;subst e13;(have H13:Hid (Rep wx (fun _=>True) (.mk kb nb ksb) _):=f13);clear f13;clear hold hdep;go_simp;exact hK.out _ _ (QAM (FL.sing (QAG wx _) (H13.out.more _))) (QAA (Below.refl _ wx) _)
  ·intro a wx hB hold hdep K hK
   obtain⟨v11,t11,p11⟩:=hdep 8 rfl _ 11 rfl rfl;have e11:v11=(.slice adg gl.length cpg):=p11;subst e11;obtain⟨v14,t14,p14⟩:=hdep 11 rfl _ 14 rfl rfl;obtain⟨ad14,m14,cp14,e14,f14⟩:=p14;subst e14;have H14:Hid (FL wx _ [(.mk kb nb ksb)]):=f14;clear f14;clear hold hdep;go_simp;(refine (QAT gl [(.mk kb nb ksb)] (by omega) (by simp) _ _ wx (HGl.out.up hB) H14.out).mono ?_);rintro e w1 ⟨x,rfl,hf,hb⟩;exact hK.out _ _ (QAM hf) hb
  ·intro a wx hB hold hdep K hK
   have t1:a.tmps[1]? = some (.pointer (some ⟨w.heap.size,0,none⟩)):=hold.2.2 1 rfl;clear hold hdep;go_simp;exact hK.out _ _ rfl (Below.refl _ _)
  ·intro a wx hB hold hdep K hK
   obtain⟨v16,t16,p16⟩:=hdep 13 rfl _ 16 rfl rfl;have e16:v16=(.pointer (some ⟨w.heap.size,4,none⟩)):=p16;subst e16;obtain⟨k0,k1,k2,k3,k4,k5,k6⟩:=QAQ (QAB hB HB.out);clear hold hdep;go_simp;exact hK.out _ _ rfl (Below.refl _ _)
  ·intro a wx hB hold hdep K hK
   obtain⟨v15,t15,p15⟩:=hdep 12 rfl _ 15 rfl rfl;obtain⟨a15,m15,b15,e15,f15⟩:=p15;subst e15;have H15:Hid (FL wx _ (gl++[(.mk kb nb ksb)])):=f15;clear f15;obtain⟨v17,t17,p17⟩:=hdep 14 rfl _ 17 rfl rfl;have e17:v17=(.slice adr r.length cpr):=p17;subst e17;clear hold hdep;go_simp;exact hK.out _ _ ⟨_,_,_,_,_,_,rfl,H15.out,HR.out.up hB⟩ (Below.refl _ _)
  ·intro a wx hB hold hdep K hK
   obtain⟨v9,t9,p9⟩:=hdep 6 rfl _ 9 rfl rfl;obtain⟨a9,m9,b9,c9,n9,d9,e9,f9,g9⟩:=p9;subst e9;have H9:Hid (FL wx _ gl):=f9;have J9:Hid (FL wx _ (([]:List Fm)++[(.mk ka na ksa)])):=g9;clear f9 g9;obtain⟨v18,t18,p18⟩:=hdep 15 rfl _ 18 rfl rfl;obtain⟨a18,m18,b18,c18,n18,d18,e18,f18,g18⟩:=p18;subst e18;have H18:Hid (FL wx _ (gl++[(.mk kb nb ksb)])):=f18;have J18:Hid (FL wx _ r):=g18;clear f18 g18;clear hold hdep;go_simp;exact hK.out _ _ (SQs.two (QAG wx _) (H9.out.up (QAA (Below.refl _ wx) _)) (J9.out.up (QAA (Below.refl _ wx) _)) (H18.out.up (QAA (Below.refl _ wx) _)) (J18.out.up (QAA (Below.refl _ wx) _))) (QAA (Below.refl _ wx) _)
  ·intro a wx hB hold hdep K hK
   obtain⟨v19,t19,p19⟩:=hdep 16 rfl _ 19 rfl rfl;have P19:Hid (QAW [(gl,(([]:List Fm)++[(.mk ka na ksa)])),((gl++[(.mk kb nb ksb)]),r)] v19 wx):=p19;clear p19;clear hold hdep;go_simp;exact hK.out _ _ P19.out (Below.refl _ _)
 ·intro a wx hB hold hgot
  obtain⟨v2,t2,p2⟩:=hgot 17 _ 2 rfl rfl;have P2:Hid (SQs wx v2 [(gl,(([]:List Fm)++[(.mk ka na ksa)])),((gl++[(.mk kb nb ksb)]),r)]):=p2;rw [HEg.out] at P2;have hD:a.defers=[]:=hold.2.1;clear hold hgot p2;go_wp2_with fail;(exact bodyPost_ret (v:=v2) (by simp [results,Tryz.results188,go_sem,t2]) hD ⟨_,rfl,P2.out,QAC B0 hB⟩)
set_option maxRecDepth 10000 in
set_option maxHeartbeats 4000000 in
theorem QKH (k:Int) (n:ByteArray) (ka:Int) (na:ByteArray) (ksa:List Fm) (l r:List Fm) (hl4:l.length≤300) (hr4:r.length≤300) (v:Value) (w:World) (hv:StV w v (.mk k n [.mk ka na ksa]) l r) :
  Calls Tryz.prog 189 #[v] w fun e w'=>∃ x,e = .returned x∧SQs w' x [((l.erase (.mk k n [.mk ka na ksa])),(([]:List Fm)++[(.mk ka na ksa)]))]∧Below w.heap.size w w':=by
 have hS:=hv;obtain⟨c0,c1,c2,vl,vr,vg,vd,rfl,hf,hl,hr,hg,hd⟩:=hv;obtain⟨sf,cf,hfv⟩:=QAJ hf;simp only [Value.agg.injEq,Array.mk.injEq,List.cons.injEq,and_true] at hfv;obtain⟨rfl,rfl,rfl⟩:=hfv;obtain⟨gl,hgl⟩:∃ gl,gl=l.erase (.mk k n [.mk ka na ksa]):=⟨_,rfl⟩;obtain⟨dr,hdr⟩:∃ dr,dr=r.erase (.mk k n [.mk ka na ksa]):=⟨_,rfl⟩;rw [← hgl] at hg;rw [← hdr] at hd;(have hgl4:gl.length≤300:=by rw [hgl];exact Nat.le_trans List.length_erase_le hl4);(have hdr4:dr.length≤300:=by rw [hdr];exact Nat.le_trans List.length_erase_le hr4);have HEg:Hid (gl=l.erase (.mk k n [.mk ka na ksa])):=hgl;have HEd:Hid (dr=r.erase (.mk k n [.mk ka na ksa])):=hdr;clear hgl hdr;(have HF:Hid (Rep w (fun _=>True) (.mk k n [.mk ka na ksa]) _):=hf);have HL:Hid (FL w vl l):=hl;have HR:Hid (FL w vr r):=hr;have HGl:Hid (FL w vg gl):=hg;have HDr:Hid (FL w vd dr):=hd;obtain⟨adl,cpl,rfl,-⟩:=hl;obtain⟨adr,cpr,rfl,-⟩:=hr;obtain⟨adg,cpg,rfl,-⟩:=hg;obtain⟨add,cpd,rfl,-⟩:=hd;have B0:=QAA (Below.refl _ w) (.cells #[.int .i64 k,.string n,.slice sf ([.mk ka na ksa]:List Fm).length cf,.slice adl l.length cpl,.slice adr r.length cpr,.slice adg gl.length cpg,.slice add dr.length cpd] 248 (0,0));have HS:Hid (StV (w.alloc (.cells #[.int .i64 k,.string n,.slice sf ([.mk ka na ksa]:List Fm).length cf,.slice adl l.length cpl,.slice adr r.length cpr,.slice adg gl.length cpg,.slice add dr.length cpd] 248 (0,0))) _ (.mk k n [.mk ka na ksa]) l r):=hS.up B0;have HB:Hid ((w.alloc (.cells #[.int .i64 k,.string n,.slice sf ([.mk ka na ksa]:List Fm).length cf,.slice adl l.length cpl,.slice adr r.length cpr,.slice adg gl.length cpg,.slice add dr.length cpd] 248 (0,0))).heap[w.heap.size]? = some (.cells #[.int .i64 k,.string n,.slice sf ([.mk ka na ksa]:List Fm).length cf,.slice adl l.length cpl,.slice adr r.length cpr,.slice adg gl.length cpg,.slice add dr.length cpd] 248 (0,0))):=QAG w _;have hlx:=HL.out.up B0;have hrx:=HR.out.up B0;have hgx:=HGl.out.up B0;have hdx:=HDr.out.up B0;have hfx:=HF.out.up B0;clear hf HL HR HGl HDr hS HF;have HF:Hid (Rep _ _ _ _):=hfx;have HL:Hid (FL _ _ l):=hlx;have HR:Hid (FL _ _ r):=hrx;have HGl:Hid (FL _ _ gl):=hgx;have HDr:Hid (FL _ _ dr):=hdx;clear hfx hlx hrx hgx hdx
 go_enter Tryz.func189,Tryz.ntmps189
 go_wp2_with fail;(refine QAK (by kernel_rfl) [kEq (.pointer (some ⟨w.heap.size,5,none⟩)),kEq (.slice adg gl.length cpg),kEq (.agg #[.int .i64 k,.string n,.slice sf ([.mk ka na ksa]:List Fm).length cf,.slice adl l.length cpl,.slice adr r.length cpr,.slice adg gl.length cpg,.slice add dr.length cpd]),QCB ka na ksa,kFL [(.mk ka na ksa)],kFL (([]:List Fm)++[(.mk ka na ksa)]),kSQ (gl,(([]:List Fm)++[(.mk ka na ksa)])),QAW [(gl,(([]:List Fm)++[(.mk ka na ksa)]))],QAW [(gl,(([]:List Fm)++[(.mk ka na ksa)]))]] ?_ (by kernel_rfl) (by kernel_rfl) 11 rfl (by kernel_rfl) ?_ ?_)
 ·intro p hp
  simp only [List.mem_cons,List.not_mem_nil,or_false] at hp
  rcases hp with rfl|rfl|rfl|rfl|rfl|rfl|rfl|rfl|rfl
  all_goals first|exact QAN _|exact QAR _|exact QAc _ _ _|exact QAS _|exact QAP _
 ·refine⟨?_,?_,?_,?_,?_,?_,?_,?_,?_,trivial⟩
  ·intro a wx hB hold hdep K hK
   have t1:a.tmps[1]? = some (.pointer (some ⟨w.heap.size,0,none⟩)):=hold.2.2 1 rfl;clear hold hdep;go_simp;exact hK.out _ _ rfl (Below.refl _ _)
  ·intro a wx hB hold hdep K hK
   obtain⟨v3,t3,p3⟩:=hdep 0 rfl _ 3 rfl rfl;have e3:v3=(.pointer (some ⟨w.heap.size,5,none⟩)):=p3;subst e3;obtain⟨k0,k1,k2,k3,k4,k5,k6⟩:=QAQ (QAB hB HB.out);clear hold hdep;go_simp;exact hK.out _ _ rfl (Below.refl _ _)
  ·intro a wx hB hold hdep K hK
   have t1:a.tmps[1]? = some (.pointer (some ⟨w.heap.size,0,none⟩)):=hold.2.2 1 rfl;obtain⟨k0,k1,k2,k3,k4,k5,k6⟩:=QAQ (QAB hB HB.out);clear hold hdep;go_simp;exact hK.out _ _ rfl (Below.refl _ _)
  ·intro a wx hB hold hdep K hK
   obtain⟨v5,t5,p5⟩:=hdep 2 rfl _ 5 rfl rfl;have e5:v5=(.agg #[.int .i64 k,.string n,.slice sf ([.mk ka na ksa]:List Fm).length cf,.slice adl l.length cpl,.slice adr r.length cpr,.slice adg gl.length cpg,.slice add dr.length cpd]):=p5;subst e5;clear hold hdep;go_simp;refine (QBA k n (.mk ka na ksa) [] l r _ wx (HS.out.up hB)).mono ?_;rintro e w1 ⟨x,rfl,hr,hb⟩;exact hK.out _ _ (QAt hr) hb
  ·intro a wx hB hold hdep K hK
   obtain⟨v6,t6,p6⟩:=hdep 3 rfl _ 6 rfl rfl;obtain⟨s6,c6,e6,f6⟩:=p6;subst e6;(have H6:Hid (Rep wx (fun _=>True) (.mk ka na ksa) _):=f6);clear f6;clear hold hdep;go_simp;exact hK.out _ _ (QAM (FL.sing (QAG wx _) (H6.out.more _))) (QAA (Below.refl _ wx) _)
  ·intro a wx hB hold hdep K hK
   obtain⟨v7,t7,p7⟩:=hdep 4 rfl _ 7 rfl rfl;obtain⟨ad7,m7,cp7,e7,f7⟩:=p7;subst e7;have H7:Hid (FL wx _ [(.mk ka na ksa)]):=f7;clear f7;clear hold hdep;go_simp;(refine (QAT ([]:List Fm) [(.mk ka na ksa)] (by simp) (by simp) _ _ wx (FL.none) H7.out).mono ?_);rintro e w1 ⟨x,rfl,hf,hb⟩;exact hK.out _ _ (QAM hf) hb
  ·intro a wx hB hold hdep K hK
   obtain⟨v4,t4,p4⟩:=hdep 1 rfl _ 4 rfl rfl;have e4:v4=(.slice adg gl.length cpg):=p4;subst e4;obtain⟨v8,t8,p8⟩:=hdep 5 rfl _ 8 rfl rfl;obtain⟨a8,m8,b8,e8,f8⟩:=p8;subst e8;have H8:Hid (FL wx _ (([]:List Fm)++[(.mk ka na ksa)])):=f8;clear f8;clear hold hdep;go_simp;exact hK.out _ _ ⟨_,_,_,_,_,_,rfl,HGl.out.up hB,H8.out⟩ (Below.refl _ _)
  ·intro a wx hB hold hdep K hK
   obtain⟨v9,t9,p9⟩:=hdep 6 rfl _ 9 rfl rfl;obtain⟨a9,m9,b9,c9,n9,d9,e9,f9,g9⟩:=p9;subst e9;have H9:Hid (FL wx _ gl):=f9;have J9:Hid (FL wx _ (([]:List Fm)++[(.mk ka na ksa)])):=g9;clear f9 g9;clear hold hdep;go_simp;exact hK.out _ _ (SQs.one (QAG wx _) (H9.out.up (QAA (Below.refl _ wx) _)) (J9.out.up (QAA (Below.refl _ wx) _))) (QAA (Below.refl _ wx) _)
  ·intro a wx hB hold hdep K hK
   obtain⟨v10,t10,p10⟩:=hdep 7 rfl _ 10 rfl rfl;have P10:Hid (QAW [(gl,(([]:List Fm)++[(.mk ka na ksa)]))] v10 wx):=p10;clear p10;clear hold hdep;go_simp;exact hK.out _ _ P10.out (Below.refl _ _)
 ·intro a wx hB hold hgot
  obtain⟨v2,t2,p2⟩:=hgot 8 _ 2 rfl rfl;have P2:Hid (SQs wx v2 [(gl,(([]:List Fm)++[(.mk ka na ksa)]))]):=p2;rw [HEg.out] at P2;have hD:a.defers=[]:=hold.2.1;clear hold hgot p2;go_wp2_with fail;(exact bodyPost_ret (v:=v2) (by simp [results,Tryz.results189,go_sem,t2]) hD ⟨_,rfl,P2.out,QAC B0 hB⟩)
set_option maxRecDepth 10000 in
set_option maxHeartbeats 4000000 in
theorem QKV (k:Int) (n:ByteArray) (ks:List Fm) (l r:List Fm) (hl4:l.length≤300) (hr4:r.length≤300) (v:Value) (w:World) (hv:StV w v (.mk k n ks) l r) :
  Calls Tryz.prog 190 #[v] w fun e w'=>∃ x,e = .returned (.tuple #[x,.bool true])∧SQs w' x [(l,(([]:List Fm)++[(.mk k n ks)])),((l++[(.mk k n ks)]),r)]∧Below w.heap.size w w':=by
 have hS:=hv;obtain⟨c0,c1,c2,vl,vr,vg,vd,rfl,hf,hl,hr,hg,hd⟩:=hv;obtain⟨sf,cf,hfv⟩:=QAJ hf;simp only [Value.agg.injEq,Array.mk.injEq,List.cons.injEq,and_true] at hfv;obtain⟨rfl,rfl,rfl⟩:=hfv;obtain⟨gl,hgl⟩:∃ gl,gl=l.erase (.mk k n ks):=⟨_,rfl⟩;obtain⟨dr,hdr⟩:∃ dr,dr=r.erase (.mk k n ks):=⟨_,rfl⟩;rw [← hgl] at hg;rw [← hdr] at hd;(have hgl4:gl.length≤300:=by rw [hgl];exact Nat.le_trans List.length_erase_le hl4);(have hdr4:dr.length≤300:=by rw [hdr];exact Nat.le_trans List.length_erase_le hr4);have HEg:Hid (gl=l.erase (.mk k n ks)):=hgl;have HEd:Hid (dr=r.erase (.mk k n ks)):=hdr;clear hgl hdr;(have HF:Hid (Rep w (fun _=>True) (.mk k n ks) _):=hf);have HL:Hid (FL w vl l):=hl;have HR:Hid (FL w vr r):=hr;have HGl:Hid (FL w vg gl):=hg;have HDr:Hid (FL w vd dr):=hd;obtain⟨adl,cpl,rfl,-⟩:=hl;obtain⟨adr,cpr,rfl,-⟩:=hr;obtain⟨adg,cpg,rfl,-⟩:=hg;obtain⟨add,cpd,rfl,-⟩:=hd;have B0:=QAA (Below.refl _ w) (.cells #[.int .i64 k,.string n,.slice sf (ks:List Fm).length cf,.slice adl l.length cpl,.slice adr r.length cpr,.slice adg gl.length cpg,.slice add dr.length cpd] 248 (0,0));have HS:Hid (StV (w.alloc (.cells #[.int .i64 k,.string n,.slice sf (ks:List Fm).length cf,.slice adl l.length cpl,.slice adr r.length cpr,.slice adg gl.length cpg,.slice add dr.length cpd] 248 (0,0))) _ (.mk k n ks) l r):=hS.up B0;have HB:Hid ((w.alloc (.cells #[.int .i64 k,.string n,.slice sf (ks:List Fm).length cf,.slice adl l.length cpl,.slice adr r.length cpr,.slice adg gl.length cpg,.slice add dr.length cpd] 248 (0,0))).heap[w.heap.size]? = some (.cells #[.int .i64 k,.string n,.slice sf (ks:List Fm).length cf,.slice adl l.length cpl,.slice adr r.length cpr,.slice adg gl.length cpg,.slice add dr.length cpd] 248 (0,0))):=QAG w _;have hlx:=HL.out.up B0;have hrx:=HR.out.up B0;have hgx:=HGl.out.up B0;have hdx:=HDr.out.up B0;have hfx:=HF.out.up B0;clear hf HL HR HGl HDr hS HF;have HF:Hid (Rep _ _ _ _):=hfx;have HL:Hid (FL _ _ l):=hlx;have HR:Hid (FL _ _ r):=hrx;have HGl:Hid (FL _ _ gl):=hgx;have HDr:Hid (FL _ _ dr):=hdx;clear hfx hlx hrx hgx hdx
 go_enter Tryz.func190,Tryz.ntmps190
 go_wp2_with fail;(refine QAK (by kernel_rfl) [kEq (.pointer (some ⟨w.heap.size,3,none⟩)),kEq (.slice adl l.length cpl),kEq (.pointer (some ⟨w.heap.size,0,none⟩)),kEq (.agg #[.int .i64 k,.string n,.slice sf ks.length cf]),kFL [(.mk k n ks)],kFL (([]:List Fm)++[(.mk k n ks)]),kSQ (l,(([]:List Fm)++[(.mk k n ks)])),kEq (.pointer (some ⟨w.heap.size,3,none⟩)),kEq (.slice adl l.length cpl),kEq (.pointer (some ⟨w.heap.size,0,none⟩)),kEq (.agg #[.int .i64 k,.string n,.slice sf ks.length cf]),kFL [(.mk k n ks)],kFL (l++[(.mk k n ks)]),kEq (.pointer (some ⟨w.heap.size,4,none⟩)),kEq (.slice adr r.length cpr),kSQ ((l++[(.mk k n ks)]),r),QAW [(l,(([]:List Fm)++[(.mk k n ks)])),((l++[(.mk k n ks)]),r)],QAW [(l,(([]:List Fm)++[(.mk k n ks)])),((l++[(.mk k n ks)]),r)],kEq (.bool true)] ?_ (by kernel_rfl) (by kernel_rfl) 21 rfl (by kernel_rfl) ?_ ?_)
 ·intro p hp
  simp only [List.mem_cons,List.not_mem_nil,or_false] at hp
  rcases hp with rfl|rfl|rfl|rfl|rfl|rfl|rfl|rfl|rfl|rfl|rfl|rfl|rfl|rfl|rfl|rfl|rfl|rfl|rfl
  all_goals first|exact QAN _|exact QAR _|exact QAc _ _ _|exact QAS _|exact QAP _
 ·refine⟨?_,?_,?_,?_,?_,?_,?_,?_,?_,?_,?_,?_,?_,?_,?_,?_,?_,?_,?_,trivial⟩
  ·intro a wx hB hold hdep K hK
   have t1:a.tmps[1]? = some (.pointer (some ⟨w.heap.size,0,none⟩)):=hold.2.2 1 rfl;clear hold hdep;go_simp;exact hK.out _ _ rfl (Below.refl _ _)
  ·intro a wx hB hold hdep K hK
   obtain⟨v4,t4,p4⟩:=hdep 0 rfl _ 4 rfl rfl;have e4:v4=(.pointer (some ⟨w.heap.size,3,none⟩)):=p4;subst e4;obtain⟨k0,k1,k2,k3,k4,k5,k6⟩:=QAQ (QAB hB HB.out);clear hold hdep;go_simp;exact hK.out _ _ rfl (Below.refl _ _)
  ·intro a wx hB hold hdep K hK
   have t1:a.tmps[1]? = some (.pointer (some ⟨w.heap.size,0,none⟩)):=hold.2.2 1 rfl;clear hold hdep;go_simp;exact hK.out _ _ rfl (Below.refl _ _)
  ·intro a wx hB hold hdep K hK
   obtain⟨v6,t6,p6⟩:=hdep 2 rfl _ 6 rfl rfl;have e6:v6=(.pointer (some ⟨w.heap.size,0,none⟩)):=p6;subst e6;obtain⟨k0,k1,k2,k3,k4,k5,k6⟩:=QAQ (QAB hB HB.out);clear hold hdep;go_simp;exact hK.out _ _ rfl (Below.refl _ _)
  ·intro a wx hB hold hdep K hK
   obtain⟨v7,t7,p7⟩:=hdep 3 rfl _ 7 rfl rfl;have e7:v7=(.agg #[.int .i64 k,.string n,.slice sf ks.length cf]):=p7;subst e7;clear hold hdep;go_simp;exact hK.out _ _ (QAM (FL.sing (QAG wx _) ((HF.out.up hB).more _))) (QAA (Below.refl _ wx) _)
  ·intro a wx hB hold hdep K hK
   obtain⟨v8,t8,p8⟩:=hdep 4 rfl _ 8 rfl rfl;obtain⟨ad8,m8,cp8,e8,f8⟩:=p8;subst e8;have H8:Hid (FL wx _ [(.mk k n ks)]):=f8;clear f8;clear hold hdep;go_simp;(refine (QAT ([]:List Fm) [(.mk k n ks)] (by simp) (by simp) _ _ wx (FL.none) H8.out).mono ?_);rintro e w1 ⟨x,rfl,hf,hb⟩;exact hK.out _ _ (QAM hf) hb
  ·intro a wx hB hold hdep K hK
   obtain⟨v5,t5,p5⟩:=hdep 1 rfl _ 5 rfl rfl;have e5:v5=(.slice adl l.length cpl):=p5;subst e5;obtain⟨v9,t9,p9⟩:=hdep 5 rfl _ 9 rfl rfl;obtain⟨a9,m9,b9,e9,f9⟩:=p9;subst e9;have H9:Hid (FL wx _ (([]:List Fm)++[(.mk k n ks)])):=f9;clear f9;clear hold hdep;go_simp;exact hK.out _ _ ⟨_,_,_,_,_,_,rfl,HL.out.up hB,H9.out⟩ (Below.refl _ _)
  ·intro a wx hB hold hdep K hK
   have t1:a.tmps[1]? = some (.pointer (some ⟨w.heap.size,0,none⟩)):=hold.2.2 1 rfl;clear hold hdep;go_simp;exact hK.out _ _ rfl (Below.refl _ _)
  ·intro a wx hB hold hdep K hK
   obtain⟨v11,t11,p11⟩:=hdep 7 rfl _ 11 rfl rfl;have e11:v11=(.pointer (some ⟨w.heap.size,3,none⟩)):=p11;subst e11;obtain⟨k0,k1,k2,k3,k4,k5,k6⟩:=QAQ (QAB hB HB.out);clear hold hdep;go_simp;exact hK.out _ _ rfl (Below.refl _ _)
  ·intro a wx hB hold hdep K hK
   have t1:a.tmps[1]? = some (.pointer (some ⟨w.heap.size,0,none⟩)):=hold.2.2 1 rfl;clear hold hdep;go_simp;exact hK.out _ _ rfl (Below.refl _ _)
  ·intro a wx hB hold hdep K hK
   obtain⟨v13,t13,p13⟩:=hdep 9 rfl _ 13 rfl rfl;have e13:v13=(.pointer (some ⟨w.heap.size,0,none⟩)):=p13;subst e13;obtain⟨k0,k1,k2,k3,k4,k5,k6⟩:=QAQ (QAB hB HB.out);clear hold hdep;go_simp;exact hK.out _ _ rfl (Below.refl _ _)
  ·intro a wx hB hold hdep K hK
   obtain⟨v14,t14,p14⟩:=hdep 10 rfl _ 14 rfl rfl;have e14:v14=(.agg #[.int .i64 k,.string n,.slice sf ks.length cf]):=p14;subst e14;clear hold hdep;go_simp;exact hK.out _ _ (QAM (FL.sing (QAG wx _) ((HF.out.up hB).more _))) (QAA (Below.refl _ wx) _)
  ·intro a wx hB hold hdep K hK
   obtain⟨v12,t12,p12⟩:=hdep 8 rfl _ 12 rfl rfl;have e12:v12=(.slice adl l.length cpl):=p12;subst e12;obtain⟨v15,t15,p15⟩:=hdep 11 rfl _ 15 rfl rfl;obtain⟨ad15,m15,cp15,e15,f15⟩:=p15;subst e15;have H15:Hid (FL wx _ [(.mk k n ks)]):=f15;clear f15;clear hold hdep;go_simp;(refine (QAT l [(.mk k n ks)] (by omega) (by simp) _ _ wx (HL.out.up hB) H15.out).mono ?_);rintro e w1 ⟨x,rfl,hf,hb⟩;exact hK.out _ _ (QAM hf) hb
  ·intro a wx hB hold hdep K hK
   have t1:a.tmps[1]? = some (.pointer (some ⟨w.heap.size,0,none⟩)):=hold.2.2 1 rfl;clear hold hdep;go_simp;exact hK.out _ _ rfl (Below.refl _ _)
  ·intro a wx hB hold hdep K hK
   obtain⟨v17,t17,p17⟩:=hdep 13 rfl _ 17 rfl rfl;have e17:v17=(.pointer (some ⟨w.heap.size,4,none⟩)):=p17;subst e17;obtain⟨k0,k1,k2,k3,k4,k5,k6⟩:=QAQ (QAB hB HB.out);clear hold hdep;go_simp;exact hK.out _ _ rfl (Below.refl _ _)
  ·intro a wx hB hold hdep K hK
   obtain⟨v16,t16,p16⟩:=hdep 12 rfl _ 16 rfl rfl;obtain⟨a16,m16,b16,e16,f16⟩:=p16;subst e16;have H16:Hid (FL wx _ (l++[(.mk k n ks)])):=f16;clear f16;obtain⟨v18,t18,p18⟩:=hdep 14 rfl _ 18 rfl rfl;have e18:v18=(.slice adr r.length cpr):=p18;subst e18;clear hold hdep;go_simp;exact hK.out _ _ ⟨_,_,_,_,_,_,rfl,H16.out,HR.out.up hB⟩ (Below.refl _ _)
  ·intro a wx hB hold hdep K hK
   obtain⟨v10,t10,p10⟩:=hdep 6 rfl _ 10 rfl rfl;obtain⟨a10,m10,b10,c10,n10,d10,e10,f10,g10⟩:=p10;subst e10;have H10:Hid (FL wx _ l):=f10;have J10:Hid (FL wx _ (([]:List Fm)++[(.mk k n ks)])):=g10;clear f10 g10;obtain⟨v19,t19,p19⟩:=hdep 15 rfl _ 19 rfl rfl;obtain⟨a19,m19,b19,c19,n19,d19,e19,f19,g19⟩:=p19;subst e19;have H19:Hid (FL wx _ (l++[(.mk k n ks)])):=f19;have J19:Hid (FL wx _ r):=g19;clear f19 g19;clear hold hdep;go_simp;exact hK.out _ _ (SQs.two (QAG wx _) (H10.out.up (QAA (Below.refl _ wx) _)) (J10.out.up (QAA (Below.refl _ wx) _)) (H19.out.up (QAA (Below.refl _ wx) _)) (J19.out.up (QAA (Below.refl _ wx) _))) (QAA (Below.refl _ wx) _)
  ·intro a wx hB hold hdep K hK
   obtain⟨v20,t20,p20⟩:=hdep 16 rfl _ 20 rfl rfl;have P20:Hid (QAW [(l,(([]:List Fm)++[(.mk k n ks)])),((l++[(.mk k n ks)]),r)] v20 wx):=p20;clear p20;clear hold hdep;go_simp;exact hK.out _ _ P20.out (Below.refl _ _)
  ·intro a wx hB hold hdep K hK
   clear hdep hold;go_simp;exact hK.out _ _ rfl (Below.refl _ _)
 ·intro a wx hB hold hgot
  obtain⟨v2,t2,p2⟩:=hgot 17 _ 2 rfl rfl;have P2:Hid (SQs wx v2 [(l,(([]:List Fm)++[(.mk k n ks)])),((l++[(.mk k n ks)]),r)]):=p2;obtain⟨v3,t3,p3⟩:=hgot 18 _ 3 rfl rfl;have e3:v3 = .bool true:=p3;subst e3;have hD:a.defers=[]:=hold.2.1;clear hold hgot p2 p3;go_wp2_with fail;(exact bodyPost_ret (v := .tuple #[v2,.bool true]) (by simp [results,Tryz.results190,go_sem,t2,t3]) hD ⟨_,rfl,P2.out,QAC B0 hB⟩)
set_option maxRecDepth 10000 in
set_option maxHeartbeats 4000000 in
theorem QKe (k:Int) (n:ByteArray) (ka:Int) (na:ByteArray) (ksa:List Fm) (kb:Int) (nb:ByteArray) (ksb:List Fm) (l r:List Fm) (hl4:l.length≤300) (hr4:r.length≤300) (v:Value) (w:World) (hv:StV w v (.mk k n [.mk ka na ksa,.mk kb nb ksb]) l r) :
  Calls Tryz.prog 191 #[v] w fun e w'=>∃ x,e = .returned x∧SQs w' x [(l,((r.erase (.mk k n [.mk ka na ksa,.mk kb nb ksb]))++[(.mk ka na ksa),(.mk kb nb ksb)]))]∧Below w.heap.size w w':=by
 have hS:=hv;obtain⟨c0,c1,c2,vl,vr,vg,vd,rfl,hf,hl,hr,hg,hd⟩:=hv;obtain⟨sf,cf,hfv⟩:=QAJ hf;simp only [Value.agg.injEq,Array.mk.injEq,List.cons.injEq,and_true] at hfv;obtain⟨rfl,rfl,rfl⟩:=hfv;obtain⟨gl,hgl⟩:∃ gl,gl=l.erase (.mk k n [.mk ka na ksa,.mk kb nb ksb]):=⟨_,rfl⟩;obtain⟨dr,hdr⟩:∃ dr,dr=r.erase (.mk k n [.mk ka na ksa,.mk kb nb ksb]):=⟨_,rfl⟩;rw [← hgl] at hg;rw [← hdr] at hd;(have hgl4:gl.length≤300:=by rw [hgl];exact Nat.le_trans List.length_erase_le hl4);(have hdr4:dr.length≤300:=by rw [hdr];exact Nat.le_trans List.length_erase_le hr4);have HEg:Hid (gl=l.erase (.mk k n [.mk ka na ksa,.mk kb nb ksb])):=hgl;have HEd:Hid (dr=r.erase (.mk k n [.mk ka na ksa,.mk kb nb ksb])):=hdr;clear hgl hdr;(have HF:Hid (Rep w (fun _=>True) (.mk k n [.mk ka na ksa,.mk kb nb ksb]) _):=hf);have HL:Hid (FL w vl l):=hl;have HR:Hid (FL w vr r):=hr;have HGl:Hid (FL w vg gl):=hg;have HDr:Hid (FL w vd dr):=hd;obtain⟨adl,cpl,rfl,-⟩:=hl;obtain⟨adr,cpr,rfl,-⟩:=hr;obtain⟨adg,cpg,rfl,-⟩:=hg;obtain⟨add,cpd,rfl,-⟩:=hd;have B0:=QAA (Below.refl _ w) (.cells #[.int .i64 k,.string n,.slice sf ([.mk ka na ksa,.mk kb nb ksb]:List Fm).length cf,.slice adl l.length cpl,.slice adr r.length cpr,.slice adg gl.length cpg,.slice add dr.length cpd] 248 (0,0));have HS:Hid (StV (w.alloc (.cells #[.int .i64 k,.string n,.slice sf ([.mk ka na ksa,.mk kb nb ksb]:List Fm).length cf,.slice adl l.length cpl,.slice adr r.length cpr,.slice adg gl.length cpg,.slice add dr.length cpd] 248 (0,0))) _ (.mk k n [.mk ka na ksa,.mk kb nb ksb]) l r):=hS.up B0;have HB:Hid ((w.alloc (.cells #[.int .i64 k,.string n,.slice sf ([.mk ka na ksa,.mk kb nb ksb]:List Fm).length cf,.slice adl l.length cpl,.slice adr r.length cpr,.slice adg gl.length cpg,.slice add dr.length cpd] 248 (0,0))).heap[w.heap.size]? = some (.cells #[.int .i64 k,.string n,.slice sf ([.mk ka na ksa,.mk kb nb ksb]:List Fm).length cf,.slice adl l.length cpl,.slice adr r.length cpr,.slice adg gl.length cpg,.slice add dr.length cpd] 248 (0,0))):=QAG w _;have hlx:=HL.out.up B0;have hrx:=HR.out.up B0;have hgx:=HGl.out.up B0;have hdx:=HDr.out.up B0;have hfx:=HF.out.up B0;clear hf HL HR HGl HDr hS HF;have HF:Hid (Rep _ _ _ _):=hfx;have HL:Hid (FL _ _ l):=hlx;have HR:Hid (FL _ _ r):=hrx;have HGl:Hid (FL _ _ gl):=hgx;have HDr:Hid (FL _ _ dr):=hdx;clear hfx hlx hrx hgx hdx
 go_enter Tryz.func191,Tryz.ntmps191
 go_wp2_with fail;(refine QAK (by kernel_rfl) [kEq (.pointer (some ⟨w.heap.size,3,none⟩)),kEq (.slice adl l.length cpl),kEq (.pointer (some ⟨w.heap.size,6,none⟩)),kEq (.slice add dr.length cpd),kEq (.agg #[.int .i64 k,.string n,.slice sf ([.mk ka na ksa,.mk kb nb ksb]:List Fm).length cf,.slice adl l.length cpl,.slice adr r.length cpr,.slice adg gl.length cpg,.slice add dr.length cpd]),QCB ka na ksa,kEq (.agg #[.int .i64 k,.string n,.slice sf ([.mk ka na ksa,.mk kb nb ksb]:List Fm).length cf,.slice adl l.length cpl,.slice adr r.length cpr,.slice adg gl.length cpg,.slice add dr.length cpd]),QCB kb nb ksb,kFL [(.mk ka na ksa),(.mk kb nb ksb)],kFL (dr++[(.mk ka na ksa),(.mk kb nb ksb)]),kSQ (l,(dr++[(.mk ka na ksa),(.mk kb nb ksb)])),QAW [(l,(dr++[(.mk ka na ksa),(.mk kb nb ksb)]))],QAW [(l,(dr++[(.mk ka na ksa),(.mk kb nb ksb)]))]] ?_ (by kernel_rfl) (by kernel_rfl) 15 rfl (by kernel_rfl) ?_ ?_)
 ·intro p hp
  simp only [List.mem_cons,List.not_mem_nil,or_false] at hp
  rcases hp with rfl|rfl|rfl|rfl|rfl|rfl|rfl|rfl|rfl|rfl|rfl|rfl|rfl
  all_goals first|exact QAN _|exact QAR _|exact QAc _ _ _|exact QAS _|exact QAP _
 ·refine⟨?_,?_,?_,?_,?_,?_,?_,?_,?_,?_,?_,?_,?_,trivial⟩
  ·intro a wx hB hold hdep K hK
   have t1:a.tmps[1]? = some (.pointer (some ⟨w.heap.size,0,none⟩)):=hold.2.2 1 rfl;clear hold hdep;go_simp;exact hK.out _ _ rfl (Below.refl _ _)
  ·intro a wx hB hold hdep K hK
   obtain⟨v3,t3,p3⟩:=hdep 0 rfl _ 3 rfl rfl;have e3:v3=(.pointer (some ⟨w.heap.size,3,none⟩)):=p3;subst e3;obtain⟨k0,k1,k2,k3,k4,k5,k6⟩:=QAQ (QAB hB HB.out);clear hold hdep;go_simp;exact hK.out _ _ rfl (Below.refl _ _)
  ·intro a wx hB hold hdep K hK
   have t1:a.tmps[1]? = some (.pointer (some ⟨w.heap.size,0,none⟩)):=hold.2.2 1 rfl;clear hold hdep;go_simp;exact hK.out _ _ rfl (Below.refl _ _)
  ·intro a wx hB hold hdep K hK
   obtain⟨v5,t5,p5⟩:=hdep 2 rfl _ 5 rfl rfl;have e5:v5=(.pointer (some ⟨w.heap.size,6,none⟩)):=p5;subst e5;obtain⟨k0,k1,k2,k3,k4,k5,k6⟩:=QAQ (QAB hB HB.out);clear hold hdep;go_simp;exact hK.out _ _ rfl (Below.refl _ _)
  ·intro a wx hB hold hdep K hK
   have t1:a.tmps[1]? = some (.pointer (some ⟨w.heap.size,0,none⟩)):=hold.2.2 1 rfl;obtain⟨k0,k1,k2,k3,k4,k5,k6⟩:=QAQ (QAB hB HB.out);clear hold hdep;go_simp;exact hK.out _ _ rfl (Below.refl _ _)
  ·intro a wx hB hold hdep K hK
   obtain⟨v7,t7,p7⟩:=hdep 4 rfl _ 7 rfl rfl;have e7:v7=(.agg #[.int .i64 k,.string n,.slice sf ([.mk ka na ksa,.mk kb nb ksb]:List Fm).length cf,.slice adl l.length cpl,.slice adr r.length cpr,.slice adg gl.length cpg,.slice add dr.length cpd]):=p7;subst e7;clear hold hdep;go_simp;refine (QBA k n (.mk ka na ksa) [(.mk kb nb ksb)] l r _ wx (HS.out.up hB)).mono ?_;rintro e w1 ⟨x,rfl,hr,hb⟩;exact hK.out _ _ (QAt hr) hb
  ·intro a wx hB hold hdep K hK
   have t1:a.tmps[1]? = some (.pointer (some ⟨w.heap.size,0,none⟩)):=hold.2.2 1 rfl;obtain⟨k0,k1,k2,k3,k4,k5,k6⟩:=QAQ (QAB hB HB.out);clear hold hdep;go_simp;exact hK.out _ _ rfl (Below.refl _ _)
  ·intro a wx hB hold hdep K hK
   obtain⟨v9,t9,p9⟩:=hdep 6 rfl _ 9 rfl rfl;have e9:v9=(.agg #[.int .i64 k,.string n,.slice sf ([.mk ka na ksa,.mk kb nb ksb]:List Fm).length cf,.slice adl l.length cpl,.slice adr r.length cpr,.slice adg gl.length cpg,.slice add dr.length cpd]):=p9;subst e9;clear hold hdep;go_simp;refine (QBX k n (.mk ka na ksa) (.mk kb nb ksb) [] l r _ wx (HS.out.up hB)).mono ?_;rintro e w1 ⟨x,rfl,hr,hb⟩;exact hK.out _ _ (QAt hr) hb
  ·intro a wx hB hold hdep K hK
   obtain⟨v8,t8,p8⟩:=hdep 5 rfl _ 8 rfl rfl;obtain⟨s8,c8,e8,f8⟩:=p8;subst e8;(have H8:Hid (Rep wx (fun _=>True) (.mk ka na ksa) _):=f8);clear f8;obtain⟨v10,t10,p10⟩:=hdep 7 rfl _ 10 rfl rfl;obtain⟨s10,c10,e10,f10⟩:=p10;subst e10;(have H10:Hid (Rep wx (fun _=>True) (.mk kb nb ksb) _):=f10);clear f10;clear hold hdep;go_simp;exact hK.out _ _ (QAM (FL.duo (QAG wx _) (H8.out.more _) (H10.out.more _))) (QAA (Below.refl _ wx) _)
  ·intro a wx hB hold hdep K hK
   obtain⟨v6,t6,p6⟩:=hdep 3 rfl _ 6 rfl rfl;have e6:v6=(.slice add dr.length cpd):=p6;subst e6;obtain⟨v11,t11,p11⟩:=hdep 8 rfl _ 11 rfl rfl;obtain⟨ad11,m11,cp11,e11,f11⟩:=p11;subst e11;have H11:Hid (FL wx _ [(.mk ka na ksa),(.mk kb nb ksb)]):=f11;clear f11;clear hold hdep;go_simp;(refine (QAT dr [(.mk ka na ksa),(.mk kb nb ksb)] (by omega) (by simp) _ _ wx (HDr.out.up hB) H11.out).mono ?_);rintro e w1 ⟨x,rfl,hf,hb⟩;exact hK.out _ _ (QAM hf) hb
  ·intro a wx hB hold hdep K hK
   obtain⟨v4,t4,p4⟩:=hdep 1 rfl _ 4 rfl rfl;have e4:v4=(.slice adl l.length cpl):=p4;subst e4;obtain⟨v12,t12,p12⟩:=hdep 9 rfl _ 12 rfl rfl;obtain⟨a12,m12,b12,e12,f12⟩:=p12;subst e12;have H12:Hid (FL wx _ (dr++[(.mk ka na ksa),(.mk kb nb ksb)])):=f12;clear f12;clear hold hdep;go_simp;exact hK.out _ _ ⟨_,_,_,_,_,_,rfl,HL.out.up hB,H12.out⟩ (Below.refl _ _)
  ·intro a wx hB hold hdep K hK
   obtain⟨v13,t13,p13⟩:=hdep 10 rfl _ 13 rfl rfl;obtain⟨a13,m13,b13,c13,n13,d13,e13,f13,g13⟩:=p13;subst e13;have H13:Hid (FL wx _ l):=f13;have J13:Hid (FL wx _ (dr++[(.mk ka na ksa),(.mk kb nb ksb)])):=g13;clear f13 g13;clear hold hdep;go_simp;exact hK.out _ _ (SQs.one (QAG wx _) (H13.out.up (QAA (Below.refl _ wx) _)) (J13.out.up (QAA (Below.refl _ wx) _))) (QAA (Below.refl _ wx) _)
  ·intro a wx hB hold hdep K hK
   obtain⟨v14,t14,p14⟩:=hdep 11 rfl _ 14 rfl rfl;have P14:Hid (QAW [(l,(dr++[(.mk ka na ksa),(.mk kb nb ksb)]))] v14 wx):=p14;clear p14;clear hold hdep;go_simp;exact hK.out _ _ P14.out (Below.refl _ _)
 ·intro a wx hB hold hgot
  obtain⟨v2,t2,p2⟩:=hgot 12 _ 2 rfl rfl;have P2:Hid (SQs wx v2 [(l,(dr++[(.mk ka na ksa),(.mk kb nb ksb)]))]):=p2;rw [HEd.out] at P2;have hD:a.defers=[]:=hold.2.1;clear hold hgot p2;go_wp2_with fail;(exact bodyPost_ret (v:=v2) (by simp [results,Tryz.results191,go_sem,t2]) hD ⟨_,rfl,P2.out,QAC B0 hB⟩)
end Go.Proofs.YtffkoiemnchdgadGreat
