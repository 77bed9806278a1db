import Derived.Test.YtffkoiemnchdgadGreatB37
namespace Go.Proofs.YtffkoiemnchdgadGreat
open Go.RowKit
set_option maxRecDepth 10000 in
set_option maxHeartbeats 8000000 in
theorem QHE (i:Bool) (q:Ru) (t:ByteArray) (hq:(q = .andL∧t=⟨#[97,110,100,45,108]⟩)∨(q = .andR∧t=⟨#[97,110,100,45,114]⟩)∨(q = .orL∧t=⟨#[111,114,45,108]⟩)) (f:Fm) (l r:List Fm) (hl3:l.length≤300) (hr3:r.length≤300) (v VL VR:Value) (w:World) (hf:Rep w (fun _=>True) f v) (hl:FL w VL l) (hr:FL w VR r) :
  Calls Tryz.prog 113 #[.string t,v,.agg #[VL,VR],.bool i] w fun e w'=>∃ x,e = .returned (.tuple #[x,.bool (QBO i q),.bool (QAz q f l r)])∧SQs w' x (QAb i q f l r)∧Below w.heap.size w w':=by
 obtain⟨k,n,ks⟩:=f;obtain⟨sf,cf,rfl⟩:=QAJ hf;(have HF:Hid (Rep w (fun _=>True) (.mk k n ks) _):=hf);have HL:Hid (FL w VL l):=hl;have HR:Hid (FL w VR r):=hr;have HKS:=(Rep.def.1 hf);obtain⟨sf',cf',hv,-,hkc,hcm,hkr⟩:=HKS;simp only [Value.agg.injEq,Array.mk.injEq,List.cons.injEq,Value.slice.injEq,and_true,true_and] at hv;obtain⟨rfl,rfl⟩:=hv;(have hksI:(ks.length:Int)≤9223372036854775807:=by unfold maxLen at hcm;omega);(have hkcI:(ks.length:Int)≤(cf:Int):=by omega);obtain⟨adl,cpl,rfl,-⟩:=hl;obtain⟨adr,cpr,rfl,-⟩:=hr;obtain⟨O1,hO1⟩:∃ O,O=Obj.cells #[.int .i64 k,.string n,.slice sf ks.length cf] 24 (0,0):=⟨_,rfl⟩;obtain⟨O2,hO2⟩:∃ O,O=Obj.cells #[.slice adl l.length cpl,.slice adr r.length cpr] 28 (0,0):=⟨_,rfl⟩;obtain⟨W,hW⟩:∃ W,W=(w.alloc O1).alloc O2:=⟨_,rfl⟩;(have B0:Below w.heap.size w W:=by rw [hW];exact QAA (QAA (Below.refl _ w) _) _);(have p1:W.heap[w.heap.size]? = some O1:=by rw [hW];exact QAF (QAG w O1) _);(have p2:W.heap[w.heap.size+1]? = some O2:=by rw [hW];exact QAd w O1 O2);rw [hO1] at p1;rw [hO2] at p2;have P1:Hid (W.heap[w.heap.size]? = some _):=p1;have P2:Hid (W.heap[w.heap.size+1]? = some _):=p2;have HWe:Hid ((w.alloc O1).alloc O2=W):=hW.symm;clear hf hkr p1 p2 hW
 go_enter Tryz.func113,Tryz.ntmps113
 go_wp2_with fail;rw [← hO1,← hO2,HWe.out];clear hO1 hO2 HWe;(refine (QAw l (by omega) (.mk k n ks) _ _ W (HL.out.up B0) (HF.out.up B0)).mono ?_);rintro e w1 ⟨x1,rfl,hg,hb1⟩;have B1:=QAC B0 hb1;have Q1:Hid (w1.heap[w.heap.size]? = some _):=QAB hb1 P1.out;have Q2:Hid (w1.heap[w.heap.size+1]? = some _):=QAB hb1 P2.out;obtain⟨adg,cpg,rfl,-⟩:=id hg;have HG1:Hid (FL w1 _ (l.erase (.mk k n ks))):=hg;clear hg hb1 P1 P2 B0;obtain⟨j0,j1,j2,-⟩:=QAX Q1.out;go_wp2_with fail;(refine (QAw r (by omega) (.mk k n ks) _ _ w1 (HR.out.up B1) (HF.out.up B1)).mono ?_);rintro e w2 ⟨x2,rfl,hd,hb2⟩;have B2:=QAC B1 hb2;have Q3:Hid (w2.heap[w.heap.size]? = some _):=QAB hb2 Q1.out;obtain⟨add,cpd,rfl,-⟩:=id hd;have HD2:Hid (FL w2 _ (r.erase (.mk k n ks))):=hd;have HG2:Hid (FL w2 _ (l.erase (.mk k n ks))):=HG1.out.up hb2;clear hd hb2 Q1 Q2 j0 j1 j2 HG1 B1;obtain⟨j0,j1,j2,-⟩:=QAX Q3.out;go_wp2_with fail;refine (QBJ l (.mk k n ks) _ _ w2 (HL.out.up B2) (HF.out.up B2)).mono ?_;rintro e w3 ⟨rfl,hb3⟩;have B3:=QAC B2 hb3;have Q4:Hid (w3.heap[w.heap.size]? = some _):=QAB hb3 Q3.out;have HD3:Hid (FL w3 _ (r.erase (.mk k n ks))):=HD2.out.up hb3;have HG3:Hid (FL w3 _ (l.erase (.mk k n ks))):=HG2.out.up hb3;clear hb3 Q3 j0 j1 j2 HG2 HD2 B2;obtain⟨j0,j1,j2,-⟩:=QAX Q4.out;go_wp2_with fail;refine (QBJ r (.mk k n ks) _ _ w3 (HR.out.up B3) (HF.out.up B3)).mono ?_;rintro e w4 ⟨rfl,hb4⟩;have B4:=QAC B3 hb4;have Q5:Hid (w4.heap[w.heap.size]? = some _):=QAB hb4 Q4.out;have HD4:Hid (FL w4 _ (r.erase (.mk k n ks))):=HD3.out.up hb4;have HG4:Hid (FL w4 _ (l.erase (.mk k n ks))):=HG3.out.up hb4;clear hb4 Q4 j0 j1 j2 HG3 HD3 B3;obtain⟨j0,j1,j2,-⟩:=QAX Q5.out;have z4:=QAE Q5.out;have HOK:Hid (QAz q (.mk k n ks) l r=QBT q k (QAh (.mk k n ks) l) (QAh (.mk k n ks) r)):=QBo _ _ _ _ _ _;generalize QAh (.mk k n ks) l=bl at *;generalize QAh (.mk k n ks) r=br at *;have HE1:Hid ((l.erase (.mk k n ks)).length≤300):=Nat.le_trans List.length_erase_le hl3;have HE2:Hid ((r.erase (.mk k n ks)).length≤300):=Nat.le_trans List.length_erase_le hr3
 rcases hq with ⟨rfl,rfl⟩|⟨rfl,rfl⟩|⟨rfl,rfl⟩
 ·rcases QAj HF.out B4 with ⟨hp0,HRA,HRZ,HKA,HKZ⟩|⟨b,off,m,ka,na,ksa,sa,ca,kz,nz,ksz,sz,cz,rfl,g0,g1,g2,u0,u1,u2,hmI,hp0,hp1,hp2,hp3,d1,d2,hpos,zb,HRA,HRZ,HKA,HKZ⟩
  all_goals go_wp2_with fail
  all_goals
   first | (obtain⟨X,hX⟩:∃ X,X=QAO w4 (.int .i64 ka) (.string na) (.slice sa ksa.length ca) (.int .i64 kz) (.string nz) (.slice sz ksz.length cz):=⟨_,rfl⟩;unfold QAO at hX;rw [← hX]) | (obtain⟨X,hX⟩:∃ X,X=QAO w4 (.int .i64 0) (.string ⟨#[]⟩) (.slice none 0 0) (.int .i64 0) (.string ⟨#[]⟩) (.slice none 0 0):=⟨_,rfl⟩;unfold QAO at hX;rw [← hX])
   obtain⟨a0,a1,a2,z0,z1,z2,f2,fa,fz,BX,HBA,HBZ,HBF,HLx,HRx,HGx,HDx,HRAx,HRZx,HRFx,HOx,HKA,HKZ⟩:=QAs hX B4 Q5 HF HRA HRZ HL HR HG4 HD4 HKA HKZ
   have HPL:Hid (QAb i .andL (.mk k n ks) l r=[(((l.erase (.mk k n ks))++[fa,fz]),r)]):=by
    show _=_;unfold QAb
    first|rfl | (rw [HKA.out,HKZ.out];first|done|rfl) | (rw [HKA.out];first|done|rfl) | (rw [HKZ.out];first|done|rfl)
   (refine QAK (by kernel_rfl) [kEq (.func (.func 144) #[] #[]),kEq (.slice adg (l.erase (.mk k n ks)).length cpg),kEq (.agg #[a0,a1,a2]),kEq (.agg #[z0,z1,z2]),kFL [fa,fz],kFL ((l.erase (.mk k n ks))++[fa,fz]),kEq (.slice adr r.length cpr),kSQ (((l.erase (.mk k n ks))++[fa,fz]),r),QAW [(((l.erase (.mk k n ks))++[fa,fz]),r)],kEq (.pointer (some ⟨w.heap.size,0,none⟩)),kEq (.int .i64 k),kEq (.bool (k == 5)),kEq (.bool (k == 5)),kGd (k == 5) (.bool bl),kEq (.bool ((k == 5) && bl)),QAW [(((l.erase (.mk k n ks))++[fa,fz]),r)],kEq (.bool true),kEq (.bool ((k == 5) && bl))] ?_ (by kernel_rfl) (by kernel_rfl) 349 rfl (by kernel_rfl) ?_ ?_)
   ·intro p hp
    simp only [List.mem_cons,List.not_mem_nil,or_false] at hp
    rcases hp with rfl|rfl|rfl|rfl|rfl|rfl|rfl|rfl|rfl|rfl|rfl|rfl|rfl|rfl|rfl|rfl|rfl|rfl
    all_goals first|exact QAN _|exact QAR _|exact QAS _|exact QAP _|exact QAq _ _
   ·refine⟨?_,?_,?_,?_,?_,?_,?_,?_,?_,?_,?_,?_,?_,?_,?_,?_,?_,?_,trivial⟩
    ·intro a wx hB hold hdep K hK;have t19:a.tmps[19]? = some (.func (.func 144) #[] #[]):=hold.2.2 19 rfl;clear hold hdep;go_simp;exact hK.out _ _ rfl (Below.refl _ _)
    ·intro a wx hB hold hdep K hK;have t13:a.tmps[13]? = some (.slice adg (l.erase (.mk k n ks)).length cpg):=hold.2.2 13 rfl;clear hold hdep;go_simp;exact hK.out _ _ rfl (Below.refl _ _)
    ·intro a wx hB hold hdep K hK;have t17:a.tmps[17]? = some (.pointer (some ⟨w4.heap.size,0,none⟩)):=hold.2.2 17 rfl;obtain⟨k0,k1,k2',-⟩:=QAX (QAB hB HBA.out);clear hold hdep;go_simp;exact hK.out _ _ rfl (Below.refl _ _)
    ·intro a wx hB hold hdep K hK;have t18:a.tmps[18]? = some (.pointer (some ⟨w4.heap.size+1,0,none⟩)):=hold.2.2 18 rfl;obtain⟨k0,k1,k2',-⟩:=QAX (QAB hB HBZ.out);clear hold hdep;go_simp;exact hK.out _ _ rfl (Below.refl _ _)
    ·intro a wx hB hold hdep K hK;have t82:=QAD wx (hdep 2 rfl _ 82 rfl rfl);have t83:=QAD wx (hdep 3 rfl _ 83 rfl rfl);clear hold hdep;go_simp;exact hK.out _ _ (QAM (FL.duo (QAG wx _) ((HRAx.out.up hB).more _) ((HRZx.out.up hB).more _))) (QAA (Below.refl _ wx) _)
    ·intro a wx hB hold hdep K hK;have t81:=QAD wx (hdep 1 rfl _ 81 rfl rfl);obtain⟨v84,t84,p84⟩:=hdep 4 rfl _ 84 rfl rfl;obtain⟨ad84,m84,cp84,e84,f84⟩:=p84;subst e84;have H84:Hid (FL wx _ [fa,fz]):=f84;clear f84;clear hold hdep;go_simp;(refine (QAl (l.erase (.mk k n ks)) [fa,fz] (by have:=HE1.out;have:=HE2.out;first|omega|simp) (by simp) _ _ wx (HGx.out.up hB) H84.out).mono ?_);rintro e w1 ⟨x,rfl,hf,hb⟩;exact hK.out _ _ (QAM hf) hb
    ·intro a wx hB hold hdep K hK;have t12:a.tmps[12]? = some (.slice adr r.length cpr):=hold.2.2 12 rfl;clear hold hdep;go_simp;exact hK.out _ _ rfl (Below.refl _ _)
    ·intro a wx hB hold hdep K hK;have t80:=QAD wx (hdep 0 rfl _ 80 rfl rfl);obtain⟨v85,t85,p85⟩:=hdep 5 rfl _ 85 rfl rfl;obtain⟨ad85,m85,cp85,e85,f85⟩:=p85;subst e85;have H85:Hid (FL wx _ ((l.erase (.mk k n ks))++[fa,fz])):=f85;clear f85;have t86:=QAD wx (hdep 6 rfl _ 86 rfl rfl);clear hold hdep;go_simp;refine (QAY _ _ _ _ _ _ wx).mono ?_;rintro e w1 ⟨rfl,hb⟩;exact hK.out _ _ ⟨_,_,_,_,_,_,rfl,((H85.out).up hb),((HRx.out.up hB).up hb)⟩ hb
    ·intro a wx hB hold hdep K hK;obtain⟨v87,t87,p87⟩:=hdep 7 rfl _ 87 rfl rfl;obtain⟨a87,m87,b87,c87,n87,d87,e87,f87,g87⟩:=p87;subst e87;have H87:Hid (FL wx _ ((l.erase (.mk k n ks))++[fa,fz])):=f87;have J87:Hid (FL wx _ r):=g87;clear f87 g87;clear hold hdep;go_simp;exact hK.out _ _ (SQs.one (QAG wx _) (H87.out.up (QAA (Below.refl _ wx) _)) (J87.out.up (QAA (Below.refl _ wx) _))) (QAA (Below.refl _ wx) _)
    ·intro a wx hB hold hdep K hK;have t5:a.tmps[5]? = some (.pointer (some ⟨w.heap.size,0,none⟩)):=hold.2.2 5 rfl;clear hold hdep;go_simp;exact hK.out _ _ rfl (Below.refl _ _)
    ·intro a wx hB hold hdep K hK;have t89:=QAD wx (hdep 9 rfl _ 89 rfl rfl);obtain⟨k0,k1,k2',-⟩:=QAX (QAB hB HBF.out);clear hold hdep;go_simp;exact hK.out _ _ rfl (Below.refl _ _)
    ·intro a wx hB hold hdep K hK;have t90:=QAD wx (hdep 10 rfl _ 90 rfl rfl);clear hold hdep;go_simp;exact hK.out _ _ rfl (Below.refl _ _)
    ·intro a wx hB hold hdep K hK;have t91:=QAD wx (hdep 11 rfl _ 91 rfl rfl);clear hold hdep;go_simp;exact hK.out _ _ rfl (Below.refl _ _)
    ·intro a wx hB hold hdep K hK;obtain⟨v92,t92,p92⟩:=hdep 12 rfl _ 92 rfl rfl;have e92:v92=(.bool (k == 5)):=p92;subst e92;have t15:a.tmps[15]? = some (.bool bl):=hold.2.2 15 rfl;clear hold hdep;cases hq:(k == 5)
     ·rw [hq] at t92
      go_simp;(exact hK.out _ _ (fun h=>by rw [hq] at h;cases h) (Below.refl _ _))
     ·rw [hq] at t92
      go_simp;(exact hK.out _ _ (fun _=>rfl) (Below.refl _ _))
    ·intro a wx hB hold hdep K hK;have t92:=QAD wx (hdep 12 rfl _ 92 rfl rfl);obtain⟨v93,t93,p93⟩:=hdep 13 rfl _ 93 rfl rfl;have P93:Hid (kGd (k == 5) (.bool bl) v93 wx):=p93;clear hold hdep p93;cases hq:(k == 5)
     ·rw [hq] at t92
      go_simp;(exact hK.out _ _ (by rw [hq];rfl) (Below.refl _ _))
     ·rw [hq] at t92
      have e93:v93=(.bool bl):=P93.out hq;subst e93;go_simp;(exact hK.out _ _ (by rw [hq];rfl) (Below.refl _ _))
    ·intro a wx hB hold hdep K hK;obtain⟨v88,t88,p88⟩:=hdep 8 rfl _ 88 rfl rfl;have P88:Hid (QAW [(((l.erase (.mk k n ks))++[fa,fz]),r)] v88 wx):=p88;clear p88 hold hdep;go_simp;exact hK.out _ _ P88.out (Below.refl _ _)
    ·intro a wx hB hold hdep K hK;clear hold hdep;go_simp;exact hK.out _ _ rfl (Below.refl _ _)
    ·intro a wx hB hold hdep K hK;have t94:=QAD wx (hdep 14 rfl _ 94 rfl rfl);clear hold hdep;go_simp;exact hK.out _ _ rfl (Below.refl _ _)
   ·intro a wx hB hold hgot
    (obtain⟨v8,t8,p8⟩:=hgot 15 _ 8 rfl rfl;have P8:Hid (SQs wx v8 [(((l.erase (.mk k n ks))++[fa,fz]),r)]):=p8;obtain⟨v9,t9,p9⟩:=hgot 16 _ 9 rfl rfl;have e9:v9=(.bool true):=p9;subst e9;obtain⟨v10,t10,p10⟩:=hgot 17 _ 10 rfl rfl;have e10:v10=(.bool ((k == 5) && bl)):=p10;subst e10;have hD:a.defers=[]:=hold.2.1;clear hold hgot p8 p9 p10;go_wp2_with fail;(exact bodyPost_ret (v := .tuple #[v8,(.bool true),(.bool ((k == 5) && bl))]) (by simp [results,Tryz.results113,go_sem,t8,t9,t10]) hD ⟨_,by rw [HOK.out];rfl,by rw [HPL.out];exact P8.out,QAC (QAC B4 BX.out) hB⟩))
 ·rcases QAj HF.out B4 with ⟨hp0,HRA,HRZ,HKA,HKZ⟩|⟨b,off,m,ka,na,ksa,sa,ca,kz,nz,ksz,sz,cz,rfl,g0,g1,g2,u0,u1,u2,hmI,hp0,hp1,hp2,hp3,d1,d2,hpos,zb,HRA,HRZ,HKA,HKZ⟩
  all_goals go_wp2_with fail
  all_goals
   first | (obtain⟨X,hX⟩:∃ X,X=QAO w4 (.int .i64 ka) (.string na) (.slice sa ksa.length ca) (.int .i64 kz) (.string nz) (.slice sz ksz.length cz):=⟨_,rfl⟩;unfold QAO at hX;rw [← hX]) | (obtain⟨X,hX⟩:∃ X,X=QAO w4 (.int .i64 0) (.string ⟨#[]⟩) (.slice none 0 0) (.int .i64 0) (.string ⟨#[]⟩) (.slice none 0 0):=⟨_,rfl⟩;unfold QAO at hX;rw [← hX])
   obtain⟨a0,a1,a2,z0,z1,z2,f2,fa,fz,BX,HBA,HBZ,HBF,HLx,HRx,HGx,HDx,HRAx,HRZx,HRFx,HOx,HKA,HKZ⟩:=QAs hX B4 Q5 HF HRA HRZ HL HR HG4 HD4 HKA HKZ
   have HPL:Hid (QAb i .andR (.mk k n ks) l r=[(l,((r.erase (.mk k n ks))++[fa])),(l,((r.erase (.mk k n ks))++[fz]))]):=by
    show _=_;unfold QAb
    first|rfl | (rw [HKA.out,HKZ.out];first|done|rfl) | (rw [HKA.out];first|done|rfl) | (rw [HKZ.out];first|done|rfl)
   (refine QAK (by kernel_rfl) [kEq (.func (.func 144) #[] #[]),kEq (.slice adl l.length cpl),kEq (.slice add (r.erase (.mk k n ks)).length cpd),kEq (.agg #[a0,a1,a2]),kFL [fa],kFL ((r.erase (.mk k n ks))++[fa]),kSQ (l,((r.erase (.mk k n ks))++[fa])),kEq (.func (.func 144) #[] #[]),kEq (.slice adl l.length cpl),kEq (.slice add (r.erase (.mk k n ks)).length cpd),kEq (.agg #[z0,z1,z2]),kFL [fz],kFL ((r.erase (.mk k n ks))++[fz]),kSQ (l,((r.erase (.mk k n ks))++[fz])),QAW [(l,((r.erase (.mk k n ks))++[fa])),(l,((r.erase (.mk k n ks))++[fz]))],kEq (.pointer (some ⟨w.heap.size,0,none⟩)),kEq (.int .i64 k),kEq (.bool (k == 5)),kEq (.bool (k == 5)),kGd (k == 5) (.bool br),kEq (.bool ((k == 5) && br)),QAW [(l,((r.erase (.mk k n ks))++[fa])),(l,((r.erase (.mk k n ks))++[fz]))],kEq (.bool true),kEq (.bool ((k == 5) && br))] ?_ (by kernel_rfl) (by kernel_rfl) 349 rfl (by kernel_rfl) ?_ ?_)
   ·intro p hp
    simp only [List.mem_cons,List.not_mem_nil,or_false] at hp
    rcases hp with rfl|rfl|rfl|rfl|rfl|rfl|rfl|rfl|rfl|rfl|rfl|rfl|rfl|rfl|rfl|rfl|rfl|rfl|rfl|rfl|rfl|rfl|rfl|rfl
    all_goals first|exact QAN _|exact QAR _|exact QAS _|exact QAP _|exact QAq _ _
   ·refine⟨?_,?_,?_,?_,?_,?_,?_,?_,?_,?_,?_,?_,?_,?_,?_,?_,?_,?_,?_,?_,?_,?_,?_,?_,trivial⟩
    ·intro a wx hB hold hdep K hK;have t19:a.tmps[19]? = some (.func (.func 144) #[] #[]):=hold.2.2 19 rfl;clear hold hdep;go_simp;exact hK.out _ _ rfl (Below.refl _ _)
    ·intro a wx hB hold hdep K hK;have t11:a.tmps[11]? = some (.slice adl l.length cpl):=hold.2.2 11 rfl;clear hold hdep;go_simp;exact hK.out _ _ rfl (Below.refl _ _)
    ·intro a wx hB hold hdep K hK;have t14:a.tmps[14]? = some (.slice add (r.erase (.mk k n ks)).length cpd):=hold.2.2 14 rfl;clear hold hdep;go_simp;exact hK.out _ _ rfl (Below.refl _ _)
    ·intro a wx hB hold hdep K hK;have t17:a.tmps[17]? = some (.pointer (some ⟨w4.heap.size,0,none⟩)):=hold.2.2 17 rfl;obtain⟨k0,k1,k2',-⟩:=QAX (QAB hB HBA.out);clear hold hdep;go_simp;exact hK.out _ _ rfl (Below.refl _ _)
    ·intro a wx hB hold hdep K hK;have t100:=QAD wx (hdep 3 rfl _ 100 rfl rfl);clear hold hdep;go_simp;exact hK.out _ _ (QAM (FL.sing (QAG wx _) ((HRAx.out.up hB).more _))) (QAA (Below.refl _ wx) _)
    ·intro a wx hB hold hdep K hK;have t99:=QAD wx (hdep 2 rfl _ 99 rfl rfl);obtain⟨v101,t101,p101⟩:=hdep 4 rfl _ 101 rfl rfl;obtain⟨ad101,m101,cp101,e101,f101⟩:=p101;subst e101;have H101:Hid (FL wx _ [fa]):=f101;clear f101;clear hold hdep;go_simp;(refine (QAl (r.erase (.mk k n ks)) [fa] (by have:=HE1.out;have:=HE2.out;first|omega|simp) (by simp) _ _ wx (HDx.out.up hB) H101.out).mono ?_);rintro e w1 ⟨x,rfl,hf,hb⟩;exact hK.out _ _ (QAM hf) hb
    ·intro a wx hB hold hdep K hK;have t97:=QAD wx (hdep 0 rfl _ 97 rfl rfl);have t98:=QAD wx (hdep 1 rfl _ 98 rfl rfl);obtain⟨v102,t102,p102⟩:=hdep 5 rfl _ 102 rfl rfl;obtain⟨ad102,m102,cp102,e102,f102⟩:=p102;subst e102;have H102:Hid (FL wx _ ((r.erase (.mk k n ks))++[fa])):=f102;clear f102;clear hold hdep;go_simp;refine (QAY _ _ _ _ _ _ wx).mono ?_;rintro e w1 ⟨rfl,hb⟩;exact hK.out _ _ ⟨_,_,_,_,_,_,rfl,((HLx.out.up hB).up hb),((H102.out).up hb)⟩ hb
    ·intro a wx hB hold hdep K hK;have t19:a.tmps[19]? = some (.func (.func 144) #[] #[]):=hold.2.2 19 rfl;clear hold hdep;go_simp;exact hK.out _ _ rfl (Below.refl _ _)
    ·intro a wx hB hold hdep K hK;have t11:a.tmps[11]? = some (.slice adl l.length cpl):=hold.2.2 11 rfl;clear hold hdep;go_simp;exact hK.out _ _ rfl (Below.refl _ _)
    ·intro a wx hB hold hdep K hK;have t14:a.tmps[14]? = some (.slice add (r.erase (.mk k n ks)).length cpd):=hold.2.2 14 rfl;clear hold hdep;go_simp;exact hK.out _ _ rfl (Below.refl _ _)
    ·intro a wx hB hold hdep K hK;have t18:a.tmps[18]? = some (.pointer (some ⟨w4.heap.size+1,0,none⟩)):=hold.2.2 18 rfl;obtain⟨k0,k1,k2',-⟩:=QAX (QAB hB HBZ.out);clear hold hdep;go_simp;exact hK.out _ _ rfl (Below.refl _ _)
    ·intro a wx hB hold hdep K hK;have t107:=QAD wx (hdep 10 rfl _ 107 rfl rfl);clear hold hdep;go_simp;exact hK.out _ _ (QAM (FL.sing (QAG wx _) ((HRZx.out.up hB).more _))) (QAA (Below.refl _ wx) _)
    ·intro a wx hB hold hdep K hK;have t106:=QAD wx (hdep 9 rfl _ 106 rfl rfl);obtain⟨v108,t108,p108⟩:=hdep 11 rfl _ 108 rfl rfl;obtain⟨ad108,m108,cp108,e108,f108⟩:=p108;subst e108;have H108:Hid (FL wx _ [fz]):=f108;clear f108;clear hold hdep;go_simp;(refine (QAl (r.erase (.mk k n ks)) [fz] (by have:=HE1.out;have:=HE2.out;first|omega|simp) (by simp) _ _ wx (HDx.out.up hB) H108.out).mono ?_);rintro e w1 ⟨x,rfl,hf,hb⟩;exact hK.out _ _ (QAM hf) hb
    ·intro a wx hB hold hdep K hK;have t104:=QAD wx (hdep 7 rfl _ 104 rfl rfl);have t105:=QAD wx (hdep 8 rfl _ 105 rfl rfl);obtain⟨v109,t109,p109⟩:=hdep 12 rfl _ 109 rfl rfl;obtain⟨ad109,m109,cp109,e109,f109⟩:=p109;subst e109;have H109:Hid (FL wx _ ((r.erase (.mk k n ks))++[fz])):=f109;clear f109;clear hold hdep;go_simp;refine (QAY _ _ _ _ _ _ wx).mono ?_;rintro e w1 ⟨rfl,hb⟩;exact hK.out _ _ ⟨_,_,_,_,_,_,rfl,((HLx.out.up hB).up hb),((H109.out).up hb)⟩ hb
    ·intro a wx hB hold hdep K hK;obtain⟨v103,t103,p103⟩:=hdep 6 rfl _ 103 rfl rfl;obtain⟨a103,m103,b103,c103,n103,d103,e103,f103,g103⟩:=p103;subst e103;have H103:Hid (FL wx _ l):=f103;have J103:Hid (FL wx _ ((r.erase (.mk k n ks))++[fa])):=g103;clear f103 g103;obtain⟨v110,t110,p110⟩:=hdep 13 rfl _ 110 rfl rfl;obtain⟨a110,m110,b110,c110,n110,d110,e110,f110,g110⟩:=p110;subst e110;have H110:Hid (FL wx _ l):=f110;have J110:Hid (FL wx _ ((r.erase (.mk k n ks))++[fz])):=g110;clear f110 g110;clear hold hdep;go_simp;exact hK.out _ _ (SQs.two (QAG wx _) (H103.out.up (QAA (Below.refl _ wx) _)) (J103.out.up (QAA (Below.refl _ wx) _)) (H110.out.up (QAA (Below.refl _ wx) _)) (J110.out.up (QAA (Below.refl _ wx) _))) (QAA (Below.refl _ wx) _)
    ·intro a wx hB hold hdep K hK;have t5:a.tmps[5]? = some (.pointer (some ⟨w.heap.size,0,none⟩)):=hold.2.2 5 rfl;clear hold hdep;go_simp;exact hK.out _ _ rfl (Below.refl _ _)
    ·intro a wx hB hold hdep K hK;have t112:=QAD wx (hdep 15 rfl _ 112 rfl rfl);obtain⟨k0,k1,k2',-⟩:=QAX (QAB hB HBF.out);clear hold hdep;go_simp;exact hK.out _ _ rfl (Below.refl _ _)
    ·intro a wx hB hold hdep K hK;have t113:=QAD wx (hdep 16 rfl _ 113 rfl rfl);clear hold hdep;go_simp;exact hK.out _ _ rfl (Below.refl _ _)
    ·intro a wx hB hold hdep K hK;have t114:=QAD wx (hdep 17 rfl _ 114 rfl rfl);clear hold hdep;go_simp;exact hK.out _ _ rfl (Below.refl _ _)
    ·intro a wx hB hold hdep K hK;obtain⟨v115,t115,p115⟩:=hdep 18 rfl _ 115 rfl rfl;have e115:v115=(.bool (k == 5)):=p115;subst e115;have t16:a.tmps[16]? = some (.bool br):=hold.2.2 16 rfl;clear hold hdep;cases hq:(k == 5)
     ·rw [hq] at t115
      go_simp;(exact hK.out _ _ (fun h=>by rw [hq] at h;cases h) (Below.refl _ _))
     ·rw [hq] at t115
      go_simp;(exact hK.out _ _ (fun _=>rfl) (Below.refl _ _))
    ·intro a wx hB hold hdep K hK;have t115:=QAD wx (hdep 18 rfl _ 115 rfl rfl);obtain⟨v116,t116,p116⟩:=hdep 19 rfl _ 116 rfl rfl;have P116:Hid (kGd (k == 5) (.bool br) v116 wx):=p116;clear hold hdep p116;cases hq:(k == 5)
     ·rw [hq] at t115
      go_simp;(exact hK.out _ _ (by rw [hq];rfl) (Below.refl _ _))
     ·rw [hq] at t115
      have e116:v116=(.bool br):=P116.out hq;subst e116;go_simp;(exact hK.out _ _ (by rw [hq];rfl) (Below.refl _ _))
    ·intro a wx hB hold hdep K hK;obtain⟨v111,t111,p111⟩:=hdep 14 rfl _ 111 rfl rfl;have P111:Hid (QAW [(l,((r.erase (.mk k n ks))++[fa])),(l,((r.erase (.mk k n ks))++[fz]))] v111 wx):=p111;clear p111 hold hdep;go_simp;exact hK.out _ _ P111.out (Below.refl _ _)
    ·intro a wx hB hold hdep K hK;clear hold hdep;go_simp;exact hK.out _ _ rfl (Below.refl _ _)
    ·intro a wx hB hold hdep K hK;have t117:=QAD wx (hdep 20 rfl _ 117 rfl rfl);clear hold hdep;go_simp;exact hK.out _ _ rfl (Below.refl _ _)
   ·intro a wx hB hold hgot
    (obtain⟨v8,t8,p8⟩:=hgot 21 _ 8 rfl rfl;have P8:Hid (SQs wx v8 [(l,((r.erase (.mk k n ks))++[fa])),(l,((r.erase (.mk k n ks))++[fz]))]):=p8;obtain⟨v9,t9,p9⟩:=hgot 22 _ 9 rfl rfl;have e9:v9=(.bool true):=p9;subst e9;obtain⟨v10,t10,p10⟩:=hgot 23 _ 10 rfl rfl;have e10:v10=(.bool ((k == 5) && br)):=p10;subst e10;have hD:a.defers=[]:=hold.2.1;clear hold hgot p8 p9 p10;go_wp2_with fail;(exact bodyPost_ret (v := .tuple #[v8,(.bool true),(.bool ((k == 5) && br))]) (by simp [results,Tryz.results113,go_sem,t8,t9,t10]) hD ⟨_,by rw [HOK.out];rfl,by rw [HPL.out];exact P8.out,QAC (QAC B4 BX.out) hB⟩))
 ·rcases QAj HF.out B4 with ⟨hp0,HRA,HRZ,HKA,HKZ⟩|⟨b,off,m,ka,na,ksa,sa,ca,kz,nz,ksz,sz,cz,rfl,g0,g1,g2,u0,u1,u2,hmI,hp0,hp1,hp2,hp3,d1,d2,hpos,zb,HRA,HRZ,HKA,HKZ⟩
  all_goals go_wp2_with fail
  all_goals
   first | (obtain⟨X,hX⟩:∃ X,X=QAO w4 (.int .i64 ka) (.string na) (.slice sa ksa.length ca) (.int .i64 kz) (.string nz) (.slice sz ksz.length cz):=⟨_,rfl⟩;unfold QAO at hX;rw [← hX]) | (obtain⟨X,hX⟩:∃ X,X=QAO w4 (.int .i64 0) (.string ⟨#[]⟩) (.slice none 0 0) (.int .i64 0) (.string ⟨#[]⟩) (.slice none 0 0):=⟨_,rfl⟩;unfold QAO at hX;rw [← hX])
   obtain⟨a0,a1,a2,z0,z1,z2,f2,fa,fz,BX,HBA,HBZ,HBF,HLx,HRx,HGx,HDx,HRAx,HRZx,HRFx,HOx,HKA,HKZ⟩:=QAs hX B4 Q5 HF HRA HRZ HL HR HG4 HD4 HKA HKZ
   have HPL:Hid (QAb i .orL (.mk k n ks) l r=[(((l.erase (.mk k n ks))++[fa]),r),(((l.erase (.mk k n ks))++[fz]),r)]):=by
    show _=_;unfold QAb
    first|rfl | (rw [HKA.out,HKZ.out];first|done|rfl) | (rw [HKA.out];first|done|rfl) | (rw [HKZ.out];first|done|rfl)
   (refine QAK (by kernel_rfl) [kEq (.func (.func 144) #[] #[]),kEq (.slice adg (l.erase (.mk k n ks)).length cpg),kEq (.agg #[a0,a1,a2]),kFL [fa],kFL ((l.erase (.mk k n ks))++[fa]),kEq (.slice adr r.length cpr),kSQ (((l.erase (.mk k n ks))++[fa]),r),kEq (.func (.func 144) #[] #[]),kEq (.slice adg (l.erase (.mk k n ks)).length cpg),kEq (.agg #[z0,z1,z2]),kFL [fz],kFL ((l.erase (.mk k n ks))++[fz]),kEq (.slice adr r.length cpr),kSQ (((l.erase (.mk k n ks))++[fz]),r),QAW [(((l.erase (.mk k n ks))++[fa]),r),(((l.erase (.mk k n ks))++[fz]),r)],kEq (.pointer (some ⟨w.heap.size,0,none⟩)),kEq (.int .i64 k),kEq (.bool (k == 6)),kEq (.bool (k == 6)),kGd (k == 6) (.bool bl),kEq (.bool ((k == 6) && bl)),QAW [(((l.erase (.mk k n ks))++[fa]),r),(((l.erase (.mk k n ks))++[fz]),r)],kEq (.bool true),kEq (.bool ((k == 6) && bl))] ?_ (by kernel_rfl) (by kernel_rfl) 349 rfl (by kernel_rfl) ?_ ?_)
   ·intro p hp
    simp only [List.mem_cons,List.not_mem_nil,or_false] at hp
    rcases hp with rfl|rfl|rfl|rfl|rfl|rfl|rfl|rfl|rfl|rfl|rfl|rfl|rfl|rfl|rfl|rfl|rfl|rfl|rfl|rfl|rfl|rfl|rfl|rfl
    all_goals first|exact QAN _|exact QAR _|exact QAS _|exact QAP _|exact QAq _ _
   ·refine⟨?_,?_,?_,?_,?_,?_,?_,?_,?_,?_,?_,?_,?_,?_,?_,?_,?_,?_,?_,?_,?_,?_,?_,?_,trivial⟩
    ·intro a wx hB hold hdep K hK;have t19:a.tmps[19]? = some (.func (.func 144) #[] #[]):=hold.2.2 19 rfl;clear hold hdep;go_simp;exact hK.out _ _ rfl (Below.refl _ _)
    ·intro a wx hB hold hdep K hK;have t13:a.tmps[13]? = some (.slice adg (l.erase (.mk k n ks)).length cpg):=hold.2.2 13 rfl;clear hold hdep;go_simp;exact hK.out _ _ rfl (Below.refl _ _)
    ·intro a wx hB hold hdep K hK;have t17:a.tmps[17]? = some (.pointer (some ⟨w4.heap.size,0,none⟩)):=hold.2.2 17 rfl;obtain⟨k0,k1,k2',-⟩:=QAX (QAB hB HBA.out);clear hold hdep;go_simp;exact hK.out _ _ rfl (Below.refl _ _)
    ·intro a wx hB hold hdep K hK;have t122:=QAD wx (hdep 2 rfl _ 122 rfl rfl);clear hold hdep;go_simp;exact hK.out _ _ (QAM (FL.sing (QAG wx _) ((HRAx.out.up hB).more _))) (QAA (Below.refl _ wx) _)
    ·intro a wx hB hold hdep K hK;have t121:=QAD wx (hdep 1 rfl _ 121 rfl rfl);obtain⟨v123,t123,p123⟩:=hdep 3 rfl _ 123 rfl rfl;obtain⟨ad123,m123,cp123,e123,f123⟩:=p123;subst e123;have H123:Hid (FL wx _ [fa]):=f123;clear f123;clear hold hdep;go_simp;(refine (QAl (l.erase (.mk k n ks)) [fa] (by have:=HE1.out;have:=HE2.out;first|omega|simp) (by simp) _ _ wx (HGx.out.up hB) H123.out).mono ?_);rintro e w1 ⟨x,rfl,hf,hb⟩;exact hK.out _ _ (QAM hf) hb
    ·intro a wx hB hold hdep K hK;have t12:a.tmps[12]? = some (.slice adr r.length cpr):=hold.2.2 12 rfl;clear hold hdep;go_simp;exact hK.out _ _ rfl (Below.refl _ _)
    ·intro a wx hB hold hdep K hK;have t120:=QAD wx (hdep 0 rfl _ 120 rfl rfl);obtain⟨v124,t124,p124⟩:=hdep 4 rfl _ 124 rfl rfl;obtain⟨ad124,m124,cp124,e124,f124⟩:=p124;subst e124;have H124:Hid (FL wx _ ((l.erase (.mk k n ks))++[fa])):=f124;clear f124;have t125:=QAD wx (hdep 5 rfl _ 125 rfl rfl);clear hold hdep;go_simp;refine (QAY _ _ _ _ _ _ wx).mono ?_;rintro e w1 ⟨rfl,hb⟩;exact hK.out _ _ ⟨_,_,_,_,_,_,rfl,((H124.out).up hb),((HRx.out.up hB).up hb)⟩ hb
    ·intro a wx hB hold hdep K hK;have t19:a.tmps[19]? = some (.func (.func 144) #[] #[]):=hold.2.2 19 rfl;clear hold hdep;go_simp;exact hK.out _ _ rfl (Below.refl _ _)
    ·intro a wx hB hold hdep K hK;have t13:a.tmps[13]? = some (.slice adg (l.erase (.mk k n ks)).length cpg):=hold.2.2 13 rfl;clear hold hdep;go_simp;exact hK.out _ _ rfl (Below.refl _ _)
    ·intro a wx hB hold hdep K hK;have t18:a.tmps[18]? = some (.pointer (some ⟨w4.heap.size+1,0,none⟩)):=hold.2.2 18 rfl;obtain⟨k0,k1,k2',-⟩:=QAX (QAB hB HBZ.out);clear hold hdep;go_simp;exact hK.out _ _ rfl (Below.refl _ _)
    ·intro a wx hB hold hdep K hK;have t129:=QAD wx (hdep 9 rfl _ 129 rfl rfl);clear hold hdep;go_simp;exact hK.out _ _ (QAM (FL.sing (QAG wx _) ((HRZx.out.up hB).more _))) (QAA (Below.refl _ wx) _)
    ·intro a wx hB hold hdep K hK;have t128:=QAD wx (hdep 8 rfl _ 128 rfl rfl);obtain⟨v130,t130,p130⟩:=hdep 10 rfl _ 130 rfl rfl;obtain⟨ad130,m130,cp130,e130,f130⟩:=p130;subst e130;have H130:Hid (FL wx _ [fz]):=f130;clear f130;clear hold hdep;go_simp;(refine (QAl (l.erase (.mk k n ks)) [fz] (by have:=HE1.out;have:=HE2.out;first|omega|simp) (by simp) _ _ wx (HGx.out.up hB) H130.out).mono ?_);rintro e w1 ⟨x,rfl,hf,hb⟩;exact hK.out _ _ (QAM hf) hb
    ·intro a wx hB hold hdep K hK;have t12:a.tmps[12]? = some (.slice adr r.length cpr):=hold.2.2 12 rfl;clear hold hdep;go_simp;exact hK.out _ _ rfl (Below.refl _ _)
    ·intro a wx hB hold hdep K hK;have t127:=QAD wx (hdep 7 rfl _ 127 rfl rfl);obtain⟨v131,t131,p131⟩:=hdep 11 rfl _ 131 rfl rfl;obtain⟨ad131,m131,cp131,e131,f131⟩:=p131;subst e131;have H131:Hid (FL wx _ ((l.erase (.mk k n ks))++[fz])):=f131;clear f131;have t132:=QAD wx (hdep 12 rfl _ 132 rfl rfl);clear hold hdep;go_simp;refine (QAY _ _ _ _ _ _ wx).mono ?_;rintro e w1 ⟨rfl,hb⟩;exact hK.out _ _ ⟨_,_,_,_,_,_,rfl,((H131.out).up hb),((HRx.out.up hB).up hb)⟩ hb
    ·intro a wx hB hold hdep K hK;obtain⟨v126,t126,p126⟩:=hdep 6 rfl _ 126 rfl rfl;obtain⟨a126,m126,b126,c126,n126,d126,e126,f126,g126⟩:=p126;subst e126;have H126:Hid (FL wx _ ((l.erase (.mk k n ks))++[fa])):=f126;have J126:Hid (FL wx _ r):=g126;clear f126 g126;obtain⟨v133,t133,p133⟩:=hdep 13 rfl _ 133 rfl rfl;obtain⟨a133,m133,b133,c133,n133,d133,e133,f133,g133⟩:=p133;subst e133;have H133:Hid (FL wx _ ((l.erase (.mk k n ks))++[fz])):=f133;have J133:Hid (FL wx _ r):=g133;clear f133 g133;clear hold hdep;go_simp;exact hK.out _ _ (SQs.two (QAG wx _) (H126.out.up (QAA (Below.refl _ wx) _)) (J126.out.up (QAA (Below.refl _ wx) _)) (H133.out.up (QAA (Below.refl _ wx) _)) (J133.out.up (QAA (Below.refl _ wx) _))) (QAA (Below.refl _ wx) _)
    ·intro a wx hB hold hdep K hK;have t5:a.tmps[5]? = some (.pointer (some ⟨w.heap.size,0,none⟩)):=hold.2.2 5 rfl;clear hold hdep;go_simp;exact hK.out _ _ rfl (Below.refl _ _)
    ·intro a wx hB hold hdep K hK;have t135:=QAD wx (hdep 15 rfl _ 135 rfl rfl);obtain⟨k0,k1,k2',-⟩:=QAX (QAB hB HBF.out);clear hold hdep;go_simp;exact hK.out _ _ rfl (Below.refl _ _)
    ·intro a wx hB hold hdep K hK;have t136:=QAD wx (hdep 16 rfl _ 136 rfl rfl);clear hold hdep;go_simp;exact hK.out _ _ rfl (Below.refl _ _)
    ·intro a wx hB hold hdep K hK;have t137:=QAD wx (hdep 17 rfl _ 137 rfl rfl);clear hold hdep;go_simp;exact hK.out _ _ rfl (Below.refl _ _)
    ·intro a wx hB hold hdep K hK;obtain⟨v138,t138,p138⟩:=hdep 18 rfl _ 138 rfl rfl;have e138:v138=(.bool (k == 6)):=p138;subst e138;have t15:a.tmps[15]? = some (.bool bl):=hold.2.2 15 rfl;clear hold hdep;cases hq:(k == 6)
     ·rw [hq] at t138
      go_simp;(exact hK.out _ _ (fun h=>by rw [hq] at h;cases h) (Below.refl _ _))
     ·rw [hq] at t138
      go_simp;(exact hK.out _ _ (fun _=>rfl) (Below.refl _ _))
    ·intro a wx hB hold hdep K hK;have t138:=QAD wx (hdep 18 rfl _ 138 rfl rfl);obtain⟨v139,t139,p139⟩:=hdep 19 rfl _ 139 rfl rfl;have P139:Hid (kGd (k == 6) (.bool bl) v139 wx):=p139;clear hold hdep p139;cases hq:(k == 6)
     ·rw [hq] at t138
      go_simp;(exact hK.out _ _ (by rw [hq];rfl) (Below.refl _ _))
     ·rw [hq] at t138
      have e139:v139=(.bool bl):=P139.out hq;subst e139;go_simp;(exact hK.out _ _ (by rw [hq];rfl) (Below.refl _ _))
    ·intro a wx hB hold hdep K hK;obtain⟨v134,t134,p134⟩:=hdep 14 rfl _ 134 rfl rfl;have P134:Hid (QAW [(((l.erase (.mk k n ks))++[fa]),r),(((l.erase (.mk k n ks))++[fz]),r)] v134 wx):=p134;clear p134 hold hdep;go_simp;exact hK.out _ _ P134.out (Below.refl _ _)
    ·intro a wx hB hold hdep K hK;clear hold hdep;go_simp;exact hK.out _ _ rfl (Below.refl _ _)
    ·intro a wx hB hold hdep K hK;have t140:=QAD wx (hdep 20 rfl _ 140 rfl rfl);clear hold hdep;go_simp;exact hK.out _ _ rfl (Below.refl _ _)
   ·intro a wx hB hold hgot
    (obtain⟨v8,t8,p8⟩:=hgot 21 _ 8 rfl rfl;have P8:Hid (SQs wx v8 [(((l.erase (.mk k n ks))++[fa]),r),(((l.erase (.mk k n ks))++[fz]),r)]):=p8;obtain⟨v9,t9,p9⟩:=hgot 22 _ 9 rfl rfl;have e9:v9=(.bool true):=p9;subst e9;obtain⟨v10,t10,p10⟩:=hgot 23 _ 10 rfl rfl;have e10:v10=(.bool ((k == 6) && bl)):=p10;subst e10;have hD:a.defers=[]:=hold.2.1;clear hold hgot p8 p9 p10;go_wp2_with fail;(exact bodyPost_ret (v := .tuple #[v8,(.bool true),(.bool ((k == 6) && bl))]) (by simp [results,Tryz.results113,go_sem,t8,t9,t10]) hD ⟨_,by rw [HOK.out];rfl,by rw [HPL.out];exact P8.out,QAC (QAC B4 BX.out) hB⟩))
end Go.Proofs.YtffkoiemnchdgadGreat
