import Derived.Test.YtbmedfokpgghiacGreatB23
import Derived.Test.YtbmedfokpgghiacGreatB22
namespace Go.Proofs.YtbmedfokpgghiacGreat
open Go.RowKit
set_option maxRecDepth 10000 in
set_option maxHeartbeats 8000000 in
theorem QJa (i:Bool) (q:Ru) (t:ByteArray) (hq:(q = .andL∧t=⟨#[97,110,100,45,108]⟩)∨(q = .andR∧t=⟨#[97,110,100,45,114]⟩)∨(q = .orL∧t=⟨#[111,114,45,108]⟩)) (f:Fm) (l r:List Fm) (hl3:l.length≤300) (hr3:r.length≤300) (v VL VR:Value) (w:World) (hf:Rep w (fun _=>True) f v) (hl:FL w VL l) (hr:FL w VR r) :
  Calls Tryz.prog 104 #[.string t,v,.agg #[VL,VR],.bool i] w fun e w'=>∃ x,e = .returned (.tuple #[x,.bool (QBs i q),.bool (QBY q f l r)])∧SQs w' x (QAl i q f l r)∧Below w.heap.size w w':=by
 obtain⟨k,n,ks⟩:=f;obtain⟨sf,cf,rfl⟩:=QAU hf;(have HF:Hid (Rep w (fun _=>True) (.mk k n ks) _):=hf);have HL:Hid (FL w VL l):=hl;have HR:Hid (FL w VR r):=hr;have HKS:=(Rep.def.1 hf);obtain⟨sf',cf',hv,-,hkc,hcm,hkr⟩:=HKS;simp only [Value.agg.injEq,Array.mk.injEq,List.cons.injEq,Value.slice.injEq,and_true,true_and] at hv;obtain⟨rfl,rfl⟩:=hv;(have hksI:(ks.length:Int)≤9223372036854775807:=by unfold maxLen at hcm;omega);(have hkcI:(ks.length:Int)≤(cf:Int):=by omega);obtain⟨adl,cpl,rfl,-⟩:=hl;obtain⟨adr,cpr,rfl,-⟩:=hr;obtain⟨O1,hO1⟩:∃ O,O=Obj.cells #[.int .i64 k,.string n,.slice sf ks.length cf] 29 (0,0):=⟨_,rfl⟩;obtain⟨O2,hO2⟩:∃ O,O=Obj.cells #[.slice adl l.length cpl,.slice adr r.length cpr] 24 (0,0):=⟨_,rfl⟩;obtain⟨W,hW⟩:∃ W,W=(w.alloc O1).alloc O2:=⟨_,rfl⟩;(have B0:Below w.heap.size w W:=by rw [hW];exact QAB (QAB (Below.refl _ w) _) _);(have p1:W.heap[w.heap.size]? = some O1:=by rw [hW];exact QAG (QAH w O1) _);(have p2:W.heap[w.heap.size+1]? = some O2:=by rw [hW];exact QAa w O1 O2);rw [hO1] at p1;rw [hO2] at p2;have P1:Hid (W.heap[w.heap.size]? = some _):=p1;have P2:Hid (W.heap[w.heap.size+1]? = some _):=p2;have HWe:Hid ((w.alloc O1).alloc O2=W):=hW.symm;clear hf hkr p1 p2 hW
 go_enter Tryz.func104,Tryz.ntmps104
 go_wp2_with fail;rw [← hO1,← hO2,HWe.out];clear hO1 hO2 HWe;(refine (QBQ l (by omega) (.mk k n ks) _ _ W (HL.out.up B0) (HF.out.up B0)).mono ?_);rintro e w1 ⟨x1,rfl,hg,hb1⟩;have B1:=QAC B0 hb1;have Q1:Hid (w1.heap[w.heap.size]? = some _):=QAA hb1 P1.out;have Q2:Hid (w1.heap[w.heap.size+1]? = some _):=QAA hb1 P2.out;obtain⟨adg,cpg,rfl,-⟩:=id hg;have HG1:Hid (FL w1 _ (l.erase (.mk k n ks))):=hg;clear hg hb1 P1 P2 B0;obtain⟨j0,j1,j2,-⟩:=QAb Q1.out;go_wp2_with fail;(refine (QBQ r (by omega) (.mk k n ks) _ _ w1 (HR.out.up B1) (HF.out.up B1)).mono ?_);rintro e w2 ⟨x2,rfl,hd,hb2⟩;have B2:=QAC B1 hb2;have Q3:Hid (w2.heap[w.heap.size]? = some _):=QAA hb2 Q1.out;obtain⟨add,cpd,rfl,-⟩:=id hd;have HD2:Hid (FL w2 _ (r.erase (.mk k n ks))):=hd;have HG2:Hid (FL w2 _ (l.erase (.mk k n ks))):=HG1.out.up hb2;clear hd hb2 Q1 Q2 j0 j1 j2 HG1 B1;obtain⟨j0,j1,j2,-⟩:=QAb Q3.out;go_wp2_with fail;refine (QBn l (.mk k n ks) _ _ w2 (HL.out.up B2) (HF.out.up B2)).mono ?_;rintro e w3 ⟨rfl,hb3⟩;have B3:=QAC B2 hb3;have Q4:Hid (w3.heap[w.heap.size]? = some _):=QAA hb3 Q3.out;have HD3:Hid (FL w3 _ (r.erase (.mk k n ks))):=HD2.out.up hb3;have HG3:Hid (FL w3 _ (l.erase (.mk k n ks))):=HG2.out.up hb3;clear hb3 Q3 j0 j1 j2 HG2 HD2 B2;obtain⟨j0,j1,j2,-⟩:=QAb Q4.out;go_wp2_with fail;refine (QBn r (.mk k n ks) _ _ w3 (HR.out.up B3) (HF.out.up B3)).mono ?_;rintro e w4 ⟨rfl,hb4⟩;have B4:=QAC B3 hb4;have Q5:Hid (w4.heap[w.heap.size]? = some _):=QAA hb4 Q4.out;have HD4:Hid (FL w4 _ (r.erase (.mk k n ks))):=HD3.out.up hb4;have HG4:Hid (FL w4 _ (l.erase (.mk k n ks))):=HG3.out.up hb4;clear hb4 Q4 j0 j1 j2 HG3 HD3 B3;obtain⟨j0,j1,j2,-⟩:=QAb Q5.out;have z4:=QAE Q5.out;have HOK:Hid (QBY q (.mk k n ks) l r=QCC q k (QBJ (.mk k n ks) l) (QBJ (.mk k n ks) r)):=QCo _ _ _ _ _ _;generalize QBJ (.mk k n ks) l=bl at *;generalize QBJ (.mk k n ks) r=br at *;have HE1:Hid ((l.erase (.mk k n ks)).length≤300):=Nat.le_trans List.length_erase_le hl3;have HE2:Hid ((r.erase (.mk k n ks)).length≤300):=Nat.le_trans List.length_erase_le hr3
 rcases hq with ⟨rfl,rfl⟩|⟨rfl,rfl⟩|⟨rfl,rfl⟩
 ·rcases QAr HF.out B4 with ⟨hp0,HRA,HRZ,HKA,HKZ⟩|⟨b,off,m,ka,na,ksa,sa,ca,kz,nz,ksz,sz,cz,rfl,g0,g1,g2,u0,u1,u2,hmI,hp0,hp1,hp2,hp3,d1,d2,hpos,zb,HRA,HRZ,HKA,HKZ⟩
  all_goals go_wp2_with fail
  all_goals
   first | (obtain⟨X,hX⟩:∃ X,X=QAY w4 (.int .i64 ka) (.string na) (.slice sa ksa.length ca) (.int .i64 kz) (.string nz) (.slice sz ksz.length cz):=⟨_,rfl⟩;unfold QAY at hX;rw [← hX]) | (obtain⟨X,hX⟩:∃ X,X=QAY w4 (.int .i64 0) (.string ⟨#[]⟩) (.slice none 0 0) (.int .i64 0) (.string ⟨#[]⟩) (.slice none 0 0):=⟨_,rfl⟩;unfold QAY at hX;rw [← hX])
   obtain⟨a0,a1,a2,z0,z1,z2,f2,fa,fz,BX,HBA,HBZ,HBF,HLx,HRx,HGx,HDx,HRAx,HRZx,HRFx,HOx,HKA,HKZ⟩:=QBG hX B4 Q5 HF HRA HRZ HL HR HG4 HD4 HKA HKZ
   have HPL:Hid (QAl i .andL (.mk k n ks) l r=[(((l.erase (.mk k n ks))++[fa,fz]),r)]):=by
    show _=_;unfold QAl
    first|rfl | (rw [HKA.out,HKZ.out];first|done|rfl) | (rw [HKA.out];first|done|rfl) | (rw [HKZ.out];first|done|rfl)
   (refine QAT (by kernel_rfl) [kEq (.func (.func 150) #[] #[]),kEq (.slice adg (l.erase (.mk k n ks)).length cpg),kEq (.agg #[a0,a1,a2]),kEq (.agg #[z0,z1,z2]),kFL [fa,fz],kFL ((l.erase (.mk k n ks))++[fa,fz]),kEq (.slice adr r.length cpr),kSQ (((l.erase (.mk k n ks))++[fa,fz]),r),QBR [(((l.erase (.mk k n ks))++[fa,fz]),r)],kEq (.pointer (some ⟨w.heap.size,0,none⟩)),kEq (.int .i64 k),kEq (.bool (k == 5)),kEq (.bool (k == 5)),kGd (k == 5) (.bool bl),kEq (.bool ((k == 5) && bl)),QBR [(((l.erase (.mk k n ks))++[fa,fz]),r)],kEq (.bool true),kEq (.bool ((k == 5) && bl))] ?_ (by kernel_rfl) (by kernel_rfl) 349 rfl (by kernel_rfl) ?_ ?_)
   ·intro p hp
    simp only [List.mem_cons,List.not_mem_nil,or_false] at hp
    rcases hp with rfl|rfl|rfl|rfl|rfl|rfl|rfl|rfl|rfl|rfl|rfl|rfl|rfl|rfl|rfl|rfl|rfl|rfl
    all_goals first|exact QAe _|exact QBC _|exact QBE _|exact QAq _|exact QBD _ _
   ·refine⟨?_,?_,?_,?_,?_,?_,?_,?_,?_,?_,?_,?_,?_,?_,?_,?_,?_,?_,trivial⟩
    ·intro a wx hB hold hdep K hK;have t19:a.tmps[19]? = some (.func (.func 150) #[] #[]):=hold.2.2 19 rfl;clear hold hdep;go_simp;exact hK.out _ _ rfl (Below.refl _ _)
    ·intro a wx hB hold hdep K hK;have t13:a.tmps[13]? = some (.slice adg (l.erase (.mk k n ks)).length cpg):=hold.2.2 13 rfl;clear hold hdep;go_simp;exact hK.out _ _ rfl (Below.refl _ _)
    ·intro a wx hB hold hdep K hK;have t17:a.tmps[17]? = some (.pointer (some ⟨w4.heap.size,0,none⟩)):=hold.2.2 17 rfl;obtain⟨k0,k1,k2',-⟩:=QAb (QAA hB HBA.out);clear hold hdep;go_simp;exact hK.out _ _ rfl (Below.refl _ _)
    ·intro a wx hB hold hdep K hK;have t18:a.tmps[18]? = some (.pointer (some ⟨w4.heap.size+1,0,none⟩)):=hold.2.2 18 rfl;obtain⟨k0,k1,k2',-⟩:=QAb (QAA hB HBZ.out);clear hold hdep;go_simp;exact hK.out _ _ rfl (Below.refl _ _)
    ·intro a wx hB hold hdep K hK;have t82:=QAF wx (hdep 2 rfl _ 82 rfl rfl);have t83:=QAF wx (hdep 3 rfl _ 83 rfl rfl);clear hold hdep;go_simp;exact hK.out _ _ (QAk (FL.duo (QAH wx _) ((HRAx.out.up hB).more _) ((HRZx.out.up hB).more _))) (QAB (Below.refl _ wx) _)
    ·intro a wx hB hold hdep K hK;have t81:=QAF wx (hdep 1 rfl _ 81 rfl rfl);obtain⟨v84,t84,p84⟩:=hdep 4 rfl _ 84 rfl rfl;obtain⟨ad84,m84,cp84,e84,f84⟩:=p84;subst e84;have H84:Hid (FL wx _ [fa,fz]):=f84;clear f84;clear hold hdep;go_simp;(refine (QAv (l.erase (.mk k n ks)) [fa,fz] (by have:=HE1.out;have:=HE2.out;first|omega|simp) (by simp) _ _ wx (HGx.out.up hB) H84.out).mono ?_);rintro e w1 ⟨x,rfl,hf,hb⟩;exact hK.out _ _ (QAk hf) hb
    ·intro a wx hB hold hdep K hK;have t12:a.tmps[12]? = some (.slice adr r.length cpr):=hold.2.2 12 rfl;clear hold hdep;go_simp;exact hK.out _ _ rfl (Below.refl _ _)
    ·intro a wx hB hold hdep K hK;have t80:=QAF wx (hdep 0 rfl _ 80 rfl rfl);obtain⟨v85,t85,p85⟩:=hdep 5 rfl _ 85 rfl rfl;obtain⟨ad85,m85,cp85,e85,f85⟩:=p85;subst e85;have H85:Hid (FL wx _ ((l.erase (.mk k n ks))++[fa,fz])):=f85;clear f85;have t86:=QAF wx (hdep 6 rfl _ 86 rfl rfl);clear hold hdep;go_simp;refine (QAg _ _ _ _ _ _ wx).mono ?_;rintro e w1 ⟨rfl,hb⟩;exact hK.out _ _ ⟨_,_,_,_,_,_,rfl,((H85.out).up hb),((HRx.out.up hB).up hb)⟩ hb
    ·intro a wx hB hold hdep K hK;obtain⟨v87,t87,p87⟩:=hdep 7 rfl _ 87 rfl rfl;obtain⟨a87,m87,b87,c87,n87,d87,e87,f87,g87⟩:=p87;subst e87;have H87:Hid (FL wx _ ((l.erase (.mk k n ks))++[fa,fz])):=f87;have J87:Hid (FL wx _ r):=g87;clear f87 g87;clear hold hdep;go_simp;exact hK.out _ _ (SQs.one (QAH wx _) (H87.out.up (QAB (Below.refl _ wx) _)) (J87.out.up (QAB (Below.refl _ wx) _))) (QAB (Below.refl _ wx) _)
    ·intro a wx hB hold hdep K hK;have t5:a.tmps[5]? = some (.pointer (some ⟨w.heap.size,0,none⟩)):=hold.2.2 5 rfl;clear hold hdep;go_simp;exact hK.out _ _ rfl (Below.refl _ _)
    ·intro a wx hB hold hdep K hK;have t89:=QAF wx (hdep 9 rfl _ 89 rfl rfl);obtain⟨k0,k1,k2',-⟩:=QAb (QAA hB HBF.out);clear hold hdep;go_simp;exact hK.out _ _ rfl (Below.refl _ _)
    ·intro a wx hB hold hdep K hK;have t90:=QAF wx (hdep 10 rfl _ 90 rfl rfl);clear hold hdep;go_simp;exact hK.out _ _ rfl (Below.refl _ _)
    ·intro a wx hB hold hdep K hK;have t91:=QAF wx (hdep 11 rfl _ 91 rfl rfl);clear hold hdep;go_simp;exact hK.out _ _ rfl (Below.refl _ _)
    ·intro a wx hB hold hdep K hK;obtain⟨v92,t92,p92⟩:=hdep 12 rfl _ 92 rfl rfl;have e92:v92=(.bool (k == 5)):=p92;subst e92;have t15:a.tmps[15]? = some (.bool bl):=hold.2.2 15 rfl;clear hold hdep;cases hq:(k == 5)
     ·rw [hq] at t92
      go_simp;(exact hK.out _ _ (fun h=>by rw [hq] at h;cases h) (Below.refl _ _))
     ·rw [hq] at t92
      go_simp;(exact hK.out _ _ (fun _=>rfl) (Below.refl _ _))
    ·intro a wx hB hold hdep K hK;have t92:=QAF wx (hdep 12 rfl _ 92 rfl rfl);obtain⟨v93,t93,p93⟩:=hdep 13 rfl _ 93 rfl rfl;have P93:Hid (kGd (k == 5) (.bool bl) v93 wx):=p93;clear hold hdep p93;cases hq:(k == 5)
     ·rw [hq] at t92
      go_simp;(exact hK.out _ _ (by rw [hq];rfl) (Below.refl _ _))
     ·rw [hq] at t92
      have e93:v93=(.bool bl):=P93.out hq;subst e93;go_simp;(exact hK.out _ _ (by rw [hq];rfl) (Below.refl _ _))
    ·intro a wx hB hold hdep K hK;obtain⟨v88,t88,p88⟩:=hdep 8 rfl _ 88 rfl rfl;have P88:Hid (QBR [(((l.erase (.mk k n ks))++[fa,fz]),r)] v88 wx):=p88;clear p88 hold hdep;go_simp;exact hK.out _ _ P88.out (Below.refl _ _)
    ·intro a wx hB hold hdep K hK;clear hold hdep;go_simp;exact hK.out _ _ rfl (Below.refl _ _)
    ·intro a wx hB hold hdep K hK;have t94:=QAF wx (hdep 14 rfl _ 94 rfl rfl);clear hold hdep;go_simp;exact hK.out _ _ rfl (Below.refl _ _)
   ·intro a wx hB hold hgot
    (obtain⟨v8,t8,p8⟩:=hgot 15 _ 8 rfl rfl;have P8:Hid (SQs wx v8 [(((l.erase (.mk k n ks))++[fa,fz]),r)]):=p8;obtain⟨v9,t9,p9⟩:=hgot 16 _ 9 rfl rfl;have e9:v9=(.bool true):=p9;subst e9;obtain⟨v10,t10,p10⟩:=hgot 17 _ 10 rfl rfl;have e10:v10=(.bool ((k == 5) && bl)):=p10;subst e10;have hD:a.defers=[]:=hold.2.1;clear hold hgot p8 p9 p10;go_wp2_with fail;(exact bodyPost_ret (v := .tuple #[v8,(.bool true),(.bool ((k == 5) && bl))]) (by simp [results,Tryz.results104,go_sem,t8,t9,t10]) hD ⟨_,by rw [HOK.out];rfl,by rw [HPL.out];exact P8.out,QAC (QAC B4 BX.out) hB⟩))
 ·rcases QAr HF.out B4 with ⟨hp0,HRA,HRZ,HKA,HKZ⟩|⟨b,off,m,ka,na,ksa,sa,ca,kz,nz,ksz,sz,cz,rfl,g0,g1,g2,u0,u1,u2,hmI,hp0,hp1,hp2,hp3,d1,d2,hpos,zb,HRA,HRZ,HKA,HKZ⟩
  all_goals go_wp2_with fail
  all_goals
   first | (obtain⟨X,hX⟩:∃ X,X=QAY w4 (.int .i64 ka) (.string na) (.slice sa ksa.length ca) (.int .i64 kz) (.string nz) (.slice sz ksz.length cz):=⟨_,rfl⟩;unfold QAY at hX;rw [← hX]) | (obtain⟨X,hX⟩:∃ X,X=QAY w4 (.int .i64 0) (.string ⟨#[]⟩) (.slice none 0 0) (.int .i64 0) (.string ⟨#[]⟩) (.slice none 0 0):=⟨_,rfl⟩;unfold QAY at hX;rw [← hX])
   obtain⟨a0,a1,a2,z0,z1,z2,f2,fa,fz,BX,HBA,HBZ,HBF,HLx,HRx,HGx,HDx,HRAx,HRZx,HRFx,HOx,HKA,HKZ⟩:=QBG hX B4 Q5 HF HRA HRZ HL HR HG4 HD4 HKA HKZ
   have HPL:Hid (QAl i .andR (.mk k n ks) l r=[(l,((r.erase (.mk k n ks))++[fa])),(l,((r.erase (.mk k n ks))++[fz]))]):=by
    show _=_;unfold QAl
    first|rfl | (rw [HKA.out,HKZ.out];first|done|rfl) | (rw [HKA.out];first|done|rfl) | (rw [HKZ.out];first|done|rfl)
   (refine QAT (by kernel_rfl) [kEq (.func (.func 150) #[] #[]),kEq (.slice adl l.length cpl),kEq (.slice add (r.erase (.mk k n ks)).length cpd),kEq (.agg #[a0,a1,a2]),kFL [fa],kFL ((r.erase (.mk k n ks))++[fa]),kSQ (l,((r.erase (.mk k n ks))++[fa])),kEq (.func (.func 150) #[] #[]),kEq (.slice adl l.length cpl),kEq (.slice add (r.erase (.mk k n ks)).length cpd),kEq (.agg #[z0,z1,z2]),kFL [fz],kFL ((r.erase (.mk k n ks))++[fz]),kSQ (l,((r.erase (.mk k n ks))++[fz])),QBR [(l,((r.erase (.mk k n ks))++[fa])),(l,((r.erase (.mk k n ks))++[fz]))],kEq (.pointer (some ⟨w.heap.size,0,none⟩)),kEq (.int .i64 k),kEq (.bool (k == 5)),kEq (.bool (k == 5)),kGd (k == 5) (.bool br),kEq (.bool ((k == 5) && br)),QBR [(l,((r.erase (.mk k n ks))++[fa])),(l,((r.erase (.mk k n ks))++[fz]))],kEq (.bool true),kEq (.bool ((k == 5) && br))] ?_ (by kernel_rfl) (by kernel_rfl) 349 rfl (by kernel_rfl) ?_ ?_)
   ·intro p hp
    simp only [List.mem_cons,List.not_mem_nil,or_false] at hp
    rcases hp with rfl|rfl|rfl|rfl|rfl|rfl|rfl|rfl|rfl|rfl|rfl|rfl|rfl|rfl|rfl|rfl|rfl|rfl|rfl|rfl|rfl|rfl|rfl|rfl
    all_goals first|exact QAe _|exact QBC _|exact QBE _|exact QAq _|exact QBD _ _
   ·refine⟨?_,?_,?_,?_,?_,?_,?_,?_,?_,?_,?_,?_,?_,?_,?_,?_,?_,?_,?_,?_,?_,?_,?_,?_,trivial⟩
    ·intro a wx hB hold hdep K hK;have t19:a.tmps[19]? = some (.func (.func 150) #[] #[]):=hold.2.2 19 rfl;clear hold hdep;go_simp;exact hK.out _ _ rfl (Below.refl _ _)
    ·intro a wx hB hold hdep K hK;have t11:a.tmps[11]? = some (.slice adl l.length cpl):=hold.2.2 11 rfl;clear hold hdep;go_simp;exact hK.out _ _ rfl (Below.refl _ _)
    ·intro a wx hB hold hdep K hK;have t14:a.tmps[14]? = some (.slice add (r.erase (.mk k n ks)).length cpd):=hold.2.2 14 rfl;clear hold hdep;go_simp;exact hK.out _ _ rfl (Below.refl _ _)
    ·intro a wx hB hold hdep K hK;have t17:a.tmps[17]? = some (.pointer (some ⟨w4.heap.size,0,none⟩)):=hold.2.2 17 rfl;obtain⟨k0,k1,k2',-⟩:=QAb (QAA hB HBA.out);clear hold hdep;go_simp;exact hK.out _ _ rfl (Below.refl _ _)
    ·intro a wx hB hold hdep K hK;have t100:=QAF wx (hdep 3 rfl _ 100 rfl rfl);clear hold hdep;go_simp;exact hK.out _ _ (QAk (FL.sing (QAH wx _) ((HRAx.out.up hB).more _))) (QAB (Below.refl _ wx) _)
    ·intro a wx hB hold hdep K hK;have t99:=QAF wx (hdep 2 rfl _ 99 rfl rfl);obtain⟨v101,t101,p101⟩:=hdep 4 rfl _ 101 rfl rfl;obtain⟨ad101,m101,cp101,e101,f101⟩:=p101;subst e101;have H101:Hid (FL wx _ [fa]):=f101;clear f101;clear hold hdep;go_simp;(refine (QAv (r.erase (.mk k n ks)) [fa] (by have:=HE1.out;have:=HE2.out;first|omega|simp) (by simp) _ _ wx (HDx.out.up hB) H101.out).mono ?_);rintro e w1 ⟨x,rfl,hf,hb⟩;exact hK.out _ _ (QAk hf) hb
    ·intro a wx hB hold hdep K hK;have t97:=QAF wx (hdep 0 rfl _ 97 rfl rfl);have t98:=QAF wx (hdep 1 rfl _ 98 rfl rfl);obtain⟨v102,t102,p102⟩:=hdep 5 rfl _ 102 rfl rfl;obtain⟨ad102,m102,cp102,e102,f102⟩:=p102;subst e102;have H102:Hid (FL wx _ ((r.erase (.mk k n ks))++[fa])):=f102;clear f102;clear hold hdep;go_simp;refine (QAg _ _ _ _ _ _ wx).mono ?_;rintro e w1 ⟨rfl,hb⟩;exact hK.out _ _ ⟨_,_,_,_,_,_,rfl,((HLx.out.up hB).up hb),((H102.out).up hb)⟩ hb
    ·intro a wx hB hold hdep K hK;have t19:a.tmps[19]? = some (.func (.func 150) #[] #[]):=hold.2.2 19 rfl;clear hold hdep;go_simp;exact hK.out _ _ rfl (Below.refl _ _)
    ·intro a wx hB hold hdep K hK;have t11:a.tmps[11]? = some (.slice adl l.length cpl):=hold.2.2 11 rfl;clear hold hdep;go_simp;exact hK.out _ _ rfl (Below.refl _ _)
    ·intro a wx hB hold hdep K hK;have t14:a.tmps[14]? = some (.slice add (r.erase (.mk k n ks)).length cpd):=hold.2.2 14 rfl;clear hold hdep;go_simp;exact hK.out _ _ rfl (Below.refl _ _)
    ·intro a wx hB hold hdep K hK;have t18:a.tmps[18]? = some (.pointer (some ⟨w4.heap.size+1,0,none⟩)):=hold.2.2 18 rfl;obtain⟨k0,k1,k2',-⟩:=QAb (QAA hB HBZ.out);clear hold hdep;go_simp;exact hK.out _ _ rfl (Below.refl _ _)
    ·intro a wx hB hold hdep K hK;have t107:=QAF wx (hdep 10 rfl _ 107 rfl rfl);clear hold hdep;go_simp;exact hK.out _ _ (QAk (FL.sing (QAH wx _) ((HRZx.out.up hB).more _))) (QAB (Below.refl _ wx) _)
    ·intro a wx hB hold hdep K hK;have t106:=QAF wx (hdep 9 rfl _ 106 rfl rfl);obtain⟨v108,t108,p108⟩:=hdep 11 rfl _ 108 rfl rfl;obtain⟨ad108,m108,cp108,e108,f108⟩:=p108;subst e108;have H108:Hid (FL wx _ [fz]):=f108;clear f108;clear hold hdep;go_simp;(refine (QAv (r.erase (.mk k n ks)) [fz] (by have:=HE1.out;have:=HE2.out;first|omega|simp) (by simp) _ _ wx (HDx.out.up hB) H108.out).mono ?_);rintro e w1 ⟨x,rfl,hf,hb⟩;exact hK.out _ _ (QAk hf) hb
    ·intro a wx hB hold hdep K hK;have t104:=QAF wx (hdep 7 rfl _ 104 rfl rfl);have t105:=QAF wx (hdep 8 rfl _ 105 rfl rfl);obtain⟨v109,t109,p109⟩:=hdep 12 rfl _ 109 rfl rfl;obtain⟨ad109,m109,cp109,e109,f109⟩:=p109;subst e109;have H109:Hid (FL wx _ ((r.erase (.mk k n ks))++[fz])):=f109;clear f109;clear hold hdep;go_simp;refine (QAg _ _ _ _ _ _ wx).mono ?_;rintro e w1 ⟨rfl,hb⟩;exact hK.out _ _ ⟨_,_,_,_,_,_,rfl,((HLx.out.up hB).up hb),((H109.out).up hb)⟩ hb
    ·intro a wx hB hold hdep K hK;obtain⟨v103,t103,p103⟩:=hdep 6 rfl _ 103 rfl rfl;obtain⟨a103,m103,b103,c103,n103,d103,e103,f103,g103⟩:=p103;subst e103;have H103:Hid (FL wx _ l):=f103;have J103:Hid (FL wx _ ((r.erase (.mk k n ks))++[fa])):=g103;clear f103 g103;obtain⟨v110,t110,p110⟩:=hdep 13 rfl _ 110 rfl rfl;obtain⟨a110,m110,b110,c110,n110,d110,e110,f110,g110⟩:=p110;subst e110;have H110:Hid (FL wx _ l):=f110;have J110:Hid (FL wx _ ((r.erase (.mk k n ks))++[fz])):=g110;clear f110 g110;clear hold hdep;go_simp;exact hK.out _ _ (SQs.two (QAH wx _) (H103.out.up (QAB (Below.refl _ wx) _)) (J103.out.up (QAB (Below.refl _ wx) _)) (H110.out.up (QAB (Below.refl _ wx) _)) (J110.out.up (QAB (Below.refl _ wx) _))) (QAB (Below.refl _ wx) _)
    ·intro a wx hB hold hdep K hK;have t5:a.tmps[5]? = some (.pointer (some ⟨w.heap.size,0,none⟩)):=hold.2.2 5 rfl;clear hold hdep;go_simp;exact hK.out _ _ rfl (Below.refl _ _)
    ·intro a wx hB hold hdep K hK;have t112:=QAF wx (hdep 15 rfl _ 112 rfl rfl);obtain⟨k0,k1,k2',-⟩:=QAb (QAA hB HBF.out);clear hold hdep;go_simp;exact hK.out _ _ rfl (Below.refl _ _)
    ·intro a wx hB hold hdep K hK;have t113:=QAF wx (hdep 16 rfl _ 113 rfl rfl);clear hold hdep;go_simp;exact hK.out _ _ rfl (Below.refl _ _)
    ·intro a wx hB hold hdep K hK;have t114:=QAF wx (hdep 17 rfl _ 114 rfl rfl);clear hold hdep;go_simp;exact hK.out _ _ rfl (Below.refl _ _)
    ·intro a wx hB hold hdep K hK;obtain⟨v115,t115,p115⟩:=hdep 18 rfl _ 115 rfl rfl;have e115:v115=(.bool (k == 5)):=p115;subst e115;have t16:a.tmps[16]? = some (.bool br):=hold.2.2 16 rfl;clear hold hdep;cases hq:(k == 5)
     ·rw [hq] at t115
      go_simp;(exact hK.out _ _ (fun h=>by rw [hq] at h;cases h) (Below.refl _ _))
     ·rw [hq] at t115
      go_simp;(exact hK.out _ _ (fun _=>rfl) (Below.refl _ _))
    ·intro a wx hB hold hdep K hK;have t115:=QAF wx (hdep 18 rfl _ 115 rfl rfl);obtain⟨v116,t116,p116⟩:=hdep 19 rfl _ 116 rfl rfl;have P116:Hid (kGd (k == 5) (.bool br) v116 wx):=p116;clear hold hdep p116;cases hq:(k == 5)
     ·rw [hq] at t115
      go_simp;(exact hK.out _ _ (by rw [hq];rfl) (Below.refl _ _))
     ·rw [hq] at t115
      have e116:v116=(.bool br):=P116.out hq;subst e116;go_simp;(exact hK.out _ _ (by rw [hq];rfl) (Below.refl _ _))
    ·intro a wx hB hold hdep K hK;obtain⟨v111,t111,p111⟩:=hdep 14 rfl _ 111 rfl rfl;have P111:Hid (QBR [(l,((r.erase (.mk k n ks))++[fa])),(l,((r.erase (.mk k n ks))++[fz]))] v111 wx):=p111;clear p111 hold hdep;go_simp;exact hK.out _ _ P111.out (Below.refl _ _)
    ·intro a wx hB hold hdep K hK;clear hold hdep;go_simp;exact hK.out _ _ rfl (Below.refl _ _)
    ·intro a wx hB hold hdep K hK;have t117:=QAF wx (hdep 20 rfl _ 117 rfl rfl);clear hold hdep;go_simp;exact hK.out _ _ rfl (Below.refl _ _)
   ·intro a wx hB hold hgot
    (obtain⟨v8,t8,p8⟩:=hgot 21 _ 8 rfl rfl;have P8:Hid (SQs wx v8 [(l,((r.erase (.mk k n ks))++[fa])),(l,((r.erase (.mk k n ks))++[fz]))]):=p8;obtain⟨v9,t9,p9⟩:=hgot 22 _ 9 rfl rfl;have e9:v9=(.bool true):=p9;subst e9;obtain⟨v10,t10,p10⟩:=hgot 23 _ 10 rfl rfl;have e10:v10=(.bool ((k == 5) && br)):=p10;subst e10;have hD:a.defers=[]:=hold.2.1;clear hold hgot p8 p9 p10;go_wp2_with fail;(exact bodyPost_ret (v := .tuple #[v8,(.bool true),(.bool ((k == 5) && br))]) (by simp [results,Tryz.results104,go_sem,t8,t9,t10]) hD ⟨_,by rw [HOK.out];rfl,by rw [HPL.out];exact P8.out,QAC (QAC B4 BX.out) hB⟩))
 ·rcases QAr HF.out B4 with ⟨hp0,HRA,HRZ,HKA,HKZ⟩|⟨b,off,m,ka,na,ksa,sa,ca,kz,nz,ksz,sz,cz,rfl,g0,g1,g2,u0,u1,u2,hmI,hp0,hp1,hp2,hp3,d1,d2,hpos,zb,HRA,HRZ,HKA,HKZ⟩
  all_goals go_wp2_with fail
  all_goals
   first | (obtain⟨X,hX⟩:∃ X,X=QAY w4 (.int .i64 ka) (.string na) (.slice sa ksa.length ca) (.int .i64 kz) (.string nz) (.slice sz ksz.length cz):=⟨_,rfl⟩;unfold QAY at hX;rw [← hX]) | (obtain⟨X,hX⟩:∃ X,X=QAY w4 (.int .i64 0) (.string ⟨#[]⟩) (.slice none 0 0) (.int .i64 0) (.string ⟨#[]⟩) (.slice none 0 0):=⟨_,rfl⟩;unfold QAY at hX;rw [← hX])
   obtain⟨a0,a1,a2,z0,z1,z2,f2,fa,fz,BX,HBA,HBZ,HBF,HLx,HRx,HGx,HDx,HRAx,HRZx,HRFx,HOx,HKA,HKZ⟩:=QBG hX B4 Q5 HF HRA HRZ HL HR HG4 HD4 HKA HKZ
   have HPL:Hid (QAl i .orL (.mk k n ks) l r=[(((l.erase (.mk k n ks))++[fa]),r),(((l.erase (.mk k n ks))++[fz]),r)]):=by
    show _=_;unfold QAl
    first|rfl | (rw [HKA.out,HKZ.out];first|done|rfl) | (rw [HKA.out];first|done|rfl) | (rw [HKZ.out];first|done|rfl)
   (refine QAT (by kernel_rfl) [kEq (.func (.func 150) #[] #[]),kEq (.slice adg (l.erase (.mk k n ks)).length cpg),kEq (.agg #[a0,a1,a2]),kFL [fa],kFL ((l.erase (.mk k n ks))++[fa]),kEq (.slice adr r.length cpr),kSQ (((l.erase (.mk k n ks))++[fa]),r),kEq (.func (.func 150) #[] #[]),kEq (.slice adg (l.erase (.mk k n ks)).length cpg),kEq (.agg #[z0,z1,z2]),kFL [fz],kFL ((l.erase (.mk k n ks))++[fz]),kEq (.slice adr r.length cpr),kSQ (((l.erase (.mk k n ks))++[fz]),r),QBR [(((l.erase (.mk k n ks))++[fa]),r),(((l.erase (.mk k n ks))++[fz]),r)],kEq (.pointer (some ⟨w.heap.size,0,none⟩)),kEq (.int .i64 k),kEq (.bool (k == 6)),kEq (.bool (k == 6)),kGd (k == 6) (.bool bl),kEq (.bool ((k == 6) && bl)),QBR [(((l.erase (.mk k n ks))++[fa]),r),(((l.erase (.mk k n ks))++[fz]),r)],kEq (.bool true),kEq (.bool ((k == 6) && bl))] ?_ (by kernel_rfl) (by kernel_rfl) 349 rfl (by kernel_rfl) ?_ ?_)
   ·intro p hp
    simp only [List.mem_cons,List.not_mem_nil,or_false] at hp
    rcases hp with rfl|rfl|rfl|rfl|rfl|rfl|rfl|rfl|rfl|rfl|rfl|rfl|rfl|rfl|rfl|rfl|rfl|rfl|rfl|rfl|rfl|rfl|rfl|rfl
    all_goals first|exact QAe _|exact QBC _|exact QBE _|exact QAq _|exact QBD _ _
   ·refine⟨?_,?_,?_,?_,?_,?_,?_,?_,?_,?_,?_,?_,?_,?_,?_,?_,?_,?_,?_,?_,?_,?_,?_,?_,trivial⟩
    ·intro a wx hB hold hdep K hK;have t19:a.tmps[19]? = some (.func (.func 150) #[] #[]):=hold.2.2 19 rfl;clear hold hdep;go_simp;exact hK.out _ _ rfl (Below.refl _ _)
    ·intro a wx hB hold hdep K hK;have t13:a.tmps[13]? = some (.slice adg (l.erase (.mk k n ks)).length cpg):=hold.2.2 13 rfl;clear hold hdep;go_simp;exact hK.out _ _ rfl (Below.refl _ _)
    ·intro a wx hB hold hdep K hK;have t17:a.tmps[17]? = some (.pointer (some ⟨w4.heap.size,0,none⟩)):=hold.2.2 17 rfl;obtain⟨k0,k1,k2',-⟩:=QAb (QAA hB HBA.out);clear hold hdep;go_simp;exact hK.out _ _ rfl (Below.refl _ _)
    ·intro a wx hB hold hdep K hK;have t122:=QAF wx (hdep 2 rfl _ 122 rfl rfl);clear hold hdep;go_simp;exact hK.out _ _ (QAk (FL.sing (QAH wx _) ((HRAx.out.up hB).more _))) (QAB (Below.refl _ wx) _)
    ·intro a wx hB hold hdep K hK;have t121:=QAF wx (hdep 1 rfl _ 121 rfl rfl);obtain⟨v123,t123,p123⟩:=hdep 3 rfl _ 123 rfl rfl;obtain⟨ad123,m123,cp123,e123,f123⟩:=p123;subst e123;have H123:Hid (FL wx _ [fa]):=f123;clear f123;clear hold hdep;go_simp;(refine (QAv (l.erase (.mk k n ks)) [fa] (by have:=HE1.out;have:=HE2.out;first|omega|simp) (by simp) _ _ wx (HGx.out.up hB) H123.out).mono ?_);rintro e w1 ⟨x,rfl,hf,hb⟩;exact hK.out _ _ (QAk hf) hb
    ·intro a wx hB hold hdep K hK;have t12:a.tmps[12]? = some (.slice adr r.length cpr):=hold.2.2 12 rfl;clear hold hdep;go_simp;exact hK.out _ _ rfl (Below.refl _ _)
    ·intro a wx hB hold hdep K hK;have t120:=QAF wx (hdep 0 rfl _ 120 rfl rfl);obtain⟨v124,t124,p124⟩:=hdep 4 rfl _ 124 rfl rfl;obtain⟨ad124,m124,cp124,e124,f124⟩:=p124;subst e124;have H124:Hid (FL wx _ ((l.erase (.mk k n ks))++[fa])):=f124;clear f124;have t125:=QAF wx (hdep 5 rfl _ 125 rfl rfl);clear hold hdep;go_simp;refine (QAg _ _ _ _ _ _ wx).mono ?_;rintro e w1 ⟨rfl,hb⟩;exact hK.out _ _ ⟨_,_,_,_,_,_,rfl,((H124.out).up hb),((HRx.out.up hB).up hb)⟩ hb
    ·intro a wx hB hold hdep K hK;have t19:a.tmps[19]? = some (.func (.func 150) #[] #[]):=hold.2.2 19 rfl;clear hold hdep;go_simp;exact hK.out _ _ rfl (Below.refl _ _)
    ·intro a wx hB hold hdep K hK;have t13:a.tmps[13]? = some (.slice adg (l.erase (.mk k n ks)).length cpg):=hold.2.2 13 rfl;clear hold hdep;go_simp;exact hK.out _ _ rfl (Below.refl _ _)
    ·intro a wx hB hold hdep K hK;have t18:a.tmps[18]? = some (.pointer (some ⟨w4.heap.size+1,0,none⟩)):=hold.2.2 18 rfl;obtain⟨k0,k1,k2',-⟩:=QAb (QAA hB HBZ.out);clear hold hdep;go_simp;exact hK.out _ _ rfl (Below.refl _ _)
    ·intro a wx hB hold hdep K hK;have t129:=QAF wx (hdep 9 rfl _ 129 rfl rfl);clear hold hdep;go_simp;exact hK.out _ _ (QAk (FL.sing (QAH wx _) ((HRZx.out.up hB).more _))) (QAB (Below.refl _ wx) _)
    ·intro a wx hB hold hdep K hK;have t128:=QAF wx (hdep 8 rfl _ 128 rfl rfl);obtain⟨v130,t130,p130⟩:=hdep 10 rfl _ 130 rfl rfl;obtain⟨ad130,m130,cp130,e130,f130⟩:=p130;subst e130;have H130:Hid (FL wx _ [fz]):=f130;clear f130;clear hold hdep;go_simp;(refine (QAv (l.erase (.mk k n ks)) [fz] (by have:=HE1.out;have:=HE2.out;first|omega|simp) (by simp) _ _ wx (HGx.out.up hB) H130.out).mono ?_);rintro e w1 ⟨x,rfl,hf,hb⟩;exact hK.out _ _ (QAk hf) hb
    ·intro a wx hB hold hdep K hK;have t12:a.tmps[12]? = some (.slice adr r.length cpr):=hold.2.2 12 rfl;clear hold hdep;go_simp;exact hK.out _ _ rfl (Below.refl _ _)
    ·intro a wx hB hold hdep K hK;have t127:=QAF wx (hdep 7 rfl _ 127 rfl rfl);obtain⟨v131,t131,p131⟩:=hdep 11 rfl _ 131 rfl rfl;obtain⟨ad131,m131,cp131,e131,f131⟩:=p131;subst e131;have H131:Hid (FL wx _ ((l.erase (.mk k n ks))++[fz])):=f131;clear f131;have t132:=QAF wx (hdep 12 rfl _ 132 rfl rfl);clear hold hdep;go_simp;refine (QAg _ _ _ _ _ _ wx).mono ?_;rintro e w1 ⟨rfl,hb⟩;exact hK.out _ _ ⟨_,_,_,_,_,_,rfl,((H131.out).up hb),((HRx.out.up hB).up hb)⟩ hb
    ·intro a wx hB hold hdep K hK;obtain⟨v126,t126,p126⟩:=hdep 6 rfl _ 126 rfl rfl;obtain⟨a126,m126,b126,c126,n126,d126,e126,f126,g126⟩:=p126;subst e126;have H126:Hid (FL wx _ ((l.erase (.mk k n ks))++[fa])):=f126;have J126:Hid (FL wx _ r):=g126;clear f126 g126;obtain⟨v133,t133,p133⟩:=hdep 13 rfl _ 133 rfl rfl;obtain⟨a133,m133,b133,c133,n133,d133,e133,f133,g133⟩:=p133;subst e133;have H133:Hid (FL wx _ ((l.erase (.mk k n ks))++[fz])):=f133;have J133:Hid (FL wx _ r):=g133;clear f133 g133;clear hold hdep;go_simp;exact hK.out _ _ (SQs.two (QAH wx _) (H126.out.up (QAB (Below.refl _ wx) _)) (J126.out.up (QAB (Below.refl _ wx) _)) (H133.out.up (QAB (Below.refl _ wx) _)) (J133.out.up (QAB (Below.refl _ wx) _))) (QAB (Below.refl _ wx) _)
    ·intro a wx hB hold hdep K hK;have t5:a.tmps[5]? = some (.pointer (some ⟨w.heap.size,0,none⟩)):=hold.2.2 5 rfl;clear hold hdep;go_simp;exact hK.out _ _ rfl (Below.refl _ _)
    ·intro a wx hB hold hdep K hK;have t135:=QAF wx (hdep 15 rfl _ 135 rfl rfl);obtain⟨k0,k1,k2',-⟩:=QAb (QAA hB HBF.out);clear hold hdep;go_simp;exact hK.out _ _ rfl (Below.refl _ _)
    ·intro a wx hB hold hdep K hK;have t136:=QAF wx (hdep 16 rfl _ 136 rfl rfl);clear hold hdep;go_simp;exact hK.out _ _ rfl (Below.refl _ _)
    ·intro a wx hB hold hdep K hK;have t137:=QAF wx (hdep 17 rfl _ 137 rfl rfl);clear hold hdep;go_simp;exact hK.out _ _ rfl (Below.refl _ _)
    ·intro a wx hB hold hdep K hK;obtain⟨v138,t138,p138⟩:=hdep 18 rfl _ 138 rfl rfl;have e138:v138=(.bool (k == 6)):=p138;subst e138;have t15:a.tmps[15]? = some (.bool bl):=hold.2.2 15 rfl;clear hold hdep;cases hq:(k == 6)
     ·rw [hq] at t138
      go_simp;(exact hK.out _ _ (fun h=>by rw [hq] at h;cases h) (Below.refl _ _))
     ·rw [hq] at t138
      go_simp;(exact hK.out _ _ (fun _=>rfl) (Below.refl _ _))
    ·intro a wx hB hold hdep K hK;have t138:=QAF wx (hdep 18 rfl _ 138 rfl rfl);obtain⟨v139,t139,p139⟩:=hdep 19 rfl _ 139 rfl rfl;have P139:Hid (kGd (k == 6) (.bool bl) v139 wx):=p139;clear hold hdep p139;cases hq:(k == 6)
     ·rw [hq] at t138
      go_simp;(exact hK.out _ _ (by rw [hq];rfl) (Below.refl _ _))
     ·rw [hq] at t138
      have e139:v139=(.bool bl):=P139.out hq;subst e139;go_simp;(exact hK.out _ _ (by rw [hq];rfl) (Below.refl _ _))
    ·intro a wx hB hold hdep K hK;obtain⟨v134,t134,p134⟩:=hdep 14 rfl _ 134 rfl rfl;have P134:Hid (QBR [(((l.erase (.mk k n ks))++[fa]),r),(((l.erase (.mk k n ks))++[fz]),r)] v134 wx):=p134;clear p134 hold hdep;go_simp;exact hK.out _ _ P134.out (Below.refl _ _)
    ·intro a wx hB hold hdep K hK;clear hold hdep;go_simp;exact hK.out _ _ rfl (Below.refl _ _)
    ·intro a wx hB hold hdep K hK;have t140:=QAF wx (hdep 20 rfl _ 140 rfl rfl);clear hold hdep;go_simp;exact hK.out _ _ rfl (Below.refl _ _)
   ·intro a wx hB hold hgot
    (obtain⟨v8,t8,p8⟩:=hgot 21 _ 8 rfl rfl;have P8:Hid (SQs wx v8 [(((l.erase (.mk k n ks))++[fa]),r),(((l.erase (.mk k n ks))++[fz]),r)]):=p8;obtain⟨v9,t9,p9⟩:=hgot 22 _ 9 rfl rfl;have e9:v9=(.bool true):=p9;subst e9;obtain⟨v10,t10,p10⟩:=hgot 23 _ 10 rfl rfl;have e10:v10=(.bool ((k == 6) && bl)):=p10;subst e10;have hD:a.defers=[]:=hold.2.1;clear hold hgot p8 p9 p10;go_wp2_with fail;(exact bodyPost_ret (v := .tuple #[v8,(.bool true),(.bool ((k == 6) && bl))]) (by simp [results,Tryz.results104,go_sem,t8,t9,t10]) hD ⟨_,by rw [HOK.out];rfl,by rw [HPL.out];exact P8.out,QAC (QAC B4 BX.out) hB⟩))
def QCr (s:List Nat × List Nat) (i:Nat):List Nat × List Nat:=if s.1.getD i 0=0 then (s.1.set i 1,s.2++[i]) else s
def inF (wh items:List Nat):List Nat × List Nat:=items.foldl QCr (wh,[])
def QCS (wh fr:List Nat):List Nat:=fr.foldl (fun u i=>u.set i 0) wh
theorem QBy (l:List Nat) (i j v:Nat) (hi:i < l.length):(l.set i v).getD j 0=if j=i then v else l.getD j 0:=by
 rw [List.getD_eq_getElem?_getD,List.getD_eq_getElem?_getD,List.getElem?_set];by_cases h:i=j
 ·subst h;simp [hi]
 ·rw [if_neg h,if_neg (fun e=>h e.symm)]
structure QHi (wh items:List Nat) (s:List Nat × List Nat):Prop where
 len:s.1.length=wh.length
 get:∀ j,s.1.getD j 0=if j∈s.2 then 1 else wh.getD j 0
 fresh:∀ j∈s.2,wh.getD j 0=0∧j∈items
 nodup:s.2.Nodup
 all:∀ j∈items,s.1.getD j 0≠0
theorem QJe {wh items:List Nat} {s:List Nat × List Nat} (h:QHi wh items s) {i:Nat} (hi:i < wh.length):QHi wh (items++[i]) (QCr s i):=by
 unfold QCr;by_cases h0:s.1.getD i 0=0
 ·rw [if_pos h0]
  have hn:i ∉ s.2:=fun hm=>by
   have:=h.get i;rw [if_pos hm] at this;omega
  have hw:wh.getD i 0=0:=by
   have:=h.get i;rw [if_neg hn] at this;omega
  (refine⟨by simp [h.len],fun j => ?_,fun j hj => ?_,?_,fun j hj => ?_⟩)
  ·show (s.1.set i 1).getD j 0=if j∈s.2++[i] then 1 else wh.getD j 0
   (rw [QBy _ _ _ _ (by rw [h.len];exact hi),h.get j]);by_cases e:j=i
   ·simp [e]
   ·simp [e]
  ·rcases List.mem_append.1 hj with hj|hj
   ·exact⟨(h.fresh j hj).1,List.mem_append_left _ (h.fresh j hj).2⟩
   ·rw [List.mem_singleton.1 hj];exact⟨hw,by simp⟩
  ·show (s.2++[i]).Nodup
   rw [List.nodup_append];(exact⟨h.nodup,by simp,fun a ha b hb e=>hn (by rw [← List.mem_singleton.1 hb,← e];exact ha)⟩)
  ·show (s.1.set i 1).getD j 0≠0
   (rw [QBy _ _ _ _ (by rw [h.len];exact hi)]);by_cases e:j=i
   ·simp [e]
   ·rw [if_neg e]
    rcases List.mem_append.1 hj with hj|hj
    ·exact h.all j hj
    ·exact absurd (List.mem_singleton.1 hj) e
 ·rw [if_neg h0]
  (refine⟨h.len,h.get,fun j hj=>⟨(h.fresh j hj).1,List.mem_append_left _ (h.fresh j hj).2⟩,h.nodup,fun j hj => ?_⟩)
  rcases List.mem_append.1 hj with hj|hj
  ·exact h.all j hj
  ·rw [List.mem_singleton.1 hj];exact h0
theorem QIE (wh items:List Nat) (i:Nat):inF wh (items++[i])=QCr (inF wh items) i:=by
 unfold inF;rw [List.foldl_append];rfl
theorem QEp (wh:List Nat):∀ (n:Nat) (items:List Nat),items.length=n→(∀ i∈items,i < wh.length)→QHi wh items (inF wh items)
 | 0,items,hl,_=>by
  have:items=[]:=List.length_eq_zero_iff.1 hl;subst this
  exact⟨rfl,fun j=>by simp [inF],fun j hj=>by simp [inF] at hj,by simp [inF],fun j hj=>by cases hj⟩
 | n+1,items,hl,hb=>by
  (have hne:items≠[]:=fun e=>by rw [e] at hl;simp at hl);have he:=(List.dropLast_concat_getLast hne).symm;rw [he] at hb ⊢;rw [QIE];(refine QJe (QEp wh n items.dropLast (by simp;omega) fun i hi=>hb i (List.mem_append_left _ hi)) (hb _ (by simp)))
theorem QKi (wh fr:List Nat) (hf:∀ i∈fr,i < wh.length) (j:Nat):(QCS wh fr).getD j 0=if j∈fr then 0 else wh.getD j 0:=by
 induction fr generalizing wh with
 | nil=>simp [QCS]
 | cons x fr ih =>
  (have hx:=hf x (by simp));(rw [show QCS wh (x :: fr)=QCS (wh.set x 0) fr from rfl,ih (wh.set x 0) fun i hi=>by simp;exact hf i (by simp [hi]),QBy _ _ _ _ hx]);by_cases e:j=x
  ·subst e;simp
  ·simp [e]
theorem QKj (wh fr:List Nat):(QCS wh fr).length=wh.length:=by
 induction fr generalizing wh with
 | nil=>rfl
 | cons x fr ih=>rw [show QCS wh (x :: fr)=QCS (wh.set x 0) fr from rfl,ih];simp
theorem QIu (wh fr:List Nat) (i:Nat):QCS wh (fr++[i])=(QCS wh fr).set i 0:=by
 unfold QCS;rw [List.foldl_append];rfl
theorem QIB {a b:List Nat} (hl:a.length=b.length) (h:∀ j,a.getD j 0=b.getD j 0):a=b:=by
 apply List.ext_getElem hl;intro i h1 h2;have:=h i;rw [List.getD_eq_getElem?_getD,List.getD_eq_getElem?_getD,List.getElem?_eq_getElem h1,List.getElem?_eq_getElem h2] at this;exact this
theorem QML {wh items:List Nat} (hb:∀ i∈items,i < wh.length):QCS (inF wh items).1 (inF wh items).2=wh:=by
 have h:=QEp wh _ items rfl hb;(have hf:∀ i∈(inF wh items).2,i < (inF wh items).1.length:=fun i hi=>by rw [h.len];exact hb i (h.fresh i hi).2);(refine QIB (by rw [QKj,h.len]) fun j => ?_);rw [QKi _ _ hf,h.get];by_cases e:j∈(inF wh items).2
 ·rw [if_pos e,(h.fresh j e).1]
 ·rw [if_neg e,if_neg e]
def muF (f:Nat→Nat):Nat→List Nat→Nat
 | _,[]=>0
 | k,x :: xs=>(if x=1 then f k else 0)+muF f (k+1) xs
theorem QHT (f:Nat→Nat):∀ (xs:List Nat) (k i v:Nat),i < xs.length→muF f k (xs.set i v)+(if xs.getD i 0=1 then f (k+i) else 0)=muF f k xs+(if v=1 then f (k+i) else 0)
 | [],k,i,v,h=>by simp at h
 | x :: xs,k,0,v,_=>by
  rw [List.set_cons_zero,muF,muF];simp only [List.getD_cons_zero,Nat.add_zero]
  omega
 | x :: xs,k,i+1,v,h=>by
  (have:=QHT f xs (k+1) i v (by simpa using h));rw [List.set_cons_succ,muF,muF,List.getD_cons_succ];(rw [show k+1+i=k+(i+1) by omega] at this);omega
theorem QHS (f:Nat→Nat) (wh:List Nat):∀ (items:List Nat) (s:List Nat × List Nat),s.1.length=wh.length→(∀ i∈items,i < wh.length)→muF f 0 (items.foldl QCr s).1≤muF f 0 s.1+(items.map f).sum
 | [],s,_,_=>by simp
 | x :: items,s,hl,hb=>by
  rw [List.foldl_cons,List.map_cons,List.sum_cons];(have hx:=hb x (by simp))
  have h1:(QCr s x).1.length=wh.length∧muF f 0 (QCr s x).1≤muF f 0 s.1+f x:=by
   unfold QCr
   split
   ·rename_i h0
    (refine⟨by simp [hl],?_⟩);(have:=QHT f s.1 0 x 1 (by omega));(rw [if_neg (by omega),if_pos rfl,Nat.zero_add] at this);show muF f 0 (s.1.set x 1)≤_;omega
   ·exact⟨hl,by omega⟩
  (have:=QHS f wh items _ h1.1 fun i hi=>hb i (by simp [hi]));omega
def Gf:Nat→Nat
 | 0=>1
 | 1=>2
 | n+2=>1+max (Gf (n+1)) (2 * Gf n)
theorem QNx:∀ n,1≤Gf n
 | 0=>by simp [Gf]
 | 1=>by simp [Gf]
 | n+2=>by rw [Gf];omega
theorem QKH:∀ n,Gf n+1≤Gf (n+1)
 | 0=>by simp [Gf]
 | n+1=>by rw [Gf];omega
theorem QKG {a b:Nat} (h:a≤b):Gf a≤Gf b:=by
 induction h with
 | refl=>omega
 | step _ ih=>exact Nat.le_trans ih (Nat.le_trans (Nat.le_succ _) (QKH _))
theorem QNy (n:Nat):2 * Gf n+1≤Gf (n+2):=by rw [Gf];omega
theorem QDR {ps:List PartM} {fs:List Fm} (h:TabOk ps fs) {i:Nat} {p:PartM} (hp:ps[i / 2]? = some p) (hpl:Pl (fs.getD (i / 2) QAR)) :
  (QAP ps i).2.length≤2∧∀ pr∈(QAP ps i).2,pr.length≤2∧(pr.map fun j=>(itF fs j).size).sum+(QAP ps i).2.length≤(itF fs i).size:=by
 have hw:QAP ps i=if itR i then QBg p.kind p.k0 p.k1 else QBf p.kind p.k0 p.k1:=by
  unfold QAP;rw [hp]
 rw [hw];rw [show itF fs i=fs.getD (i / 2) QAR from rfl];obtain⟨n,hn⟩:∃ n,n=i / 2:=⟨_,rfl⟩;rw [← hn] at hp hpl ⊢;(have pos:∀ f:Fm,1≤f.size:=fun f=>by cases f;rw [Fm.size];omega)
 rcases QBe h hp hpl with ⟨hk,-,-⟩|⟨hk,-,-⟩|⟨hk,-,-⟩|⟨hk,a,hks,ha,hf,pa⟩|⟨hk,a,b,hks,ha,hb,hf,pa,pb⟩
 ·unfold QBf QBg;rw [hk];simp
 ·unfold QBf QBg;rw [hk];simp
 ·unfold QBf QBg;rw [hk];simp
 ·have hk0:p.k0=a:=by unfold PartM.k0;rw [hks];rfl
  (have hs:(fs.getD n QAR).size=(fs.getD a QAR).size+1:=by rw [hf,Fm.size,Fm.sizes,Fm.sizes]);rw [hs];unfold QBf QBg;rw [hk,hk0];have e1:=(QCH fs a).1;have e2:=(QCH fs a).2
  cases itR i <;> simp [e1,e2]
 ·have hk0:p.k0=a:=by unfold PartM.k0;rw [hks];rfl
  (have hk1:p.k1=b:=by unfold PartM.k1;rw [hks];rfl);(have hs:(fs.getD n QAR).size=(fs.getD a QAR).size+(fs.getD b QAR).size+1:=by rw [hf,Fm.size,Fm.sizes,Fm.sizes,Fm.sizes];omega);rw [hs];have p1:=pos (fs.getD a QAR);have p2:=pos (fs.getD b QAR);unfold QBf QBg;rw [hk0,hk1];have e1:=(QCH fs a).1;have e2:=(QCH fs a).2;have e3:=(QCH fs b).1;have e4:=(QCH fs b).2;generalize fs.getD a QAR=fa at *;generalize fs.getD b QAR=fb at *
  rcases hk with hk|hk|hk <;> rw [hk] <;> cases itR i <;> simp [e1,e2,e3,e4] <;> omega
def QBO (ps:List PartM) (wh:List Nat) (i:Nat):List UInt8 :=
 match ps[i / 2]? with
 | none=>[]
 | some p=>if p.kind=2∧itR i=true then Ru.tr.text else if p.kind=3∧itR i=false then Ru.fa.text else if wh.getD (if itR i then i - 1 else i+1) 0=1 then Ru.ax.text else []
def QCP (ps:List PartM) (wh:List Nat) (i:Nat):Bool:=!(QAP ps i).2.isEmpty && (QAP ps i).2.all fun pr=>pr.any fun j=>wh.getD j 0 == 0
structure SInv (ps:List PartM) (wh br fresh:List Nat):Prop where
 mem:∀ i,i∈br ↔ wh.getD i 0≠0
 nodup:br.Nodup
 two:∀ i,wh.getD i 0≤2
 apart:∀ i,wh.getD i 0=2→∃ pr∈(QAP ps i).2,∀ j∈pr,wh.getD j 0≠0
 calm:∀ i p,wh.getD i 0≠0→i ∉ fresh→ps[i / 2]? = some p→¬ (p.kind=2∧itR i=true)∧¬ (p.kind=3∧itR i=false)
 far:∀ n p,ps[n]? = some p→p.kind=1→wh.getD (2 * n) 0≠0→wh.getD (2 * n+1) 0≠0→2 * n∈fresh∨2 * n+1∈fresh
 fresh:∀ i∈fresh,wh.getD i 0=1
structure OpenS (ps:List PartM) (wh:List Nat):Prop where
 ways:∀ i,wh.getD i 0≠0→(QAP ps i).2≠[]→∃ pr∈(QAP ps i).2,∀ j∈pr,wh.getD j 0≠0
 calm:∀ i p,wh.getD i 0≠0→ps[i / 2]? = some p→¬ (p.kind=2∧itR i=true)∧¬ (p.kind=3∧itR i=false)
 far:∀ n p,ps[n]? = some p→p.kind=1→¬ (wh.getD (2 * n) 0≠0∧wh.getD (2 * n+1) 0≠0)
theorem QLt {ps:List PartM} {i:Nat} {p:PartM} (hp:ps[i / 2]? = some p) (hk:p.kind=1):(QAP ps i).2=[]:=by
 unfold QAP QBf QBg;rw [hp];simp only [hk]
 cases itR i <;> simp
theorem QEW (n:Nat):2 * n / 2=n∧(2 * n+1) / 2=n:=by omega
theorem SInv.one {ps:List PartM} {wh br fresh:List Nat} (h:SInv ps wh br fresh) {i:Nat} {p:PartM} (hp:ps[i / 2]? = some p) (hk:p.kind=1) (h0:wh.getD i 0≠0):wh.getD i 0=1:=by
 have h2:=h.two i
 rcases Nat.lt_or_ge (wh.getD i 0) 2 with h3|h3
 ·omega
 ·obtain⟨pr,hpr,-⟩:=h.apart i (by omega)
  rw [QLt hp hk] at hpr
  cases hpr
theorem SInv.quiet {ps:List PartM} {wh br fresh:List Nat} (h:SInv ps wh br fresh) (hc:∀ i∈fresh,QBO ps wh i=[]):SInv ps wh br []:=by
 (refine⟨h.mem,h.nodup,h.two,h.apart,fun i p h0 _ hp => ?_,fun n p hp hk h1 h2 => ?_,fun i hi=>by cases hi⟩)
 ·by_cases hf:i∈fresh
  ·have:=hc i hf
   unfold QBO at this;rw [hp] at this;simp only at this;by_cases e1:p.kind=2∧itR i=true
   ·rw [if_pos e1] at this;cases this
   ·rw [if_neg e1] at this
    by_cases e2:p.kind=3∧itR i=false
    ·rw [if_pos e2] at this;cases this
    ·exact⟨e1,e2⟩
  ·exact h.calm i p h0 hf hp
 ·exfalso
  (have a1:=h.one (i:=2 * n) (p:=p) (by rw [(QEW n).1];exact hp) hk h1);(have a2:=h.one (i:=2 * n+1) (p:=p) (by rw [(QEW n).2];exact hp) hk h2)
  rcases h.far n p hp hk h1 h2 with hf|hf
  ·have:=hc _ hf
   unfold QBO at this;rw [(QEW n).1,hp] at this;simp only [(QAp n).1,hk] at this;(rw [if_neg (by simp),if_neg (by simp),if_neg (show ¬ (false=true) by simp),if_pos a2] at this)
   cases this
  ·have:=hc _ hf
   unfold QBO at this;rw [(QEW n).2,hp] at this;simp only [(QAp n).2,hk] at this;(rw [if_neg (by simp),if_neg (by simp),if_pos trivial,show 2 * n+1 - 1=2 * n by omega,if_pos a1] at this)
   cases this
theorem SInv.opened {ps:List PartM} {wh br:List Nat} (h:SInv ps wh br []) (ht:∀ i∈br,wh.getD i 0=1→QCP ps wh i=false):OpenS ps wh:=by
 (refine⟨fun i h0 hne => ?_,fun i p h0 hp=>h.calm i p h0 (by simp) hp,fun n p hp hk hh => ?_⟩)
 ·have h2:=h.two i
  by_cases h1:wh.getD i 0=1
  ·have:=ht i ((h.mem i).2 h0) h1
   unfold QCP at this;rw [Bool.and_eq_false_iff] at this
   rcases this with this|this
   ·simp at this;exact absurd this hne
   ·obtain⟨pr,hpr,hx⟩:=List.all_eq_false.1 this
    (refine⟨pr,hpr,fun j hj e => ?_⟩);apply hx;(exact List.any_eq_true.2 ⟨j,hj,by rw [e];rfl⟩)
  ·exact h.apart i (by omega)
 ·rcases h.far n p hp hk hh.1 hh.2 with h|h <;> cases h
theorem SInv.step {ps:List PartM} {wh br:List Nat} (h:SInv ps wh br []) {i:Nat} {pr:List Nat} (hi:i < wh.length) (h1:wh.getD i 0=1) (hpr:pr∈(QAP ps i).2) (hb:∀ j∈pr,j < wh.length) :
  SInv ps (inF (wh.set i 2) pr).1 (br++(inF (wh.set i 2) pr).2) (inF (wh.set i 2) pr).2:=by
 (have P:=QEp (wh.set i 2) _ pr rfl (by simpa using hb));generalize inF (wh.set i 2) pr=s at P;(have g:∀ j,(wh.set i 2).getD j 0=if j=i then 2 else wh.getD j 0:=fun j=>QBy _ _ _ _ hi)
 have nz:∀ j,s.1.getD j 0≠0 ↔ j∈s.2∨wh.getD j 0≠0:=fun j=>by
  rw [P.get,g];by_cases e:j∈s.2
  ·simp [e]
  ·by_cases e2:j=i
   ·subst e2
    rw [if_neg e,if_pos rfl];(exact⟨fun _=>Or.inr (by omega),fun _=>by omega⟩)
   ·simp [e,e2]
 have nf:∀ j∈s.2,wh.getD j 0=0:=fun j hj=>by
  have:=(P.fresh j hj).1;rw [g] at this;by_cases e2:j=i
  ·rw [if_pos e2] at this;omega
  ·rwa [if_neg e2] at this
 (refine⟨fun j => ?_,?_,fun j => ?_,fun j hj => ?_,fun j p h0 hf hp => ?_,fun n p hp hk e1 e2 => ?_,fun j hj=>by rw [P.get,if_pos hj]⟩)
 ·rw [List.mem_append,nz,h.mem]
  exact Or.comm
 ·rw [List.nodup_append]
  (refine⟨h.nodup,P.nodup,fun a ha b hb' e => ?_⟩);subst e;exact (h.mem a).1 ha (nf a hb')
 ·rw [P.get,g]
  have:=h.two j
  split
  ·omega
  ·split <;> omega
 ·rw [P.get,g] at hj
  by_cases e:j∈s.2
  ·rw [if_pos e] at hj;omega
  ·rw [if_neg e] at hj
   by_cases e2:j=i
   ·subst e2
    (exact⟨pr,hpr,fun x hx=>P.all x hx⟩)
   ·rw [if_neg e2] at hj
    obtain⟨q,hq,hall⟩:=h.apart j hj;(exact⟨q,hq,fun x hx=>(nz x).2 (Or.inr (hall x hx))⟩)
 ·rcases (nz j).1 h0 with h2|h2
  ·exact absurd h2 hf
  ·exact h.calm j p h2 (by simp) hp
 ·rcases (nz _).1 e1 with h2|h2
  ·exact Or.inl h2
  ·rcases (nz _).1 e2 with h3|h3
   ·exact Or.inr h3
   ·rcases h.far n p hp hk h2 h3 with h|h <;> cases h
theorem QNb {ps:List PartM} {fs:List Fm} (ht:TabOk ps fs) {wh:List Nat} {i:Nat} {p:PartM} {pr:List Nat} (hp:ps[i / 2]? = some p) (hpl:Pl (fs.getD (i / 2) QAR)) (hi:i < wh.length) (h1:wh.getD i 0=1) (hpr:pr∈(QAP ps i).2) (hb:∀ j∈pr,j < wh.length) :
  muF (fun j=>(itF fs j).size) 0 (inF (wh.set i 2) pr).1+(QAP ps i).2.length≤muF (fun j=>(itF fs j).size) 0 wh:=by
 (have a:=QHT (fun j=>(itF fs j).size) wh 0 i 2 hi);(rw [if_pos h1,if_neg (by omega),Nat.zero_add] at a);(have b:=QHS (fun j=>(itF fs j).size) (wh.set i 2) pr (wh.set i 2,[]) rfl (by simpa using hb));have c:=((QDR ht hp hpl).2 pr hpr).2;unfold inF;simp only at a b c ⊢;omega
theorem SInv.start (ps:List PartM) (n:Nat) (items:List Nat) (hb:∀ j∈items,j < n):SInv ps (inF (List.replicate n 0) items).1 (inF (List.replicate n 0) items).2 (inF (List.replicate n 0) items).2:=by
 (have P:=QEp (List.replicate n 0) _ items rfl (by simpa using hb));generalize inF (List.replicate n 0) items=s at P
 have z:∀ j,(List.replicate n 0).getD j 0=0:=fun j=>by
  rw [List.getD_eq_getElem?_getD,List.getElem?_replicate]
  split <;> rfl
 have nz:∀ j,s.1.getD j 0≠0 ↔ j∈s.2:=fun j=>by
  rw [P.get,z];(by_cases e:j∈s.2 <;> simp [e])
 (refine⟨fun j=>(nz j).symm,P.nodup,fun j => ?_,fun j hj => ?_,fun j p h0 hf hp=>absurd ((nz j).1 h0) hf,fun n p hp hk e1 e2=>Or.inl ((nz _).1 e1),fun j hj=>by rw [P.get,if_pos hj]⟩)
 ·rw [P.get,z]
  split <;> omega
 ·rw [P.get,z] at hj
  split at hj <;> omega
theorem QDM {n:Nat} {l:List Nat} (hd:l.Nodup) (hb:∀ j∈l,j < n):l.length≤n:=by
 (have h:=List.Nodup.length_le_of_subset (l₂:=List.range n) hd fun j hj=>List.mem_range.2 (hb j hj))
 rwa [List.length_range] at h
theorem SInv.len {ps:List PartM} {wh br fresh:List Nat} (h:SInv ps wh br fresh):br.length≤wh.length:=QDM h.nodup fun j hj=>by
 have h0:=(h.mem j).1 hj
 rcases Nat.lt_or_ge j wh.length with h1|h1
 ·exact h1
 ·rw [List.getD_eq_getElem?_getD,List.getElem?_eq_none h1] at h0
  exact absurd rfl h0
theorem SInv.lt {ps:List PartM} {wh br fresh:List Nat} (h:SInv ps wh br fresh) {j:Nat} (hj:j∈br):j < wh.length:=by
 have h0:=(h.mem j).1 hj
 rcases Nat.lt_or_ge j wh.length with h1|h1
 ·exact h1
 ·rw [List.getD_eq_getElem?_getD,List.getElem?_eq_none h1] at h0
  exact absurd rfl h0
inductive QCk:Plan→Prop
 | mk (a:ByteArray) (i:Nat) (needs:List Nat) (kids:List Plan) (hn:needs.Nodup) (hk:∀ k∈kids,QCk k) (hi:∀ k∈kids,i ∉ k.needs):QCk (.mk a i needs kids)
theorem OpenS.back {ps:List PartM} {wh:List Nat} (h:OpenS ps wh) {i:Nat} (hi:i < wh.length) (h0:wh.getD i 0≠0):OpenS ps (wh.set i 1):=by
 have g:∀ j,(wh.set i 1).getD j 0≠0 ↔ wh.getD j 0≠0:=fun j=>by
  rw [QBy _ _ _ _ hi];by_cases e:j=i
  ·subst e
   rw [if_pos rfl];(exact⟨fun _=>h0,fun _=>by omega⟩)
  ·rw [if_neg e]
 (refine⟨fun j hj hne => ?_,fun j p hj hp=>h.calm j p ((g j).1 hj) hp,fun n p hp hk hh=>h.far n p hp hk ⟨(g _).1 hh.1,(g _).1 hh.2⟩⟩);obtain⟨pr,hpr,hall⟩:=h.ways j ((g j).1 hj) hne;(exact⟨pr,hpr,fun x hx=>(g x).2 (hall x hx)⟩)
end Go.Proofs.YtbmedfokpgghiacGreat
