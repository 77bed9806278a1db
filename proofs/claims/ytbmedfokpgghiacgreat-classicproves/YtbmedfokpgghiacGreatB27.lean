import Derived.Test.YtbmedfokpgghiacGreatB23
namespace Go.Proofs.YtbmedfokpgghiacGreat
open Go.RowKit
set_option maxRecDepth 10000 in
set_option maxHeartbeats 8000000 in
theorem QMp (i:Bool) (q:Ru) (t:ByteArray) (hq:(q = .thenL∧t=⟨#[116,104,101,110,45,108]⟩)∨(q = .notL∧t=⟨#[110,111,116,45,108]⟩)) (f:Fm) (l r:List Fm) (hl3:l.length≤300) (hr3:r.length≤300) (v VL VR:Value) (w:World) (hf:Rep w (fun _=>True) f v) (hl:FL w VL l) (hr:FL w VR r) :
  Calls Tryz.prog 104 #[.string t,v,.agg #[VL,VR],.bool i] w fun e w'=>∃ x,e = .returned (.tuple #[x,.bool (QBs i q),.bool (QBY q f l r)])∧SQs w' x (QAl i q f l r)∧Below w.heap.size w w':=by
 obtain⟨k,n,ks⟩:=f;obtain⟨sf,cf,rfl⟩:=QAU hf;(have HF:Hid (Rep w (fun _=>True) (.mk k n ks) _):=hf);have HL:Hid (FL w VL l):=hl;have HR:Hid (FL w VR r):=hr;have HKS:=(Rep.def.1 hf);obtain⟨sf',cf',hv,-,hkc,hcm,hkr⟩:=HKS;simp only [Value.agg.injEq,Array.mk.injEq,List.cons.injEq,Value.slice.injEq,and_true,true_and] at hv;obtain⟨rfl,rfl⟩:=hv;(have hksI:(ks.length:Int)≤9223372036854775807:=by unfold maxLen at hcm;omega);(have hkcI:(ks.length:Int)≤(cf:Int):=by omega);obtain⟨adl,cpl,rfl,-⟩:=hl;obtain⟨adr,cpr,rfl,-⟩:=hr;obtain⟨O1,hO1⟩:∃ O,O=Obj.cells #[.int .i64 k,.string n,.slice sf ks.length cf] 29 (0,0):=⟨_,rfl⟩;obtain⟨O2,hO2⟩:∃ O,O=Obj.cells #[.slice adl l.length cpl,.slice adr r.length cpr] 24 (0,0):=⟨_,rfl⟩;obtain⟨W,hW⟩:∃ W,W=(w.alloc O1).alloc O2:=⟨_,rfl⟩;(have B0:Below w.heap.size w W:=by rw [hW];exact QAB (QAB (Below.refl _ w) _) _);(have p1:W.heap[w.heap.size]? = some O1:=by rw [hW];exact QAG (QAH w O1) _);(have p2:W.heap[w.heap.size+1]? = some O2:=by rw [hW];exact QAa w O1 O2);rw [hO1] at p1;rw [hO2] at p2;have P1:Hid (W.heap[w.heap.size]? = some _):=p1;have P2:Hid (W.heap[w.heap.size+1]? = some _):=p2;have HWe:Hid ((w.alloc O1).alloc O2=W):=hW.symm;clear hf hkr p1 p2 hW
 go_enter Tryz.func104,Tryz.ntmps104
 go_wp2_with fail;rw [← hO1,← hO2,HWe.out];clear hO1 hO2 HWe;(refine (QBQ l (by omega) (.mk k n ks) _ _ W (HL.out.up B0) (HF.out.up B0)).mono ?_);rintro e w1 ⟨x1,rfl,hg,hb1⟩;have B1:=QAC B0 hb1;have Q1:Hid (w1.heap[w.heap.size]? = some _):=QAA hb1 P1.out;have Q2:Hid (w1.heap[w.heap.size+1]? = some _):=QAA hb1 P2.out;obtain⟨adg,cpg,rfl,-⟩:=id hg;have HG1:Hid (FL w1 _ (l.erase (.mk k n ks))):=hg;clear hg hb1 P1 P2 B0;obtain⟨j0,j1,j2,-⟩:=QAb Q1.out;go_wp2_with fail;(refine (QBQ r (by omega) (.mk k n ks) _ _ w1 (HR.out.up B1) (HF.out.up B1)).mono ?_);rintro e w2 ⟨x2,rfl,hd,hb2⟩;have B2:=QAC B1 hb2;have Q3:Hid (w2.heap[w.heap.size]? = some _):=QAA hb2 Q1.out;obtain⟨add,cpd,rfl,-⟩:=id hd;have HD2:Hid (FL w2 _ (r.erase (.mk k n ks))):=hd;have HG2:Hid (FL w2 _ (l.erase (.mk k n ks))):=HG1.out.up hb2;clear hd hb2 Q1 Q2 j0 j1 j2 HG1 B1;obtain⟨j0,j1,j2,-⟩:=QAb Q3.out;go_wp2_with fail;refine (QBn l (.mk k n ks) _ _ w2 (HL.out.up B2) (HF.out.up B2)).mono ?_;rintro e w3 ⟨rfl,hb3⟩;have B3:=QAC B2 hb3;have Q4:Hid (w3.heap[w.heap.size]? = some _):=QAA hb3 Q3.out;have HD3:Hid (FL w3 _ (r.erase (.mk k n ks))):=HD2.out.up hb3;have HG3:Hid (FL w3 _ (l.erase (.mk k n ks))):=HG2.out.up hb3;clear hb3 Q3 j0 j1 j2 HG2 HD2 B2;obtain⟨j0,j1,j2,-⟩:=QAb Q4.out;go_wp2_with fail;refine (QBn r (.mk k n ks) _ _ w3 (HR.out.up B3) (HF.out.up B3)).mono ?_;rintro e w4 ⟨rfl,hb4⟩;have B4:=QAC B3 hb4;have Q5:Hid (w4.heap[w.heap.size]? = some _):=QAA hb4 Q4.out;have HD4:Hid (FL w4 _ (r.erase (.mk k n ks))):=HD3.out.up hb4;have HG4:Hid (FL w4 _ (l.erase (.mk k n ks))):=HG3.out.up hb4;clear hb4 Q4 j0 j1 j2 HG3 HD3 B3;obtain⟨j0,j1,j2,-⟩:=QAb Q5.out;have z4:=QAE Q5.out;have HOK:Hid (QBY q (.mk k n ks) l r=QCC q k (QBJ (.mk k n ks) l) (QBJ (.mk k n ks) r)):=QCo _ _ _ _ _ _;generalize QBJ (.mk k n ks) l=bl at *;generalize QBJ (.mk k n ks) r=br at *;have HE1:Hid ((l.erase (.mk k n ks)).length≤300):=Nat.le_trans List.length_erase_le hl3;have HE2:Hid ((r.erase (.mk k n ks)).length≤300):=Nat.le_trans List.length_erase_le hr3
 rcases hq with ⟨rfl,rfl⟩|⟨rfl,rfl⟩
 ·cases i
  ·rcases QAr HF.out B4 with ⟨hp0,HRA,HRZ,HKA,HKZ⟩|⟨b,off,m,ka,na,ksa,sa,ca,kz,nz,ksz,sz,cz,rfl,g0,g1,g2,u0,u1,u2,hmI,hp0,hp1,hp2,hp3,d1,d2,hpos,zb,HRA,HRZ,HKA,HKZ⟩
   all_goals go_wp2_with fail
   all_goals
    first | (obtain⟨X,hX⟩:∃ X,X=QAY w4 (.int .i64 ka) (.string na) (.slice sa ksa.length ca) (.int .i64 kz) (.string nz) (.slice sz ksz.length cz):=⟨_,rfl⟩;unfold QAY at hX;rw [← hX]) | (obtain⟨X,hX⟩:∃ X,X=QAY w4 (.int .i64 0) (.string ⟨#[]⟩) (.slice none 0 0) (.int .i64 0) (.string ⟨#[]⟩) (.slice none 0 0):=⟨_,rfl⟩;unfold QAY at hX;rw [← hX])
    obtain⟨a0,a1,a2,z0,z1,z2,f2,fa,fz,BX,HBA,HBZ,HBF,HLx,HRx,HGx,HDx,HRAx,HRZx,HRFx,HOx,HKA,HKZ⟩:=QBG hX B4 Q5 HF HRA HRZ HL HR HG4 HD4 HKA HKZ
    have HPL:Hid (QAl false .thenL (.mk k n ks) l r=[((l.erase (.mk k n ks)),(r++[fa])),(((l.erase (.mk k n ks))++[fz]),r)]):=by
     show _=_;unfold QAl
     first|rfl | (rw [HKA.out,HKZ.out];first|done|rfl) | (rw [HKA.out];first|done|rfl) | (rw [HKZ.out];first|done|rfl)
    (refine QAT (by kernel_rfl) [kEq (.func (.func 150) #[] #[]),kEq (.slice adg (l.erase (.mk k n ks)).length cpg),kEq (.slice adr r.length cpr),kEq (.agg #[a0,a1,a2]),kFL [fa],kFL (r++[fa]),kSQ ((l.erase (.mk k n ks)),(r++[fa])),kEq (.func (.func 150) #[] #[]),kEq (.slice adg (l.erase (.mk k n ks)).length cpg),kEq (.agg #[z0,z1,z2]),kFL [fz],kFL ((l.erase (.mk k n ks))++[fz]),kEq (.slice adr r.length cpr),kSQ (((l.erase (.mk k n ks))++[fz]),r),QBR [((l.erase (.mk k n ks)),(r++[fa])),(((l.erase (.mk k n ks))++[fz]),r)],kEq (.pointer (some ⟨w.heap.size,0,none⟩)),kEq (.int .i64 k),kEq (.bool (k == 7)),kEq (.bool (k == 7)),kGd (k == 7) (.bool bl),kEq (.bool ((k == 7) && bl)),QBR [((l.erase (.mk k n ks)),(r++[fa])),(((l.erase (.mk k n ks))++[fz]),r)],kEq (.bool true),kEq (.bool ((k == 7) && bl))] ?_ (by kernel_rfl) (by kernel_rfl) 349 rfl (by kernel_rfl) ?_ ?_)
    ·intro p hp
     simp only [List.mem_cons,List.not_mem_nil,or_false] at hp
     rcases hp with rfl|rfl|rfl|rfl|rfl|rfl|rfl|rfl|rfl|rfl|rfl|rfl|rfl|rfl|rfl|rfl|rfl|rfl|rfl|rfl|rfl|rfl|rfl|rfl
     all_goals first|exact QAe _|exact QBC _|exact QBE _|exact QAq _|exact QBD _ _
    ·refine⟨?_,?_,?_,?_,?_,?_,?_,?_,?_,?_,?_,?_,?_,?_,?_,?_,?_,?_,?_,?_,?_,?_,?_,?_,trivial⟩
     ·intro a wx hB hold hdep K hK;have t19:a.tmps[19]? = some (.func (.func 150) #[] #[]):=hold.2.2 19 rfl;clear hold hdep;go_simp;exact hK.out _ _ rfl (Below.refl _ _)
     ·intro a wx hB hold hdep K hK;have t13:a.tmps[13]? = some (.slice adg (l.erase (.mk k n ks)).length cpg):=hold.2.2 13 rfl;clear hold hdep;go_simp;exact hK.out _ _ rfl (Below.refl _ _)
     ·intro a wx hB hold hdep K hK;have t12:a.tmps[12]? = some (.slice adr r.length cpr):=hold.2.2 12 rfl;clear hold hdep;go_simp;exact hK.out _ _ rfl (Below.refl _ _)
     ·intro a wx hB hold hdep K hK;have t17:a.tmps[17]? = some (.pointer (some ⟨w4.heap.size,0,none⟩)):=hold.2.2 17 rfl;obtain⟨k0,k1,k2',-⟩:=QAb (QAA hB HBA.out);clear hold hdep;go_simp;exact hK.out _ _ rfl (Below.refl _ _)
     ·intro a wx hB hold hdep K hK;have t242:=QAF wx (hdep 3 rfl _ 242 rfl rfl);clear hold hdep;go_simp;exact hK.out _ _ (QAk (FL.sing (QAH wx _) ((HRAx.out.up hB).more _))) (QAB (Below.refl _ wx) _)
     ·intro a wx hB hold hdep K hK;have t241:=QAF wx (hdep 2 rfl _ 241 rfl rfl);obtain⟨v243,t243,p243⟩:=hdep 4 rfl _ 243 rfl rfl;obtain⟨ad243,m243,cp243,e243,f243⟩:=p243;subst e243;have H243:Hid (FL wx _ [fa]):=f243;clear f243;clear hold hdep;go_simp;(refine (QAv r [fa] (by have:=HE1.out;have:=HE2.out;first|omega|simp) (by simp) _ _ wx (HRx.out.up hB) H243.out).mono ?_);rintro e w1 ⟨x,rfl,hf,hb⟩;exact hK.out _ _ (QAk hf) hb
     ·intro a wx hB hold hdep K hK;have t239:=QAF wx (hdep 0 rfl _ 239 rfl rfl);have t240:=QAF wx (hdep 1 rfl _ 240 rfl rfl);obtain⟨v244,t244,p244⟩:=hdep 5 rfl _ 244 rfl rfl;obtain⟨ad244,m244,cp244,e244,f244⟩:=p244;subst e244;have H244:Hid (FL wx _ (r++[fa])):=f244;clear f244;clear hold hdep;go_simp;refine (QAg _ _ _ _ _ _ wx).mono ?_;rintro e w1 ⟨rfl,hb⟩;exact hK.out _ _ ⟨_,_,_,_,_,_,rfl,((HGx.out.up hB).up hb),((H244.out).up hb)⟩ hb
     ·intro a wx hB hold hdep K hK;have t19:a.tmps[19]? = some (.func (.func 150) #[] #[]):=hold.2.2 19 rfl;clear hold hdep;go_simp;exact hK.out _ _ rfl (Below.refl _ _)
     ·intro a wx hB hold hdep K hK;have t13:a.tmps[13]? = some (.slice adg (l.erase (.mk k n ks)).length cpg):=hold.2.2 13 rfl;clear hold hdep;go_simp;exact hK.out _ _ rfl (Below.refl _ _)
     ·intro a wx hB hold hdep K hK;have t18:a.tmps[18]? = some (.pointer (some ⟨w4.heap.size+1,0,none⟩)):=hold.2.2 18 rfl;obtain⟨k0,k1,k2',-⟩:=QAb (QAA hB HBZ.out);clear hold hdep;go_simp;exact hK.out _ _ rfl (Below.refl _ _)
     ·intro a wx hB hold hdep K hK;have t248:=QAF wx (hdep 9 rfl _ 248 rfl rfl);clear hold hdep;go_simp;exact hK.out _ _ (QAk (FL.sing (QAH wx _) ((HRZx.out.up hB).more _))) (QAB (Below.refl _ wx) _)
     ·intro a wx hB hold hdep K hK;have t247:=QAF wx (hdep 8 rfl _ 247 rfl rfl);obtain⟨v249,t249,p249⟩:=hdep 10 rfl _ 249 rfl rfl;obtain⟨ad249,m249,cp249,e249,f249⟩:=p249;subst e249;have H249:Hid (FL wx _ [fz]):=f249;clear f249;clear hold hdep;go_simp;(refine (QAv (l.erase (.mk k n ks)) [fz] (by have:=HE1.out;have:=HE2.out;first|omega|simp) (by simp) _ _ wx (HGx.out.up hB) H249.out).mono ?_);rintro e w1 ⟨x,rfl,hf,hb⟩;exact hK.out _ _ (QAk hf) hb
     ·intro a wx hB hold hdep K hK;have t12:a.tmps[12]? = some (.slice adr r.length cpr):=hold.2.2 12 rfl;clear hold hdep;go_simp;exact hK.out _ _ rfl (Below.refl _ _)
     ·intro a wx hB hold hdep K hK;have t246:=QAF wx (hdep 7 rfl _ 246 rfl rfl);obtain⟨v250,t250,p250⟩:=hdep 11 rfl _ 250 rfl rfl;obtain⟨ad250,m250,cp250,e250,f250⟩:=p250;subst e250;have H250:Hid (FL wx _ ((l.erase (.mk k n ks))++[fz])):=f250;clear f250;have t251:=QAF wx (hdep 12 rfl _ 251 rfl rfl);clear hold hdep;go_simp;refine (QAg _ _ _ _ _ _ wx).mono ?_;rintro e w1 ⟨rfl,hb⟩;exact hK.out _ _ ⟨_,_,_,_,_,_,rfl,((H250.out).up hb),((HRx.out.up hB).up hb)⟩ hb
     ·intro a wx hB hold hdep K hK;obtain⟨v245,t245,p245⟩:=hdep 6 rfl _ 245 rfl rfl;obtain⟨a245,m245,b245,c245,n245,d245,e245,f245,g245⟩:=p245;subst e245;have H245:Hid (FL wx _ (l.erase (.mk k n ks))):=f245;have J245:Hid (FL wx _ (r++[fa])):=g245;clear f245 g245;obtain⟨v252,t252,p252⟩:=hdep 13 rfl _ 252 rfl rfl;obtain⟨a252,m252,b252,c252,n252,d252,e252,f252,g252⟩:=p252;subst e252;have H252:Hid (FL wx _ ((l.erase (.mk k n ks))++[fz])):=f252;have J252:Hid (FL wx _ r):=g252;clear f252 g252;clear hold hdep;go_simp;exact hK.out _ _ (SQs.two (QAH wx _) (H245.out.up (QAB (Below.refl _ wx) _)) (J245.out.up (QAB (Below.refl _ wx) _)) (H252.out.up (QAB (Below.refl _ wx) _)) (J252.out.up (QAB (Below.refl _ wx) _))) (QAB (Below.refl _ wx) _)
     ·intro a wx hB hold hdep K hK;have t5:a.tmps[5]? = some (.pointer (some ⟨w.heap.size,0,none⟩)):=hold.2.2 5 rfl;clear hold hdep;go_simp;exact hK.out _ _ rfl (Below.refl _ _)
     ·intro a wx hB hold hdep K hK;have t254:=QAF wx (hdep 15 rfl _ 254 rfl rfl);obtain⟨k0,k1,k2',-⟩:=QAb (QAA hB HBF.out);clear hold hdep;go_simp;exact hK.out _ _ rfl (Below.refl _ _)
     ·intro a wx hB hold hdep K hK;have t255:=QAF wx (hdep 16 rfl _ 255 rfl rfl);clear hold hdep;go_simp;exact hK.out _ _ rfl (Below.refl _ _)
     ·intro a wx hB hold hdep K hK;have t256:=QAF wx (hdep 17 rfl _ 256 rfl rfl);clear hold hdep;go_simp;exact hK.out _ _ rfl (Below.refl _ _)
     ·intro a wx hB hold hdep K hK;obtain⟨v257,t257,p257⟩:=hdep 18 rfl _ 257 rfl rfl;have e257:v257=(.bool (k == 7)):=p257;subst e257;have t15:a.tmps[15]? = some (.bool bl):=hold.2.2 15 rfl;clear hold hdep;cases hq:(k == 7)
      ·rw [hq] at t257
       go_simp;(exact hK.out _ _ (fun h=>by rw [hq] at h;cases h) (Below.refl _ _))
      ·rw [hq] at t257
       go_simp;(exact hK.out _ _ (fun _=>rfl) (Below.refl _ _))
     ·intro a wx hB hold hdep K hK;have t257:=QAF wx (hdep 18 rfl _ 257 rfl rfl);obtain⟨v258,t258,p258⟩:=hdep 19 rfl _ 258 rfl rfl;have P258:Hid (kGd (k == 7) (.bool bl) v258 wx):=p258;clear hold hdep p258;cases hq:(k == 7)
      ·rw [hq] at t257
       go_simp;(exact hK.out _ _ (by rw [hq];rfl) (Below.refl _ _))
      ·rw [hq] at t257
       have e258:v258=(.bool bl):=P258.out hq;subst e258;go_simp;(exact hK.out _ _ (by rw [hq];rfl) (Below.refl _ _))
     ·intro a wx hB hold hdep K hK;obtain⟨v253,t253,p253⟩:=hdep 14 rfl _ 253 rfl rfl;have P253:Hid (QBR [((l.erase (.mk k n ks)),(r++[fa])),(((l.erase (.mk k n ks))++[fz]),r)] v253 wx):=p253;clear p253 hold hdep;go_simp;exact hK.out _ _ P253.out (Below.refl _ _)
     ·intro a wx hB hold hdep K hK;clear hold hdep;go_simp;exact hK.out _ _ rfl (Below.refl _ _)
     ·intro a wx hB hold hdep K hK;have t259:=QAF wx (hdep 20 rfl _ 259 rfl rfl);clear hold hdep;go_simp;exact hK.out _ _ rfl (Below.refl _ _)
    ·intro a wx hB hold hgot
     (obtain⟨v8,t8,p8⟩:=hgot 21 _ 8 rfl rfl;have P8:Hid (SQs wx v8 [((l.erase (.mk k n ks)),(r++[fa])),(((l.erase (.mk k n ks))++[fz]),r)]):=p8;obtain⟨v9,t9,p9⟩:=hgot 22 _ 9 rfl rfl;have e9:v9=(.bool true):=p9;subst e9;obtain⟨v10,t10,p10⟩:=hgot 23 _ 10 rfl rfl;have e10:v10=(.bool ((k == 7) && bl)):=p10;subst e10;have hD:a.defers=[]:=hold.2.1;clear hold hgot p8 p9 p10;go_wp2_with fail;(exact bodyPost_ret (v := .tuple #[v8,(.bool true),(.bool ((k == 7) && bl))]) (by simp [results,Tryz.results104,go_sem,t8,t9,t10]) hD ⟨_,by rw [HOK.out];rfl,by rw [HPL.out];exact P8.out,QAC (QAC B4 BX.out) hB⟩))
  ·rcases QAr HF.out B4 with ⟨hp0,HRA,HRZ,HKA,HKZ⟩|⟨b,off,m,ka,na,ksa,sa,ca,kz,nz,ksz,sz,cz,rfl,g0,g1,g2,u0,u1,u2,hmI,hp0,hp1,hp2,hp3,d1,d2,hpos,zb,HRA,HRZ,HKA,HKZ⟩
   all_goals go_wp2_with fail
   all_goals
    first | (obtain⟨X,hX⟩:∃ X,X=QAY w4 (.int .i64 ka) (.string na) (.slice sa ksa.length ca) (.int .i64 kz) (.string nz) (.slice sz ksz.length cz):=⟨_,rfl⟩;unfold QAY at hX;rw [← hX]) | (obtain⟨X,hX⟩:∃ X,X=QAY w4 (.int .i64 0) (.string ⟨#[]⟩) (.slice none 0 0) (.int .i64 0) (.string ⟨#[]⟩) (.slice none 0 0):=⟨_,rfl⟩;unfold QAY at hX;rw [← hX])
    obtain⟨a0,a1,a2,z0,z1,z2,f2,fa,fz,BX,HBA,HBZ,HBF,HLx,HRx,HGx,HDx,HRAx,HRZx,HRFx,HOx,HKA,HKZ⟩:=QBG hX B4 Q5 HF HRA HRZ HL HR HG4 HD4 HKA HKZ
    have HPL:Hid (QAl true .thenL (.mk k n ks) l r=[((l.erase (.mk k n ks)),[fa]),(((l.erase (.mk k n ks))++[fz]),r)]):=by
     show _=_;unfold QAl
     first|rfl | (rw [HKA.out,HKZ.out];first|done|rfl) | (rw [HKA.out];first|done|rfl) | (rw [HKZ.out];first|done|rfl)
    (refine QAT (by kernel_rfl) [kEq (.func (.func 150) #[] #[]),kEq (.slice adg (l.erase (.mk k n ks)).length cpg),kEq (.slice (some ⟨w4.heap.size+1+1,0,none⟩) 1 1),kSQ ((l.erase (.mk k n ks)),[fa]),kEq (.func (.func 150) #[] #[]),kEq (.slice adg (l.erase (.mk k n ks)).length cpg),kEq (.agg #[z0,z1,z2]),kFL [fz],kFL ((l.erase (.mk k n ks))++[fz]),kEq (.slice adr r.length cpr),kSQ (((l.erase (.mk k n ks))++[fz]),r),QBR [((l.erase (.mk k n ks)),[fa]),(((l.erase (.mk k n ks))++[fz]),r)],kEq (.pointer (some ⟨w.heap.size,0,none⟩)),kEq (.int .i64 k),kEq (.bool (k == 7)),kEq (.bool (k == 7)),kGd (k == 7) (.bool bl),kEq (.bool ((k == 7) && bl)),QBR [((l.erase (.mk k n ks)),[fa]),(((l.erase (.mk k n ks))++[fz]),r)],kEq (.bool true),kEq (.bool ((k == 7) && bl))] ?_ (by kernel_rfl) (by kernel_rfl) 349 rfl (by kernel_rfl) ?_ ?_)
    ·intro p hp
     simp only [List.mem_cons,List.not_mem_nil,or_false] at hp
     rcases hp with rfl|rfl|rfl|rfl|rfl|rfl|rfl|rfl|rfl|rfl|rfl|rfl|rfl|rfl|rfl|rfl|rfl|rfl|rfl|rfl|rfl
     all_goals first|exact QAe _|exact QBC _|exact QBE _|exact QAq _|exact QBD _ _
    ·refine⟨?_,?_,?_,?_,?_,?_,?_,?_,?_,?_,?_,?_,?_,?_,?_,?_,?_,?_,?_,?_,?_,trivial⟩
     ·intro a wx hB hold hdep K hK;have t19:a.tmps[19]? = some (.func (.func 150) #[] #[]):=hold.2.2 19 rfl;clear hold hdep;go_simp;exact hK.out _ _ rfl (Below.refl _ _)
     ·intro a wx hB hold hdep K hK;have t13:a.tmps[13]? = some (.slice adg (l.erase (.mk k n ks)).length cpg):=hold.2.2 13 rfl;clear hold hdep;go_simp;exact hK.out _ _ rfl (Below.refl _ _)
     ·intro a wx hB hold hdep K hK;have t20:a.tmps[20]? = some (.slice (some ⟨w4.heap.size+1+1,0,none⟩) 1 1):=hold.2.2 20 rfl;clear hold hdep;go_simp;exact hK.out _ _ rfl (Below.refl _ _)
     ·intro a wx hB hold hdep K hK;have t221:=QAF wx (hdep 0 rfl _ 221 rfl rfl);have t222:=QAF wx (hdep 1 rfl _ 222 rfl rfl);have t223:=QAF wx (hdep 2 rfl _ 223 rfl rfl);clear hold hdep;go_simp;refine (QAg _ _ _ _ _ _ wx).mono ?_;rintro e w1 ⟨rfl,hb⟩;exact hK.out _ _ ⟨_,_,_,_,_,_,rfl,((HGx.out.up hB).up hb),((HOx.out.up hB).up hb)⟩ hb
     ·intro a wx hB hold hdep K hK;have t19:a.tmps[19]? = some (.func (.func 150) #[] #[]):=hold.2.2 19 rfl;clear hold hdep;go_simp;exact hK.out _ _ rfl (Below.refl _ _)
     ·intro a wx hB hold hdep K hK;have t13:a.tmps[13]? = some (.slice adg (l.erase (.mk k n ks)).length cpg):=hold.2.2 13 rfl;clear hold hdep;go_simp;exact hK.out _ _ rfl (Below.refl _ _)
     ·intro a wx hB hold hdep K hK;have t18:a.tmps[18]? = some (.pointer (some ⟨w4.heap.size+1,0,none⟩)):=hold.2.2 18 rfl;obtain⟨k0,k1,k2',-⟩:=QAb (QAA hB HBZ.out);clear hold hdep;go_simp;exact hK.out _ _ rfl (Below.refl _ _)
     ·intro a wx hB hold hdep K hK;have t227:=QAF wx (hdep 6 rfl _ 227 rfl rfl);clear hold hdep;go_simp;exact hK.out _ _ (QAk (FL.sing (QAH wx _) ((HRZx.out.up hB).more _))) (QAB (Below.refl _ wx) _)
     ·intro a wx hB hold hdep K hK;have t226:=QAF wx (hdep 5 rfl _ 226 rfl rfl);obtain⟨v228,t228,p228⟩:=hdep 7 rfl _ 228 rfl rfl;obtain⟨ad228,m228,cp228,e228,f228⟩:=p228;subst e228;have H228:Hid (FL wx _ [fz]):=f228;clear f228;clear hold hdep;go_simp;(refine (QAv (l.erase (.mk k n ks)) [fz] (by have:=HE1.out;have:=HE2.out;first|omega|simp) (by simp) _ _ wx (HGx.out.up hB) H228.out).mono ?_);rintro e w1 ⟨x,rfl,hf,hb⟩;exact hK.out _ _ (QAk hf) hb
     ·intro a wx hB hold hdep K hK;have t12:a.tmps[12]? = some (.slice adr r.length cpr):=hold.2.2 12 rfl;clear hold hdep;go_simp;exact hK.out _ _ rfl (Below.refl _ _)
     ·intro a wx hB hold hdep K hK;have t225:=QAF wx (hdep 4 rfl _ 225 rfl rfl);obtain⟨v229,t229,p229⟩:=hdep 8 rfl _ 229 rfl rfl;obtain⟨ad229,m229,cp229,e229,f229⟩:=p229;subst e229;have H229:Hid (FL wx _ ((l.erase (.mk k n ks))++[fz])):=f229;clear f229;have t230:=QAF wx (hdep 9 rfl _ 230 rfl rfl);clear hold hdep;go_simp;refine (QAg _ _ _ _ _ _ wx).mono ?_;rintro e w1 ⟨rfl,hb⟩;exact hK.out _ _ ⟨_,_,_,_,_,_,rfl,((H229.out).up hb),((HRx.out.up hB).up hb)⟩ hb
     ·intro a wx hB hold hdep K hK;obtain⟨v224,t224,p224⟩:=hdep 3 rfl _ 224 rfl rfl;obtain⟨a224,m224,b224,c224,n224,d224,e224,f224,g224⟩:=p224;subst e224;have H224:Hid (FL wx _ (l.erase (.mk k n ks))):=f224;have J224:Hid (FL wx _ [fa]):=g224;clear f224 g224;obtain⟨v231,t231,p231⟩:=hdep 10 rfl _ 231 rfl rfl;obtain⟨a231,m231,b231,c231,n231,d231,e231,f231,g231⟩:=p231;subst e231;have H231:Hid (FL wx _ ((l.erase (.mk k n ks))++[fz])):=f231;have J231:Hid (FL wx _ r):=g231;clear f231 g231;clear hold hdep;go_simp;exact hK.out _ _ (SQs.two (QAH wx _) (H224.out.up (QAB (Below.refl _ wx) _)) (J224.out.up (QAB (Below.refl _ wx) _)) (H231.out.up (QAB (Below.refl _ wx) _)) (J231.out.up (QAB (Below.refl _ wx) _))) (QAB (Below.refl _ wx) _)
     ·intro a wx hB hold hdep K hK;have t5:a.tmps[5]? = some (.pointer (some ⟨w.heap.size,0,none⟩)):=hold.2.2 5 rfl;clear hold hdep;go_simp;exact hK.out _ _ rfl (Below.refl _ _)
     ·intro a wx hB hold hdep K hK;have t233:=QAF wx (hdep 12 rfl _ 233 rfl rfl);obtain⟨k0,k1,k2',-⟩:=QAb (QAA hB HBF.out);clear hold hdep;go_simp;exact hK.out _ _ rfl (Below.refl _ _)
     ·intro a wx hB hold hdep K hK;have t234:=QAF wx (hdep 13 rfl _ 234 rfl rfl);clear hold hdep;go_simp;exact hK.out _ _ rfl (Below.refl _ _)
     ·intro a wx hB hold hdep K hK;have t235:=QAF wx (hdep 14 rfl _ 235 rfl rfl);clear hold hdep;go_simp;exact hK.out _ _ rfl (Below.refl _ _)
     ·intro a wx hB hold hdep K hK;obtain⟨v236,t236,p236⟩:=hdep 15 rfl _ 236 rfl rfl;have e236:v236=(.bool (k == 7)):=p236;subst e236;have t15:a.tmps[15]? = some (.bool bl):=hold.2.2 15 rfl;clear hold hdep;cases hq:(k == 7)
      ·rw [hq] at t236
       go_simp;(exact hK.out _ _ (fun h=>by rw [hq] at h;cases h) (Below.refl _ _))
      ·rw [hq] at t236
       go_simp;(exact hK.out _ _ (fun _=>rfl) (Below.refl _ _))
     ·intro a wx hB hold hdep K hK;have t236:=QAF wx (hdep 15 rfl _ 236 rfl rfl);obtain⟨v237,t237,p237⟩:=hdep 16 rfl _ 237 rfl rfl;have P237:Hid (kGd (k == 7) (.bool bl) v237 wx):=p237;clear hold hdep p237;cases hq:(k == 7)
      ·rw [hq] at t236
       go_simp;(exact hK.out _ _ (by rw [hq];rfl) (Below.refl _ _))
      ·rw [hq] at t236
       have e237:v237=(.bool bl):=P237.out hq;subst e237;go_simp;(exact hK.out _ _ (by rw [hq];rfl) (Below.refl _ _))
     ·intro a wx hB hold hdep K hK;obtain⟨v232,t232,p232⟩:=hdep 11 rfl _ 232 rfl rfl;have P232:Hid (QBR [((l.erase (.mk k n ks)),[fa]),(((l.erase (.mk k n ks))++[fz]),r)] v232 wx):=p232;clear p232 hold hdep;go_simp;exact hK.out _ _ P232.out (Below.refl _ _)
     ·intro a wx hB hold hdep K hK;clear hold hdep;go_simp;exact hK.out _ _ rfl (Below.refl _ _)
     ·intro a wx hB hold hdep K hK;have t238:=QAF wx (hdep 17 rfl _ 238 rfl rfl);clear hold hdep;go_simp;exact hK.out _ _ rfl (Below.refl _ _)
    ·intro a wx hB hold hgot
     (obtain⟨v8,t8,p8⟩:=hgot 18 _ 8 rfl rfl;have P8:Hid (SQs wx v8 [((l.erase (.mk k n ks)),[fa]),(((l.erase (.mk k n ks))++[fz]),r)]):=p8;obtain⟨v9,t9,p9⟩:=hgot 19 _ 9 rfl rfl;have e9:v9=(.bool true):=p9;subst e9;obtain⟨v10,t10,p10⟩:=hgot 20 _ 10 rfl rfl;have e10:v10=(.bool ((k == 7) && bl)):=p10;subst e10;have hD:a.defers=[]:=hold.2.1;clear hold hgot p8 p9 p10;go_wp2_with fail;(exact bodyPost_ret (v := .tuple #[v8,(.bool true),(.bool ((k == 7) && bl))]) (by simp [results,Tryz.results104,go_sem,t8,t9,t10]) hD ⟨_,by rw [HOK.out];rfl,by rw [HPL.out];exact P8.out,QAC (QAC B4 BX.out) hB⟩))
 ·cases i
  ·rcases QAr HF.out B4 with ⟨hp0,HRA,HRZ,HKA,HKZ⟩|⟨b,off,m,ka,na,ksa,sa,ca,kz,nz,ksz,sz,cz,rfl,g0,g1,g2,u0,u1,u2,hmI,hp0,hp1,hp2,hp3,d1,d2,hpos,zb,HRA,HRZ,HKA,HKZ⟩
   all_goals go_wp2_with fail
   all_goals
    first | (obtain⟨X,hX⟩:∃ X,X=QAY w4 (.int .i64 ka) (.string na) (.slice sa ksa.length ca) (.int .i64 kz) (.string nz) (.slice sz ksz.length cz):=⟨_,rfl⟩;unfold QAY at hX;rw [← hX]) | (obtain⟨X,hX⟩:∃ X,X=QAY w4 (.int .i64 0) (.string ⟨#[]⟩) (.slice none 0 0) (.int .i64 0) (.string ⟨#[]⟩) (.slice none 0 0):=⟨_,rfl⟩;unfold QAY at hX;rw [← hX])
    obtain⟨a0,a1,a2,z0,z1,z2,f2,fa,fz,BX,HBA,HBZ,HBF,HLx,HRx,HGx,HDx,HRAx,HRZx,HRFx,HOx,HKA,HKZ⟩:=QBG hX B4 Q5 HF HRA HRZ HL HR HG4 HD4 HKA HKZ
    have HPL:Hid (QAl false .notL (.mk k n ks) l r=[((l.erase (.mk k n ks)),(r++[fa]))]):=by
     show _=_;unfold QAl
     first|rfl | (rw [HKA.out,HKZ.out];first|done|rfl) | (rw [HKA.out];first|done|rfl) | (rw [HKZ.out];first|done|rfl)
    (refine QAT (by kernel_rfl) [kEq (.func (.func 150) #[] #[]),kEq (.slice adg (l.erase (.mk k n ks)).length cpg),kEq (.slice adr r.length cpr),kEq (.agg #[a0,a1,a2]),kFL [fa],kFL (r++[fa]),kSQ ((l.erase (.mk k n ks)),(r++[fa])),QBR [((l.erase (.mk k n ks)),(r++[fa]))],kEq (.pointer (some ⟨w.heap.size,0,none⟩)),kEq (.int .i64 k),kEq (.bool (k == 4)),kEq (.bool (k == 4)),kGd (k == 4) (.bool bl),kEq (.bool ((k == 4) && bl)),QBR [((l.erase (.mk k n ks)),(r++[fa]))],kEq (.bool true),kEq (.bool ((k == 4) && bl))] ?_ (by kernel_rfl) (by kernel_rfl) 349 rfl (by kernel_rfl) ?_ ?_)
    ·intro p hp
     simp only [List.mem_cons,List.not_mem_nil,or_false] at hp
     rcases hp with rfl|rfl|rfl|rfl|rfl|rfl|rfl|rfl|rfl|rfl|rfl|rfl|rfl|rfl|rfl|rfl|rfl
     all_goals first|exact QAe _|exact QBC _|exact QBE _|exact QAq _|exact QBD _ _
    ·refine⟨?_,?_,?_,?_,?_,?_,?_,?_,?_,?_,?_,?_,?_,?_,?_,?_,?_,trivial⟩
     ·intro a wx hB hold hdep K hK;have t19:a.tmps[19]? = some (.func (.func 150) #[] #[]):=hold.2.2 19 rfl;clear hold hdep;go_simp;exact hK.out _ _ rfl (Below.refl _ _)
     ·intro a wx hB hold hdep K hK;have t13:a.tmps[13]? = some (.slice adg (l.erase (.mk k n ks)).length cpg):=hold.2.2 13 rfl;clear hold hdep;go_simp;exact hK.out _ _ rfl (Below.refl _ _)
     ·intro a wx hB hold hdep K hK;have t12:a.tmps[12]? = some (.slice adr r.length cpr):=hold.2.2 12 rfl;clear hold hdep;go_simp;exact hK.out _ _ rfl (Below.refl _ _)
     ·intro a wx hB hold hdep K hK;have t17:a.tmps[17]? = some (.pointer (some ⟨w4.heap.size,0,none⟩)):=hold.2.2 17 rfl;obtain⟨k0,k1,k2',-⟩:=QAb (QAA hB HBA.out);clear hold hdep;go_simp;exact hK.out _ _ rfl (Below.refl _ _)
     ·intro a wx hB hold hdep K hK;have t277:=QAF wx (hdep 3 rfl _ 277 rfl rfl);clear hold hdep;go_simp;exact hK.out _ _ (QAk (FL.sing (QAH wx _) ((HRAx.out.up hB).more _))) (QAB (Below.refl _ wx) _)
     ·intro a wx hB hold hdep K hK;have t276:=QAF wx (hdep 2 rfl _ 276 rfl rfl);obtain⟨v278,t278,p278⟩:=hdep 4 rfl _ 278 rfl rfl;obtain⟨ad278,m278,cp278,e278,f278⟩:=p278;subst e278;have H278:Hid (FL wx _ [fa]):=f278;clear f278;clear hold hdep;go_simp;(refine (QAv r [fa] (by have:=HE1.out;have:=HE2.out;first|omega|simp) (by simp) _ _ wx (HRx.out.up hB) H278.out).mono ?_);rintro e w1 ⟨x,rfl,hf,hb⟩;exact hK.out _ _ (QAk hf) hb
     ·intro a wx hB hold hdep K hK;have t274:=QAF wx (hdep 0 rfl _ 274 rfl rfl);have t275:=QAF wx (hdep 1 rfl _ 275 rfl rfl);obtain⟨v279,t279,p279⟩:=hdep 5 rfl _ 279 rfl rfl;obtain⟨ad279,m279,cp279,e279,f279⟩:=p279;subst e279;have H279:Hid (FL wx _ (r++[fa])):=f279;clear f279;clear hold hdep;go_simp;refine (QAg _ _ _ _ _ _ wx).mono ?_;rintro e w1 ⟨rfl,hb⟩;exact hK.out _ _ ⟨_,_,_,_,_,_,rfl,((HGx.out.up hB).up hb),((H279.out).up hb)⟩ hb
     ·intro a wx hB hold hdep K hK;obtain⟨v280,t280,p280⟩:=hdep 6 rfl _ 280 rfl rfl;obtain⟨a280,m280,b280,c280,n280,d280,e280,f280,g280⟩:=p280;subst e280;have H280:Hid (FL wx _ (l.erase (.mk k n ks))):=f280;have J280:Hid (FL wx _ (r++[fa])):=g280;clear f280 g280;clear hold hdep;go_simp;exact hK.out _ _ (SQs.one (QAH wx _) (H280.out.up (QAB (Below.refl _ wx) _)) (J280.out.up (QAB (Below.refl _ wx) _))) (QAB (Below.refl _ wx) _)
     ·intro a wx hB hold hdep K hK;have t5:a.tmps[5]? = some (.pointer (some ⟨w.heap.size,0,none⟩)):=hold.2.2 5 rfl;clear hold hdep;go_simp;exact hK.out _ _ rfl (Below.refl _ _)
     ·intro a wx hB hold hdep K hK;have t282:=QAF wx (hdep 8 rfl _ 282 rfl rfl);obtain⟨k0,k1,k2',-⟩:=QAb (QAA hB HBF.out);clear hold hdep;go_simp;exact hK.out _ _ rfl (Below.refl _ _)
     ·intro a wx hB hold hdep K hK;have t283:=QAF wx (hdep 9 rfl _ 283 rfl rfl);clear hold hdep;go_simp;exact hK.out _ _ rfl (Below.refl _ _)
     ·intro a wx hB hold hdep K hK;have t284:=QAF wx (hdep 10 rfl _ 284 rfl rfl);clear hold hdep;go_simp;exact hK.out _ _ rfl (Below.refl _ _)
     ·intro a wx hB hold hdep K hK;obtain⟨v285,t285,p285⟩:=hdep 11 rfl _ 285 rfl rfl;have e285:v285=(.bool (k == 4)):=p285;subst e285;have t15:a.tmps[15]? = some (.bool bl):=hold.2.2 15 rfl;clear hold hdep;cases hq:(k == 4)
      ·rw [hq] at t285
       go_simp;(exact hK.out _ _ (fun h=>by rw [hq] at h;cases h) (Below.refl _ _))
      ·rw [hq] at t285
       go_simp;(exact hK.out _ _ (fun _=>rfl) (Below.refl _ _))
     ·intro a wx hB hold hdep K hK;have t285:=QAF wx (hdep 11 rfl _ 285 rfl rfl);obtain⟨v286,t286,p286⟩:=hdep 12 rfl _ 286 rfl rfl;have P286:Hid (kGd (k == 4) (.bool bl) v286 wx):=p286;clear hold hdep p286;cases hq:(k == 4)
      ·rw [hq] at t285
       go_simp;(exact hK.out _ _ (by rw [hq];rfl) (Below.refl _ _))
      ·rw [hq] at t285
       have e286:v286=(.bool bl):=P286.out hq;subst e286;go_simp;(exact hK.out _ _ (by rw [hq];rfl) (Below.refl _ _))
     ·intro a wx hB hold hdep K hK;obtain⟨v281,t281,p281⟩:=hdep 7 rfl _ 281 rfl rfl;have P281:Hid (QBR [((l.erase (.mk k n ks)),(r++[fa]))] v281 wx):=p281;clear p281 hold hdep;go_simp;exact hK.out _ _ P281.out (Below.refl _ _)
     ·intro a wx hB hold hdep K hK;clear hold hdep;go_simp;exact hK.out _ _ rfl (Below.refl _ _)
     ·intro a wx hB hold hdep K hK;have t287:=QAF wx (hdep 13 rfl _ 287 rfl rfl);clear hold hdep;go_simp;exact hK.out _ _ rfl (Below.refl _ _)
    ·intro a wx hB hold hgot
     (obtain⟨v8,t8,p8⟩:=hgot 14 _ 8 rfl rfl;have P8:Hid (SQs wx v8 [((l.erase (.mk k n ks)),(r++[fa]))]):=p8;obtain⟨v9,t9,p9⟩:=hgot 15 _ 9 rfl rfl;have e9:v9=(.bool true):=p9;subst e9;obtain⟨v10,t10,p10⟩:=hgot 16 _ 10 rfl rfl;have e10:v10=(.bool ((k == 4) && bl)):=p10;subst e10;have hD:a.defers=[]:=hold.2.1;clear hold hgot p8 p9 p10;go_wp2_with fail;(exact bodyPost_ret (v := .tuple #[v8,(.bool true),(.bool ((k == 4) && bl))]) (by simp [results,Tryz.results104,go_sem,t8,t9,t10]) hD ⟨_,by rw [HOK.out];rfl,by rw [HPL.out];exact P8.out,QAC (QAC B4 BX.out) hB⟩))
  ·rcases QAr HF.out B4 with ⟨hp0,HRA,HRZ,HKA,HKZ⟩|⟨b,off,m,ka,na,ksa,sa,ca,kz,nz,ksz,sz,cz,rfl,g0,g1,g2,u0,u1,u2,hmI,hp0,hp1,hp2,hp3,d1,d2,hpos,zb,HRA,HRZ,HKA,HKZ⟩
   all_goals go_wp2_with fail
   all_goals
    first | (obtain⟨X,hX⟩:∃ X,X=QAY w4 (.int .i64 ka) (.string na) (.slice sa ksa.length ca) (.int .i64 kz) (.string nz) (.slice sz ksz.length cz):=⟨_,rfl⟩;unfold QAY at hX;rw [← hX]) | (obtain⟨X,hX⟩:∃ X,X=QAY w4 (.int .i64 0) (.string ⟨#[]⟩) (.slice none 0 0) (.int .i64 0) (.string ⟨#[]⟩) (.slice none 0 0):=⟨_,rfl⟩;unfold QAY at hX;rw [← hX])
    obtain⟨a0,a1,a2,z0,z1,z2,f2,fa,fz,BX,HBA,HBZ,HBF,HLx,HRx,HGx,HDx,HRAx,HRZx,HRFx,HOx,HKA,HKZ⟩:=QBG hX B4 Q5 HF HRA HRZ HL HR HG4 HD4 HKA HKZ
    have HPL:Hid (QAl true .notL (.mk k n ks) l r=[((l.erase (.mk k n ks)),[fa])]):=by
     show _=_;unfold QAl
     first|rfl | (rw [HKA.out,HKZ.out];first|done|rfl) | (rw [HKA.out];first|done|rfl) | (rw [HKZ.out];first|done|rfl)
    (refine QAT (by kernel_rfl) [kEq (.func (.func 150) #[] #[]),kEq (.slice adg (l.erase (.mk k n ks)).length cpg),kEq (.slice (some ⟨w4.heap.size+1+1,0,none⟩) 1 1),kSQ ((l.erase (.mk k n ks)),[fa]),QBR [((l.erase (.mk k n ks)),[fa])],kEq (.pointer (some ⟨w.heap.size,0,none⟩)),kEq (.int .i64 k),kEq (.bool (k == 4)),kEq (.bool (k == 4)),kGd (k == 4) (.bool bl),kEq (.bool ((k == 4) && bl)),QBR [((l.erase (.mk k n ks)),[fa])],kEq (.bool true),kEq (.bool ((k == 4) && bl))] ?_ (by kernel_rfl) (by kernel_rfl) 349 rfl (by kernel_rfl) ?_ ?_)
    ·intro p hp
     simp only [List.mem_cons,List.not_mem_nil,or_false] at hp
     rcases hp with rfl|rfl|rfl|rfl|rfl|rfl|rfl|rfl|rfl|rfl|rfl|rfl|rfl|rfl
     all_goals first|exact QAe _|exact QBC _|exact QBE _|exact QAq _|exact QBD _ _
    ·refine⟨?_,?_,?_,?_,?_,?_,?_,?_,?_,?_,?_,?_,?_,?_,trivial⟩
     ·intro a wx hB hold hdep K hK;have t19:a.tmps[19]? = some (.func (.func 150) #[] #[]):=hold.2.2 19 rfl;clear hold hdep;go_simp;exact hK.out _ _ rfl (Below.refl _ _)
     ·intro a wx hB hold hdep K hK;have t13:a.tmps[13]? = some (.slice adg (l.erase (.mk k n ks)).length cpg):=hold.2.2 13 rfl;clear hold hdep;go_simp;exact hK.out _ _ rfl (Below.refl _ _)
     ·intro a wx hB hold hdep K hK;have t20:a.tmps[20]? = some (.slice (some ⟨w4.heap.size+1+1,0,none⟩) 1 1):=hold.2.2 20 rfl;clear hold hdep;go_simp;exact hK.out _ _ rfl (Below.refl _ _)
     ·intro a wx hB hold hdep K hK;have t263:=QAF wx (hdep 0 rfl _ 263 rfl rfl);have t264:=QAF wx (hdep 1 rfl _ 264 rfl rfl);have t265:=QAF wx (hdep 2 rfl _ 265 rfl rfl);clear hold hdep;go_simp;refine (QAg _ _ _ _ _ _ wx).mono ?_;rintro e w1 ⟨rfl,hb⟩;exact hK.out _ _ ⟨_,_,_,_,_,_,rfl,((HGx.out.up hB).up hb),((HOx.out.up hB).up hb)⟩ hb
     ·intro a wx hB hold hdep K hK;obtain⟨v266,t266,p266⟩:=hdep 3 rfl _ 266 rfl rfl;obtain⟨a266,m266,b266,c266,n266,d266,e266,f266,g266⟩:=p266;subst e266;have H266:Hid (FL wx _ (l.erase (.mk k n ks))):=f266;have J266:Hid (FL wx _ [fa]):=g266;clear f266 g266;clear hold hdep;go_simp;exact hK.out _ _ (SQs.one (QAH wx _) (H266.out.up (QAB (Below.refl _ wx) _)) (J266.out.up (QAB (Below.refl _ wx) _))) (QAB (Below.refl _ wx) _)
     ·intro a wx hB hold hdep K hK;have t5:a.tmps[5]? = some (.pointer (some ⟨w.heap.size,0,none⟩)):=hold.2.2 5 rfl;clear hold hdep;go_simp;exact hK.out _ _ rfl (Below.refl _ _)
     ·intro a wx hB hold hdep K hK;have t268:=QAF wx (hdep 5 rfl _ 268 rfl rfl);obtain⟨k0,k1,k2',-⟩:=QAb (QAA hB HBF.out);clear hold hdep;go_simp;exact hK.out _ _ rfl (Below.refl _ _)
     ·intro a wx hB hold hdep K hK;have t269:=QAF wx (hdep 6 rfl _ 269 rfl rfl);clear hold hdep;go_simp;exact hK.out _ _ rfl (Below.refl _ _)
     ·intro a wx hB hold hdep K hK;have t270:=QAF wx (hdep 7 rfl _ 270 rfl rfl);clear hold hdep;go_simp;exact hK.out _ _ rfl (Below.refl _ _)
     ·intro a wx hB hold hdep K hK;obtain⟨v271,t271,p271⟩:=hdep 8 rfl _ 271 rfl rfl;have e271:v271=(.bool (k == 4)):=p271;subst e271;have t15:a.tmps[15]? = some (.bool bl):=hold.2.2 15 rfl;clear hold hdep;cases hq:(k == 4)
      ·rw [hq] at t271
       go_simp;(exact hK.out _ _ (fun h=>by rw [hq] at h;cases h) (Below.refl _ _))
      ·rw [hq] at t271
       go_simp;(exact hK.out _ _ (fun _=>rfl) (Below.refl _ _))
     ·intro a wx hB hold hdep K hK;have t271:=QAF wx (hdep 8 rfl _ 271 rfl rfl);obtain⟨v272,t272,p272⟩:=hdep 9 rfl _ 272 rfl rfl;have P272:Hid (kGd (k == 4) (.bool bl) v272 wx):=p272;clear hold hdep p272;cases hq:(k == 4)
      ·rw [hq] at t271
       go_simp;(exact hK.out _ _ (by rw [hq];rfl) (Below.refl _ _))
      ·rw [hq] at t271
       have e272:v272=(.bool bl):=P272.out hq;subst e272;go_simp;(exact hK.out _ _ (by rw [hq];rfl) (Below.refl _ _))
     ·intro a wx hB hold hdep K hK;obtain⟨v267,t267,p267⟩:=hdep 4 rfl _ 267 rfl rfl;have P267:Hid (QBR [((l.erase (.mk k n ks)),[fa])] v267 wx):=p267;clear p267 hold hdep;go_simp;exact hK.out _ _ P267.out (Below.refl _ _)
     ·intro a wx hB hold hdep K hK;clear hold hdep;go_simp;exact hK.out _ _ rfl (Below.refl _ _)
     ·intro a wx hB hold hdep K hK;have t273:=QAF wx (hdep 10 rfl _ 273 rfl rfl);clear hold hdep;go_simp;exact hK.out _ _ rfl (Below.refl _ _)
    ·intro a wx hB hold hgot
     (obtain⟨v8,t8,p8⟩:=hgot 11 _ 8 rfl rfl;have P8:Hid (SQs wx v8 [((l.erase (.mk k n ks)),[fa])]):=p8;obtain⟨v9,t9,p9⟩:=hgot 12 _ 9 rfl rfl;have e9:v9=(.bool true):=p9;subst e9;obtain⟨v10,t10,p10⟩:=hgot 13 _ 10 rfl rfl;have e10:v10=(.bool ((k == 4) && bl)):=p10;subst e10;have hD:a.defers=[]:=hold.2.1;clear hold hgot p8 p9 p10;go_wp2_with fail;(exact bodyPost_ret (v := .tuple #[v8,(.bool true),(.bool ((k == 4) && bl))]) (by simp [results,Tryz.results104,go_sem,t8,t9,t10]) hD ⟨_,by rw [HOK.out];rfl,by rw [HPL.out];exact P8.out,QAC (QAC B4 BX.out) hB⟩))
end Go.Proofs.YtbmedfokpgghiacGreat
