import Derived.Test.YtffkoiemnchdgadGreatB37
namespace Go.Proofs.YtffkoiemnchdgadGreat
open Go.RowKit
set_option maxRecDepth 10000 in
set_option maxHeartbeats 8000000 in
theorem QFe (i:Bool) (q:Ru) (t:ByteArray) (hq:(q = .orR1∧t=⟨#[111,114,45,114,49]⟩)∨(q = .orR2∧t=⟨#[111,114,45,114,50]⟩)∨(q = .contrL∧t=⟨#[99,111,110,116,114,45,108]⟩)∨(q = .contrR∧t=⟨#[99,111,110,116,114,45,114]⟩)) (f:Fm) (l r:List Fm) (hl3:l.length≤300) (hr3:r.length≤300) (v VL VR:Value) (w:World) (hf:Rep w (fun _=>True) f v) (hl:FL w VL l) (hr:FL w VR r) :
  Calls Tryz.prog 113 #[.string t,v,.agg #[VL,VR],.bool i] w fun e w'=>∃ x,e = .returned (.tuple #[x,.bool (QBO i q),.bool (QAz q f l r)])∧SQs w' x (QAb i q f l r)∧Below w.heap.size w w':=by
 obtain⟨k,n,ks⟩:=f;obtain⟨sf,cf,rfl⟩:=QAJ hf;(have HF:Hid (Rep w (fun _=>True) (.mk k n ks) _):=hf);have HL:Hid (FL w VL l):=hl;have HR:Hid (FL w VR r):=hr;have HKS:=(Rep.def.1 hf);obtain⟨sf',cf',hv,-,hkc,hcm,hkr⟩:=HKS;simp only [Value.agg.injEq,Array.mk.injEq,List.cons.injEq,Value.slice.injEq,and_true,true_and] at hv;obtain⟨rfl,rfl⟩:=hv;(have hksI:(ks.length:Int)≤9223372036854775807:=by unfold maxLen at hcm;omega);(have hkcI:(ks.length:Int)≤(cf:Int):=by omega);obtain⟨adl,cpl,rfl,-⟩:=hl;obtain⟨adr,cpr,rfl,-⟩:=hr;obtain⟨O1,hO1⟩:∃ O,O=Obj.cells #[.int .i64 k,.string n,.slice sf ks.length cf] 24 (0,0):=⟨_,rfl⟩;obtain⟨O2,hO2⟩:∃ O,O=Obj.cells #[.slice adl l.length cpl,.slice adr r.length cpr] 28 (0,0):=⟨_,rfl⟩;obtain⟨W,hW⟩:∃ W,W=(w.alloc O1).alloc O2:=⟨_,rfl⟩;(have B0:Below w.heap.size w W:=by rw [hW];exact QAA (QAA (Below.refl _ w) _) _);(have p1:W.heap[w.heap.size]? = some O1:=by rw [hW];exact QAF (QAG w O1) _);(have p2:W.heap[w.heap.size+1]? = some O2:=by rw [hW];exact QAd w O1 O2);rw [hO1] at p1;rw [hO2] at p2;have P1:Hid (W.heap[w.heap.size]? = some _):=p1;have P2:Hid (W.heap[w.heap.size+1]? = some _):=p2;have HWe:Hid ((w.alloc O1).alloc O2=W):=hW.symm;clear hf hkr p1 p2 hW
 go_enter Tryz.func113,Tryz.ntmps113
 go_wp2_with fail;rw [← hO1,← hO2,HWe.out];clear hO1 hO2 HWe;(refine (QAw l (by omega) (.mk k n ks) _ _ W (HL.out.up B0) (HF.out.up B0)).mono ?_);rintro e w1 ⟨x1,rfl,hg,hb1⟩;have B1:=QAC B0 hb1;have Q1:Hid (w1.heap[w.heap.size]? = some _):=QAB hb1 P1.out;have Q2:Hid (w1.heap[w.heap.size+1]? = some _):=QAB hb1 P2.out;obtain⟨adg,cpg,rfl,-⟩:=id hg;have HG1:Hid (FL w1 _ (l.erase (.mk k n ks))):=hg;clear hg hb1 P1 P2 B0;obtain⟨j0,j1,j2,-⟩:=QAX Q1.out;go_wp2_with fail;(refine (QAw r (by omega) (.mk k n ks) _ _ w1 (HR.out.up B1) (HF.out.up B1)).mono ?_);rintro e w2 ⟨x2,rfl,hd,hb2⟩;have B2:=QAC B1 hb2;have Q3:Hid (w2.heap[w.heap.size]? = some _):=QAB hb2 Q1.out;obtain⟨add,cpd,rfl,-⟩:=id hd;have HD2:Hid (FL w2 _ (r.erase (.mk k n ks))):=hd;have HG2:Hid (FL w2 _ (l.erase (.mk k n ks))):=HG1.out.up hb2;clear hd hb2 Q1 Q2 j0 j1 j2 HG1 B1;obtain⟨j0,j1,j2,-⟩:=QAX Q3.out;go_wp2_with fail;refine (QBJ l (.mk k n ks) _ _ w2 (HL.out.up B2) (HF.out.up B2)).mono ?_;rintro e w3 ⟨rfl,hb3⟩;have B3:=QAC B2 hb3;have Q4:Hid (w3.heap[w.heap.size]? = some _):=QAB hb3 Q3.out;have HD3:Hid (FL w3 _ (r.erase (.mk k n ks))):=HD2.out.up hb3;have HG3:Hid (FL w3 _ (l.erase (.mk k n ks))):=HG2.out.up hb3;clear hb3 Q3 j0 j1 j2 HG2 HD2 B2;obtain⟨j0,j1,j2,-⟩:=QAX Q4.out;go_wp2_with fail;refine (QBJ r (.mk k n ks) _ _ w3 (HR.out.up B3) (HF.out.up B3)).mono ?_;rintro e w4 ⟨rfl,hb4⟩;have B4:=QAC B3 hb4;have Q5:Hid (w4.heap[w.heap.size]? = some _):=QAB hb4 Q4.out;have HD4:Hid (FL w4 _ (r.erase (.mk k n ks))):=HD3.out.up hb4;have HG4:Hid (FL w4 _ (l.erase (.mk k n ks))):=HG3.out.up hb4;clear hb4 Q4 j0 j1 j2 HG3 HD3 B3;obtain⟨j0,j1,j2,-⟩:=QAX Q5.out;have z4:=QAE Q5.out;have HOK:Hid (QAz q (.mk k n ks) l r=QBT q k (QAh (.mk k n ks) l) (QAh (.mk k n ks) r)):=QBo _ _ _ _ _ _;generalize QAh (.mk k n ks) l=bl at *;generalize QAh (.mk k n ks) r=br at *;have HE1:Hid ((l.erase (.mk k n ks)).length≤300):=Nat.le_trans List.length_erase_le hl3;have HE2:Hid ((r.erase (.mk k n ks)).length≤300):=Nat.le_trans List.length_erase_le hr3
 rcases hq with ⟨rfl,rfl⟩|⟨rfl,rfl⟩|⟨rfl,rfl⟩|⟨rfl,rfl⟩
 ·rcases QAj HF.out B4 with ⟨hp0,HRA,HRZ,HKA,HKZ⟩|⟨b,off,m,ka,na,ksa,sa,ca,kz,nz,ksz,sz,cz,rfl,g0,g1,g2,u0,u1,u2,hmI,hp0,hp1,hp2,hp3,d1,d2,hpos,zb,HRA,HRZ,HKA,HKZ⟩
  all_goals go_wp2_with fail
  all_goals
   first | (obtain⟨X,hX⟩:∃ X,X=QAO w4 (.int .i64 ka) (.string na) (.slice sa ksa.length ca) (.int .i64 kz) (.string nz) (.slice sz ksz.length cz):=⟨_,rfl⟩;unfold QAO at hX;rw [← hX]) | (obtain⟨X,hX⟩:∃ X,X=QAO w4 (.int .i64 0) (.string ⟨#[]⟩) (.slice none 0 0) (.int .i64 0) (.string ⟨#[]⟩) (.slice none 0 0):=⟨_,rfl⟩;unfold QAO at hX;rw [← hX])
   obtain⟨a0,a1,a2,z0,z1,z2,f2,fa,fz,BX,HBA,HBZ,HBF,HLx,HRx,HGx,HDx,HRAx,HRZx,HRFx,HOx,HKA,HKZ⟩:=QAs hX B4 Q5 HF HRA HRZ HL HR HG4 HD4 HKA HKZ
   have HPL:Hid (QAb i .orR1 (.mk k n ks) l r=[(l,[fa])]):=by
    show _=_;unfold QAb
    first|rfl | (rw [HKA.out,HKZ.out];first|done|rfl) | (rw [HKA.out];first|done|rfl) | (rw [HKZ.out];first|done|rfl)
   (refine QAK (by kernel_rfl) [kEq (.func (.func 144) #[] #[]),kEq (.slice adl l.length cpl),kEq (.slice (some ⟨w4.heap.size+1+1,0,none⟩) 1 1),kSQ (l,[fa]),QAW [(l,[fa])],kEq (.bool i),kEq (.pointer (some ⟨w.heap.size,0,none⟩)),kEq (.int .i64 k),kEq (.bool (k == 6)),kEq (.bool (k == 6)),kGd (k == 6) (.bool br),kEq (.bool ((k == 6) && br)),QAW [(l,[fa])],kEq (.bool i),kEq (.bool ((k == 6) && br))] ?_ (by kernel_rfl) (by kernel_rfl) 349 rfl (by kernel_rfl) ?_ ?_)
   ·intro p hp
    simp only [List.mem_cons,List.not_mem_nil,or_false] at hp
    rcases hp with rfl|rfl|rfl|rfl|rfl|rfl|rfl|rfl|rfl|rfl|rfl|rfl|rfl|rfl|rfl
    all_goals first|exact QAN _|exact QAR _|exact QAS _|exact QAP _|exact QAq _ _
   ·refine⟨?_,?_,?_,?_,?_,?_,?_,?_,?_,?_,?_,?_,?_,?_,?_,trivial⟩
    ·intro a wx hB hold hdep K hK;have t19:a.tmps[19]? = some (.func (.func 144) #[] #[]):=hold.2.2 19 rfl;clear hold hdep;go_simp;exact hK.out _ _ rfl (Below.refl _ _)
    ·intro a wx hB hold hdep K hK;have t11:a.tmps[11]? = some (.slice adl l.length cpl):=hold.2.2 11 rfl;clear hold hdep;go_simp;exact hK.out _ _ rfl (Below.refl _ _)
    ·intro a wx hB hold hdep K hK;have t20:a.tmps[20]? = some (.slice (some ⟨w4.heap.size+1+1,0,none⟩) 1 1):=hold.2.2 20 rfl;clear hold hdep;go_simp;exact hK.out _ _ rfl (Below.refl _ _)
    ·intro a wx hB hold hdep K hK;have t322:=QAD wx (hdep 0 rfl _ 322 rfl rfl);have t323:=QAD wx (hdep 1 rfl _ 323 rfl rfl);have t324:=QAD wx (hdep 2 rfl _ 324 rfl rfl);clear hold hdep;go_simp;refine (QAY _ _ _ _ _ _ wx).mono ?_;rintro e w1 ⟨rfl,hb⟩;exact hK.out _ _ ⟨_,_,_,_,_,_,rfl,((HLx.out.up hB).up hb),((HOx.out.up hB).up hb)⟩ hb
    ·intro a wx hB hold hdep K hK;obtain⟨v325,t325,p325⟩:=hdep 3 rfl _ 325 rfl rfl;obtain⟨a325,m325,b325,c325,n325,d325,e325,f325,g325⟩:=p325;subst e325;have H325:Hid (FL wx _ l):=f325;have J325:Hid (FL wx _ [fa]):=g325;clear f325 g325;clear hold hdep;go_simp;exact hK.out _ _ (SQs.one (QAG wx _) (H325.out.up (QAA (Below.refl _ wx) _)) (J325.out.up (QAA (Below.refl _ wx) _))) (QAA (Below.refl _ wx) _)
    ·intro a wx hB hold hdep K hK;have t3:a.tmps[3]? = some (.bool i):=hold.2.2 3 rfl;clear hold hdep;go_simp;exact hK.out _ _ rfl (Below.refl _ _)
    ·intro a wx hB hold hdep K hK;have t5:a.tmps[5]? = some (.pointer (some ⟨w.heap.size,0,none⟩)):=hold.2.2 5 rfl;clear hold hdep;go_simp;exact hK.out _ _ rfl (Below.refl _ _)
    ·intro a wx hB hold hdep K hK;have t328:=QAD wx (hdep 6 rfl _ 328 rfl rfl);obtain⟨k0,k1,k2',-⟩:=QAX (QAB hB HBF.out);clear hold hdep;go_simp;exact hK.out _ _ rfl (Below.refl _ _)
    ·intro a wx hB hold hdep K hK;have t329:=QAD wx (hdep 7 rfl _ 329 rfl rfl);clear hold hdep;go_simp;exact hK.out _ _ rfl (Below.refl _ _)
    ·intro a wx hB hold hdep K hK;have t330:=QAD wx (hdep 8 rfl _ 330 rfl rfl);clear hold hdep;go_simp;exact hK.out _ _ rfl (Below.refl _ _)
    ·intro a wx hB hold hdep K hK;obtain⟨v331,t331,p331⟩:=hdep 9 rfl _ 331 rfl rfl;have e331:v331=(.bool (k == 6)):=p331;subst e331;have t16:a.tmps[16]? = some (.bool br):=hold.2.2 16 rfl;clear hold hdep;cases hq:(k == 6)
     ·rw [hq] at t331
      go_simp;(exact hK.out _ _ (fun h=>by rw [hq] at h;cases h) (Below.refl _ _))
     ·rw [hq] at t331
      go_simp;(exact hK.out _ _ (fun _=>rfl) (Below.refl _ _))
    ·intro a wx hB hold hdep K hK;have t331:=QAD wx (hdep 9 rfl _ 331 rfl rfl);obtain⟨v332,t332,p332⟩:=hdep 10 rfl _ 332 rfl rfl;have P332:Hid (kGd (k == 6) (.bool br) v332 wx):=p332;clear hold hdep p332;cases hq:(k == 6)
     ·rw [hq] at t331
      go_simp;(exact hK.out _ _ (by rw [hq];rfl) (Below.refl _ _))
     ·rw [hq] at t331
      have e332:v332=(.bool br):=P332.out hq;subst e332;go_simp;(exact hK.out _ _ (by rw [hq];rfl) (Below.refl _ _))
    ·intro a wx hB hold hdep K hK;obtain⟨v326,t326,p326⟩:=hdep 4 rfl _ 326 rfl rfl;have P326:Hid (QAW [(l,[fa])] v326 wx):=p326;clear p326 hold hdep;go_simp;exact hK.out _ _ P326.out (Below.refl _ _)
    ·intro a wx hB hold hdep K hK;have t327:=QAD wx (hdep 5 rfl _ 327 rfl rfl);clear hold hdep;go_simp;exact hK.out _ _ rfl (Below.refl _ _)
    ·intro a wx hB hold hdep K hK;have t333:=QAD wx (hdep 11 rfl _ 333 rfl rfl);clear hold hdep;go_simp;exact hK.out _ _ rfl (Below.refl _ _)
   ·intro a wx hB hold hgot
    (obtain⟨v8,t8,p8⟩:=hgot 12 _ 8 rfl rfl;have P8:Hid (SQs wx v8 [(l,[fa])]):=p8;obtain⟨v9,t9,p9⟩:=hgot 13 _ 9 rfl rfl;have e9:v9=(.bool i):=p9;subst e9;obtain⟨v10,t10,p10⟩:=hgot 14 _ 10 rfl rfl;have e10:v10=(.bool ((k == 6) && br)):=p10;subst e10;have hD:a.defers=[]:=hold.2.1;clear hold hgot p8 p9 p10;go_wp2_with fail;(exact bodyPost_ret (v := .tuple #[v8,(.bool i),(.bool ((k == 6) && br))]) (by simp [results,Tryz.results113,go_sem,t8,t9,t10]) hD ⟨_,by rw [HOK.out];rfl,by rw [HPL.out];exact P8.out,QAC (QAC B4 BX.out) hB⟩))
 ·rcases QAj HF.out B4 with ⟨hp0,HRA,HRZ,HKA,HKZ⟩|⟨b,off,m,ka,na,ksa,sa,ca,kz,nz,ksz,sz,cz,rfl,g0,g1,g2,u0,u1,u2,hmI,hp0,hp1,hp2,hp3,d1,d2,hpos,zb,HRA,HRZ,HKA,HKZ⟩
  all_goals go_wp2_with fail
  all_goals
   first | (obtain⟨X,hX⟩:∃ X,X=QAO w4 (.int .i64 ka) (.string na) (.slice sa ksa.length ca) (.int .i64 kz) (.string nz) (.slice sz ksz.length cz):=⟨_,rfl⟩;unfold QAO at hX;rw [← hX]) | (obtain⟨X,hX⟩:∃ X,X=QAO w4 (.int .i64 0) (.string ⟨#[]⟩) (.slice none 0 0) (.int .i64 0) (.string ⟨#[]⟩) (.slice none 0 0):=⟨_,rfl⟩;unfold QAO at hX;rw [← hX])
   obtain⟨a0,a1,a2,z0,z1,z2,f2,fa,fz,BX,HBA,HBZ,HBF,HLx,HRx,HGx,HDx,HRAx,HRZx,HRFx,HOx,HKA,HKZ⟩:=QAs hX B4 Q5 HF HRA HRZ HL HR HG4 HD4 HKA HKZ
   have HPL:Hid (QAb i .orR2 (.mk k n ks) l r=[(l,[fz])]):=by
    show _=_;unfold QAb
    first|rfl | (rw [HKA.out,HKZ.out];first|done|rfl) | (rw [HKA.out];first|done|rfl) | (rw [HKZ.out];first|done|rfl)
   (refine QAK (by kernel_rfl) [kEq (.func (.func 144) #[] #[]),kEq (.slice adl l.length cpl),kEq (.agg #[z0,z1,z2]),kFL [fz],kSQ (l,[fz]),QAW [(l,[fz])],kEq (.bool i),kEq (.pointer (some ⟨w.heap.size,0,none⟩)),kEq (.int .i64 k),kEq (.bool (k == 6)),kEq (.bool (k == 6)),kGd (k == 6) (.bool br),kEq (.bool ((k == 6) && br)),QAW [(l,[fz])],kEq (.bool i),kEq (.bool ((k == 6) && br))] ?_ (by kernel_rfl) (by kernel_rfl) 349 rfl (by kernel_rfl) ?_ ?_)
   ·intro p hp
    simp only [List.mem_cons,List.not_mem_nil,or_false] at hp
    rcases hp with rfl|rfl|rfl|rfl|rfl|rfl|rfl|rfl|rfl|rfl|rfl|rfl|rfl|rfl|rfl|rfl
    all_goals first|exact QAN _|exact QAR _|exact QAS _|exact QAP _|exact QAq _ _
   ·refine⟨?_,?_,?_,?_,?_,?_,?_,?_,?_,?_,?_,?_,?_,?_,?_,?_,trivial⟩
    ·intro a wx hB hold hdep K hK;have t19:a.tmps[19]? = some (.func (.func 144) #[] #[]):=hold.2.2 19 rfl;clear hold hdep;go_simp;exact hK.out _ _ rfl (Below.refl _ _)
    ·intro a wx hB hold hdep K hK;have t11:a.tmps[11]? = some (.slice adl l.length cpl):=hold.2.2 11 rfl;clear hold hdep;go_simp;exact hK.out _ _ rfl (Below.refl _ _)
    ·intro a wx hB hold hdep K hK;have t18:a.tmps[18]? = some (.pointer (some ⟨w4.heap.size+1,0,none⟩)):=hold.2.2 18 rfl;obtain⟨k0,k1,k2',-⟩:=QAX (QAB hB HBZ.out);clear hold hdep;go_simp;exact hK.out _ _ rfl (Below.refl _ _)
    ·intro a wx hB hold hdep K hK;have t338:=QAD wx (hdep 2 rfl _ 338 rfl rfl);clear hold hdep;go_simp;exact hK.out _ _ (QAM (FL.sing (QAG wx _) ((HRZx.out.up hB).more _))) (QAA (Below.refl _ wx) _)
    ·intro a wx hB hold hdep K hK;have t336:=QAD wx (hdep 0 rfl _ 336 rfl rfl);have t337:=QAD wx (hdep 1 rfl _ 337 rfl rfl);obtain⟨v339,t339,p339⟩:=hdep 3 rfl _ 339 rfl rfl;obtain⟨ad339,m339,cp339,e339,f339⟩:=p339;subst e339;have H339:Hid (FL wx _ [fz]):=f339;clear f339;clear hold hdep;go_simp;refine (QAY _ _ _ _ _ _ wx).mono ?_;rintro e w1 ⟨rfl,hb⟩;exact hK.out _ _ ⟨_,_,_,_,_,_,rfl,((HLx.out.up hB).up hb),((H339.out).up hb)⟩ hb
    ·intro a wx hB hold hdep K hK;obtain⟨v340,t340,p340⟩:=hdep 4 rfl _ 340 rfl rfl;obtain⟨a340,m340,b340,c340,n340,d340,e340,f340,g340⟩:=p340;subst e340;have H340:Hid (FL wx _ l):=f340;have J340:Hid (FL wx _ [fz]):=g340;clear f340 g340;clear hold hdep;go_simp;exact hK.out _ _ (SQs.one (QAG wx _) (H340.out.up (QAA (Below.refl _ wx) _)) (J340.out.up (QAA (Below.refl _ wx) _))) (QAA (Below.refl _ wx) _)
    ·intro a wx hB hold hdep K hK;have t3:a.tmps[3]? = some (.bool i):=hold.2.2 3 rfl;clear hold hdep;go_simp;exact hK.out _ _ rfl (Below.refl _ _)
    ·intro a wx hB hold hdep K hK;have t5:a.tmps[5]? = some (.pointer (some ⟨w.heap.size,0,none⟩)):=hold.2.2 5 rfl;clear hold hdep;go_simp;exact hK.out _ _ rfl (Below.refl _ _)
    ·intro a wx hB hold hdep K hK;have t343:=QAD wx (hdep 7 rfl _ 343 rfl rfl);obtain⟨k0,k1,k2',-⟩:=QAX (QAB hB HBF.out);clear hold hdep;go_simp;exact hK.out _ _ rfl (Below.refl _ _)
    ·intro a wx hB hold hdep K hK;have t344:=QAD wx (hdep 8 rfl _ 344 rfl rfl);clear hold hdep;go_simp;exact hK.out _ _ rfl (Below.refl _ _)
    ·intro a wx hB hold hdep K hK;have t345:=QAD wx (hdep 9 rfl _ 345 rfl rfl);clear hold hdep;go_simp;exact hK.out _ _ rfl (Below.refl _ _)
    ·intro a wx hB hold hdep K hK;obtain⟨v346,t346,p346⟩:=hdep 10 rfl _ 346 rfl rfl;have e346:v346=(.bool (k == 6)):=p346;subst e346;have t16:a.tmps[16]? = some (.bool br):=hold.2.2 16 rfl;clear hold hdep;cases hq:(k == 6)
     ·rw [hq] at t346
      go_simp;(exact hK.out _ _ (fun h=>by rw [hq] at h;cases h) (Below.refl _ _))
     ·rw [hq] at t346
      go_simp;(exact hK.out _ _ (fun _=>rfl) (Below.refl _ _))
    ·intro a wx hB hold hdep K hK;have t346:=QAD wx (hdep 10 rfl _ 346 rfl rfl);obtain⟨v347,t347,p347⟩:=hdep 11 rfl _ 347 rfl rfl;have P347:Hid (kGd (k == 6) (.bool br) v347 wx):=p347;clear hold hdep p347;cases hq:(k == 6)
     ·rw [hq] at t346
      go_simp;(exact hK.out _ _ (by rw [hq];rfl) (Below.refl _ _))
     ·rw [hq] at t346
      have e347:v347=(.bool br):=P347.out hq;subst e347;go_simp;(exact hK.out _ _ (by rw [hq];rfl) (Below.refl _ _))
    ·intro a wx hB hold hdep K hK;obtain⟨v341,t341,p341⟩:=hdep 5 rfl _ 341 rfl rfl;have P341:Hid (QAW [(l,[fz])] v341 wx):=p341;clear p341 hold hdep;go_simp;exact hK.out _ _ P341.out (Below.refl _ _)
    ·intro a wx hB hold hdep K hK;have t342:=QAD wx (hdep 6 rfl _ 342 rfl rfl);clear hold hdep;go_simp;exact hK.out _ _ rfl (Below.refl _ _)
    ·intro a wx hB hold hdep K hK;have t348:=QAD wx (hdep 12 rfl _ 348 rfl rfl);clear hold hdep;go_simp;exact hK.out _ _ rfl (Below.refl _ _)
   ·intro a wx hB hold hgot
    (obtain⟨v8,t8,p8⟩:=hgot 13 _ 8 rfl rfl;have P8:Hid (SQs wx v8 [(l,[fz])]):=p8;obtain⟨v9,t9,p9⟩:=hgot 14 _ 9 rfl rfl;have e9:v9=(.bool i):=p9;subst e9;obtain⟨v10,t10,p10⟩:=hgot 15 _ 10 rfl rfl;have e10:v10=(.bool ((k == 6) && br)):=p10;subst e10;have hD:a.defers=[]:=hold.2.1;clear hold hgot p8 p9 p10;go_wp2_with fail;(exact bodyPost_ret (v := .tuple #[v8,(.bool i),(.bool ((k == 6) && br))]) (by simp [results,Tryz.results113,go_sem,t8,t9,t10]) hD ⟨_,by rw [HOK.out];rfl,by rw [HPL.out];exact P8.out,QAC (QAC B4 BX.out) hB⟩))
 ·have z5:w.heap.size < w4.heap.size+1:=by omega
  (have z6:w.heap.size < w4.heap.size+1+1:=by omega)
  rcases QAj HF.out B4 with ⟨hp0,HRA,HRZ,HKA,HKZ⟩|⟨b,off,m,ka,na,ksa,sa,ca,kz,nz,ksz,sz,cz,rfl,g0,g1,g2,u0,u1,u2,hmI,hp0,hp1,hp2,hp3,d1,d2,hpos,zb,HRA,HRZ,HKA,HKZ⟩
  all_goals go_wp2_with fail
  all_goals
   first | (obtain⟨X,hX⟩:∃ X,X=QAO w4 (.int .i64 ka) (.string na) (.slice sa ksa.length ca) (.int .i64 kz) (.string nz) (.slice sz ksz.length cz):=⟨_,rfl⟩;unfold QAO at hX;rw [← hX]) | (obtain⟨X,hX⟩:∃ X,X=QAO w4 (.int .i64 0) (.string ⟨#[]⟩) (.slice none 0 0) (.int .i64 0) (.string ⟨#[]⟩) (.slice none 0 0):=⟨_,rfl⟩;unfold QAO at hX;rw [← hX])
   have HN4:=QEU hX;obtain⟨a0,a1,a2,z0,z1,z2,f2,fa,fz,BX,-,-,-,HLx,HRx,-⟩:=QAs hX B4 Q5 HF HRA HRZ HL HR HG4 HD4 HKA HKZ;(refine (QAl l [(.mk k n ks)] (by omega) (by simp) _ _ _ (HLx.out.up (QAA (Below.refl _ X) _)) (FL.sing (HN4.out _) ((HF.out.up (QAC B4 BX.out)).more _))).mono ?_);rintro e w5 ⟨x5,rfl,hx5,hb5⟩;obtain⟨ad5,cp5,rfl,-⟩:=id hx5;have BX5:Hid (Below w4.heap.size w4 w5):=QAC (QAA BX.out _) hb5
   have HX5:Hid (FL w5 (.slice ad5 (l.length+1) cp5) (l++[(.mk k n ks)])):=by
    have h:=hx5;rw [List.length_append] at h;exact h
   have HO5:Hid (FL w5 _ r):=HRx.out.up (QAC (QAA (Below.refl _ X) _) hb5);clear hx5 hb5;go_wp2_with fail;refine (QAY _ _ _ _ _ _ w5).mono ?_;rintro e w6 ⟨rfl,hb6⟩;have B6:=QAC BX5.out hb6;have HX6:Hid (FL w6 _ (l++[(.mk k n ks)])):=HX5.out.up hb6;have HO6:Hid (FL w6 _ r):=HO5.out.up hb6;go_wp2_with fail;(exact bodyPost_ret (v := .tuple #[.slice (some ⟨w6.heap.size,0,none⟩) 1 1,.bool (QBO i .contrL),.bool bl]) (by simp [results,Tryz.results113,go_sem,QBO]) rfl ⟨_,by rw [HOK.out];rfl,SQs.one (QAG w6 _) (HX6.out.up (QAA (Below.refl _ w6) _)) (HO6.out.up (QAA (Below.refl _ w6) _)),QAC B4 (QAA B6 _)⟩)
 ·have z5:w.heap.size < w4.heap.size+1:=by omega
  (have z6:w.heap.size < w4.heap.size+1+1:=by omega)
  rcases QAj HF.out B4 with ⟨hp0,HRA,HRZ,HKA,HKZ⟩|⟨b,off,m,ka,na,ksa,sa,ca,kz,nz,ksz,sz,cz,rfl,g0,g1,g2,u0,u1,u2,hmI,hp0,hp1,hp2,hp3,d1,d2,hpos,zb,HRA,HRZ,HKA,HKZ⟩
  all_goals go_wp2_with fail
  all_goals
   first | (obtain⟨X,hX⟩:∃ X,X=QAO w4 (.int .i64 ka) (.string na) (.slice sa ksa.length ca) (.int .i64 kz) (.string nz) (.slice sz ksz.length cz):=⟨_,rfl⟩;unfold QAO at hX;rw [← hX]) | (obtain⟨X,hX⟩:∃ X,X=QAO w4 (.int .i64 0) (.string ⟨#[]⟩) (.slice none 0 0) (.int .i64 0) (.string ⟨#[]⟩) (.slice none 0 0):=⟨_,rfl⟩;unfold QAO at hX;rw [← hX])
   have HN4:=QEU hX;obtain⟨a0,a1,a2,z0,z1,z2,f2,fa,fz,BX,-,-,-,HLx,HRx,-⟩:=QAs hX B4 Q5 HF HRA HRZ HL HR HG4 HD4 HKA HKZ;(refine (QAl r [(.mk k n ks)] (by omega) (by simp) _ _ _ (HRx.out.up (QAA (Below.refl _ X) _)) (FL.sing (HN4.out _) ((HF.out.up (QAC B4 BX.out)).more _))).mono ?_);rintro e w5 ⟨x5,rfl,hx5,hb5⟩;obtain⟨ad5,cp5,rfl,-⟩:=id hx5;have BX5:Hid (Below w4.heap.size w4 w5):=QAC (QAA BX.out _) hb5
   have HX5:Hid (FL w5 (.slice ad5 (r.length+1) cp5) (r++[(.mk k n ks)])):=by
    have h:=hx5;rw [List.length_append] at h;exact h
   have HO5:Hid (FL w5 _ l):=HLx.out.up (QAC (QAA (Below.refl _ X) _) hb5);clear hx5 hb5;go_wp2_with fail;refine (QAY _ _ _ _ _ _ w5).mono ?_;rintro e w6 ⟨rfl,hb6⟩;have B6:=QAC BX5.out hb6;have HX6:Hid (FL w6 _ (r++[(.mk k n ks)])):=HX5.out.up hb6;have HO6:Hid (FL w6 _ l):=HO5.out.up hb6;go_wp2_with fail;(exact bodyPost_ret (v := .tuple #[.slice (some ⟨w6.heap.size,0,none⟩) 1 1,.bool (QBO i .contrR),.bool br]) (by simp [results,Tryz.results113,go_sem,QBO]) rfl ⟨_,by rw [HOK.out];rfl,SQs.one (QAG w6 _) (HO6.out.up (QAA (Below.refl _ w6) _)) (HX6.out.up (QAA (Below.refl _ w6) _)),QAC B4 (QAA B6 _)⟩)
set_option maxRecDepth 10000 in
set_option maxHeartbeats 8000000 in
theorem QKL (i:Bool) (t:ByteArray) (h0:(t.toList == ([97,120]:List UInt8))=false) (h1:(t.toList == ([116,114,117,101]:List UInt8))=false) (h2:(t.toList == ([102,97,108,115,101]:List UInt8))=false) (h3:(t.toList == ([97,110,100,45,108]:List UInt8))=false) (h4:(t.toList == ([97,110,100,45,114]:List UInt8))=false) (h5:(t.toList == ([111,114,45,108]:List UInt8))=false) (h6:(t.toList == ([116,104,101,110,45,114]:List UInt8))=false) (h7:(t.toList == ([110,111,116,45,114]:List UInt8))=false) (h8:(t.toList == ([99,111,110,116,114,45,108]:List UInt8))=false) (h9:(t.toList == ([99,117,116]:List UInt8))=false) (h10:(t.toList == ([116,104,101,110,45,108]:List UInt8))=false) (h11:(t.toList == ([110,111,116,45,108]:List UInt8))=false) (h12:(t.toList == ([111,114,45,114]:List UInt8))=false) (h13:(t.toList == ([99,111,110,116,114,45,114]:List UInt8))=false) (h14:(t.toList == ([111,114,45,114,49]:List UInt8))=false) (h15:(t.toList == ([111,114,45,114,50]:List UInt8))=false) (f:Fm) (l r:List Fm) (hl3:l.length≤300) (hr3:r.length≤300) (v VL VR:Value) (w:World) (hf:Rep w (fun _=>True) f v) (hl:FL w VL l) (hr:FL w VR r) :
  Calls Tryz.prog 113 #[.string t,v,.agg #[VL,VR],.bool i] w fun e w'=>∃ x,e = .returned (.tuple #[x,.bool false,.bool false])∧SQs w' x []∧Below w.heap.size w w':=by
 obtain⟨k,n,ks⟩:=f;obtain⟨sf,cf,rfl⟩:=QAJ hf;(have HF:Hid (Rep w (fun _=>True) (.mk k n ks) _):=hf);have HL:Hid (FL w VL l):=hl;have HR:Hid (FL w VR r):=hr;have HKS:=(Rep.def.1 hf);obtain⟨sf',cf',hv,-,hkc,hcm,hkr⟩:=HKS;simp only [Value.agg.injEq,Array.mk.injEq,List.cons.injEq,Value.slice.injEq,and_true,true_and] at hv;obtain⟨rfl,rfl⟩:=hv;(have hksI:(ks.length:Int)≤9223372036854775807:=by unfold maxLen at hcm;omega);(have hkcI:(ks.length:Int)≤(cf:Int):=by omega);obtain⟨adl,cpl,rfl,-⟩:=hl;obtain⟨adr,cpr,rfl,-⟩:=hr;obtain⟨O1,hO1⟩:∃ O,O=Obj.cells #[.int .i64 k,.string n,.slice sf ks.length cf] 24 (0,0):=⟨_,rfl⟩;obtain⟨O2,hO2⟩:∃ O,O=Obj.cells #[.slice adl l.length cpl,.slice adr r.length cpr] 28 (0,0):=⟨_,rfl⟩;obtain⟨W,hW⟩:∃ W,W=(w.alloc O1).alloc O2:=⟨_,rfl⟩;(have B0:Below w.heap.size w W:=by rw [hW];exact QAA (QAA (Below.refl _ w) _) _);(have p1:W.heap[w.heap.size]? = some O1:=by rw [hW];exact QAF (QAG w O1) _);(have p2:W.heap[w.heap.size+1]? = some O2:=by rw [hW];exact QAd w O1 O2);rw [hO1] at p1;rw [hO2] at p2;have P1:Hid (W.heap[w.heap.size]? = some _):=p1;have P2:Hid (W.heap[w.heap.size+1]? = some _):=p2;have HWe:Hid ((w.alloc O1).alloc O2=W):=hW.symm;clear hf hkr p1 p2 hW
 go_enter Tryz.func113,Tryz.ntmps113
 go_wp2_with fail;rw [← hO1,← hO2,HWe.out];clear hO1 hO2 HWe;(refine (QAw l (by omega) (.mk k n ks) _ _ W (HL.out.up B0) (HF.out.up B0)).mono ?_);rintro e w1 ⟨x1,rfl,hg,hb1⟩;have B1:=QAC B0 hb1;have Q1:Hid (w1.heap[w.heap.size]? = some _):=QAB hb1 P1.out;have Q2:Hid (w1.heap[w.heap.size+1]? = some _):=QAB hb1 P2.out;obtain⟨adg,cpg,rfl,-⟩:=id hg;have HG1:Hid (FL w1 _ (l.erase (.mk k n ks))):=hg;clear hg hb1 P1 P2 B0;obtain⟨j0,j1,j2,-⟩:=QAX Q1.out;go_wp2_with fail;(refine (QAw r (by omega) (.mk k n ks) _ _ w1 (HR.out.up B1) (HF.out.up B1)).mono ?_);rintro e w2 ⟨x2,rfl,hd,hb2⟩;have B2:=QAC B1 hb2;have Q3:Hid (w2.heap[w.heap.size]? = some _):=QAB hb2 Q1.out;obtain⟨add,cpd,rfl,-⟩:=id hd;have HD2:Hid (FL w2 _ (r.erase (.mk k n ks))):=hd;have HG2:Hid (FL w2 _ (l.erase (.mk k n ks))):=HG1.out.up hb2;clear hd hb2 Q1 Q2 j0 j1 j2 HG1 B1;obtain⟨j0,j1,j2,-⟩:=QAX Q3.out;go_wp2_with fail;refine (QBJ l (.mk k n ks) _ _ w2 (HL.out.up B2) (HF.out.up B2)).mono ?_;rintro e w3 ⟨rfl,hb3⟩;have B3:=QAC B2 hb3;have Q4:Hid (w3.heap[w.heap.size]? = some _):=QAB hb3 Q3.out;have HD3:Hid (FL w3 _ (r.erase (.mk k n ks))):=HD2.out.up hb3;have HG3:Hid (FL w3 _ (l.erase (.mk k n ks))):=HG2.out.up hb3;clear hb3 Q3 j0 j1 j2 HG2 HD2 B2;obtain⟨j0,j1,j2,-⟩:=QAX Q4.out;go_wp2_with fail;refine (QBJ r (.mk k n ks) _ _ w3 (HR.out.up B3) (HF.out.up B3)).mono ?_;rintro e w4 ⟨rfl,hb4⟩;have B4:=QAC B3 hb4;have Q5:Hid (w4.heap[w.heap.size]? = some _):=QAB hb4 Q4.out;have HD4:Hid (FL w4 _ (r.erase (.mk k n ks))):=HD3.out.up hb4;have HG4:Hid (FL w4 _ (l.erase (.mk k n ks))):=HG3.out.up hb4;clear hb4 Q4 j0 j1 j2 HG3 HD3 B3;obtain⟨j0,j1,j2,-⟩:=QAX Q5.out;have z4:=QAE Q5.out;generalize QAh (.mk k n ks) l=bl at *;generalize QAh (.mk k n ks) r=br at *
 rcases QAj HF.out B4 with ⟨hp0,HRA,HRZ,HKA,HKZ⟩|⟨b,off,m,ka,na,ksa,sa,ca,kz,nz,ksz,sz,cz,rfl,g0,g1,g2,u0,u1,u2,hmI,hp0,hp1,hp2,hp3,d1,d2,hpos,zb,HRA,HRZ,HKA,HKZ⟩
 all_goals
  go_wp2_with fail;(exact bodyPost_ret (v := .tuple #[.slice none 0 0,.bool false,.bool false]) (by simp [results,Tryz.results113,go_sem]) rfl ⟨_,rfl,SQs.nil,QAC B4 (QAA (QAA (QAA (Below.refl _ w4) _) _) _)⟩)
end Go.Proofs.YtffkoiemnchdgadGreat
