import Derived.Test.YtbmedfokpgghiacGreatB21
import Derived.Test.YtbmedfokpgghiacGreatB20
import Derived.Test.YtbmedfokpgghiacGreatB12
import Derived.Deep.RegionLaw
import Derived.Test.YtbmedfokpgghiacGreatB15
import Derived.Test.YtbmedfokpgghiacGreatB18
namespace Go.Proofs.YtbmedfokpgghiacGreat
open Go.RowKit
set_option maxHeartbeats 2000000 in
theorem QAv (l m:List Fm) (hl:l.length≤400) (hm:m.length≤400) (v u:Value) (w:World) (hv:FL w v l) (hu:FL w u m) :
  Calls Tryz.prog 151 #[v,u] w fun e w'=>∃ x,e = .returned x∧FL w' x (l++m)∧Below w.heap.size w w':=by
 have HV:Hid (FLp (· < w.heap.size) w v l):=hv.low;have HU:Hid (FLp (· < w.heap.size) w u m):=hu.low;clear hv hu
 go_enter Tryz.func151,Tryz.ntmps151
 go_wp2_with (first
  | (
    at_builtin
    (refine QDs rfl _ _ rfl w.heap.size w.heap.size [] l none 0 _ rfl AppL.nil rfl HV.out (Nat.le_refl _) (Nat.le_refl _) (by simp;omega) ?_);intro ad1 cp1 w1 h1 b1 k1;have H1:Hid (AppL w.heap.size w.heap.size l ad1 cp1 w1):=h1
    clear h1 k1)
  | (
    at_builtin
    (refine QDs rfl _ _ rfl w.heap.size w.heap.size l m ad1 cp1 _ rfl H1.out rfl (HU.out.up b1) (Nat.le_refl _) b1.size (by omega) ?_);intro ad2 cp2 w2 h2 b2 k2;have H2:Hid (AppL w.heap.size w.heap.size (l++m) ad2 cp2 w2):=h2
    clear h2 k2)
  | fail)
 go_ret;have hf:=(H2.out.flp (Nat.le_refl _)).list;rw [List.length_append] at hf;exact⟨_,rfl,hf,b1.trans b2⟩
theorem QJG {fs:List Fm} {i:Nat} {f g:Fm} (h:fs[i]? = some g):(fs.take (i+1)).count f=(fs.take i).count f+if QBN g f then 1 else 0:=by
 rw [List.take_add_one,h,List.count_append];show _+[g].count f=_;rw [List.count_singleton];rfl
set_option maxHeartbeats 2000000 in
theorem QGe (fs:List Fm) (hl:fs.length≤1000) (f:Fm) (v u:Value) (w:World) (h:FL w v fs) (hu:Rep w (fun _=>True) f u) :
  Calls Tryz.prog 105 #[v,u] w fun e w'=>e = .returned (.int .i64 ((fs.count f:Nat):Int))∧Below w.heap.size w w':=by
 obtain⟨ad,cap,rfl,h1,h2,h3⟩:=h;obtain⟨kf,nf,ksf⟩:=f;obtain⟨slf,capf,rfl⟩:=QAU hu;(have hlI:(fs.length:Int)≤1000:=by omega);(have H3:Hid (fs≠[]→∃ b off,ad=some ⟨b,off,none⟩∧Reps w (fun _=>True) b off fs):=h3);clear h3
 go_enter Tryz.func105,Tryz.ntmps105
 go_wp2_with fail
 go_loopg [5,6] fs.length (fun g o c wr=>∃ i n,i≤fs.length∧n≤i∧g=fs.length - i∧c = .int .i64 (i:Nat)∧o = .int .i64 (n:Nat)∧Below w.heap.size w wr∧wr.heap[w.heap.size]? = some (.cells #[.int .i64 kf,.string nf,.slice slf ksf.length capf] 29 (0,0))∧Hid (n=(fs.take i).count (.mk kf nf ksf)))
 case atStart=>exact⟨0,0,by omega,by omega,by omega,rfl,rfl,(Below.refl _ _).alloc (Nat.le_refl _) _,QAH _ _,by show _=_;simp⟩
 case round =>
  obtain⟨i,n,hi,hni,hg,rfl,rfl,hbr,q0,HN⟩:=hrel;have HG:Hid (gk=fs.length - i):=hg;clear hg;obtain⟨e0,e1,e2,-⟩:=QAb q0;have z0:=QAE q0;(have hnI:(n:Int)≤1000:=by omega);by_cases hlt:i < fs.length
  ·obtain⟨⟨k2,n2,ks2⟩,hki⟩:∃ f,fs[i]? = some f:=⟨_,List.getElem?_eq_getElem hlt⟩
   (obtain⟨b,off,rfl,hrs⟩:=H3.out (fun e=>by rw [e] at hlt;simp at hlt));obtain⟨sl2,cap2,g0,g1,g2,hrep2⟩:=(hrs.up hbr).at i k2 n2 ks2 hki;(have hltI:(i:Int) < (fs.length:Int):=by omega);(have hlc:(i:Int) < (cap:Int):=by omega);have zb:=QAI g0;have zz:=hbr.size;have hrepf:=hu.up hbr;(have hsm:=fun v u w h1 h2=>QEe (.mk k2 n2 ks2) (.mk kf nf ksf) v u w h1 h2);have hnx:=QJG (f := .mk kf nf ksf) hki;simp only at zb;generalize QBN (.mk k2 n2 ks2) (.mk kf nf ksf)=bb at hsm hnx;have HS:Hid (∀ v u w,_→_→Calls Tryz.prog 53 #[v,u] w _):=hsm
   have HX:Hid ((fs.take (i+1)).count (.mk kf nf ksf)=n+if bb then 1 else 0):=by
    show _=_;rw [hnx,HN.out]
   clear hki hrs H3 hsm hnx HN;go_wp2_with fail
   go_region_held3 (fun w'=>w'.cell? ⟨b,off+i * 3,none⟩=some (.int .i64 k2)∧w'.cell? ⟨b,off+i * 3+1,none⟩=some (.string n2)∧w'.cell? ⟨b,off+i * 3+2,none⟩=some (.slice sl2 ks2.length cap2)∧w'.cell? ⟨w.heap.size,0,none⟩=some (.int .i64 kf)∧w'.cell? ⟨w.heap.size,1,none⟩=some (.string nf)∧w'.cell? ⟨w.heap.size,2,none⟩=some (.slice slf ksf.length capf)) (go_keep)
    (
     first
     | (
      go_at_call 53
      refine (HS.out _ _ _ (hrep2.up (Below.refl _ _).drew) (hrepf.up (Below.refl _ _).drew)).mono ?_;rintro e w1 ⟨rfl,hb1⟩;have c3:=(hb1.cell (p:=⟨b,off+i * 3,none⟩) zb).trans g0;have c4:=(hb1.cell (p:=⟨b,off+i * 3+1,none⟩) zb).trans g1;have c5:=(hb1.cell (p:=⟨b,off+i * 3+2,none⟩) zb).trans g2;have c6:=(hb1.cell (p:=⟨w.heap.size,0,none⟩) z0).trans e0;have c7:=(hb1.cell (p:=⟨w.heap.size,1,none⟩) z0).trans e1
      have c8:=(hb1.cell (p:=⟨w.heap.size,2,none⟩) z0).trans e2)
     | fail)
   have hb2:Below w.heap.size w w1:=hbr.drew.trans (hb1.mono zz);have q1:=(hb1.block _ z0).trans q0;clear c3 c4 c5 c6 c7 c8
   cases bb
   ·go_wp2_with fail
    go_roundg (fs.length - (i+1))
    case measure=>have:=HG.out;omega
    case rel=>exact⟨i+1,n,by omega,by omega,rfl,by go_num,by go_num,hb2,q1,HX.out.symm⟩
   ·go_wp2_with fail
    go_roundg (fs.length - (i+1))
    case measure=>have:=HG.out;omega
    case rel=>exact⟨i+1,n+1,by omega,by omega,rfl,by go_num,by go_num,hb2,q1,HX.out.symm⟩
  ·have HT:Hid ((n:Int)=((fs.count (.mk kf nf ksf):Nat):Int)):=by
    have:=HN.out;(rw [List.take_of_length_le (by omega)] at this);show _=_;rw [this]
   (have hge:¬ (i:Int) < (fs.length:Int):=by omega);clear H3 HN;go_wp2_with fail;go_ret;(exact⟨by show Ending.returned (.int .i64 (n:Int))=_;rw [HT.out],hbr⟩)
theorem QNR (a:Array Value) (h:a.size=25):∃ x0 x1 x2 x3 x4 x5 x6 x7 x8 x9 x10 x11 x12 x13 x14 x15 x16 x17 x18 x19 x20 x21 x22 x23 x24,a=#[x0,x1,x2,x3,x4,x5,x6,x7,x8,x9,x10,x11,x12,x13,x14,x15,x16,x17,x18,x19,x20,x21,x22,x23,x24]:=by
 obtain⟨l⟩:=a;have h0:l.length=25:=h;obtain⟨x0,l1,e0,h1⟩:=QAD h0;obtain⟨x1,l2,e1,h2⟩:=QAD h1;obtain⟨x2,l3,e2,h3⟩:=QAD h2;obtain⟨x3,l4,e3,h4⟩:=QAD h3;obtain⟨x4,l5,e4,h5⟩:=QAD h4;obtain⟨x5,l6,e5,h6⟩:=QAD h5;obtain⟨x6,l7,e6,h7⟩:=QAD h6;obtain⟨x7,l8,e7,h8⟩:=QAD h7;obtain⟨x8,l9,e8,h9⟩:=QAD h8;obtain⟨x9,l10,e9,h10⟩:=QAD h9;obtain⟨x10,l11,e10,h11⟩:=QAD h10;obtain⟨x11,l12,e11,h12⟩:=QAD h11;obtain⟨x12,l13,e12,h13⟩:=QAD h12;obtain⟨x13,l14,e13,h14⟩:=QAD h13;obtain⟨x14,l15,e14,h15⟩:=QAD h14;obtain⟨x15,l16,e15,h16⟩:=QAD h15;obtain⟨x16,l17,e16,h17⟩:=QAD h16;obtain⟨x17,l18,e17,h18⟩:=QAD h17;obtain⟨x18,l19,e18,h19⟩:=QAD h18;obtain⟨x19,l20,e19,h20⟩:=QAD h19;obtain⟨x20,l21,e20,h21⟩:=QAD h20;obtain⟨x21,l22,e21,h22⟩:=QAD h21;obtain⟨x22,l23,e22,h23⟩:=QAD h22;obtain⟨x23,l24,e23,h24⟩:=QAD h23;obtain⟨x24,l25,e24,h25⟩:=QAD h24;have e25:l25=[]:=List.length_eq_zero_iff.1 h25;subst e25 e24 e23 e22 e21 e20 e19 e18 e17 e16 e15 e14 e13 e12 e11 e10 e9 e8 e7 e6 e5 e4 e3 e2 e1 e0;exact⟨x0,x1,x2,x3,x4,x5,x6,x7,x8,x9,x10,x11,x12,x13,x14,x15,x16,x17,x18,x19,x20,x21,x22,x23,x24,rfl⟩
set_option maxRecDepth 10000 in
set_option maxHeartbeats 4000000 in
theorem QEL (fs gs:List Fm) (hl:fs.length≤1000) (hl2:gs.length≤1000) (v VB:Value) (w:World) (h:FL w v fs) (hu:FL w VB gs) :
  Calls Tryz.prog 60 #[v,VB] w fun e w'=>e = .returned (.bool (QBB fs gs))∧Below w.heap.size w w':=by
 have HV:Hid (FL w v fs):=h;have HU:Hid (FL w VB gs):=hu;obtain⟨ad,cap,rfl,h1,h2,h3⟩:=h;(have H3:Hid (fs≠[]→∃ b off,ad=some ⟨b,off,none⟩∧Reps w (fun _=>True) b off fs):=h3);(have hlI:(fs.length:Int)≤1000:=by omega);(have HW:Hid (QBB fs gs=fs.all fun x=>decide (fs.count x≤gs.count x)):=QKD fs gs);clear h3 hu
 go_enter Tryz.func60,Tryz.ntmps60
 go_wp2_with fail
 go_loopg [5] fs.length (fun g c wr=>∃ i,i≤fs.length∧g=fs.length - i∧c = .int .i64 (i:Nat)∧Hid (Below w.heap.size w wr)∧Hid (∀ x∈fs.take i,fs.count x≤gs.count x))
 case atStart=>exact⟨0,by omega,by omega,rfl,Below.refl _ _,fun x hx=>by simp at hx⟩
 case round =>
  obtain⟨i,hi,hg,rfl,HBr,HN⟩:=hrel;have HG:Hid (gk=fs.length - i):=hg;clear hg;by_cases hlt:i < fs.length
  ·obtain⟨⟨k2,n2,ks2⟩,hki⟩:∃ f,fs[i]? = some f:=⟨_,List.getElem?_eq_getElem hlt⟩
   (obtain⟨b,off,rfl,hrs⟩:=H3.out (fun e=>by rw [e] at hlt;simp at hlt));obtain⟨sl2,cap2,g0,g1,g2,hrep2⟩:=(hrs.up HBr.out).at i k2 n2 ks2 hki;(have hltI:(i:Int) < (fs.length:Int):=by omega);(have hlc:(i:Int) < (cap:Int):=by omega);have HZ:Hid (b < wr.heap.size):=QAI g0;have HC:Hid (wr.cell? ⟨b,off+i * 3,none⟩=some (.int .i64 k2)∧wr.cell? ⟨b,off+i * 3+1,none⟩=some (.string n2)∧wr.cell? ⟨b,off+i * 3+2,none⟩=some (.slice sl2 ks2.length cap2)):=⟨g0,g1,g2⟩;(have hoa:=fun wx (hb:Below wr.heap.size wr wx)=>QGe fs hl (.mk k2 n2 ks2) (.slice (some ⟨b,off,none⟩) fs.length cap) (.agg #[.int .i64 k2,.string n2,.slice sl2 ks2.length cap2]) wx (HV.out.up (QAC HBr.out hb)) (hrep2.up hb));(have hob:=fun wx (hb:Below wr.heap.size wr wx)=>QGe gs hl2 (.mk k2 n2 ks2) VB (.agg #[.int .i64 k2,.string n2,.slice sl2 ks2.length cap2]) wx (HU.out.up (QAC HBr.out hb)) (hrep2.up hb))
   have hno:gs.count (.mk k2 n2 ks2) < fs.count (.mk k2 n2 ks2)→QBB fs gs=false:=fun hc=>by
    rw [HW.out,Bool.eq_false_iff];intro h;have:=of_decide_eq_true (List.all_eq_true.1 h _ (List.mem_of_getElem? hki));omega
   have hyes:¬ gs.count (.mk k2 n2 ks2) < fs.count (.mk k2 n2 ks2)→∀ x∈fs.take (i+1),fs.count x≤gs.count x:=fun hc x hx=>by
    rw [List.take_add_one,hki] at hx
    rcases List.mem_append.1 hx with hx|hx
    ·exact HN.out x hx
    ·simp at hx
     rw [hx];omega
   generalize hca:fs.count (.mk k2 n2 ks2)=ca at *;generalize hcb:gs.count (.mk k2 n2 ks2)=cb at *;(have HOA:Hid (∀ wx,Below wr.heap.size wr wx→Calls Tryz.prog 105 _ wx fun e w'=>e = .returned (.int .i64 ((ca:Nat):Int))∧Below wx.heap.size wx w'):=hoa);(have HOB:Hid (∀ wx,Below wr.heap.size wr wx→Calls Tryz.prog 105 _ wx fun e w'=>e = .returned (.int .i64 ((cb:Nat):Int))∧Below wx.heap.size wx w'):=hob);have HNO:Hid (cb < ca→QBB fs gs=false):=hno;have HYES:Hid (¬ cb < ca→∀ x∈fs.take (i+1),fs.count x≤gs.count x):=hyes;(have hc63:(ca:Int)≤1000:=by have:=List.count_le_length (a:=Fm.mk k2 n2 ks2) (l:=fs);omega);(have hd63:(cb:Int)≤1000:=by have:=List.count_le_length (a:=Fm.mk k2 n2 ks2) (l:=gs);omega);clear hki hrs H3 hrep2 g0 g1 g2 hoa hob hno hyes hca hcb HW HN;go_wp2_with fail;(refine QAT (by kernel_rfl) [kEq (.slice (some ⟨b,off,none⟩) fs.length cap),kEq (.slice (some ⟨b,off,none⟩) fs.length cap),kEq (.int .i64 (i:Nat)),kEq (.pointer (some ⟨b,off+i * 3,none⟩)),kEq (.agg #[.int .i64 k2,.string n2,.slice sl2 ks2.length cap2]),kEq (.int .i64 ((ca:Nat):Int)),kEq VB,kEq (.slice (some ⟨b,off,none⟩) fs.length cap),kEq (.int .i64 (i:Nat)),kEq (.pointer (some ⟨b,off+i * 3,none⟩)),kEq (.agg #[.int .i64 k2,.string n2,.slice sl2 ks2.length cap2]),kEq (.int .i64 ((cb:Nat):Int)),kEq (.bool (decide (cb < ca)))] ?_ (by kernel_rfl) (by kernel_rfl) 25 rfl (by kernel_rfl) ?_ ?_)
   ·intro p hp
    simp only [List.mem_cons,List.not_mem_nil,or_false] at hp
    rcases hp with rfl|rfl|rfl|rfl|rfl|rfl|rfl|rfl|rfl|rfl|rfl|rfl|rfl
    all_goals first|exact QAe _
   ·refine⟨?_,?_,?_,?_,?_,?_,?_,?_,?_,?_,?_,?_,?_,trivial⟩
    ·intro a wx hB hold hdep K hK
     have t0:a.tmps[0]? = some (.slice (some ⟨b,off,none⟩) fs.length cap):=hold.2.2 0 rfl;clear hold hdep;go_simp;exact hK.out _ _ rfl (Below.refl _ _)
    ·intro a wx hB hold hdep K hK
     have t0:a.tmps[0]? = some (.slice (some ⟨b,off,none⟩) fs.length cap):=hold.2.2 0 rfl;clear hold hdep;go_simp;exact hK.out _ _ rfl (Below.refl _ _)
    ·intro a wx hB hold hdep K hK
     have t5:a.tmps[5]? = some (.int .i64 (i:Nat)):=hold.2.2 5 rfl;clear hold hdep;go_simp;exact hK.out _ _ rfl (Below.refl _ _)
    ·intro a wx hB hold hdep K hK
     obtain⟨v13,t13,p13⟩:=hdep 1 rfl _ 13 rfl rfl;have e13:v13=(.slice (some ⟨b,off,none⟩) fs.length cap):=p13;subst e13;obtain⟨v14,t14,p14⟩:=hdep 2 rfl _ 14 rfl rfl;have e14:v14=(.int .i64 (i:Nat)):=p14;subst e14;clear hold hdep;go_simp;exact hK.out _ _ rfl (Below.refl _ _)
    ·intro a wx hB hold hdep K hK
     obtain⟨v15,t15,p15⟩:=hdep 3 rfl _ 15 rfl rfl;have e15:v15=(.pointer (some ⟨b,off+i * 3,none⟩)):=p15;subst e15;obtain⟨g0,g1,g2⟩:=HC.out;have k0:=(hB.cell (p:=⟨b,off+i * 3,none⟩) HZ.out).trans g0;have k1:=(hB.cell (p:=⟨b,off+i * 3+1,none⟩) HZ.out).trans g1;have k2':=(hB.cell (p:=⟨b,off+i * 3+2,none⟩) HZ.out).trans g2;clear g0 g1 g2;clear hold hdep;go_simp;exact hK.out _ _ rfl (Below.refl _ _)
    ·intro a wx hB hold hdep K hK
     obtain⟨v12,t12,p12⟩:=hdep 0 rfl _ 12 rfl rfl;have e12:v12=(.slice (some ⟨b,off,none⟩) fs.length cap):=p12;subst e12;obtain⟨v16,t16,p16⟩:=hdep 4 rfl _ 16 rfl rfl;have e16:v16=(.agg #[.int .i64 k2,.string n2,.slice sl2 ks2.length cap2]):=p16;subst e16;clear hold hdep;go_simp;refine (HOA.out wx hB).mono ?_;rintro e w1 ⟨rfl,hb⟩;exact hK.out _ _ rfl hb
    ·intro a wx hB hold hdep K hK
     have t1:a.tmps[1]? = some VB:=hold.2.2 1 rfl;clear hold hdep;go_simp;exact hK.out _ _ rfl (Below.refl _ _)
    ·intro a wx hB hold hdep K hK
     have t0:a.tmps[0]? = some (.slice (some ⟨b,off,none⟩) fs.length cap):=hold.2.2 0 rfl;clear hold hdep;go_simp;exact hK.out _ _ rfl (Below.refl _ _)
    ·intro a wx hB hold hdep K hK
     have t5:a.tmps[5]? = some (.int .i64 (i:Nat)):=hold.2.2 5 rfl;clear hold hdep;go_simp;exact hK.out _ _ rfl (Below.refl _ _)
    ·intro a wx hB hold hdep K hK
     obtain⟨v19,t19,p19⟩:=hdep 7 rfl _ 19 rfl rfl;have e19:v19=(.slice (some ⟨b,off,none⟩) fs.length cap):=p19;subst e19;obtain⟨v20,t20,p20⟩:=hdep 8 rfl _ 20 rfl rfl;have e20:v20=(.int .i64 (i:Nat)):=p20;subst e20;clear hold hdep;go_simp;exact hK.out _ _ rfl (Below.refl _ _)
    ·intro a wx hB hold hdep K hK
     obtain⟨v21,t21,p21⟩:=hdep 9 rfl _ 21 rfl rfl;have e21:v21=(.pointer (some ⟨b,off+i * 3,none⟩)):=p21;subst e21;obtain⟨g0,g1,g2⟩:=HC.out;have k0:=(hB.cell (p:=⟨b,off+i * 3,none⟩) HZ.out).trans g0;have k1:=(hB.cell (p:=⟨b,off+i * 3+1,none⟩) HZ.out).trans g1;have k2':=(hB.cell (p:=⟨b,off+i * 3+2,none⟩) HZ.out).trans g2;clear g0 g1 g2;clear hold hdep;go_simp;exact hK.out _ _ rfl (Below.refl _ _)
    ·intro a wx hB hold hdep K hK
     obtain⟨v18,t18,p18⟩:=hdep 6 rfl _ 18 rfl rfl;have e18:v18=VB:=p18;subst e18;obtain⟨v22,t22,p22⟩:=hdep 10 rfl _ 22 rfl rfl;have e22:v22=(.agg #[.int .i64 k2,.string n2,.slice sl2 ks2.length cap2]):=p22;subst e22;clear hold hdep;go_simp;refine (HOB.out wx hB).mono ?_;rintro e w1 ⟨rfl,hb⟩;exact hK.out _ _ rfl hb
    ·intro a wx hB hold hdep K hK
     obtain⟨v17,t17,p17⟩:=hdep 5 rfl _ 17 rfl rfl;have e17:v17=(.int .i64 ((ca:Nat):Int)):=p17;subst e17;obtain⟨v23,t23,p23⟩:=hdep 11 rfl _ 23 rfl rfl;have e23:v23=(.int .i64 ((cb:Nat):Int)):=p23;subst e23;clear hold hdep;go_simp;exact hK.out _ _ rfl (Below.refl _ _)
   ·intro a wx hB hold hgot
    obtain⟨v24,t24,p24⟩:=hgot 12 _ 24 rfl rfl;have e24:v24=(.bool (decide (cb < ca))):=p24;subst e24;obtain⟨tm,df⟩:=a;obtain⟨x0,x1,x2,x3,x4,x5,x6,x7,x8,x9,x10,x11,x12,x13,x14,x15,x16,x17,x18,x19,x20,x21,x22,x23,x24,htm⟩:=QNR tm hold.1;subst htm;obtain rfl:df=[]:=hold.2.1;obtain rfl:x0=_:=Option.some.inj (hold.2.2 0 rfl);obtain rfl:x1=_:=Option.some.inj (hold.2.2 1 rfl);obtain rfl:x2=_:=Option.some.inj (hold.2.2 2 rfl);obtain rfl:x3=_:=Option.some.inj (hold.2.2 3 rfl);obtain rfl:x4=_:=Option.some.inj (hold.2.2 4 rfl);obtain rfl:x5=_:=Option.some.inj (hold.2.2 5 rfl);obtain rfl:x6=_:=Option.some.inj (hold.2.2 6 rfl);obtain rfl:x7=_:=Option.some.inj (hold.2.2 7 rfl);obtain rfl:x8=_:=Option.some.inj (hold.2.2 8 rfl);obtain rfl:x9=_:=Option.some.inj (hold.2.2 9 rfl);obtain rfl:x10=_:=Option.some.inj (hold.2.2 10 rfl);obtain rfl:x11=_:=Option.some.inj (hold.2.2 11 rfl);obtain rfl:x24=_:=Option.some.inj t24;clear hold hgot t24 p24;have B2:=QAC HBr.out hB;by_cases hc:cb < ca
    ·have hd:decide (cb < ca)=true:=decide_eq_true hc
     have HF:Hid (QBB fs gs=false):=HNO.out hc;go_wp2_with fail;go_ret;(exact⟨by rw [HF.out];rfl,B2⟩)
    ·have hd:decide (cb < ca)=false:=decide_eq_false hc
     have HF:Hid (∀ x∈fs.take (i+1),fs.count x≤gs.count x):=HYES.out hc;go_wp2_with fail
     go_roundg (fs.length - (i+1))
     case measure=>have:=HG.out;omega
     case rel=>exact⟨i+1,by omega,rfl,by go_num,B2,HF⟩
  ·have HT:Hid (QBB fs gs=true):=by
    show _=_;rw [HW.out,List.all_eq_true];intro x hx;have:=HN.out;(rw [List.take_of_length_le (by omega)] at this);exact decide_eq_true (this x hx)
   (have hge:¬ (i:Int) < (fs.length:Int):=by omega);clear H3 HN HW;go_wp2_with fail;go_ret;(exact⟨by rw [HT.out];rfl,HBr.out⟩)
set_option maxHeartbeats 2000000 in
theorem QHJ (fs gs:List Fm) (hl:fs.length≤1000) (hl2:gs.length≤1000) (v u:Value) (w:World) (h:FL w v fs) (hu:FL w u gs) :
  Calls Tryz.prog 21 #[v,u] w fun e w'=>e = .returned (.bool (QEB fs gs))∧Below w.heap.size w w':=by
 have hc:=QEL fs gs hl hl2 v u w h hu;obtain⟨ad,cap,rfl,-⟩:=h;obtain⟨ad2,cap2,rfl,-⟩:=hu;(have hlI:(fs.length:Int)≤1000:=by omega);(have hl2I:(gs.length:Int)≤1000:=by omega);have he:QEB fs gs=(decide (fs.length=gs.length) && QBB fs gs):=rfl;rw [he];generalize QBB fs gs=bb at *;have HC:Hid (Calls Tryz.prog 60 _ w _):=hc;clear hc he;by_cases heq:fs.length=gs.length
 ·have hd:decide (fs.length=gs.length)=true:=decide_eq_true heq
  (have hq:((fs.length:Int) == (gs.length:Int))=true:=by rw [heq];simp);have HD:Hid (decide (fs.length=gs.length)=true):=hd;clear hd heq
  go_enter Tryz.func21,Tryz.ntmps21
  go_wp2_with fail;refine HC.out.mono ?_;rintro e w1 ⟨rfl,hb1⟩;go_wp2_with fail;go_ret;(exact⟨by rw [HD.out,Bool.true_and];rfl,hb1⟩)
 ·have hd:decide (fs.length=gs.length)=false:=decide_eq_false heq
  have hq:((fs.length:Int) == (gs.length:Int))=false:=by
   rw [beq_eq_false_iff_ne];omega
  have HD:Hid (decide (fs.length=gs.length)=false):=hd;clear hd heq
  go_enter Tryz.func21,Tryz.ntmps21
  go_wp2_with fail;go_ret;(exact⟨by rw [HD.out,Bool.false_and];rfl,Below.refl _ _⟩)
theorem QEw {f g:Fm}:∀ (i:Nat) (fs:List Fm),QBJ f (fs.take i)=false→fs[i]? = some g→QBN g f=true→fs.erase f=fs.take i++fs.drop (i+1)
 | _,[],_,h,_=>by simp at h
 | 0,x :: fs,_,h,hs=>by
  simp at h;subst h;rw [List.erase_cons,if_pos (show (x == f)=true from hs)]
  simp
 | i+1,x :: fs,hn,h,hs=>by
  rw [List.take_succ_cons] at hn;unfold QBJ at hn;rw [List.any_cons,Bool.or_eq_false_iff] at hn;(rw [List.erase_cons,if_neg (by rw [show (x == f)=QBN x f from rfl,hn.1];decide),QEw i fs hn.2 (by simpa using h) hs])
  simp
def tSl (n c:Nat) (P:Option Addr→Prop):QCV:=fun v _ _=>∃ ad,v = .slice ad n c∧P ad
theorem QLh (n c:Nat) (P:Option Addr→Prop):QCF (tSl n c P):=fun _ _ _ _ _ h _ _=>h
theorem QNS (a:Array Value) (h:a.size=29):∃ x0 x1 x2 x3 x4 x5 x6 x7 x8 x9 x10 x11 x12 x13 x14 x15 x16 x17 x18 x19 x20 x21 x22 x23 x24 x25 x26 x27 x28,a=#[x0,x1,x2,x3,x4,x5,x6,x7,x8,x9,x10,x11,x12,x13,x14,x15,x16,x17,x18,x19,x20,x21,x22,x23,x24,x25,x26,x27,x28]:=by
 obtain⟨l⟩:=a;have h0:l.length=29:=h;obtain⟨x0,l1,e0,h1⟩:=QAD h0;obtain⟨x1,l2,e1,h2⟩:=QAD h1;obtain⟨x2,l3,e2,h3⟩:=QAD h2;obtain⟨x3,l4,e3,h4⟩:=QAD h3;obtain⟨x4,l5,e4,h5⟩:=QAD h4;obtain⟨x5,l6,e5,h6⟩:=QAD h5;obtain⟨x6,l7,e6,h7⟩:=QAD h6;obtain⟨x7,l8,e7,h8⟩:=QAD h7;obtain⟨x8,l9,e8,h9⟩:=QAD h8;obtain⟨x9,l10,e9,h10⟩:=QAD h9;obtain⟨x10,l11,e10,h11⟩:=QAD h10;obtain⟨x11,l12,e11,h12⟩:=QAD h11;obtain⟨x12,l13,e12,h13⟩:=QAD h12;obtain⟨x13,l14,e13,h14⟩:=QAD h13;obtain⟨x14,l15,e14,h15⟩:=QAD h14;obtain⟨x15,l16,e15,h16⟩:=QAD h15;obtain⟨x16,l17,e16,h17⟩:=QAD h16;obtain⟨x17,l18,e17,h18⟩:=QAD h17;obtain⟨x18,l19,e18,h19⟩:=QAD h18;obtain⟨x19,l20,e19,h20⟩:=QAD h19;obtain⟨x20,l21,e20,h21⟩:=QAD h20;obtain⟨x21,l22,e21,h22⟩:=QAD h21;obtain⟨x22,l23,e22,h23⟩:=QAD h22;obtain⟨x23,l24,e23,h24⟩:=QAD h23;obtain⟨x24,l25,e24,h25⟩:=QAD h24;obtain⟨x25,l26,e25,h26⟩:=QAD h25;obtain⟨x26,l27,e26,h27⟩:=QAD h26;obtain⟨x27,l28,e27,h28⟩:=QAD h27;obtain⟨x28,l29,e28,h29⟩:=QAD h28;have e29:l29=[]:=List.length_eq_zero_iff.1 h29;subst e29 e28 e27 e26 e25 e24 e23 e22 e21 e20 e19 e18 e17 e16 e15 e14 e13 e12 e11 e10 e9 e8 e7 e6 e5 e4 e3 e2 e1 e0;exact⟨x0,x1,x2,x3,x4,x5,x6,x7,x8,x9,x10,x11,x12,x13,x14,x15,x16,x17,x18,x19,x20,x21,x22,x23,x24,x25,x26,x27,x28,rfl⟩
def tAp (A S:Nat) (l:List Fm):QCV:=fun v w _=>∃ ad cp,v = .slice ad l.length cp∧AppL A S l ad cp w
theorem QLg (A S:Nat) (l:List Fm):QCF (tAp A S l):=fun _ w _ _ _ h hb _=>by
 obtain⟨ad,cp,hv,ha⟩:=h;exact⟨ad,cp,hv,ha.up hb⟩
set_option maxRecDepth 10000 in
set_option maxHeartbeats 4000000 in
theorem QBQ (fs:List Fm) (hl:fs.length≤1000) (f:Fm) (v u:Value) (w:World) (h:FL w v fs) (hu:Rep w (fun _=>True) f u) :
  Calls Tryz.prog 149 #[v,u] w fun e w'=>∃ x,e = .returned x∧FL w' x (fs.erase f)∧Below w.heap.size w w':=by
 have HV:Hid (FLp (· < w.heap.size) w v fs):=h.low;obtain⟨ad,cap,rfl,h1,h2,h3⟩:=h;obtain⟨kf,nf,ksf⟩:=f;obtain⟨slf,capf,rfl⟩:=QAU hu;(have hlI:(fs.length:Int)≤1000:=by omega);(have H3:Hid (fs≠[]→∃ b off,ad=some ⟨b,off,none⟩∧Reps w (fun _=>True) b off fs):=h3);clear h3
 go_enter Tryz.func149,Tryz.ntmps149
 go_wp2_with fail
 go_loopg [5] fs.length (fun g c wr=>∃ i,i≤fs.length∧g=fs.length - i∧c = .int .i64 (i:Nat)∧Below w.heap.size w wr∧wr.heap[w.heap.size]? = some (.cells #[.int .i64 kf,.string nf,.slice slf ksf.length capf] 29 (0,0))∧Hid (QBJ (.mk kf nf ksf) (fs.take i)=false))
 case atStart=>exact⟨0,by omega,by omega,rfl,(Below.refl _ _).alloc (Nat.le_refl _) _,QAH _ _,by show _=_;rfl⟩
 case round =>
  obtain⟨i,hi,hg,rfl,hbr,q0,HN⟩:=hrel;have HG:Hid (gk=fs.length - i):=hg;clear hg;obtain⟨e0,e1,e2,-⟩:=QAb q0;have z0:=QAE q0;by_cases hlt:i < fs.length
  ·obtain⟨⟨k2,n2,ks2⟩,hki⟩:∃ f,fs[i]? = some f:=⟨_,List.getElem?_eq_getElem hlt⟩
   (obtain⟨b,off,rfl,hrs⟩:=H3.out (fun e=>by rw [e] at hlt;simp at hlt));obtain⟨sl2,cap2,g0,g1,g2,hrep2⟩:=(hrs.up hbr).at i k2 n2 ks2 hki;(have hltI:(i:Int) < (fs.length:Int):=by omega);(have hlc:(i:Int) < (cap:Int):=by omega);have zb:=QAI g0;have zz:=hbr.size;have hrepf:=hu.up hbr;(have hsm:=fun v u w h1 h2=>QEe (.mk k2 n2 ks2) (.mk kf nf ksf) v u w h1 h2)
   have hnx:QBJ (.mk kf nf ksf) (fs.take (i+1))=(QBJ (.mk kf nf ksf) (fs.take i) || QBN (.mk k2 n2 ks2) (.mk kf nf ksf)):=by
    unfold QBJ;rw [List.take_add_one,hki,List.any_append]
    simp
   (have hin:QBN (.mk k2 n2 ks2) (.mk kf nf ksf)=true→fs.erase (.mk kf nf ksf)=fs.take i++fs.drop (i+1):=fun h=>QEw i fs HN.out hki h);simp only at zb;generalize hbb:QBN (.mk k2 n2 ks2) (.mk kf nf ksf)=bb at hsm hnx hin;have HS:Hid (∀ v u w,_→_→Calls Tryz.prog 53 #[v,u] w _):=hsm
   have HX:Hid (QBJ (.mk kf nf ksf) (fs.take (i+1))=bb):=by
    show _=_;rw [hnx,HN.out,Bool.false_or]
   have HI:Hid (bb=true→fs.erase (.mk kf nf ksf)=fs.take i++fs.drop (i+1)):=hin;clear hki hrs H3 hsm hnx hin hbb;go_wp2_with fail
   go_region_held3 (fun w'=>w'.cell? ⟨b,off+i * 3,none⟩=some (.int .i64 k2)∧w'.cell? ⟨b,off+i * 3+1,none⟩=some (.string n2)∧w'.cell? ⟨b,off+i * 3+2,none⟩=some (.slice sl2 ks2.length cap2)∧w'.cell? ⟨w.heap.size,0,none⟩=some (.int .i64 kf)∧w'.cell? ⟨w.heap.size,1,none⟩=some (.string nf)∧w'.cell? ⟨w.heap.size,2,none⟩=some (.slice slf ksf.length capf)) (go_keep)
    (
     first
     | (
      go_at_call 53
      refine (HS.out _ _ _ (hrep2.up (Below.refl _ _).drew) (hrepf.up (Below.refl _ _).drew)).mono ?_;rintro e w1 ⟨rfl,hb1⟩;have c3:=(hb1.cell (p:=⟨b,off+i * 3,none⟩) zb).trans g0;have c4:=(hb1.cell (p:=⟨b,off+i * 3+1,none⟩) zb).trans g1;have c5:=(hb1.cell (p:=⟨b,off+i * 3+2,none⟩) zb).trans g2;have c6:=(hb1.cell (p:=⟨w.heap.size,0,none⟩) z0).trans e0;have c7:=(hb1.cell (p:=⟨w.heap.size,1,none⟩) z0).trans e1
      have c8:=(hb1.cell (p:=⟨w.heap.size,2,none⟩) z0).trans e2)
     | fail)
   have hb2:Below w.heap.size w w1:=hbr.drew.trans (hb1.mono zz);have q1:=(hb1.block _ z0).trans q0;clear c3 c4 c5 c6 c7 c8
   cases bb
   ·go_wp2_with fail
    go_roundg (fs.length - (i+1))
    case measure=>have:=HG.out;omega
    case rel=>exact⟨i+1,by omega,rfl,by go_num,hb2,q1,HX⟩
   ·have HE:Hid (fs.erase (.mk kf nf ksf)=fs.take i++fs.drop (i+1)):=HI.out rfl
    clear HI HX g0 g1 g2 e0 e1 e2;have HB2:Hid (Below w.heap.size w w1):=hb2;have hs1:=hb2.size;(have htk:(fs.take i).length=i:=by rw [List.length_take];omega);(have hdr:(fs.drop (i+1)).length=fs.length - (i+1):=by rw [List.length_drop]);have HTK:Hid ((fs.take i).length=i∧(fs.drop (i+1)).length=fs.length - (i+1)):=⟨htk,hdr⟩;(have hi1:((i:Int)+1)≤(fs.length:Int):=by omega);(have hi2:((i:Int)+1)≤(cap:Int):=by omega);(have hcap:(fs.length:Int)≤(cap:Int):=by omega);(have hN1:i≤cap:=by omega);have hN2:i+1≤fs.length:=hlt;(have hN3:i+1≤cap:=by omega);(have hw1:IntKind.i64.wrap ((i:Int)+1)=(i:Int)+1:=QKE (i+1) (by omega));clear htk hdr;go_wp2_with fail;(refine QGJ (by kernel_rfl) [tEq (.slice (some ⟨b,off,none⟩) fs.length cap),tEq (.int .i64 (i:Nat)),tEq (.slice (some ⟨b,off,none⟩) i cap),tAp w.heap.size w1.heap.size (fs.take i),tEq (.slice (some ⟨b,off,none⟩) fs.length cap),tEq (.int .i64 (i:Nat)),tEq (.int .i64 ((i:Int)+1)),tSl (fs.length - (i+1)) (cap - (i+1)) (fun ad=>i+1 < fs.length→ad=some ⟨b,off+(i+1) * 3,none⟩),tAp w.heap.size w1.heap.size (fs.take i++fs.drop (i+1))] ?_ (by kernel_rfl) (by kernel_rfl) 29 rfl (by kernel_rfl) 9 _ rfl rfl (by kernel_rfl) [3] 8 (by decide) (fun wa _ wb=>Below w1.heap.size wa wb) (fun _ wx=>Below w1.heap.size w1 wx) (Below.refl _ _) (fun _ wa wb h1 h2=>QAC h1 h2) (fun wa _ wb h1 h2=>h1.trans h2) [] (by kernel_rfl) ?_ ?_ ?_)
    ·intro p hp
     simp only [List.mem_cons,List.not_mem_nil,or_false] at hp
     rcases hp with rfl|rfl|rfl|rfl|rfl|rfl|rfl|rfl|rfl
     all_goals first|exact QDP _|exact QLg _ _ _|exact QLh _ _ _
    ·refine⟨fun _ _ _ _ _ _ h _ _=>h,fun _ _ _ _ _ _ h _ _=>h,fun _ _ _ _ _ _ h _ _=>h,fun h => ?_,fun _ _ _ _ _ _ h _ _=>h,fun _ _ _ _ _ _ h _ _=>h,fun _ _ _ _ _ _ h _ _=>h,fun _ _ _ _ _ _ h _ _=>h,fun h => ?_,trivial⟩
     all_goals exact Bool.noConfusion (((by kernel_rfl:(_:Bool)=true)).symm.trans h)
    ·refine⟨?_,?_,?_,?_,?_,?_,?_,?_,?_,trivial⟩
     ·intro a wx t s hB hs hold hdep K hK
      have t0:a.tmps[0]? = some (.slice (some ⟨b,off,none⟩) fs.length cap):=hold.2.2 0 rfl;clear hold hdep hs;go_simp;exact hK.out _ _ rfl (Below.refl _ _)
     ·intro a wx t s hB hs hold hdep K hK
      have t5:a.tmps[5]? = some (.int .i64 (i:Nat)):=hold.2.2 5 rfl;clear hold hdep hs;go_simp;exact hK.out _ _ rfl (Below.refl _ _)
     ·intro a wx t s hB hs hold hdep K hK
      obtain⟨v18,t18,p18⟩:=hdep 0 rfl _ 18 rfl rfl;have e18:v18=(.slice (some ⟨b,off,none⟩) fs.length cap):=p18;subst e18;obtain⟨v19,t19,p19⟩:=hdep 1 rfl _ 19 rfl rfl;have e19:v19=(.int .i64 (i:Nat)):=p19;subst e19;clear hold hdep hs;go_simp;exact hK.out _ _ rfl (Below.refl _ _)
     ·intro a wx t s hB hs hold hdep K hK
      obtain⟨v20,t20,p20⟩:=hdep 2 rfl _ 20 rfl rfl;have e20:v20=(.slice (some ⟨b,off,none⟩) i cap):=p20;subst e20;have hzx:=hB.size;(refine QGt rfl _ _ rfl w.heap.size w1.heap.size [] (fs.take i) none 0 _ rfl AppL.nil (QEn t20) ((HV.out.take hi).move fun q hq hp=>⟨(QAC HB2.out hB).block q hq,hp⟩) hs1 hzx (by have:=HTK.out.1;simp;omega) ?_);intro ad3 cp3 w3 ha hb hkk;(exact hK.out _ _ ⟨ad3,cp3,rfl,ha⟩ ⟨hb.os,hb.tape,hb.output,hb.size,fun j hj=>hkk j (by simp [Value.ownBlock]) hj⟩)
     ·intro a wx t s hB hs hold hdep K hK
      have t0:a.tmps[0]? = some (.slice (some ⟨b,off,none⟩) fs.length cap):=hold.2.2 0 rfl;clear hold hdep hs;go_simp;exact hK.out _ _ rfl (Below.refl _ _)
     ·intro a wx t s hB hs hold hdep K hK
      have t5:a.tmps[5]? = some (.int .i64 (i:Nat)):=hold.2.2 5 rfl;clear hold hdep hs;go_simp;exact hK.out _ _ rfl (Below.refl _ _)
     ·intro a wx t s hB hs hold hdep K hK
      obtain⟨v23,t23,p23⟩:=hdep 5 rfl _ 23 rfl rfl;have e23:v23=(.int .i64 (i:Nat)):=p23;subst e23;clear hold hdep hs;go_simp;exact hK.out _ _ rfl (Below.refl _ _)
     ·intro a wx t s hB hs hold hdep K hK
      obtain⟨v22,t22,p22⟩:=hdep 4 rfl _ 22 rfl rfl;have e22:v22=(.slice (some ⟨b,off,none⟩) fs.length cap):=p22;subst e22;obtain⟨v24,t24,p24⟩:=hdep 6 rfl _ 24 rfl rfl;have e24:v24=(.int .i64 ((i:Int)+1)):=p24;subst e24;clear hold hdep hs;by_cases hcc:cap=i+1
      ·have hcn:¬ i+1 < fs.length:=by omega
       (have hc0:cap - (i+1)=0:=by omega);have HC0:Hid (cap - (i+1)=0):=hc0;clear hc0;go_simp;(exact hK.out _ _ ⟨_,by rw [HC0.out],fun h=>absurd h hcn⟩ (Below.refl _ _))
      ·go_simp
       (exact hK.out _ _ ⟨_,rfl,fun _=>rfl⟩ (Below.refl _ _))
     ·intro a wx t s hB hs hold hdep K hK
      obtain⟨v21,t21,ad1,cp1,e21,ha1⟩:=hdep 3 rfl _ 21 rfl rfl;obtain⟨v25,t25,ad5,e25,h25⟩:=hdep 7 rfl _ 25 rfl rfl;subst e21 e25;have hzx:=hB.size;(refine QGt rfl _ _ rfl w.heap.size w1.heap.size (fs.take i) (fs.drop (i+1)) ad1 cp1 _ (QEn t21) ha1 (QEn t25) ((HV.out.drop hN2 h25).move fun q hq hp=>⟨(HB2.out.trans (hB.mono hs1)).block q hp,hp⟩) hs1 hzx (by have:=HTK.out;omega) ?_);intro ad3 cp3 w3 ha hb hkk;exact hK.out _ _ ⟨ad3,cp3,rfl,ha⟩ hb
    ·intro a wx t hB hold hgot K hK
     (obtain⟨v26,t26,ad3,cp3,e26,ha⟩:=hgot 8 _ 26 (by omega) (by kernel_rfl) rfl rfl);subst e26;have HA3:Hid (AppL w.heap.size w1.heap.size (fs.take i++fs.drop (i+1)) ad3 cp3 wx):=ha;obtain⟨tm,df⟩:=a;obtain⟨x0,x1,x2,x3,x4,x5,x6,x7,x8,x9,x10,x11,x12,x13,x14,x15,x16,x17,x18,x19,x20,x21,x22,x23,x24,x25,x26,x27,x28,htm⟩:=QNS tm hold.1;subst htm;obtain rfl:df=[]:=hold.2.1;obtain rfl:x26=_:=Option.some.inj t26;clear hold hgot ha t26;go_simp;refine hK.out _ _ ?_;go_wp2_with fail;go_ret;have hf:=(HA3.out.flp hs1).list;rw [List.length_append,HTK.out.1,HTK.out.2,← HE.out] at hf;exact⟨_,rfl,hf,HB2.out.trans (hB.mono hs1)⟩
  ·have HT:Hid (fs.erase (.mk kf nf ksf)=fs):=by
    have:=HN.out;(rw [List.take_of_length_le (by omega)] at this);show _=_;rw [List.erase_of_not_mem];intro hm;rw [(QID _ _).2 hm] at this
    cases this
   (have hge:¬ (i:Int) < (fs.length:Int):=by omega);have HB2:Hid (Below w.heap.size w wr):=hbr;have hsz:=hbr.size;clear H3 HN e0 e1 e2
   go_wp2_with (first
    | (
      at_builtin
      (refine QDs rfl _ _ rfl w.heap.size w.heap.size [] fs none 0 _ rfl AppL.nil rfl (HV.out.move fun q hq hp=>⟨HB2.out.block q hp,hp⟩) (Nat.le_refl _) hsz (by simp;omega) ?_);intro ad1 cp1 w1 h1 b1 k1;have H1:Hid (AppL w.heap.size w.heap.size fs ad1 cp1 w1):=h1
      clear h1 k1)
    | fail)
   go_ret;have hf:=(H1.out.flp (Nat.le_refl _)).list;(exact⟨_,rfl,by rw [HT.out];exact hf,HB2.out.trans b1⟩)
theorem QAF {o:Option Value} {c:Value} (w:World) (h:∃ v,o=some v∧kEq c v w):o=some c:=by
 obtain⟨v,h1,h2⟩:=h;have h3:v=c:=h2;rw [h1,h3]
theorem QLj {w X:World} {A Z:Obj} (h:X=((w.alloc A).alloc Z).alloc A):Hid (Below w.heap.size w X)∧Hid (X.heap[w.heap.size]? = some A)∧Hid (X.heap[w.heap.size+1]? = some Z)∧Hid (X.heap[w.heap.size+1+1]? = some A):=by
 subst h;exact⟨QAB (QAB (QAB (Below.refl _ w) _) _) _,QAG (QAG (QAH w _) _) _,QAG (QAa w _ _) _,QBW w _ _ _⟩
theorem QAK {x y:Value} (h:some x=some y):x=y:=Option.some.inj h
def QBs (i:Bool) (q:Ru):Bool :=
 match q with
 | .orR=>!i
 | .contrR=>!i
 | .orR1=>i
 | .orR2=>i
 | _=>true
def QCC (q:Ru) (k:Int) (bl br:Bool):Bool :=
 match q with
 | .ax=>bl && br
 | .tr=>(k == 2) && br
 | .fa=>(k == 3) && bl
 | .andL=>(k == 5) && bl
 | .andR=>(k == 5) && br
 | .orL=>(k == 6) && bl
 | .thenR=>(k == 7) && br
 | .notR=>(k == 4) && br
 | .contrL=>bl
 | .orR=>(k == 6) && br
 | .thenL=>(k == 7) && bl
 | .notL=>(k == 4) && bl
 | .contrR=>br
 | .cut=>true
 | .orR1=>(k == 6) && br
 | .orR2=>(k == 6) && br
theorem QIC (f:Fm) (l:List Fm):QBJ f l=decide (f∈l):=by
 rw [Bool.eq_iff_iff,QID,decide_eq_true_iff]
theorem QCo (q:Ru) (k:Int) (n:ByteArray) (ks:List Fm) (l r:List Fm):QBY q (.mk k n ks) l r=QCC q k (QBJ (.mk k n ks) l) (QBJ (.mk k n ks) r):=by
 rw [QIC,QIC]
 cases q <;> rfl
def kGd (b:Bool) (x:Value):Value→World→Prop:=fun v _=>b=true→v=x
theorem QBD (b:Bool) (x:Value):QDF (kGd b x):=fun _ _ _ h _=>h
set_option maxHeartbeats 1000000 in
theorem QAg (ad:Option Addr) (m cp:Nat) (ad':Option Addr) (m' cp':Nat) (w:World) :
  Calls Tryz.prog 150 #[.slice ad m cp,.slice ad' m' cp'] w fun e w'=>e = .returned (.agg #[.slice ad m cp,.slice ad' m' cp'])∧Below w.heap.size w w':=by
 have B:=QAB (Below.refl _ w) (.cells #[.slice ad m cp,.slice ad' m' cp'] 24 (0,0))
 go_enter Tryz.func150,Tryz.ntmps150
 go_wp2_with fail;(exact bodyPost_ret (v := .agg #[.slice ad m cp,.slice ad' m' cp']) (by simp [results,Tryz.results150,go_sem]) rfl ⟨rfl,B⟩)
abbrev QAY (w:World) (a0 a1 a2 z0 z1 z2:Value):World:=((w.alloc (.cells #[a0,a1,a2] 29 (0,0))).alloc (.cells #[z0,z1,z2] 29 (0,0))).alloc (.cells #[a0,a1,a2] 29 (0,0))
theorem QGA {w X:World} {a0 a1 a2 z0 z1 z2:Value} (h:X=QAY w a0 a1 a2 z0 z1 z2):Hid (∀ o,(X.alloc o).heap[w.heap.size+1+1+1]? = some o):=by
 intro o;subst h;have:=QBW (w.alloc (.cells #[a0,a1,a2] 29 (0,0))) (.cells #[z0,z1,z2] 29 (0,0)) (.cells #[a0,a1,a2] 29 (0,0)) o
 rwa [show (w.alloc (.cells #[a0,a1,a2] 29 (0,0))).heap.size=w.heap.size+1 by simp] at this
theorem QAr {w w4:World} {k:Int} {n:ByteArray} {ks:List Fm} {sf:Option Addr} {cf:Nat} (h:Rep w (fun _=>True) (.mk k n ks) (.agg #[.int .i64 k,.string n,.slice sf ks.length cf])) (B4:Below w.heap.size w w4) :
  (¬ (0:Int) < (ks.length:Int)∧Hid (Rep w4 (fun _=>True) QAR (.agg #[.int .i64 0,.string ⟨#[]⟩,.slice none 0 0]))∧Hid (Rep w4 (fun _=>True) QAR (.agg #[.int .i64 0,.string ⟨#[]⟩,.slice none 0 0]))∧Hid (Fm.kA (.mk k n ks)=QAR)∧Hid (Fm.kZ (.mk k n ks)=QAR)) ∨
  ∃ (b off m:Nat) (ka:Int) (na:ByteArray) (ksa:List Fm) (sa:Option Addr) (ca:Nat) (kz:Int) (nz:ByteArray) (ksz:List Fm) (sz:Option Addr) (cz:Nat),sf=some ⟨b,off,none⟩∧w4.cell? ⟨b,off,none⟩=some (.int .i64 ka)∧w4.cell? ⟨b,off+1,none⟩=some (.string na)∧w4.cell? ⟨b,off+2,none⟩=some (.slice sa ksa.length ca)∧w4.cell? ⟨b,off+m * 3,none⟩=some (.int .i64 kz)∧w4.cell? ⟨b,off+m * 3+1,none⟩=some (.string nz)∧w4.cell? ⟨b,off+m * 3+2,none⟩=some (.slice sz ksz.length cz)∧((ks.length:Int) - 1=(m:Nat))∧(0:Int) < (ks.length:Int)∧(0:Int) < (cf:Int)∧(m:Int) < (ks.length:Int)∧(m:Int) < (cf:Int)∧¬ b=w4.heap.size∧¬ b=w4.heap.size+1∧0 < ks.length∧b < w4.heap.size∧Hid (Rep w4 (fun _=>True) (.mk ka na ksa) (.agg #[.int .i64 ka,.string na,.slice sa ksa.length ca]))∧Hid (Rep w4 (fun _=>True) (.mk kz nz ksz) (.agg #[.int .i64 kz,.string nz,.slice sz ksz.length cz]))∧Hid (Fm.kA (.mk k n ks) = .mk ka na ksa)∧Hid (Fm.kZ (.mk k n ks) = .mk kz nz ksz):=by
 obtain⟨sf',cf',hv,-,hkc,hcm,hkr⟩:=Rep.def.1 h;simp only [Value.agg.injEq,Array.mk.injEq,List.cons.injEq,Value.slice.injEq,and_true,true_and] at hv;obtain⟨rfl,rfl⟩:=hv;by_cases hke:ks=[]
 ·subst hke
  (exact Or.inl ⟨by simp,Rep.leaf (by simp [maxLen,ByteArray.size]),Rep.leaf (by simp [maxLen,ByteArray.size]),rfl,rfl⟩)
 ·obtain⟨⟨ka,na,ksa⟩,hk0⟩:∃ f,ks[0]? = some f:=⟨_,List.getElem?_eq_getElem (List.length_pos_iff.2 hke)⟩
  have hpos:0 < ks.length:=List.length_pos_iff.2 hke;obtain⟨m,hm⟩:∃ m,m=ks.length - 1:=⟨_,rfl⟩;(obtain⟨⟨kz,nz,ksz⟩,hkz⟩:∃ f,ks[m]? = some f:=⟨_,List.getElem?_eq_getElem (by omega)⟩);obtain⟨b,off,rfl,-,hrs⟩:=hkr hke;obtain⟨sa,ca,g0,g1,g2,hra⟩:=(hrs.up B4).at 0 ka na ksa hk0;obtain⟨sz,cz,u0,u1,u2,hrz⟩:=(hrs.up B4).at m kz nz ksz hkz;simp only [Nat.zero_mul,Nat.add_zero] at g0 g1 g2;have zb:=QAI g0;simp only at zb;(refine Or.inr ⟨b,off,m,ka,na,ksa,sa,ca,kz,nz,ksz,sz,cz,rfl,g0,g1,g2,u0,u1,u2,by omega,by omega,by omega,by omega,by omega,by omega,by omega,hpos,zb,hra,hrz,?_,?_⟩)
  ·show ks.headD QAR=_
   rw [List.headD_eq_head?_getD,List.head?_eq_getElem?,hk0,Option.getD_some]
  ·show ks.getLastD QAR=_
   rw [List.getLastD_eq_getLast?,List.getLast?_eq_getElem?,← hm,hkz,Option.getD_some]
theorem QBG {w w4 X:World} {a0 a1 a2 z0 z1 z2 f2 vl vr vg vd:Value} {F fa fz:Fm} {k:Int} {n:ByteArray} {l r lg rd:List Fm} (hX:X=QAY w4 a0 a1 a2 z0 z1 z2) (B4:Below w.heap.size w w4) (hQ:Hid (w4.heap[w.heap.size]? = some (.cells #[.int .i64 k,.string n,f2] 29 (0,0)))) (hF:Hid (Rep w (fun _=>True) F (.agg #[.int .i64 k,.string n,f2]))) (hA:Hid (Rep w4 (fun _=>True) fa (.agg #[a0,a1,a2]))) (hZ:Hid (Rep w4 (fun _=>True) fz (.agg #[z0,z1,z2]))) (hl:Hid (FL w vl l)) (hr:Hid (FL w vr r)) (hg:Hid (FL w4 vg lg)) (hd:Hid (FL w4 vd rd)) (hkA:Hid (F.kA=fa)) (hkZ:Hid (F.kZ=fz)) :
  ∃ a0 a1 a2 z0 z1 z2 f2 fa fz,Hid (Below w4.heap.size w4 X)∧Hid (X.heap[w4.heap.size]? = some (.cells #[a0,a1,a2] 29 (0,0)))∧Hid (X.heap[w4.heap.size+1]? = some (.cells #[z0,z1,z2] 29 (0,0)))∧Hid (X.heap[w.heap.size]? = some (.cells #[.int .i64 k,.string n,f2] 29 (0,0)))∧Hid (FL X vl l)∧Hid (FL X vr r)∧Hid (FL X vg lg)∧Hid (FL X vd rd)∧Hid (Rep X (fun _=>True) fa (.agg #[a0,a1,a2]))∧Hid (Rep X (fun _=>True) fz (.agg #[z0,z1,z2]))∧Hid (Rep X (fun _=>True) F (.agg #[.int .i64 k,.string n,f2]))∧Hid (FL X (.slice (some ⟨w4.heap.size+1+1,0,none⟩) 1 1) [fa])∧Hid (F.kA=fa)∧Hid (F.kZ=fz):=by
 obtain⟨BX,HBA,HBZ,HBO⟩:=QLj hX;exact⟨a0,a1,a2,z0,z1,z2,f2,fa,fz,BX,HBA,HBZ,QAA BX.out hQ.out,hl.out.up (QAC B4 BX.out),hr.out.up (QAC B4 BX.out),hg.out.up BX.out,hd.out.up BX.out,hA.out.up BX.out,hZ.out.up BX.out,hF.out.up (QAC B4 BX.out),FL.sing HBO.out (hA.out.up BX.out),hkA,hkZ⟩
set_option maxRecDepth 10000 in
set_option maxHeartbeats 8000000 in
theorem QJc (i:Bool) (q:Ru) (t:ByteArray) (hq:(q = .ax∧t=⟨#[97,120]⟩)∨(q = .tr∧t=⟨#[116,114,117,101]⟩)∨(q = .fa∧t=⟨#[102,97,108,115,101]⟩)) (f:Fm) (l r:List Fm) (hl3:l.length≤300) (hr3:r.length≤300) (v VL VR:Value) (w:World) (hf:Rep w (fun _=>True) f v) (hl:FL w VL l) (hr:FL w VR r) :
  Calls Tryz.prog 104 #[.string t,v,.agg #[VL,VR],.bool i] w fun e w'=>∃ x,e = .returned (.tuple #[x,.bool (QBs i q),.bool (QBY q f l r)])∧SQs w' x (QAl i q f l r)∧Below w.heap.size w w':=by
 obtain⟨k,n,ks⟩:=f;obtain⟨sf,cf,rfl⟩:=QAU hf;(have HF:Hid (Rep w (fun _=>True) (.mk k n ks) _):=hf);have HL:Hid (FL w VL l):=hl;have HR:Hid (FL w VR r):=hr;have HKS:=(Rep.def.1 hf);obtain⟨sf',cf',hv,-,hkc,hcm,hkr⟩:=HKS;simp only [Value.agg.injEq,Array.mk.injEq,List.cons.injEq,Value.slice.injEq,and_true,true_and] at hv;obtain⟨rfl,rfl⟩:=hv;(have hksI:(ks.length:Int)≤9223372036854775807:=by unfold maxLen at hcm;omega);(have hkcI:(ks.length:Int)≤(cf:Int):=by omega);obtain⟨adl,cpl,rfl,-⟩:=hl;obtain⟨adr,cpr,rfl,-⟩:=hr;obtain⟨O1,hO1⟩:∃ O,O=Obj.cells #[.int .i64 k,.string n,.slice sf ks.length cf] 29 (0,0):=⟨_,rfl⟩;obtain⟨O2,hO2⟩:∃ O,O=Obj.cells #[.slice adl l.length cpl,.slice adr r.length cpr] 24 (0,0):=⟨_,rfl⟩;obtain⟨W,hW⟩:∃ W,W=(w.alloc O1).alloc O2:=⟨_,rfl⟩;(have B0:Below w.heap.size w W:=by rw [hW];exact QAB (QAB (Below.refl _ w) _) _);(have p1:W.heap[w.heap.size]? = some O1:=by rw [hW];exact QAG (QAH w O1) _);(have p2:W.heap[w.heap.size+1]? = some O2:=by rw [hW];exact QAa w O1 O2);rw [hO1] at p1;rw [hO2] at p2;have P1:Hid (W.heap[w.heap.size]? = some _):=p1;have P2:Hid (W.heap[w.heap.size+1]? = some _):=p2;have HWe:Hid ((w.alloc O1).alloc O2=W):=hW.symm;clear hf hkr p1 p2 hW
 go_enter Tryz.func104,Tryz.ntmps104
 go_wp2_with fail;rw [← hO1,← hO2,HWe.out];clear hO1 hO2 HWe;(refine (QBQ l (by omega) (.mk k n ks) _ _ W (HL.out.up B0) (HF.out.up B0)).mono ?_);rintro e w1 ⟨x1,rfl,hg,hb1⟩;have B1:=QAC B0 hb1;have Q1:Hid (w1.heap[w.heap.size]? = some _):=QAA hb1 P1.out;have Q2:Hid (w1.heap[w.heap.size+1]? = some _):=QAA hb1 P2.out;obtain⟨adg,cpg,rfl,-⟩:=id hg;have HG1:Hid (FL w1 _ (l.erase (.mk k n ks))):=hg;clear hg hb1 P1 P2 B0;obtain⟨j0,j1,j2,-⟩:=QAb Q1.out;go_wp2_with fail;(refine (QBQ r (by omega) (.mk k n ks) _ _ w1 (HR.out.up B1) (HF.out.up B1)).mono ?_);rintro e w2 ⟨x2,rfl,hd,hb2⟩;have B2:=QAC B1 hb2;have Q3:Hid (w2.heap[w.heap.size]? = some _):=QAA hb2 Q1.out;obtain⟨add,cpd,rfl,-⟩:=id hd;have HD2:Hid (FL w2 _ (r.erase (.mk k n ks))):=hd;have HG2:Hid (FL w2 _ (l.erase (.mk k n ks))):=HG1.out.up hb2;clear hd hb2 Q1 Q2 j0 j1 j2 HG1 B1;obtain⟨j0,j1,j2,-⟩:=QAb Q3.out;go_wp2_with fail;refine (QBn l (.mk k n ks) _ _ w2 (HL.out.up B2) (HF.out.up B2)).mono ?_;rintro e w3 ⟨rfl,hb3⟩;have B3:=QAC B2 hb3;have Q4:Hid (w3.heap[w.heap.size]? = some _):=QAA hb3 Q3.out;have HD3:Hid (FL w3 _ (r.erase (.mk k n ks))):=HD2.out.up hb3;have HG3:Hid (FL w3 _ (l.erase (.mk k n ks))):=HG2.out.up hb3;clear hb3 Q3 j0 j1 j2 HG2 HD2 B2;obtain⟨j0,j1,j2,-⟩:=QAb Q4.out;go_wp2_with fail;refine (QBn r (.mk k n ks) _ _ w3 (HR.out.up B3) (HF.out.up B3)).mono ?_;rintro e w4 ⟨rfl,hb4⟩;have B4:=QAC B3 hb4;have Q5:Hid (w4.heap[w.heap.size]? = some _):=QAA hb4 Q4.out;have HD4:Hid (FL w4 _ (r.erase (.mk k n ks))):=HD3.out.up hb4;have HG4:Hid (FL w4 _ (l.erase (.mk k n ks))):=HG3.out.up hb4;clear hb4 Q4 j0 j1 j2 HG3 HD3 B3;obtain⟨j0,j1,j2,-⟩:=QAb Q5.out;have z4:=QAE Q5.out;have HOK:Hid (QBY q (.mk k n ks) l r=QCC q k (QBJ (.mk k n ks) l) (QBJ (.mk k n ks) r)):=QCo _ _ _ _ _ _;generalize QBJ (.mk k n ks) l=bl at *;generalize QBJ (.mk k n ks) r=br at *;have HE1:Hid ((l.erase (.mk k n ks)).length≤300):=Nat.le_trans List.length_erase_le hl3;have HE2:Hid ((r.erase (.mk k n ks)).length≤300):=Nat.le_trans List.length_erase_le hr3
 rcases hq with ⟨rfl,rfl⟩|⟨rfl,rfl⟩|⟨rfl,rfl⟩
 ·have z5:w.heap.size < w4.heap.size+1:=by omega
  (have z6:w.heap.size < w4.heap.size+1+1:=by omega)
  cases bl
  ·have HOB:Hid (QCC .ax k false br=false):=by show _=_;rfl
   rcases QAr HF.out B4 with ⟨hp0,HRA,HRZ,HKA,HKZ⟩|⟨b,off,m,ka,na,ksa,sa,ca,kz,nz,ksz,sz,cz,rfl,g0,g1,g2,u0,u1,u2,hmI,hp0,hp1,hp2,hp3,d1,d2,hpos,zb,HRA,HRZ,HKA,HKZ⟩
   all_goals
    go_wp2_with fail;(exact bodyPost_ret (v := .tuple #[.slice none 0 0,.bool true,.bool false]) (by simp [results,Tryz.results104,go_sem]) rfl ⟨_,by rw [HOK.out,HOB.out];rfl,SQs.nil,QAC B4 (QAB (QAB (QAB (Below.refl _ w4) _) _) _)⟩)
  ·have HOB:Hid (QCC .ax k true br=br):=by show _=_;rfl
   rcases QAr HF.out B4 with ⟨hp0,HRA,HRZ,HKA,HKZ⟩|⟨b,off,m,ka,na,ksa,sa,ca,kz,nz,ksz,sz,cz,rfl,g0,g1,g2,u0,u1,u2,hmI,hp0,hp1,hp2,hp3,d1,d2,hpos,zb,HRA,HRZ,HKA,HKZ⟩
   all_goals
    go_wp2_with fail;(exact bodyPost_ret (v := .tuple #[.slice none 0 0,.bool true,.bool br]) (by simp [results,Tryz.results104,go_sem]) rfl ⟨_,by rw [HOK.out,HOB.out];rfl,SQs.nil,QAC B4 (QAB (QAB (QAB (Below.refl _ w4) _) _) _)⟩)
 ·have z5:w.heap.size < w4.heap.size+1:=by omega
  (have z6:w.heap.size < w4.heap.size+1+1:=by omega);by_cases hk2:k=2
  ·subst hk2
   (have HOB:Hid (QCC .tr 2 bl br=br):=by show _=_;rfl)
   rcases QAr HF.out B4 with ⟨hp0,HRA,HRZ,HKA,HKZ⟩|⟨b,off,m,ka,na,ksa,sa,ca,kz,nz,ksz,sz,cz,rfl,g0,g1,g2,u0,u1,u2,hmI,hp0,hp1,hp2,hp3,d1,d2,hpos,zb,HRA,HRZ,HKA,HKZ⟩
   all_goals
    go_wp2_with fail;(exact bodyPost_ret (v := .tuple #[.slice none 0 0,.bool true,.bool br]) (by simp [results,Tryz.results104,go_sem]) rfl ⟨_,by rw [HOK.out,HOB.out];rfl,SQs.nil,QAC B4 (QAB (QAB (QAB (Below.refl _ w4) _) _) _)⟩)
  ·have hq:(k == 2)=false:=by simpa using hk2
   (have HOB:Hid (QCC .tr k bl br=false):=by show _=_;unfold QCC;rw [hq];rfl)
   rcases QAr HF.out B4 with ⟨hp0,HRA,HRZ,HKA,HKZ⟩|⟨b,off,m,ka,na,ksa,sa,ca,kz,nz,ksz,sz,cz,rfl,g0,g1,g2,u0,u1,u2,hmI,hp0,hp1,hp2,hp3,d1,d2,hpos,zb,HRA,HRZ,HKA,HKZ⟩
   all_goals
    go_wp2_with fail;(exact bodyPost_ret (v := .tuple #[.slice none 0 0,.bool true,.bool false]) (by simp [results,Tryz.results104,go_sem]) rfl ⟨_,by rw [HOK.out,HOB.out];rfl,SQs.nil,QAC B4 (QAB (QAB (QAB (Below.refl _ w4) _) _) _)⟩)
 ·have z5:w.heap.size < w4.heap.size+1:=by omega
  (have z6:w.heap.size < w4.heap.size+1+1:=by omega);by_cases hk2:k=3
  ·subst hk2
   (have HOB:Hid (QCC .fa 3 bl br=bl):=by show _=_;rfl)
   rcases QAr HF.out B4 with ⟨hp0,HRA,HRZ,HKA,HKZ⟩|⟨b,off,m,ka,na,ksa,sa,ca,kz,nz,ksz,sz,cz,rfl,g0,g1,g2,u0,u1,u2,hmI,hp0,hp1,hp2,hp3,d1,d2,hpos,zb,HRA,HRZ,HKA,HKZ⟩
   all_goals
    go_wp2_with fail;(exact bodyPost_ret (v := .tuple #[.slice none 0 0,.bool true,.bool bl]) (by simp [results,Tryz.results104,go_sem]) rfl ⟨_,by rw [HOK.out,HOB.out];rfl,SQs.nil,QAC B4 (QAB (QAB (QAB (Below.refl _ w4) _) _) _)⟩)
  ·have hq:(k == 3)=false:=by simpa using hk2
   (have HOB:Hid (QCC .fa k bl br=false):=by show _=_;unfold QCC;rw [hq];rfl)
   rcases QAr HF.out B4 with ⟨hp0,HRA,HRZ,HKA,HKZ⟩|⟨b,off,m,ka,na,ksa,sa,ca,kz,nz,ksz,sz,cz,rfl,g0,g1,g2,u0,u1,u2,hmI,hp0,hp1,hp2,hp3,d1,d2,hpos,zb,HRA,HRZ,HKA,HKZ⟩
   all_goals
    go_wp2_with fail;(exact bodyPost_ret (v := .tuple #[.slice none 0 0,.bool true,.bool false]) (by simp [results,Tryz.results104,go_sem]) rfl ⟨_,by rw [HOK.out,HOB.out];rfl,SQs.nil,QAC B4 (QAB (QAB (QAB (Below.refl _ w4) _) _) _)⟩)
end Go.Proofs.YtbmedfokpgghiacGreat
