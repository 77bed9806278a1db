import Derived.Test.YtffkoiemnchdgadGreatB31
import Derived.Test.YtffkoiemnchdgadGreatB20
import Derived.Test.YtffkoiemnchdgadGreatB32
namespace Go.Proofs.YtffkoiemnchdgadGreat
open Go.RowKit
theorem QJY (a:Array Value) (h:a.size=25):∃ x0 x1 x2 x3 x4 x5 x6 x7 x8 x9 x10 x11 x12 x13 x14 x15 x16 x17 x18 x19 x20 x21 x22 x23 x24,a=#[x0,x1,x2,x3,x4,x5,x6,x7,x8,x9,x10,x11,x12,x13,x14,x15,x16,x17,x18,x19,x20,x21,x22,x23,x24]:=by
 obtain⟨l⟩:=a;have h0:l.length=25:=h;obtain⟨x0,l1,e0,h1⟩:=QAH h0;obtain⟨x1,l2,e1,h2⟩:=QAH h1;obtain⟨x2,l3,e2,h3⟩:=QAH h2;obtain⟨x3,l4,e3,h4⟩:=QAH h3;obtain⟨x4,l5,e4,h5⟩:=QAH h4;obtain⟨x5,l6,e5,h6⟩:=QAH h5;obtain⟨x6,l7,e6,h7⟩:=QAH h6;obtain⟨x7,l8,e7,h8⟩:=QAH h7;obtain⟨x8,l9,e8,h9⟩:=QAH h8;obtain⟨x9,l10,e9,h10⟩:=QAH h9;obtain⟨x10,l11,e10,h11⟩:=QAH h10;obtain⟨x11,l12,e11,h12⟩:=QAH h11;obtain⟨x12,l13,e12,h13⟩:=QAH h12;obtain⟨x13,l14,e13,h14⟩:=QAH h13;obtain⟨x14,l15,e14,h15⟩:=QAH h14;obtain⟨x15,l16,e15,h16⟩:=QAH h15;obtain⟨x16,l17,e16,h17⟩:=QAH h16;obtain⟨x17,l18,e17,h18⟩:=QAH h17;obtain⟨x18,l19,e18,h19⟩:=QAH h18;obtain⟨x19,l20,e19,h20⟩:=QAH h19;obtain⟨x20,l21,e20,h21⟩:=QAH h20;obtain⟨x21,l22,e21,h22⟩:=QAH h21;obtain⟨x22,l23,e22,h23⟩:=QAH h22;obtain⟨x23,l24,e23,h24⟩:=QAH h23;obtain⟨x24,l25,e24,h25⟩:=QAH h24;have e25:l25=[]:=List.length_eq_zero_iff.1 h25;subst e25 e24 e23 e22 e21 e20 e19 e18 e17 e16 e15 e14 e13 e12 e11 e10 e9 e8 e7 e6 e5 e4 e3 e2 e1 e0;exact⟨x0,x1,x2,x3,x4,x5,x6,x7,x8,x9,x10,x11,x12,x13,x14,x15,x16,x17,x18,x19,x20,x21,x22,x23,x24,rfl⟩
set_option maxRecDepth 10000 in
set_option maxHeartbeats 4000000 in
theorem QDC (fs gs:List Fm) (hl:fs.length≤1000) (hl2:gs.length≤1000) (v VB:Value) (w:World) (h:FL w v fs) (hu:FL w VB gs) :
  Calls Tryz.prog 81 #[v,VB] w fun e w'=>e = .returned (.bool (QAV fs gs))∧Below w.heap.size w w':=by
 have HV:Hid (FL w v fs):=h;have HU:Hid (FL w VB gs):=hu;obtain⟨ad,cap,rfl,h1,h2,h3⟩:=h;(have H3:Hid (fs≠[]→∃ b off,ad=some ⟨b,off,none⟩∧Reps w (fun _=>True) b off fs):=h3);(have hlI:(fs.length:Int)≤1000:=by omega);(have HW:Hid (QAV fs gs=fs.all fun x=>decide (fs.count x≤gs.count x)):=QHY fs gs);clear h3 hu
 go_enter Tryz.func81,Tryz.ntmps81
 go_wp2_with fail
 go_loopg [5] fs.length (fun g c wr=>∃ i,i≤fs.length∧g=fs.length - i∧c = .int .i64 (i:Nat)∧Hid (Below w.heap.size w wr)∧Hid (∀ x∈fs.take i,fs.count x≤gs.count x))
 case atStart=>exact⟨0,by omega,by omega,rfl,Below.refl _ _,fun x hx=>by simp at hx⟩
 case round =>
  obtain⟨i,hi,hg,rfl,HBr,HN⟩:=hrel;have HG:Hid (gk=fs.length - i):=hg;clear hg;by_cases hlt:i < fs.length
  ·obtain⟨⟨k2,n2,ks2⟩,hki⟩:∃ f,fs[i]? = some f:=⟨_,List.getElem?_eq_getElem hlt⟩
   (obtain⟨b,off,rfl,hrs⟩:=H3.out (fun e=>by rw [e] at hlt;simp at hlt));obtain⟨sl2,cap2,g0,g1,g2,hrep2⟩:=(hrs.up HBr.out).at i k2 n2 ks2 hki;(have hltI:(i:Int) < (fs.length:Int):=by omega);(have hlc:(i:Int) < (cap:Int):=by omega);have HZ:Hid (b < wr.heap.size):=QAI g0;have HC:Hid (wr.cell? ⟨b,off+i * 3,none⟩=some (.int .i64 k2)∧wr.cell? ⟨b,off+i * 3+1,none⟩=some (.string n2)∧wr.cell? ⟨b,off+i * 3+2,none⟩=some (.slice sl2 ks2.length cap2)):=⟨g0,g1,g2⟩;(have hoa:=fun wx (hb:Below wr.heap.size wr wx)=>QEr fs hl (.mk k2 n2 ks2) (.slice (some ⟨b,off,none⟩) fs.length cap) (.agg #[.int .i64 k2,.string n2,.slice sl2 ks2.length cap2]) wx (HV.out.up (QAC HBr.out hb)) (hrep2.up hb));(have hob:=fun wx (hb:Below wr.heap.size wr wx)=>QEr gs hl2 (.mk k2 n2 ks2) VB (.agg #[.int .i64 k2,.string n2,.slice sl2 ks2.length cap2]) wx (HU.out.up (QAC HBr.out hb)) (hrep2.up hb))
   have hno:gs.count (.mk k2 n2 ks2) < fs.count (.mk k2 n2 ks2)→QAV fs gs=false:=fun hc=>by
    rw [HW.out,Bool.eq_false_iff];intro h;have:=of_decide_eq_true (List.all_eq_true.1 h _ (List.mem_of_getElem? hki));omega
   have hyes:¬ gs.count (.mk k2 n2 ks2) < fs.count (.mk k2 n2 ks2)→∀ x∈fs.take (i+1),fs.count x≤gs.count x:=fun hc x hx=>by
    rw [List.take_add_one,hki] at hx
    rcases List.mem_append.1 hx with hx|hx
    ·exact HN.out x hx
    ·simp at hx
     rw [hx];omega
   generalize hca:fs.count (.mk k2 n2 ks2)=ca at *;generalize hcb:gs.count (.mk k2 n2 ks2)=cb at *;(have HOA:Hid (∀ wx,Below wr.heap.size wr wx→Calls Tryz.prog 123 _ wx fun e w'=>e = .returned (.int .i64 ((ca:Nat):Int))∧Below wx.heap.size wx w'):=hoa);(have HOB:Hid (∀ wx,Below wr.heap.size wr wx→Calls Tryz.prog 123 _ wx fun e w'=>e = .returned (.int .i64 ((cb:Nat):Int))∧Below wx.heap.size wx w'):=hob);have HNO:Hid (cb < ca→QAV fs gs=false):=hno;have HYES:Hid (¬ cb < ca→∀ x∈fs.take (i+1),fs.count x≤gs.count x):=hyes;(have hc63:(ca:Int)≤1000:=by have:=List.count_le_length (a:=Fm.mk k2 n2 ks2) (l:=fs);omega);(have hd63:(cb:Int)≤1000:=by have:=List.count_le_length (a:=Fm.mk k2 n2 ks2) (l:=gs);omega);clear hki hrs H3 hrep2 g0 g1 g2 hoa hob hno hyes hca hcb HW HN;go_wp2_with fail;(refine QAK (by kernel_rfl) [kEq (.slice (some ⟨b,off,none⟩) fs.length cap),kEq (.slice (some ⟨b,off,none⟩) fs.length cap),kEq (.int .i64 (i:Nat)),kEq (.pointer (some ⟨b,off+i * 3,none⟩)),kEq (.agg #[.int .i64 k2,.string n2,.slice sl2 ks2.length cap2]),kEq (.int .i64 ((ca:Nat):Int)),kEq VB,kEq (.slice (some ⟨b,off,none⟩) fs.length cap),kEq (.int .i64 (i:Nat)),kEq (.pointer (some ⟨b,off+i * 3,none⟩)),kEq (.agg #[.int .i64 k2,.string n2,.slice sl2 ks2.length cap2]),kEq (.int .i64 ((cb:Nat):Int)),kEq (.bool (decide (cb < ca)))] ?_ (by kernel_rfl) (by kernel_rfl) 25 rfl (by kernel_rfl) ?_ ?_)
   ·intro p hp
    simp only [List.mem_cons,List.not_mem_nil,or_false] at hp
    rcases hp with rfl|rfl|rfl|rfl|rfl|rfl|rfl|rfl|rfl|rfl|rfl|rfl|rfl
    all_goals first|exact QAN _
   ·refine⟨?_,?_,?_,?_,?_,?_,?_,?_,?_,?_,?_,?_,?_,trivial⟩
    ·intro a wx hB hold hdep K hK
     have t0:a.tmps[0]? = some (.slice (some ⟨b,off,none⟩) fs.length cap):=hold.2.2 0 rfl;clear hold hdep;go_simp;exact hK.out _ _ rfl (Below.refl _ _)
    ·intro a wx hB hold hdep K hK
     have t0:a.tmps[0]? = some (.slice (some ⟨b,off,none⟩) fs.length cap):=hold.2.2 0 rfl;clear hold hdep;go_simp;exact hK.out _ _ rfl (Below.refl _ _)
    ·intro a wx hB hold hdep K hK
     have t5:a.tmps[5]? = some (.int .i64 (i:Nat)):=hold.2.2 5 rfl;clear hold hdep;go_simp;exact hK.out _ _ rfl (Below.refl _ _)
    ·intro a wx hB hold hdep K hK
     obtain⟨v13,t13,p13⟩:=hdep 1 rfl _ 13 rfl rfl;have e13:v13=(.slice (some ⟨b,off,none⟩) fs.length cap):=p13;subst e13;obtain⟨v14,t14,p14⟩:=hdep 2 rfl _ 14 rfl rfl;have e14:v14=(.int .i64 (i:Nat)):=p14;subst e14;clear hold hdep;go_simp;exact hK.out _ _ rfl (Below.refl _ _)
    ·intro a wx hB hold hdep K hK
     obtain⟨v15,t15,p15⟩:=hdep 3 rfl _ 15 rfl rfl;have e15:v15=(.pointer (some ⟨b,off+i * 3,none⟩)):=p15;subst e15;obtain⟨g0,g1,g2⟩:=HC.out;have k0:=(hB.cell (p:=⟨b,off+i * 3,none⟩) HZ.out).trans g0;have k1:=(hB.cell (p:=⟨b,off+i * 3+1,none⟩) HZ.out).trans g1;have k2':=(hB.cell (p:=⟨b,off+i * 3+2,none⟩) HZ.out).trans g2;clear g0 g1 g2;clear hold hdep;go_simp;exact hK.out _ _ rfl (Below.refl _ _)
    ·intro a wx hB hold hdep K hK
     obtain⟨v12,t12,p12⟩:=hdep 0 rfl _ 12 rfl rfl;have e12:v12=(.slice (some ⟨b,off,none⟩) fs.length cap):=p12;subst e12;obtain⟨v16,t16,p16⟩:=hdep 4 rfl _ 16 rfl rfl;have e16:v16=(.agg #[.int .i64 k2,.string n2,.slice sl2 ks2.length cap2]):=p16;subst e16;clear hold hdep;go_simp;refine (HOA.out wx hB).mono ?_;rintro e w1 ⟨rfl,hb⟩;exact hK.out _ _ rfl hb
    ·intro a wx hB hold hdep K hK
     have t1:a.tmps[1]? = some VB:=hold.2.2 1 rfl;clear hold hdep;go_simp;exact hK.out _ _ rfl (Below.refl _ _)
    ·intro a wx hB hold hdep K hK
     have t0:a.tmps[0]? = some (.slice (some ⟨b,off,none⟩) fs.length cap):=hold.2.2 0 rfl;clear hold hdep;go_simp;exact hK.out _ _ rfl (Below.refl _ _)
    ·intro a wx hB hold hdep K hK
     have t5:a.tmps[5]? = some (.int .i64 (i:Nat)):=hold.2.2 5 rfl;clear hold hdep;go_simp;exact hK.out _ _ rfl (Below.refl _ _)
    ·intro a wx hB hold hdep K hK
     obtain⟨v19,t19,p19⟩:=hdep 7 rfl _ 19 rfl rfl;have e19:v19=(.slice (some ⟨b,off,none⟩) fs.length cap):=p19;subst e19;obtain⟨v20,t20,p20⟩:=hdep 8 rfl _ 20 rfl rfl;have e20:v20=(.int .i64 (i:Nat)):=p20;subst e20;clear hold hdep;go_simp;exact hK.out _ _ rfl (Below.refl _ _)
    ·intro a wx hB hold hdep K hK
     obtain⟨v21,t21,p21⟩:=hdep 9 rfl _ 21 rfl rfl;have e21:v21=(.pointer (some ⟨b,off+i * 3,none⟩)):=p21;subst e21;obtain⟨g0,g1,g2⟩:=HC.out;have k0:=(hB.cell (p:=⟨b,off+i * 3,none⟩) HZ.out).trans g0;have k1:=(hB.cell (p:=⟨b,off+i * 3+1,none⟩) HZ.out).trans g1;have k2':=(hB.cell (p:=⟨b,off+i * 3+2,none⟩) HZ.out).trans g2;clear g0 g1 g2;clear hold hdep;go_simp;exact hK.out _ _ rfl (Below.refl _ _)
    ·intro a wx hB hold hdep K hK
     obtain⟨v18,t18,p18⟩:=hdep 6 rfl _ 18 rfl rfl;have e18:v18=VB:=p18;subst e18;obtain⟨v22,t22,p22⟩:=hdep 10 rfl _ 22 rfl rfl;have e22:v22=(.agg #[.int .i64 k2,.string n2,.slice sl2 ks2.length cap2]):=p22;subst e22;clear hold hdep;go_simp;refine (HOB.out wx hB).mono ?_;rintro e w1 ⟨rfl,hb⟩;exact hK.out _ _ rfl hb
    ·intro a wx hB hold hdep K hK
     obtain⟨v17,t17,p17⟩:=hdep 5 rfl _ 17 rfl rfl;have e17:v17=(.int .i64 ((ca:Nat):Int)):=p17;subst e17;obtain⟨v23,t23,p23⟩:=hdep 11 rfl _ 23 rfl rfl;have e23:v23=(.int .i64 ((cb:Nat):Int)):=p23;subst e23;clear hold hdep;go_simp;exact hK.out _ _ rfl (Below.refl _ _)
   ·intro a wx hB hold hgot
    obtain⟨v24,t24,p24⟩:=hgot 12 _ 24 rfl rfl;have e24:v24=(.bool (decide (cb < ca))):=p24;subst e24;obtain⟨tm,df⟩:=a;obtain⟨x0,x1,x2,x3,x4,x5,x6,x7,x8,x9,x10,x11,x12,x13,x14,x15,x16,x17,x18,x19,x20,x21,x22,x23,x24,htm⟩:=QJY tm hold.1;subst htm;obtain rfl:df=[]:=hold.2.1;obtain rfl:x0=_:=Option.some.inj (hold.2.2 0 rfl);obtain rfl:x1=_:=Option.some.inj (hold.2.2 1 rfl);obtain rfl:x2=_:=Option.some.inj (hold.2.2 2 rfl);obtain rfl:x3=_:=Option.some.inj (hold.2.2 3 rfl);obtain rfl:x4=_:=Option.some.inj (hold.2.2 4 rfl);obtain rfl:x5=_:=Option.some.inj (hold.2.2 5 rfl);obtain rfl:x6=_:=Option.some.inj (hold.2.2 6 rfl);obtain rfl:x7=_:=Option.some.inj (hold.2.2 7 rfl);obtain rfl:x8=_:=Option.some.inj (hold.2.2 8 rfl);obtain rfl:x9=_:=Option.some.inj (hold.2.2 9 rfl);obtain rfl:x10=_:=Option.some.inj (hold.2.2 10 rfl);obtain rfl:x11=_:=Option.some.inj (hold.2.2 11 rfl);obtain rfl:x24=_:=Option.some.inj t24;clear hold hgot t24 p24;have B2:=QAC HBr.out hB;by_cases hc:cb < ca
    ·have hd:decide (cb < ca)=true:=decide_eq_true hc
     have HF:Hid (QAV fs gs=false):=HNO.out hc;go_wp2_with fail;go_ret;(exact⟨by rw [HF.out];rfl,B2⟩)
    ·have hd:decide (cb < ca)=false:=decide_eq_false hc
     have HF:Hid (∀ x∈fs.take (i+1),fs.count x≤gs.count x):=HYES.out hc;go_wp2_with fail
     go_roundg (fs.length - (i+1))
     case measure=>have:=HG.out;omega
     case rel=>exact⟨i+1,by omega,rfl,by go_num,B2,HF⟩
  ·have HT:Hid (QAV fs gs=true):=by
    show _=_;rw [HW.out,List.all_eq_true];intro x hx;have:=HN.out;(rw [List.take_of_length_le (by omega)] at this);exact decide_eq_true (this x hx)
   (have hge:¬ (i:Int) < (fs.length:Int):=by omega);clear H3 HN HW;go_wp2_with fail;go_ret;(exact⟨by rw [HT.out];rfl,HBr.out⟩)
set_option maxHeartbeats 2000000 in
theorem QHb (fs gs:List Fm) (hl:fs.length≤1000) (hl2:gs.length≤1000) (v u:Value) (w:World) (h:FL w v fs) (hu:FL w u gs) :
  Calls Tryz.prog 39 #[v,u] w fun e w'=>e = .returned (.bool (QBk fs gs))∧Below w.heap.size w w':=by
 have hc:=QDC fs gs hl hl2 v u w h hu;obtain⟨ad,cap,rfl,-⟩:=h;obtain⟨ad2,cap2,rfl,-⟩:=hu;(have hlI:(fs.length:Int)≤1000:=by omega);(have hl2I:(gs.length:Int)≤1000:=by omega);have he:QBk fs gs=(decide (fs.length=gs.length) && QAV fs gs):=rfl;rw [he];generalize QAV fs gs=bb at *;have HC:Hid (Calls Tryz.prog 81 _ w _):=hc;clear hc he;by_cases heq:fs.length=gs.length
 ·have hd:decide (fs.length=gs.length)=true:=decide_eq_true heq
  (have hq:((fs.length:Int) == (gs.length:Int))=true:=by rw [heq];simp);have HD:Hid (decide (fs.length=gs.length)=true):=hd;clear hd heq
  go_enter Tryz.func39,Tryz.ntmps39
  go_wp2_with fail;refine HC.out.mono ?_;rintro e w1 ⟨rfl,hb1⟩;go_wp2_with fail;go_ret;(exact⟨by rw [HD.out,Bool.true_and];rfl,hb1⟩)
 ·have hd:decide (fs.length=gs.length)=false:=decide_eq_false heq
  have hq:((fs.length:Int) == (gs.length:Int))=false:=by
   rw [beq_eq_false_iff_ne];omega
  have HD:Hid (decide (fs.length=gs.length)=false):=hd;clear hd heq
  go_enter Tryz.func39,Tryz.ntmps39
  go_wp2_with fail;go_ret;(exact⟨by rw [HD.out,Bool.false_and];rfl,Below.refl _ _⟩)
end Go.Proofs.YtffkoiemnchdgadGreat
