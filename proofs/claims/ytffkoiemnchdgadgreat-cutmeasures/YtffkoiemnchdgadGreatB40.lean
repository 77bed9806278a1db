import Derived.Test.YtffkoiemnchdgadGreatB35
namespace Go.Proofs.YtffkoiemnchdgadGreat
open Go.RowKit
def QJy (p:Pf) (e:Ending):Prop:=∃ b,e = .returned (.bool b)∧(b=false→GoodS p)
def QFN (m:Nat):Prop:=∀ (p:Pf) (d:Nat) (v:Value) (w:World),p.size < m→d≤1201→PRep w p v→Calls Tryz.prog 25 #[v,.int .i64 (d:Nat)] w fun e w'=>QJy p e∧Below w.heap.size w w'
set_option maxRecDepth 10000 in
set_option maxHeartbeats 8000000 in
theorem QGO (m:Nat) (ih:QFN m):QFN (m+1):=by
 intro p d v w hm hd hv;obtain⟨a,⟨k,n,kf⟩,l,r,ks⟩:=p;obtain⟨sf,cf,al,cl,ar,cr,sl,cap,rfl,ha,hf,hl,hr,hkc,hcm,hks⟩:=hv.parts;(have HF:Hid (Rep w (fun _=>True) (.mk k n kf) _):=hf);obtain⟨_,_,hve,hl1,hl2,hl3⟩:=hl;simp only [Value.slice.injEq,true_and] at hve;obtain⟨rfl,rfl⟩:=hve;obtain⟨_,_,hve,hr1,hr2,hr3⟩:=hr;simp only [Value.slice.injEq,true_and] at hve;obtain⟨rfl,rfl⟩:=hve;(have HL3:Hid (l≠[]→∃ b off,al=some ⟨b,off,none⟩∧Reps w (fun _=>True) b off l):=hl3);(have HR3:Hid (r≠[]→∃ b off,ar=some ⟨b,off,none⟩∧Reps w (fun _=>True) b off r):=hr3);have HKS:Hid (ks≠[]→∃ b off,sl=some ⟨b,off,none⟩∧PReps w b off ks):=hks;(have hlI:(l.length:Int)≤9223372036854775807:=by unfold maxLen at hl2;omega);(have hrI:(r.length:Int)≤9223372036854775807:=by unfold maxLen at hr2;omega);(have hkI:(ks.length:Int)≤9223372036854775807:=by unfold maxLen at hcm;omega);(have hdI:(d:Int)≤1201:=by omega);have HIH:Hid (QFN m):=ih;(have HM:Hid (Pf.sizes ks < m):=by have:Pf.sizes ks+1 < m+1:=hm;show _ < _;omega);obtain⟨O,hO⟩:∃ O,O=Obj.cells #[.string a,.int .i64 k,.string n,.slice sf kf.length cf,.slice al l.length cl,.slice ar r.length cr,.slice sl ks.length cap] 31 (0,0):=⟨_,rfl⟩;have B0:=QAA (Below.refl _ w) O;(have hva:=fun v (w:World) h=>QFH (.mk k n kf) v w h);(have HVA:Hid (∀ v w,Rep w (fun _=>True) (.mk k n kf) v→Calls Tryz.prog 10 #[v,.int .i64 0] w _):=hva)
 have HVX:Hid (∀ (f:Fm) v w,Rep w (fun _=>True) f v→Calls Tryz.prog 10 #[v,.int .i64 0] w fun e w'=>∃ b,e = .returned (.bool b)∧(b=false→QBY f)∧Below w.heap.size w w'):=fun f v w h=>by
  refine (QFH f v w h).mono ?_;rintro e w' ⟨⟨b,rfl,hs⟩,hb⟩;exact⟨b,rfl,hs,hb⟩
 clear hf hl3 hr3 hks hv ih hm hva hl2 hr2 hcm ha;by_cases h1:1200 < d
 ·have h1I:(1200:Int) < (d:Int):=by omega
  subst hO
  go_enter Tryz.func25,Tryz.ntmps25
  go_wp2_with fail;go_ret;(exact⟨⟨true,rfl,fun h=>(by cases h)⟩,B0⟩)
 (have h1I:¬ (1200:Int) < (d:Int):=by omega);by_cases h2:1200 < ks.length
 ·have h2I:(1200:Int) < (ks.length:Int):=by omega
  subst hO
  go_enter Tryz.func25,Tryz.ntmps25
  go_wp2_with fail;go_ret;(exact⟨⟨true,rfl,fun h=>(by cases h)⟩,B0⟩)
 (have h2I:¬ (1200:Int) < (ks.length:Int):=by omega);by_cases h3:300 < l.length
 ·have h3I:(300:Int) < (l.length:Int):=by omega
  subst hO
  go_enter Tryz.func25,Tryz.ntmps25
  go_wp2_with fail;go_ret;(exact⟨⟨true,rfl,fun h=>(by cases h)⟩,B0⟩)
 (have h3I:¬ (300:Int) < (l.length:Int):=by omega);by_cases h4:300 < r.length
 ·have h4I:(300:Int) < (r.length:Int):=by omega
  subst hO
  go_enter Tryz.func25,Tryz.ntmps25
  go_wp2_with fail;go_ret;(exact⟨⟨true,rfl,fun h=>(by cases h)⟩,B0⟩)
 (have h4I:¬ (300:Int) < (r.length:Int):=by omega);(have HSM:Hid (QBY (.mk k n kf)→(∀ x∈l,QBY x)→(∀ x∈r,QBY x)→(∀ k∈ks,GoodS k)→GoodS (.mk a (.mk k n kf) l r ks)):=fun h1 h2 h3 h=>GoodS.mk a _ l r ks h1 (by omega) (by omega) h2 h3 (by omega) fun i k hk=>h k (List.mem_of_getElem? hk));(have hd2:d+1≤1201:=by omega);have P0:=QAG w O;(have HP0:Hid ((w.alloc O).heap[w.heap.size]? = some (.cells #[.string a,.int .i64 k,.string n,.slice sf kf.length cf,.slice al l.length cl,.slice ar r.length cr,.slice sl ks.length cap] 31 (0,0))):=by rw [← hO];exact P0);clear P0 h1 h2 h3 h4
 go_enter Tryz.func25,Tryz.ntmps25
 go_wp2_with fail;rw [← hO];refine (HVX.out _ _ _ (HF.out.up B0)).mono ?_;rintro e w1 ⟨b1,rfl,hs1,hb1⟩;have HSF:Hid (b1=false→QBY (.mk k n kf)):=hs1;have HB1:Hid (Below w.heap.size w w1):=QAC B0 hb1;have HQ1:Hid (w1.heap[w.heap.size]? = some _):=QAB hb1 HP0.out;clear hb1 hO HP0 hs1
 cases b1
 case true =>
  go_wp2_with fail;go_ret;(exact⟨⟨true,rfl,fun h=>(by cases h)⟩,HB1.out⟩)
 case false =>
  have HSF1:Hid (QBY (.mk k n kf)):=HSF.out rfl;clear HSF;go_wp2_with fail
  go_loopg [5] l.length (fun g cc wr=>∃ j,j≤l.length∧g=l.length - j∧cc = .int .i64 (j:Nat)∧Hid (Below w.heap.size w wr)∧Hid (Below w1.heap.size w1 wr)∧Hid (∀ x∈l.take j,QBY x))
  case atStart=>exact⟨0,by omega,by omega,rfl,HB1,Below.refl _ _,fun x hx=>by simp at hx⟩
  case round =>
   obtain⟨j,hj,hg,rfl,HBr,HBr1,HNx⟩:=hrel;have HG:Hid (gk=l.length - j):=hg;clear hg;obtain⟨j0,j1,j2,j3,j4,j5,j6⟩:=QAQ (QAB HBr1.out HQ1.out);by_cases hlt:j < l.length
   ·obtain⟨⟨k2,n2,ks2⟩,hki⟩:∃ f,l[j]? = some f:=⟨_,List.getElem?_eq_getElem hlt⟩
    (obtain⟨b,off,rfl,hrs⟩:=HL3.out (fun e=>by rw [e] at hlt;simp at hlt));obtain⟨sl2,cap2,g0,g1,g2,hrep2⟩:=(hrs.up HBr.out).at j k2 n2 ks2 hki;(have hltI:(j:Int) < (l.length:Int):=by omega);(have hlc:(j:Int) < (cl:Int):=by omega)
    have HTk:Hid (QBY (.mk k2 n2 ks2)→∀ x∈l.take (j+1),QBY x):=fun hs x hx=>by
     rw [List.take_add_one,hki] at hx
     rcases List.mem_append.1 hx with h|h
     ·exact HNx.out x h
     ·simp at h;subst h;exact hs
    clear hki hrs HNx;go_wp2_with fail;refine (HVX.out _ _ _ hrep2).mono ?_;rintro e w2 ⟨b2,rfl,hs2,hb2⟩;have HS2:Hid (b2=false→QBY (.mk k2 n2 ks2)):=hs2;have HB2:Hid (Below w.heap.size w w2):=QAC HBr.out hb2;have HB3:Hid (Below w1.heap.size w1 w2):=QAC HBr1.out hb2;clear hs2 g0 g1 g2 hb2 hrep2 j0 j1 j2 j3 j4 j5 j6
    cases b2
    ·have HX':Hid (∀ x∈l.take (j+1),QBY x):=HTk.out (HS2.out rfl)
     clear HTk HS2;go_wp2_with fail
     go_roundg (l.length - (j+1))
     case measure=>have:=HG.out;omega
     case rel=>exact⟨j+1,by omega,rfl,by go_num,HB2,HB3,HX'⟩
    ·clear HTk HS2
     go_wp2_with fail;go_ret;(exact⟨⟨true,rfl,fun h=>(by cases h)⟩,HB2.out⟩)
   ·have hge:¬ (j:Int) < (l.length:Int):=by omega
    have HSl:Hid (∀ x∈l,QBY x):=by
     have:=HNx.out
     rwa [List.take_of_length_le (by omega)] at this
    clear HNx;go_wp2_with fail;have HBA:Hid (Below w.heap.size w wr):=HBr;obtain⟨wA,hwA⟩:∃ wA,wA=wr:=⟨_,rfl⟩;subst hwA;have HQA:Hid (wA.heap[w.heap.size]? = some _):=QAB HBr1.out HQ1.out;clear HBr HBr1 j0 j1 j2 j3 j4 j5 j6 hge
    go_loopg [6] r.length (fun g cc wr=>∃ j,j≤r.length∧g=r.length - j∧cc = .int .i64 (j:Nat)∧Hid (Below w.heap.size w wr)∧Hid (Below wA.heap.size wA wr)∧Hid (∀ x∈r.take j,QBY x))
    case atStart=>exact⟨0,by omega,by omega,rfl,HBA,Below.refl _ _,fun x hx=>by simp at hx⟩
    case round =>
     obtain⟨j,hj,hg,rfl,HBr,HBr1,HNx⟩:=hrel;have HG:Hid (gk=r.length - j):=hg;clear hg;obtain⟨j0,j1,j2,j3,j4,j5,j6⟩:=QAQ (QAB HBr1.out HQA.out);by_cases hlt:j < r.length
     ·obtain⟨⟨k2,n2,ks2⟩,hki⟩:∃ f,r[j]? = some f:=⟨_,List.getElem?_eq_getElem hlt⟩
      (obtain⟨b,off,rfl,hrs⟩:=HR3.out (fun e=>by rw [e] at hlt;simp at hlt));obtain⟨sl2,cap2,g0,g1,g2,hrep2⟩:=(hrs.up HBr.out).at j k2 n2 ks2 hki;(have hltI:(j:Int) < (r.length:Int):=by omega);(have hlc:(j:Int) < (cr:Int):=by omega)
      have HTk:Hid (QBY (.mk k2 n2 ks2)→∀ x∈r.take (j+1),QBY x):=fun hs x hx=>by
       rw [List.take_add_one,hki] at hx
       rcases List.mem_append.1 hx with h|h
       ·exact HNx.out x h
       ·simp at h;subst h;exact hs
      clear hki hrs HNx;go_wp2_with fail;refine (HVX.out _ _ _ hrep2).mono ?_;rintro e w2 ⟨b2,rfl,hs2,hb2⟩;have HS2:Hid (b2=false→QBY (.mk k2 n2 ks2)):=hs2;have HB2:Hid (Below w.heap.size w w2):=QAC HBr.out hb2;have HB3:Hid (Below wA.heap.size wA w2):=QAC HBr1.out hb2;clear hs2 g0 g1 g2 hb2 hrep2 j0 j1 j2 j3 j4 j5 j6
      cases b2
      ·have HX':Hid (∀ x∈r.take (j+1),QBY x):=HTk.out (HS2.out rfl)
       clear HTk HS2;go_wp2_with fail
       go_roundg (r.length - (j+1))
       case measure=>have:=HG.out;omega
       case rel=>exact⟨j+1,by omega,rfl,by go_num,HB2,HB3,HX'⟩
      ·clear HTk HS2
       go_wp2_with fail;go_ret;(exact⟨⟨true,rfl,fun h=>(by cases h)⟩,HB2.out⟩)
     ·have hge:¬ (j:Int) < (r.length:Int):=by omega
      have HSr:Hid (∀ x∈r,QBY x):=by
       have:=HNx.out
       rwa [List.take_of_length_le (by omega)] at this
      clear HNx;go_wp2_with fail;have HBB:Hid (Below w.heap.size w wr):=HBr;obtain⟨wB,hwB⟩:∃ wB,wB=wr:=⟨_,rfl⟩;subst hwB;have HQB:Hid (wB.heap[w.heap.size]? = some _):=QAB HBr1.out HQA.out;clear HBr HBr1 j0 j1 j2 j3 j4 j5 j6 hge
      go_loopg [7] ks.length (fun g cc wr=>∃ j,j≤ks.length∧g=ks.length - j∧cc = .int .i64 (j:Nat)∧Hid (Below w.heap.size w wr)∧Hid (Below wB.heap.size wB wr)∧Hid (∀ k∈ks.take j,GoodS k))
      case atStart=>exact⟨0,by omega,by omega,rfl,HBB,Below.refl _ _,fun k hk=>by simp at hk⟩
      case round =>
       obtain⟨j,hj,hg,rfl,HBr,HBr1,HN⟩:=hrel;have HG:Hid (gk=ks.length - j):=hg;clear hg;obtain⟨j0,j1,j2,j3,j4,j5,j6⟩:=QAQ (QAB HBr1.out HQB.out);by_cases hlt:j < ks.length
       ·obtain⟨⟨ka,⟨kk,kn,kkf⟩,kl,kr,kks⟩,hki⟩:∃ f,ks[j]? = some f:=⟨_,List.getElem?_eq_getElem hlt⟩
        (obtain⟨b,off,rfl,hrs⟩:=HKS.out (fun e=>by rw [e] at hlt;simp at hlt));obtain⟨sf2,cf2,al2,cl2,ar2,cr2,sl2,cap2,x0,x1,x2,x3,x4,x5,x6,hrep⟩:=(PReps.up HBr.out b off ks hrs).at j ka kk kn kkf kl kr kks hki;(have hltI:(j:Int) < (ks.length:Int):=by omega);(have hlc:(j:Int) < (cap:Int):=by omega);(have hih:=fun (v:Value) (wx:World) h=>HIH.out (.mk ka (.mk kk kn kkf) kl kr kks) (d+1) v wx (Nat.lt_of_le_of_lt (QBN hki) HM.out) hd2 h);have HI:Hid (∀ v wx,PRep wx (.mk ka (.mk kk kn kkf) kl kr kks) v→Calls Tryz.prog 25 #[v,.int .i64 ((d+1:Nat):Int)] wx _):=hih
        have HTk:Hid (GoodS (.mk ka (.mk kk kn kkf) kl kr kks)→∀ k∈ks.take (j+1),GoodS k):=fun hs k hk=>by
         rw [List.take_add_one,hki] at hk
         rcases List.mem_append.1 hk with h|h
         ·exact HN.out k h
         ·simp at h;subst h;exact hs
        have HRp:Hid (PRep wr _ _):=hrep;clear hki hrs hih hrep HN;go_wp2_with fail;refine (HI.out _ _ HRp.out).mono ?_;rintro e w2 ⟨⟨b2,rfl,hs2⟩,hb2⟩;have HB2:Hid (Below w.heap.size w w2):=QAC HBr.out hb2;have HB3:Hid (Below wB.heap.size wB w2):=QAC HBr1.out hb2;have HS2:Hid (b2=false→GoodS _):=hs2;clear x0 x1 x2 x3 x4 x5 x6 hb2 hs2 j0 j1 j2 j3 j4 j5 j6
        cases b2
        ·have HX:=HTk.out (HS2.out rfl)
         have HX':Hid (∀ k∈ks.take (j+1),GoodS k):=HX;clear HX HTk HS2;go_wp2_with fail
         go_roundg (ks.length - (j+1))
         case measure=>have:=HG.out;omega
         case rel=>exact⟨j+1,by omega,rfl,by go_num,HB2,HB3,HX'⟩
        ·clear HTk HS2
         go_wp2_with fail;go_ret;(exact⟨⟨true,rfl,fun h=>(by cases h)⟩,HB2.out⟩)
       ·have hge:¬ (j:Int) < (ks.length:Int):=by omega
        have HX:Hid (GoodS (.mk a (.mk k n kf) l r ks)):=HSM.out HSF1.out HSl.out HSr.out (by
         have:=HN.out
         rwa [List.take_of_length_le (by omega)] at this)
        clear HN;go_wp2_with fail;go_ret;(exact⟨⟨false,rfl,fun _=>HX.out⟩,HBr.out⟩)
theorem QEQ:∀ m,QFN m
 | 0=>fun _ _ _ _ h=>absurd h (Nat.not_lt_zero _)
 | m+1=>QGO m (QEQ m)
theorem QHI (p:Pf) (v:Value) (w:World) (hv:PRep w p v):Calls Tryz.prog 25 #[v,.int .i64 0] w fun e w'=>QJy p e∧Below w.heap.size w w' :=
 QEQ (p.size+1) p 0 v w (Nat.lt_succ_self _) (by omega) hv
end Go.Proofs.YtffkoiemnchdgadGreat
