import Derived.Test.YtffkoiemnchdgadGreatB02
import Derived.Test.YtffkoiemnchdgadGreatB07
import Derived.Maps.OwnSet
import Derived.Maps.OwnOps
namespace Go.Proofs.YtffkoiemnchdgadGreat
open Go.RowKit
def QGY (m:Nat):Prop:=∀ (f:Fm) (a:Nat) (v:Value) (w:World),f.size < m→Fine f→a+f.size≤1000→Rep w (fun _=>True) f v →
 Calls Tryz.prog 142 #[v,.int .i64 a] w fun e w'=>e = .returned (.tuple #[.int .i64 ((QAv f a).1:Nat),.bool (QAv f a).2])∧Below w.heap.size w w'
theorem QGD {ks:List Fm} {i:Nat} {f:Fm} (h:ks[i]? = some f) (a:Nat):modals (ks.drop i) a=if (QAv f a).2 then ((QAv f a).1,true) else modals (ks.drop (i+1)) (QAv f a).1:=by
 have hi:i < ks.length:=by
  rcases Nat.lt_or_ge i ks.length with h' | h'
  ·exact h'
  ·rw [List.getElem?_eq_none h'] at h;cases h
 rw [List.drop_eq_getElem_cons hi,modals];rw [List.getElem?_eq_getElem hi] at h;rw [Option.some.inj h]
set_option maxHeartbeats 2000000 in
theorem QGw (m:Nat) (ih:QGY m):QGY (m+1):=by
 intro f a v w hm hfi ha hrep;obtain⟨k,n,ks⟩:=f;obtain⟨sl,cap,rfl,hx1,hx2,hx3,hx4⟩:=Rep.def.1 hrep;(have HX:Hid (ks≠[]→∃ b off,sl=some ⟨b,off,none⟩∧True∧Reps w (fun _=>True) b off ks):=hx4);have hk2:=hfi.small.2;(have haI:(a:Int)≤1000:=by omega);(have hkI:(ks.length:Int)≤2:=by omega);have q0:=QAG w (.cells #[.int .i64 k,.string n,.slice sl ks.length cap] 24 (0,0));have B0:=QAA (Below.refl _ w) (.cells #[.int .i64 k,.string n,.slice sl ks.length cap] 24 (0,0));clear hx4;by_cases h8:k=8
 ·subst h8
  (have HM:Hid (QAv (.mk 8 n ks) a=(a,true)):=by show _=_;rw [QAv];rfl)
  go_enter Tryz.func142,Tryz.ntmps142
  go_wp2_with fail;go_ret2;(exact⟨by rw [HM.out];rfl,B0⟩)
 by_cases h9:k=9
 ·subst h9
  (have HM:Hid (QAv (.mk 9 n ks) a=(a,true)):=by show _=_;rw [QAv];rfl)
  go_enter Tryz.func142,Tryz.ntmps142
  go_wp2_with fail;go_ret2;(exact⟨by rw [HM.out];rfl,B0⟩)
 (have h8':(k == 8)=false:=by simpa using h8);(have h9':(k == 9)=false:=by simpa using h9);(have HM:Hid (QAv (.mk k n ks) a=modals ks (a+1)):=by show _=_;rw [QAv];simp [isM,h8,h9]);have HF:Hid (Fine (.mk k n ks)):=hfi;clear hfi h8 h9
 go_enter Tryz.func142,Tryz.ntmps142
 go_wp2_with fail
 go_loopg [22,4,5] ks.length (fun g c x y wr=>∃ i na,i≤ks.length∧g=ks.length - i∧c = .int .i64 (i:Nat)∧x = .int .i64 (na:Nat)∧y = .bool false∧Below w.heap.size w wr∧Hid (modals ks (a+1)=modals (ks.drop i) na)∧na≤a+1+Fm.sizes (ks.take i))
 case atStart=>exact⟨0,a+1,by omega,by omega,rfl,by go_num,rfl,B0,by show _=_;rfl,by simp [Fm.sizes]⟩
 case round =>
  obtain⟨i,na,hile,hg,rfl,rfl,rfl,hbr,HW,hna⟩:=hrel;have HG:Hid (gk=ks.length - i):=hg;clear hg;by_cases hlt:i < ks.length
  ·obtain⟨⟨k2,n2,ks2⟩,hki⟩:∃ f,ks[i]? = some f:=⟨_,List.getElem?_eq_getElem hlt⟩
   (have hltI:(i:Int) < (ks.length:Int):=by omega);(have hlc:(i:Int) < (cap:Int):=by omega);(obtain⟨b,off,rfl,-,hrs⟩:=HX.out (fun e=>by rw [e] at hlt;simp at hlt));obtain⟨sl2,cap2,g0,g1,g2,hrep2⟩:=(hrs.up hbr).at i k2 n2 ks2 hki;have hst:=QET ks i _ hki;(have hsz:(Fm.mk k2 n2 ks2).size < m:=by have:=QBp hki;rw [Fm.size] at hm;omega)
   have hst2:Fm.sizes (ks.take (i+1))=Fm.sizes (ks.take i)+(Fm.mk k2 n2 ks2).size:=by
    rw [List.take_add_one,hki];show Fm.sizes (_++[_])=_;generalize ks.take i=l
    induction l with
    | nil=>simp [Fm.sizes]
    | cons x l ih=>simp only [List.cons_append,Fm.sizes,ih];omega
   (have hca:=fun v wx h=>ih (.mk k2 n2 ks2) na v wx hsz (HF.out.kid i _ hki) (by rw [Fm.size] at ha;omega) h);have hml:=QGC (.mk k2 n2 ks2) na;have hdr:=QGD hki na;have HW2:=HW.out;rw [hdr] at HW2;rw [Fm.size] at ha;generalize hmo:QAv (.mk k2 n2 ks2) na=mo at *;obtain⟨r,bb⟩:=mo;simp only at hml HW2 hca;(have hrI:(r:Int)≤1000:=by omega);have HC:Hid (∀ v wx,_→Calls Tryz.prog 142 _ wx _):=hca;clear hmo hca hdr hki hrs HX hrep
   cases bb
   ·have HN:Hid (modals ks (a+1)=modals (ks.drop (i+1)) r):=HW2
    clear HW2 HW
    go_wp2_with (first
     | (
       go_at_call 142
       refine (HC.out _ _ (hrep2.more _)).mono ?_;rintro e w1 ⟨rfl,hb1⟩
       have B1:=QAC (QAA hbr _) hb1)
     | fail)
    go_roundg (ks.length - (i+1))
    case measure=>have:=HG.out;omega
    case rel=>exact⟨i+1,r,by omega,rfl,by go_num,rfl,rfl,B1,HN,by omega⟩
   ·have HN:Hid (modals ks (a+1)=(r,true)):=HW2
    clear HW2 HW
    go_wp2_with (first
     | (
       go_at_call 142
       refine (HC.out _ _ (hrep2.more _)).mono ?_;rintro e w1 ⟨rfl,hb1⟩
       have B1:=QAC (QAA hbr _) hb1)
     | fail)
    go_ret2;(exact⟨by rw [HM.out,HN.out];rfl,B1⟩)
  ·have hge:¬ (i:Int) < (ks.length:Int):=by omega
   have HN:Hid (modals ks (a+1)=(na,false)):=by
    show _=_;(rw [HW.out,List.drop_of_length_le (by omega),modals])
   clear HW HX hrep;go_wp2_with fail;go_ret2;(exact⟨by rw [HM.out,HN.out];rfl,hbr⟩)
theorem QEK:∀ m,QGY m
 | 0=>fun _ _ _ _ h=>absurd h (Nat.not_lt_zero _)
 | m+1=>QGw m (QEK m)
theorem QIG (f:Fm) (v:Value) (w:World) (hf:Fine f) (hs:f.size≤200) (hrep:Rep w (fun _=>True) f v) :
  Calls Tryz.prog 142 #[v,.int .i64 0] w fun e w'=>e = .returned (.tuple #[.int .i64 ((QAv f 0).1:Nat),.bool (QAv f 0).2])∧Below w.heap.size w w' :=
 QEK (f.size+1) f 0 v w (Nat.lt_succ_self _) hf (by omega) hrep
structure QJN (fn:Nat) (cap:Array Value) (p:List UInt8→Bool) (Ok:World→Prop):Prop where
 up:∀ {w w':World},Ok w→Below w.heap.size w w'→Ok w'
 ent:∀ (v:Value) (w:World),(callFunc fn (#[v]++cap)).run Tryz.prog w = .ok (.enter fn (#[v]++cap)) w
 call:∀ (n:ByteArray) (w:World),Ok w→n.size≤8→Calls Tryz.prog fn (#[.string n]++cap) w fun e w'=>e = .returned (.bool (p n.data.toList))∧Below w.heap.size w w'
def QIq (fn:Nat) (cap:Array Value) (p:List UInt8→Bool) (Ok:World→Prop) (m:Nat):Prop:=∀ (f:Fm) (v:Value) (w:World),f.size < m→Fine f→Plain f→Rep w (fun _=>True) f v→Ok w →
 Calls Tryz.prog 108 #[v,.func (.func fn) #[] cap] w fun e w'=>e = .returned (.bool (tv p f))∧Below w.heap.size w w'
theorem Rep.kid1 {w:World} {k:Int} {n:ByteArray} {g:Fm} {v:Value} (h:Rep w (fun _=>True) (.mk k n [g]) v):∃ b off cap,v = .agg #[.int .i64 k,.string n,.slice (some ⟨b,off,none⟩) 1 cap]∧1≤cap∧Reps w (fun _=>True) b off [g]:=by
 obtain⟨sl,cap,rfl,h1,h2,h3,h4⟩:=Rep.def.1 h;(obtain⟨b,off,rfl,-,hr⟩:=h4 (by simp));exact⟨b,off,cap,rfl,h2,hr⟩
theorem Rep.kid2 {w:World} {k:Int} {n:ByteArray} {g g':Fm} {v:Value} (h:Rep w (fun _=>True) (.mk k n [g,g']) v):∃ b off cap,v = .agg #[.int .i64 k,.string n,.slice (some ⟨b,off,none⟩) 2 cap]∧2≤cap∧Reps w (fun _=>True) b off [g,g']:=by
 obtain⟨sl,cap,rfl,h1,h2,h3,h4⟩:=Rep.def.1 h;(obtain⟨b,off,rfl,-,hr⟩:=h4 (by simp));exact⟨b,off,cap,rfl,h2,hr⟩
set_option maxHeartbeats 4000000 in
theorem QIg {fn:Nat} {cap:Array Value} {p:List UInt8→Bool} {Ok:World→Prop} (A:QJN fn cap p Ok) (m:Nat) (ih:QIq fn cap p Ok m):QIq fn cap p Ok (m+1):=by
 intro f v w hm hfi hpl hrep hok;have hcf:=A.ent;(have HA:Hid (∀ (n:ByteArray) (w:World),Ok w→n.size≤8→Calls Tryz.prog fn (#[.string n]++cap) w fun e w'=>e = .returned (.bool (p n.data.toList))∧Below w.heap.size w w'):=A.call);have HU:Hid (∀ {w w':World},Ok w→Below w.heap.size w w'→Ok w'):=A.up
 rcases hfi.forms with ⟨n,rfl,hn⟩|rfl|rfl|⟨k,g,hk,rfl,hg⟩|⟨k,g,g',hk,rfl,hg,hg'⟩
 ·obtain⟨sl,cp,rfl⟩:=QAJ hrep
  have hsm:=hfi.small.1;have B0:=QAA (Below.refl _ w) (.cells #[.int .i64 1,.string n,.slice sl ([]:List Fm).length cp] 24 (0,0));have HC:Hid (Calls Tryz.prog fn (#[.string n]++cap) (w.alloc (.cells #[.int .i64 1,.string n,.slice sl ([]:List Fm).length cp] 24 (0,0))) _):=HA.out n _ (HU.out hok B0) hsm;have HT:Hid (tv p (.mk 1 n [])=p n.data.toList):=QJo p n;generalize p n.data.toList=bb at *;clear hn hfi hpl hrep
  go_enter Tryz.func108,Tryz.ntmps108
  go_wp2_with fail;refine HC.out.mono ?_;rintro e w1 ⟨rfl,hb1⟩;have B1:=QAC B0 hb1;go_wp2_with fail;go_ret;(exact⟨by rw [HT.out];rfl,B1⟩)
 ·obtain⟨sl,cp,rfl⟩:=QAJ hrep
  have B0:=QAA (Below.refl _ w) (.cells #[.int .i64 2,.string ⟨#[]⟩,.slice sl ([]:List Fm).length cp] 24 (0,0));have HT:Hid (tv p (.mk 2 ⟨#[]⟩ [])=true):=QJq p;clear hfi hpl hrep
  go_enter Tryz.func108,Tryz.ntmps108
  go_wp2_with fail;go_ret;(exact⟨by rw [HT.out];rfl,B0⟩)
 ·obtain⟨sl,cp,rfl⟩:=QAJ hrep
  have B0:=QAA (Below.refl _ w) (.cells #[.int .i64 3,.string ⟨#[]⟩,.slice sl ([]:List Fm).length cp] 24 (0,0));have HT:Hid (tv p (.mk 3 ⟨#[]⟩ [])=false):=QJL p;clear hfi hpl hrep
  go_enter Tryz.func108,Tryz.ntmps108
  go_wp2_with fail;go_ret;(exact⟨by rw [HT.out];rfl,B0⟩)
 ·have hkk:k=4:=by
   have:=hpl.kind
   rcases hk with rfl|rfl|rfl
   ·rfl
   ·cases this
   ·cases this
  subst hkk;(have hca:=fun v (w:World) h o=>ih g v w (by rw [QJH] at hm;omega) hg (hpl.kid (by simp)) h o);have HT:Hid (tv p (.mk 4 ⟨#[]⟩ [g]) = !tv p g):=QKP p g;generalize tv p g=bb at *;(have HC:Hid (∀ v w,Rep w (fun _=>True) g v→Ok w→Calls Tryz.prog 108 #[v,.func (.func fn) #[] cap] w _):=hca);obtain⟨b,off,cp,rfl,hcp,hrs⟩:=hrep.kid1;have B0:=QAA (Below.refl _ w) (.cells #[.int .i64 4,.string ⟨#[]⟩,.slice (some ⟨b,off,none⟩) 1 cp] 24 (0,0));obtain⟨k2,n2,ks2⟩:=g;obtain⟨sl2,cap2,g0,g1,g2,hrep2⟩:=(hrs.up B0).at 0 k2 n2 ks2 rfl;simp only [Nat.zero_mul,Nat.add_zero] at g0 g1 g2;(have hcI:(1:Int)≤(cp:Int):=by omega);have HO:Hid (Ok w):=hok;clear hfi hpl hrep hrs hca hk hg hok
  go_enter Tryz.func108,Tryz.ntmps108
  go_wp2_with (first
   | (
     go_at_call 108
     refine (HC.out _ _ hrep2 (HU.out HO.out B0)).mono ?_;rintro e w1 ⟨rfl,hb1⟩
     have B1:=QAC B0 hb1)
   | fail)
  go_ret;(exact⟨by rw [HT.out];rfl,B1⟩)
 ·have hca:=fun v (w:World) h o=>ih g v w (by rw [QGT] at hm;omega) hg (hpl.kid (by simp)) h o
  (have hca':=fun v (w:World) h o=>ih g' v w (by rw [QGT] at hm;omega) hg' (hpl.kid (by simp)) h o);have HT:Hid (tv p (.mk 5 ⟨#[]⟩ [g,g'])=(tv p g && tv p g')∧tv p (.mk 6 ⟨#[]⟩ [g,g'])=(tv p g || tv p g')∧tv p (.mk 7 ⟨#[]⟩ [g,g'])=(!tv p g || tv p g')):=⟨QKO p g g',QKc p g g',QJp p g g'⟩;generalize tv p g=bb at *;generalize tv p g'=bb' at *;(have HC:Hid (∀ v w,Rep w (fun _=>True) g v→Ok w→Calls Tryz.prog 108 #[v,.func (.func fn) #[] cap] w _):=hca);(have HC':Hid (∀ v w,Rep w (fun _=>True) g' v→Ok w→Calls Tryz.prog 108 #[v,.func (.func fn) #[] cap] w _):=hca');obtain⟨b,off,cp,rfl,hcp,hrs⟩:=hrep.kid2;have q0:=QAG w (.cells #[.int .i64 k,.string ⟨#[]⟩,.slice (some ⟨b,off,none⟩) 2 cp] 24 (0,0));have B0:=QAA (Below.refl _ w) (.cells #[.int .i64 k,.string ⟨#[]⟩,.slice (some ⟨b,off,none⟩) 2 cp] 24 (0,0));obtain⟨k2,n2,ks2⟩:=g;obtain⟨sl2,cap2,g0,g1,g2,hrep2⟩:=(hrs.up B0).at 0 k2 n2 ks2 rfl;obtain⟨k3,n3,ks3⟩:=g';obtain⟨sl3,cap3,p0,p1,p2,hrep3⟩:=(hrs.up B0).at 1 k3 n3 ks3 rfl;simp only [Nat.zero_mul,Nat.add_zero] at g0 g1 g2;simp only [Nat.one_mul] at p0 p1 p2;(have hcI:(2:Int)≤(cp:Int):=by omega);have HO:Hid (Ok w):=hok;have hW:∃ W,W=w.alloc (.cells #[.int .i64 k,.string ⟨#[]⟩,.slice (some ⟨b,off,none⟩) 2 cp] 24 (0,0)):=⟨_,rfl⟩;have zb:=QAI p0
  have HQ:Hid (∀ w1,Below (w.alloc (.cells #[.int .i64 k,.string ⟨#[]⟩,.slice (some ⟨b,off,none⟩) 2 cp] 24 (0,0))).heap.size (w.alloc (.cells #[.int .i64 k,.string ⟨#[]⟩,.slice (some ⟨b,off,none⟩) 2 cp] 24 (0,0))) w1→w1.cell? ⟨w.heap.size,2,none⟩=some (.slice (some ⟨b,off,none⟩) 2 cp)∧w1.cell? ⟨b,off+3,none⟩=some (.int .i64 k3)∧w1.cell? ⟨b,off+3+1,none⟩=some (.string n3)∧w1.cell? ⟨b,off+3+2,none⟩=some (.slice sl3 ks3.length cap3)):=fun w1 hb1=>⟨by
   have:=QAL (QAB hb1 q0) 2
   simpa using this,(hb1.cell (p:=⟨b,off+3,none⟩) zb).trans p0,(hb1.cell (p:=⟨b,off+3+1,none⟩) zb).trans p1,(hb1.cell (p:=⟨b,off+3+2,none⟩) zb).trans p2⟩
  clear hfi hpl hrep hrs hca hca' hg hg' hok q0 hW zb
  rcases hk with rfl|rfl|rfl
  all_goals
   cases bb
   all_goals
    go_enter Tryz.func108,Tryz.ntmps108
    go_wp2_with (first
     | (
       go_at_call 108
       have hb0:=B1;refine (HC'.out _ _ (hrep3.up hb1) (HU.out HO.out B1)).mono ?_;rintro e w2 ⟨rfl,hb2⟩
       have B2:=QAC B1 hb2)
     | (
       go_at_call 108
       refine (HC.out _ _ hrep2 (HU.out HO.out B0)).mono ?_;rintro e w1 ⟨rfl,hb1⟩;have B1:=QAC B0 hb1
       obtain⟨y0,y1,y2,y3⟩:=HQ.out _ hb1)
     | fail)
    go_ret
    first
    | exact⟨by
          first|rw [HT.out.1] | rw [HT.out.2.1] | rw [HT.out.2.2]
          simp,B2⟩
    | exact⟨by
          first|rw [HT.out.1] | rw [HT.out.2.1] | rw [HT.out.2.2]
          simp,B1⟩
theorem QFG {fn:Nat} {cap:Array Value} {p:List UInt8→Bool} {Ok:World→Prop} (A:QJN fn cap p Ok):∀ m,QIq fn cap p Ok m
 | 0=>fun _ _ _ h=>absurd h (Nat.not_lt_zero _)
 | m+1=>QIg A m (QFG A m)
theorem QGp {fn:Nat} {cap:Array Value} {p:List UInt8→Bool} {Ok:World→Prop} (A:QJN fn cap p Ok) (f:Fm) (v:Value) (w:World) (hf:Fine f) (hp:Plain f) (hrep:Rep w (fun _=>True) f v) (hok:Ok w) :
  Calls Tryz.prog 108 #[v,.func (.func fn) #[] cap] w fun e w'=>e = .returned (.bool (tv p f))∧Below w.heap.size w w' :=
 QFG A (f.size+1) f v w (Nat.lt_succ_self _) hf hp hrep hok
open Go.RowKit Go.Maps Go.WideMaps
def Fm.pcode (f:Fm):Int × Int:=if f.code.1=0 then (if (QAv f 0).2 then ((4:Int),(((QAv f 0).1:Nat):Int)) else (0,0)) else f.code
set_option maxHeartbeats 2000000 in
theorem QBc (f:Fm) (v:Value) (w:World) (hrep:Rep w (fun _=>True) f v) :
  Calls Tryz.prog 103 #[v] w fun e w'=>e = .returned (.agg #[.int .i64 f.pcode.1,.int .i64 f.pcode.2])∧Below w.heap.size w w':=by
 (have hck:=fun v (w:World) h=>QEh f v w h)
 have hmo:f.code.1=0→∀ v (w:World),Rep w (fun _=>True) f v→Calls Tryz.prog 142 #[v,.int .i64 0] w fun e w'=>e = .returned (.tuple #[.int .i64 ((QAv f 0).1:Nat),.bool (QAv f 0).2])∧Below w.heap.size w w':=fun h0 v w h=>by
  rcases hx:chk f 0 with s|⟨c,a⟩
  ·exact QIG f v w (QBU f 0 s hx) (QDL hx) h
  ·have:=QCa f 0 c a hx
   simp only [Fm.code,hx] at h0;exact absurd h0 this
 have hcz:f.code.1=0→f.code=(0,0):=fun h0=>by
  rcases hx:chk f 0 with s|⟨c,a⟩
  ·simp only [Fm.code,hx]
  ·have:=QCa f 0 c a hx
   simp only [Fm.code,hx] at h0;exact absurd h0 this
 (have hpc:f.pcode=if f.code.1=0 then (if (QAv f 0).2 then ((4:Int),(((QAv f 0).1:Nat):Int)) else (0,0)) else f.code:=rfl);have hml:=QGC f 0;generalize f.pcode=pc at *;generalize f.code=fc at *;generalize QAv f 0=mo at *;obtain⟨c,a⟩:=fc;obtain⟨r,bb⟩:=mo;obtain⟨k,n,ks⟩:=f;obtain⟨sl,cap,rfl⟩:=QAJ hrep;have HC:Hid (∀ v w,_→Calls Tryz.prog 141 #[v] w _):=hck;have HM:Hid (c=0→∀ v w,_→Calls Tryz.prog 142 _ w _):=hmo;have HP:Hid (pc=_):=hpc;(have hcz':c=0→a=0:=fun h=>by have:=hcz h;exact (Prod.mk.inj this).2);clear hck hmo hpc hcz;by_cases hc:c=0
 ·subst hc
  obtain rfl:=hcz' rfl;have HM2:=HM.out rfl;have HM3:Hid (∀ v w,_→Calls Tryz.prog 142 _ w _):=HM2;clear HM2 HM hcz'
  cases bb
  ·have HE:Hid (pc=(0,0)):=HP.out
   clear HP
   go_enter Tryz.func103,Tryz.ntmps103
   go_wp2_with (first
    | (
      go_at_call 141
      refine (HC.out _ _ ((hrep.more _).more _)).mono ?_;rintro e w1 ⟨rfl,hb1⟩;have z1:=hb1.size;simp at z1;have q0:=QAB hb1 (QAF (QAG w _) _);have q1:=QAB hb1 (QAG (w.alloc _) _);(rw [show (w.alloc _).heap.size=w.heap.size+1 by simp] at q1);have B1:=QAC (QAA (QAA (Below.refl _ w) _) _) hb1;obtain⟨a0,a1,a2,-⟩:=QAX q0;obtain⟨k1,k2,k3,k4⟩:=QAU q1;have y0:w.heap.size < w1.heap.size:=QAE q0;have y1:w.heap.size+1 < w1.heap.size:=QAE q1;(have d1:¬ w.heap.size=w1.heap.size:=by omega);(have d2:¬ w.heap.size+1=w1.heap.size:=by omega)
      have d3:¬ w1.heap.size=w.heap.size+1:=by omega)
    | (
      go_at_call 142
      refine (HM3.out _ _ ((hrep.up B1).more _)).mono ?_;rintro e w2 ⟨rfl,hb2⟩;have r1:=QAB hb2 (QAF q1 _);have B2:=QAC (QAA B1 _) hb2;clear k1 k2 k3 k4
      obtain⟨k1,k2,k3,k4⟩:=QAU r1)
    | fail)
   have f2:=QBB r1 (.int .i64 0) (.int .i64 0);(have b2:=(B2.setCell (p:=⟨w.heap.size+1,0,none⟩) (by simp) (.int .i64 0)).setCell (p:=⟨w.heap.size+1,1,none⟩) (by simp) (.int .i64 0));generalize World.setCell _ _ _=F at f2 b2 ⊢;clear k1 k2 k3 k4;obtain⟨k1,k2,-⟩:=QAU f2;(exact bodyPost_ret (v := .agg #[.int .i64 0,.int .i64 0]) (by simp [results,Tryz.results103,go_sem,k1,k2]) rfl ⟨by rw [HE.out],b2⟩)
  ·have HE:Hid (pc=(4,(r:Int))):=HP.out
   clear HP
   go_enter Tryz.func103,Tryz.ntmps103
   go_wp2_with (first
    | (
      go_at_call 141
      refine (HC.out _ _ ((hrep.more _).more _)).mono ?_;rintro e w1 ⟨rfl,hb1⟩;have z1:=hb1.size;simp at z1;have q0:=QAB hb1 (QAF (QAG w _) _);have q1:=QAB hb1 (QAG (w.alloc _) _);(rw [show (w.alloc _).heap.size=w.heap.size+1 by simp] at q1);have B1:=QAC (QAA (QAA (Below.refl _ w) _) _) hb1;obtain⟨a0,a1,a2,-⟩:=QAX q0;obtain⟨k1,k2,k3,k4⟩:=QAU q1;have y0:w.heap.size < w1.heap.size:=QAE q0;have y1:w.heap.size+1 < w1.heap.size:=QAE q1;(have d1:¬ w.heap.size=w1.heap.size:=by omega);(have d2:¬ w.heap.size+1=w1.heap.size:=by omega)
      have d3:¬ w1.heap.size=w.heap.size+1:=by omega)
    | (
      go_at_call 142
      refine (HM3.out _ _ ((hrep.up B1).more _)).mono ?_;rintro e w2 ⟨rfl,hb2⟩;have r1:=QAB hb2 (QAF q1 _);have B2:=QAC (QAA B1 _) hb2;clear k1 k2 k3 k4
      obtain⟨k1,k2,k3,k4⟩:=QAU r1)
    | fail)
   have f2:=QBB r1 (.int .i64 4) (.int .i64 r);(have b2:=(B2.setCell (p:=⟨w.heap.size+1,0,none⟩) (by simp) (.int .i64 4)).setCell (p:=⟨w.heap.size+1,1,none⟩) (by simp) (.int .i64 r));generalize World.setCell _ _ _=F at f2 b2 ⊢;clear k1 k2 k3 k4;obtain⟨k1,k2,-⟩:=QAU f2;(exact bodyPost_ret (v := .agg #[.int .i64 4,.int .i64 r]) (by simp [results,Tryz.results103,go_sem,k1,k2]) rfl ⟨by rw [HE.out],b2⟩)
 ·have HE:Hid (pc=(c,a)):=by
   have:=HP.out
   rwa [if_neg hc] at this
  (have hne':(c != 0)=true:=by simpa using hc);clear HP HM hcz'
  go_enter Tryz.func103,Tryz.ntmps103
  go_wp2_with (first
   | (
     go_at_call 141
     refine (HC.out _ _ ((hrep.more _).more _)).mono ?_;rintro e w1 ⟨rfl,hb1⟩;have z1:=hb1.size;simp at z1;have q0:=QAB hb1 (QAF (QAG w _) _);have q1:=QAB hb1 (QAG (w.alloc _) _);(rw [show (w.alloc _).heap.size=w.heap.size+1 by simp] at q1);have B1:=QAC (QAA (QAA (Below.refl _ w) _) _) hb1;obtain⟨a0,a1,a2,-⟩:=QAX q0;obtain⟨k1,k2,k3,k4⟩:=QAU q1;have y0:w.heap.size < w1.heap.size:=QAE q0;have y1:w.heap.size+1 < w1.heap.size:=QAE q1;(have d1:¬ w.heap.size=w1.heap.size:=by omega);(have d2:¬ w.heap.size+1=w1.heap.size:=by omega)
     have d3:¬ w1.heap.size=w.heap.size+1:=by omega)
   | (
     go_at_call 142
     refine (HM3.out _ _ ((hrep.up B1).more _)).mono ?_;rintro e w2 ⟨rfl,hb2⟩;have r1:=QAB hb2 (QAF q1 _);have B2:=QAC (QAA B1 _) hb2;clear k1 k2 k3 k4
     obtain⟨k1,k2,k3,k4⟩:=QAU r1)
   | fail)
  have f2:=QBB q1 (.int .i64 c) (.int .i64 a);(have b2:=(B1.setCell (p:=⟨w.heap.size+1,0,none⟩) (by simp) (.int .i64 c)).setCell (p:=⟨w.heap.size+1,1,none⟩) (by simp) (.int .i64 a));(have hsz:((w1.setCell ⟨w.heap.size+1,0,none⟩ (.int .i64 c)).setCell ⟨w.heap.size+1,1,none⟩ (.int .i64 a)).heap.size=w1.heap.size:=by simp [World.setCell]);generalize World.setCell _ _ _=F at f2 b2 hsz ⊢;clear k1 k2 k3 k4;obtain⟨k1,k2,-⟩:=QAU f2;(have d4:w.heap.size+1 < F.heap.size:=by omega);(exact bodyPost_ret (v := .agg #[.int .i64 c,.int .i64 a]) (by simp [results,Tryz.results103,go_sem,k1,k2,d4]) rfl ⟨by rw [HE.out],b2.alloc (by omega) _⟩)
def SL (w:World) (v:Value) (l:List (List UInt8)):Prop:=∃ ad cap,v = .slice ad l.length cap∧l.length≤cap∧cap≤maxLen∧(l≠[]→∃ g off,ad=some ⟨g,off,none⟩∧∀ (j:Nat) (t:List UInt8),l[j]? = some t→w.cell? ⟨g,off+j,none⟩=some (.string ⟨t.toArray⟩))
theorem SL.up {w w':World} {v:Value} {l:List (List UInt8)} (h:SL w v l) (hb:Below w.heap.size w w'):SL w' v l:=by
 obtain⟨ad,cap,h1,h2,h3,h4⟩:=h;(refine⟨ad,cap,h1,h2,h3,fun hne => ?_⟩);obtain⟨g,off,h5,h6⟩:=h4 hne
 exact⟨g,off,h5,fun j t ht=>by
  have:=h6 j t ht;rw [hb.cell (p:=⟨g,off+j,none⟩) (QAI this)]
  exact this⟩
theorem QCJ:Keyed Tryz.prog 9:=string_keyed Tryz.underlying9
theorem QJt (w:World):(zeroValue 3).run Tryz.prog w = .ok (.int .i64 0) w:=by kernel_rfl
theorem QGr (t:List UInt8) (h:t.length≤maxLen):keyOf Tryz.prog 9 (.string ⟨t.toArray⟩)=some (.string t) :=
 keyOf_string_mk Tryz.underlying9 (s:=⟨t.toArray⟩) (by simpa [ByteArray.size] using h)
def PM (w:World) (b:Nat) (l:List (List UInt8)):Prop:=∃ (n:Nat) (D:DataW Unit),w.ownsMap Tryz.prog 9 (plainElem Tryz.prog 3) b n D∧n≤l.length∧(∀ s,s.length≤maxLen→Maps.has D (.string s)=decide (s∈l))∧∀ s,s∈l→∃ i,l[i]? = some s∧∀ z,D.atKey (.string s) z = .lit (.int .i64 (i:Nat))
theorem PM.nil {w:World}:PM (w.alloc (.map #[] 0)) w.heap.size [] :=
 ⟨0,.map [],World.ownsMap_made _ _ _ _,Nat.le_refl _,fun s _=>by simp [has_eq],fun s h=>by cases h⟩
theorem PM.snoc {w':World} {b:Nat} {l:List (List UInt8)} {t:List UInt8} {n:Nat} {D:DataW Unit} (hn:n≤l.length) (hD:IsMap D) (h1:∀ s,s.length≤maxLen→Maps.has D (.string s)=decide (s∈l)) (h2:∀ s,s∈l→∃ i,l[i]? = some s∧∀ z,D.atKey (.string s) z = .lit (.int .i64 (i:Nat)))
  (h:w'.ownsMap Tryz.prog 9 (plainElem Tryz.prog 3) b (n+1) (D.put (.string t) (.lit (.int .i64 (l.length:Nat))))):PM w' b (l++[t]):=by
 (have hk:WideAt.IsKeyLit (.string t):=by first|trivial|exact True.intro|simp [WideAt.IsKeyLit]);(refine⟨n+1,_,h,by simp;omega,fun s hs => ?_,fun s hs => ?_⟩)
 ·by_cases e:s=t
  ·subst e;rw [has_put_same hD hk];simp
  ·rw [has_put_other (fun h=>e (by injection h)),h1 s hs];simp [e]
 ·by_cases e:s=t
  ·subst e
   (exact⟨l.length,by simp,fun z=>atKey_put_same hD hk _ z⟩)
  ·have hs':s∈l:=by simpa [e] using hs
   obtain⟨i,hi,hz⟩:=h2 s hs';(refine⟨i,?_,fun z => ?_⟩)
   ·have hlt:i < l.length:=by
     rcases Nat.lt_or_ge i l.length with h|h
     ·exact h
     ·rw [List.getElem?_eq_none h] at hi;cases hi
    rw [List.getElem?_append_left hlt];exact hi
   ·rw [atKey_put_other (fun h=>e (by injection h))];exact hz z
set_option maxHeartbeats 2000000 in
theorem QFd (l:List (List UInt8)) (hl:l.length≤1000) (hsm:∀ t∈l,t.length≤8) (v:Value) (w:World) (hv:SL w v l) :
  Calls Tryz.prog 106 #[v] w fun e w'=>e = .returned (.map (some w.heap.size))∧PM w' w.heap.size l∧Below w.heap.size w w':=by
 obtain⟨ad,cap,rfl,h1,h2,h3⟩:=hv;(have hlI:(l.length:Int)≤1000:=by omega);have H3:Hid (l≠[]→∃ g off,ad=some ⟨g,off,none⟩∧∀ (j:Nat) (t:List UInt8),l[j]? = some t→w.cell? ⟨g,off+j,none⟩=some (.string ⟨t.toArray⟩)):=h3;have HSm:Hid (∀ t∈l,t.length≤8):=hsm;have hmm:=@run_makeMap Tryz.prog;clear h3 hsm
 go_enter Tryz.func106,Tryz.ntmps106
 go_wp2_with fail
 go_loopg [9] l.length (fun g c wr=>∃ i,i≤l.length∧g=l.length - i∧c = .int .i64 (i:Nat)∧Below w.heap.size w wr∧Hid (PM wr w.heap.size (l.take i)))
 case atStart=>exact⟨0,by omega,by omega,rfl,QAA (Below.refl _ w) _,PM.nil⟩
 case round =>
  obtain⟨i,hi,hg,rfl,hbr,HP⟩:=hrel;have HG:Hid (gk=l.length - i):=hg;clear hg;by_cases hlt:i < l.length
  ·obtain⟨t,ht⟩:∃ x,l[i]? = some x:=⟨_,List.getElem?_eq_getElem hlt⟩
   (obtain⟨g,off,rfl,hc⟩:=H3.out (fun e=>by rw [e] at hlt;simp at hlt));have g0:=(hbr.cell (p:=⟨g,off+i,none⟩) (QAI (hc i t ht))).trans (hc i t ht);(have hltI:(i:Int) < (l.length:Int):=by omega);(have hlc:(i:Int) < (cap:Int):=by omega);obtain⟨n,D,hown,hn,hh1,hh2⟩:=HP.out;(have hkey:=QGr t (by have:=HSm.out t (List.mem_of_getElem? ht);unfold maxLen;omega));(have hti:(l.take i).length=i:=by rw [List.length_take];omega)
   have HT:Hid (l.take (i+1)=l.take i++[t]):=by
    show _=_;rw [List.take_add_one,ht];rfl
   have HN:Hid (∀ w',w'.ownsMap Tryz.prog 9 (plainElem Tryz.prog 3) w.heap.size (n+1) (D.put (.string t) (.lit (.int .i64 (i:Nat))))→PM w' w.heap.size (l.take (i+1))):=fun w' h=>by
    rw [HT.out];refine PM.snoc hn hown.isMap hh1 hh2 ?_;rw [hti];exact h
   generalize (⟨t.toArray⟩:ByteArray)=T at *;clear hc ht H3 hh1 hh2 HP
   go_wp2_with (first
    | (
      at_mapUpdate
      (refine wpList_mapUpdate_own _ rfl _ _ _ 165 rfl 9 3 QCJ Tryz.underlying165 _ w.heap.size n _ rfl hown (by unfold maxLen;omega) _ _ _ rfl rfl hkey _ [] (plainElem_int Tryz.underlying3 (WalkArith.wf_i64 (by omega))) ?_);intro w1 hown1 hgrow1;have R1:=HN.out _ hown1;(have R2:=hbr.grown hgrow1 hbr.size (fun j hj=>by cases hj;exact Nat.le_refl _));have HR1:Hid (PM w1 w.heap.size (l.take (i+1))):=R1
      clear hown1 hgrow1 hown R1)
    | fail)
   go_roundg (l.length - (i+1))
   case measure=>have:=HG.out;omega
   case rel=>exact⟨i+1,by omega,rfl,by go_num,R2,HR1⟩
  ·have HE:Hid (PM wr w.heap.size l):=by
    have:=HP.out;(rw [List.take_of_length_le (by omega)] at this);exact this
   (have hge:¬ (i:Int) < (l.length:Int):=by omega);clear H3 HP;go_wp2_with fail;go_ret;exact⟨rfl,HE.out,hbr⟩
end Go.Proofs.YtffkoiemnchdgadGreat
