import Derived.Test.YtffkoiemnchdgadGreatB11
import Derived.Test.YtffkoiemnchdgadGreatB08
import Derived.Test.YtffkoiemnchdgadGreatB10
import Derived.Deep.RegionLaw
import Derived.Deep.DeepCutAuto
import Derived.Test.YtffkoiemnchdgadGreatB07
import Derived.Test.YtffkoiemnchdgadGreatB13
import Derived.Test.YtffkoiemnchdgadGreatB12
import Derived.Shelf.Sort.Plain
import Derived.Shelf.Slices.CompactS
import Derived.Shelf.Slices.In.SortNone
import Derived.Test.YtffkoiemnchdgadGreatProg
import Derived.Sort.OwnSorted
import Derived.Test.YtffkoiemnchdgadGreatB14
import Derived.Sort.Walk0
import Derived.Deep.AppendSrc
import Derived.Deep.RegionHeld3
import Derived.Laws.EntriesVeiled
namespace Go.Proofs.YtffkoiemnchdgadGreat
open Go.RowKit
theorem KP.list {P:Nat→Prop} {B:Nat} {w:World} {ad:Option Addr} {cap:Nat} {fs:List Fm} (h:KP P B w ad cap fs) (hPB:∀ b,B≤b→P b):FL w (.slice ad fs.length cap) fs :=
 (h.rep hPB 0 e0 (by decide)).all.kids
open Go.RowKit Go.Sort
theorem QBC {B:Nat} {w w':World} (h:Below B w w') (n:Nat):Below B w (w'.drewN n):=⟨h.os,h.tape,h.output,h.size,h.block⟩
theorem QDy (f:Fm):f.code.1=0→∃ s,chk f 0 = .ok s:=fun h=>QIu (QEi h)
theorem QCI {f:Fm} (h:f.pcode.1=0):(∃ s,chk f 0 = .ok s)∧Plain f∧f.pcode=(0,0):=by
 unfold Fm.pcode at *;by_cases hc:f.code.1=0
 ·rw [if_pos hc] at h ⊢
  rcases hm:(QAv f 0).2 with _|_
  ·refine⟨QDy f hc,?_,by simp⟩
   rw [QCo] at hm;exact hm
  ·rw [hm] at h;simp at h
 ·rw [if_neg hc] at h
  exact absurd h hc
def QBb:List Fm→Int × Int
 | []=>(0,0)
 | f :: fs=>if f.pcode.1=0 then QBb fs else f.pcode
theorem QGK {fs:List Fm} {i:Nat} {f:Fm} (h:fs[i]? = some f):QBb (fs.drop i)=if f.pcode.1=0 then QBb (fs.drop (i+1)) else f.pcode:=by
 have hi:i < fs.length:=by
  rcases Nat.lt_or_ge i fs.length with h' | h'
  ·exact h'
  ·rw [List.getElem?_eq_none h'] at h;cases h
 rw [List.drop_eq_getElem_cons hi,QBb];rw [List.getElem?_eq_getElem hi] at h;rw [Option.some.inj h]
theorem QIC {l:List Fm} {i:Nat} {f:Fm} (h:l[i]? = some f) (a:Nat):QBQ (l.drop i) a=if isM f.kind then (a,true) else QBQ (l.drop (i+1)) (a+1):=by
 have hi:i < l.length:=by
  rcases Nat.lt_or_ge i l.length with h' | h'
  ·exact h'
  ·rw [List.getElem?_eq_none h'] at h;cases h
 rw [List.drop_eq_getElem_cons hi,QBQ];rw [List.getElem?_eq_getElem hi] at h;rw [Option.some.inj h]
set_option maxHeartbeats 1000000 in
theorem QDO (c a:Int) (w:World):Calls Tryz.prog 35 #[.int .i64 c,.int .i64 a] w fun e w'=>e = .returned (.agg #[.int .i64 c,.int .i64 a])∧Below w.heap.size w w':=by
 have B:=QAA (Below.refl _ w) (.cells #[.int .i64 c,.int .i64 a] 37 (0,0))
 go_enter Tryz.func35,Tryz.ntmps35
 go_wp2_with fail;(exact bodyPost_ret (v := .agg #[.int .i64 c,.int .i64 a]) (by simp [results,Tryz.results35,go_sem]) rfl ⟨rfl,B⟩)
theorem QJs (f:Fm) (h:f.size≤200):QAr f 300=QBq f:=by
 (rw [QCU,List.take_of_length_le (by rw [QCX];omega)])
set_option maxHeartbeats 4000000 in
theorem QEM (fs:List Fm) (hl:fs.length≤1000) (v:Value) (w:World) (hv:FL w v fs) :
  Calls Tryz.prog 20 #[v] w fun e w'=>e = .returned (.agg #[.int .i64 (QBb fs).1,.int .i64 (QBb fs).2])∧Below w.heap.size w w':=by
 obtain⟨ad,cap,rfl,h1,h2,h3⟩:=hv;(have H3:Hid (fs≠[]→∃ b off,ad=some ⟨b,off,none⟩∧Reps w (fun _=>True) b off fs):=h3);(have hlI:(fs.length:Int)≤1000:=by omega);have HT:Hid (QBb fs=QBb (fs.drop 0)):=rfl;generalize QBb fs=tc at *;have q0:=QAG w (.cells #[.int .i64 0,.int .i64 0] 37 (0,0));have B0:=QAA (Below.refl _ w) (.cells #[.int .i64 0,.int .i64 0] 37 (0,0));clear h3
 go_enter Tryz.func20,Tryz.ntmps20
 go_wp2_with fail
 go_loopg [3] fs.length (fun gk c wr=>∃ i,i≤fs.length∧gk=fs.length - i∧c = .int .i64 (i:Nat)∧Below w.heap.size w wr∧wr.heap[w.heap.size]? = some (.cells #[.int .i64 0,.int .i64 0] 37 (0,0))∧Hid (tc=QBb (fs.drop i)))
 case atStart=>exact⟨0,by omega,by omega,rfl,B0,q0,HT⟩
 case round =>
  obtain⟨i,hi,hg,rfl,hbr,q1,HW⟩:=hrel;have HG:Hid (gk=fs.length - i):=hg;clear hg HT;have z1:=QAE q1;by_cases hlt:i < fs.length
  ·obtain⟨⟨k2,n2,ks2⟩,hki⟩:∃ f,fs[i]? = some f:=⟨_,List.getElem?_eq_getElem hlt⟩
   (obtain⟨b,off,rfl,hrs⟩:=H3.out (fun e=>by rw [e] at hlt;simp at hlt));obtain⟨sl2,cap2,g0,g1,g2,hrep2⟩:=(hrs.up hbr).at i k2 n2 ks2 hki;(have hltI:(i:Int) < (fs.length:Int):=by omega);(have hlc:(i:Int) < (cap:Int):=by omega);have HDr:=HW.out;rw [QGK hki] at HDr;(have hrf:=fun v (w:World) h=>QHJ (.mk k2 n2 ks2) v w h);have zb:=QAI g0;clear hki hrs H3 HW;by_cases hc:(Fm.mk k2 n2 ks2).code.1=0
   ·obtain⟨s,hs⟩:=QDy _ hc
    have hcz:=QEi hc;rw [hcz] at hrf;have hsz:=QDL hs;(have hwk:=fun v (w:World) h=>QEW (.mk k2 n2 ks2) v 300 w (by omega) h);rw [QJs _ hsz] at hwk
    have hpc:(Fm.mk k2 n2 ks2).pcode=if (QBQ (QBq (.mk k2 n2 ks2)) 0).2 then ((4:Int),(((QBQ (QBq (.mk k2 n2 ks2)) 0).1:Nat):Int)) else (0,0):=by
     unfold Fm.pcode;rw [if_pos hc,QCo]
    (have hnl:(QBq (.mk k2 n2 ks2)).length≤200:=by rw [QCX];exact hsz);rw [hpc] at HDr;have HD:Hid (tc=_):=HDr;have HR:Hid (∀ v w,_→Calls Tryz.prog 18 #[v] w _):=hrf;have HWk:Hid (∀ v w,_→Calls Tryz.prog 29 _ w _):=hwk;clear hrf hwk HDr hpc hs hsz hcz hc;generalize QBq (.mk k2 n2 ks2)=nodes at *
    go_wp2_with (first
     | (
       go_at_call 18
       refine (HR.out _ _ hrep2).mono ?_;rintro e w2 ⟨rfl,hb2⟩;have q2:=QAB hb2 q1;have z2:=QAE q2;have e0:=(hb2.cell (p:=⟨b,off+i * 3,none⟩) zb).trans g0;have e1:=(hb2.cell (p:=⟨b,off+i * 3+1,none⟩) zb).trans g1;have e2:=(hb2.cell (p:=⟨b,off+i * 3+2,none⟩) zb).trans g2;have zb2:=QAI e0;simp only at zb2
       have B2:=QAC hbr hb2)
     | (
       go_at_call 29
       refine (HWk.out _ _ ((hrep2.up hb2).more _)).mono ?_;rintro e w3 ⟨x,rfl,hlo,hb3⟩;obtain⟨g,cp,rfl,hc1,hc2,hrs⟩:=hlo.reps;(have HS:Hid (Reps w3 (fun _=>True) g 0 nodes):=hrs);have q3:=QAB hb3 (QAF q2 _);have z3:=QAE q3;have B3:=QAC (QAA B2 _) hb3
       clear hlo hrs)
     | fail)
    (have hNI:(nodes.length:Int)≤200:=by omega)
    go_loopg [6] nodes.length (fun gk c wz=>∃ j,j≤nodes.length∧gk=nodes.length - j∧c = .int .i64 (j:Nat)∧Below w3.heap.size w3 wz∧Hid (QBQ nodes 0=QBQ (nodes.drop j) j))
    case atStart=>exact⟨0,by omega,by omega,rfl,Below.refl _ _,by show _=_;rfl⟩
    case round =>
     obtain⟨j,hj,hg2,rfl,hbz,HY⟩:=hrel;have HG2:Hid (gk=nodes.length - j):=hg2;clear hg2 e0 e1 e2 g0 g1 g2;have q4:=QAB hbz q3;have z4:=QAE q4;have B4:=QAC B3 hbz;by_cases hjl:j < nodes.length
     ·obtain⟨⟨k3,n3,ks3⟩,hkj⟩:∃ f,nodes[j]? = some f:=⟨_,List.getElem?_eq_getElem hjl⟩
      obtain⟨sl3,cap3,p0,p1,p2,-⟩:=(HS.out.up hbz).at j k3 n3 ks3 hkj;rw [Nat.zero_add] at p0 p1 p2;(have hjI:(j:Int) < (nodes.length:Int):=by omega);(have hjc:(j:Int) < (cp:Int):=by omega);have hY:=HY.out;rw [QIC hkj] at hY;have hisM:isM (Fm.mk k3 n3 ks3).kind=(decide (k3=8) || decide (k3=9)):=rfl;rw [hisM] at hY;clear hkj HY hisM p1 p2;by_cases h8:k3=8∨k3=9
      ·have hb:(decide (k3=8) || decide (k3=9))=true:=by simpa using h8
       rw [hb] at hY
       have HF:Hid (tc=(4,((j:Nat):Int))):=by
        show _=_;rw [HD.out,hY];rfl
       (have f2:=fun (w5:World) (h:w5.heap[w.heap.size]? = some (.cells #[.int .i64 0,.int .i64 0] 37 (0,0)))=>QBB h (.int .i64 4) (.int .i64 (j:Nat)));(have HFm:Hid (∀ w,Calls Tryz.prog 35 #[.int .i64 4,.int .i64 (j:Nat)] w _):=fun w=>QDO 4 (j:Nat) w);clear hY hb HD;(have h9:k3=8∨(¬ k3=8∧k3=9):=by omega)
       rcases h9 with rfl|⟨h8',rfl⟩
       all_goals
        go_wp2_with (first
         | (
           go_at_call 35
           refine (HFm.out _).mono ?_;rintro e w5 ⟨rfl,hb5⟩;have q5:=QAB hb5 q4;have B5:=QAC B4 hb5
           obtain⟨k1,k2',k3',k4⟩:=QAU q5)
         | fail)
        have f3:=f2 _ q5;(have b2:=(B5.setCell (p:=⟨w.heap.size,0,none⟩) (by simp) (.int .i64 4)).setCell (p:=⟨w.heap.size,1,none⟩) (by simp) (.int .i64 (j:Nat)));generalize World.setCell _ _ _=F at f3 b2 ⊢;clear k1 k2' k3' k4;obtain⟨k1,k2',-⟩:=QAU f3;(exact bodyPost_ret (v := .agg #[.int .i64 4,.int .i64 (j:Nat)]) (by simp [results,Tryz.results20,go_sem,k1,k2']) rfl ⟨by rw [HF.out],b2⟩)
      ·have hb:(decide (k3=8) || decide (k3=9))=false:=by simpa using h8
       rw [hb] at hY;have HN:Hid (QBQ nodes 0=QBQ (nodes.drop (j+1)) (j+1)):=hY;(have h8':(k3 == 8)=false:=by simp;omega);(have h9':(k3 == 9)=false:=by simp;omega);clear hY hb h8;go_wp2_with fail
       go_roundg (nodes.length - (j+1))
       case measure=>have:=HG2.out;omega
       case rel=>exact⟨j+1,by omega,rfl,by go_num,hbz,HN⟩
     ·have HN:Hid (tc=QBb (fs.drop (i+1))):=by
       show _=_;(rw [HD.out,HY.out,List.drop_of_length_le (by omega),QBQ]);rfl
      (have hge:¬ (j:Int) < (nodes.length:Int):=by omega);clear HY HD;go_wp2_with fail
      go_roundg (fs.length - (i+1))
      case measure=>have:=HG.out;omega
      case rel=>exact⟨i+1,by omega,rfl,by go_num,B4,q4,HN⟩
   ·have hpc:(Fm.mk k2 n2 ks2).pcode=(Fm.mk k2 n2 ks2).code:=by unfold Fm.pcode;rw [if_neg hc]
    rw [hpc] at HDr;rw [if_neg hc] at HDr;have HD:Hid (tc=_):=HDr;generalize (Fm.mk k2 n2 ks2).code=cd at *;obtain⟨c,a⟩:=cd;(have hne':(c != 0)=true:=by simpa using hc);have HR:Hid (∀ v w,_→Calls Tryz.prog 18 #[v] w _):=hrf;clear hrf HDr hpc hc
    go_wp2_with (first
     | (
       go_at_call 18
       refine (HR.out _ _ hrep2).mono ?_;rintro e w2 ⟨rfl,hb2⟩;have q2:=QAB hb2 q1;have z2:=QAE q2;(have d1:¬ w.heap.size=w2.heap.size:=by omega);(have d2:¬ w2.heap.size=w.heap.size:=by omega);obtain⟨k1,k2',k3',k4⟩:=QAU q2
       have B2:=QAC hbr hb2)
     | fail)
    have f3:=QBB q2 (.int .i64 c) (.int .i64 a);(have b2:=(B2.setCell (p:=⟨w.heap.size,0,none⟩) (by simp) (.int .i64 c)).setCell (p:=⟨w.heap.size,1,none⟩) (by simp) (.int .i64 a));(have hsz:((w2.setCell ⟨w.heap.size,0,none⟩ (.int .i64 c)).setCell ⟨w.heap.size,1,none⟩ (.int .i64 a)).heap.size=w2.heap.size:=by simp [World.setCell]);generalize World.setCell _ _ _=F at f3 b2 hsz ⊢;clear k1 k2' k3' k4;obtain⟨k1,k2',-⟩:=QAU f3;(have d4:w.heap.size < F.heap.size:=by omega);(exact bodyPost_ret (v := .agg #[.int .i64 c,.int .i64 a]) (by simp [results,Tryz.results20,go_sem,k1,k2',d4]) rfl ⟨by rw [HD.out],b2.alloc (by omega) _⟩)
  ·have HF:Hid (tc=(0,0)):=by
    show _=_;(rw [HW.out,List.drop_of_length_le (by omega),QBb])
   (have hge:¬ (i:Int) < (fs.length:Int):=by omega);have f2:=QBB q1 (.int .i64 0) (.int .i64 0);(have b2:=(hbr.setCell (p:=⟨w.heap.size,0,none⟩) (by simp) (.int .i64 0)).setCell (p:=⟨w.heap.size,1,none⟩) (by simp) (.int .i64 0));obtain⟨k1,k2,k3,k4⟩:=QAU q1;clear HW H3;go_wp2_with fail;generalize World.setCell _ _ _=F at f2 b2 ⊢;clear k1 k2 k3 k4;obtain⟨k1,k2,-⟩:=QAU f2;(exact bodyPost_ret (v := .agg #[.int .i64 0,.int .i64 0]) (by simp [results,Tryz.results20,go_sem,k1,k2]) rfl ⟨by rw [HF.out],b2⟩)
set_option maxHeartbeats 1000000 in
theorem QHr (ok:Nat→Prop) (k:Int) (f g:Fm) (v u:Value) (w:World) (ho:∀ b,w.heap.size≤b→ok b) (hv:Rep w ok f v) (hu:Rep w ok g u) :
  Calls Tryz.prog 15 #[.int .i64 k,v,u] w fun e w'=>∃ x,e = .returned x∧Rep w' ok (.mk k ⟨#[]⟩ [f,g]) x∧Below w.heap.size w w':=by
 obtain⟨k1,n1,ks1⟩:=f;obtain⟨k2,n2,ks2⟩:=g;obtain⟨sl1,cp1,rfl⟩:=QAJ hv;obtain⟨sl2,cp2,rfl⟩:=QAJ hu;have HV:Hid (Rep w ok (.mk k1 n1 ks1) (.agg #[.int .i64 k1,.string n1,.slice sl1 ks1.length cp1])):=hv;have HU:Hid (Rep w ok (.mk k2 n2 ks2) (.agg #[.int .i64 k2,.string n2,.slice sl2 ks2.length cp2])):=hu;have HO:Hid (∀ b,w.heap.size≤b→ok b):=ho;clear hv hu ho
 go_enter Tryz.func15,Tryz.ntmps15
 go_wp2_with fail;have q:=QAG (((w.alloc (.cells #[.int .i64 k1,.string n1,.slice sl1 ks1.length cp1] 24 (0,0))).alloc (.cells #[.int .i64 k2,.string n2,.slice sl2 ks2.length cp2] 24 (0,0))).alloc (.cells #[.int .i64 k,.string ⟨#[]⟩,.slice (some ⟨w.heap.size+1+1+1,0,none⟩) 2 2] 24 (0,0))) (.cells #[.int .i64 k1,.string n1,.slice sl1 ks1.length cp1,.int .i64 k2,.string n2,.slice sl2 ks2.length cp2] 24 (0,0));(rw [show (((w.alloc (.cells #[.int .i64 k1,.string n1,.slice sl1 ks1.length cp1] 24 (0,0))).alloc (.cells #[.int .i64 k2,.string n2,.slice sl2 ks2.length cp2] 24 (0,0))).alloc (.cells #[.int .i64 k,.string ⟨#[]⟩,.slice (some ⟨w.heap.size+1+1+1,0,none⟩) 2 2] 24 (0,0))).heap.size=w.heap.size+1+1+1 by simp] at q);have B:=QAA (QAA (QAA (QAA (Below.refl _ w) (.cells #[.int .i64 k1,.string n1,.slice sl1 ks1.length cp1] 24 (0,0))) (.cells #[.int .i64 k2,.string n2,.slice sl2 ks2.length cp2] 24 (0,0))) (.cells #[.int .i64 k,.string ⟨#[]⟩,.slice (some ⟨w.heap.size+1+1+1,0,none⟩) 2 2] 24 (0,0))) (.cells #[.int .i64 k1,.string n1,.slice sl1 ks1.length cp1,.int .i64 k2,.string n2,.slice sl2 ks2.length cp2] 24 (0,0));(exact bodyPost_ret (v := .agg #[.int .i64 k,.string ⟨#[]⟩,.slice (some ⟨w.heap.size+1+1+1,0,none⟩) 2 2]) (by simp [results,Tryz.results15,go_sem]) rfl ⟨_,rfl,Rep.two q (HO.out _ (by omega)) (HV.out.up' B) (HU.out.up' B),B⟩)
set_option maxHeartbeats 1000000 in
theorem QJe (ok:Nat→Prop) (k:Int) (f:Fm) (v:Value) (w:World) (ho:∀ b,w.heap.size≤b→ok b) (hv:Rep w ok f v) :
  Calls Tryz.prog 13 #[.int .i64 k,v] w fun e w'=>∃ x,e = .returned x∧Rep w' ok (.mk k ⟨#[]⟩ [f]) x∧Below w.heap.size w w':=by
 obtain⟨k1,n1,ks1⟩:=f;obtain⟨sl1,cp1,rfl⟩:=QAJ hv;have HV:Hid (Rep w ok (.mk k1 n1 ks1) (.agg #[.int .i64 k1,.string n1,.slice sl1 ks1.length cp1])):=hv;have HO:Hid (∀ b,w.heap.size≤b→ok b):=ho;clear hv ho
 go_enter Tryz.func13,Tryz.ntmps13
 go_wp2_with fail;have q:=QAG ((w.alloc (.cells #[.int .i64 k1,.string n1,.slice sl1 ks1.length cp1] 24 (0,0))).alloc (.cells #[.int .i64 k,.string ⟨#[]⟩,.slice (some ⟨w.heap.size+1+1,0,none⟩) 1 1] 24 (0,0))) (.cells #[.int .i64 k1,.string n1,.slice sl1 ks1.length cp1] 24 (0,0));(rw [show ((w.alloc (.cells #[.int .i64 k1,.string n1,.slice sl1 ks1.length cp1] 24 (0,0))).alloc (.cells #[.int .i64 k,.string ⟨#[]⟩,.slice (some ⟨w.heap.size+1+1,0,none⟩) 1 1] 24 (0,0))).heap.size=w.heap.size+1+1 by simp] at q);have B:=QAA (QAA (QAA (Below.refl _ w) (.cells #[.int .i64 k1,.string n1,.slice sl1 ks1.length cp1] 24 (0,0))) (.cells #[.int .i64 k,.string ⟨#[]⟩,.slice (some ⟨w.heap.size+1+1,0,none⟩) 1 1] 24 (0,0))) (.cells #[.int .i64 k1,.string n1,.slice sl1 ks1.length cp1] 24 (0,0));(exact bodyPost_ret (v := .agg #[.int .i64 k,.string ⟨#[]⟩,.slice (some ⟨w.heap.size+1+1,0,none⟩) 1 1]) (by simp [results,Tryz.results13,go_sem]) rfl ⟨_,rfl,Rep.one q (HO.out _ (by omega)) (HV.out.up' B),B⟩)
instance:BEq Fm:=⟨QAZ⟩
instance:LawfulBEq Fm where
 eq_of_beq:=fun {a b} h=>QCg a b h
 rfl:=fun {a}=>QCR a
instance:DecidableEq Fm:=fun a b=>if h:(a == b)=true then isTrue (eq_of_beq h) else isFalse fun e=>h (by rw [e];exact QCR b)
theorem QCF (n:Fm) (fs:List Fm):QAh n fs=true ↔ n∈fs:=by
 unfold QAh;rw [List.any_eq_true]
 constructor
 ·rintro ⟨g,hg,h⟩
  rw [← QCg g n h];exact hg
 ·exact fun h=>⟨n,h,QCR n⟩
inductive Pf where
 | mk (rule:ByteArray) (f:Fm) (l r:List Fm) (ks:List Pf):Pf
def Pf.rule:Pf→ByteArray
 | .mk a _ _ _ _=>a
def Pf.f:Pf→Fm
 | .mk _ f _ _ _=>f
def Pf.l:Pf→List Fm
 | .mk _ _ l _ _=>l
def Pf.r:Pf→List Fm
 | .mk _ _ _ r _=>r
def QAe:List Fm→Nat→Int × Int
 | [],_=>(0,0)
 | f :: fs,i=>if f.pcode.1=0 then QAe fs (i+1) else (f.pcode.1,(i:Nat))
def QAx (l r:List Fm):Int × Int:=if 60 < l.length+r.length then (2,0) else QAe (l++r) 0
inductive Ru
 | ax|tr|fa|andL|andR|orL|thenR|notR|contrL|orR|thenL|notL|contrR|cut|orR1|orR2
 deriving DecidableEq
def Ru.text:Ru→List UInt8
 | ax=>[97,120]
 | tr=>[116,114,117,101]
 | fa=>[102,97,108,115,101]
 | andL=>[97,110,100,45,108]
 | andR=>[97,110,100,45,114]
 | orL=>[111,114,45,108]
 | thenR=>[116,104,101,110,45,114]
 | notR=>[110,111,116,45,114]
 | contrL=>[99,111,110,116,114,45,108]
 | orR=>[111,114,45,114]
 | thenL=>[116,104,101,110,45,108]
 | notL=>[110,111,116,45,108]
 | contrR=>[99,111,110,116,114,45,114]
 | cut=>[99,117,116]
 | orR1=>[111,114,45,114,49]
 | orR2=>[111,114,45,114,50]
def QBd:List UInt8:=[119,101,97,107]
def QHK (i:Bool):List Ru:=[.ax,.tr,.fa,.andL,.andR,.orL,.thenR,.notR,.contrL]++if i then [.orR1,.orR2,.thenL,.notL,.cut] else [.orR,.thenL,.notL,.contrR,.cut]
def QAp (i:Bool) (t:List UInt8):Option Ru:=(QHK i).find? fun r=>decide (r.text=t)
def Fm.kidA:Fm→Fm
 | .mk _ _ (a :: _)=>a
 | f=>f
def Fm.kidB:Fm→Fm
 | .mk _ _ (_ :: b :: _)=>b
 | f=>f
def QBP (i:Bool) (q:Ru) (f:Fm) (l r:List Fm):Option (List (List Fm × List Fm)) :=
 let g:=l.erase f
 let d:=r.erase f
 let a:=f.kidA
 let b:=f.kidB
 match q with
 | .ax=>if f∈l∧f∈r then some [] else none
 | .tr=>if f.kind=2∧f∈r then some [] else none
 | .fa=>if f.kind=3∧f∈l then some [] else none
 | .andL=>if f.kind=5∧f∈l then some [(g++[a,b],r)] else none
 | .andR=>if f.kind=5∧f∈r then some [(l,d++[a]),(l,d++[b])] else none
 | .orL=>if f.kind=6∧f∈l then some [(g++[a],r),(g++[b],r)] else none
 | .thenR=>if f.kind=7∧f∈r then some [(l++[a],d++[b])] else none
 | .notR=>if f.kind=4∧f∈r then some [(l++[a],d)] else none
 | .contrL=>if f∈l then some [(l++[f],r)] else none
 | .orR=>if f.kind=6∧f∈r then some [(l,d++[a,b])] else none
 | .thenL=>if f.kind=7∧f∈l then some [(g,if i then [a] else r++[a]),(g++[b],r)] else none
 | .notL=>if f.kind=4∧f∈l then some [(g,if i then [a] else r++[a])] else none
 | .contrR=>if f∈r then some [(l,r++[f])] else none
 | .cut=>some [(l,if i then [f] else r++[f]),(l++[f],r)]
 | .orR1=>if f.kind=6∧f∈r then some [(l,[a])] else none
 | .orR2=>if f.kind=6∧f∈r then some [(l,[b])] else none
def QAV:List Fm→List Fm→Bool
 | [],_=>true
 | f :: l,m=>decide (f∈m) && QAV l (m.erase f)
def QBk (l m:List Fm):Bool:=decide (l.length=m.length) && QAV l m
def QAo:List Pf→List (List Fm × List Fm)→Int
 | k :: ks,s :: ss=>if QBk k.l s.1 && QBk k.r s.2 then QAo ks ss else 7
 | _,_=>0
def QBx (f:Fm) (l r:List Fm) (ks:List Pf):Int :=
 if f = .mk 0 ⟨#[]⟩ [] then (match ks with
  | [k]=>if QAV k.l l && QAV k.r r then 0 else 7
  | _=>9) else 5
def QAg (i:Bool):Pf→Int
 | .mk a f l r ks =>
  if (QAx l r).1≠0∨(i=true∧1 < r.length) then 5
  else if a.data.toList=QBd then QBx f l r ks
  else match QAp i a.data.toList with
   | none=>4
   | some q=>if f.pcode.1≠0 then 5 else match QBP i q f l r with
    | none=>7
    | some ss=>if ks.length≠ss.length then 9 else QAo ks ss
mutual
def QAf (i:Bool):Pf→Nat→Nat→Nat→(Int × Int) × Nat × Nat
 | .mk a f l r ks,deep,steps,cuts =>
  if steps=20000∨400 < deep then ((2,0),steps,cuts)
  else if QAg i (.mk a f l r ks)≠0 then ((QAg i (.mk a f l r ks),(steps:Nat)),steps+1,cuts)
  else looks i ks (deep+1) (steps+1) (if a.data.toList=Ru.cut.text then cuts+1 else cuts)
def looks (i:Bool):List Pf→Nat→Nat→Nat→(Int × Int) × Nat × Nat
 | [],_,s,c=>((0,0),s,c)
 | k :: ks,d,s,c=>if (QAf i k d s c).1.1≠0 then QAf i k d s c else looks i ks d (QAf i k d s c).2.1 (QAf i k d s c).2.2
end
theorem QCV:∀ (l m:List Fm),QAV l m=true ↔ ∀ f,l.count f≤m.count f
 | [],m=>by simp [QAV]
 | f :: l,m=>by
  rw [QAV,Bool.and_eq_true,decide_eq_true_eq,QCV l (m.erase f)]
  constructor
  ·rintro ⟨hm,h⟩ g
   have:=h g;rw [List.count_erase] at this;rw [List.count_cons];have hp:=List.count_pos_iff.2 hm;by_cases e:f == g
   ·have e':f=g:=eq_of_beq e
    subst e';simp only [beq_self_eq_true,if_true] at this ⊢;omega
   ·rw [if_neg e] at *
    omega
  ·intro h
   have hf:=h f;rw [List.count_cons_self] at hf;(refine⟨List.count_pos_iff.1 (by omega),fun g => ?_⟩);have:=h g;rw [List.count_cons] at this;rw [List.count_erase];by_cases e:f == g
   ·rw [if_pos e] at *
    omega
   ·rw [if_neg e] at *
    omega
theorem QDz {l m:List Fm} (hl:l.length=m.length) (h:QAV l m=true):l.Perm m:=by
 induction l generalizing m with
 | nil =>
  (have:m=[]:=List.length_eq_zero_iff.1 (by simpa using hl.symm))
  rw [this]
 | cons f l ih =>
  rw [QAV,Bool.and_eq_true,decide_eq_true_eq] at h;have hm:=h.1
  have:=ih (m:=m.erase f) (by
   have:=List.length_erase_of_mem hm;simp only [List.length_cons] at hl
   omega) h.2
  exact (List.Perm.cons f this).trans (List.perm_cons_erase hm).symm
theorem QEm (l m:List Fm):QBk l m=true ↔ l.Perm m:=by
 unfold QBk;rw [Bool.and_eq_true,decide_eq_true_eq]
 constructor
 ·exact fun h=>QDz h.1 h.2
 ·exact fun h=>⟨h.length_eq,(QCV l m).2 fun f=>Nat.le_of_eq (h.count_eq f)⟩
end Go.Proofs.YtffkoiemnchdgadGreat
