import Derived.Test.YtffkoiemnchdgadGreatB05
import Derived.Test.YtffkoiemnchdgadGreatB02
import Derived.ProofKit
import Derived.Deep.Strs
import Derived.Deep.Slices
import Derived.Lib.SmallJoins
namespace Go.Proofs.YtffkoiemnchdgadGreat
open Go.RowKit
mutual
def QAZ:Fm→Fm→Bool
 | .mk k n ks,g=>decide (k=g.kind) && decide (n.data.toList=g.name.data.toList) && decide (ks.length=g.kids.length) && sameBs ks g.kids
def sameBs:List Fm→List Fm→Bool
 | [],_=>true
 | _ :: _,[]=>true
 | f :: fs,g :: gs=>QAZ f g && sameBs fs gs
end
mutual
theorem QCR:∀ f:Fm,QAZ f f=true
 | .mk k n ks=>by rw [QAZ];simp [Fm.kind,Fm.name,Fm.kids,sameBs_refl ks]
theorem sameBs_refl:∀ fs:List Fm,sameBs fs fs=true
 | []=>by rw [sameBs]
 | f :: fs=>by rw [sameBs,QCR f,sameBs_refl fs];rfl
end
mutual
theorem QCg:∀ f g:Fm,QAZ f g=true→f=g
 | .mk k n ks,.mk k' n' ks',h=>by
  rw [QAZ] at h;simp only [Fm.kind,Fm.name,Fm.kids,Bool.and_eq_true] at h;obtain⟨⟨⟨h1,h2⟩,h3⟩,h4⟩:=h
  replace h1:=of_decide_eq_true h1
  replace h2:=of_decide_eq_true h2
  replace h3:=of_decide_eq_true h3
  have h5:=sameBs_eq ks ks' h3 h4;subst h1 h5;(have h6:n=n':=by apply ByteArray.ext;apply Array.ext';exact h2);rw [h6]
theorem sameBs_eq:∀ fs gs:List Fm,fs.length=gs.length→sameBs fs gs=true→fs=gs
 | [],[],_,_=>rfl
 | [],_ :: _,h,_=>by simp at h
 | _ :: _,[],h,_=>by simp at h
 | f :: fs,g :: gs,h,h'=>by
  rw [sameBs,Bool.and_eq_true] at h';(rw [QCg f g h'.1,sameBs_eq fs gs (by simpa using h) h'.2])
end
theorem QDl {fs gs:List Fm} {i:Nat} {f g:Fm} (hf:fs[i]? = some f) (hg:gs[i]? = some g):sameBs (fs.drop i) (gs.drop i)=(QAZ f g && sameBs (fs.drop (i+1)) (gs.drop (i+1))):=by
 have aux:∀ {l:List Fm} {x:Fm},l[i]? = some x→l.drop i=x :: l.drop (i+1):=fun {l x} h=>by
  have hi:i < l.length:=by
   rcases Nat.lt_or_ge i l.length with h' | h'
   ·exact h'
   ·rw [List.getElem?_eq_none h'] at h;cases h
  rw [List.drop_eq_getElem_cons hi];rw [List.getElem?_eq_getElem hi] at h;rw [Option.some.inj h]
 rw [aux hf,aux hg,sameBs]
def QIp (m:Nat):Prop:=∀ (f g:Fm) (v u:Value) (w:World),f.size < m→Rep w (fun _=>True) f v→Rep w (fun _=>True) g u →
 Calls Tryz.prog 78 #[v,u] w fun e w'=>e = .returned (.bool (QAZ f g))∧Below w.heap.size w w'
set_option maxHeartbeats 1000000 in
theorem QIT (m:Nat) (ih:QIp m):QIp (m+1):=by
 intro f g v u w hm hrep hrep';obtain⟨k,n,ks⟩:=f;obtain⟨k',n',ks'⟩:=g;obtain⟨sl,cap,rfl,hx1,hx2,hx3,hx4⟩:=Rep.def.1 hrep;obtain⟨sl',cap',rfl,hy1,hy2,hy3,hy4⟩:=Rep.def.1 hrep';(have HX:Hid (ks≠[]→∃ b off,sl=some ⟨b,off,none⟩∧True∧Reps w (fun _=>True) b off ks):=hx4);(have HY:Hid (ks'≠[]→∃ b off,sl'=some ⟨b,off,none⟩∧True∧Reps w (fun _=>True) b off ks'):=hy4);clear hx4 hy4;(have hb0:Below w.heap.size w ((w.alloc (.cells #[.int .i64 k,.string n,.slice sl ks.length cap] 24 (0,0))).alloc (.cells #[.int .i64 k',.string n',.slice sl' ks'.length cap'] 24 (0,0))):=((Below.refl _ _).alloc (Nat.le_refl _) _).alloc (by simp) _);(have hlen:((ks.length:Nat):Int)≤9223372036854775807:=by unfold maxLen at hx3;omega);by_cases h1:k=k'
 ·by_cases h2:n.data.toList=n'.data.toList
  ·by_cases h3:ks.length=ks'.length
   ·have hE:QAZ (.mk k n ks) (.mk k' n' ks')=sameBs ks ks':=by rw [QAZ];simp [Fm.kind,Fm.name,Fm.kids,h1,h2,h3]
    rw [hE];subst h1;(have h2':n=n':=by apply ByteArray.ext;apply Array.ext';exact h2);subst h2';clear hE h2;have q1:=QAG (w.alloc (.cells #[.int .i64 k,.string n,.slice sl ks.length cap] 24 (0,0))) (.cells #[.int .i64 k,.string n,.slice sl' ks'.length cap'] 24 (0,0));(rw [show (w.alloc (.cells #[.int .i64 k,.string n,.slice sl ks.length cap] 24 (0,0))).heap.size=w.heap.size+1 by simp] at q1);have q0:=QAG w (.cells #[.int .i64 k,.string n,.slice sl ks.length cap] 24 (0,0));(rw [← Below.heap_alloc _ (.cells #[.int .i64 k,.string n,.slice sl' ks'.length cap'] 24 (0,0)) _ (by simp)] at q0);have QQ:Hid (_∧_):=⟨q0,q1⟩;clear q0 q1;rw [← h3] at QQ hb0 ⊢;have HE:Hid (ks.length=ks'.length):=h3;clear h3
    go_enter Tryz.func78,Tryz.ntmps78
    go_wp2_with fail
    go_loopg [5] ks.length (fun g c wr=>∃ i,i≤ks.length∧g=ks.length - i∧c = .int .i64 (i:Nat)∧Below w.heap.size w wr∧wr.heap[w.heap.size]? = some (.cells #[.int .i64 k,.string n,.slice sl ks.length cap] 24 (0,0))∧wr.heap[w.heap.size+1]? = some (.cells #[.int .i64 k,.string n,.slice sl' ks.length cap'] 24 (0,0))∧Hid (sameBs (ks.drop i) (ks'.drop i)=sameBs ks ks'))
    case atStart=>exact⟨0,by omega,by omega,rfl,hb0,QQ.out.1,QQ.out.2,by show _=_;simp⟩
    case round =>
     obtain⟨i,hi,hg,rfl,hbr,q0,q1,HS⟩:=hrel;have HG:Hid (gk=ks.length - i):=hg;clear hg QQ hb0;obtain⟨e0,e1,e2,-⟩:=QAX q0;obtain⟨i0,i1,i2,-⟩:=QAX q1;by_cases hlt:i < ks.length
     ·obtain⟨b,off,hsl,-,hrs⟩:=HX.out (fun e=>by rw [e] at hlt;simp at hlt)
      (obtain⟨b',off',hsl',-,hrs'⟩:=HY.out (fun e=>by have:=HE.out;rw [e] at this;simp at this;rw [this] at hlt;simp at hlt));subst hsl hsl';obtain⟨⟨k2,n2,ks2⟩,hki⟩:∃ f,ks[i]? = some f:=⟨_,List.getElem?_eq_getElem hlt⟩;(obtain⟨⟨k3,n3,ks3⟩,hki'⟩:∃ f,ks'[i]? = some f:=⟨_,List.getElem?_eq_getElem (by have:=HE.out;omega)⟩);obtain⟨sl2,cap2,g0,g1,g2,hrep2⟩:=(hrs.up hbr).at i k2 n2 ks2 hki;obtain⟨sl3,cap3,p0,p1,p2,hrep3⟩:=(hrs'.up hbr).at i k3 n3 ks3 hki';(have hlt2:(i:Int) < (ks.length:Int):=by omega);(have hsz:(Fm.mk k2 n2 ks2).size < m:=by have:=QBp hki;rw [Fm.size] at hm;omega);have z0:=QAE q0;have z1:=QAE q1;have zz:=hbr.size;have hds:=HS.out;rw [QDl hki hki'] at hds;have HD:Hid (_=sameBs ks ks'):=hds;(have HI:Hid (∀ w,Rep w (fun _=>True) (.mk k2 n2 ks2) (.agg #[.int .i64 k2,.string n2,.slice sl2 ks2.length cap2])→Rep w (fun _=>True) (.mk k3 n3 ks3) (.agg #[.int .i64 k3,.string n3,.slice sl3 ks3.length cap3])→Calls Tryz.prog 78 #[.agg #[.int .i64 k2,.string n2,.slice sl2 ks2.length cap2],.agg #[.int .i64 k3,.string n3,.slice sl3 ks3.length cap3]] w fun e w'=>e = .returned (.bool (QAZ (.mk k2 n2 ks2) (.mk k3 n3 ks3)))∧Below w.heap.size w w'):=fun w h1 h2=>ih _ _ _ _ w hsz h1 h2);(have hlc:((i:Nat):Int) < ((cap:Nat):Int):=by omega);clear hki hki' hrs hrs' hrep hrep' HX HY hds HS;have zb:=QAI g0;have zb':=QAI p0;simp only at zb zb';go_wp2_with fail
      go_region_held3 (fun w'=>w'.cell? ⟨w.heap.size,2,none⟩=some (.slice (some ⟨b,off,none⟩) ks.length cap)∧w'.cell? ⟨w.heap.size+1,2,none⟩=some (.slice (some ⟨b',off',none⟩) ks.length cap')∧w'.cell? ⟨b,off+i * 3,none⟩=some (.int .i64 k2)∧w'.cell? ⟨b,off+i * 3+1,none⟩=some (.string n2)∧w'.cell? ⟨b,off+i * 3+2,none⟩=some (.slice sl2 ks2.length cap2)∧w'.cell? ⟨b',off'+i * 3,none⟩=some (.int .i64 k3)∧w'.cell? ⟨b',off'+i * 3+1,none⟩=some (.string n3)∧w'.cell? ⟨b',off'+i * 3+2,none⟩=some (.slice sl3 ks3.length cap3)) (go_keep)
       (
        first
        | (
         go_at_call 78
         refine (HI.out _ (hrep2.up (Below.refl _ _).drew) (hrep3.up (Below.refl _ _).drew)).mono ?_;rintro e w1 ⟨rfl,hb1⟩;have c1:=(hb1.cell (p:=⟨w.heap.size,2,none⟩) z0).trans e2;have c2:=(hb1.cell (p:=⟨w.heap.size+1,2,none⟩) z1).trans i2;have c3:=(hb1.cell (p:=⟨b,off+i * 3,none⟩) zb).trans g0;have c4:=(hb1.cell (p:=⟨b,off+i * 3+1,none⟩) zb).trans g1;have c5:=(hb1.cell (p:=⟨b,off+i * 3+2,none⟩) zb).trans g2;have c6:=(hb1.cell (p:=⟨b',off'+i * 3,none⟩) zb').trans p0;have c7:=(hb1.cell (p:=⟨b',off'+i * 3+1,none⟩) zb').trans p1
         have c8:=(hb1.cell (p:=⟨b',off'+i * 3+2,none⟩) zb').trans p2)
        | fail)
      have hbb:Below w.heap.size w w1:=hbr.drew.trans (hb1.mono zz);have q2:=(hb1.block _ z0).trans q0;have q3:=(hb1.block _ z1).trans q1;clear c1 c2 c3 c4 c5 c6 c7 c8
      rcases hsm:QAZ (.mk k2 n2 ks2) (.mk k3 n3 ks3) with _|_
      ·rw [hsm] at HD
       have HF:Hid (false=sameBs ks ks'):=HD;clear hsm HD;go_wp2_with fail;go_ret;exact⟨QCf HF.out,hbb⟩
      ·rw [hsm,Bool.true_and] at HD
       clear hsm;go_wp2_with fail
       go_roundg (ks.length - (i+1))
       case measure=>have:=HG.out;omega
       case rel=>exact⟨i+1,by omega,rfl,by go_num,hbb,q2,q3,HD⟩
     ·go_wp2_with fail
      go_ret;refine⟨QCf ?_,hbr⟩;(rw [← HS.out,List.drop_of_length_le (by omega),sameBs])
   ·have hE:QAZ (.mk k n ks) (.mk k' n' ks')=false:=by rw [QAZ];simp [Fm.kids,h3]
    rw [hE];subst h1;(have h2':n=n':=by apply ByteArray.ext;apply Array.ext';exact h2);subst h2';(have h3':((ks.length:Int) != (ks'.length:Int))=true:=by simp;omega);clear hE h2
    go_enter Tryz.func78,Tryz.ntmps78
    go_wp2_with fail;go_ret;exact⟨rfl,hb0⟩
  ·have hE:QAZ (.mk k n ks) (.mk k' n' ks')=false:=by rw [QAZ];simp only [Fm.kind,Fm.name,h2,decide_false,Bool.and_false,Bool.false_and]
   rw [hE];subst h1;(have h2':¬ n.toList=n'.toList:=by rw [ByteArray.toList_eq,ByteArray.toList_eq];exact h2);clear hE h2
   go_enter Tryz.func78,Tryz.ntmps78
   go_wp2_with fail;go_ret;exact⟨rfl,hb0⟩
 ·have hE:QAZ (.mk k n ks) (.mk k' n' ks')=false:=by rw [QAZ];simp [Fm.kind,h1]
  rw [hE];(have h1':(k != k')=true:=by simpa using h1)
  go_enter Tryz.func78,Tryz.ntmps78
  go_wp2_with fail;go_ret;exact⟨rfl,hb0⟩
theorem QFC:∀ m,QIp m
 | 0=>fun _ _ _ _ _ h=>absurd h (Nat.not_lt_zero _)
 | m+1=>QIT m (QFC m)
theorem QER (f g:Fm) (v u:Value) (w:World) (hv:Rep w (fun _=>True) f v) (hu:Rep w (fun _=>True) g u) :
  Calls Tryz.prog 78 #[v,u] w fun e w'=>e = .returned (.bool (QAZ f g))∧Below w.heap.size w w' :=
 QFC (f.size+1) f g v u w (Nat.lt_succ_self _) hv hu
theorem QAB {w w':World} {k:Nat} {o:Obj} (hb:Below w.heap.size w w') (h:w.heap[k]? = some o):w'.heap[k]? = some o:=(hb.block k (QAE h)).trans h
theorem QAF {w:World} {k:Nat} {o:Obj} (h:w.heap[k]? = some o) (o':Obj):(w.alloc o').heap[k]? = some o:=(Below.heap_alloc _ _ _ (QAE h)).trans h
theorem QAC {W w w':World} (h:Below W.heap.size W w) (hb:Below w.heap.size w w'):Below W.heap.size W w':=h.trans (hb.mono h.size)
theorem QAA {W w:World} (h:Below W.heap.size W w) (o:Obj):Below W.heap.size W (w.alloc o):=h.alloc h.size o
theorem Rep.all {w:World} {ok:Nat→Prop} {f:Fm} {v:Value} (h:Rep w ok f v):Rep w (fun _=>True) f v:=h.move fun _ _ _=>⟨rfl,trivial⟩
theorem Rep.more {w:World} {f:Fm} {v:Value} (h:Rep w (fun _=>True) f v) (o:Obj):Rep (w.alloc o) (fun _=>True) f v:=h.up ((Below.refl _ _).alloc (Nat.le_refl _) _)
theorem QCl:Tryz.prog.cellsOf 24=3:=by kernel_rfl
theorem QKA:Tryz.prog.cellsOf 3=1:=by kernel_rfl
theorem QIt:Tryz.prog.cellsOf 9=1:=by kernel_rfl
theorem QHc:Tryz.prog.cellsOf 22=1:=by kernel_rfl
theorem QAn (b off n:Nat):(⟨b,off,none⟩:Addr).add n=⟨b,off+n,none⟩:=by
 (by_cases h:n=0 <;> simp [Addr.add,h])
section
variable {H:Type} {enc:TypeId × Value→H} {W:World} {spare:Nat→Bool} {held:Bool}
theorem QHl {b off len:Nat} (rd:∀ i,i < len→∃ c0 c1 c2 f,W.cell? ⟨b,off+i * 3,none⟩=some c0∧W.cell? ⟨b,off+i * 3+1,none⟩=some c1∧W.cell? ⟨b,off+i * 3+2,none⟩=some c2∧Rep W (fun _=>True) f (.agg #[c0,c1,c2])) :
  ∃ fs:List Fm,fs.length=len∧Reps W (fun _=>True) b off fs:=by
 induction len generalizing off with
 | zero=>exact⟨[],rfl,Reps.nil⟩
 | succ len ih =>
  (obtain⟨c0,c1,c2,f,h0,h1,h2,hr⟩:=rd 0 (by omega))
  obtain⟨fs,hl,hrs⟩:=ih (off:=off+3) (fun i hi=>by
   (obtain⟨d0,d1,d2,g,k0,k1,k2,kr⟩:=rd (i+1) (by omega));(have e:off+(i+1) * 3=off+3+i * 3:=by omega);rw [e] at k0 k1 k2
   exact⟨d0,d1,d2,g,k0,k1,k2,kr⟩)
  (exact⟨f :: fs,by simp [hl],Reps.cons.2 ⟨⟨c0,c1,c2,by simpa using h0,by simpa using h1,by simpa using h2,hr⟩,hrs⟩⟩)
set_option maxRecDepth 100000 in
theorem QCe:∀ (fuel:Nat) (cs:List Value) (x:DataW H × List MemPlace),DataW.trod enc Tryz.prog W 0 spare held fuel 24 cs=some x →
  ∃ c0 c1 c2 f,cs=[c0,c1,c2]∧Rep W (fun _=>True) f (.agg #[c0,c1,c2]):=by
 intro fuel
 induction fuel using Nat.strongRecOn with
 | _ fuel ih =>
  intro cs x h;obtain⟨xs,n,hfu,-,hl,hlen,hf⟩:=DataW.trod_struct Tryz.underlying24 h;rw [QCl] at hl
  match cs,hl with
  | [c0,c1,c2],_ =>
   have h0:=hf 0 _ rfl;have h1:=hf 1 _ rfl;have h2:=hf 2 _ rfl;simp at hlen
   match xs,hlen with
   | [y0,y1,y2],_ =>
    simp [QKA,QIt,QHc] at h0 h1 h2;obtain⟨k,e0,-,-⟩:=DataW.trod_int Tryz.underlying3 h0;obtain⟨s,e1,-,hs⟩:=DataW.trod_string Tryz.underlying9 h1;simp at e0 e1;subst e0 e1
    rcases DataW.trod_slice Tryz.underlying22 h2 with ⟨e2,-⟩|⟨a,len,cap,elems,rest,m,hm,e2,-,-,hlc,hcm,hel,hall,-⟩
    ·simp at e2
     subst e2;exact⟨_,_,_,.mk k s [],rfl,Rep.leaf hs⟩
    ·simp at e2
     subst e2;obtain⟨b,off,spot⟩:=a;by_cases hz:len=0
     ·subst hz
      (exact⟨_,_,_,.mk k s [],rfl,Rep.def.2 ⟨_,cap,rfl,hs,Nat.zero_le _,hcm,fun h=>absurd rfl h⟩⟩)
     ·have hsp:spot=none:=by
       (have hh:=hall 0 (by omega));(rw [QCl,List.getElem?_eq_getElem (by omega)] at hh);obtain⟨cs',hcs,htr⟩:=Option.bind_eq_some_iff.1 hh;obtain⟨-,hl3,hcell⟩:=World.cells?_some hcs;(obtain⟨d0,d1,d2,f,rfl,-⟩:=ih m (by omega) cs' _ htr);(have g0:=hcell 0 (by omega));simp [Addr.add] at g0;simpa using World.cell?_spot g0
      subst hsp
      obtain⟨fs,hfl,hrs⟩:=QHl (W:=W) (b:=b) (off:=off) (len:=len) (fun i hi=>by
       have hh:=hall i hi;(rw [QCl,List.getElem?_eq_getElem (by omega),QAn] at hh);obtain⟨cs',hcs,htr⟩:=Option.bind_eq_some_iff.1 hh;obtain⟨-,hl3,hcell⟩:=World.cells?_some hcs;(obtain⟨d0,d1,d2,f,rfl,hr⟩:=ih m (by omega) cs' _ htr);(have g0:=hcell 0 (by omega));(have g1:=hcell 1 (by omega));(have g2:=hcell 2 (by omega));rw [QAn] at g0 g1 g2
       exact⟨d0,d1,d2,f,g0,g1,g2,hr⟩)
      subst hfl;(exact⟨_,_,_,.mk k s fs,rfl,Rep.def.2 ⟨_,cap,rfl,hs,hlc,hcm,fun _=>⟨b,off,rfl,trivial,hrs⟩⟩⟩)
end
set_option maxHeartbeats 1000000 in
theorem QGP (s:ByteArray) (hs:s.size≤maxLen) (w:World) :
  Calls Tryz.prog 17 #[.string s] w fun e w'=>e = .returned (.bool (QBe s.data.toList))∧w'=w:=by
 have hsz:s.data.toList.length=s.size:=Array.length_toList;unfold maxLen at hs;have HN:Hid (QBe s.data.toList=(QBK s.data.toList && decide (0 < s.data.toList.length) && decide (s.data.toList.length < 9))):=QIx _;have HZ:Hid (s.data.toList.length=s.size):=hsz;clear hsz
 go_enter Tryz.func17,Tryz.ntmps17
 go_wp2
 go_loop [3] (fun v=>∃ k l,At s k l∧v = .int .i64 (k:Nat)∧QBK s.data.toList=QBK l) (fun v=>s.size - (intOf v).toNat)
 case atStart=>exact⟨0,s.data.toList,⟨Nat.zero_le _,by simp⟩,rfl,rfl⟩
 case round =>
  obtain⟨k,l,ha,rfl,hl⟩:=hrel;have hlen:=ha.len;have HL:Hid (At s k l∧QBK s.data.toList=QBK l):=⟨ha,hl⟩;clear ha hl
  cases l with
  | nil =>
   simp at hlen;(have hd:decide ((k:Int) < (s.size:Int))=false:=by simp;omega);go_wp2
   all_goals
    go_ret;refine⟨QCf ?_,rfl⟩;rw [HN.out,HL.out.2,HZ.out];rw [Bool.eq_iff_iff];simp only [QBK,List.all_nil,Bool.true_and,Bool.and_eq_true,decide_eq_true_eq,Bool.false_eq_true,false_iff]
    omega
  | cons c l =>
   simp at hlen;(have hlt':k < s.size:=by omega);(have hlt:(k:Int) < (s.size:Int):=by omega);have hhd:s[k]=c:=HL.out.1.head hlt';by_cases hc:QCt c
   ·have hx:(97:Int)≤(s[k].toNat:Int):=by rw [hhd];simp [QCt] at hc;omega
    (have hy:(s[k].toNat:Int)≤122:=by rw [hhd];simp [QCt] at hc;omega);(have HM:Hid (At s (k+1) l∧QBK s.data.toList=QBK l):=⟨HL.out.1.cons,by rw [HL.out.2];simp only [QBK,List.all_cons,hc,Bool.true_and]⟩);clear hhd hc;go_wp2
    go_round
    case rel=>exact⟨k+1,l,HM.out.1,by go_num,HM.out.2⟩
    case measure=>simp [intOf];omega
   ·have hx:¬ ((97:Int)≤(s[k].toNat:Int)∧(s[k].toNat:Int)≤122):=by rw [hhd];simp [QCt] at hc;omega
    have HM:Hid (QBK s.data.toList=false):=by
     show _=_;rw [HL.out.2];simp only [QBK,List.all_cons,Bool.eq_false_iff.2 hc,Bool.false_and]
    clear hhd hc;go_wp2
    all_goals
     go_ret;refine⟨QCf ?_,rfl⟩;rw [HN.out,HM.out];rfl
theorem Fine.small {k:Int} {n:ByteArray} {ks:List Fm} (h:Fine (.mk k n ks)):n.size≤8∧ks.length≤2:=by
 rcases h.forms with ⟨m,e,hn⟩|e|e|⟨c,g,hk,e,hg⟩|⟨c,g,g',hk,e,hg,hg'⟩ <;> cases e
 ·have:=QHf hn
  have e2:n.data.toList.length=n.size:=Array.length_toList;(exact⟨by omega,by simp⟩)
 ·exact⟨by decide,by simp⟩
 ·exact⟨by decide,by simp⟩
 ·exact⟨by decide,by simp⟩
 ·exact⟨by decide,by simp⟩
theorem QET:∀ (ks:List Fm) (i:Nat) (f:Fm),ks[i]? = some f→Fm.sizes (ks.take i)+f.size≤Fm.sizes ks
 | [],i,f,h=>by simp at h
 | k :: ks,0,f,h=>by simp at h;subst h;simp [Fm.sizes]
 | k :: ks,i+1,f,h=>by
  (have:=QET ks i f (by simpa using h));simp only [List.take_succ_cons,Fm.sizes];omega
theorem QCZ {w:World} {b:Nat} {c0:Value} {T:TypeId} (h:w.heap[b]? = some (.cells #[c0] T (0,0))):w.cell? ⟨b,0,none⟩=some c0∧w.frozen? ⟨b,0,none⟩=false:=⟨QAL h 0,QBM h 0⟩
theorem QIW {w:World} {b:Nat} {c0:Value} {T:TypeId} (h:w.heap[b]? = some (.cells #[c0] T (0,0))) (v:Value):(w.setCell ⟨b,0,none⟩ v).heap[b]? = some (.cells #[v] T (0,0)):=by
 simp [World.setCell,Array.getElem?_modify,h]
end Go.Proofs.YtffkoiemnchdgadGreat
