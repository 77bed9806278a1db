import Derived.Test.YtbmedfokpgghiacGreatB14
import Derived.Deep.RegionLaw
import Derived.Lib.SliceRun
import Derived.Test.YtbmedfokpgghiacGreatB01
import Derived.Maps.OwnSet
import Derived.Shelf.SlMaps.Copy
namespace Go.Proofs.YtbmedfokpgghiacGreat
open Go.RowKit
def AppL (A B:Nat) (fs:List Fm) (ad:Option Addr) (cp:Nat) (w:World):Prop:=∃ cs,w.ownsRow B 29 3 (.slice ad fs.length cp) fs.length cs∧LQ (fun b=>b < A) w cs fs
theorem AppL.flp {A B:Nat} {fs:List Fm} {ad:Option Addr} {cp:Nat} {w:World} (h:AppL A B fs ad cp w) (hAB:A≤B):FLp (fun b=>b < A∨B≤b) w (.slice ad fs.length cp) fs:=by
 obtain⟨cs,h1,h2⟩:=h;(refine QHR (B:=B) ⟨cs,h1,h2.move fun b _ hb=>⟨rfl,Or.inl hb,fun e => ?_⟩⟩ fun _ h=>Or.inr h);have:=(h1.lt b e).1;omega
theorem AppL.shape {A B:Nat} {fs:List Fm} {ad:Option Addr} {cp:Nat} {w:World} (h:AppL A B fs ad cp w):(ad=none∧cp=0∧fs=[])∨∃ g,ad=some ⟨g,0,none⟩∧fs.length≤cp:=by
 obtain⟨cs,⟨h0,h1⟩,h2⟩:=h
 rcases h1 with ⟨hv,hn⟩|⟨g,cap,cur,hv,-,-,hl,-⟩
 ·simp only [Value.slice.injEq] at hv
  exact Or.inl ⟨hv.1,hv.2.2,List.length_eq_zero_iff.1 hn⟩
 ·simp only [Value.slice.injEq,true_and] at hv
  obtain⟨rfl,rfl⟩:=hv;exact Or.inr ⟨g,rfl,hl⟩
theorem QMT (A n:Nat) (hn:n≤1000) (w:World) :
  Calls Tryz.prog 133 #[.slice none 0 0,.int .i64 (n:Nat)] w fun e w'=>∃ ad cp,e = .returned (.slice ad 0 cp)∧AppL A w.heap.size [] ad cp w'∧Below w.heap.size w w':=by
 rcases Nat.eq_zero_or_pos n with rfl|h0
 ·refine (QLD w).mono ?_
  rintro e w' ⟨rfl,rfl⟩;exact⟨none,0,rfl,⟨[],⟨rfl,Or.inl ⟨rfl,rfl⟩⟩,trivial⟩,Below.refl _ _⟩
 ·refine (QLC n h0 hn w).mono ?_
  rintro e w' ⟨g,cp,rfl,ho,hb⟩;exact⟨_,_,rfl,⟨[],ho,trivial⟩,hb⟩
theorem AppL.app {W w2 w3:World} {A:Nat} {fs gs:List Fm} {ad:Option Addr} {cp g3 cp3:Nat} {cs ds:List Value} (hA:A≤W.heap.size) (B:Below W.heap.size W w2)
  (hown:w2.ownsRow W.heap.size 29 3 (.slice ad fs.length cp) fs.length cs) (hlq:LQ (fun b=>b < A) w2 cs fs) (hds:LQ (fun b=>b < A) w2 ds gs)
  (hown3:w3.ownsRow W.heap.size 29 3 (.slice (some ⟨g3,0,none⟩) (fs.length+gs.length) cp3) (fs.length+gs.length) (cs++ds)) (hgrow:w2.grownBy w3 (Value.slice ad fs.length cp).ownBlock) :
  AppL A W.heap.size (fs++gs) (some ⟨g3,0,none⟩) cp3 w3∧Below W.heap.size W w3:=by
 (have hk:∀ j,j < W.heap.size→w3.heap[j]? = w2.heap[j]? := fun j hj=>hgrow.block j (by have:=B.size;omega) (fun e=>by have:=(hown.lt j e.symm).1;omega));(refine⟨⟨cs++ds,by rw [List.length_append];exact hown3,(hlq.append hds).move fun b _ hb=>⟨hk b (by omega),hb⟩⟩,?_,?_,?_,?_,?_⟩)
 all_goals first
  | exact hgrow.os.trans B.os
  | exact hgrow.tape.trans B.tape
  | exact hgrow.output.trans B.output
  | (have:=hgrow.size;have:=B.size;omega)
  | exact fun j hj=>(hk j hj).trans (B.block j hj)
set_option maxRecDepth 10000 in
set_option maxHeartbeats 8000000 in
theorem QJF (A:Nat) (l r:List Fm) (hl:l.length≤400) (hr:r.length≤400) (v u:Value) (b:Nat) (w:World) (hA:A≤w.heap.size) (hv:FLp (· < A) w v l) (hu:FLp (· < A) w u r) (hb:w.heap[b]? = some (.cells #[v,u] 22 (0,0))) :
  Calls Tryz.prog 88 #[.slice (some ⟨b,0,none⟩) 2 2] w fun e w'=>∃ ad cp,e = .returned (.slice ad (l++r).length cp)∧AppL A w.heap.size (l++r) ad cp w'∧Below w.heap.size w w':=by
 have HV:Hid (FLp (· < A) w v l):=hv;have HU:Hid (FLp (· < A) w u r):=hu;have HAw:Hid (A≤w.heap.size):=hA;clear hA;obtain⟨adV,cpV,rfl,hv1,hv2,-⟩:=hv;obtain⟨adU,cpU,rfl,hu1,hu2,-⟩:=hu;obtain⟨i0,hi,hz0,hz1,hz2⟩:=QBb;have HIo:Hid (Tryz.prog.info? 29=some i0∧i0.zero=some (.agg #[.int .i64 0,.string ⟨#[]⟩,.slice none 0 0])∧i0.size=3∧i0.bytes=48):=⟨hi,hz0,hz1,hz2⟩;obtain⟨a0,a1,-⟩:=QAV hb;(have hlI:(l.length:Int)≤400:=by omega);(have hrI:(r.length:Int)≤400:=by omega);clear hi hz0 hz1 hz2 hv1 hv2 hu1 hu2
 go_enter Tryz.func88,Tryz.ntmps88
 go_wp2_with fail
 go_loopg [11,3] 2 (fun g c o wr=>(g=2∧c = .int .i64 0∧o = .int .i64 0∧wr=w)∨(g=1∧c = .int .i64 1∧o = .int .i64 (l.length:Nat)∧wr=w)∨(g=0∧c = .int .i64 2∧o = .int .i64 ((l.length+r.length:Nat):Int)∧wr=w))
 case atStart=>exact Or.inl ⟨rfl,rfl,rfl,rfl⟩
 case round =>
  rcases hrel with ⟨hg,rfl,rfl,hw⟩|⟨hg,rfl,rfl,hw⟩|⟨hg,rfl,rfl,hw⟩
  ·have hw':=hw.symm
   subst hw';have HG:Hid (gk=2):=hg;clear hg;go_wp2_with fail
   go_roundg 1
   case measure=>have:=HG.out;omega
   case rel=>exact Or.inr (Or.inl ⟨rfl,by go_num,by go_num,rfl⟩)
  ·have hw':=hw.symm
   subst hw';have HG:Hid (gk=1):=hg;clear hg;go_wp2_with fail
   go_roundg 0
   case measure=>have:=HG.out;omega
   case rel=>exact Or.inr (Or.inr ⟨rfl,by go_num,by go_num,rfl⟩)
  ·have hw':=hw.symm
   subst hw';clear hg;go_wp2_with fail;(rw [show ((l.length:Int)+(r.length:Int))=((l.length+r.length:Nat):Int) by simp]);(refine (QMT A (l.length+r.length) (by omega) w).mono ?_);rintro e w2 ⟨ad0,cp0,rfl,hA,B2⟩;have HA:Hid (AppL A w.heap.size [] ad0 cp0 w2):=hA;clear hA a0 a1;have HB:Hid (w.heap[b]? = some (.cells #[.slice adV l.length cpV,.slice adU r.length cpU] 22 (0,0))):=hb;clear hb;go_wp2_with fail
   go_loopg [27,6] 2 (fun g c o wr=>Hid (Below w.heap.size w wr)∧((∃ ad cp,g=2∧c = .int .i64 0∧o = .slice ad 0 cp∧Hid (AppL A w.heap.size [] ad cp wr))∨(∃ ad cp,g=1∧c = .int .i64 1∧o = .slice ad l.length cp∧Hid (AppL A w.heap.size l ad cp wr))∨(∃ ad cp,g=0∧c = .int .i64 2∧o = .slice ad (l++r).length cp∧Hid (AppL A w.heap.size (l++r) ad cp wr))))
   case atStart=>exact⟨B2,Or.inl ⟨ad0,cp0,rfl,rfl,rfl,HA⟩⟩
   case round =>
    clear HA B2;obtain⟨HW,hrel⟩:=hrel;obtain⟨a0,a1,-⟩:=QAV (QAA HW.out HB.out)
    rcases hrel with ⟨ad,cp,hg,rfl,rfl,HA⟩|⟨ad,cp,hg,rfl,rfl,HA⟩|⟨ad,cp,hg,rfl,rfl,HA⟩
    ·have HG:Hid (gk=2):=hg
     clear hg;by_cases hne:l=[]
     ·subst hne
      have BW:=HW.out;(have hpu:∀ w:World,(pure #[]:Sem (Array Value)).run Tryz.prog w = .ok #[] w:=fun _=>rfl);(have hsc:∀ (a:Addr) (w:World),(storeCells a ([]:List Value)).run Tryz.prog w = .ok () w:=fun _ _=>rfl)
      rcases HA.out.shape with ⟨rfl,rfl,hd⟩|⟨gg,rfl,hle⟩
      ·
       clear hd
       cases adV
       all_goals
        go_wp2_with fail
        go_roundg 1
        case measure=>have:=HG.out;omega
        case rel=>exact⟨BW,Or.inr (Or.inl ⟨none,0,rfl,by go_num,by simp,HA.out⟩)⟩
      ·clear hle
       cases adV
       all_goals
        go_wp2_with fail
        go_roundg 1
        case measure=>have:=HG.out;omega
        case rel=>exact⟨BW,Or.inr (Or.inl ⟨_,_,rfl,by go_num,by simp,HA.out⟩)⟩
     ·obtain⟨bs,offs,ds,rfl,hds,hcs⟩:=HV.out.cells hne
      have BW:=HW.out;have hpos:0 < l.length:=List.length_pos_iff.2 hne;obtain⟨cs,hown,hlq⟩:=HA.out;(have hds':=hds.move (ok':=fun b=>b < A) (w':=wr) fun b hb hp=>⟨BW.block b hb,hp⟩);have HD:Hid (LQ _ wr ds l):=hds';have HL:Hid (LQ _ wr cs []):=hlq;have hlen:=hds.len;have HOne:Hid (∀ u∈ds,u.oneCell'=true):=hds.one;(have HCs:Hid (∀ (j:Nat) (u:Value),ds[j]? = some u→wr.cell? ⟨bs,offs+j,none⟩=some u):=fun j u hu=>(BW.cell (p:=⟨bs,offs+j,none⟩) (QAI (hcs j u hu))).trans (hcs j u hu));obtain⟨hi,hz0,hz1,hz2⟩:=HIo.out;have zw:=BW.size;clear hds hds' hcs hlq hne
      go_wp2_with (first
       | (
         at_builtin
         refine wpList_append_lies _ rfl _ _ 22 rfl w.heap.size 29 i0 (.agg #[.int .i64 0,.string ⟨#[]⟩,.slice none 0 0]) 3 48 Tryz.underlying22 hi hz0 hz1 hz2 rfl (by decide) _ _ _ rfl hown ⟨bs,offs,none⟩ l.length cpV ds rfl hlen (fun j u hu=>by
          rw [QAZ]
          exact HCs.out j u hu) HOne.out hpos (by unfold maxLen;simp;omega) (by simp;omega) zw _ rfl ?_
         intro g3 cp3 w3 hown3 hgrow hat hlt3)
       | fail)
      obtain⟨hA3,B3⟩:=AppL.app (gs:=l) HAw.out BW hown HL.out HD.out hown3 hgrow;have HA3:Hid (AppL A w.heap.size ([]++l) (some ⟨g3,0,none⟩) cp3 w3):=hA3;clear hown hown3 hgrow hat hA3 hlen hi hz0 hz1 hz2;go_wp2_with fail
      go_roundg 1
      case measure=>have:=HG.out;omega
      case rel=>exact⟨B3,Or.inr (Or.inl ⟨_,_,rfl,by go_num,by simp,HA3.out⟩)⟩
    ·have HG:Hid (gk=1):=hg
     clear hg;by_cases hne:r=[]
     ·subst hne
      have BW:=HW.out;(have hpu:∀ w:World,(pure #[]:Sem (Array Value)).run Tryz.prog w = .ok #[] w:=fun _=>rfl);(have hsc:∀ (a:Addr) (w:World),(storeCells a ([]:List Value)).run Tryz.prog w = .ok () w:=fun _ _=>rfl)
      rcases HA.out.shape with ⟨rfl,rfl,hd⟩|⟨gg,rfl,hle⟩
      ·subst hd
       cases adU
       all_goals
        go_wp2_with fail
        go_roundg 0
        case measure=>have:=HG.out;omega
        case rel=>exact⟨BW,Or.inr (Or.inr ⟨none,0,rfl,by go_num,by simp,by rw [List.append_nil];exact HA.out⟩)⟩
      ·have hleI:(l.length:Int)≤(cp:Int):=by omega
       cases adU
       all_goals
        go_wp2_with fail
        go_roundg 0
        case measure=>have:=HG.out;omega
        case rel=>exact⟨BW,Or.inr (Or.inr ⟨some ⟨gg,0,none⟩,cp,rfl,by go_num,by simp,by rw [List.append_nil];exact HA.out⟩)⟩
     ·obtain⟨bs,offs,ds,rfl,hds,hcs⟩:=HU.out.cells hne
      have BW:=HW.out;have hpos:0 < r.length:=List.length_pos_iff.2 hne;obtain⟨cs,hown,hlq⟩:=HA.out;(have hds':=hds.move (ok':=fun b=>b < A) (w':=wr) fun b hb hp=>⟨BW.block b hb,hp⟩);have HD:Hid (LQ _ wr ds r):=hds';have HL:Hid (LQ _ wr cs l):=hlq;have hlen:=hds.len;have HOne:Hid (∀ u∈ds,u.oneCell'=true):=hds.one;(have HCs:Hid (∀ (j:Nat) (u:Value),ds[j]? = some u→wr.cell? ⟨bs,offs+j,none⟩=some u):=fun j u hu=>(BW.cell (p:=⟨bs,offs+j,none⟩) (QAI (hcs j u hu))).trans (hcs j u hu));obtain⟨hi,hz0,hz1,hz2⟩:=HIo.out;have zw:=BW.size;clear hds hds' hcs hlq hne
      go_wp2_with (first
       | (
         at_builtin
         refine wpList_append_lies _ rfl _ _ 22 rfl w.heap.size 29 i0 (.agg #[.int .i64 0,.string ⟨#[]⟩,.slice none 0 0]) 3 48 Tryz.underlying22 hi hz0 hz1 hz2 rfl (by decide) _ _ _ rfl hown ⟨bs,offs,none⟩ r.length cpU ds rfl hlen (fun j u hu=>by
          rw [QAZ]
          exact HCs.out j u hu) HOne.out hpos (by unfold maxLen;omega) (by omega) zw _ rfl ?_
         intro g3 cp3 w3 hown3 hgrow hat hlt3)
       | fail)
      obtain⟨hA3,B3⟩:=AppL.app (gs:=r) HAw.out BW hown HL.out HD.out hown3 hgrow;have HA3:Hid (AppL A w.heap.size (l++r) (some ⟨g3,0,none⟩) cp3 w3):=hA3;clear hown hown3 hgrow hat hA3 hlen hi hz0 hz1 hz2;go_wp2_with fail
      go_roundg 0
      case measure=>have:=HG.out;omega
      case rel=>exact⟨B3,Or.inr (Or.inr ⟨_,_,rfl,by go_num,by simp,HA3.out⟩)⟩
    ·clear hg
     have BW:=HW.out;go_wp2_with fail;go_ret;exact⟨ad,cp,rfl,HA.out,BW⟩
theorem QJE (A:Nat) (l r:List Fm) (hl:l.length≤400) (hr:r.length≤400) (v u:Value) (b:Nat) (w:World) (hA:A≤w.heap.size) (hv:FLp (· < A) w v l) (hu:FLp (· < A) w u r) (hb:w.heap[b]? = some (.cells #[v,u] 22 (0,0))) :
  Calls Tryz.prog 88 #[.slice (some ⟨b,0,none⟩) 2 2] w fun e w'=>∃ x,e = .returned x∧FLp (fun b=>b < A∨w.heap.size≤b) w' x (l++r)∧Below w.heap.size w w':=by
 refine (QJF A l r hl hr v u b w hA hv hu hb).mono ?_;rintro e w' ⟨ad,cp,rfl,h,hB⟩;exact⟨_,rfl,h.flp hA,hB⟩
theorem QLq (f:Fm):QGz f []=f.pcode:=by
 unfold QGz;by_cases h:f.pcode.1=0
 ·rw [if_pos h,(QDN h).2.2]
  simp
 ·rw [if_neg h]
set_option maxHeartbeats 1000000 in
theorem QGI (f:Fm) (v:Value) (w:World) (hrep:Rep w (fun _=>True) f v) :
  Calls Tryz.prog 89 #[v] w fun e w'=>e = .returned (.int .i64 f.pcode.1)∧Below w.heap.size w w':=by
 (have hva:=fun v u (w:World) h h'=>QLm f [] (fun t h=>by cases h) v u w h h');rw [QLq] at hva;generalize f.pcode=pc at *;obtain⟨k,n,ks⟩:=f;obtain⟨sl,cap,rfl⟩:=QAU hrep;(have HV:Hid (∀ v u w,Rep w (fun _=>True) (.mk k n ks) v→SL w u []→Calls Tryz.prog 73 #[v,u] w _):=hva);obtain⟨c,a⟩:=pc;clear hva
 go_enter Tryz.func89,Tryz.ntmps89
 go_wp2_with fail;(refine (HV.out _ _ _ (hrep.more _) ⟨none,0,rfl,by simp,by simp,fun h=>absurd rfl h⟩).mono ?_);rintro e w1 ⟨rfl,hb1⟩;have B1:=QAC (QAB (Below.refl _ w) _) hb1;go_wp2_with fail;go_ret;exact⟨rfl,QAB B1 _⟩
theorem QGm {P:Nat→Prop} {w:World} {b:Nat}:∀ {fs:List Fm} {off:Nat} (i:Nat),Reps w P b off fs→Reps w P b off (fs.take i)
 | [],_,i,_=>by rw [List.take_nil];exact Reps.nil
 | f :: fs,off,0,_=>Reps.nil
 | f :: fs,off,i+1,h=>by
  rw [List.take_succ_cons];rw [Reps.cons] at h ⊢;exact⟨h.1,QGm i h.2⟩
theorem QGk {P:Nat→Prop} {w:World} {b:Nat}:∀ {fs:List Fm} {off:Nat} (i:Nat),Reps w P b off fs→Reps w P b (off+i * 3) (fs.drop i)
 | [],_,i,_=>by rw [List.drop_nil];exact Reps.nil
 | f :: fs,off,0,h=>by simpa using h
 | f :: fs,off,i+1,h=>by
  (rw [List.drop_succ_cons,show off+(i+1) * 3=off+3+i * 3 by omega]);exact QGk i (Reps.cons.1 h).2
theorem FLp.take {P:Nat→Prop} {w:World} {ad:Option Addr} {cap:Nat} {fs:List Fm} (h:FLp P w (.slice ad fs.length cap) fs) {i:Nat} (hi:i≤fs.length):FLp P w (.slice ad i cap) (fs.take i):=by
 obtain⟨ad',cap',hv,h1,h2,h3⟩:=h;simp only [Value.slice.injEq,true_and] at hv;obtain⟨rfl,rfl⟩:=hv;(refine⟨ad,cap,by rw [List.length_take,Nat.min_eq_left hi],by rw [List.length_take];omega,h2,fun hne => ?_⟩);(obtain⟨b,off,h5,h6,h7⟩:=h3 (fun e=>hne (by rw [e];simp)));exact⟨b,off,h5,h6,QGm i h7⟩
theorem FLp.drop {P:Nat→Prop} {w:World} {b off:Nat} {cap:Nat} {fs:List Fm} (h:FLp P w (.slice (some ⟨b,off,none⟩) fs.length cap) fs) {i:Nat} (hi:i≤fs.length) {ad:Option Addr} (hlt:i < fs.length→ad=some ⟨b,off+i * 3,none⟩):FLp P w (.slice ad (fs.length - i) (cap - i)) (fs.drop i):=by
 obtain⟨ad',cap',hv,h1,h2,h3⟩:=h;simp only [Value.slice.injEq,true_and] at hv;obtain⟨rfl,rfl⟩:=hv;(refine⟨ad,cap - i,by rw [List.length_drop],by rw [List.length_drop];omega,by omega,fun hne => ?_⟩)
 have hil:i < fs.length:=by
  rcases Nat.lt_or_ge i fs.length with h|h
  ·exact h
  ·exact absurd (List.drop_of_length_le h) hne
 (obtain⟨b',off',h5,h6,h7⟩:=h3 (fun e=>hne (by rw [e];simp)));simp only [Option.some.injEq,Addr.mk.injEq,and_true] at h5;obtain⟨rfl,rfl⟩:=h5;exact⟨b,off+i * 3,hlt hil,h6,QGk i h7⟩
theorem QKE (n:Nat) (h:n < 9223372036854775808):IntKind.i64.wrap (n:Int)=(n:Int):=by
 (have h1:(n:Int).toNat=n:=by omega);simp [IntKind.wrap,IntKind.bits,IntKind.signed];omega
mutual
def PRep (w:World):Pf→Value→Prop
 | .mk a f l r ks,v=>∃ c0 c1 c2 vl vr sl cap,v = .agg #[.string a,c0,c1,c2,vl,vr,.slice sl ks.length cap]∧a.size≤maxLen∧Rep w (fun _=>True) f (.agg #[c0,c1,c2])∧FL w vl l∧FL w vr r∧ks.length≤cap∧cap≤maxLen∧(ks≠[]→∃ b off,sl=some ⟨b,off,none⟩∧PReps w b off ks)
def PReps (w:World) (b:Nat):Nat→List Pf→Prop
 | _,[]=>True
 | off,p :: ps=>(∃ c0 c1 c2 c3 c4 c5 c6,w.cell? ⟨b,off,none⟩=some c0∧w.cell? ⟨b,off+1,none⟩=some c1∧w.cell? ⟨b,off+2,none⟩=some c2∧w.cell? ⟨b,off+3,none⟩=some c3∧w.cell? ⟨b,off+4,none⟩=some c4∧w.cell? ⟨b,off+5,none⟩=some c5∧w.cell? ⟨b,off+6,none⟩=some c6∧PRep w p (.agg #[c0,c1,c2,c3,c4,c5,c6]))∧PReps w b (off+7) ps
end
theorem PRep.def {w:World} {a:ByteArray} {f:Fm} {l r:List Fm} {ks:List Pf} {v:Value}:PRep w (.mk a f l r ks) v ↔ ∃ c0 c1 c2 vl vr sl cap,v = .agg #[.string a,c0,c1,c2,vl,vr,.slice sl ks.length cap]∧a.size≤maxLen∧Rep w (fun _=>True) f (.agg #[c0,c1,c2])∧FL w vl l∧FL w vr r∧ks.length≤cap∧cap≤maxLen∧(ks≠[]→∃ b off,sl=some ⟨b,off,none⟩∧PReps w b off ks):=by
 rw [PRep]
theorem PReps.nil {w:World} {b off:Nat}:PReps w b off []:=by rw [PReps];trivial
theorem PReps.cons {w:World} {b off:Nat} {p:Pf} {ps:List Pf}:PReps w b off (p :: ps) ↔ (∃ c0 c1 c2 c3 c4 c5 c6,w.cell? ⟨b,off,none⟩=some c0∧w.cell? ⟨b,off+1,none⟩=some c1∧w.cell? ⟨b,off+2,none⟩=some c2∧w.cell? ⟨b,off+3,none⟩=some c3∧w.cell? ⟨b,off+4,none⟩=some c4∧w.cell? ⟨b,off+5,none⟩=some c5∧w.cell? ⟨b,off+6,none⟩=some c6∧PRep w p (.agg #[c0,c1,c2,c3,c4,c5,c6]))∧PReps w b (off+7) ps:=by
 rw [PReps]
mutual
theorem PRep.up {w w':World} (hb:Below w.heap.size w w'):∀ (p:Pf) (v:Value),PRep w p v→PRep w' p v
 | .mk a f l r ks,v,h=>by
  rw [PRep.def] at h ⊢;obtain⟨c0,c1,c2,vl,vr,sl,cap,hv,ha,hf,hl,hr,h1,h2,h3⟩:=h;(refine⟨c0,c1,c2,vl,vr,sl,cap,hv,ha,hf.up hb,hl.up hb,hr.up hb,h1,h2,fun hne => ?_⟩);obtain⟨b,off,hs,hp⟩:=h3 hne;exact⟨b,off,hs,PReps.up hb b off ks hp⟩
theorem PReps.up {w w':World} (hb:Below w.heap.size w w') (b:Nat):∀ (off:Nat) (ps:List Pf),PReps w b off ps→PReps w' b off ps
 | _,[],_=>PReps.nil
 | off,p :: ps,h=>by
  rw [PReps.cons] at h ⊢;obtain⟨⟨c0,c1,c2,c3,c4,c5,c6,h0,h1,h2,h3,h4,h5,h6,hp⟩,hs⟩:=h;(have k:=fun (o:Nat) (c:Value) (h:w.cell? ⟨b,o,none⟩=some c)=>(hb.cell (p:=⟨b,o,none⟩) (QAI h)).trans h);exact⟨⟨c0,c1,c2,c3,c4,c5,c6,k _ _ h0,k _ _ h1,k _ _ h2,k _ _ h3,k _ _ h4,k _ _ h5,k _ _ h6,PRep.up hb p _ hp⟩,PReps.up hb b (off+7) ps hs⟩
end
theorem PReps.get {w:World} {b:Nat}:∀ {off:Nat} {ps:List Pf} (_:PReps w b off ps) (i:Nat) (p:Pf) (_:ps[i]? = some p),
  ∃ c0 c1 c2 c3 c4 c5 c6,w.cell? ⟨b,off+i * 7,none⟩=some c0∧w.cell? ⟨b,off+i * 7+1,none⟩=some c1∧w.cell? ⟨b,off+i * 7+2,none⟩=some c2∧w.cell? ⟨b,off+i * 7+3,none⟩=some c3∧w.cell? ⟨b,off+i * 7+4,none⟩=some c4∧w.cell? ⟨b,off+i * 7+5,none⟩=some c5∧w.cell? ⟨b,off+i * 7+6,none⟩=some c6∧PRep w p (.agg #[c0,c1,c2,c3,c4,c5,c6])
 | off,[],_,i,p,hp=>by simp at hp
 | off,q :: qs,h,i,p,hp=>by
  obtain⟨h1,h2⟩:=PReps.cons.1 h
  cases i with
  | zero=>simp at hp;subst hp;simpa using h1
  | succ i =>
   (have:=PReps.get h2 i p (by simpa using hp));(have e:off+7+i * 7=off+(i+1) * 7:=by omega)
   rwa [e] at this
theorem PRep.parts {w:World} {a:ByteArray} {k:Int} {n:ByteArray} {kf:List Fm} {l r:List Fm} {ks:List Pf} {v:Value} (h:PRep w (.mk a (.mk k n kf) l r ks) v) :
  ∃ sf cf al cl ar cr sl cap,v = .agg #[.string a,.int .i64 k,.string n,.slice sf kf.length cf,.slice al l.length cl,.slice ar r.length cr,.slice sl ks.length cap]∧a.size≤maxLen∧Rep w (fun _=>True) (.mk k n kf) (.agg #[.int .i64 k,.string n,.slice sf kf.length cf])∧FL w (.slice al l.length cl) l∧FL w (.slice ar r.length cr) r∧ks.length≤cap∧cap≤maxLen∧(ks≠[]→∃ b off,sl=some ⟨b,off,none⟩∧PReps w b off ks):=by
 obtain⟨c0,c1,c2,vl,vr,sl,cap,hv,ha,hf,hl,hr,h1,h2,h3⟩:=PRep.def.1 h;obtain⟨sf,cf,hfv⟩:=QAU hf;simp only [Value.agg.injEq,Array.mk.injEq,List.cons.injEq,and_true] at hfv;obtain⟨rfl,rfl,rfl⟩:=hfv;have hl':=hl;have hr':=hr;obtain⟨al,cl,rfl,-⟩:=hl;obtain⟨ar,cr,rfl,-⟩:=hr;exact⟨sf,cf,al,cl,ar,cr,sl,cap,hv,ha,hf,hl',hr',h1,h2,h3⟩
theorem PReps.at {w:World} {b off:Nat} {ps:List Pf} (h:PReps w b off ps) (i:Nat) (a:ByteArray) (k:Int) (n:ByteArray) (kf:List Fm) (l r:List Fm) (ks:List Pf) (hp:ps[i]? = some (.mk a (.mk k n kf) l r ks)) :
  ∃ sf cf al cl ar cr sl cap,w.cell? ⟨b,off+i * 7,none⟩=some (.string a)∧w.cell? ⟨b,off+i * 7+1,none⟩=some (.int .i64 k)∧w.cell? ⟨b,off+i * 7+2,none⟩=some (.string n)∧w.cell? ⟨b,off+i * 7+3,none⟩=some (.slice sf kf.length cf)∧w.cell? ⟨b,off+i * 7+4,none⟩=some (.slice al l.length cl)∧w.cell? ⟨b,off+i * 7+5,none⟩=some (.slice ar r.length cr)∧w.cell? ⟨b,off+i * 7+6,none⟩=some (.slice sl ks.length cap) ∧
   PRep w (.mk a (.mk k n kf) l r ks) (.agg #[.string a,.int .i64 k,.string n,.slice sf kf.length cf,.slice al l.length cl,.slice ar r.length cr,.slice sl ks.length cap]):=by
 obtain⟨c0,c1,c2,c3,c4,c5,c6,h0,h1,h2,h3,h4,h5,h6,hr⟩:=h.get i _ hp;obtain⟨sf,cf,al,cl,ar,cr,sl,cap,hv,-⟩:=hr.parts;simp only [Value.agg.injEq,Array.mk.injEq,List.cons.injEq,and_true] at hv;obtain⟨rfl,rfl,rfl,rfl,rfl,rfl,rfl⟩:=hv;exact⟨sf,cf,al,cl,ar,cr,sl,cap,h0,h1,h2,h3,h4,h5,h6,hr⟩
theorem QAa (w:World) (o o':Obj):((w.alloc o).alloc o').heap[w.heap.size+1]? = some o':=by
 have:=QAH (w.alloc o) o'
 rwa [show (w.alloc o).heap.size=w.heap.size+1 by simp] at this
theorem QBW (w:World) (o o' o'':Obj):(((w.alloc o).alloc o').alloc o'').heap[w.heap.size+1+1]? = some o'':=by
 have:=QAa (w.alloc o) o' o''
 rwa [show (w.alloc o).heap.size=w.heap.size+1 by simp] at this
theorem QED {l:List Fm} {i:Nat} {f:Fm} (h:l[i]? = some f):QAi (l.drop i) i=if f.pcode.1=0 then QAi (l.drop (i+1)) (i+1) else (f.pcode.1,(i:Nat)):=by
 have hi:i < l.length:=(List.getElem?_eq_some_iff.1 h).1;rw [List.drop_eq_getElem_cons hi,QAi];rw [List.getElem?_eq_getElem hi] at h;rw [Option.some.inj h]
set_option maxRecDepth 10000 in
set_option maxHeartbeats 4000000 in
theorem QHN (l r:List Fm) (hl4:l.length≤400) (hr4:r.length≤400) (v u:Value) (w:World) (hv:FL w v l) (hu:FL w u r) :
  Calls Tryz.prog 45 #[.agg #[v,u]] w fun e w'=>e = .returned (.agg #[.int .i64 (QAd l r).1,.int .i64 (QAd l r).2])∧Below w.heap.size w w':=by
 have HV:Hid (FL w v l):=hv;have HU:Hid (FL w u r):=hu;obtain⟨adV,cpV,rfl,hv1,hv2,-⟩:=hv;obtain⟨adU,cpU,rfl,hu1,hu2,-⟩:=hu;(have hlI:(l.length:Int)≤400:=by omega);(have hrI:(r.length:Int)≤400:=by omega);unfold QAd;by_cases hmany:60 < l.length+r.length
 ·rw [if_pos hmany]
  (have hmI:(60:Int) < (l.length:Int)+(r.length:Int):=by omega);clear HV HU hv1 hv2 hu1 hu2 hmany
  go_enter Tryz.func45,Tryz.ntmps45
  go_wp2_with fail;(exact bodyPost_ret (v := .agg #[.int .i64 2,.int .i64 0]) (by simp [results,Tryz.results45,go_sem]) rfl ⟨rfl,QAB (QAB (Below.refl _ w) _) _⟩)
 ·rw [if_neg hmany]
  (have hmI:¬ (60:Int) < (l.length:Int)+(r.length:Int):=by omega);(have hll:(l++r).length≤60:=by rw [List.length_append];omega);obtain⟨c,hc⟩:∃ c,c=l++r:=⟨_,rfl⟩;rw [← hc] at hll ⊢;have HC:Hid (c=l++r):=hc;clear hc;clear hmany hv1 hv2 hu1 hu2
  go_enter Tryz.func45,Tryz.ntmps45
  go_wp2_with fail;(refine (QJE w.heap.size l r hl4 hr4 _ _ _ _ (by simp;omega) (HV.out.low.up (QAB (QAB (QAB (Below.refl _ w) _) _) _)) (HU.out.low.up (QAB (QAB (QAB (Below.refl _ w) _) _) _)) (QBW w _ _ _)).mono ?_);rintro e w1 ⟨x,rfl,hF,hb1⟩;have q1:=QAA hb1 (QAG (QAa w (.cells #[.slice adV l.length cpV,.slice adU r.length cpU] 24 (0,0)) (.cells #[.int .i64 0,.int .i64 0] 35 (0,0))) (.cells #[.slice adV l.length cpV,.slice adU r.length cpU] 22 (0,0)));have HQ:Hid (w1.heap[w.heap.size+1]? = some (.cells #[.int .i64 0,.int .i64 0] 35 (0,0))):=q1;have B1:=QAC (QAB (QAB (QAB (Below.refl _ w) _) _) _) hb1;have z1:=QAE q1;have hF2:=hF.list;rw [← HC.out] at hF2;obtain⟨ad,cap,rfl,h1,h2,h3⟩:=hF2;(have H3:Hid (c≠[]→∃ b off,ad=some ⟨b,off,none⟩∧Reps w1 (fun _=>True) b off c):=h3);(have hcI:(c.length:Int)≤60:=by omega);clear h3 hF q1 hb1 HV HU;go_wp2_with fail
  go_loopg [22] c.length (fun g cc wr=>∃ i,i≤c.length∧g=c.length - i∧cc = .int .i64 (i:Nat)∧Below w1.heap.size w1 wr∧Hid (QAi (c.drop i) i=QAi c 0))
  case atStart=>exact⟨0,by omega,by omega,rfl,Below.refl _ _,by show _=_;simp⟩
  case round =>
   obtain⟨i,hi,hg,rfl,hbr,HN⟩:=hrel;have HG:Hid (gk=c.length - i):=hg;have zr:=hbr.size;clear hg;by_cases hlt:i < c.length
   ·obtain⟨⟨k2,n2,ks2⟩,hki⟩:∃ f,c[i]? = some f:=⟨_,List.getElem?_eq_getElem hlt⟩
    (obtain⟨b,off,rfl,hrs⟩:=H3.out (fun e=>by rw [e] at hlt;simp at hlt));obtain⟨sl2,cap2,g0,g1,g2,hrep2⟩:=(hrs.up hbr).at i k2 n2 ks2 hki;(have hltI:(i:Int) < (c.length:Int):=by omega);(have hlc:(i:Int) < (cap:Int):=by omega);have hds:=HN.out;rw [QED hki] at hds;(have hpl:=fun v (w:World) h=>QGI (.mk k2 n2 ks2) v w h);generalize (Fm.mk k2 n2 ks2).pcode=pc at hpl hds;(have HP:Hid (∀ v w,Rep w (fun _=>True) (.mk k2 n2 ks2) v→Calls Tryz.prog 89 #[v] w _):=hpl);(have HD:Hid ((if pc.1=0 then QAi (c.drop (i+1)) (i+1) else (pc.1,((i:Nat):Int)))=QAi c 0):=hds);obtain⟨pc1,pc2⟩:=pc;clear hki hrs H3 hds HN hpl;by_cases hp:pc1=0
    ·subst hp
     have HT:Hid (QAi (c.drop (i+1)) (i+1)=QAi c 0):=by
      have:=HD.out
      rwa [if_pos rfl] at this
     clear HD;go_wp2_with fail;refine (HP.out _ _ (hrep2.more _)).mono ?_;rintro e w2 ⟨rfl,hb2⟩;have B2:=QAC (QAB hbr _) hb2;clear g0 g1 g2 hb2;go_wp2_with fail
     go_roundg (c.length - (i+1))
     case measure=>have:=HG.out;omega
     case rel=>exact⟨i+1,by omega,rfl,by go_num,B2,HT⟩
    ·have HT:Hid (QAi c 0=(pc1,((i:Nat):Int))):=by
      have:=HD.out;rw [if_neg hp] at this;exact this.symm
     (have hne':(pc1 != 0)=true:=by simpa using hp);clear HD;go_wp2_with fail;refine (HP.out _ _ (hrep2.more _)).mono ?_;rintro e w2 ⟨rfl,hb2⟩;have B2:=QAC (QAB hbr _) hb2;have q2:=QAA B2 HQ.out;obtain⟨y1,y2,y3,y4⟩:=QAV q2;have z2:=QAE q2;clear g0 g1 g2 hb2;go_wp2_with fail;have f2:=QCO q2 (.int .i64 pc1) (.int .i64 (i:Nat));(have b2:=((QAC B1 B2).setCell (p:=⟨w.heap.size+1,0,none⟩) (by simp) (.int .i64 pc1)).setCell (p:=⟨w.heap.size+1,1,none⟩) (by simp) (.int .i64 (i:Nat)));generalize World.setCell _ _ _=F at f2 b2 ⊢;clear y1 y2 y3 y4;obtain⟨k1,k2,-⟩:=QAV f2;(exact bodyPost_ret (v := .agg #[.int .i64 pc1,.int .i64 (i:Nat)]) (by simp [results,Tryz.results45,go_sem,k1,k2]) rfl ⟨by rw [HT.out],b2⟩)
   ·have HT:Hid (QAi c 0=(0,0)):=by
     have:=HN.out;(rw [List.drop_of_length_le (by omega),QAi] at this);exact this.symm
    (have hge:¬ (i:Int) < (c.length:Int):=by omega);have q2:=QAA hbr HQ.out;obtain⟨y1,y2,y3,y4⟩:=QAV q2;clear H3 HN;go_wp2_with fail;have f2:=QCO q2 (.int .i64 0) (.int .i64 0);(have b2:=((QAC B1 hbr).setCell (p:=⟨w.heap.size+1,0,none⟩) (by simp) (.int .i64 0)).setCell (p:=⟨w.heap.size+1,1,none⟩) (by simp) (.int .i64 0));generalize World.setCell _ _ _=F at f2 b2 ⊢;clear y1 y2 y3 y4;obtain⟨k1,k2,-⟩:=QAV f2;(exact bodyPost_ret (v := .agg #[.int .i64 0,.int .i64 0]) (by simp [results,Tryz.results45,go_sem,k1,k2]) rfl ⟨by rw [HT.out],b2⟩)
theorem QAj {w:World} {b:Nat} {c0 c1 c2 c3 c4 c5 c6:Value} {T:TypeId} (h:w.heap[b]? = some (.cells #[c0,c1,c2,c3,c4,c5,c6] T (0,0))):w.cell? ⟨b,0,none⟩=some c0∧w.cell? ⟨b,1,none⟩=some c1∧w.cell? ⟨b,2,none⟩=some c2∧w.cell? ⟨b,3,none⟩=some c3∧w.cell? ⟨b,4,none⟩=some c4∧w.cell? ⟨b,5,none⟩=some c5∧w.cell? ⟨b,6,none⟩=some c6 :=
 ⟨QAL h 0,QAL h 1,QAL h 2,QAL h 3,QAL h 4,QAL h 5,QAL h 6⟩
def SQs (w:World) (v:Value) (ss:List (List Fm × List Fm)):Prop:=∃ ad cap,v = .slice ad ss.length cap∧ss.length≤cap∧cap≤maxLen∧(ss≠[]→∃ b off,ad=some ⟨b,off,none⟩∧∀ (j:Nat) (s:List Fm × List Fm),ss[j]? = some s→∃ vl vr,w.cell? ⟨b,off+j * 2,none⟩=some vl∧w.cell? ⟨b,off+j * 2+1,none⟩=some vr∧FL w vl s.1∧FL w vr s.2)
theorem SQs.up {w w':World} {v:Value} {ss:List (List Fm × List Fm)} (h:SQs w v ss) (hb:Below w.heap.size w w'):SQs w' v ss:=by
 obtain⟨ad,cap,h1,h2,h3,h4⟩:=h;(refine⟨ad,cap,h1,h2,h3,fun hne => ?_⟩);obtain⟨b,off,h5,h6⟩:=h4 hne;(refine⟨b,off,h5,fun j s hs => ?_⟩);obtain⟨vl,vr,h7,h8,h9,h10⟩:=h6 j s hs;exact⟨vl,vr,(hb.cell (p:=⟨b,off+j * 2,none⟩) (QAI h7)).trans h7,(hb.cell (p:=⟨b,off+j * 2+1,none⟩) (QAI h8)).trans h8,h9.up hb,h10.up hb⟩
theorem SQs.nil {w:World}:SQs w (.slice none 0 0) []:=⟨none,0,rfl,Nat.le_refl _,by simp,fun h=>absurd rfl h⟩
theorem SQs.one {w:World} {b:Nat} {T:TypeId} {vl vr:Value} {s:List Fm × List Fm} (hb:w.heap[b]? = some (.cells #[vl,vr] T (0,0))) (h1:FL w vl s.1) (h2:FL w vr s.2):SQs w (.slice (some ⟨b,0,none⟩) 1 1) [s]:=by
 (refine⟨_,1,rfl,Nat.le_refl _,by simp [maxLen],fun _=>⟨b,0,rfl,fun j t ht => ?_⟩⟩)
 cases j with
 | zero=>simp at ht;subst ht;exact⟨vl,vr,QAL hb 0,QAL hb 1,h1,h2⟩
 | succ j=>simp at ht
theorem SQs.two {w:World} {b:Nat} {T:TypeId} {vl vr vl' vr':Value} {s s':List Fm × List Fm} (hb:w.heap[b]? = some (.cells #[vl,vr,vl',vr'] T (0,0))) (h1:FL w vl s.1) (h2:FL w vr s.2) (h3:FL w vl' s'.1) (h4:FL w vr' s'.2):SQs w (.slice (some ⟨b,0,none⟩) 2 2) [s,s']:=by
 (refine⟨_,2,rfl,Nat.le_refl _,by simp [maxLen],fun _=>⟨b,0,rfl,fun j t ht => ?_⟩⟩)
 rcases j with _|_|j
 ·simp at ht;subst ht;exact⟨vl,vr,QAL hb 0,QAL hb 1,h1,h2⟩
 ·simp at ht;subst ht;exact⟨vl',vr',QAL hb 2,QAL hb 3,h3,h4⟩
 ·simp at ht
theorem FL.sing {w:World} {b:Nat} {T:TypeId} {c0 c1 c2:Value} {f:Fm} (hb:w.heap[b]? = some (.cells #[c0,c1,c2] T (0,0))) (h:Rep w (fun _=>True) f (.agg #[c0,c1,c2])):FL w (.slice (some ⟨b,0,none⟩) 1 1) [f] :=
 ⟨_,1,rfl,Nat.le_refl _,by simp [maxLen],fun _=>⟨b,0,rfl,Reps.cons.2 ⟨⟨c0,c1,c2,QAL hb 0,QAL hb 1,QAL hb 2,h⟩,Reps.nil⟩⟩⟩
theorem FL.duo {w:World} {b:Nat} {T:TypeId} {c0 c1 c2 c3 c4 c5:Value} {f g:Fm} (hb:w.heap[b]? = some (.cells #[c0,c1,c2,c3,c4,c5] T (0,0))) (h:Rep w (fun _=>True) f (.agg #[c0,c1,c2])) (h':Rep w (fun _=>True) g (.agg #[c3,c4,c5])):FL w (.slice (some ⟨b,0,none⟩) 2 2) [f,g] :=
 ⟨_,2,rfl,Nat.le_refl _,by simp [maxLen],fun _=>⟨b,0,rfl,Reps.cons.2 ⟨⟨c0,c1,c2,QAL hb 0,QAL hb 1,QAL hb 2,h⟩,Reps.cons.2 ⟨⟨c3,c4,c5,QAL hb 3,QAL hb 4,QAL hb 5,h'⟩,Reps.nil⟩⟩⟩⟩
def kEq (x:Value):Value→World→Prop:=fun v _=>v=x
def kFL (l:List Fm):Value→World→Prop:=fun v w=>∃ ad m cap,v = .slice ad m cap∧FL w (.slice ad m cap) l
def kSQ (s:List Fm × List Fm):Value→World→Prop:=fun v w=>∃ ad m cap ad' m' cap',v = .agg #[.slice ad m cap,.slice ad' m' cap']∧FL w (.slice ad m cap) s.1∧FL w (.slice ad' m' cap') s.2
def QBR (ss:List (List Fm × List Fm)):Value→World→Prop:=fun v w=>SQs w v ss
theorem QAe (x:Value):QDF (kEq x):=fun _ _ _ h _=>h
theorem QBC (l:List Fm):QDF (kFL l):=fun _ _ _ h hb=>by
 obtain⟨ad,m,cap,hv,hl⟩:=h;exact⟨ad,m,cap,hv,hl.up hb⟩
theorem QBE (s:List Fm × List Fm):QDF (kSQ s):=fun _ _ _ h hb=>by
 obtain⟨ad,m,cap,ad',m',cap',hv,h1,h2⟩:=h;exact⟨ad,m,cap,ad',m',cap',hv,h1.up hb,h2.up hb⟩
theorem QAq (ss:List (List Fm × List Fm)):QDF (QBR ss):=fun _ _ _ h hb=>SQs.up h hb
theorem QAk {l:List Fm} {w:World} {x:Value} (h:FL w x l):kFL l x w:=by
 have h':=h;obtain⟨ad,cap,rfl,-⟩:=h;exact⟨ad,_,cap,rfl,h'⟩
theorem QCT {w:World} {b:Nat} {c0 c1 c2 c3 c4 c5 c6:Value} {T:TypeId} (h:w.heap[b]? = some (.cells #[c0,c1,c2,c3,c4,c5,c6] T (0,0))):w.frozen? ⟨b,0,none⟩=false∧w.frozen? ⟨b,1,none⟩=false∧w.frozen? ⟨b,2,none⟩=false∧w.frozen? ⟨b,3,none⟩=false∧w.frozen? ⟨b,4,none⟩=false∧w.frozen? ⟨b,5,none⟩=false∧w.frozen? ⟨b,6,none⟩=false :=
 ⟨QAh h 0,QAh h 1,QAh h 2,QAh h 3,QAh h 4,QAh h 5,QAh h 6⟩
theorem QHh {k:Int} {n:ByteArray} {kf:List Fm}:Fm.mk k n kf = .mk 0 ⟨#[]⟩ [] ↔ k=0∧n.data.toList=[]∧kf=[]:=by
 constructor
 ·intro h
  injection h with h1 h2 h3
  (exact⟨h1,by rw [h2],h3⟩)
 ·rintro ⟨h1,h2,h3⟩
  (have:n=⟨#[]⟩:=by apply ByteArray.ext;apply Array.ext';exact h2);rw [h1,this,h3]
theorem QEP {f:Fm} {l r:List Fm} {ks:List Pf} (h:¬ f = .mk 0 ⟨#[]⟩ []):QDT f l r ks=5:=by
 unfold QDT;rw [if_neg h]
theorem QLu {l r:List Fm} {k:Pf}:QDT (.mk 0 ⟨#[]⟩ []) l r [k]=if QBB k.l l && QBB k.r r then 0 else 7:=by
 unfold QDT;rw [if_pos rfl]
theorem QKC {l r:List Fm} {ks:List Pf} (h:¬ ks.length=1):QDT (.mk 0 ⟨#[]⟩ []) l r ks=9:=by
 unfold QDT;rw [if_pos rfl]
 split
 ·exact absurd rfl h
 ·rfl
mutual
def Pf.size:Pf→Nat
 | .mk _ _ _ _ ks=>Pf.sizes ks+1
def Pf.sizes:List Pf→Nat
 | []=>0
 | k :: ks=>k.size+Pf.sizes ks
end
theorem QDB:∀ {ks:List Pf} {i:Nat} {k:Pf},ks[i]? = some k→k.size≤Pf.sizes ks
 | [],i,k,h=>by simp at h
 | x :: ks,0,k,h=>by simp at h;subst h;rw [Pf.sizes];omega
 | x :: ks,i+1,k,h=>by
  (have:=QDB (ks:=ks) (i:=i) (k:=k) (by simpa using h));rw [Pf.sizes];omega
def QNs:Nat→Pf→Prop
 | 0,_=>True
 | n+1,.mk _ _ l r ks=>l.length≤300∧r.length≤300∧ks.length≤1200∧∀ k∈ks,QNs n k
def SmallP (p:Pf):Prop:=∀ n,QNs n p
theorem SmallP.parts {a:ByteArray} {f:Fm} {l r:List Fm} {ks:List Pf} (h:SmallP (.mk a f l r ks)):l.length≤300∧r.length≤300∧ks.length≤1200∧∀ k∈ks,SmallP k :=
 ⟨(h 1).1,(h 1).2.1,(h 1).2.2.1,fun k hk n=>(h (n+1)).2.2.2 k hk⟩
theorem QDn (i:Bool) (a:ByteArray) (f:Fm) (l r:List Fm) (ks:List Pf) (deep steps cuts:Nat):QCI i (.mk a f l r ks) deep steps cuts =
  if steps=20000∨400 < deep then ((2,0),steps,cuts)
  else if QBa i (.mk a f l r ks)≠0 then ((QBa i (.mk a f l r ks),((steps:Nat):Int)),steps+1,cuts)
  else looks i ks (deep+1) (steps+1) (if a.data.toList=Ru.cut.text then cuts+1 else cuts):=by rw [QCI]
mutual
theorem QKQ (i:Bool):∀ (p:Pf) (d s c:Nat),s≤20000→c≤s→(QCI i p d s c).2.1≤20000∧(QCI i p d s c).2.2≤(QCI i p d s c).2.1
 | .mk a f l r ks,d,s,c,hs,hc=>by
  rw [QDn]
  split
  ·exact⟨hs,hc⟩
  ·split
   ·exact⟨by show s+1≤20000;omega,by show c≤s+1;omega⟩
   ·exact looks_le i ks (d+1) (s+1) _ (by omega) (by split <;> omega)
theorem looks_le (i:Bool):∀ (ks:List Pf) (d s c:Nat),s≤20000→c≤s→(looks i ks d s c).2.1≤20000∧(looks i ks d s c).2.2≤(looks i ks d s c).2.1
 | [],d,s,c,hs,hc=>by rw [looks];exact⟨hs,hc⟩
 | k :: ks,d,s,c,hs,hc=>by
  have hk:=QKQ i k d s c hs hc;rw [looks]
  split
  ·exact hk
  ·exact looks_le i ks d _ _ hk.1 hk.2
end
mutual
def Pf.deep:Pf→Nat
 | .mk _ _ _ _ ks=>Pf.deeps ks+1
def Pf.deeps:List Pf→Nat
 | []=>0
 | k :: ks=>max k.deep (Pf.deeps ks)
end
theorem QDD:∀ (l:List Fm) (i:Nat),(∀ f∈l,f.pcode.1=0)→QAi l i=(0,0)
 | [],_,_=>rfl
 | f :: l,i,h=>by
  rw [QAi,if_pos (h f List.mem_cons_self)];(exact QDD l (i+1) fun g hg=>h g (List.mem_cons_of_mem _ hg))
theorem QEV:∀ (l:List Fm) (i:Nat),(QAi l i).1=0→∀ f∈l,f.pcode.1=0
 | [],_,_,f,hf=>by cases hf
 | g :: l,i,h,f,hf=>by
  rw [QAi] at h
  split at h
  ·rename_i hg
   rcases List.mem_cons.1 hf with rfl|hf
   ·exact hg
   ·exact QEV l (i+1) h f hf
  ·rename_i hg
   exact absurd h hg
theorem QCN {l r:List Fm} (h:(QAd l r).1=0):l.length+r.length≤60∧∀ f∈l++r,f.pcode.1=0:=by
 unfold QAd at h
 split at h
 ·cases h
 ·exact⟨by omega,QEV _ _ h⟩
mutual
theorem QGZ (i:Bool):∀ (p:Pf) (d s c:Nat),(QCI i p d s c).1.1=0→(QCI i p d s c).2.1=s+p.size∧d+p.deep≤401
 | .mk a g l r ks,d,s,c,h=>by
  rw [QDn] at h ⊢
  split at h
  ·cases h
  ·rename_i h1
   rw [if_neg h1]
   split at h
   ·rename_i h2
    exact absurd h h2
   ·rename_i h2
    rw [if_neg h2];obtain⟨h3,h4⟩:=looks_size i ks _ _ _ h;rw [h3,Pf.size,Pf.deep];omega
theorem looks_size (i:Bool):∀ (ks:List Pf) (d s c:Nat),(looks i ks d s c).1.1=0→(looks i ks d s c).2.1=s+Pf.sizes ks∧(d≤401→d+Pf.deeps ks≤401)
 | [],d,s,c,h=>by rw [looks,Pf.sizes,Pf.deeps];exact⟨by simp,fun h=>by omega⟩
 | k :: ks,d,s,c,h=>by
  rw [looks] at h ⊢
  split at h
  ·rename_i hn
   exact absurd h hn
  ·rename_i hn
   (have hn':(QCI i k d s c).1.1=0:=Classical.byContradiction fun e=>hn e);rw [if_neg hn];obtain⟨h1,h2⟩:=QGZ i k d s c hn';obtain⟨h3,h4⟩:=looks_size i ks _ _ _ h;rw [h3,h1,Pf.sizes,Pf.deeps];(exact⟨by omega,fun hd=>by have:=h4 hd;omega⟩)
end
end Go.Proofs.YtbmedfokpgghiacGreat
