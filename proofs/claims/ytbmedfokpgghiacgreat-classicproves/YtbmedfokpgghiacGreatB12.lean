import Derived.Test.YtbmedfokpgghiacGreatB09
import Derived.Test.YtbmedfokpgghiacGreatB10
import Derived.Test.YtbmedfokpgghiacGreatB03
import Derived.Sort.OwnSorted
import Derived.Deep.DeepCutAuto
import Derived.Test.YtbmedfokpgghiacGreatB01
namespace Go.Proofs.YtbmedfokpgghiacGreat
open Go.RowKit
def QGc:List Fm→List ByteArray
 | []=>[]
 | .mk k n _ :: fs=>if k=1 then n :: QGc fs else QGc fs
theorem QEJ {ok:Nat→Prop} {w w':World} {ob:Option Nat} (h:w.grownBy w' ob) (hi:∀ k,ok k→ob≠some k):Kept ok w w' :=
 ⟨h.os,h.tape,h.output,h.size,fun k hk ho=>h.block k hk (fun e=>hi k ho e.symm)⟩
open Go.RowKit Go.Sort
abbrev srt (ss:List (List UInt8)):List (List UInt8):=ss.mergeSort fun x y=>decide (x≤y)
def TL (w:World) (v:Value) (l:List (List UInt8)):Prop:=∃ ad cap,v = .slice ad l.length cap∧l.length≤cap∧cap≤maxLen∧(l≠[]→∃ g,ad=some ⟨g,0,none⟩∧∀ (j:Nat) (t:List UInt8),l[j]? = some t→w.cell? ⟨g,j,none⟩=some (.string ⟨t.toArray⟩))
theorem TL.up {w w':World} {v:Value} {l:List (List UInt8)} (h:TL w v l) (hb:Below w.heap.size w w'):TL w' v l:=by
 obtain⟨ad,cap,h1,h2,h3,h4⟩:=h;(refine⟨ad,cap,h1,h2,h3,fun hne => ?_⟩);obtain⟨g,h5,h6⟩:=h4 hne
 exact⟨g,h5,fun j t ht=>by
  have:=h6 j t ht;rw [hb.cell (p:=⟨g,j,none⟩) (QAI this)]
  exact this⟩
def QEK (f:Fm):List (List UInt8):=(QGc (QBx f)).map (·.data.toList)
theorem QOS (a b:List UInt8):((⟨a.toArray⟩:ByteArray).toList=(⟨b.toArray⟩:ByteArray).toList) ↔ a=b:=by
 rw [ByteArray.toList_eq,ByteArray.toList_eq]
set_option maxHeartbeats 1000000 in
theorem QGb (n:ByteArray) (w:World) :
  Calls Tryz.prog 42 #[.string n] w fun e w'=>e = .returned (.agg #[.int .i64 1,.string n,.slice none 0 0])∧Below w.heap.size w w':=by
 have B:=(Below.refl w.heap.size w).alloc (Nat.le_refl _)
 go_enter Tryz.func42,Tryz.ntmps42
 go_wp2_with fail;(exact bodyPost_ret (v := .agg #[.int .i64 1,.string n,.slice none 0 0]) (by simp [results,Tryz.results42,go_sem]) rfl ⟨rfl,B _⟩)
theorem QGM {f:Fm} (h:f.code.1=0):f.code=(0,0):=by
 rcases hx:chk f 0 with s|⟨c,a⟩
 ·simp only [Fm.code,hx]
 ·have:=QDi f 0 c a hx
  simp only [Fm.code,hx] at h;exact absurd h this
theorem QMP {f:Fm} (h:f.code=(0,0)):∃ s,chk f 0 = .ok s:=by
 rcases hx:chk f 0 with s|⟨c,a⟩
 ·exact⟨s,rfl⟩
 ·have:=QDi f 0 c a hx
  simp only [Fm.code,hx] at h;exact absurd (Prod.mk.inj h).1 this
set_option maxHeartbeats 1000000 in
theorem QJr (l:List (List UInt8)) (v u:Value) (w:World) (h:TL w v l) (h':TL w u l) :
  Calls Tryz.prog 44 #[v,u] w fun e w'=>e = .returned (.bool true)∧Below w.heap.size w w':=by
 obtain⟨ad,cap,rfl,h1,h2,h3⟩:=h;obtain⟨ad',cap',rfl,h1',h2',h3'⟩:=h';(have hlI:(l.length:Int)≤9223372036854775807:=by unfold maxLen at h2;omega);have H3:Hid (l≠[]→∃ g,ad=some ⟨g,0,none⟩∧∀ (j:Nat) (t:List UInt8),l[j]? = some t→w.cell? ⟨g,j,none⟩=some (.string ⟨t.toArray⟩)):=h3;have H4:Hid (l≠[]→∃ g,ad'=some ⟨g,0,none⟩∧∀ (j:Nat) (t:List UInt8),l[j]? = some t→w.cell? ⟨g,j,none⟩=some (.string ⟨t.toArray⟩)):=h3';clear h3 h3'
 go_enter Tryz.func44,Tryz.ntmps44
 go_wp2_with fail
 go_loopg [5] l.length (fun g c wr=>∃ i,i≤l.length∧g=l.length - i∧c = .int .i64 (i:Nat)∧Below w.heap.size w wr∧(∀ a:Addr,wr.cell? a=w.cell? a))
 case atStart=>exact⟨0,by omega,by omega,rfl,Below.refl _ _,fun _=>rfl⟩
 case round =>
  obtain⟨i,hi,hg,rfl,hbr,hce⟩:=hrel;have HG:Hid (gk=l.length - i):=hg;have HCe:Hid (∀ a:Addr,wr.cell? a=w.cell? a):=hce;clear hg hce;by_cases hlt:i < l.length
  ·obtain⟨x,hx⟩:∃ x,l[i]? = some x:=⟨_,List.getElem?_eq_getElem hlt⟩
   (obtain⟨g,rfl,hc⟩:=H3.out (fun e=>by rw [e] at hlt;simp at hlt));(obtain⟨g',rfl,hc'⟩:=H4.out (fun e=>by rw [e] at hlt;simp at hlt));have g0:=(HCe.out _).trans (hc i x hx);have g1:=(HCe.out _).trans (hc' i x hx);(have hltI:(i:Int) < (l.length:Int):=by omega);(have hlc:(i:Int) < (cap:Int):=by omega);(have hlc':(i:Int) < (cap':Int):=by omega);clear hc hc' hx H3 H4;generalize (⟨x.toArray⟩:ByteArray)=X at *;go_wp2_with fail
   go_quiet (fail)
   go_wp2_with fail
   go_roundg (l.length - (i+1))
   case measure=>have:=HG.out;omega
   case rel=>exact⟨i+1,by omega,rfl,by go_num,⟨hbr.os,hbr.tape,hbr.output,hbr.size,hbr.block⟩,fun a=>HCe.out a⟩
  ·have hge:¬ (i:Int) < (l.length:Int):=by omega
   clear H3 H4;go_wp2_with fail;go_ret;exact⟨rfl,hbr⟩
def FL (w:World) (v:Value) (fs:List Fm):Prop:=∃ ad cap,v = .slice ad fs.length cap∧fs.length≤cap∧cap≤maxLen∧(fs≠[]→∃ b off,ad=some ⟨b,off,none⟩∧Reps w (fun _=>True) b off fs)
theorem FL.up {w w':World} {v:Value} {fs:List Fm} (h:FL w v fs) (hb:Below w.heap.size w w'):FL w' v fs:=by
 obtain⟨ad,cap,h1,h2,h3,h4⟩:=h;(refine⟨ad,cap,h1,h2,h3,fun hne => ?_⟩);obtain⟨b,off,h5,h6⟩:=h4 hne;exact⟨b,off,h5,h6.up hb⟩
set_option maxHeartbeats 2000000 in
theorem QFS (fs:List Fm) (v u:Value) (w:World) (h:FL w v fs) (h':FL w u fs) :
  Calls Tryz.prog 12 #[v,u] w fun e w'=>e = .returned (.bool true)∧Below w.heap.size w w':=by
 obtain⟨ad,cap,rfl,h1,h2,h3⟩:=h;obtain⟨ad',cap',rfl,h1',h2',h3'⟩:=h';(have hlI:(fs.length:Int)≤9223372036854775807:=by unfold maxLen at h2;omega);(have H3:Hid (fs≠[]→∃ b off,ad=some ⟨b,off,none⟩∧Reps w (fun _=>True) b off fs):=h3);(have H4:Hid (fs≠[]→∃ b off,ad'=some ⟨b,off,none⟩∧Reps w (fun _=>True) b off fs):=h3');clear h3 h3'
 go_enter Tryz.func12,Tryz.ntmps12
 go_wp2_with fail
 go_loopg [5] fs.length (fun g c wr=>∃ i,i≤fs.length∧g=fs.length - i∧c = .int .i64 (i:Nat)∧Below w.heap.size w wr)
 case atStart=>exact⟨0,by omega,by omega,rfl,Below.refl _ _⟩
 case round =>
  obtain⟨i,hi,hg,rfl,hbr⟩:=hrel;have HG:Hid (gk=fs.length - i):=hg;clear hg;by_cases hlt:i < fs.length
  ·obtain⟨⟨k2,n2,ks2⟩,hki⟩:∃ f,fs[i]? = some f:=⟨_,List.getElem?_eq_getElem hlt⟩
   (obtain⟨b,off,rfl,hrs⟩:=H3.out (fun e=>by rw [e] at hlt;simp at hlt));(obtain⟨b',off',rfl,hrs'⟩:=H4.out (fun e=>by rw [e] at hlt;simp at hlt));obtain⟨sl2,cap2,g0,g1,g2,hrep2⟩:=(hrs.up hbr).at i k2 n2 ks2 hki;obtain⟨sl3,cap3,p0,p1,p2,hrep3⟩:=(hrs'.up hbr).at i k2 n2 ks2 hki;(have hltI:(i:Int) < (fs.length:Int):=by omega);(have hlc:(i:Int) < (cap:Int):=by omega);(have hlc':(i:Int) < (cap':Int):=by omega);have zb:=QAI g0;have zb':=QAI p0;have zz:=hbr.size;(have HS:Hid (∀ v u w,_→_→Calls Tryz.prog 53 #[v,u] w _):=fun v u w h1 h2=>QLX (.mk k2 n2 ks2) v u w h1 h2);simp only at zb zb';clear hki hrs hrs' H3 H4;go_wp2_with fail
   go_region_held3 (fun w'=>w'.cell? ⟨b,off+i * 3,none⟩=some (.int .i64 k2)∧w'.cell? ⟨b,off+i * 3+1,none⟩=some (.string n2)∧w'.cell? ⟨b,off+i * 3+2,none⟩=some (.slice sl2 ks2.length cap2)∧w'.cell? ⟨b',off'+i * 3,none⟩=some (.int .i64 k2)∧w'.cell? ⟨b',off'+i * 3+1,none⟩=some (.string n2)∧w'.cell? ⟨b',off'+i * 3+2,none⟩=some (.slice sl3 ks2.length cap3)) (go_keep)
    (
     first
     | (
      go_at_call 53
      refine (HS.out _ _ _ (hrep2.up (Below.refl _ _).drew) (hrep3.up (Below.refl _ _).drew)).mono ?_;rintro e w1 ⟨rfl,hb1⟩;have c3:=(hb1.cell (p:=⟨b,off+i * 3,none⟩) zb).trans g0;have c4:=(hb1.cell (p:=⟨b,off+i * 3+1,none⟩) zb).trans g1;have c5:=(hb1.cell (p:=⟨b,off+i * 3+2,none⟩) zb).trans g2;have c6:=(hb1.cell (p:=⟨b',off'+i * 3,none⟩) zb').trans p0;have c7:=(hb1.cell (p:=⟨b',off'+i * 3+1,none⟩) zb').trans p1
      have c8:=(hb1.cell (p:=⟨b',off'+i * 3+2,none⟩) zb').trans p2)
     | fail)
   have hbb:Below w.heap.size w w1:=hbr.drew.trans (hb1.mono zz);go_wp2_with fail
   go_roundg (fs.length - (i+1))
   case measure=>have:=HG.out;omega
   case rel=>exact⟨i+1,by omega,rfl,by go_num,hbb⟩
  ·have hge:¬ (i:Int) < (fs.length:Int):=by omega
   clear H3 H4;go_wp2_with fail;go_ret;exact⟨rfl,hbr⟩
def QBJ (f:Fm) (fs:List Fm):Bool:=fs.any fun g=>QBN g f
set_option maxHeartbeats 2000000 in
theorem QBn (fs:List Fm) (f:Fm) (v u:Value) (w:World) (h:FL w v fs) (hu:Rep w (fun _=>True) f u) :
  Calls Tryz.prog 122 #[v,u] w fun e w'=>e = .returned (.bool (QBJ f fs))∧Below w.heap.size w w':=by
 obtain⟨ad,cap,rfl,h1,h2,h3⟩:=h;obtain⟨kf,nf,ksf⟩:=f;obtain⟨slf,capf,rfl⟩:=QAU hu;(have hlI:(fs.length:Int)≤9223372036854775807:=by unfold maxLen at h2;omega);(have H3:Hid (fs≠[]→∃ b off,ad=some ⟨b,off,none⟩∧Reps w (fun _=>True) b off fs):=h3);clear h3
 go_enter Tryz.func122,Tryz.ntmps122
 go_wp2_with fail
 go_loopg [5] fs.length (fun g c wr=>∃ i,i≤fs.length∧g=fs.length - i∧c = .int .i64 (i:Nat)∧Below w.heap.size w wr∧wr.heap[w.heap.size]? = some (.cells #[.int .i64 kf,.string nf,.slice slf ksf.length capf] 29 (0,0))∧Hid (QBJ (.mk kf nf ksf) (fs.take i)=false))
 case atStart=>exact⟨0,by omega,by omega,rfl,(Below.refl _ _).alloc (Nat.le_refl _) _,QAH _ _,by show _=_;rfl⟩
 case round =>
  obtain⟨i,hi,hg,rfl,hbr,q0,HN⟩:=hrel;have HG:Hid (gk=fs.length - i):=hg;clear hg;obtain⟨e0,e1,e2,-⟩:=QAb q0;have z0:=QAE q0;by_cases hlt:i < fs.length
  ·obtain⟨⟨k2,n2,ks2⟩,hki⟩:∃ f,fs[i]? = some f:=⟨_,List.getElem?_eq_getElem hlt⟩
   (obtain⟨b,off,rfl,hrs⟩:=H3.out (fun e=>by rw [e] at hlt;simp at hlt));obtain⟨sl2,cap2,g0,g1,g2,hrep2⟩:=(hrs.up hbr).at i k2 n2 ks2 hki;(have hltI:(i:Int) < (fs.length:Int):=by omega);(have hlc:(i:Int) < (cap:Int):=by omega);have zb:=QAI g0;have zz:=hbr.size;have hrepf:=hu.up hbr;(have hsm:=fun v u w h1 h2=>QEe (.mk k2 n2 ks2) (.mk kf nf ksf) v u w h1 h2)
   have hnx:QBJ (.mk kf nf ksf) (fs.take (i+1))=(QBJ (.mk kf nf ksf) (fs.take i) || QBN (.mk k2 n2 ks2) (.mk kf nf ksf)):=by
    unfold QBJ;rw [List.take_add_one,hki,List.any_append]
    simp
   (have hin:QBN (.mk k2 n2 ks2) (.mk kf nf ksf)=true→QBJ (.mk kf nf ksf) fs=true:=fun h=>List.any_eq_true.2 ⟨_,List.mem_of_getElem? hki,h⟩);simp only at zb;generalize hbb:QBN (.mk k2 n2 ks2) (.mk kf nf ksf)=bb at hsm hnx hin;have HS:Hid (∀ v u w,_→_→Calls Tryz.prog 53 #[v,u] w _):=hsm
   have HX:Hid (QBJ (.mk kf nf ksf) (fs.take (i+1))=bb):=by
    show _=_;rw [hnx,HN.out,Bool.false_or]
   have HI:Hid (bb=true→QBJ (.mk kf nf ksf) fs=true):=hin;clear hki hrs H3 hsm hnx hin hbb;go_wp2_with fail
   go_region_held3 (fun w'=>w'.cell? ⟨b,off+i * 3,none⟩=some (.int .i64 k2)∧w'.cell? ⟨b,off+i * 3+1,none⟩=some (.string n2)∧w'.cell? ⟨b,off+i * 3+2,none⟩=some (.slice sl2 ks2.length cap2)∧w'.cell? ⟨w.heap.size,0,none⟩=some (.int .i64 kf)∧w'.cell? ⟨w.heap.size,1,none⟩=some (.string nf)∧w'.cell? ⟨w.heap.size,2,none⟩=some (.slice slf ksf.length capf)) (go_keep)
    (
     first
     | (
      go_at_call 53
      refine (HS.out _ _ _ (hrep2.up (Below.refl _ _).drew) (hrepf.up (Below.refl _ _).drew)).mono ?_;rintro e w1 ⟨rfl,hb1⟩;have c3:=(hb1.cell (p:=⟨b,off+i * 3,none⟩) zb).trans g0;have c4:=(hb1.cell (p:=⟨b,off+i * 3+1,none⟩) zb).trans g1;have c5:=(hb1.cell (p:=⟨b,off+i * 3+2,none⟩) zb).trans g2;have c6:=(hb1.cell (p:=⟨w.heap.size,0,none⟩) z0).trans e0;have c7:=(hb1.cell (p:=⟨w.heap.size,1,none⟩) z0).trans e1
      have c8:=(hb1.cell (p:=⟨w.heap.size,2,none⟩) z0).trans e2)
     | fail)
   have hb2:Below w.heap.size w w1:=hbr.drew.trans (hb1.mono zz);have q1:=(hb1.block _ z0).trans q0;clear c3 c4 c5 c6 c7 c8
   cases bb
   ·go_wp2_with fail
    go_roundg (fs.length - (i+1))
    case measure=>have:=HG.out;omega
    case rel=>exact⟨i+1,by omega,rfl,by go_num,hb2,q1,HX⟩
   ·have HT:Hid (QBJ (.mk kf nf ksf) fs=true):=HI.out rfl
    clear HI HX;go_wp2_with fail;go_ret;(exact⟨by rw [HT.out];rfl,hb2⟩)
  ·have HT:Hid (QBJ (.mk kf nf ksf) fs=false):=by
    have:=HN.out;(rw [List.take_of_length_le (by omega)] at this);exact this
   (have hge:¬ (i:Int) < (fs.length:Int):=by omega);clear H3 HN;go_wp2_with fail;go_ret;(exact⟨by rw [HT.out];rfl,hbr⟩)
open Go.Sort
abbrev QHF (l:List (List UInt8)):Prop:=l.Pairwise (· < ·)
theorem QJP (a:List UInt8):¬ a < a:=List.lt_irrefl a
theorem QOE {a b:List UInt8} (h:a < b):¬ b < a:=fun k=>QJP a (List.lt_trans h k)
theorem QOF (a b:List UInt8):a < b∨a=b∨b < a:=by
 rcases Classical.em (a < b) with h|h
 ·exact Or.inl h
 ·rcases Classical.em (b < a) with k|k
  ·exact Or.inr (Or.inr k)
  ·exact Or.inr (Or.inl (List.le_antisymm (List.not_lt.1 k) (List.not_lt.1 h)))
theorem QFt:∀ {l m:List (List UInt8)},QHF l→QHF m→(∀ t,t∈l ↔ t∈m)→l=m
 | [],[],_,_,_=>rfl
 | [],b :: m,_,_,h=>absurd ((h b).2 (List.mem_cons_self ..)) (by simp)
 | a :: l,[],_,_,h=>absurd ((h a).1 (List.mem_cons_self ..)) (by simp)
 | a :: l,b :: m,hl,hm,h=>by
  obtain⟨hl1,hl2⟩:=List.pairwise_cons.1 hl;obtain⟨hm1,hm2⟩:=List.pairwise_cons.1 hm
  have hab:a=b:=by
   rcases List.mem_cons.1 ((h a).1 (List.mem_cons_self ..)) with e|e
   ·exact e
   ·rcases List.mem_cons.1 ((h b).2 (List.mem_cons_self ..)) with k|k
    ·exact k.symm
    ·exact absurd (hl1 b k) (QOE (hm1 a e))
  subst hab
  congr 1
  (refine QFt hl2 hm2 fun t=>⟨fun ht => ?_,fun ht => ?_⟩)
  ·rcases List.mem_cons.1 ((h t).1 (List.mem_cons_of_mem _ ht)) with e|e
   ·subst e;exact absurd (hl1 t ht) (QJP t)
   ·exact e
  ·rcases List.mem_cons.1 ((h t).2 (List.mem_cons_of_mem _ ht)) with e|e
   ·subst e;exact absurd (hm1 t ht) (QJP t)
   ·exact e
end Go.Proofs.YtbmedfokpgghiacGreat
