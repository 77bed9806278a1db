import Derived.Test.YtffkoiemnchdgadGreatB07
import Derived.Test.YtffkoiemnchdgadGreatB08
import Derived.Test.YtffkoiemnchdgadGreatB10
import Derived.Deep.RegionLaw
import Derived.Shelf.Sort.Plain
import Derived.Shelf.Slices.CompactS
import Derived.Shelf.Slices.In.SortNone
import Derived.Test.YtffkoiemnchdgadGreatProg
import Derived.Sort.OwnSorted
namespace Go.Proofs.YtffkoiemnchdgadGreat
open Go.RowKit
def FL (w:World) (v:Value) (fs:List Fm):Prop:=∃ ad cap,v = .slice ad fs.length cap∧fs.length≤cap∧cap≤maxLen∧(fs≠[]→∃ b off,ad=some ⟨b,off,none⟩∧Reps w (fun _=>True) b off fs)
theorem FL.up {w w':World} {v:Value} {fs:List Fm} (h:FL w v fs) (hb:Below w.heap.size w w'):FL w' v fs:=by
 obtain⟨ad,cap,h1,h2,h3,h4⟩:=h;(refine⟨ad,cap,h1,h2,h3,fun hne => ?_⟩);obtain⟨b,off,h5,h6⟩:=h4 hne;exact⟨b,off,h5,h6.up hb⟩
def QAh (f:Fm) (fs:List Fm):Bool:=fs.any fun g=>QAZ g f
set_option maxHeartbeats 2000000 in
theorem QBJ (fs:List Fm) (f:Fm) (v u:Value) (w:World) (h:FL w v fs) (hu:Rep w (fun _=>True) f u) :
  Calls Tryz.prog 82 #[v,u] w fun e w'=>e = .returned (.bool (QAh f fs))∧Below w.heap.size w w':=by
 obtain⟨ad,cap,rfl,h1,h2,h3⟩:=h;obtain⟨kf,nf,ksf⟩:=f;obtain⟨slf,capf,rfl⟩:=QAJ hu;(have hlI:(fs.length:Int)≤9223372036854775807:=by unfold maxLen at h2;omega);(have H3:Hid (fs≠[]→∃ b off,ad=some ⟨b,off,none⟩∧Reps w (fun _=>True) b off fs):=h3);clear h3
 go_enter Tryz.func82,Tryz.ntmps82
 go_wp2_with fail
 go_loopg [5] fs.length (fun g c wr=>∃ i,i≤fs.length∧g=fs.length - i∧c = .int .i64 (i:Nat)∧Below w.heap.size w wr∧wr.heap[w.heap.size]? = some (.cells #[.int .i64 kf,.string nf,.slice slf ksf.length capf] 24 (0,0))∧Hid (QAh (.mk kf nf ksf) (fs.take i)=false))
 case atStart=>exact⟨0,by omega,by omega,rfl,(Below.refl _ _).alloc (Nat.le_refl _) _,QAG _ _,by show _=_;rfl⟩
 case round =>
  obtain⟨i,hi,hg,rfl,hbr,q0,HN⟩:=hrel;have HG:Hid (gk=fs.length - i):=hg;clear hg;obtain⟨e0,e1,e2,-⟩:=QAX q0;have z0:=QAE q0;by_cases hlt:i < fs.length
  ·obtain⟨⟨k2,n2,ks2⟩,hki⟩:∃ f,fs[i]? = some f:=⟨_,List.getElem?_eq_getElem hlt⟩
   (obtain⟨b,off,rfl,hrs⟩:=H3.out (fun e=>by rw [e] at hlt;simp at hlt));obtain⟨sl2,cap2,g0,g1,g2,hrep2⟩:=(hrs.up hbr).at i k2 n2 ks2 hki;(have hltI:(i:Int) < (fs.length:Int):=by omega);(have hlc:(i:Int) < (cap:Int):=by omega);have zb:=QAI g0;have zz:=hbr.size;have hrepf:=hu.up hbr;(have hsm:=fun v u w h1 h2=>QER (.mk k2 n2 ks2) (.mk kf nf ksf) v u w h1 h2)
   have hnx:QAh (.mk kf nf ksf) (fs.take (i+1))=(QAh (.mk kf nf ksf) (fs.take i) || QAZ (.mk k2 n2 ks2) (.mk kf nf ksf)):=by
    unfold QAh;rw [List.take_add_one,hki,List.any_append]
    simp
   (have hin:QAZ (.mk k2 n2 ks2) (.mk kf nf ksf)=true→QAh (.mk kf nf ksf) fs=true:=fun h=>List.any_eq_true.2 ⟨_,List.mem_of_getElem? hki,h⟩);simp only at zb;generalize hbb:QAZ (.mk k2 n2 ks2) (.mk kf nf ksf)=bb at hsm hnx hin;have HS:Hid (∀ v u w,_→_→Calls Tryz.prog 78 #[v,u] w _):=hsm
   have HX:Hid (QAh (.mk kf nf ksf) (fs.take (i+1))=bb):=by
    show _=_;rw [hnx,HN.out,Bool.false_or]
   have HI:Hid (bb=true→QAh (.mk kf nf ksf) fs=true):=hin;clear hki hrs H3 hsm hnx hin hbb;go_wp2_with fail
   go_region_held3 (fun w'=>w'.cell? ⟨b,off+i * 3,none⟩=some (.int .i64 k2)∧w'.cell? ⟨b,off+i * 3+1,none⟩=some (.string n2)∧w'.cell? ⟨b,off+i * 3+2,none⟩=some (.slice sl2 ks2.length cap2)∧w'.cell? ⟨w.heap.size,0,none⟩=some (.int .i64 kf)∧w'.cell? ⟨w.heap.size,1,none⟩=some (.string nf)∧w'.cell? ⟨w.heap.size,2,none⟩=some (.slice slf ksf.length capf)) (go_keep)
    (
     first
     | (
      go_at_call 78
      refine (HS.out _ _ _ (hrep2.up (Below.refl _ _).drew) (hrepf.up (Below.refl _ _).drew)).mono ?_;rintro e w1 ⟨rfl,hb1⟩;have c3:=(hb1.cell (p:=⟨b,off+i * 3,none⟩) zb).trans g0;have c4:=(hb1.cell (p:=⟨b,off+i * 3+1,none⟩) zb).trans g1;have c5:=(hb1.cell (p:=⟨b,off+i * 3+2,none⟩) zb).trans g2;have c6:=(hb1.cell (p:=⟨w.heap.size,0,none⟩) z0).trans e0;have c7:=(hb1.cell (p:=⟨w.heap.size,1,none⟩) z0).trans e1
      have c8:=(hb1.cell (p:=⟨w.heap.size,2,none⟩) z0).trans e2)
     | fail)
   have hb2:Below w.heap.size w w1:=hbr.drew.trans (hb1.mono zz);have q1:=(hb1.block _ z0).trans q0;clear c3 c4 c5 c6 c7 c8
   cases bb
   ·go_wp2_with fail
    go_roundg (fs.length - (i+1))
    case measure=>have:=HG.out;omega
    case rel=>exact⟨i+1,by omega,rfl,by go_num,hb2,q1,HX⟩
   ·have HT:Hid (QAh (.mk kf nf ksf) fs=true):=HI.out rfl
    clear HI HX;go_wp2_with fail;go_ret;(exact⟨by rw [HT.out];rfl,hb2⟩)
  ·have HT:Hid (QAh (.mk kf nf ksf) fs=false):=by
    have:=HN.out;(rw [List.take_of_length_le (by omega)] at this);exact this
   (have hge:¬ (i:Int) < (fs.length:Int):=by omega);clear H3 HN;go_wp2_with fail;go_ret;(exact⟨by rw [HT.out];rfl,hbr⟩)
theorem QJG (cap:Array Value) (w:World):(callFunc 273 cap).run Tryz.prog w = .ok (.enter 273 cap) w:=by
 simp [go_sem]
def QGa (m:Nat):Prop:=∀ (f g:Fm) (v u:Value) (w:World),f.size < m→Rep w (fun _=>True) f v→Rep w (fun _=>True) g u →
 Calls Tryz.prog 273 #[v,u] w fun e w'=>e = .returned (.bool (QAZ f g))∧Below w.heap.size w w'
def QHa (m:Nat):Prop:=∀ (fs gs:List Fm) (v u:Value) (w:World),Fm.sizes fs < m→FL w v fs→FL w u gs →
 Calls Tryz.prog 278 #[v,u,.func (.func 273) #[] #[]] w fun e w'=>e = .returned (.bool (decide (fs.length=gs.length) && sameBs fs gs))∧Below w.heap.size w w'
set_option maxHeartbeats 4000000 in
theorem QFs (m:Nat) (ih:QGa m):QHa m:=by
 intro fs gs v u w hm h h';obtain⟨ad,cap,rfl,h1,h2,h3⟩:=h;obtain⟨ad',cap',rfl,h1',h2',h3'⟩:=h';(have hlI:(fs.length:Int)≤9223372036854775807:=by unfold maxLen at h2;omega);(have H3:Hid (fs≠[]→∃ b off,ad=some ⟨b,off,none⟩∧Reps w (fun _=>True) b off fs):=h3);(have H4:Hid (gs≠[]→∃ b off,ad'=some ⟨b,off,none⟩∧Reps w (fun _=>True) b off gs):=h3');clear h3 h3';by_cases hl:fs.length=gs.length
 ·rw [decide_eq_true hl,Bool.true_and]
  have HL:Hid (fs.length=gs.length):=hl;generalize hgl:gs.length=gl at *;subst hl
  go_enter Tryz.func278,Tryz.ntmps278
  go_wp2_with fail
  go_loopg [17] fs.length (fun g c wr=>∃ i,i≤fs.length∧g=fs.length - i∧c = .int .i64 (i:Nat)∧Below w.heap.size w wr∧Hid (sameBs (fs.drop i) (gs.drop i)=sameBs fs gs))
  case atStart=>exact⟨0,by omega,by omega,rfl,Below.refl _ _,by show _=_;simp⟩
  case round =>
   obtain⟨i,hi,hg,rfl,hbr,HN⟩:=hrel;have HG:Hid (gk=fs.length - i):=hg;clear hg;by_cases hlt:i < fs.length
   ·obtain⟨⟨k2,n2,ks2⟩,hki⟩:∃ f,fs[i]? = some f:=⟨_,List.getElem?_eq_getElem hlt⟩
    (obtain⟨⟨k3,n3,ks3⟩,hki'⟩:∃ f,gs[i]? = some f:=⟨_,List.getElem?_eq_getElem (by omega)⟩);(obtain⟨b,off,rfl,hrs⟩:=H3.out (fun e=>by rw [e] at hlt;simp at hlt));(obtain⟨b',off',rfl,hrs'⟩:=H4.out (fun e=>by rw [e] at hgl;simp at hgl;omega));obtain⟨sl2,cap2,g0,g1,g2,hrep2⟩:=(hrs.up hbr).at i k2 n2 ks2 hki;obtain⟨sl3,cap3,p0,p1,p2,hrep3⟩:=(hrs'.up hbr).at i k3 n3 ks3 hki';(have hltI:(i:Int) < (fs.length:Int):=by omega);(have hlc:(i:Int) < (cap:Int):=by omega);(have hlc':(i:Int) < (cap':Int):=by omega);have zz:=hbr.size;(have hsz:(Fm.mk k2 n2 ks2).size < m:=by have:=QBp hki;omega);(have hsm:=fun v u w h1 h2=>ih (.mk k2 n2 ks2) (.mk k3 n3 ks3) v u w hsz h1 h2);have hds:=HN.out;rw [QDl hki hki'] at hds;generalize hbb:QAZ (.mk k2 n2 ks2) (.mk k3 n3 ks3)=bb at hsm hds;have HS:Hid (∀ v u w,_→_→Calls Tryz.prog 273 #[v,u] w _):=hsm;have HD:Hid (_=sameBs fs gs):=hds;have zb:=QAI g0;have zb':=QAI p0;simp only at zb zb';have hcf:=QJG;clear hki hki' hrs hrs' H3 H4 hsm hds hbb HN;go_wp2_with fail;refine (HS.out _ _ _ ((hrep2.more _).more _) ((hrep3.more _).more _)).mono ?_;rintro e w1 ⟨rfl,hb1⟩;have B1:=QAC (QAA (QAA hbr _) _) hb1
    cases bb
    ·have HF:Hid (sameBs fs gs=false):=by
      have:=HD.out;rw [Bool.false_and] at this;exact this.symm
     clear HD;go_wp2_with fail;go_ret;(exact⟨by rw [HF.out];rfl,B1⟩)
    ·have HT:Hid (sameBs (fs.drop (i+1)) (gs.drop (i+1))=sameBs fs gs):=by
      have:=HD.out;rw [Bool.true_and] at this;exact this
     clear HD;go_wp2_with fail
     go_roundg (fs.length - (i+1))
     case measure=>have:=HG.out;omega
     case rel=>exact⟨i+1,by omega,rfl,by go_num,B1,HT⟩
   ·have HT:Hid (sameBs fs gs=true):=by
     have:=HN.out;(rw [List.drop_of_length_le (by omega),sameBs] at this);exact this.symm
    (have hge:¬ (i:Int) < (fs.length:Int):=by omega);clear H3 H4 HN;go_wp2_with fail;go_ret;(exact⟨by rw [HT.out];rfl,hbr⟩)
 ·rw [decide_eq_false hl,Bool.false_and]
  (have hlJ:((fs.length:Int) != (gs.length:Int))=true:=by simp;omega);clear H3 H4
  go_enter Tryz.func278,Tryz.ntmps278
  go_wp2_with fail;go_ret;exact⟨rfl,Below.refl _ _⟩
theorem Rep.kids {w:World} {k:Int} {n:ByteArray} {ks:List Fm} {sl:Option Addr} {cap:Nat} (h:Rep w (fun _=>True) (.mk k n ks) (.agg #[.int .i64 k,.string n,.slice sl ks.length cap])):FL w (.slice sl ks.length cap) ks:=by
 obtain⟨sl',cap',hv,-,h1,h2,h3⟩:=Rep.def.1 h;simp only [Value.agg.injEq,Array.mk.injEq,List.cons.injEq,Value.slice.injEq,true_and,and_true] at hv;obtain⟨rfl,rfl⟩:=hv;(refine⟨sl,cap,rfl,h1,h2,fun hne => ?_⟩);obtain⟨b,off,hs,-,hr⟩:=h3 hne;exact⟨b,off,hs,hr⟩
set_option maxHeartbeats 2000000 in
theorem QHM (m:Nat) (ih:QHa m):QGa (m+1):=by
 intro f g v u w hm hrep hu;obtain⟨k,n,ks⟩:=f;obtain⟨k',n',ks'⟩:=g;obtain⟨sl,cap,rfl⟩:=QAJ hrep;obtain⟨sl',cap',rfl⟩:=QAJ hu;have hb0:Below w.heap.size w ((w.alloc (.cells #[.int .i64 k,.string n,.slice sl ks.length cap] 24 (0,0))).alloc (.cells #[.int .i64 k',.string n',.slice sl' ks'.length cap'] 24 (0,0))):=QAA (QAA (Below.refl _ w) _) _;have hF:=(hrep.up hb0).kids;have hG:=(hu.up hb0).kids;(have hsz:Fm.sizes ks < m:=by rw [Fm.size] at hm;omega);(have HQ:Hid (∀ wx,FL wx (.slice sl ks.length cap) ks→FL wx (.slice sl' ks'.length cap') ks'→Calls Tryz.prog 278 _ wx _):=fun wx h1 h2=>ih ks ks' _ _ wx hsz h1 h2);have HF:Hid (FL _ _ ks):=hF;have HG:Hid (FL _ _ ks'):=hG;clear hF hG hrep hu;by_cases h1:k=k'
 ·subst h1
  by_cases h2:n.data.toList=n'.data.toList
  ·have h2':n=n':=by apply ByteArray.ext;apply Array.ext';exact h2
   subst h2'
   have hE:QAZ (.mk k n ks) (.mk k n ks')=(decide (ks.length=ks'.length) && sameBs ks ks'):=by
    rw [QAZ];simp only [Fm.kind,Fm.name,Fm.kids,decide_true,Bool.true_and]
    congr 1
   rw [hE];clear hE h2;generalize (decide (ks.length=ks'.length) && sameBs ks ks')=bb at HQ ⊢
   go_enter Tryz.func273,Tryz.ntmps273
   go_wp2_with (first
    | (
      go_at_call 278
      refine (HQ.out _ HF.out HG.out).mono ?_;rintro e w1 ⟨rfl,hb1⟩
      have B1:=QAC hb0 hb1)
    | fail)
   go_ret;exact⟨rfl,B1⟩
  ·have hE:QAZ (.mk k n ks) (.mk k n' ks')=false:=by rw [QAZ];simp only [Fm.kind,Fm.name,h2,decide_false,Bool.and_false,Bool.false_and]
   rw [hE];(have h3:(n.toList == n'.toList)=false:=by rw [ByteArray.toList_eq,ByteArray.toList_eq];simpa using h2);clear hE h2 HF HG HQ
   go_enter Tryz.func273,Tryz.ntmps273
   go_wp2_with fail;go_ret;exact⟨rfl,hb0⟩
 ·have hE:QAZ (.mk k n ks) (.mk k' n' ks')=false:=by rw [QAZ];simp [Fm.kind,h1]
  rw [hE];(have h1':(k == k')=false:=by simpa using h1);clear hE HF HG HQ
  go_enter Tryz.func273,Tryz.ntmps273
  go_wp2_with fail;go_ret;exact⟨rfl,hb0⟩
theorem QES:∀ m,QGa m
 | 0=>fun _ _ _ _ _ h=>absurd h (Nat.not_lt_zero _)
 | m+1=>QHM m (QFs m (QES m))
theorem QIS (f g:Fm) (v u:Value) (w:World) (hv:Rep w (fun _=>True) f v) (hu:Rep w (fun _=>True) g u) :
  Calls Tryz.prog 273 #[v,u] w fun e w'=>e = .returned (.bool (QAZ f g))∧Below w.heap.size w w' :=
 QES (f.size+1) f g v u w (Nat.lt_succ_self _) hv hu
theorem QIR (f g:Fm):QAZ f g=QAZ g f:=by
 rcases h:QAZ f g with _|_
 ·rcases h':QAZ g f with _|_
  ·rfl
  ·have:=QCg g f h'
   subst this;rw [h'] at h
   cases h
 ·have:=QCg f g h
  subst this;rw [h]
def isF (n:Fm) (fs:List Fm):Nat:=fs.findIdx fun g=>QAZ g n
def atF (n:Fm) (fs:List Fm):Int:=if QAh n fs then (isF n fs:Nat) else -1
theorem QIO (cap:Array Value) (w:World):(callFunc 272 cap).run Tryz.prog w = .ok (.enter 272 cap) w:=by
 simp [go_sem]
set_option maxHeartbeats 1000000 in
theorem QHC (p n:Fm) (v u:Value) (nb:Nat) (c0 c1 c2:Value) (w:World) (hv:Rep w (fun _=>True) p v) (hu:Rep w (fun _=>True) n u) (hue:u = .agg #[c0,c1,c2]) (h:w.heap[nb]? = some (.cells #[c0,c1,c2] 24 (0,0))) :
  Calls Tryz.prog 272 #[v,.pointer (some ⟨nb,0,none⟩)] w fun e w'=>e = .returned (.bool (QAZ p n))∧Below w.heap.size w w':=by
 (have hs:=fun v u w h1 h2=>QIS n p v u w h1 h2);rw [QIR n p] at hs;generalize QAZ p n=bb at hs ⊢;obtain⟨k,m,ks⟩:=p;obtain⟨sl,cap,rfl⟩:=QAJ hv;obtain⟨kg,ng,ksg⟩:=n;obtain⟨slg,capg,hug⟩:=QAJ hu;rw [hug] at hue;simp only [Value.agg.injEq,Array.mk.injEq,List.cons.injEq,and_true] at hue;obtain⟨rfl,rfl,rfl⟩:=hue;subst hug;have HS:Hid (∀ v u w,_→_→Calls Tryz.prog 273 #[v,u] w _):=hs;have k1:=QAF h (.cells #[.int .i64 k,.string m,.slice sl ks.length cap] 24 (0,0));obtain⟨a1,a2,a3,-⟩:=QAX k1;clear hs
 go_enter Tryz.func272,Tryz.ntmps272
 go_wp2_with (first
  | (
    go_at_call 273
    refine (HS.out _ _ _ (hu.more _) (hv.more _)).mono ?_;rintro e w1 ⟨rfl,hb1⟩
    have B1:=QAC (QAA (Below.refl _ w) _) hb1)
  | fail)
 go_ret;exact⟨rfl,B1⟩
theorem QFv {n:Fm} {fs:List Fm} {i:Nat} {g:Fm} (h:QAh n (fs.take i)=false) (hg:fs[i]? = some g) (hp:QAZ g n=true):isF n fs=i:=by
 have hi:i < fs.length:=by
  rcases Nat.lt_or_ge i fs.length with h' | h'
  ·exact h'
  ·rw [List.getElem?_eq_none h'] at hg;cases hg
 unfold isF;(refine (List.findIdx_eq hi).2 ⟨?_,fun j hj => ?_⟩)
 ·rw [List.getElem?_eq_getElem hi] at hg
  rw [Option.some.inj hg];exact hp
 ·unfold QAh at h
  (have:=List.any_eq_false.1 h (fs[j]'(by omega)) (List.mem_take_iff_getElem.2 ⟨j,by omega,rfl⟩));simpa using this
set_option maxHeartbeats 2000000 in
theorem QHy (fs:List Fm) (n:Fm) (v u:Value) (nb:Nat) (c0 c1 c2:Value) (w:World) (hf:FL w v fs) (hu:Rep w (fun _=>True) n u) (hue:u = .agg #[c0,c1,c2]) (h:w.heap[nb]? = some (.cells #[c0,c1,c2] 24 (0,0))) :
  Calls Tryz.prog 274 #[v,.func (.func 272) #[] #[.pointer (some ⟨nb,0,none⟩)]] w fun e w'=>e = .returned (.int .i64 (atF n fs))∧Below w.heap.size w w':=by
 obtain⟨ad,cap,rfl,h1,h2,h3⟩:=hf;(have hlI:(fs.length:Int)≤9223372036854775807:=by unfold maxLen at h2;omega);(have H3:Hid (fs≠[]→∃ b off,ad=some ⟨b,off,none⟩∧Reps w (fun _=>True) b off fs):=h3);(have HC:Hid (∀ (p:Fm) (v:Value) (wx:World),Below w.heap.size w wx→Rep wx (fun _=>True) p v→Calls Tryz.prog 272 (#[v]++#[.pointer (some ⟨nb,0,none⟩)]) wx fun e w'=>e = .returned (.bool (QAZ p n))∧Below wx.heap.size wx w'):=fun p v wx hb hv=>QHC p n v u nb c0 c1 c2 wx hv (hu.up hb) hue (QAB hb h));(have hcf:=fun (v:Value) (w:World)=>QIO (#[v]++#[.pointer (some ⟨nb,0,none⟩)]) w);clear h3 hu hue h
 go_enter Tryz.func274,Tryz.ntmps274
 go_wp2_with fail
 go_loopg [8] fs.length (fun g c wr=>∃ i,i≤fs.length∧g=fs.length - i∧c = .int .i64 (i:Nat)∧Below w.heap.size w wr∧Hid (QAh n (fs.take i)=false))
 case atStart=>exact⟨0,by omega,by omega,rfl,Below.refl _ _,by show _=_;rfl⟩
 case round =>
  obtain⟨i,hi,hg,rfl,hbr,HN⟩:=hrel;have HG:Hid (gk=fs.length - i):=hg;clear hg;by_cases hlt:i < fs.length
  ·obtain⟨⟨k2,n2,ks2⟩,hki⟩:∃ f,fs[i]? = some f:=⟨_,List.getElem?_eq_getElem hlt⟩
   (obtain⟨b,off,rfl,hrs⟩:=H3.out (fun e=>by rw [e] at hlt;simp at hlt));obtain⟨sl2,cap2,g0,g1,g2,hrep2⟩:=(hrs.up hbr).at i k2 n2 ks2 hki;(have hltI:(i:Int) < (fs.length:Int):=by omega);(have hlc:(i:Int) < (cap:Int):=by omega)
   have hnx:QAh n (fs.take (i+1))=(QAh n (fs.take i) || QAZ (.mk k2 n2 ks2) n):=by
    unfold QAh;rw [List.take_add_one,hki,List.any_append]
    simp
   have hin:QAZ (.mk k2 n2 ks2) n=true→atF n fs=(i:Nat):=fun h=>by
    unfold atF;rw [show QAh n fs=true from List.any_eq_true.2 ⟨_,List.mem_of_getElem? hki,h⟩,QFv HN.out hki h];rfl
   have hcc:=HC.out (.mk k2 n2 ks2) _ wr hbr hrep2;generalize hbb:QAZ (.mk k2 n2 ks2) n=bb at hcc hnx hin
   have HX:Hid (QAh n (fs.take (i+1))=bb):=by
    show _=_;rw [hnx,HN.out,Bool.false_or]
   have HI:Hid (bb=true→atF n fs=(i:Nat)):=hin;have HCC:Hid (Calls Tryz.prog 272 _ wr _):=hcc;clear hki hrs H3 hcc hnx hin hbb HC hrep2;go_wp2_with fail;refine HCC.out.mono ?_;rintro e w1 ⟨rfl,hb1⟩;have B1:=QAC hbr hb1
   cases bb
   ·go_wp2_with fail
    go_roundg (fs.length - (i+1))
    case measure=>have:=HG.out;omega
    case rel=>exact⟨i+1,by omega,rfl,by go_num,B1,HX⟩
   ·have HT:Hid (atF n fs=(i:Nat)):=HI.out rfl
    clear HI HX;go_wp2_with fail;go_ret;(exact⟨by rw [HT.out];rfl,B1⟩)
  ·have HT:Hid (atF n fs = -1):=by
    have:=HN.out;(rw [List.take_of_length_le (by omega)] at this);show _=_;unfold atF;rw [this];rfl
   (have hge:¬ (i:Int) < (fs.length:Int):=by omega);clear H3 HN HC;go_wp2_with fail;go_ret;(exact⟨by rw [HT.out];rfl,hbr⟩)
set_option maxHeartbeats 1000000 in
theorem QEu (fs:List Fm) (n:Fm) (v u:Value) (w:World) (hf:FL w v fs) (hu:Rep w (fun _=>True) n u) :
  Calls Tryz.prog 249 #[v,u] w fun e w'=>e = .returned (.int .i64 (atF n fs))∧Below w.heap.size w w':=by
 obtain⟨k,nn,ks⟩:=n;obtain⟨sl,cap,rfl⟩:=QAJ hu;have B0:=QAA (Below.refl _ w) (.cells #[.int .i64 k,.string nn,.slice sl ks.length cap] 24 (0,0));have hx:=QHy fs (.mk k nn ks) _ _ w.heap.size _ _ _ (w.alloc (.cells #[.int .i64 k,.string nn,.slice sl ks.length cap] 24 (0,0))) (hf.up B0) (hu.up B0) rfl (QAG _ _);have HX:Hid (Calls Tryz.prog 274 _ _ _):=hx;(have hmf:∀ (fn:Fn) (first cap:Array Value) (w:World),(Instr.makeFunc fn first cap).run Tryz.prog w = .ok (.func fn first cap) w:=fun _ _ _ _=>rfl);obtain⟨ad,cp,rfl,-⟩:=hf;clear hx hu
 go_enter Tryz.func249,Tryz.ntmps249
 go_wp2_with (first
  | (
    go_at_call 274
    refine HX.out.mono ?_;rintro e w1 ⟨rfl,hb1⟩
    have B1:=QAC B0 hb1)
  | fail)
 go_ret;exact⟨rfl,B1⟩
end Go.Proofs.YtffkoiemnchdgadGreat
