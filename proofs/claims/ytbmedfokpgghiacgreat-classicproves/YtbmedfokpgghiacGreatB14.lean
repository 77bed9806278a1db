import Derived.Test.YtbmedfokpgghiacGreatB11
import Derived.Test.YtbmedfokpgghiacGreatB12
import Derived.Test.YtbmedfokpgghiacGreatB10
import Derived.Deep.DeepCutAuto
import Derived.Test.YtbmedfokpgghiacGreatB09
import Derived.Test.YtbmedfokpgghiacGreatB13
import Derived.Sort.Walk0
import Derived.Deep.AppendSrc
import Derived.Laws.EntriesVeiled
import Derived.Lib.AppendZerosOnto
namespace Go.Proofs.YtbmedfokpgghiacGreat
open Go.RowKit Go.Sort
theorem QHr {B:Nat} {W w w5:World} {ad:Option Addr} {cy n:Nat} {o:Obj} {xs:List Value} {T:TypeId} (hB:Below B W w) (hBs:B≤w.heap.size) (hk:w.ownsRow B T 1 (.slice ad n cy) n xs) (hg5:(w.alloc o).grownBy w5 (Value.slice ad n cy).ownBlock):Below B W w5:=by
 have h1:Below B W (w.alloc o):=hB.alloc hBs o;(exact h1.trans ⟨hg5.os,hg5.tape,hg5.output,hg5.size,fun j hj=>hg5.block j (by simp;omega) (fun e=>by have:=(World.ownsRow.lt hk j e.symm).1;omega)⟩)
theorem QFZ (f:Fm):f.code.1=0→∃ s,chk f 0 = .ok s:=fun h=>QMP (QGM h)
theorem QDN {f:Fm} (h:f.pcode.1=0):(∃ s,chk f 0 = .ok s)∧Plain f∧f.pcode=(0,0):=by
 unfold Fm.pcode at *;by_cases hc:f.code.1=0
 ·rw [if_pos hc] at h ⊢
  rcases hm:(QBP f 0).2 with _|_
  ·refine⟨QFZ f hc,?_,by simp⟩
   rw [QDK] at hm;exact hm
  ·rw [hm] at h;simp at h
 ·rw [if_neg hc] at h
  exact absurd h hc
theorem QMl {f:Fm} {s:Nat} (h:chk f 0 = .ok s) (hp:Plain f):f.pcode=(0,0):=by
 (have hc:f.code=(0,0):=by simp only [Fm.code,h]);unfold Fm.pcode;rw [hc,if_pos rfl,QDK];have:(QBu (QBx f) 0).2=false:=hp;rw [this];rfl
theorem QDL:∀ (l:List Fm) (t:ByteArray),t∈QGc l ↔ ∃ ks,Fm.mk 1 t ks∈l
 | [],t=>by simp [QGc]
 | .mk k n ks :: l,t=>by
  rw [QGc]
  split
  ·rename_i hk
   subst hk;rw [List.mem_cons,QDL l t]
   constructor
   ·rintro (rfl|⟨x,hx⟩)
    ·exact⟨ks,List.mem_cons_self ..⟩
    ·exact⟨x,List.mem_cons_of_mem _ hx⟩
   ·rintro ⟨x,hx⟩
    rcases List.mem_cons.1 hx with h|h
    ·injection h with _ h _;exact Or.inl h
    ·exact Or.inr ⟨x,h⟩
  ·rename_i hk
   rw [QDL l t]
   constructor
   ·rintro ⟨x,hx⟩;exact⟨x,List.mem_cons_of_mem _ hx⟩
   ·rintro ⟨x,hx⟩
    rcases List.mem_cons.1 hx with h|h
    ·injection h with h _ _;exact absurd h.symm hk
    ·exact⟨x,h⟩
theorem TL.sl {w:World} {v:Value} {l:List (List UInt8)} (h:TL w v l):SL w v l:=by
 obtain⟨ad,cap,h1,h2,h3,h4⟩:=h;(refine⟨ad,cap,h1,h2,h3,fun hne => ?_⟩);obtain⟨g,h5,h6⟩:=h4 hne;(exact⟨g,0,h5,fun j t ht=>by rw [Nat.zero_add];exact h6 j t ht⟩)
theorem QKs (s:ByteArray):(Fm.mk 1 s []).code=if QBt s.data.toList then (0,0) else (8,0):=by
 by_cases h:QBt s.data.toList=true
 ·rw [if_pos h]
  (have:=QFW (.mk 1 s []) 0 (by have:=QKx (l:=s.data.toList) h;exact this) (by rw [QLd];omega));simp only [Fm.code,this]
 ·rw [if_neg h]
  have hn:QBX 1 s 0=some 8:=by
   (have h1:QCE 1=true:=by decide);(have h2:QBh 1=0:=by decide);(have h3:QCU 1 s=true:=by simp [QCU,h]);simp [QBX,h1,h2,h3]
  have:chk (.mk 1 s []) 0 = .bad 8 0:=by
   rw [chk];simp [hn]
  simp only [Fm.code,this];rfl
theorem QDV (a b:Int) (w:World):(Instr.field 35 (.agg #[.int .i64 a,.int .i64 b]) 0).run Tryz.prog w = .ok (.int .i64 a) w:=by kernel_rfl
set_option maxHeartbeats 1000000 in
theorem QHQ (s:ByteArray) (hs:s.size≤maxLen) (w:World) :
  Calls Tryz.prog 113 #[.string s] w fun e w'=>e = .returned (.bool (!QBt s.data.toList))∧Below w.heap.size w w':=by
 (have hck:=fun v (w:World) h=>QGL (.mk 1 s []) v w h);have hcn:=QKs s;have HC:Hid (∀ v w,_→Calls Tryz.prog 108 #[v] w _):=hck;(have HL:Hid (∀ w,Rep w (fun _=>True) (.mk 1 s []) (.agg #[.int .i64 1,.string s,.slice none 0 0])):=fun w=>Rep.leaf hs);(have hfc:=fun a b w=>QDV a b w);clear hck hs
 rcases hb:QBt s.data.toList with _|_
 ·have hcn':(Fm.mk 1 s []).code=(8,0):=by rw [hcn,hb];rfl
  rw [hcn'] at HC;clear hcn';clear hcn hb
  go_enter Tryz.func113,Tryz.ntmps113
  go_wp2_with (first
   | (
     go_at_call 108
     refine (HC.out _ _ (HL.out _)).mono ?_
     rintro e w1 ⟨rfl,hb1⟩)
   | fail)
  go_ret;exact⟨rfl,hb1⟩
 ·have hcn':(Fm.mk 1 s []).code=(0,0):=by rw [hcn,hb];rfl
  rw [hcn'] at HC;clear hcn';clear hcn hb
  go_enter Tryz.func113,Tryz.ntmps113
  go_wp2_with (first
   | (
     go_at_call 108
     refine (HC.out _ _ (HL.out _)).mono ?_
     rintro e w1 ⟨rfl,hb1⟩)
   | fail)
  go_ret;exact⟨rfl,hb1⟩
structure QNr (fn:Nat) (cap:Array Value) (p:List UInt8→Bool) (Ok:World→Prop):Prop where
 up:∀ {w w':World},Ok w→Below w.heap.size w w'→Ok w'
 ent:∀ (v:Value) (w:World),(callFunc fn (#[v]++cap)).run Tryz.prog w = .ok (.enter fn (#[v]++cap)) w
 call:∀ (t:List UInt8) (w:World),Ok w→t.length≤maxLen→Calls Tryz.prog fn (#[.string ⟨t.toArray⟩]++cap) w fun e w'=>e = .returned (.bool (p t))∧Below w.heap.size w w'
def QEU (p:List UInt8→Bool) (l:List (List UInt8)):Int:=if l.any p then (l.findIdx p:Nat) else -1
theorem QJI {p:List UInt8→Bool} {l:List (List UInt8)} {i:Nat} {t:List UInt8} (h:(l.take i).any p=false) (ht:l[i]? = some t) (hp:p t=true):l.findIdx p=i:=by
 have hi:i < l.length:=by
  rcases Nat.lt_or_ge i l.length with h' | h'
  ·exact h'
  ·rw [List.getElem?_eq_none h'] at ht;cases ht
 rw [List.getElem?_eq_getElem hi] at ht;have e:=Option.some.inj ht;rw [List.findIdx_eq hi];(refine⟨by rw [e];exact hp,fun j hj => ?_⟩);(have:=(List.any_eq_false.1 h) (l[j]'(by omega)) (List.mem_take_iff_getElem.2 ⟨j,by omega,rfl⟩));simpa using this
set_option maxHeartbeats 2000000 in
theorem QEy {fn:Nat} {cp:Array Value} {p:List UInt8→Bool} {Ok:World→Prop} (A:QNr fn cp p Ok) (l:List (List UInt8)) (hmx:∀ t∈l,t.length≤maxLen) (v:Value) (w:World) (hv:SL w v l) (hok:Ok w) :
  Calls Tryz.prog 107 #[v,.func (.func fn) #[] cp] w fun e w'=>e = .returned (.int .i64 (QEU p l))∧Below w.heap.size w w':=by
 obtain⟨ad,cap,rfl,h1,h2,h3⟩:=hv;(have hlI:(l.length:Int)≤9223372036854775807:=by unfold maxLen at h2;omega);have H3:Hid (l≠[]→∃ g off,ad=some ⟨g,off,none⟩∧∀ (j:Nat) (t:List UInt8),l[j]? = some t→w.cell? ⟨g,off+j,none⟩=some (.string ⟨t.toArray⟩)):=h3;(have HA:Hid (∀ (t:List UInt8) (w:World),Ok w→t.length≤maxLen→Calls Tryz.prog fn (#[.string ⟨t.toArray⟩]++cp) w fun e w'=>e = .returned (.bool (p t))∧Below w.heap.size w w'):=A.call);have HU:Hid (∀ {w w':World},Ok w→Below w.heap.size w w'→Ok w'):=A.up;have HMx:Hid (∀ t∈l,t.length≤maxLen):=hmx;have HO:Hid (Ok w):=hok;have hcf:=A.ent;clear h3 hmx hok A
 go_enter Tryz.func107,Tryz.ntmps107
 go_wp2_with fail
 go_loopg [8] l.length (fun g c wr=>∃ i,i≤l.length∧g=l.length - i∧c = .int .i64 (i:Nat)∧Below w.heap.size w wr∧Hid ((l.take i).any p=false))
 case atStart=>exact⟨0,by omega,by omega,rfl,Below.refl _ _,by show _=_;rfl⟩
 case round =>
  obtain⟨i,hi,hg,rfl,hbr,HN⟩:=hrel;have HG:Hid (gk=l.length - i):=hg;clear hg;by_cases hlt:i < l.length
  ·obtain⟨t,ht⟩:∃ x,l[i]? = some x:=⟨_,List.getElem?_eq_getElem hlt⟩
   (obtain⟨g,off,rfl,hc⟩:=H3.out (fun e=>by rw [e] at hlt;simp at hlt));have g0:=(hbr.cell (p:=⟨g,off+i,none⟩) (QAI (hc i t ht))).trans (hc i t ht);(have hltI:(i:Int) < (l.length:Int):=by omega);(have hlc:(i:Int) < (cap:Int):=by omega);have hcc:=HA.out t wr (HU.out HO.out hbr) (HMx.out t (List.mem_of_getElem? ht))
   have HXi:Hid (p t=true→QEU p l=((i:Nat):Int)):=fun hp=>by
    unfold QEU;rw [if_pos (List.any_eq_true.2 ⟨t,List.mem_of_getElem? ht,hp⟩),QJI HN.out ht hp]
   have HXn:Hid (p t=false→(l.take (i+1)).any p=false):=fun hp=>by
    rw [List.take_add_one,ht,List.any_append,HN.out];simp [hp]
   generalize p t=bb at *;have HCC:Hid (Calls Tryz.prog fn _ wr _):=hcc;generalize (⟨t.toArray⟩:ByteArray)=T at *;clear hc ht H3 hcc;go_wp2_with fail;refine HCC.out.mono ?_;rintro e w1 ⟨rfl,hb1⟩;have B1:=QAC hbr hb1
   cases bb
   ·have HX:=HXn.out (by first|rfl|trivial)
    have HX':Hid ((l.take (i+1)).any p=false):=HX;clear HX HXn HXi;go_wp2_with fail
    go_roundg (l.length - (i+1))
    case measure=>have:=HG.out;omega
    case rel=>exact⟨i+1,by omega,rfl,by go_num,B1,HX'⟩
   ·have HX:=HXi.out (by first|rfl|trivial)
    have HX':Hid (QEU p l=((i:Nat):Int)):=HX;clear HX HXn HXi;go_wp2_with fail;go_ret;(exact⟨by rw [HX'.out];rfl,B1⟩)
  ·have HT:Hid (QEU p l = -1):=by
    have:=HN.out;(rw [List.take_of_length_le (by omega)] at this);show _=_;unfold QEU;rw [this];rfl
   (have hge:¬ (i:Int) < (l.length:Int):=by omega);clear H3 HN;go_wp2_with fail;go_ret;(exact⟨by rw [HT.out];rfl,hbr⟩)
theorem QLN (cap:Array Value) (w:World):(callFunc 113 cap).run Tryz.prog w = .ok (.enter 113 cap) w:=by
 simp [go_sem]
theorem QFp:QNr 113 #[] (fun t=>!QBt t) (fun _=>True) where
 up:=fun _ _=>trivial
 ent:=fun _ w=>QLN _ w
 call:=fun t w _ h=>QHQ ⟨t.toArray⟩ (by simpa [ByteArray.size] using h) w
def QGz (f:Fm) (l:List (List UInt8)):Int × Int:=if f.pcode.1=0 then (if 1000 < l.length then (2,0) else if l.any (fun t=>!QBt t) then (8,((l.findIdx (fun t=>!QBt t):Nat):Int)) else (0,0)) else f.pcode
set_option maxHeartbeats 2000000 in
theorem QLn (f:Fm) (l:List (List UInt8)) (v u:Value) (w:World) (hrep:Rep w (fun _=>True) f v) (hu:SL w u l) (c a:Int) (hc:c≠0) (hcf:f.pcode=(c,a)) :
  Calls Tryz.prog 73 #[v,u] w fun e w'=>e = .returned (.tuple #[.bool false,.agg #[.int .i64 c,.int .i64 a]])∧Below w.heap.size w w':=by
 (have hck:=fun v (w:World) h=>QCM f v w h);rw [hcf] at hck;(have hne':(c != 0)=true:=by simpa using hc);obtain⟨k,n,ks⟩:=f;obtain⟨sl,cap,rfl⟩:=QAU hrep;have HC:Hid (∀ v w,_→Calls Tryz.prog 112 #[v] w _):=hck;have HU:Hid (SL w u l):=hu;obtain⟨adL,cpL,rfl,hl1,hl2,-⟩:=hu;clear hck hcf
 go_enter Tryz.func73,Tryz.ntmps73
 go_wp2_with (first
  | (
    go_at_call 112
    refine (HC.out _ _ ((hrep.more _).more _)).mono ?_;rintro e w1 ⟨rfl,hb1⟩;have z1:=hb1.size;simp at z1;have q0:=QAA hb1 (QAG (QAH w _) _);have q1:=QAA hb1 (QAH (w.alloc _) _);(rw [show (w.alloc _).heap.size=w.heap.size+1 by simp] at q1);have B1:=QAC (QAB (QAB (Below.refl _ w) _) _) hb1;obtain⟨k1,k2,k3,k4⟩:=QAV q1;obtain⟨a0,a1,a2,-⟩:=QAb q0;have y0:w.heap.size < w1.heap.size:=QAE q0;(have d1:¬ w.heap.size+1=w1.heap.size:=by omega);(have d2:¬ w1.heap.size=w.heap.size+1:=by omega)
    have d3:w.heap.size+1 < w1.heap.size:=by omega)
  | fail)
 go_region
 all_goals go_wp2
 have f2:=QCO q1 (.int .i64 c) (.int .i64 a);(have b2:=(B1.setCell (p:=⟨w.heap.size+1,0,none⟩) (by simp) (.int .i64 c)).setCell (p:=⟨w.heap.size+1,1,none⟩) (by simp) (.int .i64 a));(have hsz:((w1.setCell ⟨w.heap.size+1,0,none⟩ (.int .i64 c)).setCell ⟨w.heap.size+1,1,none⟩ (.int .i64 a)).heap.size=w1.heap.size:=by simp [World.setCell]);generalize World.setCell _ _ _=F at f2 b2 hsz ⊢;clear k1 k2 k3 k4;obtain⟨k1,k2,-⟩:=QAV f2;(have d4:w.heap.size+1 < F.heap.size:=by omega);(exact bodyPost_ret (v := .tuple #[.bool false,.agg #[.int .i64 c,.int .i64 a]]) (by simp [results,Tryz.results73,go_sem,k1,k2,d4]) rfl ⟨rfl,(b2.alloc (by omega) _).drew⟩)
set_option maxHeartbeats 2000000 in
theorem QJw (f:Fm) (l:List (List UInt8)) (v u:Value) (w:World) (hrep:Rep w (fun _=>True) f v) (hu:SL w u l) (hcf:f.pcode=(0,0)) (hl:1000 < l.length) :
  Calls Tryz.prog 73 #[v,u] w fun e w'=>e = .returned (.tuple #[.bool false,.agg #[.int .i64 2,.int .i64 0]])∧Below w.heap.size w w':=by
 (have hck:=fun v (w:World) h=>QCM f v w h);rw [hcf] at hck;(have hlI:(1000:Int) < (l.length:Int):=by omega);obtain⟨k,n,ks⟩:=f;obtain⟨sl,cap,rfl⟩:=QAU hrep;have HC:Hid (∀ v w,_→Calls Tryz.prog 112 #[v] w _):=hck;have HU:Hid (SL w u l):=hu;obtain⟨adL,cpL,rfl,hl1,hl2,-⟩:=hu;clear hck hcf
 go_enter Tryz.func73,Tryz.ntmps73
 go_wp2_with (first
  | (
    go_at_call 112
    refine (HC.out _ _ ((hrep.more _).more _)).mono ?_;rintro e w1 ⟨rfl,hb1⟩;have z1:=hb1.size;simp at z1;have q0:=QAA hb1 (QAG (QAH w _) _);have q1:=QAA hb1 (QAH (w.alloc _) _);(rw [show (w.alloc _).heap.size=w.heap.size+1 by simp] at q1);have B1:=QAC (QAB (QAB (Below.refl _ w) _) _) hb1;obtain⟨k1,k2,k3,k4⟩:=QAV q1;obtain⟨a0,a1,a2,-⟩:=QAb q0;have y0:w.heap.size < w1.heap.size:=QAE q0;(have d1:¬ w.heap.size+1=w1.heap.size:=by omega);(have d2:¬ w1.heap.size=w.heap.size+1:=by omega)
    have d3:w.heap.size+1 < w1.heap.size:=by omega)
  | fail)
 have f2:=QCO q1 (.int .i64 2) (.int .i64 0);(have b2:=(B1.setCell (p:=⟨w.heap.size+1,0,none⟩) (by simp) (.int .i64 2)).setCell (p:=⟨w.heap.size+1,1,none⟩) (by simp) (.int .i64 0));(have hsz:((w1.setCell ⟨w.heap.size+1,0,none⟩ (.int .i64 2)).setCell ⟨w.heap.size+1,1,none⟩ (.int .i64 0)).heap.size=w1.heap.size:=by simp [World.setCell]);generalize World.setCell _ _ _=F at f2 b2 hsz ⊢;clear k1 k2 k3 k4;obtain⟨k1,k2,-⟩:=QAV f2;(have d4:w.heap.size+1 < F.heap.size:=by omega);(exact bodyPost_ret (v := .tuple #[.bool false,.agg #[.int .i64 2,.int .i64 0]]) (by simp [results,Tryz.results73,go_sem,k1,k2,d4]) rfl ⟨rfl,b2.alloc (by omega) _⟩)
set_option maxHeartbeats 2000000 in
theorem QJx (f:Fm) (l:List (List UInt8)) (v u:Value) (w:World) (hrep:Rep w (fun _=>True) f v) (hu:SL w u l) (hcf:f.pcode=(0,0)) (hl:l.length≤1000) (hmx:∀ t∈l,t.length≤maxLen) (i:Nat) (hi:QEU (fun t=>!QBt t) l=((i:Nat):Int)) :
  Calls Tryz.prog 73 #[v,u] w fun e w'=>e = .returned (.tuple #[.bool false,.agg #[.int .i64 8,.int .i64 (i:Nat)]])∧Below w.heap.size w w':=by
 (have hck:=fun v (w:World) h=>QCM f v w h);rw [hcf] at hck;(have hix:=fun v (w:World) h=>QEy QFp l hmx v w h trivial);rw [hi] at hix;have HI:Hid (∀ v w,SL w v l→Calls Tryz.prog 107 #[v,.func (.func 113) #[] #[]] w _):=hix;(have hlI:(l.length:Int)≤1000:=by omega);clear hix hi;obtain⟨k,n,ks⟩:=f;obtain⟨sl,cap,rfl⟩:=QAU hrep;have HC:Hid (∀ v w,_→Calls Tryz.prog 112 #[v] w _):=hck;have HU:Hid (SL w u l):=hu;obtain⟨adL,cpL,rfl,hl1,hl2,-⟩:=hu;clear hck hcf
 go_enter Tryz.func73,Tryz.ntmps73
 go_wp2_with (first
  | (
    go_at_call 112
    refine (HC.out _ _ ((hrep.more _).more _)).mono ?_;rintro e w1 ⟨rfl,hb1⟩;have z1:=hb1.size;simp at z1;have q0:=QAA hb1 (QAG (QAH w _) _);have q1:=QAA hb1 (QAH (w.alloc _) _);(rw [show (w.alloc _).heap.size=w.heap.size+1 by simp] at q1);have B1:=QAC (QAB (QAB (Below.refl _ w) _) _) hb1;obtain⟨k1,k2,k3,k4⟩:=QAV q1;obtain⟨a0,a1,a2,-⟩:=QAb q0;have y0:w.heap.size < w1.heap.size:=QAE q0;(have d1:¬ w.heap.size+1=w1.heap.size:=by omega);(have d2:¬ w1.heap.size=w.heap.size+1:=by omega)
    have d3:w.heap.size+1 < w1.heap.size:=by omega)
  | (
    go_at_call 107
    refine (HI.out _ _ ((HU.out.up B1).up ((Below.refl _ _).alloc (Nat.le_refl _) _))).mono ?_;rintro e w2 ⟨rfl,hb2⟩;have r1:=QAA hb2 (QAG q1 _);have r0:=QAA hb2 (QAG q0 _);have B2:=QAC (QAB B1 _) hb2;have l1:=QAE r1;have l0:=QAE r0;clear k1 k2 k3 k4 a0 a1 a2;obtain⟨a0,a1,a2,-⟩:=QAb r0
    obtain⟨k1,k2,k3,k4⟩:=QAV r1)
  | fail)
 have f2:=QCO r1 (.int .i64 8) (.int .i64 (i:Nat));(have b2:=(B2.setCell (p:=⟨w.heap.size+1,0,none⟩) (by simp) (.int .i64 8)).setCell (p:=⟨w.heap.size+1,1,none⟩) (by simp) (.int .i64 (i:Nat)));(have hsz:((w2.setCell ⟨w.heap.size+1,0,none⟩ (.int .i64 8)).setCell ⟨w.heap.size+1,1,none⟩ (.int .i64 (i:Nat))).heap.size=w2.heap.size:=by simp [World.setCell]);generalize World.setCell _ _ _=F at f2 b2 hsz ⊢;clear k1 k2 k3 k4;obtain⟨k1,k2,-⟩:=QAV f2;(exact bodyPost_ret (v := .tuple #[.bool false,.agg #[.int .i64 8,.int .i64 (i:Nat)]]) (by simp [results,Tryz.results73,go_sem,k1,k2]) rfl ⟨rfl,b2⟩)
set_option maxHeartbeats 2000000 in
theorem QLo (f:Fm) (l:List (List UInt8)) (v u:Value) (w:World) (hrep:Rep w (fun _=>True) f v) (hu:SL w u l) (hcf:f.pcode=(0,0)) (hl:l.length≤1000) (hmx:∀ t∈l,t.length≤maxLen) (hi:l.any (fun t=>!QBt t)=false) :
  Calls Tryz.prog 73 #[v,u] w fun e w'=>e = .returned (.tuple #[.bool (tv (fun t=>decide (t∈l)) f),.agg #[.int .i64 0,.int .i64 0]])∧Below w.heap.size w w':=by
 (have hck:=fun v (w:World) h=>QCM f v w h);rw [hcf] at hck;(have hix:=fun v (w:World) h=>QEy QFp l hmx v w h trivial);(have hi1:QEU (fun t=>!QBt t) l = -1:=by unfold QEU;rw [hi];rfl);rw [hi1] at hix
 have hsm:∀ t∈l,t.length≤8:=fun t ht=>by
  have:=List.any_eq_false.1 hi t ht;(have:=QKN (l:=t) (by simpa using this));omega
 (obtain⟨⟨s,hs⟩,hpl,-⟩:=QDN (f:=f) (by rw [hcf]));(have htr:=fun cb v (w:World) h o=>QJN (QOa cb l) f v w (QCy f 0 s hs) hpl h o);(generalize tv (fun t=>decide (t∈l)) f=bb at *);have HI:Hid (∀ v w,SL w v l→Calls Tryz.prog 107 #[v,.func (.func 113) #[] #[]] w _):=hix;(have HPl:Hid (∀ v w,SL w v l→Calls Tryz.prog 114 #[v] w _):=fun v w h=>QHX l hl hsm v w h);(have HTr:Hid (∀ cb v w,Rep w (fun _=>True) f v→OkV cb l w→Calls Tryz.prog 116 _ w _):=htr);(have hmf:∀ (fn:Fn) (first cap:Array Value) (w:World),(Instr.makeFunc fn first cap).run Tryz.prog w = .ok (.func fn first cap) w:=fun _ _ _ _=>rfl);(have hlI:(l.length:Int)≤1000:=by omega);clear hix hi hi1 htr hsm hs;obtain⟨k,n,ks⟩:=f;obtain⟨sl,cap,rfl⟩:=QAU hrep;have HC:Hid (∀ v w,_→Calls Tryz.prog 112 #[v] w _):=hck;have HU:Hid (SL w u l):=hu;obtain⟨adL,cpL,rfl,hl1,hl2,-⟩:=hu;clear hck hcf
 go_enter Tryz.func73,Tryz.ntmps73
 go_wp2_with (first
  | (
    go_at_call 112
    refine (HC.out _ _ ((hrep.more _).more _)).mono ?_;rintro e w1 ⟨rfl,hb1⟩;have z1:=hb1.size;simp at z1;have q0:=QAA hb1 (QAG (QAH w _) _);have q1:=QAA hb1 (QAH (w.alloc _) _);(rw [show (w.alloc _).heap.size=w.heap.size+1 by simp] at q1);have B1:=QAC (QAB (QAB (Below.refl _ w) _) _) hb1;obtain⟨k1,k2,k3,k4⟩:=QAV q1;obtain⟨a0,a1,a2,-⟩:=QAb q0;have y0:w.heap.size < w1.heap.size:=QAE q0;(have d1:¬ w.heap.size+1=w1.heap.size:=by omega);(have d2:¬ w1.heap.size=w.heap.size+1:=by omega)
    have d3:w.heap.size+1 < w1.heap.size:=by omega)
  | (
    go_at_call 107
    refine (HI.out _ _ ((HU.out.up B1).up ((Below.refl _ _).alloc (Nat.le_refl _) _))).mono ?_;rintro e w2 ⟨rfl,hb2⟩;have r1:=QAA hb2 (QAG q1 _);have r0:=QAA hb2 (QAG q0 _);have B2:=QAC (QAB B1 _) hb2;have l1:=QAE r1;have l0:=QAE r0;clear k1 k2 k3 k4 a0 a1 a2;obtain⟨a0,a1,a2,-⟩:=QAb r0
    obtain⟨k1,k2,k3,k4⟩:=QAV r1)
  | (
    go_at_call 114
    refine (HPl.out _ _ (HU.out.up B2)).mono ?_;rintro e w3 ⟨rfl,hpm,hb3⟩;have HPM:Hid (PM w3 w2.heap.size l):=hpm;have s1:=QAA hb3 r1;have s0:=QAA hb3 r0;have B3:=QAC B2 hb3;have m1:=QAE s1;have m0:=QAE s0;clear k1 k2 k3 k4 a0 a1 a2 hpm;obtain⟨a0,a1,a2,-⟩:=QAb s0
    obtain⟨k1,k2,k3,k4⟩:=QAV s1)
  | (
    go_at_call 116
    refine (HTr.out w3.heap.size _ _ (hrep.up (QAB B3 _)) ⟨w2.heap.size,QAH _ _,HPM.out.up ((Below.refl _ _).alloc (Nat.le_refl _) _)⟩).mono ?_;rintro e w4 ⟨rfl,hb4⟩;have t1:=QAA hb4 (QAG s1 _);have B4:=QAC (QAB B3 _) hb4;have n1:=QAE t1;clear k1 k2 k3 k4 a0 a1 a2
    obtain⟨k1,k2,k3,k4⟩:=QAV t1)
  | fail)
 have f2:=QCO t1 (.int .i64 0) (.int .i64 0);(have b2:=(B4.setCell (p:=⟨w.heap.size+1,0,none⟩) (by simp) (.int .i64 0)).setCell (p:=⟨w.heap.size+1,1,none⟩) (by simp) (.int .i64 0));(have hsz:((w4.setCell ⟨w.heap.size+1,0,none⟩ (.int .i64 0)).setCell ⟨w.heap.size+1,1,none⟩ (.int .i64 0)).heap.size=w4.heap.size:=by simp [World.setCell]);generalize World.setCell _ _ _=F at f2 b2 hsz ⊢;clear k1 k2 k3 k4;obtain⟨k1,k2,-⟩:=QAV f2;(exact bodyPost_ret (v := .tuple #[.bool bb,.agg #[.int .i64 0,.int .i64 0]]) (by simp [results,Tryz.results73,go_sem,k1,k2]) rfl ⟨rfl,b2⟩)
theorem QLm (f:Fm) (l:List (List UInt8)) (hmx:∀ t∈l,t.length≤maxLen) (v u:Value) (w:World) (hrep:Rep w (fun _=>True) f v) (hu:SL w u l) :
  Calls Tryz.prog 73 #[v,u] w fun e w'=>e = .returned (.tuple #[.bool (decide ((QGz f l).1=0) && tv (fun t=>decide (t∈l)) f),.agg #[.int .i64 (QGz f l).1,.int .i64 (QGz f l).2]])∧Below w.heap.size w w':=by
 unfold QGz;by_cases hp:f.pcode.1=0
 ·have hp':=(QDN hp).2.2
  rw [if_pos hp];by_cases hl:1000 < l.length
  ·rw [if_pos hl]
   exact QJw f l v u w hrep hu hp' hl
  ·rw [if_neg hl]
   rcases hi:l.any (fun t=>!QBt t) with _|_
   ·simp only [Bool.false_eq_true,if_false]
    (exact QLo f l v u w hrep hu hp' (by omega) hmx hi)
   ·simp only [if_true]
    (exact QJx f l v u w hrep hu hp' (by omega) hmx _ (if_pos hi))
 ·rw [if_neg hp]
  have:=QLn f l v u w hrep hu f.pcode.1 f.pcode.2 hp rfl;rw [decide_eq_false hp];exact this
set_option maxHeartbeats 1000000 in
theorem QMM (k:Int) (f g:Fm) (v u:Value) (w:World) (hv:Rep w (fun _=>True) f v) (hu:Rep w (fun _=>True) g u) :
  Calls Tryz.prog 43 #[.int .i64 k,v,u] w fun e w'=>∃ x,e = .returned x∧Rep w' (fun _=>True) (.mk k ⟨#[]⟩ [f,g]) x∧Below w.heap.size w w':=by
 obtain⟨k1,n1,ks1⟩:=f;obtain⟨k2,n2,ks2⟩:=g;obtain⟨sl1,cp1,rfl⟩:=QAU hv;obtain⟨sl2,cp2,rfl⟩:=QAU hu;(have HV:Hid (Rep w (fun _=>True) (.mk k1 n1 ks1) (.agg #[.int .i64 k1,.string n1,.slice sl1 ks1.length cp1])):=hv);(have HU:Hid (Rep w (fun _=>True) (.mk k2 n2 ks2) (.agg #[.int .i64 k2,.string n2,.slice sl2 ks2.length cp2])):=hu);clear hv hu
 go_enter Tryz.func43,Tryz.ntmps43
 go_wp2_with fail;have q:=QAH (((w.alloc (.cells #[.int .i64 k1,.string n1,.slice sl1 ks1.length cp1] 29 (0,0))).alloc (.cells #[.int .i64 k2,.string n2,.slice sl2 ks2.length cp2] 29 (0,0))).alloc (.cells #[.int .i64 k,.string ⟨#[]⟩,.slice (some ⟨w.heap.size+1+1+1,0,none⟩) 2 2] 29 (0,0))) (.cells #[.int .i64 k1,.string n1,.slice sl1 ks1.length cp1,.int .i64 k2,.string n2,.slice sl2 ks2.length cp2] 29 (0,0));(rw [show (((w.alloc (.cells #[.int .i64 k1,.string n1,.slice sl1 ks1.length cp1] 29 (0,0))).alloc (.cells #[.int .i64 k2,.string n2,.slice sl2 ks2.length cp2] 29 (0,0))).alloc (.cells #[.int .i64 k,.string ⟨#[]⟩,.slice (some ⟨w.heap.size+1+1+1,0,none⟩) 2 2] 29 (0,0))).heap.size=w.heap.size+1+1+1 by simp] at q);have B:=QAB (QAB (QAB (QAB (Below.refl _ w) (.cells #[.int .i64 k1,.string n1,.slice sl1 ks1.length cp1] 29 (0,0))) (.cells #[.int .i64 k2,.string n2,.slice sl2 ks2.length cp2] 29 (0,0))) (.cells #[.int .i64 k,.string ⟨#[]⟩,.slice (some ⟨w.heap.size+1+1+1,0,none⟩) 2 2] 29 (0,0))) (.cells #[.int .i64 k1,.string n1,.slice sl1 ks1.length cp1,.int .i64 k2,.string n2,.slice sl2 ks2.length cp2] 29 (0,0));(exact bodyPost_ret (v := .agg #[.int .i64 k,.string ⟨#[]⟩,.slice (some ⟨w.heap.size+1+1+1,0,none⟩) 2 2]) (by simp [results,Tryz.results43,go_sem]) rfl ⟨_,rfl,Rep.two q trivial (HV.out.up B) (HU.out.up B),B⟩)
def fP:Fm := .mk 1 ⟨#[112]⟩ []
def fQ:Fm := .mk 1 ⟨#[113]⟩ []
def QCL:List Fm→Int × Int
 | []=>(0,0)
 | f :: fs=>if f.pcode.1=0 then QCL fs else f.pcode
theorem QIX {fs:List Fm} {i:Nat} {f:Fm} (h:fs[i]? = some f):QCL (fs.drop i)=if f.pcode.1=0 then QCL (fs.drop (i+1)) else f.pcode:=by
 have hi:i < fs.length:=by
  rcases Nat.lt_or_ge i fs.length with h' | h'
  ·exact h'
  ·rw [List.getElem?_eq_none h'] at h;cases h
 rw [List.drop_eq_getElem_cons hi,QCL];rw [List.getElem?_eq_getElem hi] at h;rw [Option.some.inj h]
theorem QLL {l:List Fm} {i:Nat} {f:Fm} (h:l[i]? = some f) (a:Nat):QBu (l.drop i) a=if isM f.kind then (a,true) else QBu (l.drop (i+1)) (a+1):=by
 have hi:i < l.length:=by
  rcases Nat.lt_or_ge i l.length with h' | h'
  ·exact h'
  ·rw [List.getElem?_eq_none h'] at h;cases h
 rw [List.drop_eq_getElem_cons hi,QBu];rw [List.getElem?_eq_getElem hi] at h;rw [Option.some.inj h]
set_option maxHeartbeats 1000000 in
theorem QDy (c a:Int) (w:World):Calls Tryz.prog 14 #[.int .i64 c,.int .i64 a] w fun e w'=>e = .returned (.agg #[.int .i64 c,.int .i64 a])∧Below w.heap.size w w':=by
 have B:=QAB (Below.refl _ w) (.cells #[.int .i64 c,.int .i64 a] 35 (0,0))
 go_enter Tryz.func14,Tryz.ntmps14
 go_wp2_with fail;(exact bodyPost_ret (v := .agg #[.int .i64 c,.int .i64 a]) (by simp [results,Tryz.results14,go_sem]) rfl ⟨rfl,B⟩)
theorem QNp (f:Fm) (h:f.size≤200):QBH f 300=QBx f:=by
 (rw [QDc,List.take_of_length_le (by rw [QDf];omega)])
set_option maxHeartbeats 4000000 in
theorem QFn (fs:List Fm) (hl:fs.length≤1000) (v:Value) (w:World) (hv:FL w v fs) :
  Calls Tryz.prog 34 #[v] w fun e w'=>e = .returned (.agg #[.int .i64 (QCL fs).1,.int .i64 (QCL fs).2])∧Below w.heap.size w w':=by
 obtain⟨ad,cap,rfl,h1,h2,h3⟩:=hv;(have H3:Hid (fs≠[]→∃ b off,ad=some ⟨b,off,none⟩∧Reps w (fun _=>True) b off fs):=h3);(have hlI:(fs.length:Int)≤1000:=by omega);have HT:Hid (QCL fs=QCL (fs.drop 0)):=rfl;generalize QCL fs=tc at *;have q0:=QAH w (.cells #[.int .i64 0,.int .i64 0] 35 (0,0));have B0:=QAB (Below.refl _ w) (.cells #[.int .i64 0,.int .i64 0] 35 (0,0));clear h3
 go_enter Tryz.func34,Tryz.ntmps34
 go_wp2_with fail
 go_loopg [3] fs.length (fun gk c wr=>∃ i,i≤fs.length∧gk=fs.length - i∧c = .int .i64 (i:Nat)∧Below w.heap.size w wr∧wr.heap[w.heap.size]? = some (.cells #[.int .i64 0,.int .i64 0] 35 (0,0))∧Hid (tc=QCL (fs.drop i)))
 case atStart=>exact⟨0,by omega,by omega,rfl,B0,q0,HT⟩
 case round =>
  obtain⟨i,hi,hg,rfl,hbr,q1,HW⟩:=hrel;have HG:Hid (gk=fs.length - i):=hg;clear hg HT;have z1:=QAE q1;by_cases hlt:i < fs.length
  ·obtain⟨⟨k2,n2,ks2⟩,hki⟩:∃ f,fs[i]? = some f:=⟨_,List.getElem?_eq_getElem hlt⟩
   (obtain⟨b,off,rfl,hrs⟩:=H3.out (fun e=>by rw [e] at hlt;simp at hlt));obtain⟨sl2,cap2,g0,g1,g2,hrep2⟩:=(hrs.up hbr).at i k2 n2 ks2 hki;(have hltI:(i:Int) < (fs.length:Int):=by omega);(have hlc:(i:Int) < (cap:Int):=by omega);have HDr:=HW.out;rw [QIX hki] at HDr;(have hrf:=fun v (w:World) h=>QJh (.mk k2 n2 ks2) v w h);have zb:=QAI g0;clear hki hrs H3 HW;by_cases hc:(Fm.mk k2 n2 ks2).code.1=0
   ·obtain⟨s,hs⟩:=QFZ _ hc
    have hcz:=QGM hc;rw [hcz] at hrf;have hsz:=QFX hs;(have hwk:=fun v (w:World) h=>QEi (.mk k2 n2 ks2) v 300 w (by omega) h);rw [QNp _ hsz] at hwk
    have hpc:(Fm.mk k2 n2 ks2).pcode=if (QBu (QBx (.mk k2 n2 ks2)) 0).2 then ((4:Int),(((QBu (QBx (.mk k2 n2 ks2)) 0).1:Nat):Int)) else (0,0):=by
     unfold Fm.pcode;rw [if_pos hc,QDK]
    (have hnl:(QBx (.mk k2 n2 ks2)).length≤200:=by rw [QDf];exact hsz);rw [hpc] at HDr;have HD:Hid (tc=_):=HDr;have HR:Hid (∀ v w,_→Calls Tryz.prog 77 #[v] w _):=hrf;have HWk:Hid (∀ v w,_→Calls Tryz.prog 55 _ w _):=hwk;clear hrf hwk HDr hpc hs hsz hcz hc;generalize QBx (.mk k2 n2 ks2)=nodes at *
    go_wp2_with (first
     | (
       go_at_call 77
       refine (HR.out _ _ hrep2).mono ?_;rintro e w2 ⟨rfl,hb2⟩;have q2:=QAA hb2 q1;have z2:=QAE q2;have e0:=(hb2.cell (p:=⟨b,off+i * 3,none⟩) zb).trans g0;have e1:=(hb2.cell (p:=⟨b,off+i * 3+1,none⟩) zb).trans g1;have e2:=(hb2.cell (p:=⟨b,off+i * 3+2,none⟩) zb).trans g2;have zb2:=QAI e0;simp only at zb2
       have B2:=QAC hbr hb2)
     | (
       go_at_call 55
       refine (HWk.out _ _ ((hrep2.up hb2).more _)).mono ?_;rintro e w3 ⟨x,rfl,hlo,hb3⟩;obtain⟨g,cp,rfl,hc1,hc2,hrs⟩:=hlo.reps;(have HS:Hid (Reps w3 (fun _=>True) g 0 nodes):=hrs);have q3:=QAA hb3 (QAG q2 _);have z3:=QAE q3;have B3:=QAC (QAB B2 _) hb3
       clear hlo hrs)
     | fail)
    (have hNI:(nodes.length:Int)≤200:=by omega)
    go_loopg [6] nodes.length (fun gk c wz=>∃ j,j≤nodes.length∧gk=nodes.length - j∧c = .int .i64 (j:Nat)∧Below w3.heap.size w3 wz∧Hid (QBu nodes 0=QBu (nodes.drop j) j))
    case atStart=>exact⟨0,by omega,by omega,rfl,Below.refl _ _,by show _=_;rfl⟩
    case round =>
     obtain⟨j,hj,hg2,rfl,hbz,HY⟩:=hrel;have HG2:Hid (gk=nodes.length - j):=hg2;clear hg2 e0 e1 e2 g0 g1 g2;have q4:=QAA hbz q3;have z4:=QAE q4;have B4:=QAC B3 hbz;by_cases hjl:j < nodes.length
     ·obtain⟨⟨k3,n3,ks3⟩,hkj⟩:∃ f,nodes[j]? = some f:=⟨_,List.getElem?_eq_getElem hjl⟩
      obtain⟨sl3,cap3,p0,p1,p2,-⟩:=(HS.out.up hbz).at j k3 n3 ks3 hkj;rw [Nat.zero_add] at p0 p1 p2;(have hjI:(j:Int) < (nodes.length:Int):=by omega);(have hjc:(j:Int) < (cp:Int):=by omega);have hY:=HY.out;rw [QLL hkj] at hY;have hisM:isM (Fm.mk k3 n3 ks3).kind=(decide (k3=8) || decide (k3=9)):=rfl;rw [hisM] at hY;clear hkj HY hisM p1 p2;by_cases h8:k3=8∨k3=9
      ·have hb:(decide (k3=8) || decide (k3=9))=true:=by simpa using h8
       rw [hb] at hY
       have HF:Hid (tc=(4,((j:Nat):Int))):=by
        show _=_;rw [HD.out,hY];rfl
       (have f2:=fun (w5:World) (h:w5.heap[w.heap.size]? = some (.cells #[.int .i64 0,.int .i64 0] 35 (0,0)))=>QCO h (.int .i64 4) (.int .i64 (j:Nat)));(have HFm:Hid (∀ w,Calls Tryz.prog 14 #[.int .i64 4,.int .i64 (j:Nat)] w _):=fun w=>QDy 4 (j:Nat) w);clear hY hb HD;(have h9:k3=8∨(¬ k3=8∧k3=9):=by omega)
       rcases h9 with rfl|⟨h8',rfl⟩
       all_goals
        go_wp2_with (first
         | (
           go_at_call 14
           refine (HFm.out _).mono ?_;rintro e w5 ⟨rfl,hb5⟩;have q5:=QAA hb5 q4;have B5:=QAC B4 hb5
           obtain⟨k1,k2',k3',k4⟩:=QAV q5)
         | fail)
        have f3:=f2 _ q5;(have b2:=(B5.setCell (p:=⟨w.heap.size,0,none⟩) (by simp) (.int .i64 4)).setCell (p:=⟨w.heap.size,1,none⟩) (by simp) (.int .i64 (j:Nat)));generalize World.setCell _ _ _=F at f3 b2 ⊢;clear k1 k2' k3' k4;obtain⟨k1,k2',-⟩:=QAV f3;(exact bodyPost_ret (v := .agg #[.int .i64 4,.int .i64 (j:Nat)]) (by simp [results,Tryz.results34,go_sem,k1,k2']) rfl ⟨by rw [HF.out],b2⟩)
      ·have hb:(decide (k3=8) || decide (k3=9))=false:=by simpa using h8
       rw [hb] at hY;have HN:Hid (QBu nodes 0=QBu (nodes.drop (j+1)) (j+1)):=hY;(have h8':(k3 == 8)=false:=by simp;omega);(have h9':(k3 == 9)=false:=by simp;omega);clear hY hb h8;go_wp2_with fail
       go_roundg (nodes.length - (j+1))
       case measure=>have:=HG2.out;omega
       case rel=>exact⟨j+1,by omega,rfl,by go_num,hbz,HN⟩
     ·have HN:Hid (tc=QCL (fs.drop (i+1))):=by
       show _=_;(rw [HD.out,HY.out,List.drop_of_length_le (by omega),QBu]);rfl
      (have hge:¬ (j:Int) < (nodes.length:Int):=by omega);clear HY HD;go_wp2_with fail
      go_roundg (fs.length - (i+1))
      case measure=>have:=HG.out;omega
      case rel=>exact⟨i+1,by omega,rfl,by go_num,B4,q4,HN⟩
   ·have hpc:(Fm.mk k2 n2 ks2).pcode=(Fm.mk k2 n2 ks2).code:=by unfold Fm.pcode;rw [if_neg hc]
    rw [hpc] at HDr;rw [if_neg hc] at HDr;have HD:Hid (tc=_):=HDr;generalize (Fm.mk k2 n2 ks2).code=cd at *;obtain⟨c,a⟩:=cd;(have hne':(c != 0)=true:=by simpa using hc);have HR:Hid (∀ v w,_→Calls Tryz.prog 77 #[v] w _):=hrf;clear hrf HDr hpc hc
    go_wp2_with (first
     | (
       go_at_call 77
       refine (HR.out _ _ hrep2).mono ?_;rintro e w2 ⟨rfl,hb2⟩;have q2:=QAA hb2 q1;have z2:=QAE q2;(have d1:¬ w.heap.size=w2.heap.size:=by omega);(have d2:¬ w2.heap.size=w.heap.size:=by omega);obtain⟨k1,k2',k3',k4⟩:=QAV q2
       have B2:=QAC hbr hb2)
     | fail)
    have f3:=QCO q2 (.int .i64 c) (.int .i64 a);(have b2:=(B2.setCell (p:=⟨w.heap.size,0,none⟩) (by simp) (.int .i64 c)).setCell (p:=⟨w.heap.size,1,none⟩) (by simp) (.int .i64 a));(have hsz:((w2.setCell ⟨w.heap.size,0,none⟩ (.int .i64 c)).setCell ⟨w.heap.size,1,none⟩ (.int .i64 a)).heap.size=w2.heap.size:=by simp [World.setCell]);generalize World.setCell _ _ _=F at f3 b2 hsz ⊢;clear k1 k2' k3' k4;obtain⟨k1,k2',-⟩:=QAV f3;(have d4:w.heap.size < F.heap.size:=by omega);(exact bodyPost_ret (v := .agg #[.int .i64 c,.int .i64 a]) (by simp [results,Tryz.results34,go_sem,k1,k2',d4]) rfl ⟨by rw [HD.out],b2.alloc (by omega) _⟩)
  ·have HF:Hid (tc=(0,0)):=by
    show _=_;(rw [HW.out,List.drop_of_length_le (by omega),QCL])
   (have hge:¬ (i:Int) < (fs.length:Int):=by omega);have f2:=QCO q1 (.int .i64 0) (.int .i64 0);(have b2:=(hbr.setCell (p:=⟨w.heap.size,0,none⟩) (by simp) (.int .i64 0)).setCell (p:=⟨w.heap.size,1,none⟩) (by simp) (.int .i64 0));obtain⟨k1,k2,k3,k4⟩:=QAV q1;clear HW H3;go_wp2_with fail;generalize World.setCell _ _ _=F at f2 b2 ⊢;clear k1 k2 k3 k4;obtain⟨k1,k2,-⟩:=QAV f2;(exact bodyPost_ret (v := .agg #[.int .i64 0,.int .i64 0]) (by simp [results,Tryz.results34,go_sem,k1,k2]) rfl ⟨by rw [HF.out],b2⟩)
instance:BEq Fm:=⟨QBN⟩
instance:LawfulBEq Fm where
 eq_of_beq:=fun {a b} h=>QFv a b h
 rfl:=fun {a}=>QCu a
instance:DecidableEq Fm:=fun a b=>if h:(a == b)=true then isTrue (eq_of_beq h) else isFalse fun e=>h (by rw [e];exact QCu b)
theorem QID (n:Fm) (fs:List Fm):QBJ n fs=true ↔ n∈fs:=by
 unfold QBJ;rw [List.any_eq_true]
 constructor
 ·rintro ⟨g,hg,h⟩
  rw [← QFv g n h];exact hg
 ·exact fun h=>⟨n,h,QCu n⟩
inductive Pf where
 | mk (rule:ByteArray) (f:Fm) (l r:List Fm) (ks:List Pf):Pf
def Pf.rule:Pf→ByteArray
 | .mk a _ _ _ _=>a
def Pf.l:Pf→List Fm
 | .mk _ _ l _ _=>l
def Pf.r:Pf→List Fm
 | .mk _ _ _ r _=>r
def QAi:List Fm→Nat→Int × Int
 | [],_=>(0,0)
 | f :: fs,i=>if f.pcode.1=0 then QAi fs (i+1) else (f.pcode.1,(i:Nat))
def QAd (l r:List Fm):Int × Int:=if 60 < l.length+r.length then (2,0) else QAi (l++r) 0
inductive Ru
 | ax|tr|fa|andL|andR|orL|thenR|notR|contrL|orR|thenL|notL|contrR|cut|orR1|orR2
 deriving DecidableEq
def Ru.text:Ru→List UInt8
 | ax=>[97,120]
 | tr=>[116,114,117,101]
 | fa=>[102,97,108,115,101]
 | andL=>[97,110,100,45,108]
 | andR=>[97,110,100,45,114]
 | orL=>[111,114,45,108]
 | thenR=>[116,104,101,110,45,114]
 | notR=>[110,111,116,45,114]
 | contrL=>[99,111,110,116,114,45,108]
 | orR=>[111,114,45,114]
 | thenL=>[116,104,101,110,45,108]
 | notL=>[110,111,116,45,108]
 | contrR=>[99,111,110,116,114,45,114]
 | cut=>[99,117,116]
 | orR1=>[111,114,45,114,49]
 | orR2=>[111,114,45,114,50]
def QBw:List UInt8:=[119,101,97,107]
def QON (i:Bool):List Ru:=[.ax,.tr,.fa,.andL,.andR,.orL,.thenR,.notR,.contrL]++if i then [.orR1,.orR2,.thenL,.notL,.cut] else [.orR,.thenL,.notL,.contrR,.cut]
def QBS (i:Bool) (t:List UInt8):Option Ru:=(QON i).find? fun r=>decide (r.text=t)
def Fm.kidA:Fm→Fm
 | .mk _ _ (a :: _)=>a
 | f=>f
def Fm.kidB:Fm→Fm
 | .mk _ _ (_ :: b :: _)=>b
 | f=>f
def QCw (i:Bool) (q:Ru) (f:Fm) (l r:List Fm):Option (List (List Fm × List Fm)) :=
 let g:=l.erase f
 let d:=r.erase f
 let a:=f.kidA
 let b:=f.kidB
 match q with
 | .ax=>if f∈l∧f∈r then some [] else none
 | .tr=>if f.kind=2∧f∈r then some [] else none
 | .fa=>if f.kind=3∧f∈l then some [] else none
 | .andL=>if f.kind=5∧f∈l then some [(g++[a,b],r)] else none
 | .andR=>if f.kind=5∧f∈r then some [(l,d++[a]),(l,d++[b])] else none
 | .orL=>if f.kind=6∧f∈l then some [(g++[a],r),(g++[b],r)] else none
 | .thenR=>if f.kind=7∧f∈r then some [(l++[a],d++[b])] else none
 | .notR=>if f.kind=4∧f∈r then some [(l++[a],d)] else none
 | .contrL=>if f∈l then some [(l++[f],r)] else none
 | .orR=>if f.kind=6∧f∈r then some [(l,d++[a,b])] else none
 | .thenL=>if f.kind=7∧f∈l then some [(g,if i then [a] else r++[a]),(g++[b],r)] else none
 | .notL=>if f.kind=4∧f∈l then some [(g,if i then [a] else r++[a])] else none
 | .contrR=>if f∈r then some [(l,r++[f])] else none
 | .cut=>some [(l,if i then [f] else r++[f]),(l++[f],r)]
 | .orR1=>if f.kind=6∧f∈r then some [(l,[a])] else none
 | .orR2=>if f.kind=6∧f∈r then some [(l,[b])] else none
def QBB:List Fm→List Fm→Bool
 | [],_=>true
 | f :: l,m=>decide (f∈m) && QBB l (m.erase f)
def QEB (l m:List Fm):Bool:=decide (l.length=m.length) && QBB l m
def QBq:List Pf→List (List Fm × List Fm)→Int
 | k :: ks,s :: ss=>if QEB k.l s.1 && QEB k.r s.2 then QBq ks ss else 7
 | _,_=>0
def QDT (f:Fm) (l r:List Fm) (ks:List Pf):Int :=
 if f = .mk 0 ⟨#[]⟩ [] then (match ks with
  | [k]=>if QBB k.l l && QBB k.r r then 0 else 7
  | _=>9) else 5
def QBa (i:Bool):Pf→Int
 | .mk a f l r ks =>
  if (QAd l r).1≠0∨(i=true∧1 < r.length) then 5
  else if a.data.toList=QBw then QDT f l r ks
  else match QBS i a.data.toList with
   | none=>4
   | some q=>if f.pcode.1≠0 then 5 else match QCw i q f l r with
    | none=>7
    | some ss=>if ks.length≠ss.length then 9 else QBq ks ss
mutual
def QCI (i:Bool):Pf→Nat→Nat→Nat→(Int × Int) × Nat × Nat
 | .mk a f l r ks,deep,steps,cuts =>
  if steps=20000∨400 < deep then ((2,0),steps,cuts)
  else if QBa i (.mk a f l r ks)≠0 then ((QBa i (.mk a f l r ks),(steps:Nat)),steps+1,cuts)
  else looks i ks (deep+1) (steps+1) (if a.data.toList=Ru.cut.text then cuts+1 else cuts)
def looks (i:Bool):List Pf→Nat→Nat→Nat→(Int × Int) × Nat × Nat
 | [],_,s,c=>((0,0),s,c)
 | k :: ks,d,s,c=>if (QCI i k d s c).1.1≠0 then QCI i k d s c else looks i ks d (QCI i k d s c).2.1 (QCI i k d s c).2.2
end
def QMG (l r:List Fm):Prop:=∀ p,(∀ f∈l,tv p f=true)→∃ g∈r,tv p g=true
theorem QCR:∀ (l m:List Fm),QBB l m=true ↔ ∀ f,l.count f≤m.count f
 | [],m=>by simp [QBB]
 | f :: l,m=>by
  rw [QBB,Bool.and_eq_true,decide_eq_true_eq,QCR l (m.erase f)]
  constructor
  ·rintro ⟨hm,h⟩ g
   have:=h g;rw [List.count_erase] at this;rw [List.count_cons];have hp:=List.count_pos_iff.2 hm;by_cases e:f == g
   ·have e':f=g:=eq_of_beq e
    subst e';simp only [beq_self_eq_true,if_true] at this ⊢;omega
   ·rw [if_neg e] at *
    omega
  ·intro h
   have hf:=h f;rw [List.count_cons_self] at hf;(refine⟨List.count_pos_iff.1 (by omega),fun g => ?_⟩);have:=h g;rw [List.count_cons] at this;rw [List.count_erase];by_cases e:f == g
   ·rw [if_pos e] at *
    omega
   ·rw [if_neg e] at *
    omega
theorem QFa {l m:List Fm} (hl:l.length=m.length) (h:QBB l m=true):l.Perm m:=by
 induction l generalizing m with
 | nil =>
  (have:m=[]:=List.length_eq_zero_iff.1 (by simpa using hl.symm))
  rw [this]
 | cons f l ih =>
  rw [QBB,Bool.and_eq_true,decide_eq_true_eq] at h;have hm:=h.1
  have:=ih (m:=m.erase f) (by
   have:=List.length_erase_of_mem hm;simp only [List.length_cons] at hl
   omega) h.2
  exact (List.Perm.cons f this).trans (List.perm_cons_erase hm).symm
theorem QDI (l m:List Fm):QEB l m=true ↔ l.Perm m:=by
 unfold QEB;rw [Bool.and_eq_true,decide_eq_true_eq]
 constructor
 ·exact fun h=>QFa h.1 h.2
 ·exact fun h=>⟨h.length_eq,(QCR l m).2 fun f=>Nat.le_of_eq (h.count_eq f)⟩
theorem QHw {f:Fm} (hf:Fine f) (hk:f.kind=4):∃ a,f = .mk 4 ⟨#[]⟩ [a]∧f.kidA=a∧Fine a:=by
 rcases hf.forms with ⟨n,rfl,hn⟩|rfl|rfl|⟨k,g,h,rfl,hg⟩|⟨k,g,g',h,rfl,hg,hg'⟩
 ·cases hk
 ·cases hk
 ·cases hk
 ·have:k=4:=hk
  subst this;exact⟨g,rfl,rfl,hg⟩
 ·have:k=4:=hk
  omega
theorem QHx {f:Fm} (hf:Fine f) (hk:f.kind=5∨f.kind=6∨f.kind=7):∃ a b,f = .mk f.kind ⟨#[]⟩ [a,b]∧f.kidA=a∧f.kidB=b∧Fine a∧Fine b:=by
 rcases hf.forms with ⟨n,rfl,hn⟩|rfl|rfl|⟨k,g,h,rfl,hg⟩|⟨k,g,g',h,rfl,hg,hg'⟩
 ·rcases hk with h|h|h <;> cases h
 ·rcases hk with h|h|h <;> cases h
 ·rcases hk with h|h|h <;> cases h
 ·have:k=5∨k=6∨k=7:=hk
  omega
 ·exact⟨g,g',rfl,rfl,rfl,hg,hg'⟩
open Go.RowKit
theorem QKU {ok:Nat→Prop} {w:World} {b:Nat}:∀ {fs:List Fm} {off:Nat},Reps w ok b off fs→∃ cs,LQ ok w cs fs∧∀ (j:Nat) (u:Value),cs[j]? = some u→w.cell? ⟨b,off+j,none⟩=some u
 | [],off,_=>⟨[],trivial,fun j u h=>by simp at h⟩
 | f :: fs,off,h=>by
  obtain⟨⟨c0,c1,c2,h0,h1,h2,hr⟩,hs⟩:=Reps.cons.1 h;obtain⟨cs,hl,hc⟩:=QKU hs;(refine⟨c0 :: c1 :: c2 :: cs,⟨hr,hl⟩,fun j u hu => ?_⟩)
  rcases j with _|_|_|j
  ·simp at hu;subst hu;exact h0
  ·simp at hu;subst hu;exact h1
  ·simp at hu;subst hu;exact h2
  ·have:=hc j u (by simpa using hu)
   (rw [show off+(j+1+1+1)=off+3+j by omega]);exact this
theorem LQ.one {ok:Nat→Prop} {w:World}:∀ {cs:List Value} {fs:List Fm},LQ ok w cs fs→∀ u∈cs,u.oneCell'=true
 | [],[],_,u,hu=>by cases hu
 | c0 :: c1 :: c2 :: cs,⟨k,n,ks⟩ :: fs,h,u,hu=>by
  obtain⟨sl,cap,hv,-⟩:=Rep.def.1 h.1;simp only [Value.agg.injEq,Array.mk.injEq,List.cons.injEq,and_true] at hv;obtain⟨rfl,rfl,rfl⟩:=hv;simp only [List.mem_cons] at hu
  rcases hu with rfl|rfl|rfl|hu
  ·rfl
  ·rfl
  ·rfl
  ·exact LQ.one h.2 u hu
def FLp (P:Nat→Prop) (w:World) (v:Value) (fs:List Fm):Prop:=∃ ad cap,v = .slice ad fs.length cap∧fs.length≤cap∧cap≤maxLen∧(fs≠[]→∃ b off,ad=some ⟨b,off,none⟩∧P b∧Reps w P b off fs)
theorem QGl {w w':World} {P P':Nat→Prop} {b:Nat} (h:∀ k,k < w.heap.size→P k→w'.heap[k]? = w.heap[k]? ∧ P' k) {off:Nat} {fs:List Fm} (hb:P b) (hr:Reps w P b off fs):Reps w' P' b off fs:=by
 cases fs with
 | nil=>exact Reps.nil
 | cons f fs =>
  obtain⟨⟨c0,_,_,h0,_⟩,_⟩:=Reps.cons.1 hr;(exact Reps.keep (fun a ha hlt=>QAQ (h a.block hlt ha).1) (fun k hk hp=>(h k hk hp).2) hb (QAI h0) off _ hr)
theorem FLp.move {w w':World} {P P':Nat→Prop} {v:Value} {fs:List Fm} (hf:FLp P w v fs) (h:∀ k,k < w.heap.size→P k→w'.heap[k]? = w.heap[k]? ∧ P' k):FLp P' w' v fs:=by
 obtain⟨ad,cap,h1,h2,h3,h4⟩:=hf;(refine⟨ad,cap,h1,h2,h3,fun hne => ?_⟩);obtain⟨b,off,h5,h6,h7⟩:=h4 hne
 have hlt:b < w.heap.size:=by
  cases fs with
  | nil=>exact absurd rfl hne
  | cons f fs =>
   obtain⟨⟨c0,_,_,h0,_⟩,_⟩:=Reps.cons.1 h7;exact QAI h0
 exact⟨b,off,h5,(h b hlt h6).2,QGl h h6 h7⟩
theorem FL.low {w:World} {v:Value} {fs:List Fm} (hf:FL w v fs):FLp (· < w.heap.size) w v fs:=by
 obtain⟨ad,cap,h1,h2,h3,h4⟩:=hf;(exact FLp.move (P:=fun _=>True) ⟨ad,cap,h1,h2,h3,fun hne=>by obtain⟨b,off,h5,h6⟩:=h4 hne;exact⟨b,off,h5,trivial,h6⟩⟩ fun k hk _=>⟨rfl,hk⟩)
theorem FLp.list {w:World} {P:Nat→Prop} {v:Value} {fs:List Fm} (hf:FLp P w v fs):FL w v fs:=by
 obtain⟨ad,cap,h1,h2,h3,h4⟩:=hf;(refine⟨ad,cap,h1,h2,h3,fun hne => ?_⟩);obtain⟨b,off,h5,h6,h7⟩:=h4 hne;(exact⟨b,off,h5,QGl (fun _ _ _=>⟨rfl,trivial⟩) h6 h7⟩)
theorem FLp.up {w w':World} {P:Nat→Prop} {v:Value} {fs:List Fm} (hf:FLp P w v fs) (hb:Below w.heap.size w w'):FLp P w' v fs:=hf.move fun k hk hp=>⟨hb.block k hk,hp⟩
theorem FLp.cells {P:Nat→Prop} {w:World} {ad:Option Addr} {cap:Nat} {fs:List Fm} (h:FLp P w (.slice ad fs.length cap) fs) (hne:fs≠[]):∃ b off cs,ad=some ⟨b,off,none⟩∧LQ P w cs fs∧∀ (j:Nat) (u:Value),cs[j]? = some u→w.cell? ⟨b,off+j,none⟩=some u:=by
 obtain⟨ad',cap',hv,-,-,h4⟩:=h;simp only [Value.slice.injEq,true_and] at hv;obtain⟨rfl,rfl⟩:=hv;obtain⟨b,off,h5,-,h6⟩:=h4 hne;obtain⟨cs,h7,h8⟩:=QKU h6;exact⟨b,off,cs,h5,h7,h8⟩
theorem QHR {P:Nat→Prop} {B:Nat} {w:World} {ad:Option Addr} {cap:Nat} {fs:List Fm} (h:KP P B w ad cap fs) (hPB:∀ b,B≤b→P b):FLp P w (.slice ad fs.length cap) fs:=by
 (obtain⟨sl',cap',hv,-,h1,h2,h3⟩:=Rep.def.1 (h.rep hPB 0 ⟨#[]⟩ (by simp [maxLen,ByteArray.size])));simp only [Value.agg.injEq,Array.mk.injEq,List.cons.injEq,Value.slice.injEq,true_and,and_true] at hv;obtain⟨rfl,rfl⟩:=hv;exact⟨ad,cap,rfl,h1,h2,h3⟩
set_option maxRecDepth 10000 in
set_option maxHeartbeats 2000000 in
theorem QLD (w:World) :
  Calls Tryz.prog 133 #[.slice none 0 0,.int .i64 0] w fun e w'=>e = .returned (.slice none 0 0)∧w'=w:=by
 go_enter Tryz.func133,Tryz.ntmps133
 go_wp2_with fail;go_ret;exact⟨rfl,rfl⟩
set_option maxRecDepth 10000 in
set_option maxHeartbeats 2000000 in
theorem QLC (n:Nat) (hn:0 < n) (hn2:n≤1000) (w:World) :
  Calls Tryz.prog 133 #[.slice none 0 0,.int .i64 (n:Nat)] w fun e w'=>∃ g cp,e = .returned (.slice (some ⟨g,0,none⟩) 0 cp)∧w'.ownsRow w.heap.size 29 3 (.slice (some ⟨g,0,none⟩) 0 cp) 0 []∧Below w.heap.size w w':=by
 obtain⟨i0,hi,hz0,hz1,hz2⟩:=QBb;(have hnI:(0:Int) < (n:Int):=by omega);(have hnJ:(n:Int)≤1000:=by omega)
 have hrz:∀ ty,(Builtin.append_ #[22,3] ty #[.slice none 0 0,.int .i64 (n:Nat)]).run Tryz.prog w = .ok (.slice (some ⟨w.heap.size,0,none⟩) n (grownCap w n 0 29)) (w.drew.alloc (.cells (#[]++Builtin.zeroCells (Value.agg #[.int .i64 0,.string ⟨#[]⟩,.slice none 0 0]).cells n++Builtin.zeroCells (Value.agg #[.int .i64 0,.string ⟨#[]⟩,.slice none 0 0]).cells (grownCap w n 0 29 - n)) 29)):=fun ty=>by
  (have h:=Lib.run_append_grow_zeros w 22 3 ty 29 i0 (.agg #[.int .i64 0,.string ⟨#[]⟩,.slice none 0 0]) .i64 .i64 Tryz.underlying22 Tryz.underlying3 hi hz0 none 0 0 [] (run_firstCells_none w.drew i0.size 0 0 0) n hn (by omega) (by omega) (by omega) (by rw [hz2];omega) (by rw [hz2];exact growslice_fits (by omega) (by omega)));simpa using h
 have hGn:n≤grownCap w n 0 29:=grownCap_ge w _ _ _;(have hGm:grownCap w n 0 29≤maxLen:=grownCap_le_maxLen w n 0 29 (by unfold maxLen;omega));generalize grownCap w n 0 29=G at *;(have hG63:(G:Int)≤9223372036854775807:=by unfold maxLen at hGm;omega)
 have hOw:(w.drew.alloc (.cells (#[]++Builtin.zeroCells (Value.agg #[.int .i64 0,.string ⟨#[]⟩,.slice none 0 0]).cells n++Builtin.zeroCells (Value.agg #[.int .i64 0,.string ⟨#[]⟩,.slice none 0 0]).cells (G - n)) 29)).ownsRow w.heap.size 29 3 (.slice (some ⟨w.heap.size,0,none⟩) 0 G) 0 []:=by
  refine⟨rfl,Or.inr ⟨w.heap.size,G,_,rfl,Nat.le_refl _,QAH _ _,Nat.zero_le _,hGm,?_,rfl⟩⟩;have h3:(Value.agg #[.int .i64 0,.string ⟨#[]⟩,.slice none 0 0]).cells.size=3:=rfl;rw [Array.size_append,Array.size_append,size_zeroCells,size_zeroCells,h3];simp only [Array.size_empty];omega
 have HOw:Hid (World.ownsRow _ _ _ _ _ _ _):=hOw;have hBw:Below w.heap.size w (w.drew.alloc (.cells (#[]++Builtin.zeroCells (Value.agg #[.int .i64 0,.string ⟨#[]⟩,.slice none 0 0]).cells n++Builtin.zeroCells (Value.agg #[.int .i64 0,.string ⟨#[]⟩,.slice none 0 0]).cells (G - n)) 29)):=QAB (Below.refl _ w).drew _;generalize w.drew.alloc _=W at *;clear hOw hz0 hz1 hz2 hi
 go_enter Tryz.func133,Tryz.ntmps133
 go_wp2_with (first
  | (
    at_builtin
    refine Lib.wpList_append_run _ rfl _ _ _ _ rfl _ _ rfl rfl _ _ (hrz _) ?_)
  | fail)
 all_goals
  go_ret;exact⟨_,_,rfl,HOw.out,hBw⟩
end Go.Proofs.YtbmedfokpgghiacGreat
