import Derived.Test.YtffkoiemnchdgadGreatB16
import Derived.Test.YtffkoiemnchdgadGreatB17
import Derived.Deep.RegionLaw
import Derived.Lib.SliceRun
namespace Go.Proofs.YtffkoiemnchdgadGreat
open Go.RowKit
theorem QCM (A:Nat) (l r:List Fm) (hl:l.length≤400) (hr:r.length≤400) (v u:Value) (b:Nat) (w:World) (hA:A≤w.heap.size) (hv:FLp (· < A) w v l) (hu:FLp (· < A) w u r) (hb:w.heap[b]? = some (.cells #[v,u] 22 (0,0))) :
  Calls Tryz.prog 83 #[.slice (some ⟨b,0,none⟩) 2 2] w fun e w'=>∃ x,e = .returned x∧FLp (fun b=>b < A∨w.heap.size≤b) w' x (l++r)∧Below w.heap.size w w':=by
 refine (QGh A l r hl hr v u b w hA hv hu hb).mono ?_;rintro e w' ⟨ad,cp,rfl,h,hB⟩;exact⟨_,rfl,h.flp hA,hB⟩
set_option maxHeartbeats 1000000 in
theorem QFq (A:Nat) (l m:List Fm) (hl:l.length≤400) (hm:m.length≤400) (v u:Value) (w:World) (hA:A≤w.heap.size) (hv:FLp (· < A) w v l) (hu:FLp (· < A) w u m) :
  Calls Tryz.prog 178 #[v,u] w fun e w'=>∃ x,e = .returned x∧FLp (fun b=>b < A∨w.heap.size≤b) w' x (l++m)∧Below w.heap.size w w':=by
 have B0:=QAA (Below.refl _ w) (.cells #[v,u] 22 (0,0));(have hc:=QCM A l m hl hm v u w.heap.size (w.alloc (.cells #[v,u] 22 (0,0))) (by simp;omega) (hv.up B0) (hu.up B0) (QAG _ _));have HC:Hid (Calls Tryz.prog 83 _ _ _):=hc;have HAw:Hid (A≤w.heap.size):=hA;obtain⟨ad,cp,rfl,-⟩:=hv;obtain⟨ad',cp',rfl,-⟩:=hu;clear hc hA
 go_enter Tryz.func178,Tryz.ntmps178
 go_wp2_with fail;refine HC.out.mono ?_;rintro e w1 ⟨x,rfl,hF,hb1⟩;(have HF:Hid (FLp (fun b=>b < A∨w.heap.size≤b) w1 x (l++m)):=hF.move fun k _ hk=>⟨rfl,hk.imp id fun h=>by simp at h;omega⟩);have B1:=QAC B0 hb1;clear hF;go_wp2_with fail;go_ret;exact⟨_,rfl,HF.out,B1⟩
theorem QAT (l m:List Fm) (hl:l.length≤400) (hm:m.length≤400) (v u:Value) (w:World) (hv:FL w v l) (hu:FL w u m) :
  Calls Tryz.prog 178 #[v,u] w fun e w'=>∃ x,e = .returned x∧FL w' x (l++m)∧Below w.heap.size w w':=by
 refine (QFq w.heap.size l m hl hm v u w (Nat.le_refl _) hv.low hu.low).mono ?_;rintro e w' ⟨x,rfl,h,hB⟩;exact⟨x,rfl,h.list,hB⟩
theorem QIl (f:Fm):QFI f []=f.pcode:=by
 unfold QFI;by_cases h:f.pcode.1=0
 ·rw [if_pos h,(QCI h).2.2]
  simp
 ·rw [if_neg h]
set_option maxHeartbeats 1000000 in
theorem QCv (f:Fm) (v:Value) (w:World) (hrep:Rep w (fun _=>True) f v) :
  Calls Tryz.prog 84 #[v] w fun e w'=>e = .returned (.int .i64 f.pcode.1)∧Below w.heap.size w w':=by
 (have hva:=fun v u (w:World) h h'=>QIi f [] (fun t h=>by cases h) v u w h h');rw [QIl] at hva;generalize f.pcode=pc at *;obtain⟨k,n,ks⟩:=f;obtain⟨sl,cap,rfl⟩:=QAJ hrep;(have HV:Hid (∀ v u w,Rep w (fun _=>True) (.mk k n ks) v→SL w u []→Calls Tryz.prog 59 #[v,u] w _):=hva);obtain⟨c,a⟩:=pc;clear hva
 go_enter Tryz.func84,Tryz.ntmps84
 go_wp2_with fail;(refine (HV.out _ _ _ (hrep.more _) ⟨none,0,rfl,by simp,by simp,fun h=>absurd rfl h⟩).mono ?_);rintro e w1 ⟨rfl,hb1⟩;have B1:=QAC (QAA (Below.refl _ w) _) hb1;go_wp2_with fail;go_ret;exact⟨rfl,QAA B1 _⟩
theorem QHe (n:Fm) (fs:List Fm):isF n fs=fs.idxOf n:=rfl
theorem QFt {n:Fm} {fs:List Fm} (h:QAh n fs=true):fs.erase n=fs.take (isF n fs)++fs.drop (isF n fs+1)∧isF n fs < fs.length:=by
 have hm:=(QCF n fs).1 h;(refine⟨?_,by rw [QHe];exact List.idxOf_lt_length_of_mem hm⟩);rw [QHe,List.erase_eq_eraseIdx_of_idxOf rfl,List.eraseIdx_eq_take_drop_succ]
theorem QFB {P:Nat→Prop} {w:World} {b:Nat}:∀ {fs:List Fm} {off:Nat} (i:Nat),Reps w P b off fs→Reps w P b off (fs.take i)
 | [],_,i,_=>by rw [List.take_nil];exact Reps.nil
 | f :: fs,off,0,_=>Reps.nil
 | f :: fs,off,i+1,h=>by
  rw [List.take_succ_cons];rw [Reps.cons] at h ⊢;exact⟨h.1,QFB i h.2⟩
theorem QEz {P:Nat→Prop} {w:World} {b:Nat}:∀ {fs:List Fm} {off:Nat} (i:Nat),Reps w P b off fs→Reps w P b (off+i * 3) (fs.drop i)
 | [],_,i,_=>by rw [List.drop_nil];exact Reps.nil
 | f :: fs,off,0,h=>by simpa using h
 | f :: fs,off,i+1,h=>by
  (rw [List.drop_succ_cons,show off+(i+1) * 3=off+3+i * 3 by omega]);exact QEz i (Reps.cons.1 h).2
theorem FLp.take {P:Nat→Prop} {w:World} {ad:Option Addr} {cap:Nat} {fs:List Fm} (h:FLp P w (.slice ad fs.length cap) fs) {i:Nat} (hi:i≤fs.length):FLp P w (.slice ad i cap) (fs.take i):=by
 obtain⟨ad',cap',hv,h1,h2,h3⟩:=h;simp only [Value.slice.injEq,true_and] at hv;obtain⟨rfl,rfl⟩:=hv;(refine⟨ad,cap,by rw [List.length_take,Nat.min_eq_left hi],by rw [List.length_take];omega,h2,fun hne => ?_⟩);(obtain⟨b,off,h5,h6,h7⟩:=h3 (fun e=>hne (by rw [e];simp)));exact⟨b,off,h5,h6,QFB i h7⟩
theorem FLp.drop {P:Nat→Prop} {w:World} {b off:Nat} {cap:Nat} {fs:List Fm} (h:FLp P w (.slice (some ⟨b,off,none⟩) fs.length cap) fs) {i:Nat} (hi:i≤fs.length) {ad:Option Addr} (hlt:i < fs.length→ad=some ⟨b,off+i * 3,none⟩):FLp P w (.slice ad (fs.length - i) (cap - i)) (fs.drop i):=by
 obtain⟨ad',cap',hv,h1,h2,h3⟩:=h;simp only [Value.slice.injEq,true_and] at hv;obtain⟨rfl,rfl⟩:=hv;(refine⟨ad,cap - i,by rw [List.length_drop],by rw [List.length_drop];omega,by omega,fun hne => ?_⟩)
 have hil:i < fs.length:=by
  rcases Nat.lt_or_ge i fs.length with h|h
  ·exact h
  ·exact absurd (List.drop_of_length_le h) hne
 (obtain⟨b',off',h5,h6,h7⟩:=h3 (fun e=>hne (by rw [e];simp)));simp only [Option.some.injEq,Addr.mk.injEq,and_true] at h5;obtain⟨rfl,rfl⟩:=h5;exact⟨b,off+i * 3,hlt hil,h6,QEz i h7⟩
theorem QDI (n:Nat) (h:n < 9223372036854775808):IntKind.i64.wrap (n:Int)=(n:Int):=by
 (have h1:(n:Int).toNat=n:=by omega);simp [IntKind.wrap,IntKind.bits,IntKind.signed];omega
set_option maxRecDepth 10000 in
set_option maxHeartbeats 4000000 in
theorem QDo (A:Nat) (l:List Fm) (f:Fm) (hl:l.length≤400) (v u:Value) (w:World) (hA:A≤w.heap.size) (hv:FLp (· < A) w v l) (hu:Rep w (fun _=>True) f u) :
  Calls Tryz.prog 222 #[v,u] w fun e w'=>∃ x,e = .returned x∧FLp (fun b=>b < A∨w.heap.size≤b) w' x (l.erase f)∧Below w.heap.size w w':=by
 (have hpl:=fun v u (w:World) h h'=>QEu l f v u w h h');obtain⟨k,n,ks⟩:=f;obtain⟨sl,cap,rfl⟩:=QAJ hu;(have HP:Hid (∀ v u w,FL w v l→Rep w (fun _=>True) (.mk k n ks) u→Calls Tryz.prog 249 #[v,u] w _):=hpl);have HV:Hid (FLp (· < A) w v l):=hv;(have HU:Hid (Rep w (fun _=>True) (.mk k n ks) _):=hu);have HAw:Hid (A≤w.heap.size):=hA;obtain⟨ad,cp,rfl,hlc,hcm,-⟩:=hv;clear hpl hu hA;by_cases hh:QAh (.mk k n ks) l=true
 ·obtain⟨he,hlt⟩:=QFt hh
  (have hat:atF (.mk k n ks) l=(isF (.mk k n ks) l:Nat):=by unfold atF;rw [if_pos hh]);rw [hat] at HP;have HE:Hid (l.erase (.mk k n ks)=l.take (isF (.mk k n ks) l)++l.drop (isF (.mk k n ks) l+1)):=he;clear hat he hh;generalize isF (.mk k n ks) l=at0 at *;(have hne:l≠[]:=fun e=>by rw [e] at hlt;simp at hlt)
  obtain⟨b,off,hadd,-,-⟩:∃ b off,ad=some ⟨b,off,none⟩∧b < A∧Reps w (· < A) b off l:=by
   obtain⟨ad',cap',hv,-,-,h4⟩:=HV.out;simp only [Value.slice.injEq,true_and] at hv;obtain⟨rfl,rfl⟩:=hv;exact h4 hne
  subst hadd;(have hltI:(at0:Int) < (l.length:Int):=by omega);(have hlI:(l.length:Int)≤400:=by omega);(have hlcI:(l.length:Int)≤(cp:Int):=by omega);(have hcmI:(cp:Int)≤9223372036854775807:=by unfold maxLen at hcm;omega);clear hne;obtain⟨j,hj⟩:∃ j,j=at0+1:=⟨_,rfl⟩;(have hjI:(at0:Int)+1=(j:Int):=by omega);(have hjw:IntKind.i64.wrap (j:Int)=(j:Int):=QDI j (by omega));have HJ:Hid (j=at0+1):=hj;rw [← hj] at HE;(have hjl:j≤l.length:=by omega);clear hj;by_cases hce:cp=j
  ·subst hce
   go_enter Tryz.func222,Tryz.ntmps222
   go_wp2_with fail;refine (HP.out _ _ _ (HV.out.list.up (QAA (Below.refl _ w) _)) (HU.out.more _)).mono ?_;rintro e w1 ⟨rfl,hb1⟩;have B1:=QAC (QAA (Below.refl _ w) _) hb1;clear hb1;have z1:=B1.size;(have HF1:Hid (FLp (· < A) w1 (.slice (some ⟨b,off,none⟩) at0 cp) (l.take at0)):=(HV.out.up B1).take (by omega))
   have HF2:Hid (FLp (· < A) w1 (.slice (some ⟨b,off,none⟩) 0 0) (l.drop cp)):=by
    (have:=(HV.out.up B1).drop (i:=cp) (ad:=some ⟨b,off,none⟩) (by omega) (fun h=>by omega));rw [Nat.sub_self,Nat.sub_eq_zero_of_le hlc] at this;exact this
   (have h10:(0:Int)≤(at0:Int):=by omega);(have h11:(at0:Int)≤(cp:Int):=by omega);(have h12:(cp:Int)≤(l.length:Int):=by omega);(have h13:(0:Int)≤(cp:Int):=by omega);go_wp2_with fail
   go_region_held3 (fun _=>True) (trivial)
    (
     first
     | (
      go_at_call 83
      (refine (QCM A (l.take at0) (l.drop cp) (by simp;omega) (by simp;omega) _ _ _ _ (by have:=HAw.out;simp;omega) ((HF1.out.up (Below.refl _ _).drew).up (QAA (Below.refl _ _) _)) ((HF2.out.up (Below.refl _ _).drew).up (QAA (Below.refl _ _) _)) (QAG _ _)).mono ?_);rintro e w2 ⟨x,rfl,hF,hb2⟩
      have HF:Hid (FLp (fun b=>b < A∨w.heap.size≤b) w2 x (l.erase (.mk k n ks))):=by
       rw [HE.out];(exact hF.move fun q _ hq=>⟨rfl,hq.imp id fun h=>by simp at h;omega⟩)
      have B2:=QAC (QAA B1.drew _) hb2
      clear hF hb2)
     | fail)
   all_goals
    go_wp2_with fail;go_ret;exact⟨_,rfl,HF.out,B2⟩
  ·have hcj:j≤cp:=by omega
   go_enter Tryz.func222,Tryz.ntmps222
   go_wp2_with fail;refine (HP.out _ _ _ (HV.out.list.up (QAA (Below.refl _ w) _)) (HU.out.more _)).mono ?_;rintro e w1 ⟨rfl,hb1⟩;have B1:=QAC (QAA (Below.refl _ w) _) hb1;clear hb1;have z1:=B1.size;(have HF1:Hid (FLp (· < A) w1 (.slice (some ⟨b,off,none⟩) at0 cp) (l.take at0)):=(HV.out.up B1).take (by omega));(have HF2:Hid (FLp (· < A) w1 (.slice (some ⟨b,off+j * 3,none⟩) (l.length - j) (cp - j)) (l.drop j)):=(HV.out.up B1).drop (by omega) (fun h=>rfl));(have h10:(0:Int)≤(at0:Int):=by omega);(have h11:(at0:Int)≤(cp:Int):=by omega);(have h12:(j:Int)≤(l.length:Int):=by omega);(have h13:(0:Int)≤(j:Int):=by omega);(have h14:(j:Int)≤(cp:Int):=by omega);go_wp2_with fail
   go_region_held3 (fun _=>True) (trivial)
    (
     first
     | (
      go_at_call 83
      (refine (QCM A (l.take at0) (l.drop j) (by simp;omega) (by simp;omega) _ _ _ _ (by have:=HAw.out;simp;omega) ((HF1.out.up (Below.refl _ _).drew).up (QAA (Below.refl _ _) _)) ((HF2.out.up (Below.refl _ _).drew).up (QAA (Below.refl _ _) _)) (QAG _ _)).mono ?_);rintro e w2 ⟨x,rfl,hF,hb2⟩
      have HF:Hid (FLp (fun b=>b < A∨w.heap.size≤b) w2 x (l.erase (.mk k n ks))):=by
       rw [HE.out];(exact hF.move fun q _ hq=>⟨rfl,hq.imp id fun h=>by simp at h;omega⟩)
      have B2:=QAC (QAA B1.drew _) hb2
      clear hF hb2)
     | fail)
   all_goals
    go_wp2_with fail;go_ret;exact⟨_,rfl,HF.out,B2⟩
 ·have hat:atF (.mk k n ks) l = -1:=by unfold atF;rw [if_neg hh]
  rw [hat] at HP;(have he:l.erase (.mk k n ks)=l:=List.erase_of_not_mem fun h=>hh ((QCF _ _).2 h));rw [he];clear hat he hh
  go_enter Tryz.func222,Tryz.ntmps222
  go_wp2_with fail;refine (HP.out _ _ _ (HV.out.list.up (QAA (Below.refl _ w) _)) (HU.out.more _)).mono ?_;rintro e w1 ⟨rfl,hb1⟩;have B1:=QAC (QAA (Below.refl _ w) _) hb1;go_wp2_with fail;(refine (QDx (· < A) l (by omega) _ w1 (HV.out.up B1)).mono ?_);rintro e w2 ⟨ad2,cp2,rfl,hk,hb2⟩;have B2:=QAC B1 hb2
  have HK:Hid (FLp (fun b=>b < A∨w.heap.size≤b) w2 (.slice ad2 l.length cp2) l):=QHg (P:=fun b=>b < A∨w.heap.size≤b) (by
   obtain⟨cs,h1,h2⟩:=hk
   exact⟨cs,h1,h2.move fun b _ hb=>⟨rfl,Or.inl hb.1,hb.2⟩⟩) fun b hb=>Or.inr (by have:=B1.size;omega)
  clear hk;go_wp2_with fail;go_ret;exact⟨_,rfl,HK.out,B2⟩
theorem QBv (g:Nat) (T:TypeId):∀ (vs:List Value) (o:Nat) (w:World) (cur:Array Value),w.heap[g]? = some (.cells cur T (0,0))→o+vs.length≤cur.size →
  ∃ cur',(w.setCells g o vs).heap[g]? = some (.cells cur' T (0,0))∧cur'.size=cur.size∧cur'.toList=cur.toList.take o++vs++cur.toList.drop (o+vs.length)
 | [],o,w,cur,h,_=>⟨cur,h,rfl,by simp⟩
 | v :: vs,o,w,cur,h,hl=>by
  (have hlt:o < cur.size:=by simp at hl;omega)
  have h1:(w.setCell ⟨g,o,none⟩ v).heap[g]? = some (.cells (cur.setIfInBounds o v) T (0,0)):=by
   simp [World.setCell,Array.getElem?_modify,h]
  (obtain⟨cur',h2,h3,h4⟩:=QBv g T vs (o+1) _ _ h1 (by simp at hl ⊢;omega));(refine⟨cur',h2,by simpa using h3,?_⟩);rw [h4,Array.toList_setIfInBounds];(have hl2:o < cur.toList.length:=by simpa using hlt);(rw [List.take_set,List.drop_set_of_lt (by omega)]);(rw [List.take_succ_eq_append_getElem hl2,List.set_append_right _ _ (by simp;omega)]);simp [Nat.min_eq_left (Nat.le_of_lt hlt),Nat.add_assoc,Nat.add_comm 1]
theorem QBw (g:Nat):∀ (vs:List Value) (o:Nat) (w:World) (i:Nat),i≠g→(w.setCells g o vs).heap[i]? = w.heap[i]?
 | [],_,_,_,_=>rfl
 | v :: vs,o,w,i,h=>by
  show ((w.setCell ⟨g,o,none⟩ v).setCells g (o+1) vs).heap[i]? = _;rw [QBw g vs (o+1) _ i h,Below.heap_setCell _ _ _ _ h]
theorem QCC (g:Nat):∀ (vs:List Value) (o:Nat) (w:World),(w.setCells g o vs).os=w.os∧(w.setCells g o vs).tape=w.tape∧(w.setCells g o vs).output=w.output∧(w.setCells g o vs).heap.size=w.heap.size
 | [],_,_=>⟨rfl,rfl,rfl,rfl⟩
 | v :: vs,o,w=>by
  obtain⟨h1,h2,h3,h4⟩:=QCC g vs (o+1) (w.setCell ⟨g,o,none⟩ v);(exact⟨h1,h2,h3,h4.trans (by simp [World.setCell])⟩)
theorem QCx (w:World) (ty:TypeId) (b o c:Nat) (hc:∀ j,j < 3→(w.cell? ⟨b,o+j,none⟩).isSome=true) (hf:∀ j,j < 3→w.frozen? ⟨b,o+j,none⟩=false) :
  (Builtin.clear_ #[22] ty #[.slice (some ⟨b,o,none⟩) 1 c]).run Tryz.prog w = .ok (.tuple #[]) (w.setCells b o [.int .i64 0,.string ⟨#[]⟩,.slice none 0 0]):=by
 (have hst:=run_storeCells_cells (P:=Tryz.prog) b o [.int .i64 0,.string ⟨#[]⟩,.slice none 0 0] 0 w (by simpa using hc) (by simpa using hf) (by simp [Value.oneCell']));simp only [Nat.add_zero] at hst;(have hz:∀ w,(zeroValue 24).run Tryz.prog w = .ok (.agg #[.int .i64 0,.string ⟨#[]⟩,.slice none 0 0]) w:=fun w=>by kernel_rfl);(have hzc:(Builtin.zeroCells (Value.agg #[.int .i64 0,.string ⟨#[]⟩,.slice none 0 0]).cells 1).toList=[.int .i64 0,.string ⟨#[]⟩,.slice none 0 0]:=by kernel_rfl);simp [Builtin.clear_,run_underlying Tryz.underlying22,hz,hzc,hst]
theorem LQ.take {ok:Nat→Prop} {w:World}:∀ {cs:List Value} {fs:List Fm} (i:Nat),LQ ok w cs fs→LQ ok w (cs.take (i * 3)) (fs.take i)
 | [],[],i,_=>by simp [LQ]
 | _ :: _ :: _ :: _,_ :: _,0,_=>by simp [LQ]
 | c0 :: c1 :: c2 :: cs,f :: fs,i+1,h=>by
  (rw [show (i+1) * 3=i * 3+1+1+1 by omega]);simp only [List.take_succ_cons];exact⟨h.1,LQ.take i h.2⟩
theorem LQ.drop {ok:Nat→Prop} {w:World}:∀ {cs:List Value} {fs:List Fm} (i:Nat),LQ ok w cs fs→LQ ok w (cs.drop (i * 3)) (fs.drop i)
 | [],[],i,_=>by simp [LQ]
 | _ :: _ :: _ :: _,_ :: _,0,h=>by simpa using h
 | c0 :: c1 :: c2 :: cs,f :: fs,i+1,h=>by
  (rw [show (i+1) * 3=i * 3+1+1+1 by omega]);simp only [List.drop_succ_cons];exact LQ.drop i h.2
theorem QEa {B g cp i:Nat} {w:World} {fs:List Fm} {cs:List Value} {cur:Array Value} (hi:i < fs.length) (hcp:fs.length≤cp) (hB:B≤g) (hcm:cp≤maxLen) (hg:w.heap[g]? = some (.cells cur 24 (0,0))) (hcs:cur.size=cp * 3) (ht:cur.toList.take (fs.length * 3)=cs) (hq:LQ (fun b=>True∧g≠b) w cs fs) :
  KP (fun _=>True) B ((w.drew.setCells g (i * 3) (cs.drop ((i+1) * 3))).setCells g ((fs.length - 1) * 3) [.int .i64 0,.string ⟨#[]⟩,.slice none 0 0]) (some ⟨g,0,none⟩) cp (fs.eraseIdx i)∧w.grownBy ((w.drew.setCells g (i * 3) (cs.drop ((i+1) * 3))).setCells g ((fs.length - 1) * 3) [.int .i64 0,.string ⟨#[]⟩,.slice none 0 0]) (some g):=by
 have hlen:=hq.len;(have hk:(cs.drop ((i+1) * 3)).length=(fs.length - (i+1)) * 3:=by rw [List.length_drop,hlen];omega);(obtain⟨c1,h1,h2,h3⟩:=QBv g 24 (cs.drop ((i+1) * 3)) (i * 3) w.drew cur hg (by rw [hk];omega));(obtain⟨c2,h4,h5,h6⟩:=QBv g 24 [.int .i64 0,.string ⟨#[]⟩,.slice none 0 0] ((fs.length - 1) * 3) _ c1 h1 (by simp;omega))
 have hoth:∀ b,b≠g→((w.drew.setCells g (i * 3) (cs.drop ((i+1) * 3))).setCells g ((fs.length - 1) * 3) [.int .i64 0,.string ⟨#[]⟩,.slice none 0 0]).heap[b]? = w.heap[b]? := fun b hb=>by
  rw [QBw g _ _ _ b hb,QBw g _ _ _ b hb];rfl
 obtain⟨a1,a2,a3,a4⟩:=QCC g [.int .i64 0,.string ⟨#[]⟩,.slice none 0 0] ((fs.length - 1) * 3) (w.drew.setCells g (i * 3) (cs.drop ((i+1) * 3)));obtain⟨b1,b2,b3,b4⟩:=QCC g (cs.drop ((i+1) * 3)) (i * 3) w.drew;(refine⟨⟨cs.take (i * 3)++cs.drop ((i+1) * 3),⟨?_,Or.inr ⟨g,cp,c2,?_,hB,h4,?_,hcm,?_,?_⟩⟩,?_⟩,⟨a1.trans b1,a2.trans b2,a3.trans b3,Nat.le_of_eq (a4.trans b4).symm,fun b _ hb=>hoth b (fun e=>hb (by rw [e]))⟩⟩)
 ·rw [List.length_append,List.length_take,hk,hlen,List.length_eraseIdx_of_lt hi];omega
 ·rfl
 ·rw [List.length_eraseIdx_of_lt hi];omega
 ·omega
 ·rw [h6,List.length_eraseIdx_of_lt hi,List.append_assoc,List.take_append_of_le_length (by simp;omega),List.take_take,Nat.min_self,h3]
  (have hct:cur.toList.take (i * 3)=cs.take (i * 3):=by rw [← ht,List.take_take,Nat.min_eq_left (by omega)]);(rw [hct,List.take_append_of_le_length (by rw [List.length_append,List.length_take,hk,hlen];omega),List.take_of_length_le (by rw [List.length_append,List.length_take,hk,hlen];omega)])
 ·rw [List.eraseIdx_eq_take_drop_succ]
  (exact ((hq.take i).append (hq.drop (i+1))).move fun b _ hb=>⟨hoth b (fun e=>hb.2 e.symm),trivial,fun e=>hb.2 (by simpa [Value.ownBlock] using e)⟩)
set_option maxRecDepth 10000 in
set_option maxHeartbeats 4000000 in
theorem QGl (B g cp i:Nat) (fs:List Fm) (hl:fs.length≤1000) (hi:i < fs.length) (w:World) (h:KP (fun _=>True) B w (some ⟨g,0,none⟩) cp fs) :
  Calls Tryz.prog 250 #[.slice (some ⟨g,0,none⟩) fs.length cp,.int .i64 (i:Nat),.int .i64 ((i:Nat)+1)] w fun e w'=>e = .returned (.slice (some ⟨g,0,none⟩) (fs.length - 1) cp)∧KP (fun _=>True) B w' (some ⟨g,0,none⟩) cp (fs.eraseIdx i)∧w.grownBy w' (some g):=by
 obtain⟨cs,⟨hcl,hown⟩,hq⟩:=h
 rcases hown with ⟨hv,-⟩|⟨g',cap',cur,hv,hB,hg,hncap,hcm,hcsz,htk⟩
 ·cases hv
 simp only [Value.slice.injEq,Option.some.injEq,Addr.mk.injEq,and_true,true_and] at hv;obtain⟨rfl,rfl⟩:=hv;(have hq':LQ (fun b=>True∧g≠b) w cs fs:=hq.move fun b _ hb=>⟨rfl,trivial,fun e=>hb.2 (by simp [Value.ownBlock,e])⟩);have hL:=QEa hi hncap hB hcm hg hcsz htk hq';have HL:Hid (KP _ _ _ _ _ _∧World.grownBy _ _ _):=hL;have hlen:=hq.len;obtain⟨news,hnews⟩:∃ news,news=cs.drop ((i+1) * 3):=⟨_,rfl⟩;(have hnl:news.length=(fs.length - (i+1)) * 3:=by rw [hnews,List.length_drop,hlen];omega);obtain⟨n,hn⟩:∃ n,n=fs.length:=⟨_,rfl⟩;have hone:∀ u∈cs,u.oneCell'=true:=hq.one
 have hcell:∀ o,o < cp * 3→(w.cell? ⟨g,o,none⟩).isSome=true:=fun o ho=>by
  (rw [QAL hg,Array.getElem?_eq_getElem (by omega)];rfl)
 (have hfz:∀ o,w.frozen? ⟨g,o,none⟩=false:=fun o=>QBM hg o)
 have hget:∀ (t:Nat) (u:Value),news[t]? = some u→w.cell? ⟨g,(i+1) * 3+t,none⟩=some u:=fun t u hu=>by
  rw [QAL hg,← Array.getElem?_toList];rw [hnews,List.getElem?_drop,← htk,List.getElem?_take] at hu
  split at hu
  ·exact hu
  ·cases hu
 obtain⟨i0,hi0,-,hz1,-⟩:=QBV;obtain⟨j,hj⟩:∃ j,j=i+1:=⟨_,rfl⟩;(have hjI:(i:Int)+1=(j:Int):=by omega);have HJ:Hid (j=i+1):=hj;rw [hjI];clear hj;by_cases hce:cp=j
 ·subst hce
  (have s1:Hid (news.length=(fs.length - cp) * 3):=by rw [HJ.out];exact hnl);(have s2:Hid (∀ u∈news,u.oneCell'=true):=fun u hu=>hone u (by rw [hnews] at hu;exact List.mem_of_mem_drop hu));(have s3:Hid (∀ t,t < news.length→(w.drew.cell? ⟨g,0+i * 3+t,none⟩).isSome=true∧w.drew.frozen? ⟨g,0+i * 3+t,none⟩=false):=fun t ht=>⟨hcell _ (by omega),hfz _⟩)
  have hsrc:Hid (∀ t u,news[t]? = some u→w.drew.cell? ((⟨g,0,none⟩:Addr).add t)=some u):=fun t u hu=>by
   (have:news.length=0:=by rw [hnl];have:=HJ.out;omega);rw [List.length_eq_zero_iff.1 this] at hu;simp at hu
  obtain⟨W1,hW1⟩:∃ W1,W1=w.drew.setCells g (0+i * 3) news:=⟨_,rfl⟩
  have hcl1:∀ ty,(Builtin.clear_ #[22] ty #[.slice (some ⟨g,(i+(fs.length - cp)) * 3,none⟩) (fs.length - (i+(fs.length - cp))) (cp - (i+(fs.length - cp)))]).run Tryz.prog W1 = .ok (.tuple #[]) (W1.setCells g ((fs.length - 1) * 3) [.int .i64 0,.string ⟨#[]⟩,.slice none 0 0]):=fun ty=>by
   (have e1:i+(fs.length - cp)=fs.length - 1:=by have:=HJ.out;omega);(rw [e1,show fs.length - (fs.length - 1)=1 by omega]);(refine QCx W1 ty g _ _ (fun t ht => ?_) (fun t ht => ?_))
   ·rw [hW1]
    (exact World.isSome_setCells g news _ _ _ (hcell _ (by omega)))
   ·rw [hW1,World.frozen?_setCells]
    exact hfz _
  have HW:Hid (W1=w.drew.setCells g (0+i * 3) news):=hW1
  have HL2:Hid (KP (fun _=>True) B (W1.setCells g ((fs.length - 1) * 3) [.int .i64 0,.string ⟨#[]⟩,.slice none 0 0]) (some ⟨g,0,none⟩) cp (fs.eraseIdx i)∧w.grownBy (W1.setCells g ((fs.length - 1) * 3) [.int .i64 0,.string ⟨#[]⟩,.slice none 0 0]) (some g)):=by
   rw [hW1,Nat.zero_add,hnews];exact HL.out
  obtain⟨W2,hW2⟩:∃ W2,W2=W1.setCells g ((fs.length - 1) * 3) [.int .i64 0,.string ⟨#[]⟩,.slice none 0 0]:=⟨_,rfl⟩;rw [← hW2] at hcl1 HL2;(have HE:Hid (i+(fs.length - cp)=fs.length - 1):=by have:=HJ.out;show _=_;omega);(have b1:(0:Int)≤(i:Int):=by omega);(have b2:(i:Int)≤(cp:Int):=by omega);(have b3:(0:Int)≤(cp:Int):=by omega);(have b4:(cp:Int)≤(fs.length:Int):=by omega);(have b5:(i:Int)≤(cp:Int):=by omega);(have b6:(fs.length:Int)≤(cp:Int):=by omega);(have b7:(cp:Int)≤9223372036854775807:=by unfold maxLen at hcm;omega);(have b8:i≤cp:=by omega);(have b11:i+(fs.length - cp)≤cp:=by omega);(have b12:((i+(fs.length - cp):Nat):Int)≤(fs.length:Int):=by omega);(have b13:¬ cp=i+(fs.length - cp):=by omega);(have b14:i+(fs.length - cp)≤fs.length:=by omega);(have b15:¬ i=cp:=by have:=HJ.out;omega);(have b16:¬ (i:Int)=(cp:Int):=by have:=HJ.out;omega);clear hW1 hW2 hcell hfz hget hnews hnl hlen hone HL hi hn hq hq' hcl htk hcsz hg hL hncap hcm hl hjI
  go_enter Tryz.func250,Tryz.ntmps250
  go_wp2_with fail
  go_region_law (first | (refine step_append_room rfl (.tmp 22) (.tmp 25) 22 rfl 24 i0 3 Tryz.underlying22 hi0 hz1 g 0 i cp (by simp [Act.eval,Act.put]) ⟨g,0,none⟩ (fs.length - cp) (cp - cp) news (by simp [Act.eval,Act.put]) s1.out hsrc.out s2.out (by omega) s3.out ?_;rw [← HW.out])|fail)
  go_wp2_with fail;go_ret;(exact⟨by rw [HE.out];rfl,HL2.out⟩)
 ·have hce':¬ cp=j:=hce
  (have s1:Hid (news.length=(fs.length - j) * 3):=by rw [HJ.out];exact hnl);(have s2:Hid (∀ u∈news,u.oneCell'=true):=fun u hu=>hone u (by rw [hnews] at hu;exact List.mem_of_mem_drop hu));(have s3:Hid (∀ t,t < news.length→(w.drew.cell? ⟨g,0+i * 3+t,none⟩).isSome=true∧w.drew.frozen? ⟨g,0+i * 3+t,none⟩=false):=fun t ht=>⟨hcell _ (by omega),hfz _⟩)
  have hsrc:Hid (∀ t u,news[t]? = some u→w.drew.cell? ((⟨g,j * 3,none⟩:Addr).add t)=some u):=fun t u hu=>by
   rw [QAn,HJ.out];exact hget t u hu
  obtain⟨W1,hW1⟩:∃ W1,W1=w.drew.setCells g (0+i * 3) news:=⟨_,rfl⟩
  have hcl1:∀ ty,(Builtin.clear_ #[22] ty #[.slice (some ⟨g,(i+(fs.length - j)) * 3,none⟩) (fs.length - (i+(fs.length - j))) (cp - (i+(fs.length - j)))]).run Tryz.prog W1 = .ok (.tuple #[]) (W1.setCells g ((fs.length - 1) * 3) [.int .i64 0,.string ⟨#[]⟩,.slice none 0 0]):=fun ty=>by
   (have e1:i+(fs.length - j)=fs.length - 1:=by have:=HJ.out;omega);(rw [e1,show fs.length - (fs.length - 1)=1 by omega]);(refine QCx W1 ty g _ _ (fun t ht => ?_) (fun t ht => ?_))
   ·rw [hW1]
    (exact World.isSome_setCells g news _ _ _ (hcell _ (by omega)))
   ·rw [hW1,World.frozen?_setCells]
    exact hfz _
  have HW:Hid (W1=w.drew.setCells g (0+i * 3) news):=hW1
  have HL2:Hid (KP (fun _=>True) B (W1.setCells g ((fs.length - 1) * 3) [.int .i64 0,.string ⟨#[]⟩,.slice none 0 0]) (some ⟨g,0,none⟩) cp (fs.eraseIdx i)∧w.grownBy (W1.setCells g ((fs.length - 1) * 3) [.int .i64 0,.string ⟨#[]⟩,.slice none 0 0]) (some g)):=by
   rw [hW1,Nat.zero_add,hnews];exact HL.out
  obtain⟨W2,hW2⟩:∃ W2,W2=W1.setCells g ((fs.length - 1) * 3) [.int .i64 0,.string ⟨#[]⟩,.slice none 0 0]:=⟨_,rfl⟩;rw [← hW2] at hcl1 HL2;(have HE:Hid (i+(fs.length - j)=fs.length - 1):=by have:=HJ.out;show _=_;omega);(have b1:(0:Int)≤(i:Int):=by omega);(have b2:(i:Int)≤(cp:Int):=by omega);(have b3:(0:Int)≤(j:Int):=by omega);(have b4:(j:Int)≤(fs.length:Int):=by omega);(have b5:(i:Int)≤(j:Int):=by omega);(have b6:(fs.length:Int)≤(cp:Int):=by omega);(have b7:(cp:Int)≤9223372036854775807:=by unfold maxLen at hcm;omega);(have b8:i≤cp:=by omega);(have b9:j≤cp:=by omega);(have b10:(j:Int)≤(cp:Int):=by omega);(have b11:i+(fs.length - j)≤cp:=by omega);(have b12:((i+(fs.length - j):Nat):Int)≤(fs.length:Int):=by omega);(have b13:¬ cp=i+(fs.length - j):=by omega);(have b14:i+(fs.length - j)≤fs.length:=by omega);(have b15:¬ i=j:=by have:=HJ.out;omega);(have b16:¬ (i:Int)=(j:Int):=by have:=HJ.out;omega);clear hW1 hW2 hcell hfz hget hnews hnl hlen hone HL hi hn hq hq' hcl htk hcsz hg hL hncap hcm hl hjI
  go_enter Tryz.func250,Tryz.ntmps250
  go_wp2_with fail
  go_region_law (first | (refine step_append_room rfl (.tmp 22) (.tmp 25) 22 rfl 24 i0 3 Tryz.underlying22 hi0 hz1 g 0 i cp (by simp [Act.eval,Act.put]) ⟨g,j * 3,none⟩ (fs.length - j) (cp - j) news (by simp [Act.eval,Act.put]) s1.out hsrc.out s2.out (by omega) s3.out ?_;rw [← HW.out])|fail)
  go_wp2_with fail;go_ret;(exact⟨by rw [HE.out];rfl,HL2.out⟩)
theorem QGX {l R:List Fm} {i:Nat} {f:Fm} (h:l[i]? = some f):QAV (l.drop i) R=(decide (f∈R) && QAV (l.drop (i+1)) (R.erase f)):=by
 have hi:i < l.length:=(List.getElem?_eq_some_iff.1 h).1;rw [List.drop_eq_getElem_cons hi,QAV];rw [List.getElem?_eq_getElem hi] at h;rw [Option.some.inj h]
set_option maxRecDepth 10000 in
set_option maxHeartbeats 4000000 in
theorem QDH (l m:List Fm) (hm:m.length≤400) (v u:Value) (w:World) (hv:FL w v l) (hu:FL w u m) :
  Calls Tryz.prog 221 #[v,u] w fun e w'=>e = .returned (.bool (QAV l m))∧Below w.heap.size w w':=by
 have HU:Hid (FL w u m):=hu;obtain⟨adU,cpU,rfl,-⟩:=hu;obtain⟨ad,cap,rfl,h1,h2,h3⟩:=hv;(have hlI:(l.length:Int)≤9223372036854775807:=by unfold maxLen at h2;omega);(have H3:Hid (l≠[]→∃ b off,ad=some ⟨b,off,none⟩∧Reps w (fun _=>True) b off l):=h3);clear h3
 go_enter Tryz.func221,Tryz.ntmps221
 go_wp2_with fail;(refine (QDx (fun _=>True) m (by omega) _ w HU.out.flp).mono ?_);rintro e w1 ⟨ad1,cp1,rfl,hk1,hb1⟩;(have HK1:Hid (KP (fun _=>True) w.heap.size w1 ad1 cp1 m):=hk1);clear hk1;go_wp2_with fail
 go_loopg [13,5] l.length (fun g c o wr=>∃ i R adR cpR,i≤l.length∧g=l.length - i∧c = .int .i64 (i:Nat)∧o = .slice adR R.length cpR∧Below w.heap.size w wr∧Hid (KP (fun _=>True) w.heap.size wr adR cpR R)∧R.length≤400∧Hid (QAV (l.drop i) R=QAV l m))
 case atStart=>exact⟨0,m,ad1,cp1,by omega,by omega,rfl,rfl,hb1,HK1.out,hm,by show _=_;simp⟩
 case round =>
  obtain⟨i,R,adR,cpR,hi,hg,rfl,rfl,hbr,HK,hR,HN⟩:=hrel;have HG:Hid (gk=l.length - i):=hg;clear hg HK1 hb1;by_cases hlt:i < l.length
  ·obtain⟨⟨k2,n2,ks2⟩,hki⟩:∃ f,l[i]? = some f:=⟨_,List.getElem?_eq_getElem hlt⟩
   (obtain⟨b,off,rfl,hrs⟩:=H3.out (fun e=>by rw [e] at hlt;simp at hlt));obtain⟨sl2,cap2,g0,g1,g2,hrep2⟩:=(hrs.up hbr).at i k2 n2 ks2 hki;(have hltI:(i:Int) < (l.length:Int):=by omega);(have hlc:(i:Int) < (cap:Int):=by omega);have hds:=HN.out;rw [QGX hki] at hds;have HD:Hid ((decide (Fm.mk k2 n2 ks2∈R) && QAV (l.drop (i+1)) (R.erase (.mk k2 n2 ks2)))=QAV l m):=hds;(have hpl:=fun v u (w:World) h h'=>QEu R (.mk k2 n2 ks2) v u w h h');have zz:=hbr.size;clear hki hrs H3 hds HN;by_cases hh:QAh (.mk k2 n2 ks2) R=true
   ·obtain⟨he,hlt2⟩:=QFt hh
    (have hat:atF (.mk k2 n2 ks2) R=(isF (.mk k2 n2 ks2) R:Nat):=by unfold atF;rw [if_pos hh]);rw [hat] at hpl
    have HE:Hid (R.erase (.mk k2 n2 ks2)=R.eraseIdx (isF (.mk k2 n2 ks2) R)):=by
     show _=_;rw [he,List.eraseIdx_eq_take_drop_succ]
    have HT:Hid (QAV (l.drop (i+1)) (R.erase (.mk k2 n2 ks2))=QAV l m):=by
     have:=HD.out;rw [decide_eq_true ((QCF _ _).1 hh),Bool.true_and] at this;exact this
    clear hat he hh HD;generalize isF (.mk k2 n2 ks2) R=at0 at *;(have HP:Hid (∀ v u w,FL w v R→Rep w (fun _=>True) (.mk k2 n2 ks2) u→Calls Tryz.prog 249 #[v,u] w _):=hpl);(have ha0:(0:Int)≤(at0:Int):=by omega);(have haI:(at0:Int) < (R.length:Int):=by omega);(have hRI:(R.length:Int)≤400:=by omega)
    obtain⟨gR,rfl⟩:∃ gR,adR=some ⟨gR,0,none⟩:=by
     obtain⟨cs,⟨-,hown⟩,-⟩:=HK.out
     rcases hown with ⟨hv,h0⟩|⟨g',cap',cur,hv,-⟩
     ·rw [h0] at hlt2;exact absurd hlt2 (Nat.not_lt_zero _)
     ·simp only [Value.slice.injEq] at hv
      exact⟨g',hv.1⟩
    clear hpl;go_wp2_with fail;(refine (HP.out _ _ _ (KP.list (HK.out.up (QAA (Below.refl _ _) _)) fun _ _=>trivial) (hrep2.more _)).mono ?_);rintro e w2 ⟨rfl,hb2⟩;have B2:=QAC (QAA hbr _) hb2;(have HK2:Hid (KP (fun _=>True) w.heap.size w2 (some ⟨gR,0,none⟩) cpR R):=(HK.out.up (QAA (Below.refl _ _) _)).up hb2);clear g0 g1 g2 hb2 HK;go_wp2_with fail;(refine (QGl w.heap.size gR cpR at0 R (by omega) hlt2 w2 HK2.out).mono ?_);rintro e w3 ⟨rfl,hk3,hg3⟩
    have hgR:w.heap.size≤gR:=by
     obtain⟨cs,hown,-⟩:=HK2.out;exact (hown.lt gR rfl).1
    (have B3:Below w.heap.size w w3:=⟨hg3.os.trans B2.os,hg3.tape.trans B2.tape,hg3.output.trans B2.output,Nat.le_trans B2.size hg3.size,fun j hj=>(hg3.block j (by have:=B2.size;omega) (fun e=>by have:=Option.some.inj e;omega)).trans (B2.block j hj)⟩);(have HK3:Hid (KP (fun _=>True) w.heap.size w3 (some ⟨gR,0,none⟩) cpR (R.eraseIdx at0)):=hk3);clear hk3 hg3;go_wp2_with fail;have hle:(R.eraseIdx at0).length=R.length - 1:=List.length_eraseIdx_of_lt hlt2
    go_roundg (l.length - (i+1))
    case measure=>have:=HG.out;omega
    case rel=>exact⟨i+1,R.eraseIdx at0,some ⟨gR,0,none⟩,cpR,by omega,rfl,by go_num,by rw [hle],B3,HK3,by omega,by rw [← HE.out];exact HT.out⟩
   ·have hat:atF (.mk k2 n2 ks2) R = -1:=by unfold atF;rw [if_neg hh]
    rw [hat] at hpl;(have HP:Hid (∀ v u w,FL w v R→Rep w (fun _=>True) (.mk k2 n2 ks2) u→Calls Tryz.prog 249 #[v,u] w _):=hpl)
    have HT:Hid (QAV l m=false):=by
     have:=HD.out;(rw [decide_eq_false (fun h=>hh ((QCF _ _).2 h)),Bool.false_and] at this);exact this.symm
    clear hat hh HD hpl;go_wp2_with fail;(refine (HP.out _ _ _ (KP.list (HK.out.up (QAA (Below.refl _ _) _)) fun _ _=>trivial) (hrep2.more _)).mono ?_);rintro e w2 ⟨rfl,hb2⟩;have B2:=QAC (QAA hbr _) hb2;clear g0 g1 g2 hb2;go_wp2_with fail;go_ret;(exact⟨by rw [HT.out];rfl,B2⟩)
  ·have HT:Hid (QAV l m=true):=by
    have:=HN.out;(rw [List.drop_of_length_le (by omega),QAV] at this);exact this.symm
   (have hge:¬ (i:Int) < (l.length:Int):=by omega);clear H3 HN;go_wp2_with fail;go_ret;(exact⟨by rw [HT.out];rfl,hbr⟩)
set_option maxHeartbeats 4000000 in
theorem QFy (l m:List Fm) (hm:m.length≤400) (v u:Value) (w:World) (hv:FL w v l) (hu:FL w u m) :
  Calls Tryz.prog 223 #[v,u] w fun e w'=>e = .returned (.bool (QBk l m))∧Below w.heap.size w w':=by
 have hw:=QDH l m hm v u w hv hu;unfold QBk;have HW:Hid (Calls Tryz.prog 221 #[v,u] w _):=hw;generalize QAV l m=bb at *;obtain⟨ad,cp,rfl,-⟩:=hv;obtain⟨ad',cp',rfl,-⟩:=hu;clear hw;by_cases hl:l.length=m.length
 ·rw [decide_eq_true hl,Bool.true_and]
  rw [hl] at HW ⊢;clear hl
  go_enter Tryz.func223,Tryz.ntmps223
  go_wp2_with (first
   | (
     go_at_call 221
     refine HW.out.mono ?_
     rintro e w1 ⟨rfl,hb1⟩)
   | fail)
  go_ret;exact⟨rfl,hb1⟩
 ·rw [decide_eq_false hl,Bool.false_and]
  (have hlJ:((l.length:Int) == (m.length:Int))=false:=by simp;omega);clear HW
  go_enter Tryz.func223,Tryz.ntmps223
  go_wp2_with fail;go_ret;exact⟨rfl,Below.refl _ _⟩
end Go.Proofs.YtffkoiemnchdgadGreat
