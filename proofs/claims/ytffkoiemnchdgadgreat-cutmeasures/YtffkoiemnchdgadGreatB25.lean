import Derived.Test.YtffkoiemnchdgadGreatB24
import Derived.Test.YtffkoiemnchdgadGreatB21
import Derived.Test.YtffkoiemnchdgadGreatB23
import Derived.Test.YtffkoiemnchdgadGreatB22
import Derived.Maps.OwnSet
import Derived.Shelf.SlMaps.Copy
namespace Go.Proofs.YtffkoiemnchdgadGreat
open Go.RowKit
def Over (B:Nat) (w w':World):Prop:=w.heap.size≤w'.heap.size∧∀ b,B < b→b < w.heap.size→w'.heap[b]? = w.heap[b]?
theorem Over.trans {B:Nat} {a b c:World} (h:Over B a b) (k:Over B b c):Over B a c:=⟨Nat.le_trans h.1 k.1,fun i h1 h2=>(k.2 i h1 (Nat.lt_of_lt_of_le h2 h.1)).trans (h.2 i h1 h2)⟩
theorem QBu {B:Nat} {w w':World} (h:Below w.heap.size w w'):Over B w w':=⟨h.size,fun b _ hb=>h.block b hb⟩
theorem QCQ {B:Nat} {w w':World} (h:w.grownBy w' (some B)):Over B w w':=⟨h.size,fun b h1 h2=>h.block b h2 (fun e=>by have:=Option.some.inj e;omega)⟩
theorem QIN {B B':Nat} {w w':World} (h:Over B w w') (hb:B≤B'):Over B' w w':=⟨h.1,fun b h1 h2=>h.2 b (by omega) h2⟩
def RuleFn (i:Bool) (q:Ru) (v:Value) (B:Nat) (w:World):Prop:=∃ fn cap,v = .func (.func fn) #[] cap∧(∀ (s:Value) (w':World),(callFunc fn (#[s]++cap)).run Tryz.prog w' = .ok (.enter fn (#[s]++cap)) w') ∧
 ∀ (w':World),Over B w w'→∀ (f:Fm) (l r:List Fm) (s:Value),Fine f→l.length≤300→r.length≤300→StV w' s f l r →
  Calls Tryz.prog fn (#[s]++cap) w' fun e w''=>∃ x,e = .returned (.tuple #[x,.bool (QBP i q f l r).isSome])∧(∀ ss,QBP i q f l r=some ss→SQs w'' x ss)∧Below w'.heap.size w' w''
theorem RuleFn.over {i:Bool} {q:Ru} {v:Value} {B:Nat} {w w':World} (h:RuleFn i q v B w) (hb:Over B w w'):RuleFn i q v B w':=by
 obtain⟨fn,cap,hv,he,hc⟩:=h;(exact⟨fn,cap,hv,he,fun w'' hb'=>hc w'' (hb.trans hb')⟩)
def QBD (fn:Nat) (kind:Int) (pr:Fm→List Fm→List Fm→List (List Fm × List Fm)):Prop:=(∀ (s:Value) (w:World),(callFunc fn #[s]).run Tryz.prog w = .ok (.enter fn #[s]) w) ∧
 ∀ (f:Fm) (l r:List Fm) (s:Value) (w:World),Fine f→f.kind=kind→l.length≤300→r.length≤300→StV w s f l r→Calls Tryz.prog fn #[s] w fun e w'=>∃ x,e = .returned x∧SQs w' x (pr f l r)∧Below w.heap.size w w'
set_option maxHeartbeats 2000000 in
theorem QFm {fn:Nat} {kind:Int} {pr:Fm→List Fm→List Fm→List (List Fm × List Fm)} (hp:QBD fn kind pr) (kb pb:Nat) (T1 T2:TypeId) (f:Fm) (hf:Fine f) (l r:List Fm) (hl:l.length≤300) (hr:r.length≤300) (s:Value) (w:World)
  (hk:w.heap[kb]? = some (.cells #[.int .i64 kind] T1 (0,0))) (hb:w.heap[pb]? = some (.cells #[.func (.func fn) #[] #[]] T2 (0,0))) (hs:StV w s f l r) :
  Calls Tryz.prog 220 #[s,.pointer (some ⟨kb,0,none⟩),.pointer (some ⟨pb,0,none⟩)] w fun e w'=>∃ x,e = .returned (.tuple #[x,.bool (decide (f.kind=kind∧f∈l))])∧(f.kind=kind→f∈l→SQs w' x (pr f l r))∧Below w.heap.size w w':=by
 (have hil:=fun s (w:World) h=>QCz f l r s w h);have hpr:=hp.2 f l r;have hen:=hp.1;have hS:=hs;obtain⟨c0,c1,c2,vl,vr,vg,vd,rfl,hrep,hlx,hrx,hgx,hdx⟩:=hs;obtain⟨k,n,ks⟩:=f;obtain⟨sf,cf,hfv⟩:=QAJ hrep;simp only [Value.agg.injEq,Array.mk.injEq,List.cons.injEq,and_true] at hfv;obtain⟨rfl,rfl,rfl⟩:=hfv;have HIL:Hid (∀ s w,StV w s (.mk k n ks) l r→Calls Tryz.prog 172 #[s] w _):=hil;have HS:Hid (StV w _ (.mk k n ks) l r):=hS;obtain⟨adl,cpl,rfl,-⟩:=hlx;obtain⟨adr,cpr,rfl,-⟩:=hrx;obtain⟨adg,cpg,rfl,-⟩:=hgx;obtain⟨add,cpd,rfl,-⟩:=hdx;(have HPR:Hid (∀ s w,StV w s (.mk k n ks) l r→k=kind→Calls Tryz.prog fn #[s] w fun e w'=>∃ x,e = .returned x∧SQs w' x (pr (.mk k n ks) l r)∧Below w.heap.size w w'):=fun s w h he=>hpr s w hf he hl hr h);have HK:Hid (w.heap[kb]? = some (.cells #[.int .i64 kind] T1 (0,0))):=hk;have HP:Hid (w.heap[pb]? = some (.cells #[.func (.func fn) #[] #[]] T2 (0,0))):=hb;obtain⟨O,hO⟩:∃ O,O=Obj.cells #[.int .i64 k,.string n,.slice sf ks.length cf,.slice adl l.length cpl,.slice adr r.length cpr,.slice adg (l.erase (.mk k n ks)).length cpg,.slice add (r.erase (.mk k n ks)).length cpd] 248 (0,0):=⟨_,rfl⟩;have B0:=QAA (Below.refl _ w) O;obtain⟨q0,q1⟩:(w.alloc O).cell? ⟨kb,0,none⟩=some (.int .i64 kind)∧True:=⟨QAL (QAF hk O) 0,trivial⟩;rw [hO] at q0;(show Calls Tryz.prog _ _ _ fun e w'=>∃ x,e = .returned (.tuple #[x,.bool (decide (k=kind∧Fm.mk k n ks∈l))])∧(k=kind→Fm.mk k n ks∈l→SQs w' x (pr (.mk k n ks) l r))∧Below w.heap.size w w');clear hil hpr hrep hS hk hb hp q1;by_cases hkk:k=kind
 ·subst hkk
  by_cases hm:Fm.mk k n ks∈l
  ·have HT:Hid (decide (k=k∧Fm.mk k n ks∈l)=true):=decide_eq_true ⟨rfl,hm⟩
   rw [decide_eq_true hm] at HIL;(have HPQ:Hid (∀ s w,StV w s (.mk k n ks) l r→Calls Tryz.prog fn #[s] w fun e w'=>∃ x,e = .returned x∧SQs w' x (pr (.mk k n ks) l r)∧Below w.heap.size w w'):=fun s w h=>HPR.out s w h rfl);clear hm HPR
   go_enter Tryz.func220,Tryz.ntmps220
   go_wp2_with fail;rw [← hO];refine (HIL.out _ _ (HS.out.up B0)).mono ?_;rintro e w1 ⟨rfl,hb1⟩;have B1:=QAC B0 hb1;have q2:=QAL (QAB B1 HP.out) 0;have qq:=QAB hb1 (QAG w O);rw [hO] at qq;obtain⟨k0,k1,k2,k3,k4,k5,k6⟩:=QAQ qq;simp at q2;go_wp2_with fail;refine (HPQ.out _ _ (HS.out.up B1)).mono ?_;rintro e w2 ⟨x,rfl,hss,hb2⟩;have B2:=QAC B1 hb2;have HX:Hid (SQs w2 x (pr (.mk k n ks) l r)):=hss;clear hss;go_wp2_with fail;go_ret2;(exact⟨x,by rw [HT.out];rfl,fun _ _=>HX.out,B2⟩)
  ·have HT:Hid (decide (k=k∧Fm.mk k n ks∈l)=false):=decide_eq_false fun h=>hm h.2
   have HM:Hid (¬ Fm.mk k n ks∈l):=hm;rw [decide_eq_false hm] at HIL;clear hm
   go_enter Tryz.func220,Tryz.ntmps220
   go_wp2_with fail;rw [← hO];refine (HIL.out _ _ (HS.out.up B0)).mono ?_;rintro e w1 ⟨rfl,hb1⟩;have B1:=QAC B0 hb1;go_wp2_with fail;go_ret2;(exact⟨_,by rw [HT.out];rfl,fun _ h=>absurd h HM.out,B1⟩)
 ·have HT:Hid (decide (k=kind∧Fm.mk k n ks∈l)=false):=decide_eq_false fun h=>hkk h.1
  have HM:Hid (¬ k=kind):=hkk;(have hne:(k != kind)=true:=by simpa using hkk);subst hO
  go_enter Tryz.func220,Tryz.ntmps220
  go_wp2_with fail;go_ret2;(exact⟨_,by rw [HT.out];rfl,fun h=>absurd h HM.out,B0⟩)
set_option maxHeartbeats 2000000 in
theorem QFQ {fn:Nat} {kind:Int} {pr:Fm→List Fm→List Fm→List (List Fm × List Fm)} (hp:QBD fn kind pr) (kb pb:Nat) (T1 T2:TypeId) (f:Fm) (hf:Fine f) (l r:List Fm) (hl:l.length≤300) (hr:r.length≤300) (s:Value) (w:World)
  (hk:w.heap[kb]? = some (.cells #[.int .i64 kind] T1 (0,0))) (hb:w.heap[pb]? = some (.cells #[.func (.func fn) #[] #[]] T2 (0,0))) (hs:StV w s f l r) :
  Calls Tryz.prog 219 #[s,.pointer (some ⟨kb,0,none⟩),.pointer (some ⟨pb,0,none⟩)] w fun e w'=>∃ x,e = .returned (.tuple #[x,.bool (decide (f.kind=kind∧f∈r))])∧(f.kind=kind→f∈r→SQs w' x (pr f l r))∧Below w.heap.size w w':=by
 (have hil:=fun s (w:World) h=>QCb f l r s w h);have hpr:=hp.2 f l r;have hen:=hp.1;have hS:=hs;obtain⟨c0,c1,c2,vl,vr,vg,vd,rfl,hrep,hlx,hrx,hgx,hdx⟩:=hs;obtain⟨k,n,ks⟩:=f;obtain⟨sf,cf,hfv⟩:=QAJ hrep;simp only [Value.agg.injEq,Array.mk.injEq,List.cons.injEq,and_true] at hfv;obtain⟨rfl,rfl,rfl⟩:=hfv;have HIL:Hid (∀ s w,StV w s (.mk k n ks) l r→Calls Tryz.prog 173 #[s] w _):=hil;have HS:Hid (StV w _ (.mk k n ks) l r):=hS;obtain⟨adl,cpl,rfl,-⟩:=hlx;obtain⟨adr,cpr,rfl,-⟩:=hrx;obtain⟨adg,cpg,rfl,-⟩:=hgx;obtain⟨add,cpd,rfl,-⟩:=hdx;(have HPR:Hid (∀ s w,StV w s (.mk k n ks) l r→k=kind→Calls Tryz.prog fn #[s] w fun e w'=>∃ x,e = .returned x∧SQs w' x (pr (.mk k n ks) l r)∧Below w.heap.size w w'):=fun s w h he=>hpr s w hf he hl hr h);have HK:Hid (w.heap[kb]? = some (.cells #[.int .i64 kind] T1 (0,0))):=hk;have HP:Hid (w.heap[pb]? = some (.cells #[.func (.func fn) #[] #[]] T2 (0,0))):=hb;obtain⟨O,hO⟩:∃ O,O=Obj.cells #[.int .i64 k,.string n,.slice sf ks.length cf,.slice adl l.length cpl,.slice adr r.length cpr,.slice adg (l.erase (.mk k n ks)).length cpg,.slice add (r.erase (.mk k n ks)).length cpd] 248 (0,0):=⟨_,rfl⟩;have B0:=QAA (Below.refl _ w) O;obtain⟨q0,q1⟩:(w.alloc O).cell? ⟨kb,0,none⟩=some (.int .i64 kind)∧True:=⟨QAL (QAF hk O) 0,trivial⟩;rw [hO] at q0;(show Calls Tryz.prog _ _ _ fun e w'=>∃ x,e = .returned (.tuple #[x,.bool (decide (k=kind∧Fm.mk k n ks∈r))])∧(k=kind→Fm.mk k n ks∈r→SQs w' x (pr (.mk k n ks) l r))∧Below w.heap.size w w');clear hil hpr hrep hS hk hb hp q1;by_cases hkk:k=kind
 ·subst hkk
  by_cases hm:Fm.mk k n ks∈r
  ·have HT:Hid (decide (k=k∧Fm.mk k n ks∈r)=true):=decide_eq_true ⟨rfl,hm⟩
   rw [decide_eq_true hm] at HIL;(have HPQ:Hid (∀ s w,StV w s (.mk k n ks) l r→Calls Tryz.prog fn #[s] w fun e w'=>∃ x,e = .returned x∧SQs w' x (pr (.mk k n ks) l r)∧Below w.heap.size w w'):=fun s w h=>HPR.out s w h rfl);clear hm HPR
   go_enter Tryz.func219,Tryz.ntmps219
   go_wp2_with fail;rw [← hO];refine (HIL.out _ _ (HS.out.up B0)).mono ?_;rintro e w1 ⟨rfl,hb1⟩;have B1:=QAC B0 hb1;have q2:=QAL (QAB B1 HP.out) 0;have qq:=QAB hb1 (QAG w O);rw [hO] at qq;obtain⟨k0,k1,k2,k3,k4,k5,k6⟩:=QAQ qq;simp at q2;go_wp2_with fail;refine (HPQ.out _ _ (HS.out.up B1)).mono ?_;rintro e w2 ⟨x,rfl,hss,hb2⟩;have B2:=QAC B1 hb2;have HX:Hid (SQs w2 x (pr (.mk k n ks) l r)):=hss;clear hss;go_wp2_with fail;go_ret2;(exact⟨x,by rw [HT.out];rfl,fun _ _=>HX.out,B2⟩)
  ·have HT:Hid (decide (k=k∧Fm.mk k n ks∈r)=false):=decide_eq_false fun h=>hm h.2
   have HM:Hid (¬ Fm.mk k n ks∈r):=hm;rw [decide_eq_false hm] at HIL;clear hm
   go_enter Tryz.func219,Tryz.ntmps219
   go_wp2_with fail;rw [← hO];refine (HIL.out _ _ (HS.out.up B0)).mono ?_;rintro e w1 ⟨rfl,hb1⟩;have B1:=QAC B0 hb1;go_wp2_with fail;go_ret2;(exact⟨_,by rw [HT.out];rfl,fun _ h=>absurd h HM.out,B1⟩)
 ·have HT:Hid (decide (k=kind∧Fm.mk k n ks∈r)=false):=decide_eq_false fun h=>hkk h.1
  have HM:Hid (¬ k=kind):=hkk;(have hne:(k != kind)=true:=by simpa using hkk);subst hO
  go_enter Tryz.func219,Tryz.ntmps219
  go_wp2_with fail;go_ret2;(exact⟨_,by rw [HT.out];rfl,fun h=>absurd h HM.out,B0⟩)
set_option maxHeartbeats 1000000 in
theorem QFn (kind:Int) (fn:Nat) (w:World):Calls Tryz.prog 176 #[.int .i64 kind,.func (.func fn) #[] #[]] w fun e w'=>e = .returned (.func (.func 220) #[] #[.pointer (some ⟨w.heap.size,0,none⟩),.pointer (some ⟨w.heap.size+1,0,none⟩)]) ∧
  w'.heap[w.heap.size]? = some (.cells #[.int .i64 kind] 3 (0,0))∧w'.heap[w.heap.size+1]? = some (.cells #[.func (.func fn) #[] #[]] 250 (0,0))∧Below w.heap.size w w':=by
 (have hmf:∀ (fn:Fn) (first cap:Array Value) (w:World),(Instr.makeFunc fn first cap).run Tryz.prog w = .ok (.func fn first cap) w:=fun _ _ _ _=>rfl)
 go_enter Tryz.func176,Tryz.ntmps176
 go_wp2_with fail;go_ret;exact⟨rfl,QAF (QAG w _) _,QAd w _ _,QAA (QAA (Below.refl _ w) _) _⟩
theorem QGc (cap:Array Value) (w:World):(callFunc 220 cap).run Tryz.prog w = .ok (.enter 220 cap) w:=by simp [go_sem]
theorem QFo (i:Bool) (q:Ru) {fn kb pb B:Nat} {kind:Int} {T1 T2:TypeId} {pr:Fm→List Fm→List Fm→List (List Fm × List Fm)} (hp:QBD fn kind pr) (hq:∀ f l r,QBP i q f l r=if f.kind=kind∧f∈l then some (pr f l r) else none) {w:World} (hkB:B < kb) (hpB:B < pb)
  (h1:w.heap[kb]? = some (.cells #[.int .i64 kind] T1 (0,0))) (h2:w.heap[pb]? = some (.cells #[.func (.func fn) #[] #[]] T2 (0,0))):RuleFn i q (.func (.func 220) #[] #[.pointer (some ⟨kb,0,none⟩),.pointer (some ⟨pb,0,none⟩)]) B w:=by
 (refine⟨_,_,rfl,fun s w=>QGc _ w,fun w'' hb f l r s hf hl hr hs => ?_⟩);refine (QFm hp kb pb _ _ f hf l r hl hr s w'' ((hb.2 kb hkB (QAE h1)).trans h1) ((hb.2 pb hpB (QAE h2)).trans h2) hs).mono ?_;rintro e w3 ⟨x,rfl,hx,hb3⟩;(refine⟨x,?_,fun ss hss => ?_,hb3⟩)
 ·rw [hq]
  by_cases h:f.kind=kind∧f∈l
  ·rw [if_pos h,decide_eq_true h];rfl
  ·rw [if_neg h,decide_eq_false h];rfl
 ·rw [hq] at hss
  split at hss
  ·rename_i h
   rw [← Option.some.inj hss];exact hx h.1 h.2
  ·cases hss
theorem QBS (q:Ru) {fn B:Nat} {kind:Int} {pr:Bool→Fm→List Fm→List Fm→List (List Fm × List Fm)} {I:Bool→Prop} (hp:∀ i,I i→QBD fn kind (pr i)) (hq:∀ i,I i→∀ f l r,QBP i q f l r=if f.kind=kind∧f∈l then some (pr i f l r) else none) (w:World) (hB:B < w.heap.size) :
  Calls Tryz.prog 176 #[.int .i64 kind,.func (.func fn) #[] #[]] w fun e w'=>∃ fnr cp,e = .returned (.func (.func fnr) #[] cp)∧(∀ i,I i→RuleFn i q (.func (.func fnr) #[] cp) B w')∧Below w.heap.size w w':=by
 refine (QFn kind fn w).mono ?_;rintro e w' ⟨rfl,h1,h2,hb⟩;(exact⟨_,_,rfl,fun i hi=>QFo i q (hp i hi) (hq i hi) hB (Nat.lt_succ_of_lt hB) h1 h2,hb⟩)
set_option maxHeartbeats 1000000 in
theorem QFR (kind:Int) (fn:Nat) (w:World):Calls Tryz.prog 174 #[.int .i64 kind,.func (.func fn) #[] #[]] w fun e w'=>e = .returned (.func (.func 219) #[] #[.pointer (some ⟨w.heap.size,0,none⟩),.pointer (some ⟨w.heap.size+1,0,none⟩)]) ∧
  w'.heap[w.heap.size]? = some (.cells #[.int .i64 kind] 3 (0,0))∧w'.heap[w.heap.size+1]? = some (.cells #[.func (.func fn) #[] #[]] 250 (0,0))∧Below w.heap.size w w':=by
 (have hmf:∀ (fn:Fn) (first cap:Array Value) (w:World),(Instr.makeFunc fn first cap).run Tryz.prog w = .ok (.func fn first cap) w:=fun _ _ _ _=>rfl)
 go_enter Tryz.func174,Tryz.ntmps174
 go_wp2_with fail;go_ret;exact⟨rfl,QAF (QAG w _) _,QAd w _ _,QAA (QAA (Below.refl _ w) _) _⟩
theorem QFp (cap:Array Value) (w:World):(callFunc 219 cap).run Tryz.prog w = .ok (.enter 219 cap) w:=by simp [go_sem]
theorem QFS (i:Bool) (q:Ru) {fn kb pb B:Nat} {kind:Int} {T1 T2:TypeId} {pr:Fm→List Fm→List Fm→List (List Fm × List Fm)} (hp:QBD fn kind pr) (hq:∀ f l r,QBP i q f l r=if f.kind=kind∧f∈r then some (pr f l r) else none) {w:World} (hkB:B < kb) (hpB:B < pb)
  (h1:w.heap[kb]? = some (.cells #[.int .i64 kind] T1 (0,0))) (h2:w.heap[pb]? = some (.cells #[.func (.func fn) #[] #[]] T2 (0,0))):RuleFn i q (.func (.func 219) #[] #[.pointer (some ⟨kb,0,none⟩),.pointer (some ⟨pb,0,none⟩)]) B w:=by
 (refine⟨_,_,rfl,fun s w=>QFp _ w,fun w'' hb f l r s hf hl hr hs => ?_⟩);refine (QFQ hp kb pb _ _ f hf l r hl hr s w'' ((hb.2 kb hkB (QAE h1)).trans h1) ((hb.2 pb hpB (QAE h2)).trans h2) hs).mono ?_;rintro e w3 ⟨x,rfl,hx,hb3⟩;(refine⟨x,?_,fun ss hss => ?_,hb3⟩)
 ·rw [hq]
  by_cases h:f.kind=kind∧f∈r
  ·rw [if_pos h,decide_eq_true h];rfl
  ·rw [if_neg h,decide_eq_false h];rfl
 ·rw [hq] at hss
  split at hss
  ·rename_i h
   rw [← Option.some.inj hss];exact hx h.1 h.2
  ·cases hss
theorem QBL (q:Ru) {fn B:Nat} {kind:Int} {pr:Bool→Fm→List Fm→List Fm→List (List Fm × List Fm)} {I:Bool→Prop} (hp:∀ i,I i→QBD fn kind (pr i)) (hq:∀ i,I i→∀ f l r,QBP i q f l r=if f.kind=kind∧f∈r then some (pr i f l r) else none) (w:World) (hB:B < w.heap.size) :
  Calls Tryz.prog 174 #[.int .i64 kind,.func (.func fn) #[] #[]] w fun e w'=>∃ fnr cp,e = .returned (.func (.func fnr) #[] cp)∧(∀ i,I i→RuleFn i q (.func (.func fnr) #[] cp) B w')∧Below w.heap.size w w':=by
 refine (QFR kind fn w).mono ?_;rintro e w' ⟨rfl,h1,h2,hb⟩;(exact⟨_,_,rfl,fun i hi=>QFS i q (hp i hi) (hq i hi) hB (Nat.lt_succ_of_lt hB) h1 h2,hb⟩)
theorem QJO:QBD 177 5 (fun f l r=>[(l.erase f++[f.kidA,f.kidB],r)]):=⟨fun s w=>by simp [go_sem],fun f l r s w hf hk hl hr hs=>by
 obtain⟨a,b,e,-,-,-,-⟩:=QAu hf (Or.inl hk);rw [hk] at e;subst e;obtain⟨ka,na,ksa⟩:=a;obtain⟨kb,nb,ksb⟩:=b
 exact QKR _ _ _ _ _ _ _ _ l r hl hr s w hs⟩
theorem QJP:QBD 181 5 (fun f l r=>[(l,r.erase f++[f.kidA]),(l,r.erase f++[f.kidB])]):=⟨fun s w=>by simp [go_sem],fun f l r s w hf hk hl hr hs=>by
 obtain⟨a,b,e,-,-,-,-⟩:=QAu hf (Or.inl hk);rw [hk] at e;subst e;obtain⟨ka,na,ksa⟩:=a;obtain⟨kb,nb,ksb⟩:=b
 exact QKS _ _ _ _ _ _ _ _ l r hl hr s w hs⟩
theorem QKI:QBD 182 6 (fun f l r=>[(l.erase f++[f.kidA],r),(l.erase f++[f.kidB],r)]):=⟨fun s w=>by simp [go_sem],fun f l r s w hf hk hl hr hs=>by
 obtain⟨a,b,e,-,-,-,-⟩:=QAu hf (Or.inr (Or.inl hk));rw [hk] at e;subst e;obtain⟨ka,na,ksa⟩:=a;obtain⟨kb,nb,ksb⟩:=b
 exact QKd _ _ _ _ _ _ _ _ l r hl hr s w hs⟩
theorem QJK:QBD 183 7 (fun f l r=>[(l++[f.kidA],r.erase f++[f.kidB])]):=⟨fun s w=>by simp [go_sem],fun f l r s w hf hk hl hr hs=>by
 obtain⟨a,b,e,-,-,-,-⟩:=QAu hf (Or.inr (Or.inr hk));rw [hk] at e;subst e;obtain⟨ka,na,ksa⟩:=a;obtain⟨kb,nb,ksb⟩:=b
 exact QKM _ _ _ _ _ _ _ _ l r hl hr s w hs⟩
theorem QJd:QBD 184 4 (fun f l r=>[(l++[f.kidA],r.erase f)]):=⟨fun s w=>by simp [go_sem],fun f l r s w hf hk hl hr hs=>by
 obtain⟨a,e,-,-⟩:=QBz hf hk;subst e;obtain⟨ka,na,ksa⟩:=a
 exact QKY _ _ _ _ _ l r hl hr s w hs⟩
theorem QJf:QBD 186 6 (fun f l _=>[(l,[f.kidA])]):=⟨fun s w=>by simp [go_sem],fun f l r s w hf hk hl hr hs=>by
 obtain⟨a,b,e,-,-,-,-⟩:=QAu hf (Or.inr (Or.inl hk));rw [hk] at e;subst e;obtain⟨ka,na,ksa⟩:=a;obtain⟨kb,nb,ksb⟩:=b
 exact QKZ _ _ _ _ _ _ _ _ l r hl hr s w hs⟩
theorem QJg:QBD 187 6 (fun f l _=>[(l,[f.kidB])]):=⟨fun s w=>by simp [go_sem],fun f l r s w hf hk hl hr hs=>by
 obtain⟨a,b,e,-,-,-,-⟩:=QAu hf (Or.inr (Or.inl hk));rw [hk] at e;subst e;obtain⟨ka,na,ksa⟩:=a;obtain⟨kb,nb,ksb⟩:=b
 exact QKa _ _ _ _ _ _ _ _ l r hl hr s w hs⟩
theorem QIe:QBD 188 7 (fun f l r=>[(l.erase f,[f.kidA]),(l.erase f++[f.kidB],r)]):=⟨fun s w=>by simp [go_sem],fun f l r s w hf hk hl hr hs=>by
 obtain⟨a,b,e,-,-,-,-⟩:=QAu hf (Or.inr (Or.inr hk));rw [hk] at e;subst e;obtain⟨ka,na,ksa⟩:=a;obtain⟨kb,nb,ksb⟩:=b
 exact QJn _ _ _ _ _ _ _ _ l r hl hr s w hs⟩
theorem QJB:QBD 189 4 (fun f l _=>[(l.erase f,[f.kidA])]):=⟨fun s w=>by simp [go_sem],fun f l r s w hf hk hl hr hs=>by
 obtain⟨a,e,-,-⟩:=QBz hf hk;subst e;obtain⟨ka,na,ksa⟩:=a
 exact QKH _ _ _ _ _ l r hl hr s w hs⟩
theorem QKJ:QBD 191 6 (fun f l r=>[(l,r.erase f++[f.kidA,f.kidB])]):=⟨fun s w=>by simp [go_sem],fun f l r s w hf hk hl hr hs=>by
 obtain⟨a,b,e,-,-,-,-⟩:=QAu hf (Or.inr (Or.inl hk));rw [hk] at e;subst e;obtain⟨ka,na,ksa⟩:=a;obtain⟨kb,nb,ksb⟩:=b
 exact QKe _ _ _ _ _ _ _ _ l r hl hr s w hs⟩
theorem QId:QBD 192 7 (fun f l r=>[(l.erase f,r++[f.kidA]),(l.erase f++[f.kidB],r)]):=⟨fun s w=>by simp [go_sem],fun f l r s w hf hk hl hr hs=>by
 obtain⟨a,b,e,-,-,-,-⟩:=QAu hf (Or.inr (Or.inr hk));rw [hk] at e;subst e;obtain⟨ka,na,ksa⟩:=a;obtain⟨kb,nb,ksb⟩:=b
 exact QJm _ _ _ _ _ _ _ _ l r hl hr s w hs⟩
theorem QJA:QBD 193 4 (fun f l r=>[(l.erase f,r++[f.kidA])]):=⟨fun s w=>by simp [go_sem],fun f l r s w hf hk hl hr hs=>by
 obtain⟨a,e,-,-⟩:=QBz hf hk;subst e;obtain⟨ka,na,ksa⟩:=a
 exact QKG _ _ _ _ _ l r hl hr s w hs⟩
set_option maxHeartbeats 1000000 in
theorem QGH (f:Fm) (l r:List Fm) (s:Value) (w:World) (hs:StV w s f l r):Calls Tryz.prog 175 #[s] w fun e w'=>∃ x,e = .returned x∧SQs w' x []∧Below w.heap.size w w':=by
 obtain⟨c0,c1,c2,vl,vr,vg,vd,rfl,hrep,⟨adl,cpl,rfl,-⟩,⟨adr,cpr,rfl,-⟩,⟨adg,cpg,rfl,-⟩,⟨add,cpd,rfl,-⟩⟩:=hs;obtain⟨k,n,ks⟩:=f;obtain⟨sf,cf,hfv⟩:=QAJ hrep;simp only [Value.agg.injEq,Array.mk.injEq,List.cons.injEq,and_true] at hfv;obtain⟨rfl,rfl,rfl⟩:=hfv;clear hrep
 go_enter Tryz.func175,Tryz.ntmps175
 go_wp2_with fail;go_ret;exact⟨_,rfl,SQs.nil,QAA (Below.refl _ w) _⟩
theorem QEq (kind:Int):QBD 175 kind (fun _ _ _=>[]):=⟨fun s w=>by simp [go_sem],fun f l r s w _ _ _ _ hs=>QGH f l r s w hs⟩
set_option maxHeartbeats 2000000 in
theorem QJz (f:Fm) (l r:List Fm) (s:Value) (w:World) (hs:StV w s f l r) :
  Calls Tryz.prog 171 #[s] w fun e w'=>e = .returned (.tuple #[.slice none 0 0,.bool (decide (f∈l) && decide (f∈r))])∧Below w.heap.size w w':=by
 (have hil:=fun s (w:World) h=>QCz f l r s w h);(have hir:=fun s (w:World) h=>QCb f l r s w h);have HS:Hid (StV w s f l r):=hs;obtain⟨c0,c1,c2,vl,vr,vg,vd,rfl,hrep,⟨adl,cpl,rfl,-⟩,⟨adr,cpr,rfl,-⟩,⟨adg,cpg,rfl,-⟩,⟨add,cpd,rfl,-⟩⟩:=hs;obtain⟨k,n,ks⟩:=f;obtain⟨sf,cf,hfv⟩:=QAJ hrep;simp only [Value.agg.injEq,Array.mk.injEq,List.cons.injEq,and_true] at hfv;obtain⟨rfl,rfl,rfl⟩:=hfv;have HIL:Hid (∀ s w,StV w s (.mk k n ks) l r→Calls Tryz.prog 172 #[s] w _):=hil;have HIR:Hid (∀ s w,StV w s (.mk k n ks) l r→Calls Tryz.prog 173 #[s] w _):=hir;clear hrep hil hir;generalize decide (Fm.mk k n ks∈l)=bl at *;generalize decide (Fm.mk k n ks∈r)=br at *;obtain⟨O,hO⟩:∃ O,O=Obj.cells #[.int .i64 k,.string n,.slice sf ks.length cf,.slice adl l.length cpl,.slice adr r.length cpr,.slice adg (l.erase (.mk k n ks)).length cpg,.slice add (r.erase (.mk k n ks)).length cpd] 248 (0,0):=⟨_,rfl⟩;have B0:=QAA (Below.refl _ w) O
 cases bl
 ·go_enter Tryz.func171,Tryz.ntmps171
  go_wp2_with fail;rw [← hO];refine (HIL.out _ _ (HS.out.up B0)).mono ?_;rintro e w1 ⟨rfl,hb1⟩;have B1:=QAC B0 hb1;go_wp2_with fail;go_ret2;exact⟨rfl,B1⟩
 ·go_enter Tryz.func171,Tryz.ntmps171
  go_wp2_with fail;rw [← hO];refine (HIL.out _ _ (HS.out.up B0)).mono ?_;rintro e w1 ⟨rfl,hb1⟩;have B1:=QAC B0 hb1;have qq:=QAB hb1 (QAG w O);rw [hO] at qq;obtain⟨k0,k1,k2,k3,k4,k5,k6⟩:=QAQ qq;go_wp2_with fail;refine (HIR.out _ _ (HS.out.up B1)).mono ?_;rintro e w2 ⟨rfl,hb2⟩;have B2:=QAC B1 hb2;go_wp2_with fail;go_ret2;(exact⟨by cases br <;> rfl,B2⟩)
theorem QJQ (i:Bool) (B:Nat) (w:World):RuleFn i .ax (.func (.func 171) #[] #[]) B w:=⟨_,_,rfl,fun s w=>by simp [go_sem],fun w' _ f l r s _ _ _ hs=>by
 refine (QJz f l r s w' hs).mono ?_;rintro e w'' ⟨rfl,hb⟩;by_cases h:f∈l∧f∈r
 ·refine⟨_,by simp only [QBP,if_pos h,decide_eq_true h.1,decide_eq_true h.2];rfl,fun ss hss => ?_,hb⟩
  simp only [QBP,if_pos h] at hss;rw [← Option.some.inj hss];exact SQs.nil
 ·refine⟨.slice none 0 0,?_,fun ss hss => ?_,hb⟩
  ·have:(decide (f∈l) && decide (f∈r))=false:=by
    by_cases h1:f∈l
    ·rw [decide_eq_true h1,decide_eq_false fun h2=>h ⟨h1,h2⟩];rfl
    ·rw [decide_eq_false h1];rfl
   rw [this];simp only [QBP,if_neg h];rfl
  ·simp only [QBP,if_neg h] at hss
   cases hss⟩
theorem QFV (i:Bool) (B:Nat) (w:World):RuleFn i .contrL (.func (.func 185) #[] #[]) B w:=⟨_,_,rfl,fun s w=>by simp [go_sem],fun w' _ f l r s _ hl hr hs=>by
 obtain⟨k,n,ks⟩:=f;refine (QJW k n ks l r hl hr s w' hs).mono ?_;rintro e w'' ⟨x,rfl,hx,hb⟩;by_cases h:Fm.mk k n ks∈l
 ·refine⟨x,by simp only [QBP,if_pos h,decide_eq_true h];rfl,fun ss hss => ?_,hb⟩
  simp only [QBP,if_pos h] at hss;rw [← Option.some.inj hss];exact hx
 ·refine⟨x,by simp only [QBP,if_neg h,decide_eq_false h];rfl,fun ss hss => ?_,hb⟩
  simp only [QBP,if_neg h] at hss
  cases hss⟩
theorem QFW (B:Nat) (w:World):RuleFn false .contrR (.func (.func 194) #[] #[]) B w:=⟨_,_,rfl,fun s w=>by simp [go_sem],fun w' _ f l r s _ hl hr hs=>by
 obtain⟨k,n,ks⟩:=f;refine (QJX k n ks l r hl hr s w' hs).mono ?_;rintro e w'' ⟨x,rfl,hx,hb⟩;by_cases h:Fm.mk k n ks∈r
 ·refine⟨x,by simp only [QBP,if_pos h,decide_eq_true h];rfl,fun ss hss => ?_,hb⟩
  simp only [QBP,if_pos h] at hss;rw [← Option.some.inj hss];exact hx
 ·refine⟨x,by simp only [QBP,if_neg h,decide_eq_false h];rfl,fun ss hss => ?_,hb⟩
  simp only [QBP,if_neg h] at hss
  cases hss⟩
theorem QGj (B:Nat) (w:World):RuleFn false .cut (.func (.func 195) #[] #[]) B w:=⟨_,_,rfl,fun s w=>by simp [go_sem],fun w' _ f l r s _ hl hr hs=>by
 obtain⟨k,n,ks⟩:=f;refine (QKU k n ks l r hl hr s w' hs).mono ?_;rintro e w'' ⟨x,rfl,hx,hb⟩;(refine⟨x,rfl,fun ss hss => ?_,hb⟩);rw [← Option.some.inj hss]
 exact hx⟩
theorem QGk (B:Nat) (w:World):RuleFn true .cut (.func (.func 190) #[] #[]) B w:=⟨_,_,rfl,fun s w=>by simp [go_sem],fun w' _ f l r s _ hl hr hs=>by
 obtain⟨k,n,ks⟩:=f;refine (QKV k n ks l r hl hr s w' hs).mono ?_;rintro e w'' ⟨x,rfl,hx,hb⟩;(refine⟨x,rfl,fun ss hss => ?_,hb⟩);rw [← Option.some.inj hss]
 exact hx⟩
end Go.Proofs.YtffkoiemnchdgadGreat
namespace Go.Proofs
open Go.Shelf
def Tryz.copyRen:Go.Shelf.Ren:=⟨fun|5=>147|n=>n,fun|4=>4|23=>175|24=>175|26=>9|27=>215|n=>n,fun n=>n⟩
theorem Tryz.copyLays:SlLaysX.n5 Tryz.prog Tryz.copyRen:={
 mixed:=by kernel_rfl
 f5:=⟨Tryz.f147.name,by kernel_rfl,Tryz.func147.trans (congrArg some (by kernel_rfl))⟩
 t0:=by kernel_rfl
 a0:=fun w=>by kernel_rfl
 z0:=fun w=>by kernel_rfl
 v0:=fun w=>by kernel_rfl
 t4:=by kernel_rfl
 a4:=fun w=>by kernel_rfl
 z4:=fun w=>by kernel_rfl
 v4:=fun w=>by kernel_rfl
 t23:=by kernel_rfl
 a23:=fun w=>by kernel_rfl
 z23:=fun w=>by kernel_rfl
 v23:=fun w=>by kernel_rfl
 t24:=by kernel_rfl
 a24:=fun w=>by kernel_rfl
 z24:=fun w=>by kernel_rfl
 v24:=fun w=>by kernel_rfl
 a26:=fun w=>by kernel_rfl
 z26:=fun w=>by kernel_rfl
 a27:=fun w=>by kernel_rfl
 z27:=fun w=>by kernel_rfl }
end Go.Proofs
namespace Go.Proofs.YtffkoiemnchdgadGreat
open Go.RowKit Go.Maps Go.WideMaps
def QBt (v:Value):Option (DataW Value × List MemPlace):=some (.held v,[])
def QBI (L:List (List UInt8 × Value)):DataW Value:=L.foldl (fun D p=>D.put (.string p.1) (.held p.2)) (.map [])
theorem QGN (L:List (List UInt8 × Value)) (p:List UInt8 × Value):QBI (L++[p])=(QBI L).put (.string p.1) (.held p.2):=by simp [QBI]
def RMap (w:World) (b:Nat) (L:List (List UInt8 × Value)):Prop:=w.ownsMap Tryz.prog 9 QBt b L.length (QBI L)
theorem QBs {w w':World} (h:Below w.heap.size w w'):w.grownBy w' none:=⟨h.os,h.tape,h.output,h.size,fun i hi _=>h.block i hi⟩
theorem RMap.up {w w':World} {b:Nat} {L:List (List UInt8 × Value)} (h:RMap w b L) (hb:Below w.heap.size w w'):RMap w' b L:=World.ownsMap.kept h (QBs hb) (by simp)
theorem RMap.made (w:World):RMap (w.alloc (.map #[] 0)) w.heap.size []:=World.ownsMap_made _ _ _ _
def RL (i:Bool) (B:Nat) (w:World):List (List UInt8 × Value)→List Ru→Prop
 | [],[]=>True
 | p :: L,q :: qs=>p.1=q.text∧RuleFn i q p.2 B w∧RL i B w L qs
 | _,_=>False
theorem RL.over {i:Bool} {B:Nat} {w w':World} (hb:Over B w w'):∀ {L:List (List UInt8 × Value)} {qs:List Ru},RL i B w L qs→RL i B w' L qs
 | [],[],_=>trivial
 | _ :: _,_ :: _,h=>⟨h.1,h.2.1.over hb,RL.over hb h.2.2⟩
theorem RL.snoc {i:Bool} {B:Nat} {w:World} {q:Ru} {v:Value} (h':RuleFn i q v B w):∀ {L:List (List UInt8 × Value)} {qs:List Ru},RL i B w L qs→RL i B w (L++[(q.text,v)]) (qs++[q])
 | [],[],_=>⟨rfl,h',trivial⟩
 | _ :: _,_ :: _,h=>⟨h.1,h.2.1,RL.snoc h' h.2.2⟩
theorem QEf {B b:Nat} {w w1 w2:World} (h:Below B w w1) (hg:w1.grownBy w2 (some b)) (hB:B≤b) (hs:B≤w1.heap.size):Below B w w2:=h.grown hg hs (fun j hj=>by cases hj;exact hB)
structure MW (I:Bool→Prop) (w:World) (B:Nat) (L:List (List UInt8 × Value)) (qs:List Ru) (wx:World):Prop where
 map:RMap wx B L
 rl:∀ i,I i→RL i B wx L qs
 below:Below w.heap.size w wx
 lt:B < wx.heap.size
theorem MW.up {I:Bool→Prop} {w wx wy:World} {B:Nat} {L:List (List UInt8 × Value)} {qs:List Ru} (h:MW I w B L qs wx) (hb:Below wx.heap.size wx wy):MW I w B L qs wy :=
 ⟨h.map.up hb,fun i hi=>(h.rl i hi).over (QBu hb),QAC h.below hb,Nat.lt_of_lt_of_le h.lt hb.size⟩
theorem MW.put {I:Bool→Prop} {w wx wy:World} {L:List (List UInt8 × Value)} {qs:List Ru} {q:Ru} {v:Value} (h:MW I w w.heap.size L qs wx) (hr:∀ i,I i→RuleFn i q v w.heap.size wx) (hg:wx.grownBy wy (some w.heap.size)) (ho:wy.ownsMap Tryz.prog 9 QBt w.heap.size (L.length+1) ((QBI L).put (.string q.text) (.held v))):MW I w w.heap.size (L++[(q.text,v)]) (qs++[q]) wy :=
 ⟨by
  show World.ownsMap _ _ _ _ _ _ _;rw [QGN,List.length_append]
  exact ho,fun i hi=>((h.rl i hi).over (QCQ hg)).snoc ((hr i hi).over (QCQ hg)),QEf h.below hg (Nat.le_refl _) (Nat.le_of_lt h.lt),Nat.lt_of_lt_of_le h.lt hg.size⟩
theorem MW.ins {I:Bool→Prop} {w wx:World} {L:List (List UInt8 × Value)} {qs:List Ru} (h:MW I w w.heap.size L qs wx) (q:Ru) (v:Value) (hl:L.length≤20) (hr:∀ i,I i→RuleFn i q v w.heap.size wx):∃ wy,(Instr.mapUpdate 175 (.map (some w.heap.size)) (.string ⟨q.text.toArray⟩) v).run Tryz.prog wx = .ok () wy∧MW I w w.heap.size (L++[(q.text,v)]) (qs++[q]) wy:=by
 (have hq:q.text.length≤maxLen:=by unfold maxLen;cases q <;> decide);(obtain⟨wy,hrun,ho,hg⟩:=World.ownsMap.update h.map QCJ Tryz.underlying175 (by unfold maxLen;omega) (QGr q.text hq) (show QBt v=some (.held v,[]) from rfl));exact⟨wy,hrun,h.put hr hg ho⟩
end Go.Proofs.YtffkoiemnchdgadGreat
