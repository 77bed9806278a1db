import Derived.Test.YtbmedfokpgghiacGreatB01
import Derived.Test.YtbmedfokpgghiacGreatB02
import Derived.Deep.LoopGhost
import Derived.Deep.RegionHeld3
import Derived.Defers
import Derived.Recover
import Derived.RegionTactic
import Derived.Lib.Builder
import Derived.Lib.AppendStr
import Derived.Lib.UnsafeStr
import Derived.Laws.Externs
namespace Go.Proofs.YtbmedfokpgghiacGreat
open Go.RowKit
theorem QKW {k:IntKind} {a b:Int} (h:a=b):Ending.returned (.int k a) = .returned (.int k b):=by rw [h]
theorem QDO {a b:Bool} (h:a=b):Ending.returned (.bool a) = .returned (.bool b):=by rw [h]
set_option maxHeartbeats 1000000 in
theorem QII (s:ByteArray) (hs:s.size≤maxLen) (w:World) :
  Calls Tryz.prog 230 #[.string s] w fun e w'=>e = .returned (.int .i64 (QAy s.data.toList).length)∧w'=w:=by
 unfold maxLen at hs
 go_enter Tryz.func230,Tryz.ntmps230
 go_wp2
 go_loop [3] (fun v=>∃ k l,At s k l∧v = .int .i64 (k:Nat)∧(QAy s.data.toList).length=k+(QAy l).length) (fun v=>s.size - (intOf v).toNat)
 case atStart=>exact⟨0,s.data.toList,⟨Nat.zero_le _,by simp⟩,rfl,by simp⟩
 case round =>
  obtain⟨k,l,ha,rfl,hl⟩:=hrel;have hlen:=ha.len;have HL:Hid (At s k l∧(QAy s.data.toList).length=k+(QAy l).length):=⟨ha,hl⟩;clear ha hl
  cases l with
  | nil =>
   simp at hlen;(have hd:decide ((k:Int) < (s.size:Int))=false:=by simp;omega);go_wp2;go_ret
   exact⟨QKW (by have:=HL.out.2;simp only [QAy,List.length_nil] at this;omega),rfl⟩
  | cons c l =>
   simp at hlen;(have hlt':k < s.size:=by omega);(have hlt:(k:Int) < (s.size:Int):=by omega);have hhd:s[k]=c:=HL.out.1.head hlt';by_cases hc:QEE c
   ·have hx:(97:Int)≤(s[k].toNat:Int):=by rw [hhd];simp [QEE] at hc;omega
    (have hy:(s[k].toNat:Int)≤122:=by rw [hhd];simp [QEE] at hc;omega);(have HN:Hid (At s (k+1) l∧(QAy s.data.toList).length=(k+1)+(QAy l).length):=⟨HL.out.1.cons,by rw [HL.out.2,QAy,if_pos hc];simp;omega⟩);clear hhd hc;go_wp2
    go_round
    case rel=>exact⟨k+1,l,HN.out.1,by go_num,HN.out.2⟩
    case measure=>simp [intOf];omega
   ·have hx:¬ ((97:Int)≤(s[k].toNat:Int)∧(s[k].toNat:Int)≤122):=by rw [hhd];simp [QEE] at hc;omega
    (have HN:Hid ((QAy s.data.toList).length=k):=by show _=_;rw [HL.out.2,QAy,if_neg hc];rfl);clear hhd hc;go_wp2
    all_goals
     go_ret;(exact⟨QKW (by have:=HN.out;omega),rfl⟩)
set_option maxHeartbeats 1000000 in
theorem QFf (s:ByteArray) (hs:s.size≤maxLen) (w:World) :
  Calls Tryz.prog 216 #[.string s] w fun e w'=>e = .returned (.bool (QBt s.data.toList))∧w'=w:=by
 have hsz:s.data.toList.length=s.size:=Array.length_toList;have hlt:=QFh s.data.toList;have HB:Hid (s.data.toList.length=s.size):=hsz;rw [hsz] at hlt;unfold maxLen at hs;(have hc:=QII s (by unfold maxLen;exact hs))
 go_enter Tryz.func216,Tryz.ntmps216
 go_wp2_with (go_at_call 230;refine (hc _).mono ?_;rintro e w1 ⟨rfl,rfl⟩)
 all_goals
  go_ret;refine⟨QDO ?_,rfl⟩
 ·rename_i hh
  rw [ByteArray.toList_eq] at hh;simp [QBt,hh]
 ·rename_i h1 h2
  rw [ByteArray.toList_eq] at h1 ⊢;(have h3:s.data.toList.length≤8:=by have:=HB.out;omega);rw [← HB.out];simp only [QBt,h3,decide_true,Bool.and_true,List.isEmpty_eq_false_iff.2 h1,Bool.not_false,Bool.true_and,ne_eq,h1,not_false_eq_true];rw [Bool.eq_iff_iff];simp;omega
 ·rename_i h1 h2
  (have h3:¬ s.data.toList.length≤8:=by have:=HB.out;omega);simp only [QBt,h3,decide_false,Bool.and_false,Bool.false_and]
def QFJ (code at_:Int):List PanicEntry:=[{ v := .iface 270 (.agg #[.int .i64 code,.int .i64 at_]),recovered:=false }]
set_option maxHeartbeats 400000 in
theorem QDr (code at_:Int) (w:World) :
  Calls Tryz.prog 196 #[.int .i64 code,.int .i64 at_] w fun e w'=>e = .panicked (QFJ code at_)∧w'=w:=by
 go_enter Tryz.func196,Tryz.ntmps196
 go_wp2;exact⟨rfl,rfl,rfl⟩
set_option maxHeartbeats 400000 in
theorem QKo (s:ByteArray) (w:World) (hlim:s.size≤281474976710656) :
  Calls Tryz.prog 169 #[.string s] w fun e w'=>e = .returned (.string s)∧Below w.heap.size w w':=by
 go_enter Tryz.func169,Tryz.ntmps169
 go_wp2_with (go_at_call 206;refine (Tryz.stringslite_Clone s _ hlim).mono ?_;rintro e w1 ⟨rfl,hb⟩);go_ret;exact⟨rfl,hb⟩
theorem QNY {l:List UInt8} (h:QBt l=true):l.length≤8:=by
 simp [QBt] at h;omega
theorem Rep.two {w:World} {ok:Nat→Prop} {k:Int} {f g:Fm} {b:Nat} {c0 c1 c2 d0 d1 d2:Value} {T:TypeId} (hb:w.heap[b]? = some (.cells #[c0,c1,c2,d0,d1,d2] T (0,0))) (hok:ok b) (hr:Rep w ok f (.agg #[c0,c1,c2])) (hr2:Rep w ok g (.agg #[d0,d1,d2])) :
  Rep w ok (.mk k e0 [f,g]) (.agg #[.int .i64 k,.string ⟨#[]⟩,.slice (some ⟨b,0,none⟩) 2 2]):=by
 (exact Rep.def.2 ⟨_,2,rfl,by decide,by simp,by simp [maxLen],fun _=>⟨b,0,rfl,hok,Reps.cons.2 ⟨⟨c0,c1,c2,QAL hb 0,QAL hb 1,QAL hb 2,hr⟩,Reps.cons.2 ⟨⟨d0,d1,d2,QAL hb 3,QAL hb 4,QAL hb 5,hr2⟩,Reps.nil⟩⟩⟩⟩)
theorem Rep.move {w w':World} {ok ok':Nat→Prop} {f:Fm} {v:Value} (h:Rep w ok f v) (hb:∀ b,b < w.heap.size→ok b→w'.heap[b]? = w.heap[b]? ∧ ok' b):Rep w' ok' f v :=
 Rep.keep (fun _ ha hlt=>QAQ (hb _ hlt ha).1) (fun k h1 h2=>(hb k h1 h2).2) f v h
theorem QOk {w:World} {b:Nat} {x0 x1 x2:Value} {T:TypeId} (h:w.heap[b]? = some (.cells #[x0,x1,x2] T (0,0))) (y0 y1 y2:Value) :
  (((w.setCell ⟨b,0,none⟩ y0).setCell ⟨b,1,none⟩ y1).setCell ⟨b,2,none⟩ y2).heap[b]? = some (.cells #[y0,y1,y2] T (0,0)):=by
 simp [World.setCell,Array.getElem?_modify,h]
theorem QCO {w:World} {b:Nat} {x0 x1:Value} {T:TypeId} (h:w.heap[b]? = some (.cells #[x0,x1] T (0,0))) (y0 y1:Value) :
  ((w.setCell ⟨b,0,none⟩ y0).setCell ⟨b,1,none⟩ y1).heap[b]? = some (.cells #[y0,y1] T (0,0)):=by
 simp [World.setCell,Array.getElem?_modify,h]
theorem QHk (v:Value) (w:World):(Instr.typeAssert (.iface 270 v) 20 270 true).run Tryz.prog w = .ok (.tuple #[v,.bool true]) w:=by kernel_rfl
set_option maxRecDepth 100000 in
theorem QIz (p:Nat) (x y code at_:Int) (w:World) (hb:w.heap[p]? = some (.cells #[.int .i64 x,.int .i64 y] 35 (0,0))) :
  CallsD Tryz.prog 195 #[.pointer (some ⟨p,0,none⟩)] (.panicking [{ v := .iface 270 (.agg #[.int .i64 code,.int .i64 at_]),recovered:=false }]) w fun e u' w' =>
   e = .returned (.tuple #[])∧u' = .panicking [{ v := .iface 270 (.agg #[.int .i64 code,.int .i64 at_]),recovered:=true }]∧w'.heap[p]? = some (.cells #[.int .i64 code,.int .i64 at_] 35 (0,0))∧Kept (·≠p) w w':=by
 obtain⟨g1,g2,g3,g4⟩:=QAV hb;have hlt:=QAE hb;(refine callsD_of_wpS Tryz.func195 rfl fun c₀ cs hu => ?_);apply wpS_seq;apply wpS_region;simp [wpOpsS,go_sem,recoverD,hu,Tryz.ntmps195,Exit.thenS];apply wpS_of_wp;have HB:Hid (w.heap[p]? = some (.cells #[.int .i64 x,.int .i64 y] 35 (0,0))):=hb;clear hb;clear hu;(generalize hQ:(fun (e:Exit) (a':Act) (w':World)=>_)=Q);have HQ:Hid (_=Q):=hQ;clear hQ
 change Code.wp _ _ _ { tmps:=#[.pointer (some ⟨p,0,none⟩),undef,undef,undef,.iface 270 (.agg #[.int .i64 code,.int .i64 at_]),undef,undef,undef,undef,undef,undef,undef],defers:=[] } _
 have hta:=QHk;go_wp2;rw [← HQ.out];(refine⟨rfl,_,rfl,.tuple #[],by simp [results,Tryz.results195,go_sem],rfl,rfl,?_,?_⟩)
 ·rw [Below.heap_alloc _ _ _ (by simpa [World.setCell] using hlt)]
  exact QCO HB.out _ _
 ·exact (((Kept.refl _ _).setCell (by simp) _).setCell (by simp) _).alloc _
set_option maxRecDepth 100000 in
theorem QIy (p:Addr) (w:World) :
  CallsD Tryz.prog 195 #[.pointer (some p)] .returning w fun e u' w'=>e = .returned (.tuple #[])∧u' = .returning∧w'=w:=by
 (refine callsD_of_wpS Tryz.func195 rfl fun c₀ cs hu => ?_);apply wpS_seq;apply wpS_region;simp [wpOpsS,go_sem,recoverD,hu,Tryz.ntmps195,Exit.thenS];apply wpS_of_wp;have HU:Hid (c₀.mode = .returning):=hu;clear hu;(generalize hQ:(fun (e:Exit) (a':Act) (w':World)=>_)=Q);have HQ:Hid (_=Q):=hQ;clear hQ
 change Code.wp _ _ _ { tmps:=#[.pointer (some p),undef,undef,undef,.nilIface,undef,undef,undef,undef,undef,undef,undef],defers:=[] } _
 go_wp2;rw [← HQ.out];(refine⟨rfl,.returning,?_,.tuple #[],by simp [results,Tryz.results195,go_sem],rfl,rfl,rfl⟩);have:=HU.out
 cases c₀
 simp_all
set_option maxRecDepth 100000 in
set_option maxHeartbeats 1000000 in
theorem QKm (g:Nat) (cap:Array Value) (w:World) (R:World→Prop) (hcf:∀ w,(callFunc g cap).run Tryz.prog w = .ok (.enter g cap) w)
  (hw:Calls Tryz.prog g cap (w.alloc (.cells #[.int .i64 0,.int .i64 0] 35 (0,0))) fun e w'=>e = .returned (.tuple #[])∧w'.heap[w.heap.size]? = some (.cells #[.int .i64 0,.int .i64 0] 35 (0,0))∧R w') :
  Calls Tryz.prog 152 #[.func (.func g) #[] cap] w fun e w'=>e = .returned (.agg #[.int .i64 0,.int .i64 0])∧∃ w1,R w1∧Kept (·≠w.heap.size) w1 w':=by
 (have hmf:∀ (fn:Fn) (first cap:Array Value) (w:World),(Instr.makeFunc fn first cap).run Tryz.prog w = .ok (.func fn first cap) w:=fun _ _ _ _=>rfl);have HW:Hid (Calls Tryz.prog g cap _ _):=hw;clear hw
 go_enter_defers Tryz.func152,Tryz.ntmps152
 go_wp2_with fail;refine HW.out.mono ?_;rintro e w1 ⟨rfl,q1,hR⟩;obtain⟨g1,g2,g3,g4⟩:=QAV q1;go_wp2_with fail;(refine leaves_cons (f:=195) (args:=#[.pointer (some ⟨w.heap.size,0,none⟩)]) (by simp) (by simp [go_sem]) ?_);refine (QIy ⟨w.heap.size,0,none⟩ _).mono ?_;rintro e u' w'' ⟨rfl,rfl,rfl⟩;simp only [Leaves,settle];(exact⟨.agg #[.int .i64 0,.int .i64 0],by simp [results,Tryz.results152,go_sem,g1,g2],rfl,w1,hR,((Kept.refl _ _).setCell (by simp) _).setCell (by simp) _⟩)
set_option maxRecDepth 100000 in
set_option maxHeartbeats 1000000 in
theorem QJA (g:Nat) (cap:Array Value) (w:World) (R:World→Prop) (code at_:Int) (hcf:∀ w,(callFunc g cap).run Tryz.prog w = .ok (.enter g cap) w)
  (hw:Calls Tryz.prog g cap (w.alloc (.cells #[.int .i64 0,.int .i64 0] 35 (0,0))) fun e w'=>e = .panicked (QFJ code at_)∧w'.heap[w.heap.size]? = some (.cells #[.int .i64 0,.int .i64 0] 35 (0,0))∧R w') :
  Calls Tryz.prog 152 #[.func (.func g) #[] cap] w fun e w'=>e = .returned (.agg #[.int .i64 code,.int .i64 at_])∧∃ w1,R w1∧Kept (·≠w.heap.size) w1 w':=by
 (have hmf:∀ (fn:Fn) (first cap:Array Value) (w:World),(Instr.makeFunc fn first cap).run Tryz.prog w = .ok (.func fn first cap) w:=fun _ _ _ _=>rfl);have HW:Hid (Calls Tryz.prog g cap _ _):=hw;clear hw
 go_enter_defers Tryz.func152,Tryz.ntmps152
 go_wp2_with fail;refine HW.out.mono ?_;rintro e w1 ⟨rfl,q1,hR⟩;(refine leaves_cons (f:=195) (args:=#[.pointer (some ⟨w.heap.size,0,none⟩)]) (by simp) (by simp [go_sem]) ?_);refine (QIz w.heap.size 0 0 code at_ _ q1).mono ?_;rintro e u' w'' ⟨rfl,rfl,q2,hk⟩;obtain⟨g1,g2,g3,g4⟩:=QAV q2;simp only [settle];(exact⟨.agg #[.int .i64 code,.int .i64 at_],by simp [results,Tryz.results152,go_sem,g1,g2],rfl,w1,hR,hk⟩)
theorem Kept.past {w w':World} {o:Obj} (h:Kept (·≠w.heap.size) (w.alloc o) w'):Kept (fun _=>True) w w' :=
 ⟨h.os,h.tape,h.output,by have:=h.size;simp at this;omega,fun k hk _=>(h.block k (by simp;omega) (by omega)).trans (Below.heap_alloc _ _ _ hk)⟩
theorem QOR {a a':Int} {b b':Bool} (h:a=a') (k:b=b'):Ending.returned (.tuple #[.int .i64 a,.bool b]) = .returned (.tuple #[.int .i64 a',.bool b']):=by rw [h,k]
set_option maxHeartbeats 1000000 in
theorem QCZ (k:Int) (w:World) :
  Calls Tryz.prog 215 #[.int .i64 k] w fun e w'=>e = .returned (.tuple #[.int .i64 (QBh k),.bool (QCE k)])∧w'=w:=by
 go_enter Tryz.func215,Tryz.ntmps215
 go_wp2
 all_goals
  go_ret2;refine⟨QOR ?_ ?_,rfl⟩
 all_goals
  simp only [beq_iff_eq,beq_eq_false_iff_ne,ne_eq] at *
  first
   | (subst_vars;decide)
   | (unfold QBh;rw [if_neg (by omega),if_neg (by omega)])
   | (unfold QCE;simp;omega)
set_option maxHeartbeats 1000000 in
theorem QLP (k at_:Int) (n:ByteArray) (sl:Option Addr) (len cap:Nat) (w:World) (h:QCE k=false) :
  Calls Tryz.prog 197 #[.agg #[.int .i64 k,.string n,.slice sl len cap],.int .i64 at_] w fun e w'=>e = .panicked (QFJ 4 at_)∧Below w.heap.size w w':=by
 go_enter Tryz.func197,Tryz.ntmps197
 go_wp2_with (first
  | (go_at_call 215;refine (QCZ k _).mono ?_;rintro e w1 ⟨rfl,rfl⟩)
  | (go_at_call 196;refine (QDr _ _ _).mono ?_;rintro e w4 ⟨rfl,rfl⟩)
  | fail)
 exact⟨rfl,rfl,(Below.refl _ _).alloc (Nat.le_refl _) _⟩
set_option maxHeartbeats 1000000 in
theorem QLR (k at_:Int) (n:ByteArray) (sl:Option Addr) (len cap:Nat) (w:World) (h:QCE k=true) (h2:(len:Int)≠QBh k) :
  Calls Tryz.prog 197 #[.agg #[.int .i64 k,.string n,.slice sl len cap],.int .i64 at_] w fun e w'=>e = .panicked (QFJ 9 at_)∧Below w.heap.size w w':=by
 go_enter Tryz.func197,Tryz.ntmps197
 go_wp2_with (first
  | (go_at_call 215;refine (QCZ k _).mono ?_;rintro e w1 ⟨rfl,rfl⟩)
  | (go_at_call 196;refine (QDr _ _ _).mono ?_;rintro e w4 ⟨rfl,rfl⟩)
  | fail)
 exact⟨rfl,rfl,(Below.refl _ _).alloc (Nat.le_refl _) _⟩
set_option maxHeartbeats 1000000 in
theorem QLQ (k at_:Int) (n:ByteArray) (hn:n.size≤maxLen) (sl:Option Addr) (len cap:Nat) (w:World) (h:QCE k=true) (h2:(len:Int)=QBh k) (h3:QCU k n=true) :
  Calls Tryz.prog 197 #[.agg #[.int .i64 k,.string n,.slice sl len cap],.int .i64 at_] w fun e w'=>e = .panicked (QFJ 8 at_)∧Below w.heap.size w w':=by
 have hin:=QFf n hn;by_cases hk:k=1
 ·subst hk
  (have h4:QBt n.data.toList=false:=by simpa [QCU] using h3);rw [h4] at hin
  go_enter Tryz.func197,Tryz.ntmps197
  go_wp2_with (first
   | (go_at_call 215;refine (QCZ 1 _).mono ?_;rintro e w1 ⟨rfl,rfl⟩)
   | (go_at_call 216;refine (hin _).mono ?_;rintro e w1 ⟨rfl,rfl⟩)
   | (go_at_call 196;refine (QDr _ _ _).mono ?_;rintro e w4 ⟨rfl,rfl⟩)
   | fail)
  exact⟨rfl,rfl,(Below.refl _ _).alloc (Nat.le_refl _) _⟩
 ·have h4:n.toList.isEmpty=false:=by rw [ByteArray.toList_eq];simpa [QCU,hk] using h3
  (have hk1:(k == 1)=false:=by simpa using hk);(have hk2:(k != 1)=true:=by simpa using hk)
  go_enter Tryz.func197,Tryz.ntmps197
  go_wp2_with (first
   | (go_at_call 215;refine (QCZ k _).mono ?_;rintro e w1 ⟨rfl,rfl⟩)
   | (go_at_call 196;refine (QDr _ _ _).mono ?_;rintro e w4 ⟨rfl,rfl⟩)
   | fail)
  exact⟨rfl,rfl,(Below.refl _ _).alloc (Nat.le_refl _) _⟩
set_option maxHeartbeats 1000000 in
theorem QLO (k at_:Int) (n:ByteArray) (hn:n.size≤maxLen) (sl:Option Addr) (len cap:Nat) (w:World) (h:QCE k=true) (h2:(len:Int)=QBh k) (h3:QCU k n=false) :
  Calls Tryz.prog 197 #[.agg #[.int .i64 k,.string n,.slice sl len cap],.int .i64 at_] w fun e w'=>e = .returned (.tuple #[])∧Below w.heap.size w w':=by
 have hin:=QFf n hn;by_cases hk:k=1
 ·subst hk
  (have h4:QBt n.data.toList=true:=by simpa [QCU] using h3);rw [h4] at hin
  go_enter Tryz.func197,Tryz.ntmps197
  go_wp2_with (first
   | (go_at_call 215;refine (QCZ 1 _).mono ?_;rintro e w1 ⟨rfl,rfl⟩)
   | (go_at_call 216;refine (hin _).mono ?_;rintro e w1 ⟨rfl,rfl⟩)
   | fail)
  go_end0
  exact⟨rfl,(Below.refl _ _).alloc (Nat.le_refl _) _⟩
 ·have h4:n.toList=[]:=by rw [ByteArray.toList_eq];simpa [QCU,hk] using h3
  (have hk1:(k == 1)=false:=by simpa using hk)
  go_enter Tryz.func197,Tryz.ntmps197
  go_wp2_with (first
   | (go_at_call 215;refine (QCZ k _).mono ?_;rintro e w1 ⟨rfl,rfl⟩)
   | fail)
  go_end0
  exact⟨rfl,(Below.refl _ _).alloc (Nat.le_refl _) _⟩
theorem QJS {k:Int} {n:ByteArray} {len:Nat} {c:Int} (h:QBX k n len=some c) (at_:Int) (hn:n.size≤maxLen) (sl:Option Addr) (cap:Nat) (w:World) :
  Calls Tryz.prog 197 #[.agg #[.int .i64 k,.string n,.slice sl len cap],.int .i64 at_] w fun e w'=>e = .panicked (QFJ c at_)∧Below w.heap.size w w':=by
 unfold QBX at h
 split at h
 ·rename_i h1;cases h;exact QLP k at_ n sl len cap w h1
 ·rename_i h1
  (have h1:QCE k=true:=by simpa using h1)
  split at h
  ·rename_i h2;cases h;exact QLR k at_ n sl len cap w h1 h2
  ·rename_i h2
   (have h2:(len:Int)=QBh k:=by simpa using h2)
   split at h
   ·rename_i h3;cases h;exact QLQ k at_ n hn sl len cap w h1 h2 h3
   ·cases h
theorem QJR {k:Int} {n:ByteArray} {len:Nat} (h:QBX k n len=none) (at_:Int) (hn:n.size≤maxLen) (sl:Option Addr) (cap:Nat) (w:World) :
  Calls Tryz.prog 197 #[.agg #[.int .i64 k,.string n,.slice sl len cap],.int .i64 at_] w fun e w'=>e = .returned (.tuple #[])∧Below w.heap.size w w':=by
 unfold QBX at h
 split at h
 ·cases h
 ·rename_i h1
  (have h1:QCE k=true:=by simpa using h1)
  split at h
  ·cases h
  ·rename_i h2
   (have h2:(len:Int)=QBh k:=by simpa using h2)
   split at h
   ·cases h
   ·rename_i h3
    (exact QLO k at_ n hn sl len cap w h1 h2 (by simpa using h3))
def RC (bc:Nat) (w:World) (s:Nat):Prop:=w.heap[bc]? = some (.cells #[.int .i64 s] 231 (0,0))
theorem RC.lt {bc:Nat} {w:World} {s:Nat} (h:RC bc w s):bc < w.heap.size:=QAE h
theorem RC.c0 {bc:Nat} {w:World} {s:Nat} (h:RC bc w s):w.cell? ⟨bc,0,none⟩=some (.int .i64 s):=QAL h 0
theorem RC.fz {bc:Nat} {w:World} {s:Nat} (h:RC bc w s):w.frozen? ⟨bc,0,none⟩=false:=QAh h 0
theorem RC.alloc {bc:Nat} {w:World} {s:Nat} (h:RC bc w s) (o:Obj):RC bc (w.alloc o) s:=by
 unfold RC;rw [Below.heap_alloc _ _ _ h.lt];exact h
theorem RC.set {bc:Nat} {w:World} {s:Nat} (h:RC bc w s) (s':Nat):RC bc (w.setCell ⟨bc,0,none⟩ (.int .i64 s')) s':=by
 unfold RC at *;simp [World.setCell,Array.getElem?_modify,h]
theorem RC.below {bc:Nat} {w w':World} {s:Nat} (h:RC bc w s) (hb:Below w.heap.size w w'):RC bc w' s:=by
 unfold RC;rw [hb.block _ h.lt];exact h
def QLy (bc:Nat):Chk→Ending→World→Prop
 | .ok s,e,w'=>e = .returned (.tuple #[])∧RC bc w' s
 | .bad c a,e,_=>e = .panicked (QFJ c a)
def QLz (m:Nat):Prop:=∀ (bc s:Nat) (f:Fm) (v:Value) (w:World),f.size < m→RC bc w s→s≤200→Rep w (·≠bc) f v →
 Calls Tryz.prog 154 #[.pointer (some ⟨bc,0,none⟩),v] w fun e w'=>Kept (·≠bc) w w'∧QLy bc (chk f s) e w'
theorem QKn {ks:List Fm} {i:Nat} {f:Fm} (h:ks[i]? = some f) (s:Nat):chks (ks.drop i) s=match chk f s with | .bad c a => .bad c a | .ok s'=>chks (ks.drop (i+1)) s':=by
 have hi:i < ks.length:=by
  rcases Nat.lt_or_ge i ks.length with h' | h'
  ·exact h'
  ·rw [List.getElem?_eq_none h'] at h;cases h
 rw [List.drop_eq_getElem_cons hi,chks];rw [List.getElem?_eq_getElem hi] at h;rw [Option.some.inj h]
 cases chk f s <;> rfl
theorem QBm {ks:List Fm} {i:Nat} {f:Fm} (h:ks[i]? = some f):f.size≤Fm.sizes ks:=by
 induction ks generalizing i with
 | nil=>simp at h
 | cons g gs ih =>
  cases i with
  | zero=>simp at h;subst h;simp [Fm.sizes]
  | succ i=>have:=ih (i:=i) (by simpa using h);simp [Fm.sizes];omega
set_option maxHeartbeats 2000000 in
theorem QLK (m:Nat) (ih:QLz m):QLz (m+1):=by
 intro bc s f v w hm hc hs hrep;obtain⟨k,n,ks⟩:=f;obtain⟨sl,cap,rfl,hx1,hx2,hx3,hx4⟩:=Rep.def.1 hrep;have f0:=hc.c0;have f1:=hc.fz;have z0:=hc.lt;by_cases h200:s=200
 ·subst h200
  go_enter Tryz.func154,Tryz.ntmps154
  go_wp2_with (first
   | (go_at_call 196;refine (QDr _ _ _).mono ?_;rintro e w4 ⟨rfl,rfl⟩)
   | fail)
  refine⟨rfl,(Kept.refl _ _).alloc _,?_⟩;simp only [chk,if_true,QLy];rfl
 ·have hs1:((
         s:Int) == 200)=false:=by simp;omega
  (have hs2:(s:Int)≤200:=by omega)
  rcases hnf:QBX k n ks.length with _|c
  ·have hchk:chk (.mk k n ks) s=chks ks (s+1):=by rw [chk,if_neg h200,hnf]
   rw [hchk];have HX:Hid (ks≠[]→∃ b off,sl=some ⟨b,off,none⟩∧b≠bc∧Reps w (·≠bc) b off ks):=hx4;clear hx4;(have hlen:((ks.length:Nat):Int)≤9223372036854775807:=by unfold maxLen at hx3;omega)
   go_enter Tryz.func154,Tryz.ntmps154
   go_wp2_with (first
    | (
      go_at_call 197
      refine (QJR hnf _ hx1 _ _ _).mono ?_;rintro e w4 ⟨rfl,hb⟩
      have q4:w4.heap[w.heap.size]? = some (.cells #[.int .i64 k,.string n,.slice sl ks.length cap] 29 (0,0)):=by
       (rw [hb.block _ (by simp [World.setCell])]);have:=QAH (w.setCell ⟨bc,0,none⟩ (.int .i64 (s+1))) (.cells #[.int .i64 k,.string n,.slice sl ks.length cap] 29 (0,0));simpa [World.setCell] using this
      have f2:=QAL q4 2
      simp at f2)
    | fail)
   have hc4:RC bc w4 (s+1):=((hc.set (s+1)).alloc _).below hb;(have hk4:Kept (·≠bc) w w4:=(((Kept.refl _ _).setCell (by simp) _).alloc _).trans (QAN hb (fun _ h _=>h)));clear f0 f1 f2 hb
   go_loopg [27] ks.length (fun g v wr=>∃ i s',i≤ks.length∧g=ks.length - i∧v = .int .i64 (i:Nat)∧s'≤200∧RC bc wr s'∧Kept (·≠bc) w wr∧Hid (chks (ks.drop i) s'=chks ks (s+1)))
   case atStart=>exact⟨0,s+1,by omega,by omega,rfl,by omega,hc4,hk4,by show _=_;simp⟩
   case round =>
    obtain⟨i,s',hi,hg,rfl,hs',hcr,hkr,HC⟩:=hrel;have HG:Hid (gk=ks.length - i):=hg;clear hg hc4 hk4 q4;by_cases hlt:i < ks.length
    ·obtain⟨b,off,hsl,hb,hrs⟩:=HX.out (fun e=>by rw [e] at hlt;simp at hlt)
     subst hsl;obtain⟨⟨k2,n2,ks2⟩,hki⟩:∃ f,ks[i]? = some f:=⟨_,List.getElem?_eq_getElem hlt⟩;obtain⟨sl2,cap2,g0,g1,g2,hrep2⟩:=(hrs.kept hb hkr).at i k2 n2 ks2 hki;(have hlt2:(i:Int) < (ks.length:Int):=by omega);have hds:=HC.out;rw [QKn hki] at hds;(have hsz:(Fm.mk k2 n2 ks2).size < m:=by have:=QBm hki;rw [Fm.size] at hm;omega);(have HI:Hid (∀ w,RC bc w s'→Rep w (·≠bc) (.mk k2 n2 ks2) (.agg #[.int .i64 k2,.string n2,.slice sl2 ks2.length cap2])→Calls Tryz.prog 154 #[.pointer (some ⟨bc,0,none⟩),.agg #[.int .i64 k2,.string n2,.slice sl2 ks2.length cap2]] w fun e w'=>Kept (·≠bc) w w'∧QLy bc (chk (.mk k2 n2 ks2) s') e w'):=fun w h1 h2=>ih bc s' _ _ w hsz h1 hs' h2);have HK:Hid (ks[i]? = some (.mk k2 n2 ks2)):=hki;clear hki hrs hrep HX HC hnf hchk
     rcases hck:chk (.mk k2 n2 ks2) s' with s2|⟨c,a⟩
     ·rw [hck] at hds HI
      simp only at hds;have HD:Hid (chks (ks.drop (i+1)) s2=chks ks (s+1)):=hds;have hs2':=(QJB _ _ _ hck hs').1;clear hds hck
      go_wp2_with (first
       | (
         go_at_call 154
         refine (HI.out _ (hcr.alloc _) (hrep2.kept ((Kept.refl _ _).alloc _))).mono ?_
         rintro e w5 ⟨hk5,rfl,hc5⟩)
       | fail)
      go_roundg (ks.length - (i+1))
      case measure=>have:=HG.out;omega
      case rel=>exact⟨i+1,s2,by omega,rfl,by go_num,hs2',hc5,(hkr.alloc _).trans hk5,HD⟩
     ·rw [hck] at hds HI
      simp only at hds;have HD:Hid (Chk.bad c a=chks ks (s+1)):=hds;clear hds hck
      go_wp2_with (first
       | (
         go_at_call 154
         refine (HI.out _ (hcr.alloc _) (hrep2.kept ((Kept.refl _ _).alloc _))).mono ?_;rintro e w5 ⟨hk5,he5⟩
         obtain rfl:e=_:=he5)
       | fail)
      (exact⟨rfl,(hkr.alloc _).trans hk5,by rw [← HD.out];rfl⟩)
    ·go_wp2_with fail
     go_end0
     refine⟨hkr,?_⟩;(rw [← HC.out,List.drop_of_length_le (by omega),chks]);exact⟨rfl,hcr⟩
  ·go_enter Tryz.func154,Tryz.ntmps154
   go_wp2_with (first
    | (
      go_at_call 197
      refine (QJS hnf _ hx1 _ _ _).mono ?_
      rintro e w4 ⟨rfl,hb⟩)
    | fail)
   (refine⟨rfl,(((Kept.refl _ _).setCell (by simp) _).alloc _).trans (QAN hb (fun _ h _=>h)),?_⟩);rw [chk,if_neg h200,hnf];rfl
theorem QGa:∀ m,QLz m
 | 0=>fun _ _ _ _ _ h=>absurd h (Nat.not_lt_zero _)
 | m+1=>QLK m (QGa m)
theorem QGK (cap:Array Value) (w:World):(callFunc 153 cap).run Tryz.prog w = .ok (.enter 153 cap) w:=by
 simp [go_sem]
set_option maxHeartbeats 1000000 in
theorem QFV (bf:Nat) (k:Int) (n:ByteArray) (ks:List Fm) (sl:Option Addr) (cap:Nat) (w:World) (q0:w.heap[bf]? = some (.cells #[.int .i64 k,.string n,.slice sl ks.length cap] 29 (0,0)))
  (hrep:Rep w (fun _=>True) (.mk k n ks) (.agg #[.int .i64 k,.string n,.slice sl ks.length cap])) (x:Chk) (hx:chk (.mk k n ks) 0=x) :
  Calls Tryz.prog 153 #[.pointer (some ⟨bf,0,none⟩)] w fun e w'=>Kept (fun _=>True) w w'∧match x with
   | .ok _=>e = .returned (.tuple #[])
   | .bad c a=>e = .panicked (QFJ c a):=by
 obtain⟨g1,g2,g3,g4,g5,g6⟩:=QAb q0;have z0:=QAE q0
 have hl:=QGa ((Fm.mk k n ks).size+1) w.heap.size 0 (.mk k n ks) (.agg #[.int .i64 k,.string n,.slice sl ks.length cap]) (w.alloc (.cells #[.int .i64 0] 231 (0,0))) (Nat.lt_succ_self _) (QAH _ _) (by omega)
  (hrep.move fun b hb _=>⟨Below.heap_alloc _ _ _ hb,by omega⟩)
 rw [hx] at hl;have HL:Hid (Calls Tryz.prog 154 _ _ _):=hl;clear hl hrep
 cases x with
 | ok s =>
  go_enter Tryz.func153,Tryz.ntmps153
  go_wp2_with (first
   | (
     go_at_call 154
     refine HL.out.mono ?_
     rintro e w1 ⟨hk1,rfl,-⟩)
   | fail)
  go_end0
  exact⟨hk1.past,rfl⟩
 | bad c a =>
  go_enter Tryz.func153,Tryz.ntmps153
  go_wp2_with (first
   | (
     go_at_call 154
     refine HL.out.mono ?_;rintro e w1 ⟨hk1,he⟩
     obtain rfl:e=_:=he)
   | fail)
  exact⟨rfl,hk1.past,rfl⟩
theorem QEA {w:World} {o0 o1 o2:Obj}:(((w.alloc o0).alloc o1).alloc o2).heap[w.heap.size]? = some o0∧(((w.alloc o0).alloc o1).alloc o2).heap[w.heap.size+1]? = some o1:=by
 (have e1:(w.alloc o0).heap.size=w.heap.size+1:=by simp);(have e2:((w.alloc o0).alloc o1).heap.size=w.heap.size+2:=by simp);refine⟨?_,?_⟩
 ·rw [Below.heap_alloc _ _ _ (by omega),Below.heap_alloc _ _ _ (by omega)];exact QAH _ _
 ·rw [Below.heap_alloc _ _ _ (by omega),← e1];exact QAH _ _
set_option maxHeartbeats 1000000 in
theorem QGL (f:Fm) (v:Value) (w:World) (hrep:Rep w (fun _=>True) f v) :
  Calls Tryz.prog 108 #[v] w fun e w'=>e = .returned (.agg #[.int .i64 f.code.1,.int .i64 f.code.2])∧Below w.heap.size w w':=by
 obtain⟨k,n,ks⟩:=f;obtain⟨sl,cap,rfl,hx1,hx2,hx3,hx4⟩:=Rep.def.1 hrep;clear hx4;(have hmf:∀ (fn:Fn) (first cap:Array Value) (w:World),(Instr.makeFunc fn first cap).run Tryz.prog w = .ok (.func fn first cap) w:=fun _ _ _ _=>rfl)
 rcases hx:chk (.mk k n ks) 0 with s|⟨c,a⟩
 ·have hcode:(Fm.mk k n ks).code=(0,0):=by simp only [Fm.code,hx]
  rw [hcode]
  go_enter Tryz.func108,Tryz.ntmps108
  go_wp2_with (first
   | (
     go_at_call 152
     (refine (QKm 153 _ _ (fun w1=>w1.heap[w.heap.size+1]? = some (.cells #[.int .i64 0,.int .i64 0] 35 (0,0))∧Below w.heap.size w w1) (QGK _) ?_).mono ?_)
     ·refine (QFV w.heap.size k n ks sl cap _ QEA.1 (hrep.move fun b hb _=>⟨by rw [Below.heap_alloc _ _ _ (by simp;omega),Below.heap_alloc _ _ _ (by simp;omega),Below.heap_alloc _ _ _ hb],trivial⟩) _ hx).mono ?_
      rintro e w1 ⟨hk,rfl⟩;(exact⟨rfl,(hk.block _ (by simp) trivial).trans (QAH _ _),(hk.block _ (by simp) trivial).trans QEA.2,((((Kept.refl _ w).alloc _).alloc _).alloc _ |>.trans hk).below (Nat.le_refl _) (fun _ _=>trivial)⟩)
     rintro e w2 ⟨rfl,w1,⟨q1,hb1⟩,hk2⟩;have z1:=QAE q1;(have q3:=(hk2.block _ z1 (by simp)).trans q1)
     obtain⟨k1,k2,k3,k4⟩:=QAV q3)
   | fail)
  have hz:=hb1.size;have hz2:=hk2.size;(have b1:Below w.heap.size w w2:=((QAN (ok:=fun k=>k < w.heap.size) hb1 (fun _ _ h=>h)).trans (hk2.mono (fun k _ h=>by simp;omega))).below (Nat.le_refl _) (fun _ h=>h));have f2:=QCO q3 (.int .i64 0) (.int .i64 0);(have b2:=(b1.setCell (p:=⟨w.heap.size+1,0,none⟩) (by simp) (.int .i64 0)).setCell (p:=⟨w.heap.size+1,1,none⟩) (by simp) (.int .i64 0));generalize World.setCell _ _ _=F at f2 b2 ⊢;clear k1 k2 k3 k4;obtain⟨k1,k2,-⟩:=QAV f2;(exact bodyPost_ret (v := .agg #[.int .i64 0,.int .i64 0]) (by simp [results,Tryz.results108,go_sem,k1,k2]) rfl ⟨rfl,b2⟩)
 ·have hcode:(Fm.mk k n ks).code=(c,(a:Int)):=by simp only [Fm.code,hx]
  rw [hcode]
  go_enter Tryz.func108,Tryz.ntmps108
  go_wp2_with (first
   | (
     go_at_call 152
     (refine (QJA 153 _ _ (fun w1=>w1.heap[w.heap.size+1]? = some (.cells #[.int .i64 0,.int .i64 0] 35 (0,0))∧Below w.heap.size w w1) c a (QGK _) ?_).mono ?_)
     ·refine (QFV w.heap.size k n ks sl cap _ QEA.1 (hrep.move fun b hb _=>⟨by rw [Below.heap_alloc _ _ _ (by simp;omega),Below.heap_alloc _ _ _ (by simp;omega),Below.heap_alloc _ _ _ hb],trivial⟩) _ hx).mono ?_
      rintro e w1 ⟨hk,rfl⟩;(exact⟨rfl,(hk.block _ (by simp) trivial).trans (QAH _ _),(hk.block _ (by simp) trivial).trans QEA.2,((((Kept.refl _ w).alloc _).alloc _).alloc _ |>.trans hk).below (Nat.le_refl _) (fun _ _=>trivial)⟩)
     rintro e w2 ⟨rfl,w1,⟨q1,hb1⟩,hk2⟩;have z1:=QAE q1;(have q3:=(hk2.block _ z1 (by simp)).trans q1)
     obtain⟨k1,k2,k3,k4⟩:=QAV q3)
   | fail)
  have hz:=hb1.size;have hz2:=hk2.size;(have b1:Below w.heap.size w w2:=((QAN (ok:=fun k=>k < w.heap.size) hb1 (fun _ _ h=>h)).trans (hk2.mono (fun k _ h=>by simp;omega))).below (Nat.le_refl _) (fun _ h=>h));have f2:=QCO q3 (.int .i64 c) (.int .i64 a);(have b2:=(b1.setCell (p:=⟨w.heap.size+1,0,none⟩) (by simp) (.int .i64 c)).setCell (p:=⟨w.heap.size+1,1,none⟩) (by simp) (.int .i64 a));generalize World.setCell _ _ _=F at f2 b2 ⊢;clear k1 k2 k3 k4;obtain⟨k1,k2,-⟩:=QAV f2;(exact bodyPost_ret (v := .agg #[.int .i64 c,.int .i64 a]) (by simp [results,Tryz.results108,go_sem,k1,k2]) rfl ⟨rfl,b2⟩)
theorem Rep.low {w w':World} {B:Nat} {f:Fm} {v:Value} (h:Rep w (· < B) f v) (hb:Below B w w'):Rep w' (· < B) f v :=
 h.move fun b _ hb2=>⟨hb.block b hb2,hb2⟩
theorem Reps.low {w w':World} {B b off:Nat} {fs:List Fm} (h:Reps w (· < B) b off fs) (hb:b < B) (hk:Below B w w'):Reps w' (· < B) b off fs :=
 h.kept hb (QAN hk (fun _ _ h=>h))
theorem QHK (w:World) (o:Obj):(w.alloc o).drew.heap[w.heap.size]? = some o:=QAH w o
theorem QAU {w:World} {ok:Nat→Prop} {k:Int} {n:ByteArray} {ks:List Fm} {v:Value} (h:Rep w ok (.mk k n ks) v):∃ sl cap,v = .agg #[.int .i64 k,.string n,.slice sl ks.length cap]:=by
 obtain⟨sl,cap,hv,_⟩:=Rep.def.1 h;exact⟨sl,cap,hv⟩
end Go.Proofs.YtbmedfokpgghiacGreat
