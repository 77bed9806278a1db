import Derived.Test.YtffkoiemnchdgadGreatB30
import Derived.Test.YtffkoiemnchdgadGreatB16
import Derived.Test.YtffkoiemnchdgadGreatB19
import Derived.Test.YtffkoiemnchdgadGreatB11
import Derived.Deep.RegionLaw
namespace Go.Proofs.YtffkoiemnchdgadGreat
open Go.RowKit Go.Maps Go.WideMaps
set_option maxRecDepth 10000 in
set_option maxHeartbeats 8000000 in
theorem QFi (i:Bool) (bc m s c:Nat) (a:ByteArray) (f:Fm) (l r:List Fm) (ks:List Pf) (hl4:l.length≤300) (hr4:r.length≤300) (v:Value) (w:World) (hv:PRep w (.mk a f l r ks) v) (hc:Ck w bc i m s c) (hrules:RulesAt i w m) :
  Calls Tryz.prog 150 #[.pointer (some ⟨bc,0,none⟩),v] w fun e w'=>e = .returned (.int .i64 (QAg i (.mk a f l r ks)))∧Below w.heap.size w w':=by
 obtain⟨k,n,kf⟩:=f;have HV:Hid (PRep w (.mk a (.mk k n kf) l r ks) v):=hv;obtain⟨sf,cf,al,cl,ar,cr,sl,cap,rfl,ha,hf,hl,hr,hkc,hcm,hks⟩:=hv.parts;(have HF:Hid (Rep w (fun _=>True) (.mk k n kf) _):=hf);have HL:Hid (FL w (.slice al l.length cl) l):=hl;have HR:Hid (FL w (.slice ar r.length cr) r):=hr;have HKs:Hid (KL w (.slice sl ks.length cap) ks):=⟨sl,cap,rfl,hkc,hcm,hks⟩;have HC:Hid (w.heap[bc]? = some (.cells #[.bool i,.map (some m),.int .i64 (s:Nat),.int .i64 (c:Nat)] 178 (0,0))):=hc;obtain⟨O,hO⟩:∃ O,O=Obj.cells #[.string a,.int .i64 k,.string n,.slice sf kf.length cf,.slice al l.length cl,.slice ar r.length cr,.slice sl ks.length cap] 31 (0,0):=⟨_,rfl⟩;have B0:=QAA (Below.refl _ w) O;have hp0:=QAG w O;rw [hO] at hp0;(have P0:Hid ((w.alloc O).heap[w.heap.size]? = some (.cells #[.string a,.int .i64 k,.string n,.slice sf kf.length cf,.slice al l.length cl,.slice ar r.length cr,.slice sl ks.length cap] 31 (0,0))):=by rw [hO];exact hp0);(have hne:=QFz i m s c bc l r (by omega) (by omega) _ _ (w.alloc O) (hl.up B0) (hr.up B0) (QAF hc O));have HNE:Hid (Calls Tryz.prog 196 _ (w.alloc O) _):=hne;have hlook:=QHL hrules a ha;have HLk:Hid ((QAp i a.data.toList=none→∀ wx,Below w.heap.size w wx→(Instr.lookup 175 (.map (some m)) (.string a) true).run Tryz.prog wx = .ok (.tuple #[.nilFunc,.bool false]) wx)∧∀ q,QAp i a.data.toList=some q→∃ v B,RuleFn i q v B w∧∀ wx,Below w.heap.size w wx→(Instr.lookup 175 (.map (some m)) (.string a) true).run Tryz.prog wx = .ok (.tuple #[v,.bool true]) wx):=hlook;clear hv hf hl hr hks hc hp0 hne hlook hrules hcm hkc;by_cases h1:QCG i l r=true
 ·rw [QIY h1]
  rw [h1] at HNE;clear h1
  go_enter Tryz.func150,Tryz.ntmps150
  go_wp2_with fail;rw [← hO];refine HNE.out.mono ?_;rintro e w1 ⟨rfl,hb1⟩;have B1:=QAC B0 hb1;go_wp2_with fail;go_ret;exact⟨rfl,B1⟩
 ·simp only [Bool.not_eq_true] at h1
  have HE1:Hid (QCG i l r=false):=h1;rw [h1] at HNE;clear h1;by_cases hw:a.data.toList=QBd
  ·rw [QHR HE1.out hw]
   have hwk:=QFk a (.mk k n kf) l r ks hl4 hr4;have HWK:Hid (∀ v w,PRep w (.mk a (.mk k n kf) l r ks) v→Calls Tryz.prog 197 #[v] w _):=hwk;(have hae:a=⟨#[119,101,97,107]⟩:=by apply ByteArray.ext;apply Array.ext';exact hw);subst hae;generalize QBx (.mk k n kf) l r ks=wc at *;clear hwk hw
   go_enter Tryz.func150,Tryz.ntmps150
   go_wp2_with fail;rw [← hO];refine HNE.out.mono ?_;rintro e w1 ⟨rfl,hb1⟩;have B1:=QAC B0 hb1;obtain⟨j0,j1,j2,j3,j4,j5,j6⟩:=QAQ (QAB hb1 P0.out);go_wp2_with fail;refine (HWK.out _ _ (PRep.up B1 _ _ HV.out)).mono ?_;rintro e w2 ⟨rfl,hb2⟩;have B2:=QAC B1 hb2;go_wp2_with fail;go_ret;exact⟨rfl,B2⟩
  ·have HW:Hid (¬ a.data.toList=QBd):=hw
   (have hwj:(a.toList == ([119,101,97,107]:List UInt8))=false:=by rw [ByteArray.toList_eq];simpa [QBd] using hw);clear hw
   cases hq:QAp i a.data.toList with
   | none =>
    rw [QHQ HE1.out HW.out hq];have hlk:=HLk.out.1 hq;have HLK:Hid (∀ wx,Below w.heap.size w wx→(Instr.lookup 175 (.map (some m)) (.string a) true).run Tryz.prog wx = .ok (.tuple #[.nilFunc,.bool false]) wx):=hlk;clear hq hlk HLk
    go_enter Tryz.func150,Tryz.ntmps150
    go_wp2_with fail;rw [← hO];refine HNE.out.mono ?_;rintro e w1 ⟨rfl,hb1⟩;have B1:=QAC B0 hb1;have p1:=QAB hb1 P0.out;have c1:=QAB B1 HC.out;obtain⟨j0,j1,j2,j3,j4,j5,j6⟩:=QAQ p1;obtain⟨i0,i1,-⟩:=QEZ c1;(have hlk:∀ n,(Instr.lookup 175 (.map (some m)) (.string a) true).run Tryz.prog (w1.drewN n) = .ok (.tuple #[.nilFunc,.bool false]) (w1.drewN n):=fun n=>HLK.out _ (QBC B1 n));go_wp2_with fail
    go_quiet (fail)
    go_wp2_with fail;go_ret
    exact⟨rfl,QBC B1 _⟩
   | some q =>
    obtain⟨vq,Bq,hrf,hlk⟩:=HLk.out.2 q hq;obtain⟨fn,cp,rfl,hen,hcall⟩:=hrf;have HLK:Hid (∀ wx,Below w.heap.size w wx→(Instr.lookup 175 (.map (some m)) (.string a) true).run Tryz.prog wx = .ok (.tuple #[.func (.func fn) #[] cp,.bool true]) wx):=hlk;(have hpc:=fun v (w:World) h=>QCv (.mk k n kf) v w h);(have HCL:Hid (∀ (w':World),Over Bq w w'→∀ (f:Fm) (l r:List Fm) (s:Value),Fine f→l.length≤300→r.length≤300→StV w' s f l r→Calls Tryz.prog fn (#[s]++cp) w' fun e w''=>∃ x,e = .returned (.tuple #[x,.bool (QBP i q f l r).isSome])∧(∀ ss,QBP i q f l r=some ss→SQs w'' x ss)∧Below w'.heap.size w' w''):=hcall);have HQ:Hid (QAp i a.data.toList=some q):=hq;clear hlk HLk hcall hq;by_cases hp:(Fm.mk k n kf).pcode.1=0
    ·have hfine:Fine (.mk k n kf):=by
      obtain⟨s,hs⟩:=(QCI hp).1;exact QBU _ 0 s hs
     (have HST:Hid (∀ wx,Below w.heap.size w wx→Calls Tryz.prog 198 #[.agg #[.int .i64 k,.string n,.slice sf kf.length cf],.agg #[.slice al l.length cl,.slice ar r.length cr]] wx fun e w'=>∃ x,e = .returned x∧StV w' x (.mk k n kf) l r∧Below wx.heap.size wx w'):=fun wx hb=>QHS (.mk k n kf) l r hl4 hr4 _ _ _ wx (HF.out.up hb) (HL.out.up hb) (HR.out.up hb))
     cases hpr:QBP i q (.mk k n kf) l r with
     | none =>
      rw [QGU HE1.out HW.out HQ.out hp hpr]
      have HCQ:Hid (∀ (w':World) (s:Value),Over Bq w w'→StV w' s (.mk k n kf) l r→Calls Tryz.prog fn (#[s]++cp) w' fun e w''=>∃ x,e = .returned (.tuple #[x,.bool false])∧Below w'.heap.size w' w''):=fun w' s ho hs=>by
       refine (HCL.out w' ho _ l r s hfine hl4 hr4 hs).mono ?_;rintro e w'' ⟨x,rfl,-,hb⟩;(exact⟨x,by rw [hpr];rfl,hb⟩)
      rw [hp] at hpc;(have HPC:Hid (∀ v w,Rep w (fun _=>True) (.mk k n kf) v→Calls Tryz.prog 84 #[v] w _):=hpc);clear hpc hp hpr hfine HCL
      go_enter Tryz.func150,Tryz.ntmps150
      go_wp2_with fail;rw [← hO];refine HNE.out.mono ?_;rintro e w1 ⟨rfl,hb1⟩;have B1:=QAC B0 hb1;have p1:=QAB hb1 P0.out;have c1:=QAB B1 HC.out;have HP1:Hid (w1.heap[w.heap.size]? = some _):=p1;obtain⟨j0,j1,j2,j3,j4,j5,j6⟩:=QAQ p1;obtain⟨i0,i1,-⟩:=QEZ c1;(have hlk:∀ n,(Instr.lookup 175 (.map (some m)) (.string a) true).run Tryz.prog (w1.drewN n) = .ok (.tuple #[.func (.func fn) #[] cp,.bool true]) (w1.drewN n):=fun n=>HLK.out _ (QBC B1 n));go_wp2_with fail
      go_quiet (fail)
      clear hlk;have B2:=QBC B1 nq;go_wp2_with fail;refine (HPC.out _ _ (HF.out.up B2)).mono ?_;rintro e w2 ⟨rfl,hb2⟩;have B3:=QAC B2 hb2;clear j0 j1 j2 j3 j4 j5 j6 i0 i1 p1 c1;obtain⟨j0,j1,j2,j3,j4,j5,j6⟩:=QAQ (QAB hb2 (show (w1.drewN nq).heap[w.heap.size]? = some _ from HP1.out));go_wp2_with fail;refine (HST.out _ B3).mono ?_;rintro e w3 ⟨x,rfl,hst,hb3⟩;have B4:=QAC B3 hb3;have HS:Hid (StV w3 x (.mk k n kf) l r):=hst;clear hst;go_wp2_with fail;refine (HCQ.out _ _ (QBu B4) HS.out).mono ?_;rintro e w4 ⟨y,rfl,hb4⟩;have B5:=QAC B4 hb4;go_wp2_with fail;go_ret
      exact⟨rfl,B5⟩
     | some ss =>
      rw [QHP HE1.out HW.out HQ.out hp hpr];have hsm:=QHH hl4 hr4 hpr
      have HCQ:Hid (∀ (w':World) (s:Value),Over Bq w w'→StV w' s (.mk k n kf) l r→Calls Tryz.prog fn (#[s]++cp) w' fun e w''=>∃ x,e = .returned (.tuple #[x,.bool true])∧SQs w'' x ss∧Below w'.heap.size w' w''):=fun w' s ho hs=>by
       refine (HCL.out w' ho _ l r s hfine hl4 hr4 hs).mono ?_;rintro e w'' ⟨x,rfl,hx,hb⟩;(exact⟨x,by rw [hpr];rfl,hx ss hpr,hb⟩)
      (have HKC:Hid (∀ v u w,KL w v ks→SQs w u ss→Calls Tryz.prog 199 #[v,u] w _):=fun v u w h1 h2=>QFZ ks ss hsm v u w h1 h2);rw [hp] at hpc;(have HPC:Hid (∀ v w,Rep w (fun _=>True) (.mk k n kf) v→Calls Tryz.prog 84 #[v] w _):=hpc);clear hpc hp hpr hfine HCL hsm;(generalize (if ks.length≠ss.length then (9:Int) else QAo ks ss)=kc at *)
      go_enter Tryz.func150,Tryz.ntmps150
      go_wp2_with fail;rw [← hO];refine HNE.out.mono ?_;rintro e w1 ⟨rfl,hb1⟩;have B1:=QAC B0 hb1;have p1:=QAB hb1 P0.out;have c1:=QAB B1 HC.out;have HP1:Hid (w1.heap[w.heap.size]? = some _):=p1;obtain⟨j0,j1,j2,j3,j4,j5,j6⟩:=QAQ p1;obtain⟨i0,i1,-⟩:=QEZ c1;(have hlk:∀ n,(Instr.lookup 175 (.map (some m)) (.string a) true).run Tryz.prog (w1.drewN n) = .ok (.tuple #[.func (.func fn) #[] cp,.bool true]) (w1.drewN n):=fun n=>HLK.out _ (QBC B1 n));go_wp2_with fail
      go_quiet (fail)
      clear hlk;have B2:=QBC B1 nq;go_wp2_with fail;refine (HPC.out _ _ (HF.out.up B2)).mono ?_;rintro e w2 ⟨rfl,hb2⟩;have B3:=QAC B2 hb2;clear j0 j1 j2 j3 j4 j5 j6 i0 i1 p1 c1;obtain⟨j0,j1,j2,j3,j4,j5,j6⟩:=QAQ (QAB hb2 (show (w1.drewN nq).heap[w.heap.size]? = some _ from HP1.out));go_wp2_with fail;refine (HST.out _ B3).mono ?_;rintro e w3 ⟨x,rfl,hst,hb3⟩;have B4:=QAC B3 hb3;have HS:Hid (StV w3 x (.mk k n kf) l r):=hst;have HP3:Hid (w3.heap[w.heap.size]? = some _):=QAB hb3 (QAB hb2 (show (w1.drewN nq).heap[w.heap.size]? = some _ from HP1.out));clear hst;go_wp2_with fail;refine (HCQ.out _ _ (QBu B4) HS.out).mono ?_;rintro e w4 ⟨y,rfl,hss,hb4⟩;have B5:=QAC B4 hb4;have HSS:Hid (SQs w4 y ss):=hss;clear j0 j1 j2 j3 j4 j5 j6 hss;obtain⟨j0,j1,j2,j3,j4,j5,j6⟩:=QAQ (QAB hb4 HP3.out);go_wp2_with fail;refine (HKC.out _ _ _ (HKs.out.up B5) HSS.out).mono ?_;rintro e w5 ⟨rfl,hb5⟩;have B6:=QAC B5 hb5;go_wp2_with fail;go_ret;exact⟨rfl,B6⟩
    ·rw [QHO HE1.out HW.out HQ.out hp]
     generalize (Fm.mk k n kf).pcode=pc at *;obtain⟨pc1,pc2⟩:=pc;(have hpj:(pc1 != 0)=true:=by simpa using hp);(have HPC:Hid (∀ v w,Rep w (fun _=>True) (.mk k n kf) v→Calls Tryz.prog 84 #[v] w _):=hpc);clear hpc
     go_enter Tryz.func150,Tryz.ntmps150
     go_wp2_with fail;rw [← hO];refine HNE.out.mono ?_;rintro e w1 ⟨rfl,hb1⟩;have B1:=QAC B0 hb1;have p1:=QAB hb1 P0.out;have c1:=QAB B1 HC.out;have HP1:Hid (w1.heap[w.heap.size]? = some _):=p1;obtain⟨j0,j1,j2,j3,j4,j5,j6⟩:=QAQ p1;obtain⟨i0,i1,-⟩:=QEZ c1;(have hlk:∀ n,(Instr.lookup 175 (.map (some m)) (.string a) true).run Tryz.prog (w1.drewN n) = .ok (.tuple #[.func (.func fn) #[] cp,.bool true]) (w1.drewN n):=fun n=>HLK.out _ (QBC B1 n));go_wp2_with fail
     go_quiet (fail)
     clear hlk;have B2:=QBC B1 nq;go_wp2_with fail;refine (HPC.out _ _ (HF.out.up B2)).mono ?_;rintro e w2 ⟨rfl,hb2⟩;have B3:=QAC B2 hb2;clear j0 j1 j2 j3 j4 j5 j6 i0 i1 p1 c1;obtain⟨j0,j1,j2,j3,j4,j5,j6⟩:=QAQ (QAB hb2 (show (w1.drewN nq).heap[w.heap.size]? = some _ from HP1.out));go_wp2_with fail;go_ret;exact⟨rfl,B3⟩
open Go.RowKit
mutual
def Pf.size:Pf→Nat
 | .mk _ _ _ _ ks=>Pf.sizes ks+1
def Pf.sizes:List Pf→Nat
 | []=>0
 | k :: ks=>k.size+Pf.sizes ks
end
theorem QBN:∀ {ks:List Pf} {i:Nat} {k:Pf},ks[i]? = some k→k.size≤Pf.sizes ks
 | [],i,k,h=>by simp at h
 | x :: ks,0,k,h=>by simp at h;subst h;rw [Pf.sizes];omega
 | x :: ks,i+1,k,h=>by
  (have:=QBN (ks:=ks) (i:=i) (k:=k) (by simpa using h));rw [Pf.sizes];omega
def QJv:Nat→Pf→Prop
 | 0,_=>True
 | n+1,.mk _ _ l r ks=>l.length≤300∧r.length≤300∧ks.length≤1200∧∀ k∈ks,QJv n k
def SmallP (p:Pf):Prop:=∀ n,QJv n p
theorem SmallP.parts {a:ByteArray} {f:Fm} {l r:List Fm} {ks:List Pf} (h:SmallP (.mk a f l r ks)):l.length≤300∧r.length≤300∧ks.length≤1200∧∀ k∈ks,SmallP k :=
 ⟨(h 1).1,(h 1).2.1,(h 1).2.2.1,fun k hk n=>(h (n+1)).2.2.2 k hk⟩
theorem QEF (i:Bool) (a:ByteArray) (f:Fm) (l r:List Fm) (ks:List Pf) (deep steps cuts:Nat):QAf i (.mk a f l r ks) deep steps cuts =
  if steps=20000∨400 < deep then ((2,0),steps,cuts)
  else if QAg i (.mk a f l r ks)≠0 then ((QAg i (.mk a f l r ks),((steps:Nat):Int)),steps+1,cuts)
  else looks i ks (deep+1) (steps+1) (if a.data.toList=Ru.cut.text then cuts+1 else cuts):=by rw [QAf]
mutual
theorem QDs (i:Bool):∀ (p:Pf) (d s c:Nat),s≤20000→c≤s→(QAf i p d s c).2.1≤20000∧(QAf i p d s c).2.2≤(QAf i p d s c).2.1
 | .mk a f l r ks,d,s,c,hs,hc=>by
  rw [QEF]
  split
  ·exact⟨hs,hc⟩
  ·split
   ·exact⟨by show s+1≤20000;omega,by show c≤s+1;omega⟩
   ·exact looks_le i ks (d+1) (s+1) _ (by omega) (by split <;> omega)
theorem looks_le (i:Bool):∀ (ks:List Pf) (d s c:Nat),s≤20000→c≤s→(looks i ks d s c).2.1≤20000∧(looks i ks d s c).2.2≤(looks i ks d s c).2.1
 | [],d,s,c,hs,hc=>by rw [looks];exact⟨hs,hc⟩
 | k :: ks,d,s,c,hs,hc=>by
  have hk:=QDs i k d s c hs hc;rw [looks]
  split
  ·exact hk
  ·exact looks_le i ks d _ _ hk.1 hk.2
end
theorem QEG {i:Bool} {ks:List Pf} {j:Nat} {k:Pf} (h:ks[j]? = some k) (d s c:Nat):looks i (ks.drop j) d s c=if (QAf i k d s c).1.1≠0 then QAf i k d s c else looks i (ks.drop (j+1)) d (QAf i k d s c).2.1 (QAf i k d s c).2.2:=by
 have hj:j < ks.length:=(List.getElem?_eq_some_iff.1 h).1;rw [List.drop_eq_getElem_cons hj,looks];rw [List.getElem?_eq_getElem hj] at h;rw [Option.some.inj h]
theorem QJT {w:World} {bc m s c:Nat} {i:Bool} (h:Ck w bc i m s c) (s':Nat):Ck (w.setCell ⟨bc,2,none⟩ (.int .i64 (s':Nat))) bc i m s' c:=by
 unfold Ck at *;simp [World.setCell,Array.getElem?_modify,h]
theorem QJU {w:World} {bc m s c:Nat} {i:Bool} (h:Ck w bc i m s c) (c':Nat):Ck (w.setCell ⟨bc,3,none⟩ (.int .i64 (c':Nat))) bc i m s c':=by
 unfold Ck at *;simp [World.setCell,Array.getElem?_modify,h]
theorem QDw {w w':World} {bc m s c:Nat} {i:Bool} (h:Ck w bc i m s c) (hb:Below w.heap.size w w'):Ck w' bc i m s c:=by
 unfold Ck at *;exact QAB hb h
theorem QBE {w:World} {bc m s c:Nat} {i:Bool} (h:Ck w bc i m s c) (o:Obj):Ck (w.alloc o) bc i m s c:=by
 unfold Ck at *;exact QAF h o
theorem QJx {w:World} {bc m s c:Nat} {i:Bool} (h:Ck w bc i m s c):bc < w.heap.size:=QAE h
theorem QBR {w:World} {bc m s c:Nat} {i:Bool} (h:Ck w bc i m s c) {p:Addr} (hp:p.block≠bc) (v:Value):Ck (w.setCell p v) bc i m s c:=by
 unfold Ck at *;rw [Below.heap_setCell _ _ _ _ (Ne.symm hp)];exact h
abbrev KB1 (bc:Nat) (w w':World):Prop:=Kept (fun b=>b≠bc) w w'
theorem QBF {bc:Nat} {w w':World} (h:Below w.heap.size w w'):KB1 bc w w':=QAi h fun _ hk _=>hk
theorem QCm {bc:Nat} {w0 w w':World} (h:Below w0.heap.size w0 w) (hb:w0.heap.size≤bc) (k:KB1 bc w w'):Below w0.heap.size w0 w' :=
 ⟨k.os.trans h.os,k.tape.trans h.tape,k.output.trans h.output,Nat.le_trans h.size k.size,fun j hj=>(k.block j (Nat.lt_of_lt_of_le hj h.size) (by omega)).trans (h.block j hj)⟩
theorem QCn {bc b:Nat} {w w':World} {o:Obj} (k:KB1 bc w w') (hb:b≠bc) (h:w.heap[b]? = some o):w'.heap[b]? = some o:=(k.block b (QAE h) hb).trans h
def QCy:Fm := .mk 0 ⟨#[]⟩ []
def Fm.kA:Fm→Fm
 | .mk _ _ ks=>ks.headD QCy
def Fm.kZ:Fm→Fm
 | .mk _ _ ks=>ks.getLastD QCy
def QAb (i:Bool) (q:Ru) (f:Fm) (l r:List Fm):List (List Fm × List Fm) :=
 match q with
 | .ax=>[]
 | .tr=>[]
 | .fa=>[]
 | .andL=>[(l.erase f++[f.kA,f.kZ],r)]
 | .andR=>[(l,r.erase f++[f.kA]),(l,r.erase f++[f.kZ])]
 | .orL=>[(l.erase f++[f.kA],r),(l.erase f++[f.kZ],r)]
 | .thenR=>[(l++[f.kA],r.erase f++[f.kZ])]
 | .notR=>[(l++[f.kA],r.erase f)]
 | .contrL=>[(l++[f],r)]
 | .orR=>[(l,r.erase f++[f.kA,f.kZ])]
 | .thenL=>[(l.erase f,if i then [f.kA] else r++[f.kA]),(l.erase f++[f.kZ],r)]
 | .notL=>[(l.erase f,if i then [f.kA] else r++[f.kA])]
 | .contrR=>[(l,r++[f])]
 | .cut=>[(l,if i then [f] else r++[f]),(l++[f],r)]
 | .orR1=>[(l,[f.kA])]
 | .orR2=>[(l,[f.kZ])]
def QAz (q:Ru) (f:Fm) (l r:List Fm):Bool :=
 match q with
 | .ax=>decide (f∈l) && decide (f∈r)
 | .tr=>decide (f.kind=2) && decide (f∈r)
 | .fa=>decide (f.kind=3) && decide (f∈l)
 | .andL=>decide (f.kind=5) && decide (f∈l)
 | .andR=>decide (f.kind=5) && decide (f∈r)
 | .orL=>decide (f.kind=6) && decide (f∈l)
 | .thenR=>decide (f.kind=7) && decide (f∈r)
 | .notR=>decide (f.kind=4) && decide (f∈r)
 | .contrL=>decide (f∈l)
 | .orR=>decide (f.kind=6) && decide (f∈r)
 | .thenL=>decide (f.kind=7) && decide (f∈l)
 | .notL=>decide (f.kind=4) && decide (f∈l)
 | .contrR=>decide (f∈r)
 | .cut=>true
 | .orR1=>decide (f.kind=6) && decide (f∈r)
 | .orR2=>decide (f.kind=6) && decide (f∈r)
theorem QJi (i:Bool) (q:Ru) (f:Fm) (hf:Fine f) (l r:List Fm):QBP i q f l r=if QAz q f l r then some (QAb i q f l r) else none:=by
 have ka:f.kind=4→f.kA=f.kidA:=fun h=>by
  obtain⟨a,e,ea,-⟩:=QBz hf h;rw [ea,e];rfl
 have kab:f.kind=5∨f.kind=6∨f.kind=7→f.kA=f.kidA∧f.kZ=f.kidB:=fun h=>by
  obtain⟨a,b,e,ea,eb,-,-⟩:=QAu hf h;rw [ea,eb,e];exact⟨rfl,rfl⟩
 have fin:∀ (p:Prop) [Decidable p] (x y:List (List Fm × List Fm)) (b:Bool),(b=true ↔ p)→(p→x=y)→(if p then some x else none)=if b=true then some y else none:=fun p _ x y b h1 h2=>by
  by_cases hp:p
  ·rw [if_pos hp,if_pos (h1.2 hp),h2 hp]
  ·rw [if_neg hp,if_neg (fun e=>hp (h1.1 e))]
 cases q <;> simp only [QBP,QAz,QAb]
 case cut=>simp
 all_goals refine fin _ _ _ _ (by simp) fun h => ?_
 all_goals first
  | rfl
  | (rw [(kab (by omega)).1,(kab (by omega)).2])
  | (rw [(kab (by omega)).1])
  | (rw [(kab (by omega)).2])
  | (rw [ka (by omega)])
theorem QHY (a b:List Fm):QAV a b=a.all fun x=>decide (a.count x≤b.count x):=by
 rw [Bool.eq_iff_iff,QCV,List.all_eq_true]
 constructor
 ·exact fun h x _=>decide_eq_true (h x)
 ·intro h f
  by_cases hf:f∈a
  ·exact of_decide_eq_true (h f hf)
  ·rw [List.count_eq_zero.2 hf];omega
theorem QEl (a b:List Fm):QBk a b=QBk b a:=by
 rw [Bool.eq_iff_iff,QEm,QEm];(exact⟨fun h=>h.symm,fun h=>h.symm⟩)
mutual
def Pf.nodesD:Pf→Nat→List (Pf × Nat)
 | .mk a f l r ks,d=>(.mk a f l r ks,d) :: Pf.nodesDL ks (d+1)
def Pf.nodesDL:List Pf→Nat→List (Pf × Nat)
 | [],_=>[]
 | k :: ks,d=>k.nodesD d++Pf.nodesDL ks d
end
mutual
def Pf.stepsL:Pf→Nat→Nat→List (Pf × Nat)
 | .mk a f l r ks,d,m=>(.mk a f l r ks,d) :: Pf.stepsLs ks d m 1
def Pf.stepsLs:List Pf→Nat→Nat→Nat→List (Pf × Nat)
 | [],_,_,_=>[]
 | k :: ks,d,m,n=>if n≤m∧d < 402 then k.stepsL (d+1) (m - n)++Pf.stepsLs ks d m (n+(k.stepsL (d+1) (m - n)).length) else []
end
def QBZ (i:Bool):List (Pf × Nat)→Nat→Int × Int
 | [],_=>(0,0)
 | x :: xs,s=>if s=20000∨400 < x.2 then (2,0) else if QAg i x.1≠0 then (QAg i x.1,(s:Nat)) else QBZ i xs (s+1)
def Agree (n:Nat) (L M:List (Pf × Nat)):Prop:=L=M∨∃ P X Y,L=P++X∧M=P++Y∧(n≤P.length∨∃ e∈P,400 < e.2)
theorem Agree.cons {n:Nat} {L M:List (Pf × Nat)} (x:Pf × Nat) (h:Agree n L M):Agree (n+1) (x :: L) (x :: M):=by
 rcases h with rfl|⟨P,X,Y,rfl,rfl,h⟩
 ·exact Or.inl rfl
 ·refine Or.inr ⟨x :: P,X,Y,rfl,rfl,h.imp (fun h=>by simp;omega) fun ⟨e,he,hd⟩=>⟨e,List.mem_cons_of_mem _ he,hd⟩⟩
theorem Agree.low {n n':Nat} {L M:List (Pf × Nat)} (h:Agree n L M) (hn:n'≤n):Agree n' L M:=by
 rcases h with rfl|⟨P,X,Y,rfl,rfl,h⟩
 ·exact Or.inl rfl
 ·exact Or.inr ⟨P,X,Y,rfl,rfl,h.imp (fun h=>by omega) id⟩
theorem Agree.append {n:Nat} {L M L' M':List (Pf × Nat)} (h:Agree n L M) (h':L=M→Agree (n - L.length) L' M'):Agree n (L++L') (M++M'):=by
 rcases h with rfl|⟨P,X,Y,rfl,rfl,h⟩
 ·rcases h' rfl with rfl|⟨P,X,Y,rfl,rfl,h⟩
  ·exact Or.inl rfl
  ·exact Or.inr ⟨L++P,X,Y,by simp,by simp,h.imp (fun h=>by simp;omega) fun ⟨e,he,hd⟩=>⟨e,List.mem_append_right _ he,hd⟩⟩
 ·exact Or.inr ⟨P,X++L',Y++M',by simp,by simp,h⟩
theorem QFD (i:Bool):∀ (P X Y:List (Pf × Nat)) (s:Nat),s≤20000→(20001≤s+P.length∨∃ e∈P,400 < e.2)→QBZ i (P++X) s=QBZ i (P++Y) s
 | [],X,Y,s,hs,h=>by
  rcases h with h|⟨e,he,-⟩
  ·simp at h;omega
  ·cases he
 | x :: P,X,Y,s,hs,h=>by
  rw [List.cons_append,List.cons_append,QBZ,QBZ];by_cases h1:s=20000∨400 < x.2
  ·rw [if_pos h1,if_pos h1]
  ·rw [if_neg h1,if_neg h1]
   (rw [QFD i P X Y (s+1) (by omega) ?_])
   rcases h with h|⟨e,he,hd⟩
   ·rw [List.length_cons] at h
    (exact Or.inl (by omega))
   ·rcases List.mem_cons.1 he with rfl|he
    ·omega
    ·exact Or.inr ⟨e,he,hd⟩
theorem QHN {i:Bool} {n s:Nat} {L M:List (Pf × Nat)} (h:Agree n L M) (hs:s≤20000) (hn:20001≤s+n):QBZ i L s=QBZ i M s:=by
 rcases h with rfl|⟨P,X,Y,rfl,rfl,h⟩
 ·rfl
 ·exact QFD i P X Y s hs (h.imp (fun h=>by omega) id)
mutual
theorem QCh:∀ (p:Pf) (d m:Nat),Agree (m+1) (p.stepsL d m) (p.nodesD d)
 | .mk a f l r ks,d,m=>by
  rw [Pf.stepsL,Pf.nodesD];by_cases hd:d < 402
  ·by_cases hm:1≤m
   ·exact ((stepss_agree ks d m 1 hd).cons _).low (by omega)
   ·refine Or.inr ⟨[(.mk a f l r ks,d)],_,_,rfl,rfl,Or.inl (by simp;omega)⟩
  ·exact Or.inr ⟨[(.mk a f l r ks,d)],_,_,rfl,rfl,Or.inr ⟨_,List.mem_cons_self,by show 400 < d;omega⟩⟩
theorem stepss_agree:∀ (ks:List Pf) (d m n:Nat),d < 402→Agree (m+1 - n) (Pf.stepsLs ks d m n) (Pf.nodesDL ks (d+1))
 | [],d,m,n,_=>by rw [Pf.stepsLs,Pf.nodesDL];exact Or.inl rfl
 | k :: ks,d,m,n,hd=>by
  rw [Pf.stepsLs,Pf.nodesDL];by_cases h:n≤m∧d < 402
  ·rw [if_pos h]
   have h1:=QCh k (d+1) (m - n);(refine (h1.low (by omega)).append fun _ => ?_);have h2:=stepss_agree ks d m (n+(k.stepsL (d+1) (m - n)).length) hd;(exact h2.low (by omega))
  ·rw [if_neg h]
   (exact Or.inr ⟨[],_,_,rfl,rfl,Or.inl (by simp;omega)⟩)
end
set_option maxHeartbeats 2000000 in
theorem QAl (l m:List Fm) (hl:l.length≤400) (hm:m.length≤400) (v u:Value) (w:World) (hv:FL w v l) (hu:FL w u m) :
  Calls Tryz.prog 145 #[v,u] w fun e w'=>∃ x,e = .returned x∧FL w' x (l++m)∧Below w.heap.size w w':=by
 have HV:Hid (FLp (· < w.heap.size) w v l):=hv.low;have HU:Hid (FLp (· < w.heap.size) w u m):=hu.low;clear hv hu
 go_enter Tryz.func145,Tryz.ntmps145
 go_wp2_with (first
  | (
    at_builtin
    (refine QCj rfl _ _ rfl w.heap.size w.heap.size [] l none 0 _ rfl AppL.nil rfl HV.out (Nat.le_refl _) (Nat.le_refl _) (by simp;omega) ?_);intro ad1 cp1 w1 h1 b1 k1;have H1:Hid (AppL w.heap.size w.heap.size l ad1 cp1 w1):=h1
    clear h1 k1)
  | (
    at_builtin
    (refine QCj rfl _ _ rfl w.heap.size w.heap.size l m ad1 cp1 _ rfl H1.out rfl (HU.out.up b1) (Nat.le_refl _) b1.size (by omega) ?_);intro ad2 cp2 w2 h2 b2 k2;have H2:Hid (AppL w.heap.size w.heap.size (l++m) ad2 cp2 w2):=h2
    clear h2 k2)
  | fail)
 go_ret;have hf:=(H2.out.flp (Nat.le_refl _)).list;rw [List.length_append] at hf;exact⟨_,rfl,hf,b1.trans b2⟩
theorem QGi {fs:List Fm} {i:Nat} {f g:Fm} (h:fs[i]? = some g):(fs.take (i+1)).count f=(fs.take i).count f+if QAZ g f then 1 else 0:=by
 rw [List.take_add_one,h,List.count_append];show _+[g].count f=_;rw [List.count_singleton];rfl
set_option maxHeartbeats 2000000 in
theorem QEr (fs:List Fm) (hl:fs.length≤1000) (f:Fm) (v u:Value) (w:World) (h:FL w v fs) (hu:Rep w (fun _=>True) f u) :
  Calls Tryz.prog 123 #[v,u] w fun e w'=>e = .returned (.int .i64 ((fs.count f:Nat):Int))∧Below w.heap.size w w':=by
 obtain⟨ad,cap,rfl,h1,h2,h3⟩:=h;obtain⟨kf,nf,ksf⟩:=f;obtain⟨slf,capf,rfl⟩:=QAJ hu;(have hlI:(fs.length:Int)≤1000:=by omega);(have H3:Hid (fs≠[]→∃ b off,ad=some ⟨b,off,none⟩∧Reps w (fun _=>True) b off fs):=h3);clear h3
 go_enter Tryz.func123,Tryz.ntmps123
 go_wp2_with fail
 go_loopg [5,6] fs.length (fun g o c wr=>∃ i n,i≤fs.length∧n≤i∧g=fs.length - i∧c = .int .i64 (i:Nat)∧o = .int .i64 (n:Nat)∧Below w.heap.size w wr∧wr.heap[w.heap.size]? = some (.cells #[.int .i64 kf,.string nf,.slice slf ksf.length capf] 24 (0,0))∧Hid (n=(fs.take i).count (.mk kf nf ksf)))
 case atStart=>exact⟨0,0,by omega,by omega,by omega,rfl,rfl,(Below.refl _ _).alloc (Nat.le_refl _) _,QAG _ _,by show _=_;simp⟩
 case round =>
  obtain⟨i,n,hi,hni,hg,rfl,rfl,hbr,q0,HN⟩:=hrel;have HG:Hid (gk=fs.length - i):=hg;clear hg;obtain⟨e0,e1,e2,-⟩:=QAX q0;have z0:=QAE q0;(have hnI:(n:Int)≤1000:=by omega);by_cases hlt:i < fs.length
  ·obtain⟨⟨k2,n2,ks2⟩,hki⟩:∃ f,fs[i]? = some f:=⟨_,List.getElem?_eq_getElem hlt⟩
   (obtain⟨b,off,rfl,hrs⟩:=H3.out (fun e=>by rw [e] at hlt;simp at hlt));obtain⟨sl2,cap2,g0,g1,g2,hrep2⟩:=(hrs.up hbr).at i k2 n2 ks2 hki;(have hltI:(i:Int) < (fs.length:Int):=by omega);(have hlc:(i:Int) < (cap:Int):=by omega);have zb:=QAI g0;have zz:=hbr.size;have hrepf:=hu.up hbr;(have hsm:=fun v u w h1 h2=>QER (.mk k2 n2 ks2) (.mk kf nf ksf) v u w h1 h2);have hnx:=QGi (f := .mk kf nf ksf) hki;simp only at zb;generalize QAZ (.mk k2 n2 ks2) (.mk kf nf ksf)=bb at hsm hnx;have HS:Hid (∀ v u w,_→_→Calls Tryz.prog 78 #[v,u] w _):=hsm
   have HX:Hid ((fs.take (i+1)).count (.mk kf nf ksf)=n+if bb then 1 else 0):=by
    show _=_;rw [hnx,HN.out]
   clear hki hrs H3 hsm hnx HN;go_wp2_with fail
   go_region_held3 (fun w'=>w'.cell? ⟨b,off+i * 3,none⟩=some (.int .i64 k2)∧w'.cell? ⟨b,off+i * 3+1,none⟩=some (.string n2)∧w'.cell? ⟨b,off+i * 3+2,none⟩=some (.slice sl2 ks2.length cap2)∧w'.cell? ⟨w.heap.size,0,none⟩=some (.int .i64 kf)∧w'.cell? ⟨w.heap.size,1,none⟩=some (.string nf)∧w'.cell? ⟨w.heap.size,2,none⟩=some (.slice slf ksf.length capf)) (go_keep)
    (
     first
     | (
      go_at_call 78
      refine (HS.out _ _ _ (hrep2.up (Below.refl _ _).drew) (hrepf.up (Below.refl _ _).drew)).mono ?_;rintro e w1 ⟨rfl,hb1⟩;have c3:=(hb1.cell (p:=⟨b,off+i * 3,none⟩) zb).trans g0;have c4:=(hb1.cell (p:=⟨b,off+i * 3+1,none⟩) zb).trans g1;have c5:=(hb1.cell (p:=⟨b,off+i * 3+2,none⟩) zb).trans g2;have c6:=(hb1.cell (p:=⟨w.heap.size,0,none⟩) z0).trans e0;have c7:=(hb1.cell (p:=⟨w.heap.size,1,none⟩) z0).trans e1
      have c8:=(hb1.cell (p:=⟨w.heap.size,2,none⟩) z0).trans e2)
     | fail)
   have hb2:Below w.heap.size w w1:=hbr.drew.trans (hb1.mono zz);have q1:=(hb1.block _ z0).trans q0;clear c3 c4 c5 c6 c7 c8
   cases bb
   ·go_wp2_with fail
    go_roundg (fs.length - (i+1))
    case measure=>have:=HG.out;omega
    case rel=>exact⟨i+1,n,by omega,by omega,rfl,by go_num,by go_num,hb2,q1,HX.out.symm⟩
   ·go_wp2_with fail
    go_roundg (fs.length - (i+1))
    case measure=>have:=HG.out;omega
    case rel=>exact⟨i+1,n+1,by omega,by omega,rfl,by go_num,by go_num,hb2,q1,HX.out.symm⟩
  ·have HT:Hid ((n:Int)=((fs.count (.mk kf nf ksf):Nat):Int)):=by
    have:=HN.out;(rw [List.take_of_length_le (by omega)] at this);show _=_;rw [this]
   (have hge:¬ (i:Int) < (fs.length:Int):=by omega);clear H3 HN;go_wp2_with fail;go_ret;(exact⟨by show Ending.returned (.int .i64 (n:Int))=_;rw [HT.out],hbr⟩)
end Go.Proofs.YtffkoiemnchdgadGreat
