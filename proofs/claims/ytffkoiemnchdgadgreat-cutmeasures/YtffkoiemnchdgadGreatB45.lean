import Derived.Test.YtffkoiemnchdgadGreatB41
import Derived.Test.YtffkoiemnchdgadGreatB42
import Derived.Test.YtffkoiemnchdgadGreatB37
import Derived.Test.YtffkoiemnchdgadGreatB44
import Derived.Test.YtffkoiemnchdgadGreatB43
import Derived.Test.YtffkoiemnchdgadGreatB27
import Derived.Test.YtffkoiemnchdgadGreatB30
import Derived.Test.YtffkoiemnchdgadGreatB31
import Derived.Test.YtffkoiemnchdgadGreatB35
import Derived.Deep.DeepCutAuto
import Derived.Test.YtffkoiemnchdgadGreatB38
import Derived.Test.YtffkoiemnchdgadGreatB39
import Derived.Test.YtffkoiemnchdgadGreatB40
namespace Go.Proofs.YtffkoiemnchdgadGreat
open Go.RowKit
def QIs:List Ru:=[.ax,.tr,.fa,.andL,.andR,.orL,.thenR,.notR,.contrL,.cut,.thenL,.notL,.orR,.contrR,.orR1,.orR2]
def QJj (t:List UInt8):Option Ru:=QIs.find? fun r=>decide (r.text=t)
theorem QDS (q:Ru):QJj q.text=some q:=by cases q <;> rfl
theorem QDk (i:Bool) (q:Ru):QAp i q.text=if QBO i q then some q else none:=by cases i <;> cases q <;> rfl
theorem QGQ {i:Bool} {t:List UInt8} (h:∀ q:Ru,q.text≠t):QAp i t=none:=by
 unfold QAp;rw [List.find?_eq_none];intro q _ hq;exact h q (of_decide_eq_true hq)
def PremSpec (i:Bool) (t:List UInt8) (f:Fm) (l r:List Fm) (ss:List (List Fm × List Fm)) (is ok:Bool):Prop :=
 (∃ q:Ru,q.text=t∧ss=QAb i q f l r∧is=QBO i q∧ok=QAz q f l r)∨((∀ q:Ru,q.text≠t)∧is=false∧ss=[]∧ok=false)
theorem PremSpec.no {i:Bool} {t:List UInt8} {f:Fm} {l r:List Fm} {ss:List (List Fm × List Fm)} {ok:Bool} (h:PremSpec i t f l r ss false ok):QAp i t=none:=by
 rcases h with ⟨q,rfl,-,h,-⟩|⟨h,-⟩
 ·rw [QDk,← h];rfl
 ·exact QGQ h
theorem PremSpec.yes {i:Bool} {t:List UInt8} {f:Fm} {l r:List Fm} {ss:List (List Fm × List Fm)} {ok:Bool} (h:PremSpec i t f l r ss true ok):∃ q,QAp i t=some q∧q.text=t∧ss=QAb i q f l r∧ok=QAz q f l r:=by
 rcases h with ⟨q,rfl,hs,h,ho⟩|⟨-,h,-⟩
 ·exact⟨q,by rw [QDk,← h];rfl,rfl,hs,ho⟩
 ·cases h
theorem QEx (i:Bool) (t:ByteArray) (f:Fm) (l r:List Fm) (hl3:l.length≤300) (hr3:r.length≤300) (v VL VR:Value) (w:World) (hf:Rep w (fun _=>True) f v) (hl:FL w VL l) (hr:FL w VR r) :
  Calls Tryz.prog 113 #[.string t,v,.agg #[VL,VR],.bool i] w fun e w'=>∃ x ss is ok,e = .returned (.tuple #[x,.bool is,.bool ok])∧SQs w' x ss∧PremSpec i t.data.toList f l r ss is ok∧Below w.heap.size w w':=by
 have fin:∀ q:Ru,∀ t':ByteArray,t'.data.toList=q.text→(Calls Tryz.prog 113 #[.string t',v,.agg #[VL,VR],.bool i] w fun e w'=>∃ x,e = .returned (.tuple #[x,.bool (QBO i q),.bool (QAz q f l r)])∧SQs w' x (QAb i q f l r)∧Below w.heap.size w w')→Calls Tryz.prog 113 #[.string t',v,.agg #[VL,VR],.bool i] w fun e w'=>∃ x ss is ok,e = .returned (.tuple #[x,.bool is,.bool ok])∧SQs w' x ss∧PremSpec i t'.data.toList f l r ss is ok∧Below w.heap.size w w':=fun q t' ht h=>by
  refine h.mono ?_;rintro e w' ⟨x,he,hs,hb⟩;exact⟨x,_,_,_,he,hs,Or.inl ⟨q,ht.symm,rfl,rfl,rfl⟩,hb⟩
 (have un:∀ (q:Ru) (b:ByteArray),b.data.toList=q.text→t.data.toList=q.text→t=b:=fun q b h1 h2=>by apply ByteArray.ext;apply Array.ext';rw [h1,h2]);(have no:∀ q:Ru,¬ t.data.toList=q.text→(t.toList == q.text)=false:=fun q h=>by rw [ByteArray.toList_eq];simpa using h);by_cases h0:t.data.toList=Ru.text .ax
 ·rw [un .ax ⟨#[97,120]⟩ rfl h0]
  exact fin .ax _ rfl (QHG i .ax _ (Or.inl ⟨rfl,rfl⟩) f l r hl3 hr3 v VL VR w hf hl hr)
 by_cases h1:t.data.toList=Ru.text .tr
 ·rw [un .tr ⟨#[116,114,117,101]⟩ rfl h1]
  exact fin .tr _ rfl (QHG i .tr _ (Or.inr (Or.inl ⟨rfl,rfl⟩)) f l r hl3 hr3 v VL VR w hf hl hr)
 by_cases h2:t.data.toList=Ru.text .fa
 ·rw [un .fa ⟨#[102,97,108,115,101]⟩ rfl h2]
  exact fin .fa _ rfl (QHG i .fa _ (Or.inr (Or.inr ⟨rfl,rfl⟩)) f l r hl3 hr3 v VL VR w hf hl hr)
 by_cases h3:t.data.toList=Ru.text .andL
 ·rw [un .andL ⟨#[97,110,100,45,108]⟩ rfl h3]
  exact fin .andL _ rfl (QHE i .andL _ (Or.inl ⟨rfl,rfl⟩) f l r hl3 hr3 v VL VR w hf hl hr)
 by_cases h4:t.data.toList=Ru.text .andR
 ·rw [un .andR ⟨#[97,110,100,45,114]⟩ rfl h4]
  exact fin .andR _ rfl (QHE i .andR _ (Or.inr (Or.inl ⟨rfl,rfl⟩)) f l r hl3 hr3 v VL VR w hf hl hr)
 by_cases h5:t.data.toList=Ru.text .orL
 ·rw [un .orL ⟨#[111,114,45,108]⟩ rfl h5]
  exact fin .orL _ rfl (QHE i .orL _ (Or.inr (Or.inr ⟨rfl,rfl⟩)) f l r hl3 hr3 v VL VR w hf hl hr)
 by_cases h6:t.data.toList=Ru.text .thenR
 ·rw [un .thenR ⟨#[116,104,101,110,45,114]⟩ rfl h6]
  exact fin .thenR _ rfl (QHF i .thenR _ (Or.inl ⟨rfl,rfl⟩) f l r hl3 hr3 v VL VR w hf hl hr)
 by_cases h7:t.data.toList=Ru.text .notR
 ·rw [un .notR ⟨#[110,111,116,45,114]⟩ rfl h7]
  exact fin .notR _ rfl (QHF i .notR _ (Or.inr (Or.inl ⟨rfl,rfl⟩)) f l r hl3 hr3 v VL VR w hf hl hr)
 by_cases h8:t.data.toList=Ru.text .contrL
 ·rw [un .contrL ⟨#[99,111,110,116,114,45,108]⟩ rfl h8]
  exact fin .contrL _ rfl (QFe i .contrL _ (Or.inr (Or.inr (Or.inl ⟨rfl,rfl⟩))) f l r hl3 hr3 v VL VR w hf hl hr)
 by_cases h9:t.data.toList=Ru.text .cut
 ·rw [un .cut ⟨#[99,117,116]⟩ rfl h9]
  exact fin .cut _ rfl (QKK i .cut _ ⟨rfl,rfl⟩ f l r hl3 hr3 v VL VR w hf hl hr)
 by_cases h10:t.data.toList=Ru.text .thenL
 ·rw [un .thenL ⟨#[116,104,101,110,45,108]⟩ rfl h10]
  exact fin .thenL _ rfl (QJC i .thenL _ (Or.inl ⟨rfl,rfl⟩) f l r hl3 hr3 v VL VR w hf hl hr)
 by_cases h11:t.data.toList=Ru.text .notL
 ·rw [un .notL ⟨#[110,111,116,45,108]⟩ rfl h11]
  exact fin .notL _ rfl (QJC i .notL _ (Or.inr ⟨rfl,rfl⟩) f l r hl3 hr3 v VL VR w hf hl hr)
 by_cases h12:t.data.toList=Ru.text .orR
 ·rw [un .orR ⟨#[111,114,45,114]⟩ rfl h12]
  exact fin .orR _ rfl (QHF i .orR _ (Or.inr (Or.inr ⟨rfl,rfl⟩)) f l r hl3 hr3 v VL VR w hf hl hr)
 by_cases h13:t.data.toList=Ru.text .contrR
 ·rw [un .contrR ⟨#[99,111,110,116,114,45,114]⟩ rfl h13]
  exact fin .contrR _ rfl (QFe i .contrR _ (Or.inr (Or.inr (Or.inr ⟨rfl,rfl⟩))) f l r hl3 hr3 v VL VR w hf hl hr)
 by_cases h14:t.data.toList=Ru.text .orR1
 ·rw [un .orR1 ⟨#[111,114,45,114,49]⟩ rfl h14]
  exact fin .orR1 _ rfl (QFe i .orR1 _ (Or.inl ⟨rfl,rfl⟩) f l r hl3 hr3 v VL VR w hf hl hr)
 by_cases h15:t.data.toList=Ru.text .orR2
 ·rw [un .orR2 ⟨#[111,114,45,114,50]⟩ rfl h15]
  exact fin .orR2 _ rfl (QFe i .orR2 _ (Or.inr (Or.inl ⟨rfl,rfl⟩)) f l r hl3 hr3 v VL VR w hf hl hr)
 refine (QKL i t (no .ax h0) (no .tr h1) (no .fa h2) (no .andL h3) (no .andR h4) (no .orL h5) (no .thenR h6) (no .notR h7) (no .contrL h8) (no .cut h9) (no .thenL h10) (no .notL h11) (no .orR h12) (no .contrR h13) (no .orR1 h14) (no .orR2 h15) f l r hl3 hr3 v VL VR w hf hl hr).mono ?_;rintro e w' ⟨x,he,hs,hb⟩;(refine⟨x,_,_,_,he,hs,Or.inr ⟨fun q e => ?_,rfl,rfl,rfl⟩,hb⟩)
 cases q
 all_goals first|exact h0 e.symm|exact h1 e.symm|exact h2 e.symm|exact h3 e.symm|exact h4 e.symm|exact h5 e.symm|exact h6 e.symm|exact h7 e.symm|exact h8 e.symm|exact h9 e.symm|exact h10 e.symm|exact h11 e.symm|exact h12 e.symm|exact h13 e.symm|exact h14 e.symm|exact h15 e.symm
def Pf.lawT:Pf→List UInt8
 | .mk a _ _ _ _=>a.data.toList
def QBl:Value→World→Prop:=fun _ _=>True
theorem QBg:QCD QBl:=fun _ _ _ _ _=>trivial
theorem QIy {ks:List Pf} {ss:List (List Fm × List Fm)} {j:Nat} {k:Pf} {s:List Fm × List Fm} (h1:ks[j]? = some k) (h2:ss[j]? = some s):QAo (ks.drop j) (ss.drop j)=if QBk k.l s.1 && QBk k.r s.2 then QAo (ks.drop (j+1)) (ss.drop (j+1)) else 7:=by
 have hi:=(List.getElem?_eq_some_iff.1 h1).1;have hj:=(List.getElem?_eq_some_iff.1 h2).1;rw [List.drop_eq_getElem_cons hi,List.drop_eq_getElem_cons hj,QAo];rw [List.getElem?_eq_getElem hi] at h1;rw [List.getElem?_eq_getElem hj] at h2;rw [Option.some.inj h1,Option.some.inj h2]
theorem SQs.len2 {w:World} {v:Value} {ss:List (List Fm × List Fm)} (h:SQs w v ss):∃ ad cap,v = .slice ad ss.length cap∧ss.length≤cap∧cap≤maxLen:=by
 obtain⟨ad,cap,h1,h2,h3,-⟩:=h;exact⟨ad,cap,h1,h2,h3⟩
theorem QIP (i:Bool) (q:Ru) (f:Fm) (l r:List Fm):(QAb i q f l r).length≤2:=by cases q <;> simp [QAb]
theorem QGL (i:Bool) (q:Ru) (f:Fm) (l r:List Fm) (hl:l.length≤300) (hr:r.length≤300):∀ s∈QAb i q f l r,s.1.length≤302∧s.2.length≤302:=by
 have h1:(l.erase f).length≤l.length:=List.length_erase_le;have h2:(r.erase f).length≤r.length:=List.length_erase_le;intro s hs
 cases i <;> cases q <;> simp [QAb] at hs
 all_goals first
  | (rcases hs with rfl|rfl <;> simp <;> omega)
  | (subst hs;simp;omega)
theorem QBn {ops:Array Oper} {tm:Array Value} {df:List Deferred} {a0:Act} (lo n:Nat) (hin:(ops.toList.all fun o=>match o.dst with|some d=>decide (lo≤d∧lo+n > d)|none=>true)=true) (hlen:lo+n≤a0.tmps.size) (h:QBj ops a0 ⟨tm,df⟩):∃ ys:List Value,ys.length=n∧tm=⟨a0.tmps.toList.take lo++(ys++a0.tmps.toList.drop (lo+n))⟩∧df=a0.defers:=by
 obtain⟨h1,h2,h3⟩:=h;have h1':tm.toList.length=a0.tmps.toList.length:=h1;have hl:lo+n≤a0.tmps.toList.length:=hlen
 have old:∀ t,(t < lo∨lo+n≤t)→tm.toList[t]? = a0.tmps.toList[t]? := fun t ht=>by
  have:=h3 t (by
   rw [List.all_eq_true] at hin ⊢;intro o ho;have:=hin o ho
   cases hd:o.dst with
   | none=>rfl
   | some d =>
    rw [hd] at this;have:=of_decide_eq_true this;(refine bne_iff_ne.2 fun e => ?_);have e2:d=t:=Option.some.inj e;subst e2
    omega)
  simpa using this
 (refine⟨(tm.toList.drop lo).take n,by rw [List.length_take,List.length_drop];omega,?_,h2⟩);apply Array.ext';apply List.ext_getElem?;intro t
 rcases Nat.lt_or_ge t lo with ht|ht
 ·rw [List.getElem?_append_left (by rw [List.length_take];omega),List.getElem?_take_of_lt ht]
  exact old t (Or.inl ht)
 ·rw [List.getElem?_append_right (by rw [List.length_take];omega),List.length_take,Nat.min_eq_left (by omega)]
  rcases Nat.lt_or_ge t (lo+n) with ht2|ht2
  ·rw [List.getElem?_append_left (by rw [List.length_take,List.length_drop];omega),List.getElem?_take_of_lt (by omega),List.getElem?_drop]
   congr 1
   omega
  ·rw [List.getElem?_append_right (by rw [List.length_take,List.length_drop];omega),List.length_take,List.length_drop,Nat.min_eq_left (by omega),List.getElem?_drop,old t (Or.inr ht2)]
   congr 1
   omega
theorem QFg (l:List Value) (h0:l.length=24):∃ x0 x1 x2 x3 x4 x5 x6 x7 x8 x9 x10 x11 x12 x13 x14 x15 x16 x17 x18 x19 x20 x21 x22 x23,l=[x0,x1,x2,x3,x4,x5,x6,x7,x8,x9,x10,x11,x12,x13,x14,x15,x16,x17,x18,x19,x20,x21,x22,x23]:=by
 obtain⟨x0,l1,e0,h1⟩:=QAH h0;obtain⟨x1,l2,e1,h2⟩:=QAH h1;obtain⟨x2,l3,e2,h3⟩:=QAH h2;obtain⟨x3,l4,e3,h4⟩:=QAH h3;obtain⟨x4,l5,e4,h5⟩:=QAH h4;obtain⟨x5,l6,e5,h6⟩:=QAH h5;obtain⟨x6,l7,e6,h7⟩:=QAH h6;obtain⟨x7,l8,e7,h8⟩:=QAH h7;obtain⟨x8,l9,e8,h9⟩:=QAH h8;obtain⟨x9,l10,e9,h10⟩:=QAH h9;obtain⟨x10,l11,e10,h11⟩:=QAH h10;obtain⟨x11,l12,e11,h12⟩:=QAH h11;obtain⟨x12,l13,e12,h13⟩:=QAH h12;obtain⟨x13,l14,e13,h14⟩:=QAH h13;obtain⟨x14,l15,e14,h15⟩:=QAH h14;obtain⟨x15,l16,e15,h16⟩:=QAH h15;obtain⟨x16,l17,e16,h17⟩:=QAH h16;obtain⟨x17,l18,e17,h18⟩:=QAH h17;obtain⟨x18,l19,e18,h19⟩:=QAH h18;obtain⟨x19,l20,e19,h20⟩:=QAH h19;obtain⟨x20,l21,e20,h21⟩:=QAH h20;obtain⟨x21,l22,e21,h22⟩:=QAH h21;obtain⟨x22,l23,e22,h23⟩:=QAH h22;obtain⟨x23,l24,e23,h24⟩:=QAH h23;have e24:l24=[]:=List.length_eq_zero_iff.1 h24;subst e24 e23 e22 e21 e20 e19 e18 e17 e16 e15 e14 e13 e12 e11 e10 e9 e8 e7 e6 e5 e4 e3 e2 e1 e0;exact⟨x0,x1,x2,x3,x4,x5,x6,x7,x8,x9,x10,x11,x12,x13,x14,x15,x16,x17,x18,x19,x20,x21,x22,x23,rfl⟩
theorem QFh (l:List Value) (h0:l.length=30):∃ x0 x1 x2 x3 x4 x5 x6 x7 x8 x9 x10 x11 x12 x13 x14 x15 x16 x17 x18 x19 x20 x21 x22 x23 x24 x25 x26 x27 x28 x29,l=[x0,x1,x2,x3,x4,x5,x6,x7,x8,x9,x10,x11,x12,x13,x14,x15,x16,x17,x18,x19,x20,x21,x22,x23,x24,x25,x26,x27,x28,x29]:=by
 obtain⟨x0,l1,e0,h1⟩:=QAH h0;obtain⟨x1,l2,e1,h2⟩:=QAH h1;obtain⟨x2,l3,e2,h3⟩:=QAH h2;obtain⟨x3,l4,e3,h4⟩:=QAH h3;obtain⟨x4,l5,e4,h5⟩:=QAH h4;obtain⟨x5,l6,e5,h6⟩:=QAH h5;obtain⟨x6,l7,e6,h7⟩:=QAH h6;obtain⟨x7,l8,e7,h8⟩:=QAH h7;obtain⟨x8,l9,e8,h9⟩:=QAH h8;obtain⟨x9,l10,e9,h10⟩:=QAH h9;obtain⟨x10,l11,e10,h11⟩:=QAH h10;obtain⟨x11,l12,e11,h12⟩:=QAH h11;obtain⟨x12,l13,e12,h13⟩:=QAH h12;obtain⟨x13,l14,e13,h14⟩:=QAH h13;obtain⟨x14,l15,e14,h15⟩:=QAH h14;obtain⟨x15,l16,e15,h16⟩:=QAH h15;obtain⟨x16,l17,e16,h17⟩:=QAH h16;obtain⟨x17,l18,e17,h18⟩:=QAH h17;obtain⟨x18,l19,e18,h19⟩:=QAH h18;obtain⟨x19,l20,e19,h20⟩:=QAH h19;obtain⟨x20,l21,e20,h21⟩:=QAH h20;obtain⟨x21,l22,e21,h22⟩:=QAH h21;obtain⟨x22,l23,e22,h23⟩:=QAH h22;obtain⟨x23,l24,e23,h24⟩:=QAH h23;obtain⟨x24,l25,e24,h25⟩:=QAH h24;obtain⟨x25,l26,e25,h26⟩:=QAH h25;obtain⟨x26,l27,e26,h27⟩:=QAH h26;obtain⟨x27,l28,e27,h28⟩:=QAH h27;obtain⟨x28,l29,e28,h29⟩:=QAH h28;obtain⟨x29,l30,e29,h30⟩:=QAH h29;have e30:l30=[]:=List.length_eq_zero_iff.1 h30;subst e30 e29 e28 e27 e26 e25 e24 e23 e22 e21 e20 e19 e18 e17 e16 e15 e14 e13 e12 e11 e10 e9 e8 e7 e6 e5 e4 e3 e2 e1 e0;exact⟨x0,x1,x2,x3,x4,x5,x6,x7,x8,x9,x10,x11,x12,x13,x14,x15,x16,x17,x18,x19,x20,x21,x22,x23,x24,x25,x26,x27,x28,x29,rfl⟩
set_option maxRecDepth 20000 in
set_option maxHeartbeats 16000000 in
theorem QJl (i:Bool) (p:Pf) (HA0:Hid (p.lawT=QBd)) (hsm:SmallP p) (v:Value) (w:World) (hv:PRep w p v) :
  Calls Tryz.prog 68 #[v,.bool i] w fun e w'=>e = .returned (.int .i64 (QAg i p))∧Below w.heap.size w w':=by
 obtain⟨a,⟨k,n,kf⟩,l,r,ks⟩:=p;have HW0:Hid (a.data.toList=QBd):=HA0.out;clear HA0;obtain⟨hl3,hr3,hk3,hsk⟩:=hsm.parts;obtain⟨sf,cf,al,cl,ar,cr,sl,cap,rfl,ha,hf,hl,hr,hkc,hcm,hks⟩:=hv.parts;(have HF:Hid (Rep w (fun _=>True) (.mk k n kf) _):=hf);have HL:Hid (FL w (.slice al l.length cl) l):=hl;have HR:Hid (FL w (.slice ar r.length cr) r):=hr;have HK:Hid (ks≠[]→∃ b off,sl=some ⟨b,off,none⟩∧PReps w b off ks):=hks;have HSK:Hid (∀ k∈ks,SmallP k):=hsk;(have hkI:(ks.length:Int)≤1200:=by omega);(have hrI:(r.length:Int)≤300:=by omega);obtain⟨T,hT⟩:∃ T,T=QAg i (.mk a (.mk k n kf) l r ks):=⟨_,rfl⟩;rw [← hT];have HT:Hid (T=QAg i (.mk a (.mk k n kf) l r ks)):=hT;obtain⟨O,hO⟩:∃ O,O=Obj.cells #[.string a,.int .i64 k,.string n,.slice sf kf.length cf,.slice al l.length cl,.slice ar r.length cr,.slice sl ks.length cap] 31 (0,0):=⟨_,rfl⟩;have p1:(w.alloc O).heap[w.heap.size]? = some O:=QAG w O;rw [hO] at p1;have P1:Hid ((w.alloc (.cells #[.string a,.int .i64 k,.string n,.slice sf kf.length cf,.slice al l.length cl,.slice ar r.length cr,.slice sl ks.length cap] 31 (0,0))).heap[w.heap.size]? = some _):=p1;have B0:=QAA (Below.refl _ w) (.cells #[.string a,.int .i64 k,.string n,.slice sf kf.length cf,.slice al l.length cl,.slice ar r.length cr,.slice sl ks.length cap] 31 (0,0));(have hsq:=fun wx (hb:Below w.heap.size w wx)=>QDT l r (by omega) (by omega) _ _ wx (HL.out.up hb) (HR.out.up hb));(have HS0:Hid ((QAx l r).1≠0→T=5):=fun h=>by rw [HT.out,QAg,if_pos (Or.inl h)]);(have HS1:Hid (i=true→1 < r.length→T=5):=fun h1 h2=>by rw [HT.out,QAg,if_pos (Or.inr ⟨h1,h2⟩)])
 have HS2:Hid ((QAx l r).1=0→¬ (i=true∧1 < r.length)→T=if a.data.toList=QBd then QBx (.mk k n kf) l r ks else match QAp i a.data.toList with
   | none=>4
   | some q=>if (Fm.mk k n kf).pcode.1≠0 then 5 else match QBP i q (.mk k n kf) l r with
    | none=>7
    | some ss=>if ks.length≠ss.length then 9 else QAo ks ss):=fun h1 h2=>by
  (rw [HT.out,QAg,if_neg (fun e=>e.elim (fun e=>e h1) h2)]);rfl
 generalize QAx l r=sq at *;obtain⟨s1,s2⟩:=sq;have HSQ:Hid (∀ wx,Below w.heap.size w wx→Calls Tryz.prog 76 _ wx _):=hsq;(have hfc:=fun a b w=>QCO a b w);clear hf hl hr hks hsk hv hsm hT hsq p1 hO
 go_enter Tryz.func68,Tryz.ntmps68
 go_upto_region 1 with fail
 go_cut [26] from 12 to 26 (fun v wc=>∃ c,v = .bool c∧Hid (c=true→T=5)∧Hid (c=false→T=if a.data.toList=QBd then QBx (.mk k n kf) l r ks else match QAp i a.data.toList with
   | none=>4
   | some q=>if (Fm.mk k n kf).pcode.1≠0 then 5 else match QBP i q (.mk k n kf) l r with
    | none=>7
    | some ss=>if ks.length≠ss.length then 9 else QAo ks ss)∧Hid (Below w.heap.size w wc)∧Hid (wc.heap[w.heap.size]? = some (.cells #[.string a,.int .i64 k,.string n,.slice sf kf.length cf,.slice al l.length cl,.slice ar r.length cr,.slice sl ks.length cap] 31 (0,0))))
 case first =>
  go_wp2_with fail;refine (HSQ.out _ B0).mono ?_;rintro e w1 ⟨rfl,hb1⟩;have B1:=QAC B0 hb1;have Q1:Hid (w1.heap[w.heap.size]? = some _):=QAB hb1 P1.out;obtain⟨j0,j1,j2,j3,j4,j5,j6⟩:=QAQ Q1.out;clear hb1 P1 B0 HSQ;by_cases hs1:s1=0
  case neg =>
   (have hsJ:(s1 != 0)=true:=by simpa using hs1);have H5:Hid (T=5):=HS0.out hs1;go_wp2_with fail;go_meet;(exact⟨true,rfl,fun _=>H5.out,(fun h=>nomatch h),B1,Q1.out⟩)
  subst hs1
  cases i
  ·have HN:=HS2.out rfl (fun h=>nomatch h.1)
   go_wp2_with fail;go_meet;(exact⟨false,rfl,(fun h=>nomatch h),fun _=>HN,B1,Q1.out⟩)
  ·by_cases h1:1 < r.length
   ·have h1I:(1:Int) < (r.length:Int):=by omega
    have H5:Hid (T=5):=HS1.out rfl h1;go_wp2_with fail;go_meet;(exact⟨true,rfl,fun _=>H5.out,(fun h=>nomatch h),B1,Q1.out⟩)
   ·have h1I:¬ (1:Int) < (r.length:Int):=by omega
    (have HN:=HS2.out rfl (fun h=>h1 h.2));go_wp2_with fail;go_meet;(exact⟨false,by rw [decide_eq_false (show ¬ (1:Int) < (r.length:Int) by omega)],(fun h=>nomatch h),fun _=>HN,B1,Q1.out⟩)
 obtain⟨cc,rfl,H5,HN,B1,Q1⟩:=hcut;clear HS0 HS1 HS2 HSQ P1 B0;obtain⟨w1,hw1⟩:∃ x,x=wc:=⟨_,rfl⟩;subst hw1;have B1:=B1.out;obtain⟨j0,j1,j2,j3,j4,j5,j6⟩:=QAQ Q1.out
 cases cc
 case true =>
  have H6:Hid (T=5):=H5.out rfl;clear H5 HN;go_wp2_with fail;go_ret;(exact⟨by rw [H6.out];rfl,B1⟩)
 have HTT:=HN.out rfl;clear HN H5;have hw:=HW0.out;clear HW0
 ·rw [if_pos hw] at HTT
  (have hae:a=⟨#[119,101,97,107]⟩:=by apply ByteArray.ext;apply Array.ext';exact hw);subst hae;have HT1:Hid (T=QBx (.mk k n kf) l r ks):=HTT;clear HTT hw HT
  all_goals
   by_cases hk:k=0
   case neg =>
    (have H5:Hid (T=5):=HT1.out.trans (QBi fun h=>hk (QCr.1 h).1));(have hkJ:(k != 0)=true:=by simpa using hk);go_wp2_with fail;go_ret;(exact⟨by rw [H5.out];rfl,B1⟩)
   subst hk;by_cases hn:n.data.toList=[]
   case neg =>
    (have H5:Hid (T=5):=HT1.out.trans (QBi fun h=>hn (QCr.1 h).2.1));(have hnJ:(n.toList == ([]:List UInt8))=false:=by rw [ByteArray.toList_eq];simpa using hn);(have hnE:(n.toList).isEmpty=false:=by rw [ByteArray.toList_eq];simpa using hn);clear hn;go_wp2_with fail;go_ret;(exact⟨by rw [H5.out];rfl,B1⟩)
   (have hn':n=⟨#[]⟩:=by apply ByteArray.ext;apply Array.ext';exact hn);subst hn';clear hn;by_cases hkf:kf=[]
   case neg =>
    (have H5:Hid (T=5):=HT1.out.trans (QBi fun h=>hkf (QCr.1 h).2.2));(have hkJ:(0:Int) < (kf.length:Int):=by have:=List.length_pos_iff.2 hkf;omega);clear hkf;go_wp2_with fail;go_ret;(exact⟨by rw [H5.out];rfl,B1⟩)
   subst hkf;by_cases hk1:ks.length=1
   case neg =>
    have H9:Hid (T=9):=HT1.out.trans (QEX hk1);(have hkJ:((ks.length:Int) != 1)=true:=by simp;omega);clear hk1;go_wp2_with fail;go_ret;(exact⟨by rw [H9.out];rfl,B1⟩)
   obtain⟨⟨ka,⟨kk,kn,kkf⟩,kl,kr,kks⟩,hks1⟩:∃ x,ks=[x]:=by
    match ks,hk1 with
    | [x],_=>exact⟨x,rfl⟩
   have HKL:Hid (ks.length=1):=hk1
   have HT2:Hid (T=if QAV kl l && QAV kr r then 0 else 7):=by
    have:=HT1.out;rw [hks1,QFK] at this;exact this
   (obtain⟨b,off,rfl,hrs⟩:=HK.out (by rw [hks1];simp));(obtain⟨hkl3,hkr3,-,-⟩:=(HSK.out (.mk ka (.mk kk kn kkf) kl kr kks) (by rw [hks1];exact List.mem_cons_self)).parts);(obtain⟨sf2,cf2,al2,cl2,ar2,cr2,sl2,cap2,x0,x1,x2,x3,x4,x5,x6,hrep⟩:=hrs.at 0 ka kk kn kkf kl kr kks (by rw [hks1];rfl));simp only [Nat.zero_mul,Nat.add_zero] at x0 x1 x2 x3 x4 x5 x6;obtain⟨_,_,_,_,_,_,_,_,hpe,-,-,hkl,hkr,-⟩:=hrep.parts;simp only [Value.agg.injEq,Array.mk.injEq,List.cons.injEq,Value.slice.injEq,and_true,true_and] at hpe;obtain⟨⟨rfl,rfl⟩,⟨rfl,rfl⟩,⟨rfl,rfl⟩,⟨rfl,rfl⟩⟩:=hpe;have HZ:Hid (b < w1.heap.size):=Nat.lt_of_lt_of_le (QAI x4) B1.size;have HC:Hid (w1.cell? ⟨b,off+4,none⟩=some (.slice al2 kl.length cl2)∧w1.cell? ⟨b,off+5,none⟩=some (.slice ar2 kr.length cr2)):=⟨(B1.cell (p:=⟨b,off+4,none⟩) (QAI x4)).trans x4,(B1.cell (p:=⟨b,off+5,none⟩) (QAI x5)).trans x5⟩;(have HW1':Hid (∀ wx,Below w1.heap.size w1 wx→Calls Tryz.prog 81 #[.slice al2 kl.length cl2,.slice al l.length cl] wx fun e w'=>e = .returned (.bool (QAV kl l))∧Below wx.heap.size wx w'):=fun wx hb=>QDC kl l (by omega) (by omega) _ _ wx (hkl.up (QAC B1 hb)) (HL.out.up (QAC B1 hb)));(have HW2':Hid (∀ wx,Below w1.heap.size w1 wx→Calls Tryz.prog 81 #[.slice ar2 kr.length cr2,.slice ar r.length cr] wx fun e w'=>e = .returned (.bool (QAV kr r))∧Below wx.heap.size wx w'):=fun wx hb=>QDC kr r (by omega) (by omega) _ _ wx (hkr.up (QAC B1 hb)) (HR.out.up (QAC B1 hb)));generalize QAV kl l=e1 at *;generalize QAV kr r=e2 at *;(have hc1:(1:Int)≤(cap:Int):=by omega);(have hc0:(0:Int) < (cap:Int):=by omega);(have hl0:(0:Int) < (ks.length:Int):=by omega);(have hl0N:0 < ks.length:=by omega);(have hl1:((ks.length:Int) != 1)=false:=by simp;omega);have HBP:Hid (w1.heap[w.heap.size]? = some _):=Q1.out;have BW:Hid (Below w.heap.size w w1):=B1;clear hrs HK hrep hkl hkr HL HR hks1 HSK x0 x1 x2 x3 x4 x5 x6 HT1 Q1
   cases e1
   ·have HW1:Hid (∀ wx,Below w1.heap.size w1 wx→Calls Tryz.prog 81 #[.slice al2 kl.length cl2,.slice al l.length cl] wx fun e w'=>e = .returned (.bool false)∧Below wx.heap.size wx w'):=HW1'
    have HT0:Hid (T=7):=HT2.out;clear HW1' HW2' HT2;go_wp2_with fail;clear j0 j1 j2 j3 j4 j5 j6 hl1 hk1;(refine QAK (by kernel_rfl) [kEq (.pointer (some ⟨w.heap.size,6,none⟩)),kEq (.slice (some ⟨b,off,none⟩) ks.length cap),kEq (.pointer (some ⟨b,off,none⟩)),kEq (.pointer (some ⟨b,off+4,none⟩)),kEq (.pointer (some ⟨b,off+4,none⟩)),kEq (.slice al2 kl.length cl2),kEq (.pointer (some ⟨w.heap.size,4,none⟩)),kEq (.pointer (some ⟨w.heap.size,4,none⟩)),kEq (.slice al l.length cl),kEq (.bool false),kEq (.bool true),kEq (.bool true),QBl,QBl,QBl,QBl,QBl,QBl,QBl,QBl,QBl,QBl,QBl,kEq (.bool true)] ?_ (by kernel_rfl) (by kernel_rfl) 150 rfl (by kernel_rfl) ?_ ?_)
    ·intro p hp
     simp only [List.mem_cons,List.not_mem_nil,or_false] at hp
     rcases hp with rfl|rfl|rfl|rfl|rfl|rfl|rfl|rfl|rfl|rfl|rfl|rfl|rfl|rfl|rfl|rfl|rfl|rfl|rfl|rfl|rfl|rfl|rfl|rfl
     all_goals first|exact QAN _|exact QBg
    ·refine⟨?_,?_,?_,?_,?_,?_,?_,?_,?_,?_,?_,?_,?_,?_,?_,?_,?_,?_,?_,?_,?_,?_,?_,?_,trivial⟩
     ·intro a wx hB hold hdep K hK;have t2:a.tmps[2]? = some (.pointer (some ⟨w.heap.size,0,none⟩)):=hold.2.2 2 rfl;clear hold hdep;go_simp;exact hK.out _ _ rfl (Below.refl _ _)
     ·intro a wx hB hold hdep K hK;have t51:=QAD wx (hdep 0 rfl _ 51 rfl rfl);obtain⟨k0,k1,k2',k3,k4,k5,k6⟩:=QAQ (QAB hB HBP.out);clear hold hdep;go_simp;exact hK.out _ _ rfl (Below.refl _ _)
     ·intro a wx hB hold hdep K hK;have t52:=QAD wx (hdep 1 rfl _ 52 rfl rfl);clear hold hdep;go_simp;exact hK.out _ _ rfl (Below.refl _ _)
     ·intro a wx hB hold hdep K hK;have t53:=QAD wx (hdep 2 rfl _ 53 rfl rfl);clear hold hdep;go_simp;exact hK.out _ _ rfl (Below.refl _ _)
     ·intro a wx hB hold hdep K hK;have t54:=QAD wx (hdep 3 rfl _ 54 rfl rfl);clear hold hdep;go_simp;exact hK.out _ _ rfl (Below.refl _ _)
     ·intro a wx hB hold hdep K hK;have t55:=QAD wx (hdep 4 rfl _ 55 rfl rfl);obtain⟨g4,g5⟩:=HC.out;have q4:=(hB.cell (p:=⟨b,off+4,none⟩) HZ.out).trans g4;have q5:=(hB.cell (p:=⟨b,off+5,none⟩) HZ.out).trans g5;clear g4 g5;clear hold hdep;go_simp;exact hK.out _ _ rfl (Below.refl _ _)
     ·intro a wx hB hold hdep K hK;have t2:a.tmps[2]? = some (.pointer (some ⟨w.heap.size,0,none⟩)):=hold.2.2 2 rfl;clear hold hdep;go_simp;exact hK.out _ _ rfl (Below.refl _ _)
     ·intro a wx hB hold hdep K hK;have t57:=QAD wx (hdep 6 rfl _ 57 rfl rfl);clear hold hdep;go_simp;exact hK.out _ _ rfl (Below.refl _ _)
     ·intro a wx hB hold hdep K hK;have t58:=QAD wx (hdep 7 rfl _ 58 rfl rfl);obtain⟨k0,k1,k2',k3,k4,k5,k6⟩:=QAQ (QAB hB HBP.out);clear hold hdep;go_simp;exact hK.out _ _ rfl (Below.refl _ _)
     ·intro a wx hB hold hdep K hK;have t56:=QAD wx (hdep 5 rfl _ 56 rfl rfl);have t59:=QAD wx (hdep 8 rfl _ 59 rfl rfl);clear hold hdep;go_simp;refine (HW1.out wx hB).mono ?_;rintro e w1 ⟨rfl,hb⟩;exact hK.out _ _ rfl hb
     ·intro a wx hB hold hdep K hK;have t60:=QAD wx (hdep 9 rfl _ 60 rfl rfl);clear hold hdep;go_simp;exact hK.out _ _ rfl (Below.refl _ _)
     ·intro a wx hB hold hdep K hK;have t61:=QAD wx (hdep 10 rfl _ 61 rfl rfl);clear hold hdep;go_simp;exact hK.out _ _ rfl (Below.refl _ _)
     iterate 11 (· intro a wx hB hold hdep K hK;have t62:=QAD wx (hdep 11 rfl _ 62 rfl rfl);clear hold hdep;go_simp;exact hK.out _ _ trivial (Below.refl _ _))
     ·intro a wx hB hold hdep K hK;have t62:=QAD wx (hdep 11 rfl _ 62 rfl rfl);clear hold hdep;go_simp;exact hK.out _ _ rfl (Below.refl _ _)
    ·intro a wx hB hold hgot
     (obtain⟨v74,t74,p74⟩:=hgot 23 _ 74 rfl rfl;have e74:v74=(.bool true):=p74;subst e74;obtain⟨tm,df⟩:=a;obtain⟨ys,hys,htm,rfl⟩:=QBn 51 24 (by kernel_rfl) (Nat.le_of_ble_eq_true rfl) hold;obtain⟨x51,x52,x53,x54,x55,x56,x57,x58,x59,x60,x61,x62,x63,x64,x65,x66,x67,x68,x69,x70,x71,x72,x73,x74,rfl⟩:=QFg ys hys;simp only [List.take_succ_cons,List.take_zero,List.drop_succ_cons,List.drop_zero,List.cons_append,List.nil_append] at htm;subst htm;obtain rfl:x74=_:=QCq t74;clear hys hold hgot t74 p74;have B2:=QAC BW.out hB;go_wp2_with fail;go_ret;(exact⟨by rw [HT0.out];rfl,B2⟩))
   ·have HW1:Hid (∀ wx,Below w1.heap.size w1 wx→Calls Tryz.prog 81 #[.slice al2 kl.length cl2,.slice al l.length cl] wx fun e w'=>e = .returned (.bool true)∧Below wx.heap.size wx w'):=HW1'
    cases e2
    ·have HW2:Hid (∀ wx,Below w1.heap.size w1 wx→Calls Tryz.prog 81 #[.slice ar2 kr.length cr2,.slice ar r.length cr] wx fun e w'=>e = .returned (.bool false)∧Below wx.heap.size wx w'):=HW2'
     have HT0:Hid (T=7):=HT2.out;clear HW1' HW2' HT2;go_wp2_with fail;clear j0 j1 j2 j3 j4 j5 j6 hl1 hk1;(refine QAK (by kernel_rfl) [kEq (.pointer (some ⟨w.heap.size,6,none⟩)),kEq (.slice (some ⟨b,off,none⟩) ks.length cap),kEq (.pointer (some ⟨b,off,none⟩)),kEq (.pointer (some ⟨b,off+4,none⟩)),kEq (.pointer (some ⟨b,off+4,none⟩)),kEq (.slice al2 kl.length cl2),kEq (.pointer (some ⟨w.heap.size,4,none⟩)),kEq (.pointer (some ⟨w.heap.size,4,none⟩)),kEq (.slice al l.length cl),kEq (.bool true),kEq (.bool false),kEq (.bool false),kEq (.pointer (some ⟨w.heap.size,6,none⟩)),kEq (.slice (some ⟨b,off,none⟩) ks.length cap),kEq (.pointer (some ⟨b,off,none⟩)),kEq (.pointer (some ⟨b,off+4,none⟩)),kEq (.pointer (some ⟨b,off+5,none⟩)),kEq (.slice ar2 kr.length cr2),kEq (.pointer (some ⟨w.heap.size,4,none⟩)),kEq (.pointer (some ⟨w.heap.size,5,none⟩)),kEq (.slice ar r.length cr),kEq (.bool false),kEq (.bool true),kEq (.bool true)] ?_ (by kernel_rfl) (by kernel_rfl) 150 rfl (by kernel_rfl) ?_ ?_)
     ·intro p hp
      simp only [List.mem_cons,List.not_mem_nil,or_false] at hp
      rcases hp with rfl|rfl|rfl|rfl|rfl|rfl|rfl|rfl|rfl|rfl|rfl|rfl|rfl|rfl|rfl|rfl|rfl|rfl|rfl|rfl|rfl|rfl|rfl|rfl
      all_goals first|exact QAN _|exact QBg
     ·refine⟨?_,?_,?_,?_,?_,?_,?_,?_,?_,?_,?_,?_,?_,?_,?_,?_,?_,?_,?_,?_,?_,?_,?_,?_,trivial⟩
      ·intro a wx hB hold hdep K hK;have t2:a.tmps[2]? = some (.pointer (some ⟨w.heap.size,0,none⟩)):=hold.2.2 2 rfl;clear hold hdep;go_simp;exact hK.out _ _ rfl (Below.refl _ _)
      ·intro a wx hB hold hdep K hK;have t51:=QAD wx (hdep 0 rfl _ 51 rfl rfl);obtain⟨k0,k1,k2',k3,k4,k5,k6⟩:=QAQ (QAB hB HBP.out);clear hold hdep;go_simp;exact hK.out _ _ rfl (Below.refl _ _)
      ·intro a wx hB hold hdep K hK;have t52:=QAD wx (hdep 1 rfl _ 52 rfl rfl);clear hold hdep;go_simp;exact hK.out _ _ rfl (Below.refl _ _)
      ·intro a wx hB hold hdep K hK;have t53:=QAD wx (hdep 2 rfl _ 53 rfl rfl);clear hold hdep;go_simp;exact hK.out _ _ rfl (Below.refl _ _)
      ·intro a wx hB hold hdep K hK;have t54:=QAD wx (hdep 3 rfl _ 54 rfl rfl);clear hold hdep;go_simp;exact hK.out _ _ rfl (Below.refl _ _)
      ·intro a wx hB hold hdep K hK;have t55:=QAD wx (hdep 4 rfl _ 55 rfl rfl);obtain⟨g4,g5⟩:=HC.out;have q4:=(hB.cell (p:=⟨b,off+4,none⟩) HZ.out).trans g4;have q5:=(hB.cell (p:=⟨b,off+5,none⟩) HZ.out).trans g5;clear g4 g5;clear hold hdep;go_simp;exact hK.out _ _ rfl (Below.refl _ _)
      ·intro a wx hB hold hdep K hK;have t2:a.tmps[2]? = some (.pointer (some ⟨w.heap.size,0,none⟩)):=hold.2.2 2 rfl;clear hold hdep;go_simp;exact hK.out _ _ rfl (Below.refl _ _)
      ·intro a wx hB hold hdep K hK;have t57:=QAD wx (hdep 6 rfl _ 57 rfl rfl);clear hold hdep;go_simp;exact hK.out _ _ rfl (Below.refl _ _)
      ·intro a wx hB hold hdep K hK;have t58:=QAD wx (hdep 7 rfl _ 58 rfl rfl);obtain⟨k0,k1,k2',k3,k4,k5,k6⟩:=QAQ (QAB hB HBP.out);clear hold hdep;go_simp;exact hK.out _ _ rfl (Below.refl _ _)
      ·intro a wx hB hold hdep K hK;have t56:=QAD wx (hdep 5 rfl _ 56 rfl rfl);have t59:=QAD wx (hdep 8 rfl _ 59 rfl rfl);clear hold hdep;go_simp;refine (HW1.out wx hB).mono ?_;rintro e w1 ⟨rfl,hb⟩;exact hK.out _ _ rfl hb
      ·intro a wx hB hold hdep K hK;have t60:=QAD wx (hdep 9 rfl _ 60 rfl rfl);clear hold hdep;go_simp;exact hK.out _ _ rfl (Below.refl _ _)
      ·intro a wx hB hold hdep K hK;have t61:=QAD wx (hdep 10 rfl _ 61 rfl rfl);clear hold hdep;go_simp;exact hK.out _ _ rfl (Below.refl _ _)
      ·intro a wx hB hold hdep K hK;have t62:=QAD wx (hdep 11 rfl _ 62 rfl rfl);have t2:a.tmps[2]? = some (.pointer (some ⟨w.heap.size,0,none⟩)):=hold.2.2 2 rfl;clear hold hdep;go_simp;exact hK.out _ _ rfl (Below.refl _ _)
      ·intro a wx hB hold hdep K hK;have t62:=QAD wx (hdep 11 rfl _ 62 rfl rfl);have t63:=QAD wx (hdep 12 rfl _ 63 rfl rfl);obtain⟨k0,k1,k2',k3,k4,k5,k6⟩:=QAQ (QAB hB HBP.out);clear hold hdep;go_simp;exact hK.out _ _ rfl (Below.refl _ _)
      ·intro a wx hB hold hdep K hK;have t62:=QAD wx (hdep 11 rfl _ 62 rfl rfl);have t64:=QAD wx (hdep 13 rfl _ 64 rfl rfl);clear hold hdep;go_simp;exact hK.out _ _ rfl (Below.refl _ _)
      ·intro a wx hB hold hdep K hK;have t62:=QAD wx (hdep 11 rfl _ 62 rfl rfl);have t65:=QAD wx (hdep 14 rfl _ 65 rfl rfl);clear hold hdep;go_simp;exact hK.out _ _ rfl (Below.refl _ _)
      ·intro a wx hB hold hdep K hK;have t62:=QAD wx (hdep 11 rfl _ 62 rfl rfl);have t66:=QAD wx (hdep 15 rfl _ 66 rfl rfl);clear hold hdep;go_simp;exact hK.out _ _ rfl (Below.refl _ _)
      ·intro a wx hB hold hdep K hK;have t62:=QAD wx (hdep 11 rfl _ 62 rfl rfl);have t67:=QAD wx (hdep 16 rfl _ 67 rfl rfl);obtain⟨g4,g5⟩:=HC.out;have q4:=(hB.cell (p:=⟨b,off+4,none⟩) HZ.out).trans g4;have q5:=(hB.cell (p:=⟨b,off+5,none⟩) HZ.out).trans g5;clear g4 g5;clear hold hdep;go_simp;exact hK.out _ _ rfl (Below.refl _ _)
      ·intro a wx hB hold hdep K hK;have t62:=QAD wx (hdep 11 rfl _ 62 rfl rfl);have t2:a.tmps[2]? = some (.pointer (some ⟨w.heap.size,0,none⟩)):=hold.2.2 2 rfl;clear hold hdep;go_simp;exact hK.out _ _ rfl (Below.refl _ _)
      ·intro a wx hB hold hdep K hK;have t62:=QAD wx (hdep 11 rfl _ 62 rfl rfl);have t69:=QAD wx (hdep 18 rfl _ 69 rfl rfl);clear hold hdep;go_simp;exact hK.out _ _ rfl (Below.refl _ _)
      ·intro a wx hB hold hdep K hK;have t62:=QAD wx (hdep 11 rfl _ 62 rfl rfl);have t70:=QAD wx (hdep 19 rfl _ 70 rfl rfl);obtain⟨k0,k1,k2',k3,k4,k5,k6⟩:=QAQ (QAB hB HBP.out);clear hold hdep;go_simp;exact hK.out _ _ rfl (Below.refl _ _)
      ·intro a wx hB hold hdep K hK;have t62:=QAD wx (hdep 11 rfl _ 62 rfl rfl);have t68:=QAD wx (hdep 17 rfl _ 68 rfl rfl);have t71:=QAD wx (hdep 20 rfl _ 71 rfl rfl);clear hold hdep;go_simp;refine (HW2.out wx hB).mono ?_;rintro e w1 ⟨rfl,hb⟩;exact hK.out _ _ rfl hb
      ·intro a wx hB hold hdep K hK;have t62:=QAD wx (hdep 11 rfl _ 62 rfl rfl);have t72:=QAD wx (hdep 21 rfl _ 72 rfl rfl);clear hold hdep;go_simp;exact hK.out _ _ rfl (Below.refl _ _)
      ·intro a wx hB hold hdep K hK;have t62:=QAD wx (hdep 11 rfl _ 62 rfl rfl);have t73:=QAD wx (hdep 22 rfl _ 73 rfl rfl);clear hold hdep;go_simp;exact hK.out _ _ rfl (Below.refl _ _)
     ·intro a wx hB hold hgot
      (obtain⟨v74,t74,p74⟩:=hgot 23 _ 74 rfl rfl;have e74:v74=(.bool true):=p74;subst e74;obtain⟨tm,df⟩:=a;obtain⟨ys,hys,htm,rfl⟩:=QBn 51 24 (by kernel_rfl) (Nat.le_of_ble_eq_true rfl) hold;obtain⟨x51,x52,x53,x54,x55,x56,x57,x58,x59,x60,x61,x62,x63,x64,x65,x66,x67,x68,x69,x70,x71,x72,x73,x74,rfl⟩:=QFg ys hys;simp only [List.take_succ_cons,List.take_zero,List.drop_succ_cons,List.drop_zero,List.cons_append,List.nil_append] at htm;subst htm;obtain rfl:x74=_:=QCq t74;clear hys hold hgot t74 p74;have B2:=QAC BW.out hB;go_wp2_with fail;go_ret;(exact⟨by rw [HT0.out];rfl,B2⟩))
    ·have HW2:Hid (∀ wx,Below w1.heap.size w1 wx→Calls Tryz.prog 81 #[.slice ar2 kr.length cr2,.slice ar r.length cr] wx fun e w'=>e = .returned (.bool true)∧Below wx.heap.size wx w'):=HW2'
     have HT0:Hid (T=0):=HT2.out;clear HW1' HW2' HT2;go_wp2_with fail;clear j0 j1 j2 j3 j4 j5 j6 hl1 hk1;(refine QAK (by kernel_rfl) [kEq (.pointer (some ⟨w.heap.size,6,none⟩)),kEq (.slice (some ⟨b,off,none⟩) ks.length cap),kEq (.pointer (some ⟨b,off,none⟩)),kEq (.pointer (some ⟨b,off+4,none⟩)),kEq (.pointer (some ⟨b,off+4,none⟩)),kEq (.slice al2 kl.length cl2),kEq (.pointer (some ⟨w.heap.size,4,none⟩)),kEq (.pointer (some ⟨w.heap.size,4,none⟩)),kEq (.slice al l.length cl),kEq (.bool true),kEq (.bool false),kEq (.bool false),kEq (.pointer (some ⟨w.heap.size,6,none⟩)),kEq (.slice (some ⟨b,off,none⟩) ks.length cap),kEq (.pointer (some ⟨b,off,none⟩)),kEq (.pointer (some ⟨b,off+4,none⟩)),kEq (.pointer (some ⟨b,off+5,none⟩)),kEq (.slice ar2 kr.length cr2),kEq (.pointer (some ⟨w.heap.size,4,none⟩)),kEq (.pointer (some ⟨w.heap.size,5,none⟩)),kEq (.slice ar r.length cr),kEq (.bool true),kEq (.bool false),kEq (.bool false)] ?_ (by kernel_rfl) (by kernel_rfl) 150 rfl (by kernel_rfl) ?_ ?_)
     ·intro p hp
      simp only [List.mem_cons,List.not_mem_nil,or_false] at hp
      rcases hp with rfl|rfl|rfl|rfl|rfl|rfl|rfl|rfl|rfl|rfl|rfl|rfl|rfl|rfl|rfl|rfl|rfl|rfl|rfl|rfl|rfl|rfl|rfl|rfl
      all_goals first|exact QAN _|exact QBg
     ·refine⟨?_,?_,?_,?_,?_,?_,?_,?_,?_,?_,?_,?_,?_,?_,?_,?_,?_,?_,?_,?_,?_,?_,?_,?_,trivial⟩
      ·intro a wx hB hold hdep K hK;have t2:a.tmps[2]? = some (.pointer (some ⟨w.heap.size,0,none⟩)):=hold.2.2 2 rfl;clear hold hdep;go_simp;exact hK.out _ _ rfl (Below.refl _ _)
      ·intro a wx hB hold hdep K hK;have t51:=QAD wx (hdep 0 rfl _ 51 rfl rfl);obtain⟨k0,k1,k2',k3,k4,k5,k6⟩:=QAQ (QAB hB HBP.out);clear hold hdep;go_simp;exact hK.out _ _ rfl (Below.refl _ _)
      ·intro a wx hB hold hdep K hK;have t52:=QAD wx (hdep 1 rfl _ 52 rfl rfl);clear hold hdep;go_simp;exact hK.out _ _ rfl (Below.refl _ _)
      ·intro a wx hB hold hdep K hK;have t53:=QAD wx (hdep 2 rfl _ 53 rfl rfl);clear hold hdep;go_simp;exact hK.out _ _ rfl (Below.refl _ _)
      ·intro a wx hB hold hdep K hK;have t54:=QAD wx (hdep 3 rfl _ 54 rfl rfl);clear hold hdep;go_simp;exact hK.out _ _ rfl (Below.refl _ _)
      ·intro a wx hB hold hdep K hK;have t55:=QAD wx (hdep 4 rfl _ 55 rfl rfl);obtain⟨g4,g5⟩:=HC.out;have q4:=(hB.cell (p:=⟨b,off+4,none⟩) HZ.out).trans g4;have q5:=(hB.cell (p:=⟨b,off+5,none⟩) HZ.out).trans g5;clear g4 g5;clear hold hdep;go_simp;exact hK.out _ _ rfl (Below.refl _ _)
      ·intro a wx hB hold hdep K hK;have t2:a.tmps[2]? = some (.pointer (some ⟨w.heap.size,0,none⟩)):=hold.2.2 2 rfl;clear hold hdep;go_simp;exact hK.out _ _ rfl (Below.refl _ _)
      ·intro a wx hB hold hdep K hK;have t57:=QAD wx (hdep 6 rfl _ 57 rfl rfl);clear hold hdep;go_simp;exact hK.out _ _ rfl (Below.refl _ _)
      ·intro a wx hB hold hdep K hK;have t58:=QAD wx (hdep 7 rfl _ 58 rfl rfl);obtain⟨k0,k1,k2',k3,k4,k5,k6⟩:=QAQ (QAB hB HBP.out);clear hold hdep;go_simp;exact hK.out _ _ rfl (Below.refl _ _)
      ·intro a wx hB hold hdep K hK;have t56:=QAD wx (hdep 5 rfl _ 56 rfl rfl);have t59:=QAD wx (hdep 8 rfl _ 59 rfl rfl);clear hold hdep;go_simp;refine (HW1.out wx hB).mono ?_;rintro e w1 ⟨rfl,hb⟩;exact hK.out _ _ rfl hb
      ·intro a wx hB hold hdep K hK;have t60:=QAD wx (hdep 9 rfl _ 60 rfl rfl);clear hold hdep;go_simp;exact hK.out _ _ rfl (Below.refl _ _)
      ·intro a wx hB hold hdep K hK;have t61:=QAD wx (hdep 10 rfl _ 61 rfl rfl);clear hold hdep;go_simp;exact hK.out _ _ rfl (Below.refl _ _)
      ·intro a wx hB hold hdep K hK;have t62:=QAD wx (hdep 11 rfl _ 62 rfl rfl);have t2:a.tmps[2]? = some (.pointer (some ⟨w.heap.size,0,none⟩)):=hold.2.2 2 rfl;clear hold hdep;go_simp;exact hK.out _ _ rfl (Below.refl _ _)
      ·intro a wx hB hold hdep K hK;have t62:=QAD wx (hdep 11 rfl _ 62 rfl rfl);have t63:=QAD wx (hdep 12 rfl _ 63 rfl rfl);obtain⟨k0,k1,k2',k3,k4,k5,k6⟩:=QAQ (QAB hB HBP.out);clear hold hdep;go_simp;exact hK.out _ _ rfl (Below.refl _ _)
      ·intro a wx hB hold hdep K hK;have t62:=QAD wx (hdep 11 rfl _ 62 rfl rfl);have t64:=QAD wx (hdep 13 rfl _ 64 rfl rfl);clear hold hdep;go_simp;exact hK.out _ _ rfl (Below.refl _ _)
      ·intro a wx hB hold hdep K hK;have t62:=QAD wx (hdep 11 rfl _ 62 rfl rfl);have t65:=QAD wx (hdep 14 rfl _ 65 rfl rfl);clear hold hdep;go_simp;exact hK.out _ _ rfl (Below.refl _ _)
      ·intro a wx hB hold hdep K hK;have t62:=QAD wx (hdep 11 rfl _ 62 rfl rfl);have t66:=QAD wx (hdep 15 rfl _ 66 rfl rfl);clear hold hdep;go_simp;exact hK.out _ _ rfl (Below.refl _ _)
      ·intro a wx hB hold hdep K hK;have t62:=QAD wx (hdep 11 rfl _ 62 rfl rfl);have t67:=QAD wx (hdep 16 rfl _ 67 rfl rfl);obtain⟨g4,g5⟩:=HC.out;have q4:=(hB.cell (p:=⟨b,off+4,none⟩) HZ.out).trans g4;have q5:=(hB.cell (p:=⟨b,off+5,none⟩) HZ.out).trans g5;clear g4 g5;clear hold hdep;go_simp;exact hK.out _ _ rfl (Below.refl _ _)
      ·intro a wx hB hold hdep K hK;have t62:=QAD wx (hdep 11 rfl _ 62 rfl rfl);have t2:a.tmps[2]? = some (.pointer (some ⟨w.heap.size,0,none⟩)):=hold.2.2 2 rfl;clear hold hdep;go_simp;exact hK.out _ _ rfl (Below.refl _ _)
      ·intro a wx hB hold hdep K hK;have t62:=QAD wx (hdep 11 rfl _ 62 rfl rfl);have t69:=QAD wx (hdep 18 rfl _ 69 rfl rfl);clear hold hdep;go_simp;exact hK.out _ _ rfl (Below.refl _ _)
      ·intro a wx hB hold hdep K hK;have t62:=QAD wx (hdep 11 rfl _ 62 rfl rfl);have t70:=QAD wx (hdep 19 rfl _ 70 rfl rfl);obtain⟨k0,k1,k2',k3,k4,k5,k6⟩:=QAQ (QAB hB HBP.out);clear hold hdep;go_simp;exact hK.out _ _ rfl (Below.refl _ _)
      ·intro a wx hB hold hdep K hK;have t62:=QAD wx (hdep 11 rfl _ 62 rfl rfl);have t68:=QAD wx (hdep 17 rfl _ 68 rfl rfl);have t71:=QAD wx (hdep 20 rfl _ 71 rfl rfl);clear hold hdep;go_simp;refine (HW2.out wx hB).mono ?_;rintro e w1 ⟨rfl,hb⟩;exact hK.out _ _ rfl hb
      ·intro a wx hB hold hdep K hK;have t62:=QAD wx (hdep 11 rfl _ 62 rfl rfl);have t72:=QAD wx (hdep 21 rfl _ 72 rfl rfl);clear hold hdep;go_simp;exact hK.out _ _ rfl (Below.refl _ _)
      ·intro a wx hB hold hdep K hK;have t62:=QAD wx (hdep 11 rfl _ 62 rfl rfl);have t73:=QAD wx (hdep 22 rfl _ 73 rfl rfl);clear hold hdep;go_simp;exact hK.out _ _ rfl (Below.refl _ _)
     ·intro a wx hB hold hgot
      (obtain⟨v74,t74,p74⟩:=hgot 23 _ 74 rfl rfl;have e74:v74=(.bool false):=p74;subst e74;obtain⟨tm,df⟩:=a;obtain⟨ys,hys,htm,rfl⟩:=QBn 51 24 (by kernel_rfl) (Nat.le_of_ble_eq_true rfl) hold;obtain⟨x51,x52,x53,x54,x55,x56,x57,x58,x59,x60,x61,x62,x63,x64,x65,x66,x67,x68,x69,x70,x71,x72,x73,x74,rfl⟩:=QFg ys hys;simp only [List.take_succ_cons,List.take_zero,List.drop_succ_cons,List.drop_zero,List.cons_append,List.nil_append] at htm;subst htm;obtain rfl:x74=_:=QCq t74;clear hys hold hgot t74 p74;have B2:=QAC BW.out hB;go_wp2_with fail;go_ret;(exact⟨by rw [HT0.out];rfl,B2⟩))
set_option maxRecDepth 20000 in
set_option maxHeartbeats 16000000 in
theorem QJk (i:Bool) (p:Pf) (HA0:Hid (p.lawT≠QBd)) (hsm:SmallP p) (v:Value) (w:World) (hv:PRep w p v) :
  Calls Tryz.prog 68 #[v,.bool i] w fun e w'=>e = .returned (.int .i64 (QAg i p))∧Below w.heap.size w w':=by
 obtain⟨a,⟨k,n,kf⟩,l,r,ks⟩:=p;have HW0:Hid (a.data.toList≠QBd):=HA0.out;clear HA0;obtain⟨hl3,hr3,hk3,hsk⟩:=hsm.parts;obtain⟨sf,cf,al,cl,ar,cr,sl,cap,rfl,ha,hf,hl,hr,hkc,hcm,hks⟩:=hv.parts;(have HF:Hid (Rep w (fun _=>True) (.mk k n kf) _):=hf);have HL:Hid (FL w (.slice al l.length cl) l):=hl;have HR:Hid (FL w (.slice ar r.length cr) r):=hr;have HK:Hid (ks≠[]→∃ b off,sl=some ⟨b,off,none⟩∧PReps w b off ks):=hks;have HSK:Hid (∀ k∈ks,SmallP k):=hsk;(have hkI:(ks.length:Int)≤1200:=by omega);(have hrI:(r.length:Int)≤300:=by omega);obtain⟨T,hT⟩:∃ T,T=QAg i (.mk a (.mk k n kf) l r ks):=⟨_,rfl⟩;rw [← hT];have HT:Hid (T=QAg i (.mk a (.mk k n kf) l r ks)):=hT;obtain⟨O,hO⟩:∃ O,O=Obj.cells #[.string a,.int .i64 k,.string n,.slice sf kf.length cf,.slice al l.length cl,.slice ar r.length cr,.slice sl ks.length cap] 31 (0,0):=⟨_,rfl⟩;have p1:(w.alloc O).heap[w.heap.size]? = some O:=QAG w O;rw [hO] at p1;have P1:Hid ((w.alloc (.cells #[.string a,.int .i64 k,.string n,.slice sf kf.length cf,.slice al l.length cl,.slice ar r.length cr,.slice sl ks.length cap] 31 (0,0))).heap[w.heap.size]? = some _):=p1;have B0:=QAA (Below.refl _ w) (.cells #[.string a,.int .i64 k,.string n,.slice sf kf.length cf,.slice al l.length cl,.slice ar r.length cr,.slice sl ks.length cap] 31 (0,0));(have hsq:=fun wx (hb:Below w.heap.size w wx)=>QDT l r (by omega) (by omega) _ _ wx (HL.out.up hb) (HR.out.up hb));(have HS0:Hid ((QAx l r).1≠0→T=5):=fun h=>by rw [HT.out,QAg,if_pos (Or.inl h)]);(have HS1:Hid (i=true→1 < r.length→T=5):=fun h1 h2=>by rw [HT.out,QAg,if_pos (Or.inr ⟨h1,h2⟩)])
 have HS2:Hid ((QAx l r).1=0→¬ (i=true∧1 < r.length)→T=if a.data.toList=QBd then QBx (.mk k n kf) l r ks else match QAp i a.data.toList with
   | none=>4
   | some q=>if (Fm.mk k n kf).pcode.1≠0 then 5 else match QBP i q (.mk k n kf) l r with
    | none=>7
    | some ss=>if ks.length≠ss.length then 9 else QAo ks ss):=fun h1 h2=>by
  (rw [HT.out,QAg,if_neg (fun e=>e.elim (fun e=>e h1) h2)]);rfl
 generalize QAx l r=sq at *;obtain⟨s1,s2⟩:=sq;have HSQ:Hid (∀ wx,Below w.heap.size w wx→Calls Tryz.prog 76 _ wx _):=hsq;(have hfc:=fun a b w=>QCO a b w);clear hf hl hr hks hsk hv hsm hT hsq p1 hO
 go_enter Tryz.func68,Tryz.ntmps68
 go_upto_region 1 with fail
 go_cut [26] from 12 to 26 (fun v wc=>∃ c,v = .bool c∧Hid (c=true→T=5)∧Hid (c=false→T=if a.data.toList=QBd then QBx (.mk k n kf) l r ks else match QAp i a.data.toList with
   | none=>4
   | some q=>if (Fm.mk k n kf).pcode.1≠0 then 5 else match QBP i q (.mk k n kf) l r with
    | none=>7
    | some ss=>if ks.length≠ss.length then 9 else QAo ks ss)∧Hid (Below w.heap.size w wc)∧Hid (wc.heap[w.heap.size]? = some (.cells #[.string a,.int .i64 k,.string n,.slice sf kf.length cf,.slice al l.length cl,.slice ar r.length cr,.slice sl ks.length cap] 31 (0,0))))
 case first =>
  go_wp2_with fail;refine (HSQ.out _ B0).mono ?_;rintro e w1 ⟨rfl,hb1⟩;have B1:=QAC B0 hb1;have Q1:Hid (w1.heap[w.heap.size]? = some _):=QAB hb1 P1.out;obtain⟨j0,j1,j2,j3,j4,j5,j6⟩:=QAQ Q1.out;clear hb1 P1 B0 HSQ;by_cases hs1:s1=0
  case neg =>
   (have hsJ:(s1 != 0)=true:=by simpa using hs1);have H5:Hid (T=5):=HS0.out hs1;go_wp2_with fail;go_meet;(exact⟨true,rfl,fun _=>H5.out,(fun h=>nomatch h),B1,Q1.out⟩)
  subst hs1
  cases i
  ·have HN:=HS2.out rfl (fun h=>nomatch h.1)
   go_wp2_with fail;go_meet;(exact⟨false,rfl,(fun h=>nomatch h),fun _=>HN,B1,Q1.out⟩)
  ·by_cases h1:1 < r.length
   ·have h1I:(1:Int) < (r.length:Int):=by omega
    have H5:Hid (T=5):=HS1.out rfl h1;go_wp2_with fail;go_meet;(exact⟨true,rfl,fun _=>H5.out,(fun h=>nomatch h),B1,Q1.out⟩)
   ·have h1I:¬ (1:Int) < (r.length:Int):=by omega
    (have HN:=HS2.out rfl (fun h=>h1 h.2));go_wp2_with fail;go_meet;(exact⟨false,by rw [decide_eq_false (show ¬ (1:Int) < (r.length:Int) by omega)],(fun h=>nomatch h),fun _=>HN,B1,Q1.out⟩)
 obtain⟨cc,rfl,H5,HN,B1,Q1⟩:=hcut;clear HS0 HS1 HS2 HSQ P1 B0;obtain⟨w1,hw1⟩:∃ x,x=wc:=⟨_,rfl⟩;subst hw1;have B1:=B1.out;obtain⟨j0,j1,j2,j3,j4,j5,j6⟩:=QAQ Q1.out
 cases cc
 case true =>
  have H6:Hid (T=5):=H5.out rfl;clear H5 HN;go_wp2_with fail;go_ret;(exact⟨by rw [H6.out];rfl,B1⟩)
 have HTT:=HN.out rfl;clear HN H5;have hw:=HW0.out;clear HW0
 ·rw [if_neg hw] at HTT
  (have hwj:(a.toList == ([119,101,97,107]:List UInt8))=false:=by rw [ByteArray.toList_eq];simpa [QBd] using hw)
  have HT1:Hid (T=match QAp i a.data.toList with
   | none=>4
   | some q=>if (Fm.mk k n kf).pcode.1≠0 then 5 else match QBP i q (.mk k n kf) l r with
    | none=>7
    | some ss=>if ks.length≠ss.length then 9 else QAo ks ss):=HTT
  (have HPR0:Hid (∀ wx,Below w.heap.size w wx→Calls Tryz.prog 113 #[.string a,.agg #[.int .i64 0,.string ⟨#[]⟩,.slice none 0 0],.agg #[.slice al l.length cl,.slice ar r.length cr],.bool i] wx fun e w'=>∃ x ss is ok,e = .returned (.tuple #[x,.bool is,.bool ok])∧SQs w' x ss∧PremSpec i a.data.toList QCy l r ss is ok∧Below wx.heap.size wx w'):=fun wx hb=>QEx i a QCy l r hl3 hr3 _ _ _ wx (Rep.leaf (by simp [maxLen,ByteArray.size])) (HL.out.up hb) (HR.out.up hb));(have HPR1:Hid (∀ wx,Below w.heap.size w wx→Calls Tryz.prog 113 #[.string a,.agg #[.int .i64 k,.string n,.slice sf kf.length cf],.agg #[.slice al l.length cl,.slice ar r.length cr],.bool i] wx fun e w'=>∃ x ss is ok,e = .returned (.tuple #[x,.bool is,.bool ok])∧SQs w' x ss∧PremSpec i a.data.toList (.mk k n kf) l r ss is ok∧Below wx.heap.size wx w'):=fun wx hb=>QEx i a (.mk k n kf) l r hl3 hr3 _ _ _ wx (HF.out.up hb) (HL.out.up hb) (HR.out.up hb));(have hpl:=fun v (w:World) h=>QEM [.mk k n kf] (by simp) v w h);rw [QEL] at hpl;(have HFI:Hid ((Fm.mk k n kf).pcode.1=0→Fine (.mk k n kf)):=fun h=>(QHB h).1);generalize (Fm.mk k n kf).pcode=pc at *;obtain⟨pc1,pc2⟩:=pc;have HPF:Hid (∀ v w,FL w v [.mk k n kf]→Calls Tryz.prog 20 #[v] w _):=hpl;clear HTT hw HT hpl
  all_goals
   go_wp2_with fail;refine (HPR0.out _ B1).mono ?_;rintro e w2 ⟨x2,ss2,is2,ok2,rfl,hsq2,hps2,hb2⟩;have B2:=QAC B1 hb2;have Q2:Hid (w2.heap[w.heap.size]? = some _):=QAB hb2 Q1.out;obtain⟨ad2,cp2,rfl,-,-⟩:=hsq2.len2;have HPS2:Hid (PremSpec i _ _ _ _ _ _ _):=hps2;clear j0 j1 j2 j3 j4 j5 j6 hb2 hsq2 hps2 HPR0;obtain⟨j0,j1,j2,j3,j4,j5,j6⟩:=QAQ Q2.out
   cases is2
   ·have H4:Hid (T=4):=by
     show _=_;rw [HT1.out,HPS2.out.no]
    clear HPS2;go_wp2_with fail;go_ret;(exact⟨by rw [H4.out];rfl,B2⟩)
   obtain⟨q,hq,hqt,-,-⟩:=HPS2.out.yes;have HQT:Hid (q.text=a.data.toList):=hqt;have HT2:=HT1.out;rw [hq] at HT2
   have HT3:Hid (T=if (pc1,pc2).1≠0 then 5 else match QBP i q (.mk k n kf) l r with
    | none=>7
    | some ss=>if ks.length≠ss.length then 9 else QAo ks ss):=HT2
   clear HT2 HT1 hq hqt HPS2;go_wp2_with fail;refine (HPF.out _ _ (FL.sing (QAG w2 _) ((HF.out.up B2).more _))).mono ?_;rintro e w3 ⟨rfl,hb3⟩;have B3:=QAC (QAA B2 _) hb3;have Q3:Hid (w3.heap[w.heap.size]? = some _):=QAB hb3 (QAF Q2.out _);clear j0 j1 j2 j3 j4 j5 j6 hb3;obtain⟨j0,j1,j2,j3,j4,j5,j6⟩:=QAQ Q3.out;by_cases hp:pc1=0
   case neg =>
    (have hpJ:(pc1 != 0)=true:=by simpa using hp);(have hif:(if (pc1,pc2).1=0 then ((0:Int),(0:Int)) else (pc1,pc2))=(pc1,pc2):=if_neg hp);rw [hif]
    have H5:Hid (T=5):=by
     show _=_;rw [HT3.out,if_pos (show (pc1,pc2).1≠0 from hp)]
    clear hif hp;go_wp2_with fail;go_ret;(exact⟨by rw [H5.out];rfl,B3⟩)
   subst hp;(have hif:(if ((0:Int),pc2).1=0 then ((0:Int),(0:Int)) else (0,pc2))=(0,0):=if_pos rfl);rw [hif];have hfine:=HFI.out rfl;have HT4:=HT3.out;(rw [if_neg (show ¬ ((0:Int),pc2).1≠0 from fun h=>h rfl),QJi _ q _ hfine] at HT4)
   have HT5:Hid (T=match (if QAz q (.mk k n kf) l r then some (QAb i q (.mk k n kf) l r) else none) with
    | none=>7
    | some ss=>if ks.length≠ss.length then 9 else QAo ks ss):=HT4
   clear HT4 HT3 hif hfine HFI HPF;go_wp2_with fail;refine (HPR1.out _ B3).mono ?_;rintro e w4 ⟨x4,ss,is4,ok4,rfl,hsq4,hps4,hb4⟩;have B4:=QAC B3 hb4;have Q4:Hid (w4.heap[w.heap.size]? = some _):=QAB hb4 Q3.out;obtain⟨ads,cps,rfl,hsc,hsmx⟩:=hsq4.len2
   have hspec:ss=QAb i q (.mk k n kf) l r∧ok4=QAz q (.mk k n kf) l r:=by
    rcases hps4 with ⟨q',hqt',h1,-,h2⟩|⟨hno,-⟩
    ·have e:q'=q:=Option.some.inj ((QDS q').symm.trans (by rw [hqt',← HQT.out];exact QDS q))
     rw [← e];exact⟨h1,h2⟩
    ·exact absurd HQT.out (hno q)
   have HT6:=HT5.out;rw [← hspec.1,← hspec.2] at HT6;(have hss2:ss.length≤2:=by rw [hspec.1];exact QIP _ _ _ _ _)
   have HSS:Hid (∀ s∈ss,s.1.length≤302∧s.2.length≤302):=by
    show ∀ s∈ss,_;rw [hspec.1];exact QGL _ _ _ _ _ hl3 hr3
   have HT7:Hid (T=match (if ok4 then some ss else none) with
    | none=>7
    | some ss=>if ks.length≠ss.length then 9 else QAo ks ss):=HT6
   have HSQ4:Hid (SQs w4 (.slice ads ss.length cps) ss):=hsq4;clear j0 j1 j2 j3 j4 j5 j6 hb4 hsq4 hps4 hspec HT6 HT5 HPR1 HQT hsmx;obtain⟨j0,j1,j2,j3,j4,j5,j6⟩:=QAQ Q4.out;(have hssI:(ss.length:Int)≤2:=by omega)
   cases ok4
   ·have H7:Hid (T=7):=HT7.out
    clear HT7;go_wp2_with fail;go_ret;(exact⟨by rw [H7.out];rfl,B4⟩)
   (have HT8:Hid (T=if ks.length≠ss.length then 9 else QAo ks ss):=HT7.out);clear HT7;by_cases hlen:ks.length=ss.length
   case neg =>
    (have hlJ:((ks.length:Int) != (ss.length:Int))=true:=by simp;omega)
    have H9:Hid (T=9):=by
     show _=_;rw [HT8.out,if_pos hlen]
    clear hlen HT8;go_wp2_with fail;go_ret;(exact⟨by rw [H9.out];rfl,B4⟩)
   (have hlJ:((ks.length:Int) != (ss.length:Int))=false:=by simp;omega)
   have HT9:Hid (T=QAo (ks.drop 0) (ss.drop 0)):=by
    show _=_;(rw [HT8.out,if_neg (fun h=>h hlen)]);rfl
   have HLE:Hid (ks.length=ss.length):=hlen;have HB4:Hid (Below w.heap.size w w4):=B4;clear hlen HT8 B1 B2 B3 B4;go_wp2_with fail;clear j0 j1 j2 j3 j4 j5 j6 hlJ
   go_loopg [11] ss.length (fun g c wr=>∃ j,j≤ss.length∧g=ss.length - j∧c = .int .i64 (j:Nat)∧Hid (Below w4.heap.size w4 wr)∧Hid (T=QAo (ks.drop j) (ss.drop j)))
   case atStart=>exact⟨0,by omega,by omega,rfl,Below.refl _ _,HT9⟩
   case round =>
    obtain⟨j,hj,hg,rfl,HBr,HTj⟩:=hrel;have HG:Hid (gk=ss.length - j):=hg;clear hg HT9;have BR:Hid (Below w.heap.size w wr):=QAC HB4.out HBr.out;by_cases hlt:j < ss.length
    ·obtain⟨⟨S1,S2⟩,hsj⟩:∃ s,ss[j]? = some s:=⟨_,List.getElem?_eq_getElem hlt⟩
     (obtain⟨⟨ka,⟨kk,kn,kkf⟩,kl,kr,kks⟩,hkj⟩:∃ s,ks[j]? = some s:=⟨_,List.getElem?_eq_getElem (by have:=HLE.out;omega)⟩);(have hltI:(j:Int) < (ss.length:Int):=by omega);(have hltK:(j:Int) < (ks.length:Int):=by have:=HLE.out;omega);(have hlcK:(j:Int) < (cap:Int):=by omega);(have hlcS:(j:Int) < (cps:Int):=by omega);(obtain⟨b,off,rfl,hrs⟩:=HK.out (fun e=>by rw [e] at hkj;simp at hkj));obtain⟨hkl3,hkr3,-,-⟩:=(HSK.out _ (List.mem_of_getElem? hkj)).parts;obtain⟨sf2,cf2,al2,cl2,ar2,cr2,sl2,cap2,x0,x1,x2,x3,x4,x5,x6,hrep⟩:=(PReps.up BR.out b off ks hrs).at j ka kk kn kkf kl kr kks hkj;obtain⟨_,_,_,_,_,_,_,_,hpe,-,-,hkl,hkr,-⟩:=hrep.parts;simp only [Value.agg.injEq,Array.mk.injEq,List.cons.injEq,Value.slice.injEq,and_true,true_and] at hpe;obtain⟨⟨rfl,rfl⟩,⟨rfl,rfl⟩,⟨rfl,rfl⟩,⟨rfl,rfl⟩⟩:=hpe;obtain⟨_,_,hve,-,-,hsq5⟩:=HSQ4.out;simp only [Value.slice.injEq,true_and] at hve;obtain⟨rfl,rfl⟩:=hve;(obtain⟨bs,os,rfl,hall⟩:=hsq5 (fun e=>by rw [e] at hlt;simp at hlt));obtain⟨vl,vr,c0,c1,hfl,hfr⟩:=hall j (S1,S2) hsj;have hS3:=HSS.out _ (List.mem_of_getElem? hsj);have hfl':=hfl;have hfr':=hfr;obtain⟨av,cv,rfl,-⟩:=hfl';obtain⟨au,cu,rfl,-⟩:=hfr';have HZ:Hid (b < wr.heap.size):=QAI x4;have HC:Hid (wr.cell? ⟨b,off+j * 7+4,none⟩=some (.slice al2 kl.length cl2)∧wr.cell? ⟨b,off+j * 7+5,none⟩=some (.slice ar2 kr.length cr2)):=⟨x4,x5⟩;have HZS:Hid (bs < wr.heap.size):=Nat.lt_of_lt_of_le (QAI c0) HBr.out.size;have HCS:Hid (wr.cell? ⟨bs,os+j * 2,none⟩=some (.slice av S1.length cv)∧wr.cell? ⟨bs,os+j * 2+1,none⟩=some (.slice au S2.length cu)):=⟨(HBr.out.cell (p:=⟨bs,os+j * 2,none⟩) (QAI c0)).trans c0,(HBr.out.cell (p:=⟨bs,os+j * 2+1,none⟩) (QAI c1)).trans c1⟩;(have HW1':Hid (∀ wx,Below wr.heap.size wr wx→Calls Tryz.prog 39 #[.slice av S1.length cv,.slice al2 kl.length cl2] wx fun e w'=>e = .returned (.bool (QBk S1 kl))∧Below wx.heap.size wx w'):=fun wx hb=>QHb S1 kl (by have:S1.length≤302:=hS3.1;omega) (by omega) _ _ wx (hfl.up (QAC HBr.out hb)) (hkl.up hb));(have HW2':Hid (∀ wx,Below wr.heap.size wr wx→Calls Tryz.prog 39 #[.slice au S2.length cu,.slice ar2 kr.length cr2] wx fun e w'=>e = .returned (.bool (QBk S2 kr))∧Below wx.heap.size wx w'):=fun wx hb=>QHb S2 kr (by have:S2.length≤302:=hS3.2;omega) (by omega) _ _ wx (hfr.up (QAC HBr.out hb)) (hkr.up hb));have HTk:=HTj.out;rw [QIy hkj hsj] at HTk;(have HTk2:Hid (T=if QBk kl S1 && QBk kr S2 then QAo (ks.drop (j+1)) (ss.drop (j+1)) else 7):=HTk);rw [QEl kl S1,QEl kr S2] at HTk2;generalize QBk S1 kl=e1 at *;generalize QBk S2 kr=e2 at *;have HBP:Hid (wr.heap[w.heap.size]? = some _):=QAB HBr.out Q4.out;clear hsj hkj hrs hrep hkl hkr hall c0 c1 hfl hfr hS3 HTk HTj HSQ4 HK HSS HSK x0 x1 x2 x3 x4 x5 x6 hsq5 HL HR
     cases e1
     ·have HW1:Hid (∀ wx,Below wr.heap.size wr wx→Calls Tryz.prog 39 #[.slice av S1.length cv,.slice al2 kl.length cl2] wx fun e w'=>e = .returned (.bool false)∧Below wx.heap.size wx w'):=HW1'
      have HT7:Hid (T=7):=HTk2.out;clear HW1' HW2' HTk2;go_wp2_with fail;(refine QAK (by kernel_rfl) [kEq (.slice (some ⟨bs,os,none⟩) ss.length cps),kEq (.int .i64 (j:Nat)),kEq (.pointer (some ⟨bs,os+j * 2,none⟩)),kEq (.pointer (some ⟨bs,os+j * 2,none⟩)),kEq (.slice av S1.length cv),kEq (.pointer (some ⟨w.heap.size,6,none⟩)),kEq (.slice (some ⟨b,off,none⟩) ks.length cap),kEq (.int .i64 (j:Nat)),kEq (.pointer (some ⟨b,off+j * 7,none⟩)),kEq (.pointer (some ⟨b,off+j * 7+4,none⟩)),kEq (.pointer (some ⟨b,off+j * 7+4,none⟩)),kEq (.slice al2 kl.length cl2),kEq (.bool false),kEq (.bool true),kEq (.bool true),QBl,QBl,QBl,QBl,QBl,QBl,QBl,QBl,QBl,QBl,QBl,QBl,QBl,QBl,kEq (.bool true)] ?_ (by kernel_rfl) (by kernel_rfl) 150 rfl (by kernel_rfl) ?_ ?_)
      ·intro p hp
       simp only [List.mem_cons,List.not_mem_nil,or_false] at hp
       rcases hp with rfl|rfl|rfl|rfl|rfl|rfl|rfl|rfl|rfl|rfl|rfl|rfl|rfl|rfl|rfl|rfl|rfl|rfl|rfl|rfl|rfl|rfl|rfl|rfl|rfl|rfl|rfl|rfl|rfl|rfl
       all_goals first|exact QAN _|exact QBg
      ·refine⟨?_,?_,?_,?_,?_,?_,?_,?_,?_,?_,?_,?_,?_,?_,?_,?_,?_,?_,?_,?_,?_,?_,?_,?_,?_,?_,?_,?_,?_,?_,trivial⟩
       ·intro a wx hB hold hdep K hK;have t8:a.tmps[8]? = some (.slice (some ⟨bs,os,none⟩) ss.length cps):=hold.2.2 8 rfl;clear hold hdep;go_simp;exact hK.out _ _ rfl (Below.refl _ _)
       ·intro a wx hB hold hdep K hK;have t11:a.tmps[11]? = some (.int .i64 (j:Nat)):=hold.2.2 11 rfl;clear hold hdep;go_simp;exact hK.out _ _ rfl (Below.refl _ _)
       ·intro a wx hB hold hdep K hK;have t120:=QAD wx (hdep 0 rfl _ 120 rfl rfl);have t121:=QAD wx (hdep 1 rfl _ 121 rfl rfl);clear hold hdep;go_simp;exact hK.out _ _ rfl (Below.refl _ _)
       ·intro a wx hB hold hdep K hK;have t122:=QAD wx (hdep 2 rfl _ 122 rfl rfl);clear hold hdep;go_simp;exact hK.out _ _ rfl (Below.refl _ _)
       ·intro a wx hB hold hdep K hK;have t123:=QAD wx (hdep 3 rfl _ 123 rfl rfl);obtain⟨g0,g1⟩:=HCS.out;have q0:=(hB.cell (p:=⟨bs,os+j * 2,none⟩) HZS.out).trans g0;have q1:=(hB.cell (p:=⟨bs,os+j * 2+1,none⟩) HZS.out).trans g1;clear g0 g1;clear hold hdep;go_simp;exact hK.out _ _ rfl (Below.refl _ _)
       ·intro a wx hB hold hdep K hK;have t2:a.tmps[2]? = some (.pointer (some ⟨w.heap.size,0,none⟩)):=hold.2.2 2 rfl;clear hold hdep;go_simp;exact hK.out _ _ rfl (Below.refl _ _)
       ·intro a wx hB hold hdep K hK;have t125:=QAD wx (hdep 5 rfl _ 125 rfl rfl);obtain⟨k0,k1,k2',k3,k4,k5,k6⟩:=QAQ (QAB hB HBP.out);clear hold hdep;go_simp;exact hK.out _ _ rfl (Below.refl _ _)
       ·intro a wx hB hold hdep K hK;have t11:a.tmps[11]? = some (.int .i64 (j:Nat)):=hold.2.2 11 rfl;clear hold hdep;go_simp;exact hK.out _ _ rfl (Below.refl _ _)
       ·intro a wx hB hold hdep K hK;have t126:=QAD wx (hdep 6 rfl _ 126 rfl rfl);have t127:=QAD wx (hdep 7 rfl _ 127 rfl rfl);clear hold hdep;go_simp;exact hK.out _ _ rfl (Below.refl _ _)
       ·intro a wx hB hold hdep K hK;have t128:=QAD wx (hdep 8 rfl _ 128 rfl rfl);clear hold hdep;go_simp;exact hK.out _ _ rfl (Below.refl _ _)
       ·intro a wx hB hold hdep K hK;have t129:=QAD wx (hdep 9 rfl _ 129 rfl rfl);clear hold hdep;go_simp;exact hK.out _ _ rfl (Below.refl _ _)
       ·intro a wx hB hold hdep K hK;have t130:=QAD wx (hdep 10 rfl _ 130 rfl rfl);obtain⟨g4,g5⟩:=HC.out;have q4:=(hB.cell (p:=⟨b,off+j * 7+4,none⟩) HZ.out).trans g4;have q5:=(hB.cell (p:=⟨b,off+j * 7+5,none⟩) HZ.out).trans g5;clear g4 g5;clear hold hdep;go_simp;exact hK.out _ _ rfl (Below.refl _ _)
       ·intro a wx hB hold hdep K hK;have t124:=QAD wx (hdep 4 rfl _ 124 rfl rfl);have t131:=QAD wx (hdep 11 rfl _ 131 rfl rfl);clear hold hdep;go_simp;refine (HW1.out wx hB).mono ?_;rintro e w1 ⟨rfl,hb⟩;exact hK.out _ _ rfl hb
       ·intro a wx hB hold hdep K hK;have t132:=QAD wx (hdep 12 rfl _ 132 rfl rfl);clear hold hdep;go_simp;exact hK.out _ _ rfl (Below.refl _ _)
       ·intro a wx hB hold hdep K hK;have t133:=QAD wx (hdep 13 rfl _ 133 rfl rfl);clear hold hdep;go_simp;exact hK.out _ _ rfl (Below.refl _ _)
       iterate 14 (· intro a wx hB hold hdep K hK;have t134:=QAD wx (hdep 14 rfl _ 134 rfl rfl);clear hold hdep;go_simp;exact hK.out _ _ trivial (Below.refl _ _))
       ·intro a wx hB hold hdep K hK;have t134:=QAD wx (hdep 14 rfl _ 134 rfl rfl);clear hold hdep;go_simp;exact hK.out _ _ rfl (Below.refl _ _)
      ·intro a wx hB hold hgot
       (obtain⟨v149,t149,p149⟩:=hgot 29 _ 149 rfl rfl;have e149:v149=(.bool true):=p149;subst e149;obtain⟨tm,df⟩:=a;obtain⟨ys,hys,htm,rfl⟩:=QBn 120 30 (by kernel_rfl) (Nat.le_of_ble_eq_true rfl) hold;obtain⟨x120,x121,x122,x123,x124,x125,x126,x127,x128,x129,x130,x131,x132,x133,x134,x135,x136,x137,x138,x139,x140,x141,x142,x143,x144,x145,x146,x147,x148,x149,rfl⟩:=QFh ys hys;simp only [List.take_succ_cons,List.take_zero,List.drop_succ_cons,List.drop_zero,List.cons_append,List.nil_append] at htm;subst htm;obtain rfl:x149=_:=QCq t149;clear hys hold hgot t149 p149;have B2:=QAC BR.out hB;go_wp2_with fail;go_ret;(exact⟨by rw [HT7.out];rfl,B2⟩))
     ·have HW1:Hid (∀ wx,Below wr.heap.size wr wx→Calls Tryz.prog 39 #[.slice av S1.length cv,.slice al2 kl.length cl2] wx fun e w'=>e = .returned (.bool true)∧Below wx.heap.size wx w'):=HW1'
      cases e2
      ·have HW2:Hid (∀ wx,Below wr.heap.size wr wx→Calls Tryz.prog 39 #[.slice au S2.length cu,.slice ar2 kr.length cr2] wx fun e w'=>e = .returned (.bool false)∧Below wx.heap.size wx w'):=HW2'
       have HT7:Hid (T=7):=HTk2.out;clear HW1' HW2' HTk2;go_wp2_with fail;(refine QAK (by kernel_rfl) [kEq (.slice (some ⟨bs,os,none⟩) ss.length cps),kEq (.int .i64 (j:Nat)),kEq (.pointer (some ⟨bs,os+j * 2,none⟩)),kEq (.pointer (some ⟨bs,os+j * 2,none⟩)),kEq (.slice av S1.length cv),kEq (.pointer (some ⟨w.heap.size,6,none⟩)),kEq (.slice (some ⟨b,off,none⟩) ks.length cap),kEq (.int .i64 (j:Nat)),kEq (.pointer (some ⟨b,off+j * 7,none⟩)),kEq (.pointer (some ⟨b,off+j * 7+4,none⟩)),kEq (.pointer (some ⟨b,off+j * 7+4,none⟩)),kEq (.slice al2 kl.length cl2),kEq (.bool true),kEq (.bool false),kEq (.bool false),kEq (.slice (some ⟨bs,os,none⟩) ss.length cps),kEq (.int .i64 (j:Nat)),kEq (.pointer (some ⟨bs,os+j * 2,none⟩)),kEq (.pointer (some ⟨bs,os+j * 2+1,none⟩)),kEq (.slice au S2.length cu),kEq (.pointer (some ⟨w.heap.size,6,none⟩)),kEq (.slice (some ⟨b,off,none⟩) ks.length cap),kEq (.int .i64 (j:Nat)),kEq (.pointer (some ⟨b,off+j * 7,none⟩)),kEq (.pointer (some ⟨b,off+j * 7+4,none⟩)),kEq (.pointer (some ⟨b,off+j * 7+5,none⟩)),kEq (.slice ar2 kr.length cr2),kEq (.bool false),kEq (.bool true),kEq (.bool true)] ?_ (by kernel_rfl) (by kernel_rfl) 150 rfl (by kernel_rfl) ?_ ?_)
       ·intro p hp
        simp only [List.mem_cons,List.not_mem_nil,or_false] at hp
        rcases hp with rfl|rfl|rfl|rfl|rfl|rfl|rfl|rfl|rfl|rfl|rfl|rfl|rfl|rfl|rfl|rfl|rfl|rfl|rfl|rfl|rfl|rfl|rfl|rfl|rfl|rfl|rfl|rfl|rfl|rfl
        all_goals first|exact QAN _|exact QBg
       ·refine⟨?_,?_,?_,?_,?_,?_,?_,?_,?_,?_,?_,?_,?_,?_,?_,?_,?_,?_,?_,?_,?_,?_,?_,?_,?_,?_,?_,?_,?_,?_,trivial⟩
        ·intro a wx hB hold hdep K hK;have t8:a.tmps[8]? = some (.slice (some ⟨bs,os,none⟩) ss.length cps):=hold.2.2 8 rfl;clear hold hdep;go_simp;exact hK.out _ _ rfl (Below.refl _ _)
        ·intro a wx hB hold hdep K hK;have t11:a.tmps[11]? = some (.int .i64 (j:Nat)):=hold.2.2 11 rfl;clear hold hdep;go_simp;exact hK.out _ _ rfl (Below.refl _ _)
        ·intro a wx hB hold hdep K hK;have t120:=QAD wx (hdep 0 rfl _ 120 rfl rfl);have t121:=QAD wx (hdep 1 rfl _ 121 rfl rfl);clear hold hdep;go_simp;exact hK.out _ _ rfl (Below.refl _ _)
        ·intro a wx hB hold hdep K hK;have t122:=QAD wx (hdep 2 rfl _ 122 rfl rfl);clear hold hdep;go_simp;exact hK.out _ _ rfl (Below.refl _ _)
        ·intro a wx hB hold hdep K hK;have t123:=QAD wx (hdep 3 rfl _ 123 rfl rfl);obtain⟨g0,g1⟩:=HCS.out;have q0:=(hB.cell (p:=⟨bs,os+j * 2,none⟩) HZS.out).trans g0;have q1:=(hB.cell (p:=⟨bs,os+j * 2+1,none⟩) HZS.out).trans g1;clear g0 g1;clear hold hdep;go_simp;exact hK.out _ _ rfl (Below.refl _ _)
        ·intro a wx hB hold hdep K hK;have t2:a.tmps[2]? = some (.pointer (some ⟨w.heap.size,0,none⟩)):=hold.2.2 2 rfl;clear hold hdep;go_simp;exact hK.out _ _ rfl (Below.refl _ _)
        ·intro a wx hB hold hdep K hK;have t125:=QAD wx (hdep 5 rfl _ 125 rfl rfl);obtain⟨k0,k1,k2',k3,k4,k5,k6⟩:=QAQ (QAB hB HBP.out);clear hold hdep;go_simp;exact hK.out _ _ rfl (Below.refl _ _)
        ·intro a wx hB hold hdep K hK;have t11:a.tmps[11]? = some (.int .i64 (j:Nat)):=hold.2.2 11 rfl;clear hold hdep;go_simp;exact hK.out _ _ rfl (Below.refl _ _)
        ·intro a wx hB hold hdep K hK;have t126:=QAD wx (hdep 6 rfl _ 126 rfl rfl);have t127:=QAD wx (hdep 7 rfl _ 127 rfl rfl);clear hold hdep;go_simp;exact hK.out _ _ rfl (Below.refl _ _)
        ·intro a wx hB hold hdep K hK;have t128:=QAD wx (hdep 8 rfl _ 128 rfl rfl);clear hold hdep;go_simp;exact hK.out _ _ rfl (Below.refl _ _)
        ·intro a wx hB hold hdep K hK;have t129:=QAD wx (hdep 9 rfl _ 129 rfl rfl);clear hold hdep;go_simp;exact hK.out _ _ rfl (Below.refl _ _)
        ·intro a wx hB hold hdep K hK;have t130:=QAD wx (hdep 10 rfl _ 130 rfl rfl);obtain⟨g4,g5⟩:=HC.out;have q4:=(hB.cell (p:=⟨b,off+j * 7+4,none⟩) HZ.out).trans g4;have q5:=(hB.cell (p:=⟨b,off+j * 7+5,none⟩) HZ.out).trans g5;clear g4 g5;clear hold hdep;go_simp;exact hK.out _ _ rfl (Below.refl _ _)
        ·intro a wx hB hold hdep K hK;have t124:=QAD wx (hdep 4 rfl _ 124 rfl rfl);have t131:=QAD wx (hdep 11 rfl _ 131 rfl rfl);clear hold hdep;go_simp;refine (HW1.out wx hB).mono ?_;rintro e w1 ⟨rfl,hb⟩;exact hK.out _ _ rfl hb
        ·intro a wx hB hold hdep K hK;have t132:=QAD wx (hdep 12 rfl _ 132 rfl rfl);clear hold hdep;go_simp;exact hK.out _ _ rfl (Below.refl _ _)
        ·intro a wx hB hold hdep K hK;have t133:=QAD wx (hdep 13 rfl _ 133 rfl rfl);clear hold hdep;go_simp;exact hK.out _ _ rfl (Below.refl _ _)
        ·intro a wx hB hold hdep K hK;have t134:=QAD wx (hdep 14 rfl _ 134 rfl rfl);have t8:a.tmps[8]? = some (.slice (some ⟨bs,os,none⟩) ss.length cps):=hold.2.2 8 rfl;clear hold hdep;go_simp;exact hK.out _ _ rfl (Below.refl _ _)
        ·intro a wx hB hold hdep K hK;have t134:=QAD wx (hdep 14 rfl _ 134 rfl rfl);have t11:a.tmps[11]? = some (.int .i64 (j:Nat)):=hold.2.2 11 rfl;clear hold hdep;go_simp;exact hK.out _ _ rfl (Below.refl _ _)
        ·intro a wx hB hold hdep K hK;have t134:=QAD wx (hdep 14 rfl _ 134 rfl rfl);have t135:=QAD wx (hdep 15 rfl _ 135 rfl rfl);have t136:=QAD wx (hdep 16 rfl _ 136 rfl rfl);clear hold hdep;go_simp;exact hK.out _ _ rfl (Below.refl _ _)
        ·intro a wx hB hold hdep K hK;have t134:=QAD wx (hdep 14 rfl _ 134 rfl rfl);have t137:=QAD wx (hdep 17 rfl _ 137 rfl rfl);clear hold hdep;go_simp;exact hK.out _ _ rfl (Below.refl _ _)
        ·intro a wx hB hold hdep K hK;have t134:=QAD wx (hdep 14 rfl _ 134 rfl rfl);have t138:=QAD wx (hdep 18 rfl _ 138 rfl rfl);obtain⟨g0,g1⟩:=HCS.out;have q0:=(hB.cell (p:=⟨bs,os+j * 2,none⟩) HZS.out).trans g0;have q1:=(hB.cell (p:=⟨bs,os+j * 2+1,none⟩) HZS.out).trans g1;clear g0 g1;clear hold hdep;go_simp;exact hK.out _ _ rfl (Below.refl _ _)
        ·intro a wx hB hold hdep K hK;have t134:=QAD wx (hdep 14 rfl _ 134 rfl rfl);have t2:a.tmps[2]? = some (.pointer (some ⟨w.heap.size,0,none⟩)):=hold.2.2 2 rfl;clear hold hdep;go_simp;exact hK.out _ _ rfl (Below.refl _ _)
        ·intro a wx hB hold hdep K hK;have t134:=QAD wx (hdep 14 rfl _ 134 rfl rfl);have t140:=QAD wx (hdep 20 rfl _ 140 rfl rfl);obtain⟨k0,k1,k2',k3,k4,k5,k6⟩:=QAQ (QAB hB HBP.out);clear hold hdep;go_simp;exact hK.out _ _ rfl (Below.refl _ _)
        ·intro a wx hB hold hdep K hK;have t134:=QAD wx (hdep 14 rfl _ 134 rfl rfl);have t11:a.tmps[11]? = some (.int .i64 (j:Nat)):=hold.2.2 11 rfl;clear hold hdep;go_simp;exact hK.out _ _ rfl (Below.refl _ _)
        ·intro a wx hB hold hdep K hK;have t134:=QAD wx (hdep 14 rfl _ 134 rfl rfl);have t141:=QAD wx (hdep 21 rfl _ 141 rfl rfl);have t142:=QAD wx (hdep 22 rfl _ 142 rfl rfl);clear hold hdep;go_simp;exact hK.out _ _ rfl (Below.refl _ _)
        ·intro a wx hB hold hdep K hK;have t134:=QAD wx (hdep 14 rfl _ 134 rfl rfl);have t143:=QAD wx (hdep 23 rfl _ 143 rfl rfl);clear hold hdep;go_simp;exact hK.out _ _ rfl (Below.refl _ _)
        ·intro a wx hB hold hdep K hK;have t134:=QAD wx (hdep 14 rfl _ 134 rfl rfl);have t144:=QAD wx (hdep 24 rfl _ 144 rfl rfl);clear hold hdep;go_simp;exact hK.out _ _ rfl (Below.refl _ _)
        ·intro a wx hB hold hdep K hK;have t134:=QAD wx (hdep 14 rfl _ 134 rfl rfl);have t145:=QAD wx (hdep 25 rfl _ 145 rfl rfl);obtain⟨g4,g5⟩:=HC.out;have q4:=(hB.cell (p:=⟨b,off+j * 7+4,none⟩) HZ.out).trans g4;have q5:=(hB.cell (p:=⟨b,off+j * 7+5,none⟩) HZ.out).trans g5;clear g4 g5;clear hold hdep;go_simp;exact hK.out _ _ rfl (Below.refl _ _)
        ·intro a wx hB hold hdep K hK;have t134:=QAD wx (hdep 14 rfl _ 134 rfl rfl);have t139:=QAD wx (hdep 19 rfl _ 139 rfl rfl);have t146:=QAD wx (hdep 26 rfl _ 146 rfl rfl);clear hold hdep;go_simp;refine (HW2.out wx hB).mono ?_;rintro e w1 ⟨rfl,hb⟩;exact hK.out _ _ rfl hb
        ·intro a wx hB hold hdep K hK;have t134:=QAD wx (hdep 14 rfl _ 134 rfl rfl);have t147:=QAD wx (hdep 27 rfl _ 147 rfl rfl);clear hold hdep;go_simp;exact hK.out _ _ rfl (Below.refl _ _)
        ·intro a wx hB hold hdep K hK;have t134:=QAD wx (hdep 14 rfl _ 134 rfl rfl);have t148:=QAD wx (hdep 28 rfl _ 148 rfl rfl);clear hold hdep;go_simp;exact hK.out _ _ rfl (Below.refl _ _)
       ·intro a wx hB hold hgot
        (obtain⟨v149,t149,p149⟩:=hgot 29 _ 149 rfl rfl;have e149:v149=(.bool true):=p149;subst e149;obtain⟨tm,df⟩:=a;obtain⟨ys,hys,htm,rfl⟩:=QBn 120 30 (by kernel_rfl) (Nat.le_of_ble_eq_true rfl) hold;obtain⟨x120,x121,x122,x123,x124,x125,x126,x127,x128,x129,x130,x131,x132,x133,x134,x135,x136,x137,x138,x139,x140,x141,x142,x143,x144,x145,x146,x147,x148,x149,rfl⟩:=QFh ys hys;simp only [List.take_succ_cons,List.take_zero,List.drop_succ_cons,List.drop_zero,List.cons_append,List.nil_append] at htm;subst htm;obtain rfl:x149=_:=QCq t149;clear hys hold hgot t149 p149;have B2:=QAC BR.out hB;go_wp2_with fail;go_ret;(exact⟨by rw [HT7.out];rfl,B2⟩))
      ·have HW2:Hid (∀ wx,Below wr.heap.size wr wx→Calls Tryz.prog 39 #[.slice au S2.length cu,.slice ar2 kr.length cr2] wx fun e w'=>e = .returned (.bool true)∧Below wx.heap.size wx w'):=HW2'
       have HNX:Hid (T=QAo (ks.drop (j+1)) (ss.drop (j+1))):=HTk2.out;clear HW1' HW2' HTk2;go_wp2_with fail;(refine QAK (by kernel_rfl) [kEq (.slice (some ⟨bs,os,none⟩) ss.length cps),kEq (.int .i64 (j:Nat)),kEq (.pointer (some ⟨bs,os+j * 2,none⟩)),kEq (.pointer (some ⟨bs,os+j * 2,none⟩)),kEq (.slice av S1.length cv),kEq (.pointer (some ⟨w.heap.size,6,none⟩)),kEq (.slice (some ⟨b,off,none⟩) ks.length cap),kEq (.int .i64 (j:Nat)),kEq (.pointer (some ⟨b,off+j * 7,none⟩)),kEq (.pointer (some ⟨b,off+j * 7+4,none⟩)),kEq (.pointer (some ⟨b,off+j * 7+4,none⟩)),kEq (.slice al2 kl.length cl2),kEq (.bool true),kEq (.bool false),kEq (.bool false),kEq (.slice (some ⟨bs,os,none⟩) ss.length cps),kEq (.int .i64 (j:Nat)),kEq (.pointer (some ⟨bs,os+j * 2,none⟩)),kEq (.pointer (some ⟨bs,os+j * 2+1,none⟩)),kEq (.slice au S2.length cu),kEq (.pointer (some ⟨w.heap.size,6,none⟩)),kEq (.slice (some ⟨b,off,none⟩) ks.length cap),kEq (.int .i64 (j:Nat)),kEq (.pointer (some ⟨b,off+j * 7,none⟩)),kEq (.pointer (some ⟨b,off+j * 7+4,none⟩)),kEq (.pointer (some ⟨b,off+j * 7+5,none⟩)),kEq (.slice ar2 kr.length cr2),kEq (.bool true),kEq (.bool false),kEq (.bool false)] ?_ (by kernel_rfl) (by kernel_rfl) 150 rfl (by kernel_rfl) ?_ ?_)
       ·intro p hp
        simp only [List.mem_cons,List.not_mem_nil,or_false] at hp
        rcases hp with rfl|rfl|rfl|rfl|rfl|rfl|rfl|rfl|rfl|rfl|rfl|rfl|rfl|rfl|rfl|rfl|rfl|rfl|rfl|rfl|rfl|rfl|rfl|rfl|rfl|rfl|rfl|rfl|rfl|rfl
        all_goals first|exact QAN _|exact QBg
       ·refine⟨?_,?_,?_,?_,?_,?_,?_,?_,?_,?_,?_,?_,?_,?_,?_,?_,?_,?_,?_,?_,?_,?_,?_,?_,?_,?_,?_,?_,?_,?_,trivial⟩
        ·intro a wx hB hold hdep K hK;have t8:a.tmps[8]? = some (.slice (some ⟨bs,os,none⟩) ss.length cps):=hold.2.2 8 rfl;clear hold hdep;go_simp;exact hK.out _ _ rfl (Below.refl _ _)
        ·intro a wx hB hold hdep K hK;have t11:a.tmps[11]? = some (.int .i64 (j:Nat)):=hold.2.2 11 rfl;clear hold hdep;go_simp;exact hK.out _ _ rfl (Below.refl _ _)
        ·intro a wx hB hold hdep K hK;have t120:=QAD wx (hdep 0 rfl _ 120 rfl rfl);have t121:=QAD wx (hdep 1 rfl _ 121 rfl rfl);clear hold hdep;go_simp;exact hK.out _ _ rfl (Below.refl _ _)
        ·intro a wx hB hold hdep K hK;have t122:=QAD wx (hdep 2 rfl _ 122 rfl rfl);clear hold hdep;go_simp;exact hK.out _ _ rfl (Below.refl _ _)
        ·intro a wx hB hold hdep K hK;have t123:=QAD wx (hdep 3 rfl _ 123 rfl rfl);obtain⟨g0,g1⟩:=HCS.out;have q0:=(hB.cell (p:=⟨bs,os+j * 2,none⟩) HZS.out).trans g0;have q1:=(hB.cell (p:=⟨bs,os+j * 2+1,none⟩) HZS.out).trans g1;clear g0 g1;clear hold hdep;go_simp;exact hK.out _ _ rfl (Below.refl _ _)
        ·intro a wx hB hold hdep K hK;have t2:a.tmps[2]? = some (.pointer (some ⟨w.heap.size,0,none⟩)):=hold.2.2 2 rfl;clear hold hdep;go_simp;exact hK.out _ _ rfl (Below.refl _ _)
        ·intro a wx hB hold hdep K hK;have t125:=QAD wx (hdep 5 rfl _ 125 rfl rfl);obtain⟨k0,k1,k2',k3,k4,k5,k6⟩:=QAQ (QAB hB HBP.out);clear hold hdep;go_simp;exact hK.out _ _ rfl (Below.refl _ _)
        ·intro a wx hB hold hdep K hK;have t11:a.tmps[11]? = some (.int .i64 (j:Nat)):=hold.2.2 11 rfl;clear hold hdep;go_simp;exact hK.out _ _ rfl (Below.refl _ _)
        ·intro a wx hB hold hdep K hK;have t126:=QAD wx (hdep 6 rfl _ 126 rfl rfl);have t127:=QAD wx (hdep 7 rfl _ 127 rfl rfl);clear hold hdep;go_simp;exact hK.out _ _ rfl (Below.refl _ _)
        ·intro a wx hB hold hdep K hK;have t128:=QAD wx (hdep 8 rfl _ 128 rfl rfl);clear hold hdep;go_simp;exact hK.out _ _ rfl (Below.refl _ _)
        ·intro a wx hB hold hdep K hK;have t129:=QAD wx (hdep 9 rfl _ 129 rfl rfl);clear hold hdep;go_simp;exact hK.out _ _ rfl (Below.refl _ _)
        ·intro a wx hB hold hdep K hK;have t130:=QAD wx (hdep 10 rfl _ 130 rfl rfl);obtain⟨g4,g5⟩:=HC.out;have q4:=(hB.cell (p:=⟨b,off+j * 7+4,none⟩) HZ.out).trans g4;have q5:=(hB.cell (p:=⟨b,off+j * 7+5,none⟩) HZ.out).trans g5;clear g4 g5;clear hold hdep;go_simp;exact hK.out _ _ rfl (Below.refl _ _)
        ·intro a wx hB hold hdep K hK;have t124:=QAD wx (hdep 4 rfl _ 124 rfl rfl);have t131:=QAD wx (hdep 11 rfl _ 131 rfl rfl);clear hold hdep;go_simp;refine (HW1.out wx hB).mono ?_;rintro e w1 ⟨rfl,hb⟩;exact hK.out _ _ rfl hb
        ·intro a wx hB hold hdep K hK;have t132:=QAD wx (hdep 12 rfl _ 132 rfl rfl);clear hold hdep;go_simp;exact hK.out _ _ rfl (Below.refl _ _)
        ·intro a wx hB hold hdep K hK;have t133:=QAD wx (hdep 13 rfl _ 133 rfl rfl);clear hold hdep;go_simp;exact hK.out _ _ rfl (Below.refl _ _)
        ·intro a wx hB hold hdep K hK;have t134:=QAD wx (hdep 14 rfl _ 134 rfl rfl);have t8:a.tmps[8]? = some (.slice (some ⟨bs,os,none⟩) ss.length cps):=hold.2.2 8 rfl;clear hold hdep;go_simp;exact hK.out _ _ rfl (Below.refl _ _)
        ·intro a wx hB hold hdep K hK;have t134:=QAD wx (hdep 14 rfl _ 134 rfl rfl);have t11:a.tmps[11]? = some (.int .i64 (j:Nat)):=hold.2.2 11 rfl;clear hold hdep;go_simp;exact hK.out _ _ rfl (Below.refl _ _)
        ·intro a wx hB hold hdep K hK;have t134:=QAD wx (hdep 14 rfl _ 134 rfl rfl);have t135:=QAD wx (hdep 15 rfl _ 135 rfl rfl);have t136:=QAD wx (hdep 16 rfl _ 136 rfl rfl);clear hold hdep;go_simp;exact hK.out _ _ rfl (Below.refl _ _)
        ·intro a wx hB hold hdep K hK;have t134:=QAD wx (hdep 14 rfl _ 134 rfl rfl);have t137:=QAD wx (hdep 17 rfl _ 137 rfl rfl);clear hold hdep;go_simp;exact hK.out _ _ rfl (Below.refl _ _)
        ·intro a wx hB hold hdep K hK;have t134:=QAD wx (hdep 14 rfl _ 134 rfl rfl);have t138:=QAD wx (hdep 18 rfl _ 138 rfl rfl);obtain⟨g0,g1⟩:=HCS.out;have q0:=(hB.cell (p:=⟨bs,os+j * 2,none⟩) HZS.out).trans g0;have q1:=(hB.cell (p:=⟨bs,os+j * 2+1,none⟩) HZS.out).trans g1;clear g0 g1;clear hold hdep;go_simp;exact hK.out _ _ rfl (Below.refl _ _)
        ·intro a wx hB hold hdep K hK;have t134:=QAD wx (hdep 14 rfl _ 134 rfl rfl);have t2:a.tmps[2]? = some (.pointer (some ⟨w.heap.size,0,none⟩)):=hold.2.2 2 rfl;clear hold hdep;go_simp;exact hK.out _ _ rfl (Below.refl _ _)
        ·intro a wx hB hold hdep K hK;have t134:=QAD wx (hdep 14 rfl _ 134 rfl rfl);have t140:=QAD wx (hdep 20 rfl _ 140 rfl rfl);obtain⟨k0,k1,k2',k3,k4,k5,k6⟩:=QAQ (QAB hB HBP.out);clear hold hdep;go_simp;exact hK.out _ _ rfl (Below.refl _ _)
        ·intro a wx hB hold hdep K hK;have t134:=QAD wx (hdep 14 rfl _ 134 rfl rfl);have t11:a.tmps[11]? = some (.int .i64 (j:Nat)):=hold.2.2 11 rfl;clear hold hdep;go_simp;exact hK.out _ _ rfl (Below.refl _ _)
        ·intro a wx hB hold hdep K hK;have t134:=QAD wx (hdep 14 rfl _ 134 rfl rfl);have t141:=QAD wx (hdep 21 rfl _ 141 rfl rfl);have t142:=QAD wx (hdep 22 rfl _ 142 rfl rfl);clear hold hdep;go_simp;exact hK.out _ _ rfl (Below.refl _ _)
        ·intro a wx hB hold hdep K hK;have t134:=QAD wx (hdep 14 rfl _ 134 rfl rfl);have t143:=QAD wx (hdep 23 rfl _ 143 rfl rfl);clear hold hdep;go_simp;exact hK.out _ _ rfl (Below.refl _ _)
        ·intro a wx hB hold hdep K hK;have t134:=QAD wx (hdep 14 rfl _ 134 rfl rfl);have t144:=QAD wx (hdep 24 rfl _ 144 rfl rfl);clear hold hdep;go_simp;exact hK.out _ _ rfl (Below.refl _ _)
        ·intro a wx hB hold hdep K hK;have t134:=QAD wx (hdep 14 rfl _ 134 rfl rfl);have t145:=QAD wx (hdep 25 rfl _ 145 rfl rfl);obtain⟨g4,g5⟩:=HC.out;have q4:=(hB.cell (p:=⟨b,off+j * 7+4,none⟩) HZ.out).trans g4;have q5:=(hB.cell (p:=⟨b,off+j * 7+5,none⟩) HZ.out).trans g5;clear g4 g5;clear hold hdep;go_simp;exact hK.out _ _ rfl (Below.refl _ _)
        ·intro a wx hB hold hdep K hK;have t134:=QAD wx (hdep 14 rfl _ 134 rfl rfl);have t139:=QAD wx (hdep 19 rfl _ 139 rfl rfl);have t146:=QAD wx (hdep 26 rfl _ 146 rfl rfl);clear hold hdep;go_simp;refine (HW2.out wx hB).mono ?_;rintro e w1 ⟨rfl,hb⟩;exact hK.out _ _ rfl hb
        ·intro a wx hB hold hdep K hK;have t134:=QAD wx (hdep 14 rfl _ 134 rfl rfl);have t147:=QAD wx (hdep 27 rfl _ 147 rfl rfl);clear hold hdep;go_simp;exact hK.out _ _ rfl (Below.refl _ _)
        ·intro a wx hB hold hdep K hK;have t134:=QAD wx (hdep 14 rfl _ 134 rfl rfl);have t148:=QAD wx (hdep 28 rfl _ 148 rfl rfl);clear hold hdep;go_simp;exact hK.out _ _ rfl (Below.refl _ _)
       ·intro a wx hB hold hgot
        (obtain⟨v149,t149,p149⟩:=hgot 29 _ 149 rfl rfl;have e149:v149=(.bool false):=p149;subst e149;obtain⟨tm,df⟩:=a;obtain⟨ys,hys,htm,rfl⟩:=QBn 120 30 (by kernel_rfl) (Nat.le_of_ble_eq_true rfl) hold;obtain⟨x120,x121,x122,x123,x124,x125,x126,x127,x128,x129,x130,x131,x132,x133,x134,x135,x136,x137,x138,x139,x140,x141,x142,x143,x144,x145,x146,x147,x148,x149,rfl⟩:=QFh ys hys;simp only [List.take_succ_cons,List.take_zero,List.drop_succ_cons,List.drop_zero,List.cons_append,List.nil_append] at htm;subst htm;obtain rfl:x149=_:=QCq t149;clear hys hold hgot t149 p149;have B2:=QAC HBr.out hB;go_wp2_with fail;go_roundg (ss.length - (j+1)))
        case measure=>have:=HG.out;omega
        case rel=>exact⟨j+1,by omega,rfl,by go_num,B2,HNX⟩
    ·have hge:¬ (j:Int) < (ss.length:Int):=by omega
     have H0:Hid (T=0):=by
      have:=HTj.out;(rw [List.drop_of_length_le (by have:=HLE.out;omega)] at this);(rw [show QAo [] (ss.drop j)=0 by cases ss.drop j <;> rfl] at this);exact this
     clear HTj;go_wp2_with fail;go_ret;(exact⟨by rw [H0.out];rfl,BR.out⟩)
theorem QIZ (i:Bool) (p:Pf) (hsm:SmallP p) (v:Value) (w:World) (hv:PRep w p v) :
  Calls Tryz.prog 68 #[v,.bool i] w fun e w'=>e = .returned (.int .i64 (QAg i p))∧Below w.heap.size w w':=by
 by_cases h:p.lawT=QBd
 ·exact QJl i p h hsm v w hv
 ·exact QJk i p h hsm v w hv
mutual
theorem QDa (i:Bool):∀ (p:Pf) (d s c:Nat) (M:List (Pf × Nat)),QBZ i (p.nodesD d++M) s=if (QAf i p d s c).1.1≠0 then (QAf i p d s c).1 else QBZ i M (QAf i p d s c).2.1
 | .mk a f l r ks,d,s,c,M=>by
  rw [Pf.nodesD,List.cons_append,QBZ,QEF];by_cases h1:s=20000∨400 < d
  ·rw [if_pos h1,if_pos h1]
   rfl
  ·rw [if_neg h1,if_neg h1]
   by_cases h2:QAg i (.mk a f l r ks)≠0
   ·rw [if_pos h2,if_pos h2,if_pos h2]
   ·rw [if_neg h2,if_neg h2]
    exact looks_scan i ks (d+1) (s+1) _ M
theorem looks_scan (i:Bool):∀ (ks:List Pf) (d s c:Nat) (M:List (Pf × Nat)),QBZ i (Pf.nodesDL ks d++M) s=if (looks i ks d s c).1.1≠0 then (looks i ks d s c).1 else QBZ i M (looks i ks d s c).2.1
 | [],d,s,c,M=>by
  rw [Pf.nodesDL,looks,List.nil_append]
  rfl
 | k :: ks,d,s,c,M=>by
  rw [Pf.nodesDL,List.append_assoc,QDa i k d s c,looks];by_cases h:(QAf i k d s c).1.1≠0
  ·rw [if_pos h,if_pos h,if_pos h]
  ·rw [if_neg h,if_neg h]
   exact looks_scan i ks d _ _ M
end
theorem QIV (i:Bool) (p:Pf):QBZ i (p.stepsL 1 20001) 0=((QAf i p 1 0 0).1.1,if (QAf i p 1 0 0).1.1≠0 then (QAf i p 1 0 0).1.2 else 0):=by
 (rw [QHN (QCh p 1 20001) (by omega) (by omega)]);have h:=QDa i p 1 0 0 [];rw [List.append_nil] at h;rw [h]
 split
 ·rfl
 ·rename_i hn
  (have:(QAf i p 1 0 0).1.1=0:=Classical.byContradiction fun e=>hn e);rw [this,QBZ]
mutual
theorem QDU:∀ (p:Pf) (d m:Nat),SmallP p→∀ x∈p.stepsL d m,SmallP x.1
 | .mk a f l r ks,d,m,h,x,hx=>by
  rw [Pf.stepsL] at hx
  rcases List.mem_cons.1 hx with rfl|hx
  ·exact h
  ·exact stepsLs_small ks d m 1 h.parts.2.2.2 x hx
theorem stepsLs_small:∀ (ks:List Pf) (d m n:Nat),(∀ k∈ks,SmallP k)→∀ x∈Pf.stepsLs ks d m n,SmallP x.1
 | [],d,m,n,_,x,hx=>by rw [Pf.stepsLs] at hx;cases hx
 | k :: ks,d,m,n,h,x,hx=>by
  rw [Pf.stepsLs] at hx
  split at hx
  ·rcases List.mem_append.1 hx with hx|hx
   ·exact QDU k _ _ (h k List.mem_cons_self) x hx
   ·exact stepsLs_small ks _ _ _ (fun y hy=>h y (List.mem_cons_of_mem _ hy)) x hx
  ·cases hx
end
mutual
theorem QDm:∀ (p:Pf) (d m:Nat),d≤402→∀ x∈p.stepsL d m,x.2≤403
 | .mk a f l r ks,d,m,h,x,hx=>by
  rw [Pf.stepsL] at hx
  rcases List.mem_cons.1 hx with rfl|hx
  ·show d≤403;omega
  ·exact stepsLs_deep ks d m 1 x hx
theorem stepsLs_deep:∀ (ks:List Pf) (d m n:Nat),∀ x∈Pf.stepsLs ks d m n,x.2≤403
 | [],d,m,n,x,hx=>by rw [Pf.stepsLs] at hx;cases hx
 | k :: ks,d,m,n,x,hx=>by
  rw [Pf.stepsLs] at hx
  split at hx
  ·rename_i h
   rcases List.mem_append.1 hx with hx|hx
   ·exact QDm k _ _ (by omega) x hx
   ·exact stepsLs_deep ks _ _ _ x hx
  ·cases hx
end
theorem QIU {i:Bool} {L:List (Pf × Nat)} {j:Nat} {x:Pf × Nat} (h:L[j]? = some x):QBZ i (L.drop j) j=if j=20000∨400 < x.2 then (2,0) else if QAg i x.1≠0 then (QAg i x.1,((j:Nat):Int)) else QBZ i (L.drop (j+1)) (j+1):=by
 have hi:=(List.getElem?_eq_some_iff.1 h).1;rw [List.drop_eq_getElem_cons hi,QBZ];rw [List.getElem?_eq_getElem hi] at h;rw [Option.some.inj h]
set_option maxRecDepth 10000 in
set_option maxHeartbeats 8000000 in
theorem QEO (i:Bool) (p:Pf) (hsm:SmallP p) (v:Value) (w:World) (hv:PRep w p v) :
  Calls Tryz.prog 27 #[v,.bool i] w fun e w'=>e = .returned (.agg #[.int .i64 (QBZ i (p.stepsL 1 20001) 0).1,.int .i64 (QBZ i (p.stepsL 1 20001) 0).2])∧Below w.heap.size w w':=by
 have HV:Hid (PRep w p v):=hv;(have hst:=fun wx (hb:Below w.heap.size w wx)=>QDG wx.heap.size (p.size+1) p v wx 1 20001 (Nat.lt_succ_self _) hsm (by omega) (by omega) (Nat.le_refl _) (PRep.low _ _ (PRep.up hb _ _ hv)));have HSM:Hid (∀ x∈p.stepsL 1 20001,SmallP x.1):=QDU p 1 20001 hsm;(have HDP:Hid (∀ x∈p.stepsL 1 20001,x.2≤403):=QDm p 1 20001 (by omega));have hlen:=(QCS p 1 20001).1;generalize p.stepsL 1 20001=L at *;obtain⟨T,hT⟩:∃ T,T=QBZ i L 0:=⟨_,rfl⟩;rw [← hT];have HT0:Hid (T=QBZ i (L.drop 0) 0):=hT;obtain⟨a,⟨k,n,kf⟩,l,r,ks⟩:=p;obtain⟨sf,cf,al,cl,ar,cr,sl,cap,rfl,-⟩:=hv.parts;(have HST:Hid (∀ wx,Below w.heap.size w wx→Calls Tryz.prog 28 _ wx fun e w'=>∃ ad cp ad' cp',e = .returned (.tuple #[.slice ad L.length cp,.slice ad' L.length cp'])∧KF (· < wx.heap.size) wx.heap.size w' ad cp (L.map Prod.fst)∧KD wx.heap.size w' ad' cp' (L.map Prod.snd)∧Below wx.heap.size wx w'):=hst);(have hLI:(L.length:Int)≤20002:=by omega);have B0:=QAA (QAA (Below.refl _ w) (.cells #[.string a,.int .i64 k,.string n,.slice sf kf.length cf,.slice al l.length cl,.slice ar r.length cr,.slice sl ks.length cap] 31 (0,0))) (.cells #[.int .i64 0,.int .i64 0] 37 (0,0));have N1:Hid (_=_):=QAd w (.cells #[.string a,.int .i64 k,.string n,.slice sf kf.length cf,.slice al l.length cl,.slice ar r.length cr,.slice sl ks.length cap] 31 (0,0)) (.cells #[.int .i64 0,.int .i64 0] 37 (0,0));clear hv hst hT hlen hsm
 go_enter Tryz.func27,Tryz.ntmps27
 go_wp2_with fail;refine (HST.out _ B0).mono ?_;rintro e w1 ⟨ad,cp,ad',cp',rfl,hkf,hkd,hb1⟩;have B1:=QAC B0 hb1;have Q1:Hid (w1.heap[w.heap.size+1]? = some (.cells #[.int .i64 0,.int .i64 0] 37 (0,0))):=QAB hb1 N1.out
 have hkf':KF (fun _=>True) 0 w1 ad cp (L.map Prod.fst):=by
  obtain⟨cs,ho,hp⟩:=hkf.low (Nat.zero_le _);(exact⟨cs,ho,PQ.move (fun b _ h=>⟨rfl,trivial,h.2⟩) hp⟩)
 (obtain⟨hc1,hc2,hc3⟩:=hkf'.rep fun _ _=>trivial);rw [List.length_map] at hc1;(have HC3:Hid (L.map Prod.fst≠[]→∃ b off,ad=some ⟨b,off,none⟩∧True∧PRps (fun _=>True) w1 b off (L.map Prod.fst)):=hc3);(have hkd':w1.ownsRow 0 3 1 (.slice ad' (L.map Prod.snd).length cp') (L.map Prod.snd).length ((L.map Prod.snd).map fun d=>Value.int .i64 (d:Nat)):=hkd.low (Nat.zero_le _));rw [List.length_map] at hkd';(have HKD:Hid (0 < L.length→∃ g,ad'=some ⟨g,0,none⟩∧(∀ j u,((L.map Prod.snd).map fun d=>Value.int .i64 ((d:Nat):Int))[j]? = some u→w1.cell? ((⟨g,0,none⟩:Addr).add j)=some u)):=fun h=>QCp hkd' h)
 have hcD:L.length≤cp':=by
  rcases hkd'.2 with ⟨hv,h0⟩|⟨g,cap',cur,hv,-,-,h1,-⟩
  ·simp only [Value.slice.injEq] at hv
   omega
  ·simp only [Value.slice.injEq,true_and] at hv
   omega
 clear hkf hkf' hkd hkd' hc3 hb1 B0 HST N1;go_wp2_with fail
 go_loopg [7] L.length (fun gg c wr=>∃ j,j≤L.length∧gg=L.length - j∧c = .int .i64 (j:Nat)∧Hid (Below w1.heap.size w1 wr)∧Hid (T=QBZ i (L.drop j) j))
 case atStart=>exact⟨0,by omega,by omega,rfl,Below.refl _ _,HT0⟩
 case round =>
  obtain⟨j,hj,hg,rfl,HBr,HT⟩:=hrel;have HG:Hid (gk=L.length - j):=hg;clear hg HT0;have BR:=QAC B1 HBr.out;have QR:=QAB HBr.out Q1.out;have zr:=QAE QR;by_cases hlt:j < L.length
  ·obtain⟨⟨⟨ka,⟨kk,kn,kkf⟩,kl,kr,kks⟩,dj⟩,hki⟩:∃ f,L[j]? = some f:=⟨_,List.getElem?_eq_getElem hlt⟩
   (have hltI:(j:Int) < (L.length:Int):=by omega);(have hlc:(j:Int) < (cp:Int):=by omega);(have hld:(j:Int) < (cp':Int):=by omega);(obtain⟨b,off,rfl,-,hrs⟩:=HC3.out (fun e=>by rw [List.map_eq_nil_iff] at e;rw [e] at hlt;simp at hlt));(have hrs':PRps (fun _=>True) wr b off (L.map Prod.fst):=hrs.move trivial fun q hq hp=>⟨HBr.out.block q hq,hp⟩);(obtain⟨sf2,cf2,al2,cl2,ar2,cr2,sl2,cap2,y0,y1,y2,y3,y4,y5,y6,hrep2⟩:=hrs'.at j ka kk kn kkf kl kr kks (by rw [List.getElem?_map,hki];rfl));(obtain⟨gd,rfl,hdc⟩:=HKD.out (by omega));(have hd1:=hdc j (.int .i64 (dj:Nat)) (by rw [List.getElem?_map,List.getElem?_map,hki];rfl));rw [QAn,Nat.zero_add] at hd1;have d1:=(HBr.out.cell (p:=⟨gd,j,none⟩) (QAI hd1)).trans hd1;(have hdj:(dj:Int)≤403:=by have:=HDP.out _ (List.mem_of_getElem? hki);have:dj≤403:=this;omega);have hsc:=HT.out;rw [QIU hki] at hsc;(have hsr:=fun wx (hb:Below wr.heap.size wr wx)=>QIZ i (.mk ka (.mk kk kn kkf) kl kr kks) (HSM.out _ (List.mem_of_getElem? hki)) _ wx (PRep.up hb _ _ (PRp.rep _ _ hrep2)));generalize QAg i (.mk ka (.mk kk kn kkf) kl kr kks)=sc at *;have HSR:Hid (∀ wx,Below wr.heap.size wr wx→Calls Tryz.prog 68 _ wx _):=hsr;(have HSC:Hid (T=if j=20000∨400 < dj then (2,0) else if sc≠0 then (sc,((j:Nat):Int)) else QBZ i (L.drop (j+1)) (j+1)):=hsc);(have HF2:Hid (∀ w,Calls Tryz.prog 35 #[.int .i64 2,.int .i64 0] w _):=fun w=>QDO 2 0 w);(have HFc:Hid (∀ w,Calls Tryz.prog 35 #[.int .i64 sc,.int .i64 (j:Nat)] w _):=fun w=>QDO sc (j:Nat) w);have HQR:Hid (wr.heap[w.heap.size+1]? = some _):=QR;have HBR:Hid (Below w.heap.size w wr):=BR;clear hki hrs hrs' hrep2 hsc hsr HT HC3 HKD hdc hd1 HSM HDP QR BR HV;by_cases hs:j=20000∨400 < dj
   ·have H2:Hid (T=(2,0)):=by
     show _=_;rw [HSC.out,if_pos hs]
    clear HSC HSR HFc;by_cases hj2:j=20000
    ·have hjI:(j:Int)=20000:=by omega
     (have hjq:((j:Int) == 20000)=true:=by rw [hjI];rfl);clear hjI hj2 hs;go_wp2_with fail;refine (HF2.out _).mono ?_;rintro e w2 ⟨rfl,hb2⟩;have q2:=QAB hb2 HQR.out;obtain⟨z1,z2,z3,z4⟩:=QAU q2;clear y0 y1 y2 y3 y4 y5 y6;go_wp2_with fail;have f2:=QBB q2 (.int .i64 2) (.int .i64 0);(have b2:=((QAC HBR.out hb2).setCell (p:=⟨w.heap.size+1,0,none⟩) (by simp) (.int .i64 2)).setCell (p:=⟨w.heap.size+1,1,none⟩) (by simp) (.int .i64 0));generalize World.setCell _ _ _=F at f2 b2 ⊢;clear z1 z2 z3 z4;obtain⟨k1,k2,-⟩:=QAU f2;(exact bodyPost_ret (v := .agg #[.int .i64 2,.int .i64 0]) (by simp [results,Tryz.results27,go_sem,k1,k2]) rfl ⟨by rw [H2.out],b2⟩)
    ·have hjq:((j:Int) == 20000)=false:=by rw [beq_eq_false_iff_ne];omega
     (have hdq:(400:Int) < (dj:Int):=by omega);clear hj2 hs;go_wp2_with fail;refine (HF2.out _).mono ?_;rintro e w2 ⟨rfl,hb2⟩;have q2:=QAB hb2 HQR.out;obtain⟨z1,z2,z3,z4⟩:=QAU q2;clear y0 y1 y2 y3 y4 y5 y6;go_wp2_with fail;have f2:=QBB q2 (.int .i64 2) (.int .i64 0);(have b2:=((QAC HBR.out hb2).setCell (p:=⟨w.heap.size+1,0,none⟩) (by simp) (.int .i64 2)).setCell (p:=⟨w.heap.size+1,1,none⟩) (by simp) (.int .i64 0));generalize World.setCell _ _ _=F at f2 b2 ⊢;clear z1 z2 z3 z4;obtain⟨k1,k2,-⟩:=QAU f2;(exact bodyPost_ret (v := .agg #[.int .i64 2,.int .i64 0]) (by simp [results,Tryz.results27,go_sem,k1,k2]) rfl ⟨by rw [H2.out],b2⟩)
   ·have hjq:((j:Int) == 20000)=false:=by rw [beq_eq_false_iff_ne];omega
    (have hdq:¬ (400:Int) < (dj:Int):=by omega)
    have HS2:Hid (T=if sc≠0 then (sc,((j:Nat):Int)) else QBZ i (L.drop (j+1)) (j+1)):=by
     show _=_;rw [HSC.out,if_neg hs]
    clear HSC hs HF2;go_wp2_with fail;refine (HSR.out _ (Below.refl _ _)).mono ?_;rintro e w2 ⟨rfl,hb2⟩;have q2:Hid (w2.heap[w.heap.size+1]? = some _):=QAB hb2 HQR.out;have B2:Hid (Below w1.heap.size w1 w2):=QAC HBr.out hb2;have B3:Hid (Below w.heap.size w w2):=QAC HBR.out hb2;clear y0 y1 y2 y3 y4 y5 y6 d1 hb2;by_cases hz:sc=0
    ·subst hz
     have HT2:Hid (T=QBZ i (L.drop (j+1)) (j+1)):=by
      have:=HS2.out
      rwa [if_neg (fun h=>h rfl)] at this
     clear HS2;go_wp2_with fail
     go_roundg (L.length - (j+1))
     case measure=>have:=HG.out;omega
     case rel=>exact⟨j+1,by omega,rfl,by go_num,B2,HT2⟩
    ·have hzJ:(sc != 0)=true:=by simpa using hz
     have HT2:Hid (T=(sc,((j:Nat):Int))):=by
      have:=HS2.out
      rwa [if_pos hz] at this
     clear HS2 hz;go_wp2_with fail;refine (HFc.out _).mono ?_;rintro e w3 ⟨rfl,hb3⟩;have q3:=QAB hb3 q2.out;obtain⟨z1,z2,z3,z4⟩:=QAU q3;go_wp2_with fail;have f2:=QBB q3 (.int .i64 sc) (.int .i64 (j:Nat));(have b2:=((QAC B3.out hb3).setCell (p:=⟨w.heap.size+1,0,none⟩) (by simp) (.int .i64 sc)).setCell (p:=⟨w.heap.size+1,1,none⟩) (by simp) (.int .i64 (j:Nat)));generalize World.setCell _ _ _=F at f2 b2 ⊢;clear z1 z2 z3 z4;obtain⟨k1,k2,-⟩:=QAU f2;(exact bodyPost_ret (v := .agg #[.int .i64 sc,.int .i64 (j:Nat)]) (by simp [results,Tryz.results27,go_sem,k1,k2]) rfl ⟨by rw [HT2.out],b2⟩)
  ·have hge:¬ (j:Int) < (L.length:Int):=by omega
   have H0:Hid (T=(0,0)):=by
    have:=HT.out;(rw [List.drop_of_length_le (by omega),QBZ] at this);exact this
   obtain⟨z1,z2,z3,z4⟩:=QAU QR;clear HT HC3 HKD HSM HDP;go_wp2_with fail;have f2:=QBB QR (.int .i64 0) (.int .i64 0);(have b2:=(BR.setCell (p:=⟨w.heap.size+1,0,none⟩) (by simp) (.int .i64 0)).setCell (p:=⟨w.heap.size+1,1,none⟩) (by simp) (.int .i64 0));generalize World.setCell _ _ _=F at f2 b2 ⊢;clear z1 z2 z3 z4;obtain⟨k1,k2,-⟩:=QAU f2;(exact bodyPost_ret (v := .agg #[.int .i64 0,.int .i64 0]) (by simp [results,Tryz.results27,go_sem,k1,k2]) rfl ⟨by rw [H0.out],b2⟩)
def QBm:List UInt8:=[99,117,116]
def QCd (x:Pf × Nat) (m:Nat × Nat × Nat):Nat × Nat × Nat:=(m.1+1,max m.2.1 x.2,if x.1.rule.data.toList=QBm then max m.2.2 x.1.f.size else m.2.2)
def QAk:List (Pf × Nat)→Nat × Nat × Nat→Nat × Nat × Nat
 | [],m=>m
 | x :: xs,m=>QAk xs (QCd x m)
theorem QDP (xs ys:List (Pf × Nat)):∀ m,QAk (xs++ys) m=QAk ys (QAk xs m):=by
 induction xs with
 | nil=>intro m;rfl
 | cons x xs ih=>intro m;rw [List.cons_append,QAk,QAk,ih]
theorem QEo (xs:List (Pf × Nat)):∀ m,(QAk xs m).1=m.1+xs.length:=by
 induction xs with
 | nil=>intro m;rfl
 | cons x xs ih=>intro m;rw [QAk,ih,QCd,List.length_cons];omega
theorem QEI (xs:List (Pf × Nat)):∀ m N,m.2.1≤N→(∀ x∈xs,x.2≤N)→(QAk xs m).2.1≤N:=by
 induction xs with
 | nil=>intro m N h _;exact h
 | cons x xs ih =>
  intro m N h hx;rw [QAk];(refine ih _ N ?_ fun y hy=>hx y (by simp [hy]));(have:=hx x (by simp));show max m.2.1 x.2≤N;omega
theorem QEJ (xs:List (Pf × Nat)):∀ m N,m.2.2≤N→(∀ x∈xs,x.1.rule.data.toList=QBm→x.1.f.size≤N)→(QAk xs m).2.2≤N:=by
 induction xs with
 | nil=>intro m N h _;exact h
 | cons x xs ih =>
  intro m N h hx;rw [QAk];(refine ih _ N ?_ fun y hy=>hx y (by simp [hy]));(have:=hx x (by simp));(show (if x.1.rule.data.toList=QBm then max m.2.2 x.1.f.size else m.2.2)≤N)
  split
  ·rename_i e;have:=this e;omega
  ·exact h
theorem QBa (ks js:List Pf) (d:Nat):Pf.nodesDL (ks++js) d=Pf.nodesDL ks d++Pf.nodesDL js d:=by
 induction ks with
 | nil=>rw [List.nil_append,Pf.nodesDL];rfl
 | cons k ks ih=>rw [List.cons_append,Pf.nodesDL,Pf.nodesDL,ih,List.append_assoc]
theorem QCP {ks:List Pf} {i:Nat} {k:Pf} (h:ks[i]? = some k) (d:Nat):Pf.nodesDL (ks.take (i+1)) d=Pf.nodesDL (ks.take i) d++k.nodesD d:=by
 rw [List.take_add_one,h,QBa];show _++Pf.nodesDL [k] d=_;rw [Pf.nodesDL,Pf.nodesDL,List.append_nil]
theorem QDi {ks:List Pf} {i:Nat} {k:Pf} (h:ks[i]? = some k) (d:Nat) {x:Pf × Nat} (hx:x∈k.nodesD d):x∈Pf.nodesDL ks d:=by
 have e:ks=ks.take (i+1)++ks.drop (i+1):=(List.take_append_drop _ _).symm;rw [e,QBa,QCP h];simp [hx]
theorem QGF {ks:List Pf} {i:Nat} {k:Pf} (h:ks[i]? = some k) (d:Nat):(Pf.nodesDL (ks.take i) d).length+(k.nodesD d).length≤(Pf.nodesDL ks d).length:=by
 have e:ks=ks.take (i+1)++ks.drop (i+1):=(List.take_append_drop _ _).symm
 have h2:(Pf.nodesDL ks d).length=(Pf.nodesDL (ks.take (i+1)) d).length+(Pf.nodesDL (ks.drop (i+1)) d).length:=by
  rw [← List.length_append,← QBa,← e]
 rw [QCP h,List.length_append] at h2;omega
theorem QFw:∀ (ks:List Fm) (i:Nat) (g:Fm),ks[i]? = some g→Fm.sizes (ks.take (i+1))=Fm.sizes (ks.take i)+g.size∧Fm.sizes (ks.take i)+g.size≤Fm.sizes ks
 | [],i,g,h=>by simp at h
 | x :: ks,0,g,h=>by
  (have e:x=g:=by simpa using h);subst e;(have e0:Fm.sizes ([]:List Fm)=0:=by rw [Fm.sizes]);rw [List.take_succ_cons,List.take_zero,List.take_zero,e0];(have e1:Fm.sizes [x]=x.size+0:=by simp [Fm.sizes]);(have:Fm.sizes (x :: ks)=x.size+Fm.sizes ks:=by rw [Fm.sizes])
  omega
 | x :: ks,i+1,g,h=>by
  (have:=QFw ks i g (by simpa using h));(have e:Fm.sizes (x :: ks)=x.size+Fm.sizes ks:=by rw [Fm.sizes]);rw [List.take_succ_cons,List.take_succ_cons,Fm.sizes,Fm.sizes];omega
theorem QEC:∀ ks:List Fm,ks.length≤Fm.sizes ks
 | []=>by simp
 | ⟨k,n,js⟩ :: ks=>by
  have:=QEC ks;rw [Fm.sizes,List.length_cons,Fm.size];omega
def QFL (m:Nat):Prop:=∀ (fs:List Fm) (v:Value) (w:World),Fm.sizes fs < m→Fm.sizes fs≤100000→FL w v fs →
 Calls Tryz.prog 67 #[v] w fun e w'=>e = .returned (.int .i64 (Fm.sizes fs:Nat))∧Below w.heap.size w w'
set_option maxRecDepth 10000 in
set_option maxHeartbeats 2000000 in
theorem QGz (m:Nat) (ih:QFL m):QFL (m+1):=by
 intro fs v w hm hs hv;obtain⟨ad,cap,rfl,h1,h2,h3⟩:=hv;(have H3:Hid (fs≠[]→∃ b off,ad=some ⟨b,off,none⟩∧Reps w (fun _=>True) b off fs):=h3);have HIH:Hid (QFL m):=ih;have HM:Hid (Fm.sizes fs < m+1∧Fm.sizes fs≤100000):=⟨hm,hs⟩;(have hlI:(fs.length:Int)≤100000:=by have:=QEC fs;omega);(have hlc:(fs.length:Int)≤(cap:Int):=by omega);clear h3 ih hm hs h1 h2
 go_enter Tryz.func67,Tryz.ntmps67
 go_wp2_with fail
 go_loopg [10,3] fs.length (fun g c s wr=>∃ i x,i≤fs.length∧g=fs.length - i∧c = .int .i64 (i:Nat)∧s = .int .i64 (x:Nat)∧Hid (x+i=fs.length+Fm.sizes (fs.take i))∧Hid (Below w.heap.size w wr))
 case atStart=>exact⟨0,fs.length,by omega,by omega,rfl,rfl,by show _=_;rw [List.take_zero,Fm.sizes],Below.refl _ _⟩
 case round =>
  obtain⟨i,x,hi,hg,rfl,rfl,HX,HB⟩:=hrel;have HG:Hid (gk=fs.length - i):=hg;clear hg;by_cases hlt:i < fs.length
  ·obtain⟨⟨k,n,ks⟩,hfi⟩:∃ f,fs[i]? = some f:=⟨_,List.getElem?_eq_getElem hlt⟩
   (obtain⟨b,off,rfl,hrs⟩:=H3.out (fun e=>by rw [e] at hlt;simp at hlt));obtain⟨sl,cp,g0,g1,g2,hrep⟩:=(hrs.up HB.out).at i k n ks hfi;(have hltI:(i:Int) < (fs.length:Int):=by omega);(have hltc:(i:Int) < (cap:Int):=by omega);obtain⟨t1,t2⟩:=QFw fs i _ hfi;(have es:(Fm.mk k n ks).size=Fm.sizes ks+1:=by rw [Fm.size]);rw [es] at t1 t2;(have hx1:x+1≤200000:=by have:=HX.out;have:=HM.out;omega);(have hxI:(x:Int)≤200000:=by omega);(have hks:Fm.sizes ks≤100000:=by have:=HM.out;omega);(have hkI:(Fm.sizes ks:Int)≤100000:=by omega);(have HX2:Hid (x+Fm.sizes ks+(i+1)=fs.length+Fm.sizes (fs.take (i+1))):=by have:=HX.out;show _=_;omega)
   have hc:=HIH.out ks (.slice sl ks.length cp) (wr.alloc (.cells #[.int .i64 k,.string n,.slice sl ks.length cp] 24 (0,0))) (by have:=HM.out;omega) hks (by
    have hb:=(Below.refl wr.heap.size wr).alloc (Nat.le_refl _) (.cells #[.int .i64 k,.string n,.slice sl ks.length cp] 24 (0,0));obtain⟨sl',cp',e,-,q1,q2,q3⟩:=Rep.def.1 (hrep.up hb);simp only [Value.agg.injEq,Array.mk.injEq,List.cons.injEq,Value.slice.injEq,true_and,and_true] at e;obtain⟨rfl,rfl⟩:=e
    exact⟨sl,cp,rfl,q1,q2,fun hne=>by obtain⟨b,off,e1,-,e3⟩:=q3 hne;exact⟨b,off,e1,e3⟩⟩)
   generalize Fm.sizes ks=S at *;(have HC:Hid (Calls Tryz.prog 67 _ _ fun e w'=>e = .returned (.int .i64 (S:Nat))∧Below (wr.alloc (.cells #[.int .i64 k,.string n,.slice sl ks.length cp] 24 (0,0))).heap.size (wr.alloc (.cells #[.int .i64 k,.string n,.slice sl ks.length cp] 24 (0,0))) w'):=hc);have HI:Hid (i < fs.length):=hlt;clear hc hrep hrs hfi t1 t2 es hlt hi hks hx1;go_wp2_with fail;refine HC.out.mono ?_;rintro e w2 ⟨rfl,hb2⟩;have HB2:Hid (Below w.heap.size w w2):=QAC HB.out (QAC ((Below.refl _ wr).alloc (Nat.le_refl _) _) hb2);clear hb2 g0 g1 g2 HC;go_wp2_with fail
   go_roundg (fs.length - (i+1))
   case measure=>have:=HG.out;have:=HI.out;omega
   case rel=>exact⟨i+1,x+S,HI.out,rfl,by go_num,by go_num,HX2,HB2⟩
  ·have hii:i=fs.length:=by omega
   subst hii;(have hge:¬ (fs.length:Int) < (fs.length:Int):=by omega);have hxe:=HX.out;rw [List.take_length] at hxe;(have hxx:x=Fm.sizes fs:=by omega);clear hlt hi hxe;go_wp2_with fail;go_ret;exact⟨rfl,HB.out⟩
theorem QEp:∀ m,QFL m
 | 0=>fun _ _ _ h=>absurd h (Nat.not_lt_zero _)
 | m+1=>QGz m (QEp m)
theorem QGG (f:Fm) (hf:f.size≤1000) (v:Value) (w:World) (hv:FL w v [f]):Calls Tryz.prog 67 #[v] w fun e w'=>e = .returned (.int .i64 (f.size:Nat))∧Below w.heap.size w w':=by
 (have e:Fm.sizes [f]=f.size:=by simp [Fm.sizes]);(have:=QEp (Fm.sizes [f]+1) [f] v w (Nat.lt_succ_self _) (by omega) hv)
 rwa [e] at this
structure M3 (w:World) (bs bd br:Nat) (m:Nat × Nat × Nat):Prop where
 s:w.heap[bs]? = some (.cells #[.int .i64 (m.1:Nat)] 3 (0,0))
 d:w.heap[bd]? = some (.cells #[.int .i64 (m.2.1:Nat)] 3 (0,0))
 r:w.heap[br]? = some (.cells #[.int .i64 (m.2.2:Nat)] 3 (0,0))
theorem M3.up {w w':World} {bs bd br:Nat} {m:Nat × Nat × Nat} (h:M3 w bs bd br m) (hb:Below w.heap.size w w'):M3 w' bs bd br m:=⟨QAB hb h.s,QAB hb h.d,QAB hb h.r⟩
def KB3 (bs bd br:Nat) (w w':World):Prop:=Kept (fun b=>b≠bs∧b≠bd∧b≠br) w w'
set_option maxRecDepth 10000 in
set_option maxHeartbeats 4000000 in
theorem QJr (p:Pf) (v:Value) (w0 w:World) (d bs bd br:Nat) (m:Nat × Nat × Nat) (hv:PRep w0 p v) (hw0:Below w0.heap.size w0 w) (hB:w0.heap.size≤bs∧w0.heap.size≤bd∧w0.heap.size≤br) (hm:M3 w bs bd br m) (h1:bs≠bd) (h2:bs≠br) (h3:bd≠br) (hb1:m.1≤100000) (hb2:m.2.1≤100000) (hb3:m.2.2≤100000) (hd:d≤100000) (hf:p.rule.data.toList=QBm→p.f.size≤1000) :
  Calls Tryz.prog 66 #[v,.int .i64 (d:Nat),.pointer (some ⟨bs,0,none⟩),.pointer (some ⟨bd,0,none⟩),.pointer (some ⟨br,0,none⟩)] w fun e w'=>e = .returned (.tuple #[])∧M3 w' bs bd br (QCd (p,d) m)∧KB3 bs bd br w w':=by
 obtain⟨s0,d0,r0⟩:=m;obtain⟨a,⟨k,n,kf⟩,l,r,ks⟩:=p;have HV:Hid (PRep w0 (.mk a (.mk k n kf) l r ks) v):=hv;have hpr:=hv.parts;obtain⟨sf,cf,al,cl,ar,cr,sl,cap,rfl,-,hrf,-⟩:=hpr;(have HRf:Hid (Rep w0 (fun _=>True) (.mk k n kf) (.agg #[.int .i64 k,.string n,.slice sf kf.length cf])):=hrf);have HFs:Hid (a.data.toList=QBm→(Fm.mk k n kf).size≤1000):=hf;simp only at hb1 hb2 hb3;obtain⟨m1,m2,m3⟩:=hm;simp only at m1 m2 m3;have zs:=QAE m1;have zd:=QAE m2;have zr:=QAE m3;(have hs9:(s0:Int)≤100000:=by omega);(have hd9:(d0:Int)≤100000:=by omega);(have hd8:(d:Int)≤100000:=by omega);have HM1:Hid (w.heap[bs]? = some _):=m1;have HM2:Hid (w.heap[bd]? = some _):=m2;have HM3:Hid (w.heap[br]? = some _):=m3;obtain⟨q1,f1⟩:=QCZ m1;obtain⟨q2,f2⟩:=QCZ m2;have n1:¬ bs=bd:=h1;(have n2:¬ bd=bs:=fun e=>h1 e.symm);(have n3:¬ w.heap.size=bs:=by omega);(have n4:¬ w.heap.size=bd:=by omega);(have n5:¬ bs=w.heap.size:=by omega);(have n6:¬ bd=w.heap.size:=by omega);(have n7:¬ w.heap.size=br:=by omega);(have n8:¬ br=w.heap.size:=by omega);clear m1 m2 m3 hv hrf hf hb1 hb2 hb3;obtain⟨W,hW⟩:∃ W,W=((w.setCell ⟨bs,0,none⟩ (.int .i64 ((s0:Int)+1))).setCell ⟨bd,0,none⟩ (.int .i64 (max (d0:Int) d))).alloc (.cells #[.string a,.int .i64 k,.string n,.slice sf kf.length cf,.slice al l.length cl,.slice ar r.length cr,.slice sl ks.length cap] 31 (0,0)):=⟨_,rfl⟩;(have hZ:((w.setCell ⟨bs,0,none⟩ (.int .i64 ((s0:Int)+1))).setCell ⟨bd,0,none⟩ (.int .i64 (max (d0:Int) d))).heap.size=w.heap.size:=by simp [World.setCell])
 have V1:Hid (W.heap[bs]? = some (.cells #[.int .i64 ((s0+1:Nat):Int)] 3 (0,0))):=by
  rw [hW];refine QAF ?_ _;(rw [Below.heap_setCell _ _ _ _ (by simpa using h1)]);exact QIW HM1.out _
 have V2:Hid (W.heap[bd]? = some (.cells #[.int .i64 ((max d0 d:Nat):Int)] 3 (0,0))):=by
  (have h9:((max d0 d:Nat):Int)=max (d0:Int) d:=by omega);rw [hW,h9];(exact QAF (QIW ((Below.heap_setCell _ _ _ _ (by simpa using fun e=>h1 e.symm)).trans HM2.out) _) _)
 have V3:Hid (W.heap[br]? = some (.cells #[.int .i64 (r0:Nat)] 3 (0,0))):=by
  rw [hW];refine QAF ?_ _;(rw [Below.heap_setCell _ _ _ _ (by simpa using fun e=>h3 e.symm),Below.heap_setCell _ _ _ _ (by simpa using fun e=>h2 e.symm)]);exact HM3.out
 have V0:Hid (W.heap[w.heap.size]? = some (.cells #[.string a,.int .i64 k,.string n,.slice sf kf.length cf,.slice al l.length cl,.slice ar r.length cr,.slice sl ks.length cap] 31 (0,0))):=by
  rw [hW,← hZ];exact QAG _ _
 have HKW:Hid (KB3 bs bd br w W):=by
  rw [hW];(exact (((Kept.refl _ w).setCell (fun _ h=>h.1 rfl) _).setCell (fun _ h=>h.2.1 rfl) _).alloc _)
 have HB0:Hid (Below w0.heap.size w0 W):=by
  have hk:=HKW.out;(exact⟨hk.os.trans hw0.os,hk.tape.trans hw0.tape,hk.output.trans hw0.output,Nat.le_trans hw0.size hk.size,fun b hb=>(hk.block b (Nat.lt_of_lt_of_le hb hw0.size) ⟨by omega,by omega,by omega⟩).trans (hw0.block b hb)⟩)
 have HWe:Hid (((w.setCell ⟨bs,0,none⟩ (.int .i64 ((s0:Int)+1))).setCell ⟨bd,0,none⟩ (.int .i64 (max (d0:Int) d))).alloc (.cells #[.string a,.int .i64 k,.string n,.slice sf kf.length cf,.slice al l.length cl,.slice ar r.length cr,.slice sl ks.length cap] 31 (0,0))=W):=hW.symm;clear hw0 hB HV hW hZ;by_cases hc:a.data.toList=QBm
 ·have hae:a=⟨#[99,117,116]⟩:=by
   obtain⟨ad⟩:=a;have:ad=#[99,117,116]:=Array.ext' hc;rw [this]
  have hsz:=HFs.out hc;(have HN:Hid (∀ v W,FL W v [.mk k n kf]→Calls Tryz.prog 67 #[v] W fun e w'=>e = .returned (.int .i64 ((Fm.mk k n kf).size:Nat))∧Below W.heap.size W w'):=fun v W h=>QGG _ hsz v W h)
  have HMs:Hid (QCd (.mk a (.mk k n kf) l r ks,d) (s0,d0,r0)=(s0+1,max d0 d,max r0 (Fm.mk k n kf).size)):=by
   (show (_,_,if a.data.toList=QBm then _ else _)=_);rw [if_pos hc];rfl
  generalize (Fm.mk k n kf).size=S at *;subst hae;clear hc HFs
  go_enter Tryz.func66,Tryz.ntmps66
  go_wp2_with fail;rw [HWe.out];clear HWe q1 f1 q2 f2;obtain⟨q3,f3⟩:=QCZ V3.out;have x3:=QAE V3.out;obtain⟨j0,j1,j2,j3,-⟩:=QAQ V0.out;have x0:w.heap.size < W.heap.size:=QAE V0.out;have HBn:Hid (Below W.heap.size W (W.alloc (.cells #[.int .i64 k,.string n,.slice sf kf.length cf] 24 (0,0))).drew):=(QAA (Below.refl _ W) _).drew;have HFL:Hid (FL (W.alloc (.cells #[.int .i64 k,.string n,.slice sf kf.length cf] 24 (0,0))).drew (.slice (some ⟨W.heap.size,0,none⟩) 1 1) [.mk k n kf]):=FL.sing (w:=(W.alloc (.cells #[.int .i64 k,.string n,.slice sf kf.length cf] 24 (0,0))).drew) (show (W.alloc (.cells #[.int .i64 k,.string n,.slice sf kf.length cf] 24 (0,0))).drew.heap[W.heap.size]? = some _ from QAG W _) ((HRf.out.up HB0.out).up HBn.out)
  go_region_law
   (
    first
    | (
     go_simp
     refine (HN.out _ _ HFL.out).mono ?_;rintro e w1 ⟨rfl,hb1⟩;have HB1:Hid (Below W.heap.size W w1):=QAC HBn.out hb1;obtain⟨t3,u3⟩:=QCZ (QAB HB1.out V3.out);have x4:=QAE (QAB HB1.out V3.out);clear hb1
     dsimp only)
    | fail)
  all_goals
   go_wp2_with fail
   go_end0
   rw [HMs.out];(have e9:((max r0 S:Nat):Int)=max (r0:Int) S:=by omega);refine⟨rfl,⟨?_,?_,?_⟩,?_⟩
   ·rw [Below.heap_setCell _ _ _ _ (by simpa using h2)]
    exact QAB HB1.out V1.out
   ·rw [Below.heap_setCell _ _ _ _ (by simpa using h3)]
    exact QAB HB1.out V2.out
   ·show _=some (Obj.cells #[Value.int .i64 ((max r0 S:Nat):Int)] 3 (0,0))
    rw [e9];exact QIW (QAB HB1.out V3.out) _
   ·exact (Kept.trans HKW.out (QAi HB1.out fun _ h _=>h)).setCell (fun _ h=>h.2.2 rfl) _
 ·have hq:(a.toList == ([99,117,116]:List UInt8))=false:=by rw [ByteArray.toList_eq];simpa [QBm] using hc
  have HMs:Hid (QCd (.mk a (.mk k n kf) l r ks,d) (s0,d0,r0)=(s0+1,max d0 d,r0)):=by
   (show (_,_,if a.data.toList=QBm then _ else _)=_);rw [if_neg hc]
  clear hc HFs
  go_enter Tryz.func66,Tryz.ntmps66
  go_wp2_with fail;rw [HWe.out]
  go_end0
  rw [HMs.out];exact⟨rfl,⟨V1.out,V2.out,V3.out⟩,HKW.out⟩
theorem QKQ (args:Array Value) (w:World):(callFunc 66 args).run Tryz.prog w = .ok (.enter 66 args) w:=by
 simp [go_sem]
theorem KB3.trans {bs bd br:Nat} {a b c:World} (h:KB3 bs bd br a b) (k:KB3 bs bd br b c):KB3 bs bd br a c:=Kept.trans h k
theorem KB3.base {bs bd br:Nat} {w0 w w':World} (h:Below w0.heap.size w0 w) (hB:w0.heap.size≤bs∧w0.heap.size≤bd∧w0.heap.size≤br) (k:KB3 bs bd br w w'):Below w0.heap.size w0 w' :=
 ⟨k.os.trans h.os,k.tape.trans h.tape,k.output.trans h.output,Nat.le_trans h.size k.size,fun b hb=>(k.block b (Nat.lt_of_lt_of_le hb h.size) ⟨by omega,by omega,by omega⟩).trans (h.block b hb)⟩
def QHZ (bs bd br:Nat) (m:Nat):Prop:=∀ (p:Pf) (v:Value) (w0 w:World) (d:Nat) (s:Nat × Nat × Nat),p.size < m→SmallP p→PRep w0 p v→Below w0.heap.size w0 w→(w0.heap.size≤bs∧w0.heap.size≤bd∧w0.heap.size≤br)→M3 w bs bd br s→s.1+(p.nodesD d).length≤20001→s.2.1≤402→s.2.2≤1000→(∀ x∈p.nodesD d,x.2≤402)→(∀ x∈p.nodesD d,x.1.rule.data.toList=QBm→x.1.f.size≤1000) →
 Calls Tryz.prog 65 #[v,.int .i64 (d:Nat),.func (.func 66) #[] #[.pointer (some ⟨bs,0,none⟩),.pointer (some ⟨bd,0,none⟩),.pointer (some ⟨br,0,none⟩)]] w fun e w'=>e = .returned (.tuple #[])∧M3 w' bs bd br (QAk (p.nodesD d) s)∧KB3 bs bd br w w'
set_option maxRecDepth 10000 in
set_option maxHeartbeats 4000000 in
theorem QGm (bs bd br:Nat) (h1:bs≠bd) (h2:bs≠br) (h3:bd≠br) (m:Nat) (ih:QHZ bs bd br m):QHZ bs bd br (m+1):=by
 intro p v w0 w d s hm hsm hv hw0 hB hM hb1 hb2 hb3 hx1 hx2;obtain⟨a,⟨k,n,kf⟩,l,r,ks⟩:=p;have HV:Hid (PRep w0 (.mk a (.mk k n kf) l r ks) v):=hv;obtain⟨sf,cf,al,cl,ar,cr,sl,cap,rfl,-,-,-,-,hkc,hcm,hks⟩:=hv.parts;have HKS:Hid (ks≠[]→∃ b off,sl=some ⟨b,off,none⟩∧PReps w0 b off ks):=hks;have HIH:Hid (QHZ bs bd br m):=ih;have HSm:Hid (∀ k∈ks,SmallP k):=hsm.parts.2.2.2;have hk12:=hsm.parts.2.2.1;rw [Pf.size] at hm;rw [Pf.nodesD] at hb1 hx1 hx2;rw [Pf.nodesD,QAk];(have hd402:d≤402:=hx1 (.mk a (.mk k n kf) l r ks,d) (by simp));(have hf0:=hx2 (.mk a (.mk k n kf) l r ks,d) (by simp));(have hb1':s.1+1+(Pf.nodesDL ks (d+1)).length≤20001:=by rw [List.length_cons] at hb1;omega);(have HVis:Hid (∀ W,Below w0.heap.size w0 W→M3 W bs bd br s→Calls Tryz.prog 66 #[.agg #[.string a,.int .i64 k,.string n,.slice sf kf.length cf,.slice al l.length cl,.slice ar r.length cr,.slice sl ks.length cap],.int .i64 (d:Nat),.pointer (some ⟨bs,0,none⟩),.pointer (some ⟨bd,0,none⟩),.pointer (some ⟨br,0,none⟩)] W fun e w'=>e = .returned (.tuple #[])∧M3 w' bs bd br (QCd (.mk a (.mk k n kf) l r ks,d) s)∧KB3 bs bd br W w'):=fun W hb hm=>QJr _ _ w0 W d bs bd br s HV.out hb hB hm h1 h2 h3 (by omega) (by omega) (by omega) (by omega) hf0);have hs1:(QCd (.mk a (.mk k n kf) l r ks,d) s).1=s.1+1:=rfl;(have hs2:(QCd (.mk a (.mk k n kf) l r ks,d) s).2.1≤402:=by show max s.2.1 d≤402;omega)
 have hs3:(QCd (.mk a (.mk k n kf) l r ks,d) s).2.2≤1000:=by
  (show (if a.data.toList=QBm then max s.2.2 (Fm.mk k n kf).size else s.2.2)≤1000)
  split
  ·rename_i e;have:(Fm.mk k n kf).size≤1000:=hf0 e;omega
  ·exact hb3
 generalize QCd (.mk a (.mk k n kf) l r ks,d) s=S at *;(have HX:Hid ((∀ x∈Pf.nodesDL ks (d+1),x.2≤402)∧(∀ x∈Pf.nodesDL ks (d+1),x.1.rule.data.toList=QBm→x.1.f.size≤1000)):=⟨fun x hx=>hx1 x (by simp [hx]),fun x hx=>hx2 x (by simp [hx])⟩);(have HS:Hid (S.1+(Pf.nodesDL ks (d+1)).length≤20001∧S.2.1≤402∧S.2.2≤1000):=⟨by omega,hs2,hs3⟩);have HB:Hid (w0.heap.size≤bs∧w0.heap.size≤bd∧w0.heap.size≤br):=hB;have HW0:Hid (Below w0.heap.size w0 w):=hw0;have HM:Hid (M3 w bs bd br s):=hM;(have HMm:Hid (Pf.sizes ks < m):=by show _ < _;omega);(have hkI:(ks.length:Int)≤1200:=by omega);(have hkcI:(ks.length:Int)≤(cap:Int):=by omega);(have hdI:(d:Int)≤402:=by omega);have hcf:=QKQ;have HBa:Hid (Below w.heap.size w (w.alloc (.cells #[.string a,.int .i64 k,.string n,.slice sf kf.length cf,.slice al l.length cl,.slice ar r.length cr,.slice sl ks.length cap] 31 (0,0)))):=QAA (Below.refl _ w) _;have HBox:Hid ((w.alloc (.cells #[.string a,.int .i64 k,.string n,.slice sf kf.length cf,.slice al l.length cl,.slice ar r.length cr,.slice sl ks.length cap] 31 (0,0))).heap[w.heap.size]? = some (.cells #[.string a,.int .i64 k,.string n,.slice sf kf.length cf,.slice al l.length cl,.slice ar r.length cr,.slice sl ks.length cap] 31 (0,0))):=QAG w _;(have hnb:w.heap.size≠bs∧w.heap.size≠bd∧w.heap.size≠br:=⟨by have:=QAE hM.s;omega,by have:=QAE hM.d;omega,by have:=QAE hM.r;omega⟩);have HNb:Hid (w.heap.size≠bs∧w.heap.size≠bd∧w.heap.size≠br):=hnb;clear hv hks ih hsm hk12 hm hw0 hB hM hb1 hb2 hb3 hx1 hx2 hf0 hb1' hs1 hs2 hs3 hd402 hnb h1 h2 h3
 go_enter Tryz.func65,Tryz.ntmps65
 go_wp2_with fail;refine (HVis.out _ (QAC HW0.out HBa.out) (HM.out.up HBa.out)).mono ?_;rintro e w1 ⟨rfl,hm1,hk1⟩;have HM1:Hid (M3 w1 bs bd br S):=hm1;have HB1:Hid (Below w0.heap.size w0 w1):=KB3.base (QAC HW0.out HBa.out) HB.out hk1;have HQ1:Hid (w1.heap[w.heap.size]? = some (.cells #[.string a,.int .i64 k,.string n,.slice sf kf.length cf,.slice al l.length cl,.slice ar r.length cr,.slice sl ks.length cap] 31 (0,0))):=(hk1.block w.heap.size (QAE HBox.out) HNb.out).trans HBox.out;(have HK1:Hid (KB3 bs bd br w w1):=KB3.trans (QAi HBa.out fun _ h _=>h) hk1);clear hm1 hk1 HVis HBa HBox HM HW0;obtain⟨-,-,-,-,-,-,c6⟩:=QAQ HQ1.out;have y1:=QAE HQ1.out;go_wp2_with fail;clear c6
 go_loopg [15] ks.length (fun g c wr=>∃ i,i≤ks.length∧g=ks.length - i∧c = .int .i64 (i:Nat)∧Hid (M3 wr bs bd br (QAk (Pf.nodesDL (ks.take i) (d+1)) S))∧Hid (KB3 bs bd br w wr)∧Hid (Below w0.heap.size w0 wr))
 case atStart=>exact⟨0,by omega,by omega,rfl,by show M3 _ _ _ _ _;rw [List.take_zero,Pf.nodesDL];exact HM1.out,HK1,HB1⟩
 case round =>
  obtain⟨i,hi,hg,rfl,HMr,HKr,HBr⟩:=hrel;have HG:Hid (gk=ks.length - i):=hg;clear hg;by_cases hlt:i < ks.length
  ·obtain⟨⟨ka,⟨kk,kn,kkf⟩,kl,kr,kks⟩,hki⟩:∃ f,ks[i]? = some f:=⟨_,List.getElem?_eq_getElem hlt⟩
   (have hltI:(i:Int) < (ks.length:Int):=by omega);(obtain⟨b,off,hsl,hrs⟩:=HKS.out (fun e=>by rw [e] at hlt;simp at hlt));subst hsl;obtain⟨sf2,cf2,al2,cl2,ar2,cr2,sl2,cap2,y0,y2,y3,y4,y5,y6,y7,hrep2⟩:=(PReps.up HBr.out b off ks hrs).at i ka kk kn kkf kl kr kks hki;have hrep0:=hrep2;obtain⟨sf3,cf3,al3,cl3,ar3,cr3,sl3,cap3,z0,z2,z3,z4,z5,z6,z7,hrep3⟩:=hrs.at i ka kk kn kkf kl kr kks hki;(have hlc:((i:Nat):Int) < ((cap:Nat):Int):=by omega)
   have hsame:∀ (q:Addr) (u u':Value),q.block < w0.heap.size→w0.cell? q=some u→wr.cell? q=some u'→u=u':=fun q u u' hq h h'=>by
    have:=(HBr.out.cell (p:=q) hq).trans h;rw [this] at h';exact Option.some.inj h'
   have hbw:b < w0.heap.size:=QAI z0;have e3:=hsame _ _ _ hbw z4 y4;have e4:=hsame _ _ _ hbw z5 y5;have e5:=hsame _ _ _ hbw z6 y6;have e6:=hsame _ _ _ hbw z7 y7;simp only [Value.slice.injEq,true_and] at e3 e4 e5 e6;obtain⟨rfl,rfl⟩:=e3;obtain⟨rfl,rfl⟩:=e4;obtain⟨rfl,rfl⟩:=e5;obtain⟨rfl,rfl⟩:=e6;have ht:=QCP hki (d+1);have hl:=QGF hki (d+1);have hfs:=QEo (Pf.nodesDL (ks.take i) (d+1)) S
   have htk:∀ x∈Pf.nodesDL (ks.take i) (d+1),x∈Pf.nodesDL ks (d+1):=fun x hx=>by
    have e:ks=ks.take i++ks.drop i:=(List.take_append_drop _ _).symm;rw [e,QBa];simp [hx]
   (have hdp:=QEI (Pf.nodesDL (ks.take i) (d+1)) S 402 HS.out.2.1 fun x hx=>HX.out.1 x (htk x hx));(have hrk:=QEJ (Pf.nodesDL (ks.take i) (d+1)) S 1000 HS.out.2.2 fun x hx=>HX.out.2 x (htk x hx));have hba:=QAA (Below.refl wr.heap.size wr) (.cells #[.string ka,.int .i64 kk,.string kn,.slice sf3 kkf.length cf3,.slice al3 kl.length cl3,.slice ar3 kr.length cr3,.slice sl3 kks.length cap3] 31 (0,0));(have hc:=HIH.out _ _ w0 _ (d+1) _ (Nat.lt_of_le_of_lt (QBN hki) HMm.out) (HSm.out _ (List.mem_of_getElem? hki)) hrep3 (QAC HBr.out hba) HB.out (HMr.out.up hba) (by have:=HS.out;omega) hdp hrk (fun x hx=>HX.out.1 x (QDi hki _ hx)) (fun x hx=>HX.out.2 x (QDi hki _ hx)));rw [← QDP,← ht] at hc;have HC:Hid (Calls Tryz.prog 65 _ _ _):=hc;have HBw:Hid (Below wr.heap.size wr _):=hba;have HI:Hid (i < ks.length):=hlt;clear hki hrs hrep2 hrep3 hrep0 hc ht hl hfs htk hdp hrk hba hsame z0 z2 z3 z4 z5 z6 z7 hbw hlt hi;go_wp2_with fail;refine HC.out.mono ?_;rintro e w2 ⟨rfl,hm2,hk2⟩;(have HK2:Hid (KB3 bs bd br w w2):=KB3.trans (KB3.trans HKr.out (QAi HBw.out fun _ h _=>h)) hk2);have HB2:Hid (Below w0.heap.size w0 w2):=KB3.base (QAC HBr.out HBw.out) HB.out hk2;have HM2:Hid (M3 w2 bs bd br _):=hm2;clear hm2 hk2 HC y0 y2 y3 y4 y5 y6 y7;go_wp2_with fail
   go_roundg (ks.length - (i+1))
   case measure=>have:=HG.out;have:=HI.out;omega
   case rel=>exact⟨i+1,HI.out,rfl,by go_num,HM2,HK2,HB2⟩
  ·have hii:i=ks.length:=by omega
   subst hii;(have hge:¬ (ks.length:Int) < (ks.length:Int):=by omega);have hmr:=HMr.out;rw [List.take_length] at hmr;have HM9:Hid (M3 wr bs bd br (QAk (Pf.nodesDL ks (d+1)) S)):=hmr;clear hlt hi hmr;go_wp2_with fail
   go_end0
   exact⟨rfl,HM9.out,HKr.out⟩
theorem QEj (bs bd br:Nat) (h1:bs≠bd) (h2:bs≠br) (h3:bd≠br):∀ m,QHZ bs bd br m
 | 0=>fun _ _ _ _ _ _ h=>absurd h (Nat.not_lt_zero _)
 | m+1=>QGm bs bd br h1 h2 h3 m (QEj bs bd br h1 h2 h3 m)
theorem QGJ {f:Fm} (h:f.pcode.1=0):Fine f∧f.size≤200:=by
 obtain⟨s,hs⟩:=(QCI h).1;exact⟨QBU _ 0 s hs,QDL hs⟩
theorem QHo (i:Bool):∀ (L:List (Pf × Nat)) (s:Nat),(QBZ i L s).1=0→s≤20000→s+L.length≤20000∧∀ x∈L,x.2≤400∧QAg i x.1=0
 | [],s,_,hs=>⟨by simpa using hs,fun x hx=>by cases hx⟩
 | y :: L,s,h,hs=>by
  rw [QBZ] at h
  split at h
  ·cases h
  ·rename_i h1
   split at h
   ·rename_i h2;exact absurd h h2
   ·rename_i h2
    (obtain⟨g1,g2⟩:=QHo i L (s+1) h (by omega));(refine⟨by rw [List.length_cons];omega,fun x hx => ?_⟩)
    rcases List.mem_cons.1 hx with rfl|hx
    ·exact⟨by omega,by simpa using h2⟩
    ·exact g2 x hx
theorem QFE {i:Bool} {x:Pf} (h:QAg i x=0) (hr:x.rule.data.toList=QBm):x.f.pcode.1=0:=by
 obtain⟨a,f,l,r,ks⟩:=x;have hr:a.data.toList=QBm:=hr;rw [QAg] at h
 split at h
 ·cases h
 ·rw [hr] at h
  (rw [if_neg (by decide)] at h);(have e:QAp i QBm=some .cut:=by cases i <;> decide);rw [e] at h;simp only at h
  split at h
  ·cases h
  ·rename_i h2;exact Decidable.not_not.1 h2
theorem QDA {i:Bool} {p:Pf} (h:(QAf i p 1 0 0).1.1=0):(p.nodesD 1).length≤20000∧∀ x∈p.nodesD 1,x.2≤400∧QAg i x.1=0:=by
 have h1:=QDa i p 1 0 0 [];(rw [List.append_nil,if_neg (fun e=>e h)] at h1);(have h2:(QBZ i (p.nodesD 1) 0).1=0:=by rw [h1,QBZ]);(have:=QHo i _ 0 h2 (by omega));(exact⟨by omega,this.2⟩)
def QDB (i:Bool) (p:Pf):Nat × Nat × Nat:=if (QAf i p 1 0 0).1.1≠0 then (0,0,0) else QAk (p.nodesD 1) (0,0,0)
def QCu (i:Bool) (p:Pf):Int:=if (QAf i p 1 0 0).1.1≠0 then (QAf i p 1 0 0).1.2 else 0
def QEb (W:World) (bS bD bR bF:Nat) (n d r c a:Value):World:=((((W.setCell ⟨bS,0,none⟩ n).setCell ⟨bD,0,none⟩ d).setCell ⟨bR,0,none⟩ r).setCell ⟨bF,0,none⟩ c).setCell ⟨bF,1,none⟩ a
theorem QAa {W:World} {b x i:Nat} (h:x≠b) (v:Value):(W.setCell ⟨b,i,none⟩ v).heap[x]? = W.heap[x]? := Below.heap_setCell _ _ _ _ (by simpa using h)
theorem QHd {W:World} {bS bD bR bF:Nat} {x0 x1 x2 x3 x4:Value} {T U:TypeId} (n1:bS≠bD) (n2:bS≠bR) (n3:bD≠bR) (n4:bF≠bS) (n5:bF≠bD) (n6:bF≠bR) (h1:W.heap[bS]? = some (.cells #[x0] T (0,0))) (h2:W.heap[bD]? = some (.cells #[x1] T (0,0))) (h3:W.heap[bR]? = some (.cells #[x2] T (0,0))) (h4:W.heap[bF]? = some (.cells #[x3,x4] U (0,0))) (n d r c a:Value) :
  (QEb W bS bD bR bF n d r c a).heap[bS]? = some (.cells #[n] T (0,0))∧(QEb W bS bD bR bF n d r c a).heap[bD]? = some (.cells #[d] T (0,0))∧(QEb W bS bD bR bF n d r c a).heap[bR]? = some (.cells #[r] T (0,0))∧(QEb W bS bD bR bF n d r c a).heap[bF]? = some (.cells #[c,a] U (0,0)):=by
 unfold QEb;refine⟨?_,?_,?_,?_⟩
 ·rw [QAa n4.symm,QAa n4.symm,QAa n2,QAa n1]
  exact QIW h1 _
 ·rw [QAa n5.symm,QAa n5.symm,QAa n3]
  exact QIW ((QAa n1.symm _).trans h2) _
 ·rw [QAa n6.symm,QAa n6.symm]
  exact QIW ((QAa n3.symm _).trans ((QAa n2.symm _).trans h3)) _
 ·exact QBB ((QAa n6 _).trans ((QAa n5 _).trans ((QAa n4 _).trans h4))) _ _
theorem QEA {w W:World} {bS bD bR bF:Nat} (h1:w.heap.size≤bS) (h2:w.heap.size≤bD) (h3:w.heap.size≤bR) (h4:w.heap.size≤bF) (B:Below w.heap.size w W) (n d r c a:Value):Below w.heap.size w (QEb W bS bD bR bF n d r c a) :=
 ((((B.setCell (by simpa using h1) _).setCell (by simpa using h2) _).setCell (by simpa using h3) _).setCell (by simpa using h4) _).setCell (by simpa using h4) _
set_option maxRecDepth 10000 in
set_option maxHeartbeats 8000000 in
theorem QDh (i:Bool) (p:Pf) (hsm:SmallP p) (v:Value) (w:World) (hv:PRep w p v) :
  Calls Tryz.prog 26 #[v,.bool i] w fun e w'=>e = .returned (.tuple #[.int .i64 ((QDB i p).1:Nat),.int .i64 ((QDB i p).2.1:Nat),.int .i64 ((QDB i p).2.2:Nat),.agg #[.int .i64 (QAf i p 1 0 0).1.1,.int .i64 (QCu i p)]])∧Below w.heap.size w w':=by
 (have HCh:Hid (∀ W,Below w.heap.size w W→Calls Tryz.prog 64 #[v,.bool i] W fun e w'=>e = .returned (.agg #[.int .i64 (QAf i p 1 0 0).1.1,.int .i64 (QCu i p)])∧Below W.heap.size W w'):=fun W hb=>QHA i p hsm v W (PRep.up hb _ _ hv))
 have HE:Hid ((QAf i p 1 0 0).1.1=0→∀ W bs bd br,Below w.heap.size w W→bs≠bd→bs≠br→bd≠br→(w.heap.size≤bs∧w.heap.size≤bd∧w.heap.size≤br)→M3 W bs bd br (0,0,0)→Calls Tryz.prog 65 #[v,.int .i64 1,.func (.func 66) #[] #[.pointer (some ⟨bs,0,none⟩),.pointer (some ⟨bd,0,none⟩),.pointer (some ⟨br,0,none⟩)]] W fun e w'=>e = .returned (.tuple #[])∧M3 w' bs bd br (QDB i p)∧KB3 bs bd br W w'):=fun h0 W bs bd br hb n1 n2 n3 hB hm=>by
  (have hm9:QDB i p=QAk (p.nodesD 1) (0,0,0):=by unfold QDB;rw [if_neg (fun e=>e h0)]);rw [hm9];have hn:=QDA h0;(exact QEj bs bd br n1 n2 n3 (p.size+1) p v w W 1 (0,0,0) (Nat.lt_succ_self _) hsm hv hb hB hm (by simp only;omega) (by simp) (by simp) (fun x hx=>by have:=(hn.2 x hx).1;omega) (fun x hx hr=>by have:=(QGJ (QFE (hn.2 x hx).2 hr)).2;omega))
 (have HZ:Hid ((QAf i p 1 0 0).1.1≠0→QDB i p=(0,0,0)):=fun h=>by unfold QDB;rw [if_pos h]);(have HA:Hid ((QAf i p 1 0 0).1.1=0→QCu i p=0):=fun h=>by unfold QCu;rw [if_neg (fun e=>e h)]);generalize (QAf i p 1 0 0).1.1=c at *;generalize QCu i p=at9 at *;generalize QDB i p=M at *;obtain⟨M1,M2,M3v⟩:=M;simp only;obtain⟨a,⟨k,n,kf⟩,l,r,ks⟩:=p;obtain⟨sf,cf,al,cl,ar,cr,sl,cap,rfl,-⟩:=hv.parts;obtain⟨O,hO⟩:∃ O,O=Obj.cells #[.string a,.int .i64 k,.string n,.slice sf kf.length cf,.slice al l.length cl,.slice ar r.length cr,.slice sl ks.length cap] 31 (0,0):=⟨_,rfl⟩;have B0:Below w.heap.size w (((((w.alloc O).alloc (.cells #[.int .i64 0] 3 (0,0))).alloc (.cells #[.int .i64 0] 3 (0,0))).alloc (.cells #[.int .i64 0] 3 (0,0))).alloc (.cells #[.int .i64 0,.int .i64 0] 37 (0,0))):=QAA (QAA (QAA (QAA (QAA (Below.refl _ w) _) _) _) _) _;obtain⟨X,hX⟩:∃ X,X=((((w.alloc O).alloc (.cells #[.int .i64 0] 3 (0,0))).alloc (.cells #[.int .i64 0] 3 (0,0))).alloc (.cells #[.int .i64 0] 3 (0,0))).alloc (.cells #[.int .i64 0,.int .i64 0] 37 (0,0)):=⟨_,rfl⟩;(have P0:Hid (X.heap[w.heap.size]? = some O):=by rw [hX];exact QAF (QAF (QAF (QAF (QAG w O) _) _) _) _);(have P1:Hid (X.heap[w.heap.size+1]? = some (.cells #[.int .i64 0] 3 (0,0))):=by rw [hX];exact QAF (QAF (QAF (QAd w O _) _) _) _);(have P2:Hid (X.heap[w.heap.size+1+1]? = some (.cells #[.int .i64 0] 3 (0,0))):=by rw [hX];exact QAF (QAF (QCL (by simp)) _) _);(have P3:Hid (X.heap[w.heap.size+1+1+1]? = some (.cells #[.int .i64 0] 3 (0,0))):=by rw [hX];exact QAF (QCL (by simp)) _);(have P4:Hid (X.heap[w.heap.size+1+1+1+1]? = some (.cells #[.int .i64 0,.int .i64 0] 37 (0,0))):=by rw [hX];exact QCL (by simp));rw [← hX] at B0;have HB0:Hid (Below w.heap.size w X):=B0;have HXe:Hid (((((w.alloc O).alloc (.cells #[.int .i64 0] 3 (0,0))).alloc (.cells #[.int .i64 0] 3 (0,0))).alloc (.cells #[.int .i64 0] 3 (0,0))).alloc (.cells #[.int .i64 0,.int .i64 0] 37 (0,0))=X):=hX.symm;clear hv hsm B0 hX
 go_enter Tryz.func26,Tryz.ntmps26
 go_wp2_with fail;rw [← hO,HXe.out];refine (HCh.out X HB0.out).mono ?_;rintro e w1 ⟨rfl,hb1⟩;have HB1:Hid (Below w.heap.size w w1):=QAC HB0.out hb1;rw [hO] at P0;have Q0:Hid (w1.heap[w.heap.size]? = some _):=QAB hb1 P0.out;have Q1:Hid (w1.heap[w.heap.size+1]? = some (.cells #[.int .i64 0] 3 (0,0))):=QAB hb1 P1.out;have Q2:Hid (w1.heap[w.heap.size+1+1]? = some (.cells #[.int .i64 0] 3 (0,0))):=QAB hb1 P2.out;have Q3:Hid (w1.heap[w.heap.size+1+1+1]? = some (.cells #[.int .i64 0] 3 (0,0))):=QAB hb1 P3.out;have Q4:Hid (w1.heap[w.heap.size+1+1+1+1]? = some (.cells #[.int .i64 0,.int .i64 0] 37 (0,0))):=QAB hb1 P4.out;clear hb1 P0 P1 P2 P3 P4 HCh HXe hO HB0;obtain⟨bS,hS⟩:∃ b,b=w.heap.size+1:=⟨_,rfl⟩;obtain⟨bD,hD⟩:∃ b,b=w.heap.size+1+1:=⟨_,rfl⟩;obtain⟨bR,hR⟩:∃ b,b=w.heap.size+1+1+1:=⟨_,rfl⟩;obtain⟨bF,hF⟩:∃ b,b=w.heap.size+1+1+1+1:=⟨_,rfl⟩;rw [← hS] at Q1;rw [← hD] at Q2;rw [← hR] at Q3;rw [← hF] at Q4;rw [← hF,← hR,← hD,← hS];have HNN:Hid (bS=w.heap.size+1∧bD=w.heap.size+1+1∧bR=w.heap.size+1+1+1∧bF=w.heap.size+1+1+1+1):=⟨hS,hD,hR,hF⟩;(have N1:Hid (bS≠bD∧bS≠bR∧bD≠bR∧bF≠bS∧bF≠bD∧bF≠bR∧w.heap.size < bS∧w.heap.size < bD∧w.heap.size < bR∧w.heap.size < bF):=⟨by omega,by omega,by omega,by omega,by omega,by omega,by omega,by omega,by omega,by omega⟩);clear hS hD hR hF;obtain⟨j0,j1,j2,j3,j4,j5,j6⟩:=QAQ Q0.out;obtain⟨u0,u1,u2,u3⟩:=QAU Q4.out;obtain⟨s0,s1⟩:=QCZ Q1.out;obtain⟨d0,d1⟩:=QCZ Q2.out;obtain⟨r0,r1⟩:=QCZ Q3.out;have y0:=QAE Q0.out;have y1:=QAE Q1.out;have y2:=QAE Q2.out;have y3:=QAE Q3.out;have y4:=QAE Q4.out;obtain⟨n1,n2,n3,n4,n5,n6,n7,n8,n9,n10⟩:=N1.out;(have m1:¬ bD=bS:=fun e=>n1 e.symm);(have m2:¬ bR=bS:=fun e=>n2 e.symm);(have m3:¬ bR=bD:=fun e=>n3 e.symm);(have m4:¬ bS=bF:=fun e=>n4 e.symm);(have m5:¬ bD=bF:=fun e=>n5 e.symm);(have m6:¬ bR=bF:=fun e=>n6 e.symm);have k1:¬ bS=bD:=n1;have k2:¬ bS=bR:=n2;have k3:¬ bD=bR:=n3;have k4:¬ bF=bS:=n4;have k5:¬ bF=bD:=n5;have k6:¬ bF=bR:=n6;(have q7:¬ w.heap.size=bF:=by omega);(have q8:¬ bF=w.heap.size:=by omega);by_cases hc:c=0
 ·subst hc
  have ha:at9=0:=HA.out rfl;subst ha;have HE2:=HE.out rfl;clear HE HA HZ;(have HE3:Hid (∀ W,Below w.heap.size w W→M3 W bS bD bR (0,0,0)→_):=fun W hb hm=>HE2 W bS bD bR hb n1 n2 n3 (by omega) hm);clear HE2;obtain⟨W,hW⟩:∃ W,W=(w1.setCell ⟨bF,0,none⟩ (.int .i64 0)).setCell ⟨bF,1,none⟩ (.int .i64 0):=⟨_,rfl⟩;(have V1:Hid (W.heap[bS]? = some (.cells #[.int .i64 0] 3 (0,0))):=by rw [hW];exact (QAa n4.symm _).trans ((QAa n4.symm _).trans Q1.out));(have V2:Hid (W.heap[bD]? = some (.cells #[.int .i64 0] 3 (0,0))):=by rw [hW];exact (QAa n5.symm _).trans ((QAa n5.symm _).trans Q2.out));(have V3:Hid (W.heap[bR]? = some (.cells #[.int .i64 0] 3 (0,0))):=by rw [hW];exact (QAa n6.symm _).trans ((QAa n6.symm _).trans Q3.out));(have V4:Hid (W.heap[bF]? = some (.cells #[.int .i64 0,.int .i64 0] 37 (0,0))):=by rw [hW];exact QBB Q4.out _ _);(have HBW:Hid (Below w.heap.size w W):=by rw [hW];exact (HB1.out.setCell (p:=⟨bF,0,none⟩) (Nat.le_of_lt n10) _).setCell (p:=⟨bF,1,none⟩) (Nat.le_of_lt n10) _);have HWe:Hid ((w1.setCell ⟨bF,0,none⟩ (.int .i64 0)).setCell ⟨bF,1,none⟩ (.int .i64 0)=W):=hW.symm;clear hW;go_wp2_with fail;rw [HWe.out];refine (HE3.out W HBW.out ⟨V1.out,V2.out,V3.out⟩).mono ?_;rintro e w2 ⟨rfl,hm2,hk2⟩;have HK2:Hid (KB3 bS bD bR W w2):=hk2;have X1:Hid (w2.heap[bS]? = some (.cells #[.int .i64 (M1:Nat)] 3 (0,0))):=hm2.s;have X2:Hid (w2.heap[bD]? = some (.cells #[.int .i64 (M2:Nat)] 3 (0,0))):=hm2.d;have X3:Hid (w2.heap[bR]? = some (.cells #[.int .i64 (M3v:Nat)] 3 (0,0))):=hm2.r;have X4:Hid (w2.heap[bF]? = some (.cells #[.int .i64 0,.int .i64 0] 37 (0,0))):=(hk2.block bF (QAE V4.out) ⟨n4,n5,n6⟩).trans V4.out;(have HB2:Hid (Below w.heap.size w w2):=KB3.base HBW.out (by omega) hk2);clear hm2 hk2 HWe u0 u1 u2 u3 s0 s1 d0 d1 r0 r1 y0 y1 y2 y3 y4 j0 j1 j2 j3 j4 j5 j6 V1 V2 V3 V4 HE3;obtain⟨u0,u1,u2,u3⟩:=QAU X4.out;obtain⟨s0,s1⟩:=QCZ X1.out;obtain⟨d0,d1⟩:=QCZ X2.out;obtain⟨r0,r1⟩:=QCZ X3.out;have y1:=QAE X1.out;have y2:=QAE X2.out;have y3:=QAE X3.out;have y4:=QAE X4.out;go_wp2_with fail
  go_region
  all_goals
   go_wp2_with fail;have g9:=QHd (W:=w2) n1 n2 n3 n4 n5 n6 X1.out X2.out X3.out X4.out (.int .i64 (M1:Nat)) (.int .i64 (M2:Nat)) (.int .i64 (M3v:Nat)) (.int .i64 0) (.int .i64 0);(have BF:=QEA (w:=w) (bS:=bS) (bD:=bD) (bR:=bR) (bF:=bF) (by omega) (by omega) (by omega) (by omega) (HB2.out) (.int .i64 (M1:Nat)) (.int .i64 (M2:Nat)) (.int .i64 (M3v:Nat)) (.int .i64 0) (.int .i64 0));show bodyPost _ _ _ _ _ (QEb (w2) bS bD bR bF (.int .i64 (M1:Nat)) (.int .i64 (M2:Nat)) (.int .i64 (M3v:Nat)) (.int .i64 0) (.int .i64 0)).drew;generalize QEb (w2) bS bD bR bF (.int .i64 (M1:Nat)) (.int .i64 (M2:Nat)) (.int .i64 (M3v:Nat)) (.int .i64 0) (.int .i64 0)=F at g9 BF ⊢;obtain⟨o0,-⟩:=QCZ g9.1;obtain⟨o1,-⟩:=QCZ g9.2.1;obtain⟨o2,-⟩:=QCZ g9.2.2.1;obtain⟨o3,o4,-⟩:=QAU g9.2.2.2;have v0:F.drew.cell? ⟨bS,0,none⟩=some (.int .i64 (M1:Nat)):=o0;have v1:F.drew.cell? ⟨bD,0,none⟩=some (.int .i64 (M2:Nat)):=o1;have v2:F.drew.cell? ⟨bR,0,none⟩=some (.int .i64 (M3v:Nat)):=o2;have v3:F.drew.cell? ⟨bF,0,none⟩=some (.int .i64 0):=o3;have v4:F.drew.cell? ⟨bF,1,none⟩=some (.int .i64 0):=o4;(exact bodyPost_ret (v := .tuple #[.int .i64 (M1:Nat),.int .i64 (M2:Nat),.int .i64 (M3v:Nat),.agg #[.int .i64 0,.int .i64 0]]) (by simp [results,Tryz.results26,go_sem,v0,v1,v2,v3,v4]) rfl ⟨rfl,BF.drew⟩)
 ·have hm:=HZ.out hc
  simp only [Prod.mk.injEq] at hm;obtain⟨rfl,rfl,rfl⟩:=hm;(have hcn:(c != 0)=true:=by simpa using hc);clear HE HA HZ hc j0 j1 j2 j3 j4 j5 j6;go_wp2_with fail
  go_region
  all_goals
   go_wp2_with fail;have g9:=QHd (W:=(w1.setCell ⟨bF,0,none⟩ (.int .i64 c)).setCell ⟨bF,1,none⟩ (.int .i64 at9)) n1 n2 n3 n4 n5 n6 ((QAa n4.symm _).trans ((QAa n4.symm _).trans Q1.out)) ((QAa n5.symm _).trans ((QAa n5.symm _).trans Q2.out)) ((QAa n6.symm _).trans ((QAa n6.symm _).trans Q3.out)) (QBB Q4.out _ _) (.int .i64 0) (.int .i64 0) (.int .i64 0) (.int .i64 c) (.int .i64 at9);(have BF:=QEA (w:=w) (bS:=bS) (bD:=bD) (bR:=bR) (bF:=bF) (by omega) (by omega) (by omega) (by omega) ((HB1.out.setCell (p:=⟨bF,0,none⟩) (Nat.le_of_lt n10) (.int .i64 c)).setCell (p:=⟨bF,1,none⟩) (Nat.le_of_lt n10) (.int .i64 at9)) (.int .i64 0) (.int .i64 0) (.int .i64 0) (.int .i64 c) (.int .i64 at9));show bodyPost _ _ _ _ _ (QEb ((w1.setCell ⟨bF,0,none⟩ (.int .i64 c)).setCell ⟨bF,1,none⟩ (.int .i64 at9)) bS bD bR bF (.int .i64 0) (.int .i64 0) (.int .i64 0) (.int .i64 c) (.int .i64 at9)).drew;generalize QEb ((w1.setCell ⟨bF,0,none⟩ (.int .i64 c)).setCell ⟨bF,1,none⟩ (.int .i64 at9)) bS bD bR bF (.int .i64 0) (.int .i64 0) (.int .i64 0) (.int .i64 c) (.int .i64 at9)=F at g9 BF ⊢;obtain⟨o0,-⟩:=QCZ g9.1;obtain⟨o1,-⟩:=QCZ g9.2.1;obtain⟨o2,-⟩:=QCZ g9.2.2.1;obtain⟨o3,o4,-⟩:=QAU g9.2.2.2;have v0:F.drew.cell? ⟨bS,0,none⟩=some (.int .i64 0):=o0;have v1:F.drew.cell? ⟨bD,0,none⟩=some (.int .i64 0):=o1;have v2:F.drew.cell? ⟨bR,0,none⟩=some (.int .i64 0):=o2;have v3:F.drew.cell? ⟨bF,0,none⟩=some (.int .i64 c):=o3;have v4:F.drew.cell? ⟨bF,1,none⟩=some (.int .i64 at9):=o4;(exact bodyPost_ret (v := .tuple #[.int .i64 0,.int .i64 0,.int .i64 0,.agg #[.int .i64 c,.int .i64 at9]]) (by simp [results,Tryz.results26,go_sem,v0,v1,v2,v3,v4]) rfl ⟨rfl,BF.drew⟩)
theorem QIz:QDB false QEd=(3,3,0):=by decide +kernel
theorem QIE:QCu false QEd=0:=by decide +kernel
set_option maxRecDepth 10000 in
set_option maxHeartbeats 2000000 in
theorem QFX (w:World):Calls Tryz.prog 24 #[] w fun e w'=>e = .returned (.bool true)∧Below w.heap.size w w':=by
 (have hm:=fun v (w:World) h=>QDh false QEd QIF v w h);rw [QIz,QIE,QKE] at hm;simp only at hm;(have HM:Hid (∀ v w,PRep w QEd v→Calls Tryz.prog 26 #[v,.bool false] w fun e w'=>e = .returned (.tuple #[.int .i64 ((3:Nat):Int),.int .i64 ((3:Nat):Int),.int .i64 ((0:Nat):Int),.agg #[.int .i64 0,.int .i64 0]])∧Below w.heap.size w w'):=hm);clear hm
 go_enter Tryz.func24,Tryz.ntmps24
 go_wp2_with fail;refine (QGu w).mono ?_;rintro e w1 ⟨x,rfl,hx,hb1⟩;have HX:Hid (PRep w1 QEd x):=hx;clear hx;go_wp2_with fail;refine (HM.out _ _ HX.out).mono ?_;rintro e w2 ⟨rfl,hb2⟩;have B2:=QAC hb1 hb2;clear hb1 hb2;go_wp2_with fail;go_ret;exact⟨rfl,QAA B2 _⟩
theorem QDN:∀ (n:Nat) (p:Pf),p.size < n→GoodS p→SmallP p
 | 0,p,h,_=>by omega
 | n+1,.mk a f l r ks,h,hg=>by
  obtain⟨-,h1,h2,-,-,h3,h4⟩:=hg.parts;rw [Pf.size] at h;(refine SmallP.mk h1 h2 h3 fun k hk => ?_);obtain⟨i,hi⟩:=List.getElem?_of_mem hk;have:=QBN hi;(exact QDN n k (by omega) (h4 i k hi))
theorem QGt {i:Bool} {p:Pf} (h:(QAf i p 1 0 0).1.1=0):p.stepsL 1 20001=p.nodesD 1:=by
 obtain⟨h1,h2⟩:=QDA h
 rcases QCh p 1 20001 with e|⟨P,X,Y,-,hM,hP⟩
 ·exact e
 ·rcases hP with hP|⟨x,hx,hd⟩
  ·rw [hM,List.length_append] at h1;omega
  ·have:=(h2 x (by rw [hM];simp [hx])).1;omega
theorem QGv {L:List (Pf × Nat)} {j:Nat} {x:Pf × Nat} (h:L[j]? = some x) (m:Nat × Nat × Nat):QAk (L.take (j+1)) m=QCd x (QAk (L.take j) m):=by
 rw [List.take_add_one,h,QDP];rfl
set_option maxRecDepth 10000 in
set_option maxHeartbeats 8000000 in
theorem QFb (i:Bool) (p:Pf) (v:Value) (w:World) (hv:PRep w p v) :
  Calls Tryz.prog 7 #[v,.bool i] w fun e w'=>e = .returned (.bool true)∧Below w.heap.size w w':=by
 have HV:Hid (PRep w p v):=hv;(have HVa:Hid (∀ W,Below w.heap.size w W→Calls Tryz.prog 25 #[v,.int .i64 0] W fun e w'=>QJy p e∧Below W.heap.size W w'):=fun W hb=>QHI p v W (PRep.up hb _ _ hv));(have HMe:Hid (SmallP p→∀ W,Below w.heap.size w W→Calls Tryz.prog 26 #[v,.bool i] W _):=fun hs W hb=>QDh i p hs v W (PRep.up hb _ _ hv))
 have HPf:Hid (SmallP p→∀ W,Below w.heap.size w W→Calls Tryz.prog 27 #[v,.bool i] W fun e w'=>e = .returned (.agg #[.int .i64 (QAf i p 1 0 0).1.1,.int .i64 (QCu i p)])∧Below W.heap.size W w'):=fun hs W hb=>by
  have:=QEO i p hs v W (PRep.up hb _ _ hv);rw [QIV] at this;exact this
 have HSt:Hid ((QAf i p 1 0 0).1.1=0→SmallP p→(p.nodesD 1).length≤20000∧(∀ x∈p.nodesD 1,x.2≤400∧(x.1.rule.data.toList=QBm→x.1.f.size≤200))∧QDB i p=QAk (p.nodesD 1) (0,0,0)∧∀ W,Below w.heap.size w W→Calls Tryz.prog 28 #[v,.int .i64 1,.int .i64 20001] W fun e w'=>∃ ad cp ad' cp',e = .returned (.tuple #[.slice ad (p.nodesD 1).length cp,.slice ad' (p.nodesD 1).length cp'])∧KF (· < W.heap.size) W.heap.size w' ad cp ((p.nodesD 1).map Prod.fst)∧KD W.heap.size w' ad' cp' ((p.nodesD 1).map Prod.snd)∧Below W.heap.size W w'):=fun h0 hs=>by
  obtain⟨q1,q2⟩:=QDA h0;(refine⟨q1,fun x hx=>⟨(q2 x hx).1,fun hr=>(QGJ (QFE (q2 x hx).2 hr)).2⟩,by unfold QDB;rw [if_neg (fun e=>e h0)],fun W hb => ?_⟩);(have:=QDG W.heap.size (p.size+1) p v W 1 20001 (Nat.lt_succ_self _) hs (by omega) (by omega) (Nat.le_refl _) (PRep.low _ _ (PRep.up hb _ _ hv)));rw [QGt h0] at this;exact this
 (have HZ:Hid ((QAf i p 1 0 0).1.1≠0→QDB i p=(0,0,0)):=fun h=>by unfold QDB;rw [if_pos h]);(have HA:Hid ((QAf i p 1 0 0).1.1=0→QCu i p=0):=fun h=>by unfold QCu;rw [if_neg (fun e=>e h)]);(have HGs:Hid (GoodS p→SmallP p):=fun h=>QDN _ p (Nat.lt_succ_self _) h);generalize (QAf i p 1 0 0).1.1=c at *;generalize QCu i p=a9 at *;generalize QDB i p=M at *;generalize p.nodesD 1=L at *;obtain⟨M1,M2,M3v⟩:=M;obtain⟨a,⟨k,n,kf⟩,l,r,ks⟩:=p;obtain⟨sf,cf,al,cl,ar,cr,sl,cap,rfl,-⟩:=hv.parts;have HB0:Hid (Below w.heap.size w (w.alloc (.cells #[.string a,.int .i64 k,.string n,.slice sf kf.length cf,.slice al l.length cl,.slice ar r.length cr,.slice sl ks.length cap] 31 (0,0)))):=QAA (Below.refl _ w) _;have P0:Hid ((w.alloc (.cells #[.string a,.int .i64 k,.string n,.slice sf kf.length cf,.slice al l.length cl,.slice ar r.length cr,.slice sl ks.length cap] 31 (0,0))).heap[w.heap.size]? = some (.cells #[.string a,.int .i64 k,.string n,.slice sf kf.length cf,.slice al l.length cl,.slice ar r.length cr,.slice sl ks.length cap] 31 (0,0))):=QAG w _;clear hv
 go_enter Tryz.func7,Tryz.ntmps7
 go_wp2_with fail;refine (QFX _).mono ?_;rintro e w1 ⟨rfl,hb1⟩;have HB1:Hid (Below w.heap.size w w1):=QAC HB0.out hb1;have Q0:Hid (w1.heap[w.heap.size]? = some (.cells #[.string a,.int .i64 k,.string n,.slice sf kf.length cf,.slice al l.length cl,.slice ar r.length cr,.slice sl ks.length cap] 31 (0,0))):=QAB hb1 P0.out;clear hb1 P0 HB0;obtain⟨j0,j1,j2,j3,j4,j5,j6⟩:=QAQ Q0.out;go_wp2_with fail;refine (HVa.out _ HB1.out).mono ?_;rintro e w2 ⟨⟨bb,rfl,hbb⟩,hb2⟩;have HB2:Hid (Below w.heap.size w w2):=QAC HB1.out hb2;have R0:Hid (w2.heap[w.heap.size]? = some (.cells #[.string a,.int .i64 k,.string n,.slice sf kf.length cf,.slice al l.length cl,.slice ar r.length cr,.slice sl ks.length cap] 31 (0,0))):=QAB hb2 Q0.out;clear hb2 HVa j0 j1 j2 j3 j4 j5 j6 Q0 HB1
 cases bb
 case true =>
  clear hbb;go_wp2_with fail;go_ret;exact⟨rfl,HB2.out⟩
 have hsm:=HGs.out (hbb rfl);(have HMe2:Hid (∀ W,Below w.heap.size w W→Calls Tryz.prog 26 _ W fun e w'=>e = .returned (.tuple #[.int .i64 (M1:Nat),.int .i64 (M2:Nat),.int .i64 (M3v:Nat),.agg #[.int .i64 c,.int .i64 a9]])∧Below W.heap.size W w'):=HMe.out hsm);(have HPf2:Hid (∀ W,Below w.heap.size w W→Calls Tryz.prog 27 _ W fun e w'=>e = .returned (.agg #[.int .i64 c,.int .i64 a9])∧Below W.heap.size W w'):=HPf.out hsm);have HSm:Hid (SmallP (.mk a (.mk k n kf) l r ks)):=hsm;clear hbb hsm HMe HPf HGs;obtain⟨j0,j1,j2,j3,j4,j5,j6⟩:=QAQ R0.out;go_wp2_with fail;refine (HMe2.out _ HB2.out).mono ?_;rintro e w3 ⟨rfl,hb3⟩;have HB3:Hid (Below w.heap.size w w3):=QAC HB2.out hb3;have S0:Hid (w3.heap[w.heap.size]? = some (.cells #[.string a,.int .i64 k,.string n,.slice sf kf.length cf,.slice al l.length cl,.slice ar r.length cr,.slice sl ks.length cap] 31 (0,0))):=QAB hb3 R0.out;clear hb3 HMe2 j0 j1 j2 j3 j4 j5 j6 R0 HB2;obtain⟨X,hX⟩:∃ X,X=w3.alloc (.cells #[.int .i64 c,.int .i64 a9] 37 (0,0)):=⟨_,rfl⟩;(have hbX:Below w3.heap.size w3 X:=by rw [hX];exact QAA (Below.refl _ w3) _);(have X8:Hid (X.heap[w3.heap.size]? = some (.cells #[.int .i64 c,.int .i64 a9] 37 (0,0))):=by rw [hX];exact QAG w3 _);have X0:Hid (X.heap[w.heap.size]? = some (.cells #[.string a,.int .i64 k,.string n,.slice sf kf.length cf,.slice al l.length cl,.slice ar r.length cr,.slice sl ks.length cap] 31 (0,0))):=QAB hbX S0.out;have HBX:Hid (Below w.heap.size w X):=QAC HB3.out hbX;obtain⟨j0,j1,j2,j3,j4,j5,j6⟩:=QAQ X0.out;obtain⟨b8,hb8⟩:∃ b,b=w3.heap.size:=⟨_,rfl⟩;rw [← hb8] at X8
 go_upto_region 6 with fail
 rw [← hX,← hb8];clear hX hbX hb8 S0 HB3;go_wp2_with fail;refine (HPf2.out _ HBX.out).mono ?_;rintro e w4 ⟨rfl,hb4⟩;have HB4:Hid (Below w.heap.size w w4):=QAC HBX.out hb4;have T0:Hid (w4.heap[w.heap.size]? = some (.cells #[.string a,.int .i64 k,.string n,.slice sf kf.length cf,.slice al l.length cl,.slice ar r.length cr,.slice sl ks.length cap] 31 (0,0))):=QAB hb4 X0.out;have T8:Hid (w4.heap[b8]? = some (.cells #[.int .i64 c,.int .i64 a9] 37 (0,0))):=QAB hb4 X8.out;clear hb4 HPf2 j0 j1 j2 j3 j4 j5 j6 X0 X8 HBX;obtain⟨Y,hY⟩:∃ Y,Y=w4.alloc (.cells #[.int .i64 c,.int .i64 a9] 37 (0,0)):=⟨_,rfl⟩;(have hbY:Below w4.heap.size w4 Y:=by rw [hY];exact QAA (Below.refl _ w4) _);(have Y9:Hid (Y.heap[w4.heap.size]? = some (.cells #[.int .i64 c,.int .i64 a9] 37 (0,0))):=by rw [hY];exact QAG w4 _);have Y0:Hid (Y.heap[w.heap.size]? = some (.cells #[.string a,.int .i64 k,.string n,.slice sf kf.length cf,.slice al l.length cl,.slice ar r.length cr,.slice sl ks.length cap] 31 (0,0))):=QAB hbY T0.out;have Y8:Hid (Y.heap[b8]? = some (.cells #[.int .i64 c,.int .i64 a9] 37 (0,0))):=QAB hbY T8.out;have HBY:Hid (Below w.heap.size w Y):=QAC HB4.out hbY;obtain⟨b9,hb9⟩:∃ b,b=w4.heap.size:=⟨_,rfl⟩;rw [← hb9] at Y9
 go_upto_region 7 with fail
 rw [← hY,← hb9];clear hY hbY hb9 T0 T8 HB4;obtain⟨e0,e1,-⟩:=QAU Y8.out;obtain⟨f0,f1,-⟩:=QAU Y9.out;by_cases hc:c=0
 ·subst hc
  have ha:=HA.out rfl;subst ha;obtain⟨q1,q2,q3,q4⟩:=HSt.out rfl HSm.out;have HL:Hid (L.length≤20000∧(∀ x∈L,x.2≤400∧(x.1.rule.data.toList=QBm→x.1.f.size≤200))):=⟨q1,q2⟩;have HMe:Hid ((M1,M2,M3v)=QAk L (0,0,0)):=q3;(have HSt2:Hid (∀ W,Below w.heap.size w W→Calls Tryz.prog 28 _ W fun e w'=>∃ ad cp ad' cp',e = .returned (.tuple #[.slice ad L.length cp,.slice ad' L.length cp'])∧KF (· < W.heap.size) W.heap.size w' ad cp (L.map Prod.fst)∧KD W.heap.size w' ad' cp' (L.map Prod.snd)∧Below W.heap.size W w'):=q4);(have hLI:(L.length:Int)≤20000:=by omega);clear q1 q2 q3 q4 HSt HZ HA;obtain⟨j0,j1,j2,j3,j4,j5,j6⟩:=QAQ Y0.out;go_wp2_with fail;refine (HSt2.out _ HBY.out).mono ?_;rintro e w5 ⟨ad,cp,ad',cp',rfl,hkf,hkd,hb5⟩;have HB5:Hid (Below w.heap.size w w5):=QAC HBY.out hb5
  have hkf':KF (fun _=>True) 0 w5 ad cp (L.map Prod.fst):=by
   obtain⟨cs,ho,hp⟩:=hkf.low (Nat.zero_le _);(exact⟨cs,ho,PQ.move (fun b _ h=>⟨rfl,trivial,h.2⟩) hp⟩)
  (obtain⟨hc1,hc2,hc3⟩:=hkf'.rep fun _ _=>trivial);rw [List.length_map] at hc1;(have HC3:Hid (L.map Prod.fst≠[]→∃ b off,ad=some ⟨b,off,none⟩∧True∧PRps (fun _=>True) w5 b off (L.map Prod.fst)):=hc3);(have hkd':w5.ownsRow 0 3 1 (.slice ad' (L.map Prod.snd).length cp') (L.map Prod.snd).length ((L.map Prod.snd).map fun d=>Value.int .i64 (d:Nat)):=hkd.low (Nat.zero_le _));rw [List.length_map] at hkd';(have HKD:Hid (0 < L.length→∃ g,ad'=some ⟨g,0,none⟩∧(∀ j u,((L.map Prod.snd).map fun d=>Value.int .i64 ((d:Nat):Int))[j]? = some u→w5.cell? ((⟨g,0,none⟩:Addr).add j)=some u)):=fun h=>QCp hkd' h)
  have hcD:L.length≤cp':=by
   rcases hkd'.2 with ⟨hv,h0⟩|⟨g,cap',cur,hv,-,-,h1,-⟩
   ·simp only [Value.slice.injEq] at hv
    omega
   ·simp only [Value.slice.injEq,true_and] at hv
    omega
  clear hkf hkf' hkd hkd' hc3 hb5 HSt2 j0 j1 j2 j3 j4 j5 j6 e0 e1 f0 f1 Y0 Y8 Y9 HBY;go_wp2_with fail
  go_loopg [14,12,13] L.length (fun gg cc mm rr wr=>∃ j D R,j≤L.length∧gg=L.length - j∧cc = .int .i64 (j:Nat)∧mm = .int .i64 (D:Nat)∧rr = .int .i64 (R:Nat)∧Hid (Below w5.heap.size w5 wr)∧Hid (D=(QAk (L.take j) (0,0,0)).2.1∧R=(QAk (L.take j) (0,0,0)).2.2))
  case atStart=>exact⟨0,0,0,by omega,by omega,rfl,rfl,rfl,Below.refl _ _,⟨rfl,rfl⟩⟩
  case round =>
   obtain⟨j,D,R,hj,hg,rfl,rfl,rfl,HBr,HDR⟩:=hrel;have HG:Hid (gk=L.length - j):=hg;clear hg;by_cases hlt:j < L.length
   ·obtain⟨⟨⟨ka,⟨kk,kn,kkf⟩,kl,kr,kks⟩,dj⟩,hki⟩:∃ f,L[j]? = some f:=⟨_,List.getElem?_eq_getElem hlt⟩
    (have hltI:(j:Int) < (L.length:Int):=by omega);(have hlc:(j:Int) < (cp:Int):=by omega);(have hld:(j:Int) < (cp':Int):=by omega);(obtain⟨b,off,rfl,-,hrs⟩:=HC3.out (fun e=>by rw [List.map_eq_nil_iff] at e;rw [e] at hlt;simp at hlt));(have hrs':PRps (fun _=>True) wr b off (L.map Prod.fst):=hrs.move trivial fun q hq hp=>⟨HBr.out.block q hq,hp⟩);(obtain⟨sf2,cf2,al2,cl2,ar2,cr2,sl2,cap2,y0,y1,y2,y3,y4,y5,y6,hrep2⟩:=hrs'.at j ka kk kn kkf kl kr kks (by rw [List.getElem?_map,hki];rfl));(obtain⟨gd,rfl,hdc⟩:=HKD.out (by omega));(have hd1:=hdc j (.int .i64 (dj:Nat)) (by rw [List.getElem?_map,List.getElem?_map,hki];rfl));rw [QAn,Nat.zero_add] at hd1;have d1:=(HBr.out.cell (p:=⟨gd,j,none⟩) (QAI hd1)).trans hd1;have hlx:=HL.out.2 _ (List.mem_of_getElem? hki);have hdj:dj≤400:=hlx.1;have hfj:ka.data.toList=QBm→(Fm.mk kk kn kkf).size≤200:=hlx.2;have hnx:=QGv hki (0,0,0);(have hD9:=QEI (L.take j) (0,0,0) 400 (by simp) fun x hx=>(HL.out.2 x (List.mem_of_mem_take hx)).1);(have hR9:=QEJ (L.take j) (0,0,0) 200 (by simp) fun x hx=>(HL.out.2 x (List.mem_of_mem_take hx)).2);have hrf:=(PRp.rep _ _ hrep2).parts;obtain⟨sf9,cf9,al9,cl9,ar9,cr9,sl9,cap9,e9,-,hrf9,-⟩:=hrf;simp only [Value.agg.injEq,Array.mk.injEq,List.cons.injEq,Value.slice.injEq,true_and,and_true] at e9;obtain⟨⟨rfl,rfl⟩,-⟩:=e9;(have HWk:Hid (∀ W,Below wr.heap.size wr W→Calls Tryz.prog 29 #[.agg #[.int .i64 kk,.string kn,.slice sf2 kkf.length cf2],.int .i64 300] W fun e w'=>∃ u,e = .returned u∧LO W.heap.size W.heap.size w' u (QAr (.mk kk kn kkf) 300)∧Below W.heap.size W w'):=fun W hb=>QEW (.mk kk kn kkf) _ 300 W (by omega) (hrf9.up hb));(have HWl:Hid (ka.data.toList=QBm→(QAr (.mk kk kn kkf) 300).length=(Fm.mk kk kn kkf).size):=fun hr=>by rw [QJM];have:=hfj hr;omega);(have HNx:Hid (QAk (L.take (j+1)) (0,0,0)=(((QAk (L.take j) (0,0,0)).1+1,max (QAk (L.take j) (0,0,0)).2.1 dj,if ka.data.toList=QBm then max (QAk (L.take j) (0,0,0)).2.2 (Fm.mk kk kn kkf).size else (QAk (L.take j) (0,0,0)).2.2))):=hnx);have HI:Hid (j < L.length):=hlt;(have hDb:D≤400:=by rw [HDR.out.1];exact hD9);(have hRb:R≤200:=by rw [HDR.out.2];exact hR9);(have hDI:(D:Int)≤400:=by omega);(have hRI:(R:Int)≤200:=by omega);(have hdI:(dj:Int)≤400:=by omega);clear hki hrs hrs' hrep2 hdc hd1 hlx hnx hD9 hR9 hrf9 hfj hlt hj hDb hRb hdj;(have go:∀ D2:Nat,D2=max D dj→True:=fun _ _=>trivial);clear go;by_cases hdd:D < dj
    ·have hdI2:(D:Int) < (dj:Int):=by omega
     (have HD2:Hid (dj=max (QAk (L.take j) (0,0,0)).2.1 dj):=by have:=HDR.out.1;show _=_;omega);clear hdd;by_cases hcut:ka.data.toList=QBm
     ·have hae:ka=⟨#[99,117,116]⟩:=by
       obtain⟨kd⟩:=ka;have:kd=#[99,117,116]:=Array.ext' hcut;rw [this]
      have hsz:=HWl.out hcut;have hnx:=HNx.out;rw [if_pos hcut] at hnx;have HN2:Hid (QAk (L.take (j+1)) (0,0,0)=_):=hnx;generalize hWL:QAr (.mk kk kn kkf) 300=WL at *;generalize (Fm.mk kk kn kkf).size=S at *;(have hWb:WL.length≤301:=by rw [← hWL];exact QCK _ _);(have hWI:(WL.length:Int)≤301:=by omega);have HWS:Hid (WL.length=S):=hsz;subst hae;clear hcut HWl hnx HNx hsz hWL hWb;go_wp2_with fail;refine (HWk.out _ (Below.refl _ _)).mono ?_;rintro e w6 ⟨u6,rfl,hu6,hb6⟩;obtain⟨g6,cp6,cs6,rfl,-⟩:=hu6;have HB6:Hid (Below wr.heap.size wr w6):=hb6;have y0':=(hb6.cell (QAI y0)).trans y0;have y1':=(hb6.cell (QAI y1)).trans y1;have y2':=(hb6.cell (QAI y2)).trans y2;have y3':=(hb6.cell (QAI y3)).trans y3;have y4':=(hb6.cell (QAI y4)).trans y4;have y5':=(hb6.cell (QAI y5)).trans y5;have y6':=(hb6.cell (QAI y6)).trans y6;clear hb6 y0 y1 y2 y3 y4 y5 y6 d1;by_cases hrr:R < WL.length
      ·have hrI:(R:Int) < (WL.length:Int):=by omega
       (have HR2:Hid (WL.length=max (QAk (L.take j) (0,0,0)).2.2 S):=by have:=HDR.out.2;have:=HWS.out;show _=_;omega);clear hrr;go_wp2_with fail;refine (HWk.out _ HB6.out).mono ?_;rintro e w7 ⟨u7,rfl,hu7,hb7⟩;obtain⟨g7,cp7,cs7,rfl,-⟩:=hu7;have HB7:Hid (Below wr.heap.size wr w7):=QAC HB6.out hb7;clear hb7 y0' y1' y2' y3' y4' y5' y6';go_wp2_with fail
       go_roundg (L.length - (j+1))
       case measure=>have:=HG.out;have:=HI.out;omega
       case rel=>exact⟨j+1,dj,WL.length,HI.out,rfl,by go_num,rfl,rfl,QAC HBr.out HB7.out,⟨by rw [HN2.out];exact HD2.out,by rw [HN2.out];exact HR2.out⟩⟩
      ·have hrI:¬ (R:Int) < (WL.length:Int):=by omega
       (have HR2:Hid (R=max (QAk (L.take j) (0,0,0)).2.2 S):=by have:=HDR.out.2;have:=HWS.out;show _=_;omega);clear hrr;go_wp2_with fail
       go_roundg (L.length - (j+1))
       case measure=>have:=HG.out;have:=HI.out;omega
       case rel=>exact⟨j+1,dj,R,HI.out,rfl,by go_num,rfl,rfl,QAC HBr.out HB6.out,⟨by rw [HN2.out];exact HD2.out,by rw [HN2.out];exact HR2.out⟩⟩
     ·have hq:(ka.toList == ([99,117,116]:List UInt8))=false:=by rw [ByteArray.toList_eq];simpa [QBm] using hcut
      have hnx:=HNx.out;rw [if_neg hcut] at hnx;have HN2:Hid (QAk (L.take (j+1)) (0,0,0)=_):=hnx;clear hcut HWl hnx HNx HWk;go_wp2_with fail
      go_roundg (L.length - (j+1))
      case measure=>have:=HG.out;have:=HI.out;omega
      case rel=>exact⟨j+1,dj,R,HI.out,rfl,by go_num,rfl,rfl,HBr,⟨by rw [HN2.out];exact HD2.out,by rw [HN2.out];exact HDR.out.2⟩⟩
    ·have hdI2:¬ (D:Int) < (dj:Int):=by omega
     (have HD2:Hid (D=max (QAk (L.take j) (0,0,0)).2.1 dj):=by have:=HDR.out.1;show _=_;omega);clear hdd;by_cases hcut:ka.data.toList=QBm
     ·have hae:ka=⟨#[99,117,116]⟩:=by
       obtain⟨kd⟩:=ka;have:kd=#[99,117,116]:=Array.ext' hcut;rw [this]
      have hsz:=HWl.out hcut;have hnx:=HNx.out;rw [if_pos hcut] at hnx;have HN2:Hid (QAk (L.take (j+1)) (0,0,0)=_):=hnx;generalize hWL:QAr (.mk kk kn kkf) 300=WL at *;generalize (Fm.mk kk kn kkf).size=S at *;(have hWb:WL.length≤301:=by rw [← hWL];exact QCK _ _);(have hWI:(WL.length:Int)≤301:=by omega);have HWS:Hid (WL.length=S):=hsz;subst hae;clear hcut HWl hnx HNx hsz hWL hWb;go_wp2_with fail;refine (HWk.out _ (Below.refl _ _)).mono ?_;rintro e w6 ⟨u6,rfl,hu6,hb6⟩;obtain⟨g6,cp6,cs6,rfl,-⟩:=hu6;have HB6:Hid (Below wr.heap.size wr w6):=hb6;have y0':=(hb6.cell (QAI y0)).trans y0;have y1':=(hb6.cell (QAI y1)).trans y1;have y2':=(hb6.cell (QAI y2)).trans y2;have y3':=(hb6.cell (QAI y3)).trans y3;have y4':=(hb6.cell (QAI y4)).trans y4;have y5':=(hb6.cell (QAI y5)).trans y5;have y6':=(hb6.cell (QAI y6)).trans y6;clear hb6 y0 y1 y2 y3 y4 y5 y6 d1;by_cases hrr:R < WL.length
      ·have hrI:(R:Int) < (WL.length:Int):=by omega
       (have HR2:Hid (WL.length=max (QAk (L.take j) (0,0,0)).2.2 S):=by have:=HDR.out.2;have:=HWS.out;show _=_;omega);clear hrr;go_wp2_with fail;refine (HWk.out _ HB6.out).mono ?_;rintro e w7 ⟨u7,rfl,hu7,hb7⟩;obtain⟨g7,cp7,cs7,rfl,-⟩:=hu7;have HB7:Hid (Below wr.heap.size wr w7):=QAC HB6.out hb7;clear hb7 y0' y1' y2' y3' y4' y5' y6';go_wp2_with fail
       go_roundg (L.length - (j+1))
       case measure=>have:=HG.out;have:=HI.out;omega
       case rel=>exact⟨j+1,D,WL.length,HI.out,rfl,by go_num,rfl,rfl,QAC HBr.out HB7.out,⟨by rw [HN2.out];exact HD2.out,by rw [HN2.out];exact HR2.out⟩⟩
      ·have hrI:¬ (R:Int) < (WL.length:Int):=by omega
       (have HR2:Hid (R=max (QAk (L.take j) (0,0,0)).2.2 S):=by have:=HDR.out.2;have:=HWS.out;show _=_;omega);clear hrr;go_wp2_with fail
       go_roundg (L.length - (j+1))
       case measure=>have:=HG.out;have:=HI.out;omega
       case rel=>exact⟨j+1,D,R,HI.out,rfl,by go_num,rfl,rfl,QAC HBr.out HB6.out,⟨by rw [HN2.out];exact HD2.out,by rw [HN2.out];exact HR2.out⟩⟩
     ·have hq:(ka.toList == ([99,117,116]:List UInt8))=false:=by rw [ByteArray.toList_eq];simpa [QBm] using hcut
      have hnx:=HNx.out;rw [if_neg hcut] at hnx;have HN2:Hid (QAk (L.take (j+1)) (0,0,0)=_):=hnx;clear hcut HWl hnx HNx HWk;go_wp2_with fail
      go_roundg (L.length - (j+1))
      case measure=>have:=HG.out;have:=HI.out;omega
      case rel=>exact⟨j+1,D,R,HI.out,rfl,by go_num,rfl,rfl,HBr,⟨by rw [HN2.out];exact HD2.out,by rw [HN2.out];exact HDR.out.2⟩⟩
   ·have hii:j=L.length:=by omega
    subst hii;(have hge:¬ (L.length:Int) < (L.length:Int):=by omega);have h1:=HDR.out;rw [List.take_length] at h1;have h2:=HMe.out;rw [← h2] at h1
    have hM1:M1=L.length:=by
     have h3:=QEo L (0,0,0);rw [← h2] at h3;have h4:M1=0+L.length:=h3;omega
    obtain⟨hd9,hr9⟩:=h1;simp only at hd9 hr9;subst hd9 hr9;subst hM1;clear hlt hj h2 HC3 HKD;go_wp2_with fail;go_ret;(exact⟨by simp,QAC HB5.out HBr.out⟩)
 ·have hm:=HZ.out hc
  simp only [Prod.mk.injEq] at hm;obtain⟨rfl,rfl,rfl⟩:=hm;(have hcn:(c != 0)=true:=by simpa using hc);clear HSt HZ HA hc;go_wp2_with fail;go_ret;exact⟨rfl,HBY.out⟩
end Go.Proofs.YtffkoiemnchdgadGreat
