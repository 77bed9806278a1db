import Derived.Test.YtbmedfokpgghiacGreatB26
import Derived.Test.YtbmedfokpgghiacGreatB32
import Derived.Test.YtbmedfokpgghiacGreatB27
import Derived.Test.YtbmedfokpgghiacGreatB23
import Derived.Test.YtbmedfokpgghiacGreatB28
import Derived.Test.YtbmedfokpgghiacGreatB31
import Derived.Test.YtbmedfokpgghiacGreatB30
import Derived.Test.YtbmedfokpgghiacGreatB21
import Derived.Test.YtbmedfokpgghiacGreatB15
import Derived.Test.YtbmedfokpgghiacGreatB19
import Derived.Deep.DeepCutAuto
namespace Go.Proofs.YtbmedfokpgghiacGreat
open Go.RowKit
def QMJ:List Ru:=[.ax,.tr,.fa,.andL,.andR,.orL,.thenR,.notR,.contrL,.cut,.thenL,.notL,.orR,.contrR,.orR1,.orR2]
def QNk (t:List UInt8):Option Ru:=QMJ.find? fun r=>decide (r.text=t)
theorem QEd (q:Ru):QNk q.text=some q:=by cases q <;> rfl
theorem QFG (i:Bool) (q:Ru):QBS i q.text=if QBs i q then some q else none:=by cases i <;> cases q <;> rfl
theorem QIg {i:Bool} {t:List UInt8} (h:∀ q:Ru,q.text≠t):QBS i t=none:=by
 unfold QBS;rw [List.find?_eq_none];intro q _ hq;exact h q (of_decide_eq_true hq)
def PremSpec (i:Bool) (t:List UInt8) (f:Fm) (l r:List Fm) (ss:List (List Fm × List Fm)) (is ok:Bool):Prop :=
 (∃ q:Ru,q.text=t∧ss=QAl i q f l r∧is=QBs i q∧ok=QBY q f l r)∨((∀ q:Ru,q.text≠t)∧is=false∧ss=[]∧ok=false)
theorem PremSpec.no {i:Bool} {t:List UInt8} {f:Fm} {l r:List Fm} {ss:List (List Fm × List Fm)} {ok:Bool} (h:PremSpec i t f l r ss false ok):QBS i t=none:=by
 rcases h with ⟨q,rfl,-,h,-⟩|⟨h,-⟩
 ·rw [QFG,← h];rfl
 ·exact QIg h
theorem PremSpec.yes {i:Bool} {t:List UInt8} {f:Fm} {l r:List Fm} {ss:List (List Fm × List Fm)} {ok:Bool} (h:PremSpec i t f l r ss true ok):∃ q,QBS i t=some q∧q.text=t∧ss=QAl i q f l r∧ok=QBY q f l r:=by
 rcases h with ⟨q,rfl,hs,h,ho⟩|⟨-,h,-⟩
 ·exact⟨q,by rw [QFG,← h];rfl,rfl,hs,ho⟩
 ·cases h
theorem QGi (i:Bool) (t:ByteArray) (f:Fm) (l r:List Fm) (hl3:l.length≤300) (hr3:r.length≤300) (v VL VR:Value) (w:World) (hf:Rep w (fun _=>True) f v) (hl:FL w VL l) (hr:FL w VR r) :
  Calls Tryz.prog 104 #[.string t,v,.agg #[VL,VR],.bool i] w fun e w'=>∃ x ss is ok,e = .returned (.tuple #[x,.bool is,.bool ok])∧SQs w' x ss∧PremSpec i t.data.toList f l r ss is ok∧Below w.heap.size w w':=by
 have fin:∀ q:Ru,∀ t':ByteArray,t'.data.toList=q.text→(Calls Tryz.prog 104 #[.string t',v,.agg #[VL,VR],.bool i] w fun e w'=>∃ x,e = .returned (.tuple #[x,.bool (QBs i q),.bool (QBY q f l r)])∧SQs w' x (QAl i q f l r)∧Below w.heap.size w w')→Calls Tryz.prog 104 #[.string t',v,.agg #[VL,VR],.bool i] w fun e w'=>∃ x ss is ok,e = .returned (.tuple #[x,.bool is,.bool ok])∧SQs w' x ss∧PremSpec i t'.data.toList f l r ss is ok∧Below w.heap.size w w':=fun q t' ht h=>by
  refine h.mono ?_;rintro e w' ⟨x,he,hs,hb⟩;exact⟨x,_,_,_,he,hs,Or.inl ⟨q,ht.symm,rfl,rfl,rfl⟩,hb⟩
 (have un:∀ (q:Ru) (b:ByteArray),b.data.toList=q.text→t.data.toList=q.text→t=b:=fun q b h1 h2=>by apply ByteArray.ext;apply Array.ext';rw [h1,h2]);(have no:∀ q:Ru,¬ t.data.toList=q.text→(t.toList == q.text)=false:=fun q h=>by rw [ByteArray.toList_eq];simpa using h);by_cases h0:t.data.toList=Ru.text .ax
 ·rw [un .ax ⟨#[97,120]⟩ rfl h0]
  exact fin .ax _ rfl (QJc i .ax _ (Or.inl ⟨rfl,rfl⟩) f l r hl3 hr3 v VL VR w hf hl hr)
 by_cases h1:t.data.toList=Ru.text .tr
 ·rw [un .tr ⟨#[116,114,117,101]⟩ rfl h1]
  exact fin .tr _ rfl (QJc i .tr _ (Or.inr (Or.inl ⟨rfl,rfl⟩)) f l r hl3 hr3 v VL VR w hf hl hr)
 by_cases h2:t.data.toList=Ru.text .fa
 ·rw [un .fa ⟨#[102,97,108,115,101]⟩ rfl h2]
  exact fin .fa _ rfl (QJc i .fa _ (Or.inr (Or.inr ⟨rfl,rfl⟩)) f l r hl3 hr3 v VL VR w hf hl hr)
 by_cases h3:t.data.toList=Ru.text .andL
 ·rw [un .andL ⟨#[97,110,100,45,108]⟩ rfl h3]
  exact fin .andL _ rfl (QJa i .andL _ (Or.inl ⟨rfl,rfl⟩) f l r hl3 hr3 v VL VR w hf hl hr)
 by_cases h4:t.data.toList=Ru.text .andR
 ·rw [un .andR ⟨#[97,110,100,45,114]⟩ rfl h4]
  exact fin .andR _ rfl (QJa i .andR _ (Or.inr (Or.inl ⟨rfl,rfl⟩)) f l r hl3 hr3 v VL VR w hf hl hr)
 by_cases h5:t.data.toList=Ru.text .orL
 ·rw [un .orL ⟨#[111,114,45,108]⟩ rfl h5]
  exact fin .orL _ rfl (QJa i .orL _ (Or.inr (Or.inr ⟨rfl,rfl⟩)) f l r hl3 hr3 v VL VR w hf hl hr)
 by_cases h6:t.data.toList=Ru.text .thenR
 ·rw [un .thenR ⟨#[116,104,101,110,45,114]⟩ rfl h6]
  exact fin .thenR _ rfl (QJb i .thenR _ (Or.inl ⟨rfl,rfl⟩) f l r hl3 hr3 v VL VR w hf hl hr)
 by_cases h7:t.data.toList=Ru.text .notR
 ·rw [un .notR ⟨#[110,111,116,45,114]⟩ rfl h7]
  exact fin .notR _ rfl (QJb i .notR _ (Or.inr (Or.inl ⟨rfl,rfl⟩)) f l r hl3 hr3 v VL VR w hf hl hr)
 by_cases h8:t.data.toList=Ru.text .contrL
 ·rw [un .contrL ⟨#[99,111,110,116,114,45,108]⟩ rfl h8]
  exact fin .contrL _ rfl (QHY i .contrL _ (Or.inr (Or.inr (Or.inl ⟨rfl,rfl⟩))) f l r hl3 hr3 v VL VR w hf hl hr)
 by_cases h9:t.data.toList=Ru.text .cut
 ·rw [un .cut ⟨#[99,117,116]⟩ rfl h9]
  exact fin .cut _ rfl (QOH i .cut _ ⟨rfl,rfl⟩ f l r hl3 hr3 v VL VR w hf hl hr)
 by_cases h10:t.data.toList=Ru.text .thenL
 ·rw [un .thenL ⟨#[116,104,101,110,45,108]⟩ rfl h10]
  exact fin .thenL _ rfl (QMp i .thenL _ (Or.inl ⟨rfl,rfl⟩) f l r hl3 hr3 v VL VR w hf hl hr)
 by_cases h11:t.data.toList=Ru.text .notL
 ·rw [un .notL ⟨#[110,111,116,45,108]⟩ rfl h11]
  exact fin .notL _ rfl (QMp i .notL _ (Or.inr ⟨rfl,rfl⟩) f l r hl3 hr3 v VL VR w hf hl hr)
 by_cases h12:t.data.toList=Ru.text .orR
 ·rw [un .orR ⟨#[111,114,45,114]⟩ rfl h12]
  exact fin .orR _ rfl (QJb i .orR _ (Or.inr (Or.inr ⟨rfl,rfl⟩)) f l r hl3 hr3 v VL VR w hf hl hr)
 by_cases h13:t.data.toList=Ru.text .contrR
 ·rw [un .contrR ⟨#[99,111,110,116,114,45,114]⟩ rfl h13]
  exact fin .contrR _ rfl (QHY i .contrR _ (Or.inr (Or.inr (Or.inr ⟨rfl,rfl⟩))) f l r hl3 hr3 v VL VR w hf hl hr)
 by_cases h14:t.data.toList=Ru.text .orR1
 ·rw [un .orR1 ⟨#[111,114,45,114,49]⟩ rfl h14]
  exact fin .orR1 _ rfl (QHY i .orR1 _ (Or.inl ⟨rfl,rfl⟩) f l r hl3 hr3 v VL VR w hf hl hr)
 by_cases h15:t.data.toList=Ru.text .orR2
 ·rw [un .orR2 ⟨#[111,114,45,114,50]⟩ rfl h15]
  exact fin .orR2 _ rfl (QHY i .orR2 _ (Or.inr (Or.inl ⟨rfl,rfl⟩)) f l r hl3 hr3 v VL VR w hf hl hr)
 refine (QOI i t (no .ax h0) (no .tr h1) (no .fa h2) (no .andL h3) (no .andR h4) (no .orL h5) (no .thenR h6) (no .notR h7) (no .contrL h8) (no .cut h9) (no .thenL h10) (no .notL h11) (no .orR h12) (no .contrR h13) (no .orR1 h14) (no .orR2 h15) f l r hl3 hr3 v VL VR w hf hl hr).mono ?_;rintro e w' ⟨x,he,hs,hb⟩;(refine⟨x,_,_,_,he,hs,Or.inr ⟨fun q e => ?_,rfl,rfl,rfl⟩,hb⟩)
 cases q
 all_goals first|exact h0 e.symm|exact h1 e.symm|exact h2 e.symm|exact h3 e.symm|exact h4 e.symm|exact h5 e.symm|exact h6 e.symm|exact h7 e.symm|exact h8 e.symm|exact h9 e.symm|exact h10 e.symm|exact h11 e.symm|exact h12 e.symm|exact h13 e.symm|exact h14 e.symm|exact h15 e.symm
def Pf.lawT:Pf→List UInt8
 | .mk a _ _ _ _=>a.data.toList
def QCh:Value→World→Prop:=fun _ _=>True
theorem QCX:QDF QCh:=fun _ _ _ _ _=>trivial
theorem QMd {ks:List Pf} {ss:List (List Fm × List Fm)} {j:Nat} {k:Pf} {s:List Fm × List Fm} (h1:ks[j]? = some k) (h2:ss[j]? = some s):QBq (ks.drop j) (ss.drop j)=if QEB k.l s.1 && QEB k.r s.2 then QBq (ks.drop (j+1)) (ss.drop (j+1)) else 7:=by
 have hi:=(List.getElem?_eq_some_iff.1 h1).1;have hj:=(List.getElem?_eq_some_iff.1 h2).1;rw [List.drop_eq_getElem_cons hi,List.drop_eq_getElem_cons hj,QBq];rw [List.getElem?_eq_getElem hi] at h1;rw [List.getElem?_eq_getElem hj] at h2;rw [Option.some.inj h1,Option.some.inj h2]
theorem SQs.len2 {w:World} {v:Value} {ss:List (List Fm × List Fm)} (h:SQs w v ss):∃ ad cap,v = .slice ad ss.length cap∧ss.length≤cap∧cap≤maxLen:=by
 obtain⟨ad,cap,h1,h2,h3,-⟩:=h;exact⟨ad,cap,h1,h2,h3⟩
theorem QLW (i:Bool) (q:Ru) (f:Fm) (l r:List Fm):(QAl i q f l r).length≤2:=by cases q <;> simp [QAl]
theorem QIa (i:Bool) (q:Ru) (f:Fm) (l r:List Fm) (hl:l.length≤300) (hr:r.length≤300):∀ s∈QAl i q f l r,s.1.length≤302∧s.2.length≤302:=by
 have h1:(l.erase f).length≤l.length:=List.length_erase_le;have h2:(r.erase f).length≤r.length:=List.length_erase_le;intro s hs
 cases i <;> cases q <;> simp [QAl] at hs
 all_goals first
  | (rcases hs with rfl|rfl <;> simp <;> omega)
  | (subst hs;simp;omega)
theorem QCm {ops:Array Oper} {tm:Array Value} {df:List Deferred} {a0:Act} (lo n:Nat) (hin:(ops.toList.all fun o=>match o.dst with|some d=>decide (lo≤d∧lo+n > d)|none=>true)=true) (hlen:lo+n≤a0.tmps.size) (h:QBV ops a0 ⟨tm,df⟩):∃ ys:List Value,ys.length=n∧tm=⟨a0.tmps.toList.take lo++(ys++a0.tmps.toList.drop (lo+n))⟩∧df=a0.defers:=by
 obtain⟨h1,h2,h3⟩:=h;have h1':tm.toList.length=a0.tmps.toList.length:=h1;have hl:lo+n≤a0.tmps.toList.length:=hlen
 have old:∀ t,(t < lo∨lo+n≤t)→tm.toList[t]? = a0.tmps.toList[t]? := fun t ht=>by
  have:=h3 t (by
   rw [List.all_eq_true] at hin ⊢;intro o ho;have:=hin o ho
   cases hd:o.dst with
   | none=>rfl
   | some d =>
    rw [hd] at this;have:=of_decide_eq_true this;(refine bne_iff_ne.2 fun e => ?_);have e2:d=t:=Option.some.inj e;subst e2
    omega)
  simpa using this
 (refine⟨(tm.toList.drop lo).take n,by rw [List.length_take,List.length_drop];omega,?_,h2⟩);apply Array.ext';apply List.ext_getElem?;intro t
 rcases Nat.lt_or_ge t lo with ht|ht
 ·rw [List.getElem?_append_left (by rw [List.length_take];omega),List.getElem?_take_of_lt ht]
  exact old t (Or.inl ht)
 ·rw [List.getElem?_append_right (by rw [List.length_take];omega),List.length_take,Nat.min_eq_left (by omega)]
  rcases Nat.lt_or_ge t (lo+n) with ht2|ht2
  ·rw [List.getElem?_append_left (by rw [List.length_take,List.length_drop];omega),List.getElem?_take_of_lt (by omega),List.getElem?_drop]
   congr 1
   omega
  ·rw [List.getElem?_append_right (by rw [List.length_take,List.length_drop];omega),List.length_take,List.length_drop,Nat.min_eq_left (by omega),List.getElem?_drop,old t (Or.inr ht2)]
   congr 1
   omega
theorem QHZ (l:List Value) (h0:l.length=24):∃ x0 x1 x2 x3 x4 x5 x6 x7 x8 x9 x10 x11 x12 x13 x14 x15 x16 x17 x18 x19 x20 x21 x22 x23,l=[x0,x1,x2,x3,x4,x5,x6,x7,x8,x9,x10,x11,x12,x13,x14,x15,x16,x17,x18,x19,x20,x21,x22,x23]:=by
 obtain⟨x0,l1,e0,h1⟩:=QAD h0;obtain⟨x1,l2,e1,h2⟩:=QAD h1;obtain⟨x2,l3,e2,h3⟩:=QAD h2;obtain⟨x3,l4,e3,h4⟩:=QAD h3;obtain⟨x4,l5,e4,h5⟩:=QAD h4;obtain⟨x5,l6,e5,h6⟩:=QAD h5;obtain⟨x6,l7,e6,h7⟩:=QAD h6;obtain⟨x7,l8,e7,h8⟩:=QAD h7;obtain⟨x8,l9,e8,h9⟩:=QAD h8;obtain⟨x9,l10,e9,h10⟩:=QAD h9;obtain⟨x10,l11,e10,h11⟩:=QAD h10;obtain⟨x11,l12,e11,h12⟩:=QAD h11;obtain⟨x12,l13,e12,h13⟩:=QAD h12;obtain⟨x13,l14,e13,h14⟩:=QAD h13;obtain⟨x14,l15,e14,h15⟩:=QAD h14;obtain⟨x15,l16,e15,h16⟩:=QAD h15;obtain⟨x16,l17,e16,h17⟩:=QAD h16;obtain⟨x17,l18,e17,h18⟩:=QAD h17;obtain⟨x18,l19,e18,h19⟩:=QAD h18;obtain⟨x19,l20,e19,h20⟩:=QAD h19;obtain⟨x20,l21,e20,h21⟩:=QAD h20;obtain⟨x21,l22,e21,h22⟩:=QAD h21;obtain⟨x22,l23,e22,h23⟩:=QAD h22;obtain⟨x23,l24,e23,h24⟩:=QAD h23;have e24:l24=[]:=List.length_eq_zero_iff.1 h24;subst e24 e23 e22 e21 e20 e19 e18 e17 e16 e15 e14 e13 e12 e11 e10 e9 e8 e7 e6 e5 e4 e3 e2 e1 e0;exact⟨x0,x1,x2,x3,x4,x5,x6,x7,x8,x9,x10,x11,x12,x13,x14,x15,x16,x17,x18,x19,x20,x21,x22,x23,rfl⟩
theorem QHa (l:List Value) (h0:l.length=30):∃ x0 x1 x2 x3 x4 x5 x6 x7 x8 x9 x10 x11 x12 x13 x14 x15 x16 x17 x18 x19 x20 x21 x22 x23 x24 x25 x26 x27 x28 x29,l=[x0,x1,x2,x3,x4,x5,x6,x7,x8,x9,x10,x11,x12,x13,x14,x15,x16,x17,x18,x19,x20,x21,x22,x23,x24,x25,x26,x27,x28,x29]:=by
 obtain⟨x0,l1,e0,h1⟩:=QAD h0;obtain⟨x1,l2,e1,h2⟩:=QAD h1;obtain⟨x2,l3,e2,h3⟩:=QAD h2;obtain⟨x3,l4,e3,h4⟩:=QAD h3;obtain⟨x4,l5,e4,h5⟩:=QAD h4;obtain⟨x5,l6,e5,h6⟩:=QAD h5;obtain⟨x6,l7,e6,h7⟩:=QAD h6;obtain⟨x7,l8,e7,h8⟩:=QAD h7;obtain⟨x8,l9,e8,h9⟩:=QAD h8;obtain⟨x9,l10,e9,h10⟩:=QAD h9;obtain⟨x10,l11,e10,h11⟩:=QAD h10;obtain⟨x11,l12,e11,h12⟩:=QAD h11;obtain⟨x12,l13,e12,h13⟩:=QAD h12;obtain⟨x13,l14,e13,h14⟩:=QAD h13;obtain⟨x14,l15,e14,h15⟩:=QAD h14;obtain⟨x15,l16,e15,h16⟩:=QAD h15;obtain⟨x16,l17,e16,h17⟩:=QAD h16;obtain⟨x17,l18,e17,h18⟩:=QAD h17;obtain⟨x18,l19,e18,h19⟩:=QAD h18;obtain⟨x19,l20,e19,h20⟩:=QAD h19;obtain⟨x20,l21,e20,h21⟩:=QAD h20;obtain⟨x21,l22,e21,h22⟩:=QAD h21;obtain⟨x22,l23,e22,h23⟩:=QAD h22;obtain⟨x23,l24,e23,h24⟩:=QAD h23;obtain⟨x24,l25,e24,h25⟩:=QAD h24;obtain⟨x25,l26,e25,h26⟩:=QAD h25;obtain⟨x26,l27,e26,h27⟩:=QAD h26;obtain⟨x27,l28,e27,h28⟩:=QAD h27;obtain⟨x28,l29,e28,h29⟩:=QAD h28;obtain⟨x29,l30,e29,h30⟩:=QAD h29;have e30:l30=[]:=List.length_eq_zero_iff.1 h30;subst e30 e29 e28 e27 e26 e25 e24 e23 e22 e21 e20 e19 e18 e17 e16 e15 e14 e13 e12 e11 e10 e9 e8 e7 e6 e5 e4 e3 e2 e1 e0;exact⟨x0,x1,x2,x3,x4,x5,x6,x7,x8,x9,x10,x11,x12,x13,x14,x15,x16,x17,x18,x19,x20,x21,x22,x23,x24,x25,x26,x27,x28,x29,rfl⟩
set_option maxRecDepth 20000 in
set_option maxHeartbeats 16000000 in
theorem QNm (i:Bool) (p:Pf) (HA0:Hid (p.lawT≠QBw)) (hsm:SmallP p) (v:Value) (w:World) (hv:PRep w p v) :
  Calls Tryz.prog 59 #[v,.bool i] w fun e w'=>e = .returned (.int .i64 (QBa i p))∧Below w.heap.size w w':=by
 obtain⟨a,⟨k,n,kf⟩,l,r,ks⟩:=p;have HW0:Hid (a.data.toList≠QBw):=HA0.out;clear HA0;obtain⟨hl3,hr3,hk3,hsk⟩:=hsm.parts;obtain⟨sf,cf,al,cl,ar,cr,sl,cap,rfl,ha,hf,hl,hr,hkc,hcm,hks⟩:=hv.parts;(have HF:Hid (Rep w (fun _=>True) (.mk k n kf) _):=hf);have HL:Hid (FL w (.slice al l.length cl) l):=hl;have HR:Hid (FL w (.slice ar r.length cr) r):=hr;have HK:Hid (ks≠[]→∃ b off,sl=some ⟨b,off,none⟩∧PReps w b off ks):=hks;have HSK:Hid (∀ k∈ks,SmallP k):=hsk;(have hkI:(ks.length:Int)≤1200:=by omega);(have hrI:(r.length:Int)≤300:=by omega);obtain⟨T,hT⟩:∃ T,T=QBa i (.mk a (.mk k n kf) l r ks):=⟨_,rfl⟩;rw [← hT];have HT:Hid (T=QBa i (.mk a (.mk k n kf) l r ks)):=hT;obtain⟨O,hO⟩:∃ O,O=Obj.cells #[.string a,.int .i64 k,.string n,.slice sf kf.length cf,.slice al l.length cl,.slice ar r.length cr,.slice sl ks.length cap] 32 (0,0):=⟨_,rfl⟩;have p1:(w.alloc O).heap[w.heap.size]? = some O:=QAH w O;rw [hO] at p1;have P1:Hid ((w.alloc (.cells #[.string a,.int .i64 k,.string n,.slice sf kf.length cf,.slice al l.length cl,.slice ar r.length cr,.slice sl ks.length cap] 32 (0,0))).heap[w.heap.size]? = some _):=p1;have B0:=QAB (Below.refl _ w) (.cells #[.string a,.int .i64 k,.string n,.slice sf kf.length cf,.slice al l.length cl,.slice ar r.length cr,.slice sl ks.length cap] 32 (0,0));(have hsq:=fun wx (hb:Below w.heap.size w wx)=>QDZ l r (by omega) (by omega) _ _ wx (HL.out.up hb) (HR.out.up hb));(have HS0:Hid ((QAd l r).1≠0→T=5):=fun h=>by rw [HT.out,QBa,if_pos (Or.inl h)]);(have HS1:Hid (i=true→1 < r.length→T=5):=fun h1 h2=>by rw [HT.out,QBa,if_pos (Or.inr ⟨h1,h2⟩)])
 have HS2:Hid ((QAd l r).1=0→¬ (i=true∧1 < r.length)→T=if a.data.toList=QBw then QDT (.mk k n kf) l r ks else match QBS i a.data.toList with
   | none=>4
   | some q=>if (Fm.mk k n kf).pcode.1≠0 then 5 else match QCw i q (.mk k n kf) l r with
    | none=>7
    | some ss=>if ks.length≠ss.length then 9 else QBq ks ss):=fun h1 h2=>by
  (rw [HT.out,QBa,if_neg (fun e=>e.elim (fun e=>e h1) h2)]);rfl
 generalize QAd l r=sq at *;obtain⟨s1,s2⟩:=sq;have HSQ:Hid (∀ wx,Below w.heap.size w wx→Calls Tryz.prog 11 _ wx _):=hsq;(have hfc:=fun a b w=>QDV a b w);clear hf hl hr hks hsk hv hsm hT hsq p1 hO
 go_enter Tryz.func59,Tryz.ntmps59
 go_upto_region 1 with fail
 go_cut [26] from 12 to 26 (fun v wc=>∃ c,v = .bool c∧Hid (c=true→T=5)∧Hid (c=false→T=if a.data.toList=QBw then QDT (.mk k n kf) l r ks else match QBS i a.data.toList with
   | none=>4
   | some q=>if (Fm.mk k n kf).pcode.1≠0 then 5 else match QCw i q (.mk k n kf) l r with
    | none=>7
    | some ss=>if ks.length≠ss.length then 9 else QBq ks ss)∧Hid (Below w.heap.size w wc)∧Hid (wc.heap[w.heap.size]? = some (.cells #[.string a,.int .i64 k,.string n,.slice sf kf.length cf,.slice al l.length cl,.slice ar r.length cr,.slice sl ks.length cap] 32 (0,0))))
 case first =>
  go_wp2_with fail;refine (HSQ.out _ B0).mono ?_;rintro e w1 ⟨rfl,hb1⟩;have B1:=QAC B0 hb1;have Q1:Hid (w1.heap[w.heap.size]? = some _):=QAA hb1 P1.out;obtain⟨j0,j1,j2,j3,j4,j5,j6⟩:=QAj Q1.out;clear hb1 P1 B0 HSQ;by_cases hs1:s1=0
  case neg =>
   (have hsJ:(s1 != 0)=true:=by simpa using hs1);have H5:Hid (T=5):=HS0.out hs1;go_wp2_with fail;go_meet;(exact⟨true,rfl,fun _=>H5.out,(fun h=>nomatch h),B1,Q1.out⟩)
  subst hs1
  cases i
  ·have HN:=HS2.out rfl (fun h=>nomatch h.1)
   go_wp2_with fail;go_meet;(exact⟨false,rfl,(fun h=>nomatch h),fun _=>HN,B1,Q1.out⟩)
  ·by_cases h1:1 < r.length
   ·have h1I:(1:Int) < (r.length:Int):=by omega
    have H5:Hid (T=5):=HS1.out rfl h1;go_wp2_with fail;go_meet;(exact⟨true,rfl,fun _=>H5.out,(fun h=>nomatch h),B1,Q1.out⟩)
   ·have h1I:¬ (1:Int) < (r.length:Int):=by omega
    (have HN:=HS2.out rfl (fun h=>h1 h.2));go_wp2_with fail;go_meet;(exact⟨false,by rw [decide_eq_false (show ¬ (1:Int) < (r.length:Int) by omega)],(fun h=>nomatch h),fun _=>HN,B1,Q1.out⟩)
 obtain⟨cc,rfl,H5,HN,B1,Q1⟩:=hcut;clear HS0 HS1 HS2 HSQ P1 B0;obtain⟨w1,hw1⟩:∃ x,x=wc:=⟨_,rfl⟩;subst hw1;have B1:=B1.out;obtain⟨j0,j1,j2,j3,j4,j5,j6⟩:=QAj Q1.out
 cases cc
 case true =>
  have H6:Hid (T=5):=H5.out rfl;clear H5 HN;go_wp2_with fail;go_ret;(exact⟨by rw [H6.out];rfl,B1⟩)
 have HTT:=HN.out rfl;clear HN H5;have hw:=HW0.out;clear HW0
 ·rw [if_neg hw] at HTT
  (have hwj:(a.toList == ([119,101,97,107]:List UInt8))=false:=by rw [ByteArray.toList_eq];simpa [QBw] using hw)
  have HT1:Hid (T=match QBS i a.data.toList with
   | none=>4
   | some q=>if (Fm.mk k n kf).pcode.1≠0 then 5 else match QCw i q (.mk k n kf) l r with
    | none=>7
    | some ss=>if ks.length≠ss.length then 9 else QBq ks ss):=HTT
  (have HPR0:Hid (∀ wx,Below w.heap.size w wx→Calls Tryz.prog 104 #[.string a,.agg #[.int .i64 0,.string ⟨#[]⟩,.slice none 0 0],.agg #[.slice al l.length cl,.slice ar r.length cr],.bool i] wx fun e w'=>∃ x ss is ok,e = .returned (.tuple #[x,.bool is,.bool ok])∧SQs w' x ss∧PremSpec i a.data.toList QAR l r ss is ok∧Below wx.heap.size wx w'):=fun wx hb=>QGi i a QAR l r hl3 hr3 _ _ _ wx (Rep.leaf (by simp [maxLen,ByteArray.size])) (HL.out.up hb) (HR.out.up hb));(have HPR1:Hid (∀ wx,Below w.heap.size w wx→Calls Tryz.prog 104 #[.string a,.agg #[.int .i64 k,.string n,.slice sf kf.length cf],.agg #[.slice al l.length cl,.slice ar r.length cr],.bool i] wx fun e w'=>∃ x ss is ok,e = .returned (.tuple #[x,.bool is,.bool ok])∧SQs w' x ss∧PremSpec i a.data.toList (.mk k n kf) l r ss is ok∧Below wx.heap.size wx w'):=fun wx hb=>QGi i a (.mk k n kf) l r hl3 hr3 _ _ _ wx (HF.out.up hb) (HL.out.up hb) (HR.out.up hb));(have hpl:=fun v (w:World) h=>QFn [.mk k n kf] (by simp) v w h);rw [QFm] at hpl;(have HFI:Hid ((Fm.mk k n kf).pcode.1=0→Fine (.mk k n kf)):=fun h=>(QAs h).1);generalize (Fm.mk k n kf).pcode=pc at *;obtain⟨pc1,pc2⟩:=pc;have HPF:Hid (∀ v w,FL w v [.mk k n kf]→Calls Tryz.prog 34 #[v] w _):=hpl;clear HTT hw HT hpl
  all_goals
   go_wp2_with fail;refine (HPR0.out _ B1).mono ?_;rintro e w2 ⟨x2,ss2,is2,ok2,rfl,hsq2,hps2,hb2⟩;have B2:=QAC B1 hb2;have Q2:Hid (w2.heap[w.heap.size]? = some _):=QAA hb2 Q1.out;obtain⟨ad2,cp2,rfl,-,-⟩:=hsq2.len2;have HPS2:Hid (PremSpec i _ _ _ _ _ _ _):=hps2;clear j0 j1 j2 j3 j4 j5 j6 hb2 hsq2 hps2 HPR0;obtain⟨j0,j1,j2,j3,j4,j5,j6⟩:=QAj Q2.out
   cases is2
   ·have H4:Hid (T=4):=by
     show _=_;rw [HT1.out,HPS2.out.no]
    clear HPS2;go_wp2_with fail;go_ret;(exact⟨by rw [H4.out];rfl,B2⟩)
   obtain⟨q,hq,hqt,-,-⟩:=HPS2.out.yes;have HQT:Hid (q.text=a.data.toList):=hqt;have HT2:=HT1.out;rw [hq] at HT2
   have HT3:Hid (T=if (pc1,pc2).1≠0 then 5 else match QCw i q (.mk k n kf) l r with
    | none=>7
    | some ss=>if ks.length≠ss.length then 9 else QBq ks ss):=HT2
   clear HT2 HT1 hq hqt HPS2;go_wp2_with fail;refine (HPF.out _ _ (FL.sing (QAH w2 _) ((HF.out.up B2).more _))).mono ?_;rintro e w3 ⟨rfl,hb3⟩;have B3:=QAC (QAB B2 _) hb3;have Q3:Hid (w3.heap[w.heap.size]? = some _):=QAA hb3 (QAG Q2.out _);clear j0 j1 j2 j3 j4 j5 j6 hb3;obtain⟨j0,j1,j2,j3,j4,j5,j6⟩:=QAj Q3.out;by_cases hp:pc1=0
   case neg =>
    (have hpJ:(pc1 != 0)=true:=by simpa using hp);(have hif:(if (pc1,pc2).1=0 then ((0:Int),(0:Int)) else (pc1,pc2))=(pc1,pc2):=if_neg hp);rw [hif]
    have H5:Hid (T=5):=by
     show _=_;rw [HT3.out,if_pos (show (pc1,pc2).1≠0 from hp)]
    clear hif hp;go_wp2_with fail;go_ret;(exact⟨by rw [H5.out];rfl,B3⟩)
   subst hp;(have hif:(if ((0:Int),pc2).1=0 then ((0:Int),(0:Int)) else (0,pc2))=(0,0):=if_pos rfl);rw [hif];have hfine:=HFI.out rfl;have HT4:=HT3.out;(rw [if_neg (show ¬ ((0:Int),pc2).1≠0 from fun h=>h rfl),QNf _ q _ hfine] at HT4)
   have HT5:Hid (T=match (if QBY q (.mk k n kf) l r then some (QAl i q (.mk k n kf) l r) else none) with
    | none=>7
    | some ss=>if ks.length≠ss.length then 9 else QBq ks ss):=HT4
   clear HT4 HT3 hif hfine HFI HPF;go_wp2_with fail;refine (HPR1.out _ B3).mono ?_;rintro e w4 ⟨x4,ss,is4,ok4,rfl,hsq4,hps4,hb4⟩;have B4:=QAC B3 hb4;have Q4:Hid (w4.heap[w.heap.size]? = some _):=QAA hb4 Q3.out;obtain⟨ads,cps,rfl,hsc,hsmx⟩:=hsq4.len2
   have hspec:ss=QAl i q (.mk k n kf) l r∧ok4=QBY q (.mk k n kf) l r:=by
    rcases hps4 with ⟨q',hqt',h1,-,h2⟩|⟨hno,-⟩
    ·have e:q'=q:=Option.some.inj ((QEd q').symm.trans (by rw [hqt',← HQT.out];exact QEd q))
     rw [← e];exact⟨h1,h2⟩
    ·exact absurd HQT.out (hno q)
   have HT6:=HT5.out;rw [← hspec.1,← hspec.2] at HT6;(have hss2:ss.length≤2:=by rw [hspec.1];exact QLW _ _ _ _ _)
   have HSS:Hid (∀ s∈ss,s.1.length≤302∧s.2.length≤302):=by
    show ∀ s∈ss,_;rw [hspec.1];exact QIa _ _ _ _ _ hl3 hr3
   have HT7:Hid (T=match (if ok4 then some ss else none) with
    | none=>7
    | some ss=>if ks.length≠ss.length then 9 else QBq ks ss):=HT6
   have HSQ4:Hid (SQs w4 (.slice ads ss.length cps) ss):=hsq4;clear j0 j1 j2 j3 j4 j5 j6 hb4 hsq4 hps4 hspec HT6 HT5 HPR1 HQT hsmx;obtain⟨j0,j1,j2,j3,j4,j5,j6⟩:=QAj Q4.out;(have hssI:(ss.length:Int)≤2:=by omega)
   cases ok4
   ·have H7:Hid (T=7):=HT7.out
    clear HT7;go_wp2_with fail;go_ret;(exact⟨by rw [H7.out];rfl,B4⟩)
   (have HT8:Hid (T=if ks.length≠ss.length then 9 else QBq ks ss):=HT7.out);clear HT7;by_cases hlen:ks.length=ss.length
   case neg =>
    (have hlJ:((ks.length:Int) != (ss.length:Int))=true:=by simp;omega)
    have H9:Hid (T=9):=by
     show _=_;rw [HT8.out,if_pos hlen]
    clear hlen HT8;go_wp2_with fail;go_ret;(exact⟨by rw [H9.out];rfl,B4⟩)
   (have hlJ:((ks.length:Int) != (ss.length:Int))=false:=by simp;omega)
   have HT9:Hid (T=QBq (ks.drop 0) (ss.drop 0)):=by
    show _=_;(rw [HT8.out,if_neg (fun h=>h hlen)]);rfl
   have HLE:Hid (ks.length=ss.length):=hlen;have HB4:Hid (Below w.heap.size w w4):=B4;clear hlen HT8 B1 B2 B3 B4;go_wp2_with fail;clear j0 j1 j2 j3 j4 j5 j6 hlJ
   go_loopg [11] ss.length (fun g c wr=>∃ j,j≤ss.length∧g=ss.length - j∧c = .int .i64 (j:Nat)∧Hid (Below w4.heap.size w4 wr)∧Hid (T=QBq (ks.drop j) (ss.drop j)))
   case atStart=>exact⟨0,by omega,by omega,rfl,Below.refl _ _,HT9⟩
   case round =>
    obtain⟨j,hj,hg,rfl,HBr,HTj⟩:=hrel;have HG:Hid (gk=ss.length - j):=hg;clear hg HT9;have BR:Hid (Below w.heap.size w wr):=QAC HB4.out HBr.out;by_cases hlt:j < ss.length
    ·obtain⟨⟨S1,S2⟩,hsj⟩:∃ s,ss[j]? = some s:=⟨_,List.getElem?_eq_getElem hlt⟩
     (obtain⟨⟨ka,⟨kk,kn,kkf⟩,kl,kr,kks⟩,hkj⟩:∃ s,ks[j]? = some s:=⟨_,List.getElem?_eq_getElem (by have:=HLE.out;omega)⟩);(have hltI:(j:Int) < (ss.length:Int):=by omega);(have hltK:(j:Int) < (ks.length:Int):=by have:=HLE.out;omega);(have hlcK:(j:Int) < (cap:Int):=by omega);(have hlcS:(j:Int) < (cps:Int):=by omega);(obtain⟨b,off,rfl,hrs⟩:=HK.out (fun e=>by rw [e] at hkj;simp at hkj));obtain⟨hkl3,hkr3,-,-⟩:=(HSK.out _ (List.mem_of_getElem? hkj)).parts;obtain⟨sf2,cf2,al2,cl2,ar2,cr2,sl2,cap2,x0,x1,x2,x3,x4,x5,x6,hrep⟩:=(PReps.up BR.out b off ks hrs).at j ka kk kn kkf kl kr kks hkj;obtain⟨_,_,_,_,_,_,_,_,hpe,-,-,hkl,hkr,-⟩:=hrep.parts;simp only [Value.agg.injEq,Array.mk.injEq,List.cons.injEq,Value.slice.injEq,and_true,true_and] at hpe;obtain⟨⟨rfl,rfl⟩,⟨rfl,rfl⟩,⟨rfl,rfl⟩,⟨rfl,rfl⟩⟩:=hpe;obtain⟨_,_,hve,-,-,hsq5⟩:=HSQ4.out;simp only [Value.slice.injEq,true_and] at hve;obtain⟨rfl,rfl⟩:=hve;(obtain⟨bs,os,rfl,hall⟩:=hsq5 (fun e=>by rw [e] at hlt;simp at hlt));obtain⟨vl,vr,c0,c1,hfl,hfr⟩:=hall j (S1,S2) hsj;have hS3:=HSS.out _ (List.mem_of_getElem? hsj);have hfl':=hfl;have hfr':=hfr;obtain⟨av,cv,rfl,-⟩:=hfl';obtain⟨au,cu,rfl,-⟩:=hfr';have HZ:Hid (b < wr.heap.size):=QAI x4;have HC:Hid (wr.cell? ⟨b,off+j * 7+4,none⟩=some (.slice al2 kl.length cl2)∧wr.cell? ⟨b,off+j * 7+5,none⟩=some (.slice ar2 kr.length cr2)):=⟨x4,x5⟩;have HZS:Hid (bs < wr.heap.size):=Nat.lt_of_lt_of_le (QAI c0) HBr.out.size;have HCS:Hid (wr.cell? ⟨bs,os+j * 2,none⟩=some (.slice av S1.length cv)∧wr.cell? ⟨bs,os+j * 2+1,none⟩=some (.slice au S2.length cu)):=⟨(HBr.out.cell (p:=⟨bs,os+j * 2,none⟩) (QAI c0)).trans c0,(HBr.out.cell (p:=⟨bs,os+j * 2+1,none⟩) (QAI c1)).trans c1⟩;(have HW1':Hid (∀ wx,Below wr.heap.size wr wx→Calls Tryz.prog 21 #[.slice av S1.length cv,.slice al2 kl.length cl2] wx fun e w'=>e = .returned (.bool (QEB S1 kl))∧Below wx.heap.size wx w'):=fun wx hb=>QHJ S1 kl (by have:S1.length≤302:=hS3.1;omega) (by omega) _ _ wx (hfl.up (QAC HBr.out hb)) (hkl.up hb));(have HW2':Hid (∀ wx,Below wr.heap.size wr wx→Calls Tryz.prog 21 #[.slice au S2.length cu,.slice ar2 kr.length cr2] wx fun e w'=>e = .returned (.bool (QEB S2 kr))∧Below wx.heap.size wx w'):=fun wx hb=>QHJ S2 kr (by have:S2.length≤302:=hS3.2;omega) (by omega) _ _ wx (hfr.up (QAC HBr.out hb)) (hkr.up hb));have HTk:=HTj.out;rw [QMd hkj hsj] at HTk;(have HTk2:Hid (T=if QEB kl S1 && QEB kr S2 then QBq (ks.drop (j+1)) (ss.drop (j+1)) else 7):=HTk);rw [QGV kl S1,QGV kr S2] at HTk2;generalize QEB S1 kl=e1 at *;generalize QEB S2 kr=e2 at *;have HBP:Hid (wr.heap[w.heap.size]? = some _):=QAA HBr.out Q4.out;clear hsj hkj hrs hrep hkl hkr hall c0 c1 hfl hfr hS3 HTk HTj HSQ4 HK HSS HSK x0 x1 x2 x3 x4 x5 x6 hsq5 HL HR
     cases e1
     ·have HW1:Hid (∀ wx,Below wr.heap.size wr wx→Calls Tryz.prog 21 #[.slice av S1.length cv,.slice al2 kl.length cl2] wx fun e w'=>e = .returned (.bool false)∧Below wx.heap.size wx w'):=HW1'
      have HT7:Hid (T=7):=HTk2.out;clear HW1' HW2' HTk2;go_wp2_with fail;(refine QAT (by kernel_rfl) [kEq (.slice (some ⟨bs,os,none⟩) ss.length cps),kEq (.int .i64 (j:Nat)),kEq (.pointer (some ⟨bs,os+j * 2,none⟩)),kEq (.pointer (some ⟨bs,os+j * 2,none⟩)),kEq (.slice av S1.length cv),kEq (.pointer (some ⟨w.heap.size,6,none⟩)),kEq (.slice (some ⟨b,off,none⟩) ks.length cap),kEq (.int .i64 (j:Nat)),kEq (.pointer (some ⟨b,off+j * 7,none⟩)),kEq (.pointer (some ⟨b,off+j * 7+4,none⟩)),kEq (.pointer (some ⟨b,off+j * 7+4,none⟩)),kEq (.slice al2 kl.length cl2),kEq (.bool false),kEq (.bool true),kEq (.bool true),QCh,QCh,QCh,QCh,QCh,QCh,QCh,QCh,QCh,QCh,QCh,QCh,QCh,QCh,kEq (.bool true)] ?_ (by kernel_rfl) (by kernel_rfl) 150 rfl (by kernel_rfl) ?_ ?_)
      ·intro p hp
       simp only [List.mem_cons,List.not_mem_nil,or_false] at hp
       rcases hp with rfl|rfl|rfl|rfl|rfl|rfl|rfl|rfl|rfl|rfl|rfl|rfl|rfl|rfl|rfl|rfl|rfl|rfl|rfl|rfl|rfl|rfl|rfl|rfl|rfl|rfl|rfl|rfl|rfl|rfl
       all_goals first|exact QAe _|exact QCX
      ·refine⟨?_,?_,?_,?_,?_,?_,?_,?_,?_,?_,?_,?_,?_,?_,?_,?_,?_,?_,?_,?_,?_,?_,?_,?_,?_,?_,?_,?_,?_,?_,trivial⟩
       ·intro a wx hB hold hdep K hK;have t8:a.tmps[8]? = some (.slice (some ⟨bs,os,none⟩) ss.length cps):=hold.2.2 8 rfl;clear hold hdep;go_simp;exact hK.out _ _ rfl (Below.refl _ _)
       ·intro a wx hB hold hdep K hK;have t11:a.tmps[11]? = some (.int .i64 (j:Nat)):=hold.2.2 11 rfl;clear hold hdep;go_simp;exact hK.out _ _ rfl (Below.refl _ _)
       ·intro a wx hB hold hdep K hK;have t120:=QAF wx (hdep 0 rfl _ 120 rfl rfl);have t121:=QAF wx (hdep 1 rfl _ 121 rfl rfl);clear hold hdep;go_simp;exact hK.out _ _ rfl (Below.refl _ _)
       ·intro a wx hB hold hdep K hK;have t122:=QAF wx (hdep 2 rfl _ 122 rfl rfl);clear hold hdep;go_simp;exact hK.out _ _ rfl (Below.refl _ _)
       ·intro a wx hB hold hdep K hK;have t123:=QAF wx (hdep 3 rfl _ 123 rfl rfl);obtain⟨g0,g1⟩:=HCS.out;have q0:=(hB.cell (p:=⟨bs,os+j * 2,none⟩) HZS.out).trans g0;have q1:=(hB.cell (p:=⟨bs,os+j * 2+1,none⟩) HZS.out).trans g1;clear g0 g1;clear hold hdep;go_simp;exact hK.out _ _ rfl (Below.refl _ _)
       ·intro a wx hB hold hdep K hK;have t2:a.tmps[2]? = some (.pointer (some ⟨w.heap.size,0,none⟩)):=hold.2.2 2 rfl;clear hold hdep;go_simp;exact hK.out _ _ rfl (Below.refl _ _)
       ·intro a wx hB hold hdep K hK;have t125:=QAF wx (hdep 5 rfl _ 125 rfl rfl);obtain⟨k0,k1,k2',k3,k4,k5,k6⟩:=QAj (QAA hB HBP.out);clear hold hdep;go_simp;exact hK.out _ _ rfl (Below.refl _ _)
       ·intro a wx hB hold hdep K hK;have t11:a.tmps[11]? = some (.int .i64 (j:Nat)):=hold.2.2 11 rfl;clear hold hdep;go_simp;exact hK.out _ _ rfl (Below.refl _ _)
       ·intro a wx hB hold hdep K hK;have t126:=QAF wx (hdep 6 rfl _ 126 rfl rfl);have t127:=QAF wx (hdep 7 rfl _ 127 rfl rfl);clear hold hdep;go_simp;exact hK.out _ _ rfl (Below.refl _ _)
       ·intro a wx hB hold hdep K hK;have t128:=QAF wx (hdep 8 rfl _ 128 rfl rfl);clear hold hdep;go_simp;exact hK.out _ _ rfl (Below.refl _ _)
       ·intro a wx hB hold hdep K hK;have t129:=QAF wx (hdep 9 rfl _ 129 rfl rfl);clear hold hdep;go_simp;exact hK.out _ _ rfl (Below.refl _ _)
       ·intro a wx hB hold hdep K hK;have t130:=QAF wx (hdep 10 rfl _ 130 rfl rfl);obtain⟨g4,g5⟩:=HC.out;have q4:=(hB.cell (p:=⟨b,off+j * 7+4,none⟩) HZ.out).trans g4;have q5:=(hB.cell (p:=⟨b,off+j * 7+5,none⟩) HZ.out).trans g5;clear g4 g5;clear hold hdep;go_simp;exact hK.out _ _ rfl (Below.refl _ _)
       ·intro a wx hB hold hdep K hK;have t124:=QAF wx (hdep 4 rfl _ 124 rfl rfl);have t131:=QAF wx (hdep 11 rfl _ 131 rfl rfl);clear hold hdep;go_simp;refine (HW1.out wx hB).mono ?_;rintro e w1 ⟨rfl,hb⟩;exact hK.out _ _ rfl hb
       ·intro a wx hB hold hdep K hK;have t132:=QAF wx (hdep 12 rfl _ 132 rfl rfl);clear hold hdep;go_simp;exact hK.out _ _ rfl (Below.refl _ _)
       ·intro a wx hB hold hdep K hK;have t133:=QAF wx (hdep 13 rfl _ 133 rfl rfl);clear hold hdep;go_simp;exact hK.out _ _ rfl (Below.refl _ _)
       iterate 14 (· intro a wx hB hold hdep K hK;have t134:=QAF wx (hdep 14 rfl _ 134 rfl rfl);clear hold hdep;go_simp;exact hK.out _ _ trivial (Below.refl _ _))
       ·intro a wx hB hold hdep K hK;have t134:=QAF wx (hdep 14 rfl _ 134 rfl rfl);clear hold hdep;go_simp;exact hK.out _ _ rfl (Below.refl _ _)
      ·intro a wx hB hold hgot
       (obtain⟨v149,t149,p149⟩:=hgot 29 _ 149 rfl rfl;have e149:v149=(.bool true):=p149;subst e149;obtain⟨tm,df⟩:=a;obtain⟨ys,hys,htm,rfl⟩:=QCm 120 30 (by kernel_rfl) (Nat.le_of_ble_eq_true rfl) hold;obtain⟨x120,x121,x122,x123,x124,x125,x126,x127,x128,x129,x130,x131,x132,x133,x134,x135,x136,x137,x138,x139,x140,x141,x142,x143,x144,x145,x146,x147,x148,x149,rfl⟩:=QHa ys hys;simp only [List.take_succ_cons,List.take_zero,List.drop_succ_cons,List.drop_zero,List.cons_append,List.nil_append] at htm;subst htm;obtain rfl:x149=_:=QAK t149;clear hys hold hgot t149 p149;have B2:=QAC BR.out hB;go_wp2_with fail;go_ret;(exact⟨by rw [HT7.out];rfl,B2⟩))
     ·have HW1:Hid (∀ wx,Below wr.heap.size wr wx→Calls Tryz.prog 21 #[.slice av S1.length cv,.slice al2 kl.length cl2] wx fun e w'=>e = .returned (.bool true)∧Below wx.heap.size wx w'):=HW1'
      cases e2
      ·have HW2:Hid (∀ wx,Below wr.heap.size wr wx→Calls Tryz.prog 21 #[.slice au S2.length cu,.slice ar2 kr.length cr2] wx fun e w'=>e = .returned (.bool false)∧Below wx.heap.size wx w'):=HW2'
       have HT7:Hid (T=7):=HTk2.out;clear HW1' HW2' HTk2;go_wp2_with fail;(refine QAT (by kernel_rfl) [kEq (.slice (some ⟨bs,os,none⟩) ss.length cps),kEq (.int .i64 (j:Nat)),kEq (.pointer (some ⟨bs,os+j * 2,none⟩)),kEq (.pointer (some ⟨bs,os+j * 2,none⟩)),kEq (.slice av S1.length cv),kEq (.pointer (some ⟨w.heap.size,6,none⟩)),kEq (.slice (some ⟨b,off,none⟩) ks.length cap),kEq (.int .i64 (j:Nat)),kEq (.pointer (some ⟨b,off+j * 7,none⟩)),kEq (.pointer (some ⟨b,off+j * 7+4,none⟩)),kEq (.pointer (some ⟨b,off+j * 7+4,none⟩)),kEq (.slice al2 kl.length cl2),kEq (.bool true),kEq (.bool false),kEq (.bool false),kEq (.slice (some ⟨bs,os,none⟩) ss.length cps),kEq (.int .i64 (j:Nat)),kEq (.pointer (some ⟨bs,os+j * 2,none⟩)),kEq (.pointer (some ⟨bs,os+j * 2+1,none⟩)),kEq (.slice au S2.length cu),kEq (.pointer (some ⟨w.heap.size,6,none⟩)),kEq (.slice (some ⟨b,off,none⟩) ks.length cap),kEq (.int .i64 (j:Nat)),kEq (.pointer (some ⟨b,off+j * 7,none⟩)),kEq (.pointer (some ⟨b,off+j * 7+4,none⟩)),kEq (.pointer (some ⟨b,off+j * 7+5,none⟩)),kEq (.slice ar2 kr.length cr2),kEq (.bool false),kEq (.bool true),kEq (.bool true)] ?_ (by kernel_rfl) (by kernel_rfl) 150 rfl (by kernel_rfl) ?_ ?_)
       ·intro p hp
        simp only [List.mem_cons,List.not_mem_nil,or_false] at hp
        rcases hp with rfl|rfl|rfl|rfl|rfl|rfl|rfl|rfl|rfl|rfl|rfl|rfl|rfl|rfl|rfl|rfl|rfl|rfl|rfl|rfl|rfl|rfl|rfl|rfl|rfl|rfl|rfl|rfl|rfl|rfl
        all_goals first|exact QAe _|exact QCX
       ·refine⟨?_,?_,?_,?_,?_,?_,?_,?_,?_,?_,?_,?_,?_,?_,?_,?_,?_,?_,?_,?_,?_,?_,?_,?_,?_,?_,?_,?_,?_,?_,trivial⟩
        ·intro a wx hB hold hdep K hK;have t8:a.tmps[8]? = some (.slice (some ⟨bs,os,none⟩) ss.length cps):=hold.2.2 8 rfl;clear hold hdep;go_simp;exact hK.out _ _ rfl (Below.refl _ _)
        ·intro a wx hB hold hdep K hK;have t11:a.tmps[11]? = some (.int .i64 (j:Nat)):=hold.2.2 11 rfl;clear hold hdep;go_simp;exact hK.out _ _ rfl (Below.refl _ _)
        ·intro a wx hB hold hdep K hK;have t120:=QAF wx (hdep 0 rfl _ 120 rfl rfl);have t121:=QAF wx (hdep 1 rfl _ 121 rfl rfl);clear hold hdep;go_simp;exact hK.out _ _ rfl (Below.refl _ _)
        ·intro a wx hB hold hdep K hK;have t122:=QAF wx (hdep 2 rfl _ 122 rfl rfl);clear hold hdep;go_simp;exact hK.out _ _ rfl (Below.refl _ _)
        ·intro a wx hB hold hdep K hK;have t123:=QAF wx (hdep 3 rfl _ 123 rfl rfl);obtain⟨g0,g1⟩:=HCS.out;have q0:=(hB.cell (p:=⟨bs,os+j * 2,none⟩) HZS.out).trans g0;have q1:=(hB.cell (p:=⟨bs,os+j * 2+1,none⟩) HZS.out).trans g1;clear g0 g1;clear hold hdep;go_simp;exact hK.out _ _ rfl (Below.refl _ _)
        ·intro a wx hB hold hdep K hK;have t2:a.tmps[2]? = some (.pointer (some ⟨w.heap.size,0,none⟩)):=hold.2.2 2 rfl;clear hold hdep;go_simp;exact hK.out _ _ rfl (Below.refl _ _)
        ·intro a wx hB hold hdep K hK;have t125:=QAF wx (hdep 5 rfl _ 125 rfl rfl);obtain⟨k0,k1,k2',k3,k4,k5,k6⟩:=QAj (QAA hB HBP.out);clear hold hdep;go_simp;exact hK.out _ _ rfl (Below.refl _ _)
        ·intro a wx hB hold hdep K hK;have t11:a.tmps[11]? = some (.int .i64 (j:Nat)):=hold.2.2 11 rfl;clear hold hdep;go_simp;exact hK.out _ _ rfl (Below.refl _ _)
        ·intro a wx hB hold hdep K hK;have t126:=QAF wx (hdep 6 rfl _ 126 rfl rfl);have t127:=QAF wx (hdep 7 rfl _ 127 rfl rfl);clear hold hdep;go_simp;exact hK.out _ _ rfl (Below.refl _ _)
        ·intro a wx hB hold hdep K hK;have t128:=QAF wx (hdep 8 rfl _ 128 rfl rfl);clear hold hdep;go_simp;exact hK.out _ _ rfl (Below.refl _ _)
        ·intro a wx hB hold hdep K hK;have t129:=QAF wx (hdep 9 rfl _ 129 rfl rfl);clear hold hdep;go_simp;exact hK.out _ _ rfl (Below.refl _ _)
        ·intro a wx hB hold hdep K hK;have t130:=QAF wx (hdep 10 rfl _ 130 rfl rfl);obtain⟨g4,g5⟩:=HC.out;have q4:=(hB.cell (p:=⟨b,off+j * 7+4,none⟩) HZ.out).trans g4;have q5:=(hB.cell (p:=⟨b,off+j * 7+5,none⟩) HZ.out).trans g5;clear g4 g5;clear hold hdep;go_simp;exact hK.out _ _ rfl (Below.refl _ _)
        ·intro a wx hB hold hdep K hK;have t124:=QAF wx (hdep 4 rfl _ 124 rfl rfl);have t131:=QAF wx (hdep 11 rfl _ 131 rfl rfl);clear hold hdep;go_simp;refine (HW1.out wx hB).mono ?_;rintro e w1 ⟨rfl,hb⟩;exact hK.out _ _ rfl hb
        ·intro a wx hB hold hdep K hK;have t132:=QAF wx (hdep 12 rfl _ 132 rfl rfl);clear hold hdep;go_simp;exact hK.out _ _ rfl (Below.refl _ _)
        ·intro a wx hB hold hdep K hK;have t133:=QAF wx (hdep 13 rfl _ 133 rfl rfl);clear hold hdep;go_simp;exact hK.out _ _ rfl (Below.refl _ _)
        ·intro a wx hB hold hdep K hK;have t134:=QAF wx (hdep 14 rfl _ 134 rfl rfl);have t8:a.tmps[8]? = some (.slice (some ⟨bs,os,none⟩) ss.length cps):=hold.2.2 8 rfl;clear hold hdep;go_simp;exact hK.out _ _ rfl (Below.refl _ _)
        ·intro a wx hB hold hdep K hK;have t134:=QAF wx (hdep 14 rfl _ 134 rfl rfl);have t11:a.tmps[11]? = some (.int .i64 (j:Nat)):=hold.2.2 11 rfl;clear hold hdep;go_simp;exact hK.out _ _ rfl (Below.refl _ _)
        ·intro a wx hB hold hdep K hK;have t134:=QAF wx (hdep 14 rfl _ 134 rfl rfl);have t135:=QAF wx (hdep 15 rfl _ 135 rfl rfl);have t136:=QAF wx (hdep 16 rfl _ 136 rfl rfl);clear hold hdep;go_simp;exact hK.out _ _ rfl (Below.refl _ _)
        ·intro a wx hB hold hdep K hK;have t134:=QAF wx (hdep 14 rfl _ 134 rfl rfl);have t137:=QAF wx (hdep 17 rfl _ 137 rfl rfl);clear hold hdep;go_simp;exact hK.out _ _ rfl (Below.refl _ _)
        ·intro a wx hB hold hdep K hK;have t134:=QAF wx (hdep 14 rfl _ 134 rfl rfl);have t138:=QAF wx (hdep 18 rfl _ 138 rfl rfl);obtain⟨g0,g1⟩:=HCS.out;have q0:=(hB.cell (p:=⟨bs,os+j * 2,none⟩) HZS.out).trans g0;have q1:=(hB.cell (p:=⟨bs,os+j * 2+1,none⟩) HZS.out).trans g1;clear g0 g1;clear hold hdep;go_simp;exact hK.out _ _ rfl (Below.refl _ _)
        ·intro a wx hB hold hdep K hK;have t134:=QAF wx (hdep 14 rfl _ 134 rfl rfl);have t2:a.tmps[2]? = some (.pointer (some ⟨w.heap.size,0,none⟩)):=hold.2.2 2 rfl;clear hold hdep;go_simp;exact hK.out _ _ rfl (Below.refl _ _)
        ·intro a wx hB hold hdep K hK;have t134:=QAF wx (hdep 14 rfl _ 134 rfl rfl);have t140:=QAF wx (hdep 20 rfl _ 140 rfl rfl);obtain⟨k0,k1,k2',k3,k4,k5,k6⟩:=QAj (QAA hB HBP.out);clear hold hdep;go_simp;exact hK.out _ _ rfl (Below.refl _ _)
        ·intro a wx hB hold hdep K hK;have t134:=QAF wx (hdep 14 rfl _ 134 rfl rfl);have t11:a.tmps[11]? = some (.int .i64 (j:Nat)):=hold.2.2 11 rfl;clear hold hdep;go_simp;exact hK.out _ _ rfl (Below.refl _ _)
        ·intro a wx hB hold hdep K hK;have t134:=QAF wx (hdep 14 rfl _ 134 rfl rfl);have t141:=QAF wx (hdep 21 rfl _ 141 rfl rfl);have t142:=QAF wx (hdep 22 rfl _ 142 rfl rfl);clear hold hdep;go_simp;exact hK.out _ _ rfl (Below.refl _ _)
        ·intro a wx hB hold hdep K hK;have t134:=QAF wx (hdep 14 rfl _ 134 rfl rfl);have t143:=QAF wx (hdep 23 rfl _ 143 rfl rfl);clear hold hdep;go_simp;exact hK.out _ _ rfl (Below.refl _ _)
        ·intro a wx hB hold hdep K hK;have t134:=QAF wx (hdep 14 rfl _ 134 rfl rfl);have t144:=QAF wx (hdep 24 rfl _ 144 rfl rfl);clear hold hdep;go_simp;exact hK.out _ _ rfl (Below.refl _ _)
        ·intro a wx hB hold hdep K hK;have t134:=QAF wx (hdep 14 rfl _ 134 rfl rfl);have t145:=QAF wx (hdep 25 rfl _ 145 rfl rfl);obtain⟨g4,g5⟩:=HC.out;have q4:=(hB.cell (p:=⟨b,off+j * 7+4,none⟩) HZ.out).trans g4;have q5:=(hB.cell (p:=⟨b,off+j * 7+5,none⟩) HZ.out).trans g5;clear g4 g5;clear hold hdep;go_simp;exact hK.out _ _ rfl (Below.refl _ _)
        ·intro a wx hB hold hdep K hK;have t134:=QAF wx (hdep 14 rfl _ 134 rfl rfl);have t139:=QAF wx (hdep 19 rfl _ 139 rfl rfl);have t146:=QAF wx (hdep 26 rfl _ 146 rfl rfl);clear hold hdep;go_simp;refine (HW2.out wx hB).mono ?_;rintro e w1 ⟨rfl,hb⟩;exact hK.out _ _ rfl hb
        ·intro a wx hB hold hdep K hK;have t134:=QAF wx (hdep 14 rfl _ 134 rfl rfl);have t147:=QAF wx (hdep 27 rfl _ 147 rfl rfl);clear hold hdep;go_simp;exact hK.out _ _ rfl (Below.refl _ _)
        ·intro a wx hB hold hdep K hK;have t134:=QAF wx (hdep 14 rfl _ 134 rfl rfl);have t148:=QAF wx (hdep 28 rfl _ 148 rfl rfl);clear hold hdep;go_simp;exact hK.out _ _ rfl (Below.refl _ _)
       ·intro a wx hB hold hgot
        (obtain⟨v149,t149,p149⟩:=hgot 29 _ 149 rfl rfl;have e149:v149=(.bool true):=p149;subst e149;obtain⟨tm,df⟩:=a;obtain⟨ys,hys,htm,rfl⟩:=QCm 120 30 (by kernel_rfl) (Nat.le_of_ble_eq_true rfl) hold;obtain⟨x120,x121,x122,x123,x124,x125,x126,x127,x128,x129,x130,x131,x132,x133,x134,x135,x136,x137,x138,x139,x140,x141,x142,x143,x144,x145,x146,x147,x148,x149,rfl⟩:=QHa ys hys;simp only [List.take_succ_cons,List.take_zero,List.drop_succ_cons,List.drop_zero,List.cons_append,List.nil_append] at htm;subst htm;obtain rfl:x149=_:=QAK t149;clear hys hold hgot t149 p149;have B2:=QAC BR.out hB;go_wp2_with fail;go_ret;(exact⟨by rw [HT7.out];rfl,B2⟩))
      ·have HW2:Hid (∀ wx,Below wr.heap.size wr wx→Calls Tryz.prog 21 #[.slice au S2.length cu,.slice ar2 kr.length cr2] wx fun e w'=>e = .returned (.bool true)∧Below wx.heap.size wx w'):=HW2'
       have HNX:Hid (T=QBq (ks.drop (j+1)) (ss.drop (j+1))):=HTk2.out;clear HW1' HW2' HTk2;go_wp2_with fail;(refine QAT (by kernel_rfl) [kEq (.slice (some ⟨bs,os,none⟩) ss.length cps),kEq (.int .i64 (j:Nat)),kEq (.pointer (some ⟨bs,os+j * 2,none⟩)),kEq (.pointer (some ⟨bs,os+j * 2,none⟩)),kEq (.slice av S1.length cv),kEq (.pointer (some ⟨w.heap.size,6,none⟩)),kEq (.slice (some ⟨b,off,none⟩) ks.length cap),kEq (.int .i64 (j:Nat)),kEq (.pointer (some ⟨b,off+j * 7,none⟩)),kEq (.pointer (some ⟨b,off+j * 7+4,none⟩)),kEq (.pointer (some ⟨b,off+j * 7+4,none⟩)),kEq (.slice al2 kl.length cl2),kEq (.bool true),kEq (.bool false),kEq (.bool false),kEq (.slice (some ⟨bs,os,none⟩) ss.length cps),kEq (.int .i64 (j:Nat)),kEq (.pointer (some ⟨bs,os+j * 2,none⟩)),kEq (.pointer (some ⟨bs,os+j * 2+1,none⟩)),kEq (.slice au S2.length cu),kEq (.pointer (some ⟨w.heap.size,6,none⟩)),kEq (.slice (some ⟨b,off,none⟩) ks.length cap),kEq (.int .i64 (j:Nat)),kEq (.pointer (some ⟨b,off+j * 7,none⟩)),kEq (.pointer (some ⟨b,off+j * 7+4,none⟩)),kEq (.pointer (some ⟨b,off+j * 7+5,none⟩)),kEq (.slice ar2 kr.length cr2),kEq (.bool true),kEq (.bool false),kEq (.bool false)] ?_ (by kernel_rfl) (by kernel_rfl) 150 rfl (by kernel_rfl) ?_ ?_)
       ·intro p hp
        simp only [List.mem_cons,List.not_mem_nil,or_false] at hp
        rcases hp with rfl|rfl|rfl|rfl|rfl|rfl|rfl|rfl|rfl|rfl|rfl|rfl|rfl|rfl|rfl|rfl|rfl|rfl|rfl|rfl|rfl|rfl|rfl|rfl|rfl|rfl|rfl|rfl|rfl|rfl
        all_goals first|exact QAe _|exact QCX
       ·refine⟨?_,?_,?_,?_,?_,?_,?_,?_,?_,?_,?_,?_,?_,?_,?_,?_,?_,?_,?_,?_,?_,?_,?_,?_,?_,?_,?_,?_,?_,?_,trivial⟩
        ·intro a wx hB hold hdep K hK;have t8:a.tmps[8]? = some (.slice (some ⟨bs,os,none⟩) ss.length cps):=hold.2.2 8 rfl;clear hold hdep;go_simp;exact hK.out _ _ rfl (Below.refl _ _)
        ·intro a wx hB hold hdep K hK;have t11:a.tmps[11]? = some (.int .i64 (j:Nat)):=hold.2.2 11 rfl;clear hold hdep;go_simp;exact hK.out _ _ rfl (Below.refl _ _)
        ·intro a wx hB hold hdep K hK;have t120:=QAF wx (hdep 0 rfl _ 120 rfl rfl);have t121:=QAF wx (hdep 1 rfl _ 121 rfl rfl);clear hold hdep;go_simp;exact hK.out _ _ rfl (Below.refl _ _)
        ·intro a wx hB hold hdep K hK;have t122:=QAF wx (hdep 2 rfl _ 122 rfl rfl);clear hold hdep;go_simp;exact hK.out _ _ rfl (Below.refl _ _)
        ·intro a wx hB hold hdep K hK;have t123:=QAF wx (hdep 3 rfl _ 123 rfl rfl);obtain⟨g0,g1⟩:=HCS.out;have q0:=(hB.cell (p:=⟨bs,os+j * 2,none⟩) HZS.out).trans g0;have q1:=(hB.cell (p:=⟨bs,os+j * 2+1,none⟩) HZS.out).trans g1;clear g0 g1;clear hold hdep;go_simp;exact hK.out _ _ rfl (Below.refl _ _)
        ·intro a wx hB hold hdep K hK;have t2:a.tmps[2]? = some (.pointer (some ⟨w.heap.size,0,none⟩)):=hold.2.2 2 rfl;clear hold hdep;go_simp;exact hK.out _ _ rfl (Below.refl _ _)
        ·intro a wx hB hold hdep K hK;have t125:=QAF wx (hdep 5 rfl _ 125 rfl rfl);obtain⟨k0,k1,k2',k3,k4,k5,k6⟩:=QAj (QAA hB HBP.out);clear hold hdep;go_simp;exact hK.out _ _ rfl (Below.refl _ _)
        ·intro a wx hB hold hdep K hK;have t11:a.tmps[11]? = some (.int .i64 (j:Nat)):=hold.2.2 11 rfl;clear hold hdep;go_simp;exact hK.out _ _ rfl (Below.refl _ _)
        ·intro a wx hB hold hdep K hK;have t126:=QAF wx (hdep 6 rfl _ 126 rfl rfl);have t127:=QAF wx (hdep 7 rfl _ 127 rfl rfl);clear hold hdep;go_simp;exact hK.out _ _ rfl (Below.refl _ _)
        ·intro a wx hB hold hdep K hK;have t128:=QAF wx (hdep 8 rfl _ 128 rfl rfl);clear hold hdep;go_simp;exact hK.out _ _ rfl (Below.refl _ _)
        ·intro a wx hB hold hdep K hK;have t129:=QAF wx (hdep 9 rfl _ 129 rfl rfl);clear hold hdep;go_simp;exact hK.out _ _ rfl (Below.refl _ _)
        ·intro a wx hB hold hdep K hK;have t130:=QAF wx (hdep 10 rfl _ 130 rfl rfl);obtain⟨g4,g5⟩:=HC.out;have q4:=(hB.cell (p:=⟨b,off+j * 7+4,none⟩) HZ.out).trans g4;have q5:=(hB.cell (p:=⟨b,off+j * 7+5,none⟩) HZ.out).trans g5;clear g4 g5;clear hold hdep;go_simp;exact hK.out _ _ rfl (Below.refl _ _)
        ·intro a wx hB hold hdep K hK;have t124:=QAF wx (hdep 4 rfl _ 124 rfl rfl);have t131:=QAF wx (hdep 11 rfl _ 131 rfl rfl);clear hold hdep;go_simp;refine (HW1.out wx hB).mono ?_;rintro e w1 ⟨rfl,hb⟩;exact hK.out _ _ rfl hb
        ·intro a wx hB hold hdep K hK;have t132:=QAF wx (hdep 12 rfl _ 132 rfl rfl);clear hold hdep;go_simp;exact hK.out _ _ rfl (Below.refl _ _)
        ·intro a wx hB hold hdep K hK;have t133:=QAF wx (hdep 13 rfl _ 133 rfl rfl);clear hold hdep;go_simp;exact hK.out _ _ rfl (Below.refl _ _)
        ·intro a wx hB hold hdep K hK;have t134:=QAF wx (hdep 14 rfl _ 134 rfl rfl);have t8:a.tmps[8]? = some (.slice (some ⟨bs,os,none⟩) ss.length cps):=hold.2.2 8 rfl;clear hold hdep;go_simp;exact hK.out _ _ rfl (Below.refl _ _)
        ·intro a wx hB hold hdep K hK;have t134:=QAF wx (hdep 14 rfl _ 134 rfl rfl);have t11:a.tmps[11]? = some (.int .i64 (j:Nat)):=hold.2.2 11 rfl;clear hold hdep;go_simp;exact hK.out _ _ rfl (Below.refl _ _)
        ·intro a wx hB hold hdep K hK;have t134:=QAF wx (hdep 14 rfl _ 134 rfl rfl);have t135:=QAF wx (hdep 15 rfl _ 135 rfl rfl);have t136:=QAF wx (hdep 16 rfl _ 136 rfl rfl);clear hold hdep;go_simp;exact hK.out _ _ rfl (Below.refl _ _)
        ·intro a wx hB hold hdep K hK;have t134:=QAF wx (hdep 14 rfl _ 134 rfl rfl);have t137:=QAF wx (hdep 17 rfl _ 137 rfl rfl);clear hold hdep;go_simp;exact hK.out _ _ rfl (Below.refl _ _)
        ·intro a wx hB hold hdep K hK;have t134:=QAF wx (hdep 14 rfl _ 134 rfl rfl);have t138:=QAF wx (hdep 18 rfl _ 138 rfl rfl);obtain⟨g0,g1⟩:=HCS.out;have q0:=(hB.cell (p:=⟨bs,os+j * 2,none⟩) HZS.out).trans g0;have q1:=(hB.cell (p:=⟨bs,os+j * 2+1,none⟩) HZS.out).trans g1;clear g0 g1;clear hold hdep;go_simp;exact hK.out _ _ rfl (Below.refl _ _)
        ·intro a wx hB hold hdep K hK;have t134:=QAF wx (hdep 14 rfl _ 134 rfl rfl);have t2:a.tmps[2]? = some (.pointer (some ⟨w.heap.size,0,none⟩)):=hold.2.2 2 rfl;clear hold hdep;go_simp;exact hK.out _ _ rfl (Below.refl _ _)
        ·intro a wx hB hold hdep K hK;have t134:=QAF wx (hdep 14 rfl _ 134 rfl rfl);have t140:=QAF wx (hdep 20 rfl _ 140 rfl rfl);obtain⟨k0,k1,k2',k3,k4,k5,k6⟩:=QAj (QAA hB HBP.out);clear hold hdep;go_simp;exact hK.out _ _ rfl (Below.refl _ _)
        ·intro a wx hB hold hdep K hK;have t134:=QAF wx (hdep 14 rfl _ 134 rfl rfl);have t11:a.tmps[11]? = some (.int .i64 (j:Nat)):=hold.2.2 11 rfl;clear hold hdep;go_simp;exact hK.out _ _ rfl (Below.refl _ _)
        ·intro a wx hB hold hdep K hK;have t134:=QAF wx (hdep 14 rfl _ 134 rfl rfl);have t141:=QAF wx (hdep 21 rfl _ 141 rfl rfl);have t142:=QAF wx (hdep 22 rfl _ 142 rfl rfl);clear hold hdep;go_simp;exact hK.out _ _ rfl (Below.refl _ _)
        ·intro a wx hB hold hdep K hK;have t134:=QAF wx (hdep 14 rfl _ 134 rfl rfl);have t143:=QAF wx (hdep 23 rfl _ 143 rfl rfl);clear hold hdep;go_simp;exact hK.out _ _ rfl (Below.refl _ _)
        ·intro a wx hB hold hdep K hK;have t134:=QAF wx (hdep 14 rfl _ 134 rfl rfl);have t144:=QAF wx (hdep 24 rfl _ 144 rfl rfl);clear hold hdep;go_simp;exact hK.out _ _ rfl (Below.refl _ _)
        ·intro a wx hB hold hdep K hK;have t134:=QAF wx (hdep 14 rfl _ 134 rfl rfl);have t145:=QAF wx (hdep 25 rfl _ 145 rfl rfl);obtain⟨g4,g5⟩:=HC.out;have q4:=(hB.cell (p:=⟨b,off+j * 7+4,none⟩) HZ.out).trans g4;have q5:=(hB.cell (p:=⟨b,off+j * 7+5,none⟩) HZ.out).trans g5;clear g4 g5;clear hold hdep;go_simp;exact hK.out _ _ rfl (Below.refl _ _)
        ·intro a wx hB hold hdep K hK;have t134:=QAF wx (hdep 14 rfl _ 134 rfl rfl);have t139:=QAF wx (hdep 19 rfl _ 139 rfl rfl);have t146:=QAF wx (hdep 26 rfl _ 146 rfl rfl);clear hold hdep;go_simp;refine (HW2.out wx hB).mono ?_;rintro e w1 ⟨rfl,hb⟩;exact hK.out _ _ rfl hb
        ·intro a wx hB hold hdep K hK;have t134:=QAF wx (hdep 14 rfl _ 134 rfl rfl);have t147:=QAF wx (hdep 27 rfl _ 147 rfl rfl);clear hold hdep;go_simp;exact hK.out _ _ rfl (Below.refl _ _)
        ·intro a wx hB hold hdep K hK;have t134:=QAF wx (hdep 14 rfl _ 134 rfl rfl);have t148:=QAF wx (hdep 28 rfl _ 148 rfl rfl);clear hold hdep;go_simp;exact hK.out _ _ rfl (Below.refl _ _)
       ·intro a wx hB hold hgot
        (obtain⟨v149,t149,p149⟩:=hgot 29 _ 149 rfl rfl;have e149:v149=(.bool false):=p149;subst e149;obtain⟨tm,df⟩:=a;obtain⟨ys,hys,htm,rfl⟩:=QCm 120 30 (by kernel_rfl) (Nat.le_of_ble_eq_true rfl) hold;obtain⟨x120,x121,x122,x123,x124,x125,x126,x127,x128,x129,x130,x131,x132,x133,x134,x135,x136,x137,x138,x139,x140,x141,x142,x143,x144,x145,x146,x147,x148,x149,rfl⟩:=QHa ys hys;simp only [List.take_succ_cons,List.take_zero,List.drop_succ_cons,List.drop_zero,List.cons_append,List.nil_append] at htm;subst htm;obtain rfl:x149=_:=QAK t149;clear hys hold hgot t149 p149;have B2:=QAC HBr.out hB;go_wp2_with fail;go_roundg (ss.length - (j+1)))
        case measure=>have:=HG.out;omega
        case rel=>exact⟨j+1,by omega,rfl,by go_num,B2,HNX⟩
    ·have hge:¬ (j:Int) < (ss.length:Int):=by omega
     have H0:Hid (T=0):=by
      have:=HTj.out;(rw [List.drop_of_length_le (by have:=HLE.out;omega)] at this);(rw [show QBq [] (ss.drop j)=0 by cases ss.drop j <;> rfl] at this);exact this
     clear HTj;go_wp2_with fail;go_ret;(exact⟨by rw [H0.out];rfl,BR.out⟩)
end Go.Proofs.YtbmedfokpgghiacGreat
