import Derived.Test.YtbmedfokpgghiacGreatB23
import Derived.Test.YtbmedfokpgghiacGreatB25
import Derived.Test.YtbmedfokpgghiacGreatB26
namespace Go.Proofs.YtbmedfokpgghiacGreat
open Go.RowKit
set_option maxRecDepth 10000 in
set_option maxHeartbeats 8000000 in
theorem QOI (i:Bool) (t:ByteArray) (h0:(t.toList == ([97,120]:List UInt8))=false) (h1:(t.toList == ([116,114,117,101]:List UInt8))=false) (h2:(t.toList == ([102,97,108,115,101]:List UInt8))=false) (h3:(t.toList == ([97,110,100,45,108]:List UInt8))=false) (h4:(t.toList == ([97,110,100,45,114]:List UInt8))=false) (h5:(t.toList == ([111,114,45,108]:List UInt8))=false) (h6:(t.toList == ([116,104,101,110,45,114]:List UInt8))=false) (h7:(t.toList == ([110,111,116,45,114]:List UInt8))=false) (h8:(t.toList == ([99,111,110,116,114,45,108]:List UInt8))=false) (h9:(t.toList == ([99,117,116]:List UInt8))=false) (h10:(t.toList == ([116,104,101,110,45,108]:List UInt8))=false) (h11:(t.toList == ([110,111,116,45,108]:List UInt8))=false) (h12:(t.toList == ([111,114,45,114]:List UInt8))=false) (h13:(t.toList == ([99,111,110,116,114,45,114]:List UInt8))=false) (h14:(t.toList == ([111,114,45,114,49]:List UInt8))=false) (h15:(t.toList == ([111,114,45,114,50]:List UInt8))=false) (f:Fm) (l r:List Fm) (hl3:l.length≤300) (hr3:r.length≤300) (v VL VR:Value) (w:World) (hf:Rep w (fun _=>True) f v) (hl:FL w VL l) (hr:FL w VR r) :
  Calls Tryz.prog 104 #[.string t,v,.agg #[VL,VR],.bool i] w fun e w'=>∃ x,e = .returned (.tuple #[x,.bool false,.bool false])∧SQs w' x []∧Below w.heap.size w w':=by
 obtain⟨k,n,ks⟩:=f;obtain⟨sf,cf,rfl⟩:=QAU hf;(have HF:Hid (Rep w (fun _=>True) (.mk k n ks) _):=hf);have HL:Hid (FL w VL l):=hl;have HR:Hid (FL w VR r):=hr;have HKS:=(Rep.def.1 hf);obtain⟨sf',cf',hv,-,hkc,hcm,hkr⟩:=HKS;simp only [Value.agg.injEq,Array.mk.injEq,List.cons.injEq,Value.slice.injEq,and_true,true_and] at hv;obtain⟨rfl,rfl⟩:=hv;(have hksI:(ks.length:Int)≤9223372036854775807:=by unfold maxLen at hcm;omega);(have hkcI:(ks.length:Int)≤(cf:Int):=by omega);obtain⟨adl,cpl,rfl,-⟩:=hl;obtain⟨adr,cpr,rfl,-⟩:=hr;obtain⟨O1,hO1⟩:∃ O,O=Obj.cells #[.int .i64 k,.string n,.slice sf ks.length cf] 29 (0,0):=⟨_,rfl⟩;obtain⟨O2,hO2⟩:∃ O,O=Obj.cells #[.slice adl l.length cpl,.slice adr r.length cpr] 24 (0,0):=⟨_,rfl⟩;obtain⟨W,hW⟩:∃ W,W=(w.alloc O1).alloc O2:=⟨_,rfl⟩;(have B0:Below w.heap.size w W:=by rw [hW];exact QAB (QAB (Below.refl _ w) _) _);(have p1:W.heap[w.heap.size]? = some O1:=by rw [hW];exact QAG (QAH w O1) _);(have p2:W.heap[w.heap.size+1]? = some O2:=by rw [hW];exact QAa w O1 O2);rw [hO1] at p1;rw [hO2] at p2;have P1:Hid (W.heap[w.heap.size]? = some _):=p1;have P2:Hid (W.heap[w.heap.size+1]? = some _):=p2;have HWe:Hid ((w.alloc O1).alloc O2=W):=hW.symm;clear hf hkr p1 p2 hW
 go_enter Tryz.func104,Tryz.ntmps104
 go_wp2_with fail;rw [← hO1,← hO2,HWe.out];clear hO1 hO2 HWe;(refine (QBQ l (by omega) (.mk k n ks) _ _ W (HL.out.up B0) (HF.out.up B0)).mono ?_);rintro e w1 ⟨x1,rfl,hg,hb1⟩;have B1:=QAC B0 hb1;have Q1:Hid (w1.heap[w.heap.size]? = some _):=QAA hb1 P1.out;have Q2:Hid (w1.heap[w.heap.size+1]? = some _):=QAA hb1 P2.out;obtain⟨adg,cpg,rfl,-⟩:=id hg;have HG1:Hid (FL w1 _ (l.erase (.mk k n ks))):=hg;clear hg hb1 P1 P2 B0;obtain⟨j0,j1,j2,-⟩:=QAb Q1.out;go_wp2_with fail;(refine (QBQ r (by omega) (.mk k n ks) _ _ w1 (HR.out.up B1) (HF.out.up B1)).mono ?_);rintro e w2 ⟨x2,rfl,hd,hb2⟩;have B2:=QAC B1 hb2;have Q3:Hid (w2.heap[w.heap.size]? = some _):=QAA hb2 Q1.out;obtain⟨add,cpd,rfl,-⟩:=id hd;have HD2:Hid (FL w2 _ (r.erase (.mk k n ks))):=hd;have HG2:Hid (FL w2 _ (l.erase (.mk k n ks))):=HG1.out.up hb2;clear hd hb2 Q1 Q2 j0 j1 j2 HG1 B1;obtain⟨j0,j1,j2,-⟩:=QAb Q3.out;go_wp2_with fail;refine (QBn l (.mk k n ks) _ _ w2 (HL.out.up B2) (HF.out.up B2)).mono ?_;rintro e w3 ⟨rfl,hb3⟩;have B3:=QAC B2 hb3;have Q4:Hid (w3.heap[w.heap.size]? = some _):=QAA hb3 Q3.out;have HD3:Hid (FL w3 _ (r.erase (.mk k n ks))):=HD2.out.up hb3;have HG3:Hid (FL w3 _ (l.erase (.mk k n ks))):=HG2.out.up hb3;clear hb3 Q3 j0 j1 j2 HG2 HD2 B2;obtain⟨j0,j1,j2,-⟩:=QAb Q4.out;go_wp2_with fail;refine (QBn r (.mk k n ks) _ _ w3 (HR.out.up B3) (HF.out.up B3)).mono ?_;rintro e w4 ⟨rfl,hb4⟩;have B4:=QAC B3 hb4;have Q5:Hid (w4.heap[w.heap.size]? = some _):=QAA hb4 Q4.out;have HD4:Hid (FL w4 _ (r.erase (.mk k n ks))):=HD3.out.up hb4;have HG4:Hid (FL w4 _ (l.erase (.mk k n ks))):=HG3.out.up hb4;clear hb4 Q4 j0 j1 j2 HG3 HD3 B3;obtain⟨j0,j1,j2,-⟩:=QAb Q5.out;have z4:=QAE Q5.out;generalize QBJ (.mk k n ks) l=bl at *;generalize QBJ (.mk k n ks) r=br at *
 rcases QAr HF.out B4 with ⟨hp0,HRA,HRZ,HKA,HKZ⟩|⟨b,off,m,ka,na,ksa,sa,ca,kz,nz,ksz,sz,cz,rfl,g0,g1,g2,u0,u1,u2,hmI,hp0,hp1,hp2,hp3,d1,d2,hpos,zb,HRA,HRZ,HKA,HKZ⟩
 all_goals
  go_wp2_with fail;(exact bodyPost_ret (v := .tuple #[.slice none 0 0,.bool false,.bool false]) (by simp [results,Tryz.results104,go_sem]) rfl ⟨_,rfl,SQs.nil,QAC B4 (QAB (QAB (QAB (Below.refl _ w4) _) _) _)⟩)
inductive PlanR (P:Nat→Prop) (w:World):Plan→Value→Prop
 | mk (a:ByteArray) (i:Nat) (needs:List Nat) (kids:List Plan) (vn:Value) (sl:Option Addr) (cap b off:Nat) (cs:Nat→Value) (ha:a.size≤maxLen) (hn:IRow P w vn needs) (h1:kids.length≤cap) (h2:cap≤maxLen) (hs:kids≠[]→sl=some ⟨b,off,none⟩∧P b) (hc:∀ j,j < kids.length * 4→w.cell? ⟨b,off+j,none⟩=some (cs j))
  (hk:∀ (j:Nat) (k:Plan),kids[j]? = some k→PlanR P w k (.agg #[cs (j * 4),cs (j * 4+1),cs (j * 4+2),cs (j * 4+3)])):PlanR P w (.mk a i needs kids) (.agg #[.string a,.int .i64 (i:Nat),vn,.slice sl kids.length cap])
theorem PlanR.move {P P':Nat→Prop} {w w':World} {p:Plan} {v:Value} (h:PlanR P w p v) (hb:∀ b,b < w.heap.size→P b→w'.heap[b]? = w.heap[b]? ∧ P' b):PlanR P' w' p v:=by
 induction h with
 | mk a i needs kids vn sl cap b off cs ha hn h1 h2 hs hc hk ih =>
  by_cases hne:kids=[]
  ·subst hne
   (exact PlanR.mk a i needs [] vn sl cap b off cs ha (hn.move hb) h1 h2 (fun h=>absurd rfl h) (fun j hj=>by simp at hj) (fun j k hj=>by simp at hj))
  ·have hpos:=List.length_pos_iff.2 hne
   (have hlt:=QAI (hc 0 (by omega)));simp only at hlt;obtain⟨e,hp⟩:=hs hne;(exact PlanR.mk a i needs kids vn sl cap b off cs ha (hn.move hb) h1 h2 (fun _=>⟨e,(hb b hlt hp).2⟩) (fun j hj=>(QAQ (a:=⟨b,off+j,none⟩) (hb b hlt hp).1).trans (hc j hj)) ih)
def PlQ (P:Nat→Prop) (w:World) (cs:List Value) (ps:List Plan):Prop:=cs.length=ps.length * 4∧∀ (j:Nat) (k:Plan),ps[j]? = some k→PlanR P w k (.agg #[cs.getD (j * 4) (.bool false),cs.getD (j * 4+1) (.bool false),cs.getD (j * 4+2) (.bool false),cs.getD (j * 4+3) (.bool false)])
theorem PlQ.nil {P:Nat→Prop} {w:World}:PlQ P w [] []:=⟨rfl,fun j k h=>by simp at h⟩
theorem PlQ.move {P P':Nat→Prop} {w w':World} {cs:List Value} {ps:List Plan} (h:PlQ P w cs ps) (hb:∀ b,b < w.heap.size→P b→w'.heap[b]? = w.heap[b]? ∧ P' b):PlQ P' w' cs ps:=⟨h.1,fun j k hj=>(h.2 j k hj).move hb⟩
theorem PlQ.snoc {P:Nat→Prop} {w:World} {cs:List Value} {ps:List Plan} {k:Plan} {c0 c1 c2 c3:Value} (h:PlQ P w cs ps) (hk:PlanR P w k (.agg #[c0,c1,c2,c3])):PlQ P w (cs++[c0,c1,c2,c3]) (ps++[k]):=by
 (refine⟨by simp [h.1];omega,fun j q hq => ?_⟩)
 rcases Nat.lt_or_ge j ps.length with hj|hj
 ·rw [List.getElem?_append_left hj] at hq
  have e:∀ x,x < 4→(cs++[c0,c1,c2,c3]).getD (j * 4+x) (.bool false)=cs.getD (j * 4+x) (.bool false):=fun x hx=>by
   (rw [List.getD_eq_getElem?_getD,List.getD_eq_getElem?_getD,List.getElem?_append_left (by rw [h.1];omega)])
  (have e0:=e 0 (by omega));rw [Nat.add_zero] at e0;(rw [e0,e 1 (by omega),e 2 (by omega),e 3 (by omega)]);exact h.2 j q hq
 ·rw [List.getElem?_append_right hj] at hq
  have hj0:j - ps.length=0:=by
   rcases Nat.eq_zero_or_pos (j - ps.length) with h0|h0
   ·exact h0
   ·rw [List.getElem?_eq_none (by simp;omega)] at hq;cases hq
  rw [hj0] at hq;(have hkq:k=q:=by simpa using hq);subst hkq;(have ej:j * 4=cs.length:=by rw [h.1];omega)
  have e:∀ x,(cs++[c0,c1,c2,c3]).getD (j * 4+x) (.bool false)=[c0,c1,c2,c3].getD x (.bool false):=fun x=>by
   (rw [List.getD_eq_getElem?_getD,List.getD_eq_getElem?_getD,List.getElem?_append_right (by omega),ej,Nat.add_sub_cancel_left])
  have e0:=e 0;rw [Nat.add_zero] at e0;rw [e0,e 1,e 2,e 3];exact hk
theorem PlanR.parts {P:Nat→Prop} {w:World} {a:ByteArray} {i:Nat} {needs:List Nat} {kids:List Plan} {v:Value} (h:PlanR P w (.mk a i needs kids) v):∃ an cn sl cap,v = .agg #[.string a,.int .i64 (i:Nat),.slice an needs.length cn,.slice sl kids.length cap]∧a.size≤maxLen∧IRow P w (.slice an needs.length cn) needs∧kids.length≤cap∧cap≤maxLen∧(kids≠[]→∃ (b off:Nat) (cs:Nat→Value),sl=some ⟨b,off,none⟩∧P b∧(∀ j,j < kids.length * 4→w.cell? ⟨b,off+j,none⟩=some (cs j))∧∀ (j:Nat) (k:Plan),kids[j]? = some k→PlanR P w k (.agg #[cs (j * 4),cs (j * 4+1),cs (j * 4+2),cs (j * 4+3)])):=by
 cases h with
 | mk _ _ _ _ vn sl cap b off cs ha hn h1 h2 hs hc hk =>
  have hn':=hn;obtain⟨an,cn,rfl,-⟩:=hn';(exact⟨an,cn,sl,cap,rfl,ha,hn,h1,h2,fun hne=>⟨b,off,cs,(hs hne).1,(hs hne).2,hc,hk⟩⟩)
theorem PlQ.plan {P:Nat→Prop} {w:World} {cs:List Value} {ps:List Plan} (h:PlQ P w cs ps) {a:ByteArray} {i:Nat} {needs:List Nat} {vn:Value} {sl:Option Addr} {cap b:Nat} (ha:a.size≤maxLen) (hn:IRow P w vn needs) (h1:ps.length≤cap) (h2:cap≤maxLen) (hs:ps≠[]→sl=some ⟨b,0,none⟩∧P b) (hc:∀ (j:Nat) (u:Value),cs[j]? = some u→w.cell? ⟨b,j,none⟩=some u):PlanR P w (.mk a i needs ps) (.agg #[.string a,.int .i64 (i:Nat),vn,.slice sl ps.length cap]):=by
 (refine PlanR.mk a i needs ps vn sl cap b 0 (fun j=>cs.getD j (.bool false)) ha hn h1 h2 hs (fun j hj => ?_) h.2);rw [Nat.zero_add];refine hc j _ ?_;(rw [List.getD_eq_getElem?_getD,List.getElem?_eq_getElem (by rw [h.1];exact hj)]);rfl
end Go.Proofs.YtbmedfokpgghiacGreat
