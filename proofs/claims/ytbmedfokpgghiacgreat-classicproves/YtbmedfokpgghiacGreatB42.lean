import Derived.Test.YtbmedfokpgghiacGreatB37
import Derived.Test.YtbmedfokpgghiacGreatB12
import Derived.Test.YtbmedfokpgghiacGreatB34
namespace Go.Proofs.YtbmedfokpgghiacGreat
open Go.RowKit Go.Sort
def QBp (ps:List PartM) (br:List Nat):List (List UInt8):=br.filterMap fun i=>match ps[i / 2]? with|some p=>if p.kind=1∧itR i=false then some p.name.data.toList else none|none=>none
theorem QJM:∃ i,Tryz.prog.info? 9=some i∧i.zero=some (.string ⟨#[]⟩)∧i.size=1∧i.bytes=16:=by
 (obtain⟨i,hi,h⟩:=Option.map_eq_some_iff.1 (show (Tryz.prog.info? 9).map (fun i=>(i.zero,i.size,i.bytes))=some (some (.string ⟨#[]⟩),1,16) by kernel_rfl));simp only [Prod.mk.injEq] at h;exact⟨i,hi,h.1,h.2.1,h.2.2⟩
theorem QKr {ps:List PartM} {br:List Nat} {i k:Nat} {p:PartM} (hk:br[k]? = some i) (hp:ps[i / 2]? = some p):QBp ps (br.take (k+1))=QBp ps (br.take k)++if p.kind=1∧itR i=false then [p.name.data.toList] else []:=by
 unfold QBp;rw [List.take_add_one,hk,List.filterMap_append]
 congr 1
 simp only [Option.toList,List.filterMap_cons,List.filterMap_nil,hp]
 split <;> rename_i h
 ·split at h
  ·cases h
  ·rename_i h2;rw [if_neg h2]
 ·split at h
  ·rename_i h2;rw [if_pos h2];cases h;rfl
  ·cases h
theorem QJm (base g cap:Nat) (ss:List (List UInt8)) (hl:ss.length≤1000000) (w:World) (hown:w.ownsRow base 9 1 (.slice (some ⟨g,0,none⟩) ss.length cap) ss.length (ss.map encStr)) :
  Calls Tryz.prog 102 #[.slice (some ⟨g,0,none⟩) ss.length cap] w fun e w'=>e = .returned (.tuple #[])∧w'.ownsRow base 9 1 (.slice (some ⟨g,0,none⟩) ss.length cap) ss.length ((srt ss).map encStr)∧w.grownBy w' (some g):=by
 rcases hown.2 with ⟨h,-⟩|⟨g',cap',cur,hv,hg,hh,h1,h2,h3,h4⟩
 ·cases h
 ·cases hv
  rw [Nat.mul_one] at h4;(refine (Tryz.slices_Sort_string g 0 cap ss w (holds_of_block hh h4) (QAE hh) (by omega)).mono ?_);rintro e w' ⟨rfl,n,os,rfl⟩;exact⟨rfl,ownsRow_sorted (List.length_mergeSort ..) hg hh h1 h2 h3,grownBy_sorted _⟩
theorem QNP (s:ByteArray):encStr s.data.toList = .string s:=by
 show Value.string ⟨s.data.toList.toArray⟩=_;rw [Array.toArray_toList]
set_option maxRecDepth 10000 in
set_option maxHeartbeats 8000000 in
theorem QHu {x:Fx} {w:World} {M:Nat→Prop} {wh br:List Nat} {wk:Nat} {op:Bool} (h:FinSt x w M wh br wk op) (hbr:br.length≤400000) (hlt:∀ i∈br,i < x.L) :
  Calls Tryz.prog 51 #[.pointer (some ⟨x.bf,0,none⟩)] w fun e w'=>∃ v,e = .returned v∧TL w' v (srt (QBp x.ps br))∧Below w.heap.size w w':=by
 obtain⟨i0,hi0,hz0,hz1,hz2⟩:=QJM;obtain⟨adB,cB,hfin,hob,hmb⟩:=h.fin;have HS:Hid (FinSt x w M wh br wk op):=h;(have HIB:Hid (IRow (fun _=>True) w (.slice adB br.length cB) br):=QCt hob fun _ _=>trivial);obtain⟨q0,q1,q2,q3,q4,q5⟩:=QCW hfin;have HFi:Hid (w.heap[x.bf]? = some (.cells #[.pointer (some ⟨x.bt,0,none⟩),x.vW,.slice (some ⟨x.bw,0,none⟩) x.L x.L,.slice adB br.length cB,.int .i64 (wk:Nat),.bool op] 92 (0,0))):=hfin;have HLt:Hid (∀ i∈br,i < x.L):=hlt;have HBr:Hid (br.length≤400000):=hbr;(have hbI:(br.length:Int)≤400000:=by omega);(have hbc:(br.length:Int)≤(cB:Int):=by have:=(QAt hob).1;omega);have hL2:=h.l2;have hpl:=h.plen;have HL:Hid (x.L=2 * x.ps.length∧x.ps.length≤100000):=⟨hL2,hpl⟩;clear h hfin hob hmb hlt hbr hL2 hpl q1 q2 q4 q5
 go_enter Tryz.func51,Tryz.ntmps51
 go_wp2_with fail
 go_loopg [12,3] br.length (fun g c s wr=>∃ k ad cap m,k≤br.length∧g=br.length - k∧c = .int .i64 (k:Nat)∧s = .slice ad m cap∧Hid (m=(QBp x.ps (br.take k)).length)∧Hid (m≤k)∧Hid (wr.ownsRow w.heap.size 9 1 (.slice ad m cap) m ((QBp x.ps (br.take k)).map encStr))∧Hid (Below w.heap.size w wr))
 case atStart=>exact⟨0,none,0,0,by omega,by omega,rfl,rfl,by show _=_;rfl,by show _≤_;omega,⟨rfl,Or.inl ⟨rfl,rfl⟩⟩,Below.refl _ _⟩
 case round =>
  obtain⟨k,ad,cap,m,hk,hg,rfl,rfl,HM,HMk,HO,HB⟩:=hrel;have HG:Hid (gk=br.length - k):=hg;clear hg;by_cases hlt:k < br.length
  ·obtain⟨t,ht⟩:∃ t,br[k]? = some t:=⟨_,List.getElem?_eq_getElem hlt⟩
   obtain⟨b,off,rfl,-,hcell⟩:=HIB.out.some' ht;have g0:=(HB.out.cell (p:=⟨b,off+k,none⟩) (QAI hcell)).trans hcell;have htL:=HLt.out t (List.mem_of_getElem? ht);(obtain⟨⟨pk,pm,pks⟩,hp⟩:∃ p,x.ps[t / 2]? = some p:=⟨_,List.getElem?_eq_getElem (by have:=HL.out;omega)⟩);(have HSn:Hid (QBp x.ps (br.take (k+1))=QBp x.ps (br.take k)++if pk=1∧itR t=false then [pm.data.toList] else []):=QKr ht hp);(have ht3:t≤3000000:=by have:=HL.out;omega);(have HP:Hid (∀ W,Calls Tryz.prog 100 #[.int .i64 (t:Nat)] W _):=fun W=>QCn t ht3 W);(have HR:Hid (∀ W,Calls Tryz.prog 101 #[.int .i64 (t:Nat)] W _):=fun W=>QDX t ht3 W);(have HT:Hid (∀ W,Below w.heap.size w W→Calls Tryz.prog 99 #[.pointer (some ⟨x.bt,0,none⟩),.int .i64 ((t / 2:Nat):Int)] W fun e w'=>e = .returned (.agg #[.int .i64 pk,.string pm,.int .i64 (pks.length:Nat),.int .i64 ((PartM.mk pk pm pks).k0:Nat),.int .i64 ((PartM.mk pk pm pks).k1:Nat)])∧Below W.heap.size W w'):=fun W hb=>QEs W x.T x.bt x.ps _ (HS.out.tab.up hb).tab (t / 2) _ hp);have HFr:Hid (wr.heap[x.bf]? = _):=QAA HB.out HFi.out;obtain⟨b0,-⟩:=QCW HFr.out;have zbf:=QAE HFr.out;(have nb1:¬ x.bf=wr.heap.size:=by omega);(have nb2:¬ wr.heap.size=x.bf:=by omega);(have hltI:(k:Int) < (br.length:Int):=by omega);(have hltc:(k:Int) < (cB:Int):=by omega);generalize (PartM.mk pk pm pks).k0=a0 at *;generalize (PartM.mk pk pm pks).k1=a1 at *;generalize itR t=rt at *;clear hcell ht hp htL;go_wp2_with fail
   go_region_held3 (fun w'=>w'.cell? ⟨x.bf,0,none⟩=some (.pointer (some ⟨x.bt,0,none⟩))) (go_keep)
    (
     first
     | (
      go_at_call 100
      refine (HP.out _).mono ?_;rintro e w1 ⟨rfl,hw1⟩
      subst hw1)
     | (
      go_at_call 99
      refine (HT.out _ HB.out.drew).mono ?_;rintro e w2 ⟨rfl,hb2⟩;have HB2:Hid (Below wr.heap.size wr w2):=QAC (Below.refl _ wr).drew hb2;obtain⟨i0',i1',i2',-⟩:=QCW (QAA HB2.out HFr.out)
      clear hb2)
     | (
      go_at_call 99
      refine (HT.out _ (QAB HB.out _).drew).mono ?_;rintro e w2 ⟨rfl,hb2⟩;have HB2:Hid (Below wr.heap.size wr w2):=QAC (QAB (Below.refl _ wr) _).drew hb2;have HX2:Hid (w2.heap[wr.heap.size]? = some (.cells #[.int .i64 0,.string ⟨#[]⟩,.int .i64 0,.int .i64 0,.int .i64 0] 158 (0,0))):=QAA hb2 (QAH wr _);obtain⟨x0,x1,x2,x3,x4,y0,y1,y2,y3,y4⟩:=QCg HX2.out;have zx:=QAE HX2.out;obtain⟨i0',i1',i2',-⟩:=QCW (QAA HB2.out HFr.out)
      clear hb2)
     | fail)
   all_goals
    first
     | (
       obtain⟨W3,hW3⟩:∃ W3,W3=w2.alloc (.cells #[.int .i64 pk,.string pm,.int .i64 (pks.length:Nat),.int .i64 (a0:Nat),.int .i64 (a1:Nat)] 158 (0,0)):=⟨_,rfl⟩
       rw [← hW3];(have HX3:Hid (W3.heap[w2.heap.size]? = some (.cells #[.int .i64 pk,.string pm,.int .i64 (pks.length:Nat),.int .i64 (a0:Nat),.int .i64 (a1:Nat)] 158 (0,0))):=by rw [hW3];exact QAH w2 _);(have HB3:Hid (Below wr.heap.size wr W3):=by rw [hW3];exact QAB HB2.out _);obtain⟨bx,hbx⟩:∃ bx,bx=w2.heap.size:=⟨_,rfl⟩;rw [← hbx] at HX3 ⊢
       clear hW3 hbx)
     | (
       obtain⟨W3,hW3⟩:∃ W3,W3=(((((w2.setCell ⟨wr.heap.size,0,none⟩ (.int .i64 pk)).setCell ⟨wr.heap.size,1,none⟩ (.string pm)).setCell ⟨wr.heap.size,2,none⟩ (.int .i64 (pks.length:Nat))).setCell ⟨wr.heap.size,3,none⟩ (.int .i64 (a0:Nat))).setCell ⟨wr.heap.size,4,none⟩ (.int .i64 (a1:Nat))):=⟨_,rfl⟩
       rw [← hW3];(have HX3:Hid (W3.heap[wr.heap.size]? = some (.cells #[.int .i64 pk,.string pm,.int .i64 (pks.length:Nat),.int .i64 (a0:Nat),.int .i64 (a1:Nat)] 158 (0,0))):=by rw [hW3,QAS (QAS (QAS (QAS (QAS HX2.out _) _) _) _) _];rfl);(have HB3:Hid (Below wr.heap.size wr W3):=by rw [hW3];exact ((((HB2.out.setCell (p:=⟨wr.heap.size,0,none⟩) (Nat.le_refl _) _).setCell (p:=⟨wr.heap.size,1,none⟩) (Nat.le_refl _) _).setCell (p:=⟨wr.heap.size,2,none⟩) (Nat.le_refl _) _).setCell (p:=⟨wr.heap.size,3,none⟩) (Nat.le_refl _) _).setCell (p:=⟨wr.heap.size,4,none⟩) (Nat.le_refl _) _);obtain⟨bx,hbx⟩:∃ bx,bx=wr.heap.size:=⟨_,rfl⟩;rw [← hbx] at HX3 ⊢
       clear hW3 hbx)
    obtain⟨g0',g1',g2',g3',g4',-⟩:=QCg HX3.out;have zbx:=QAE HX3.out;have HB03:Hid (Below w.heap.size w W3):=QAC HB.out HB3.out;have HO3:Hid (W3.ownsRow w.heap.size 9 1 (.slice ad m cap) m ((QBp x.ps (br.take k)).map encStr)):=QAz HO.out HB3.out
    have hcases:(pk=1∧rt=false)∨(¬ pk=1)∨(pk=1∧rt=true):=by
     rcases Classical.em (pk=1) with h1|h1
     ·cases rt
      ·exact Or.inl ⟨h1,rfl⟩
      ·exact Or.inr (Or.inr ⟨h1,rfl⟩)
     ·exact Or.inr (Or.inl h1)
    rcases hcases with ⟨rfl,rfl⟩|h1|⟨rfl,rfl⟩
    ·have HE:Hid (QBp x.ps (br.take (k+1))=QBp x.ps (br.take k)++[pm.data.toList]):=by show _=_;rw [HSn.out,if_pos ⟨rfl,rfl⟩]
     have hown:=QAz HO3.out (show Below W3.heap.size W3 _ from (Below.refl _ W3).alloc (Nat.le_refl _) (.cells #[.string pm] 9 (0,0)));have HOw:Hid ((W3.alloc (.cells #[.string pm] 9 (0,0))).ownsRow w.heap.size 9 1 (.slice ad m cap) m ((QBp x.ps (br.take k)).map encStr)):=hown
     have HEm:Hid ((QBp x.ps (br.take (k+1))).map encStr=(QBp x.ps (br.take k)).map encStr++[.string pm]):=by
      show _=_;rw [HE.out,List.map_append,List.map_cons,List.map_nil,QNP]
     clear hown HSn;go_wp2_with fail;refine (HR.out _).mono ?_;rintro e w4 ⟨rfl,hw4⟩;have hw5:=hw4.symm;clear hw4;subst hw5
     go_wp2_with (first
      | (
        at_builtin
        (refine wpList_append_lies _ rfl _ _ 33 rfl w.heap.size 9 i0 (.string ⟨#[]⟩) 1 16 Tryz.underlying33 hi0 hz0 hz1 hz2 rfl (by decide) _ _ _ rfl HOw.out ⟨W3.heap.size,0,none⟩ 1 1 [.string pm] rfl rfl ?_ ?_ (by omega) ?_ ?_ ?_ _ rfl ?_)
        ·exact World.news_of_block (QAH W3 _)
        ·intro u hu
         simp at hu;subst hu;rfl
        ·have h1:=HMk.out
         have h2:=HBr.out;unfold maxLen;omega
        ·have h1:=HMk.out
         have h2:=HBr.out;omega
        ·have:=HB03.out.size
         rw [World.size_alloc];omega
        intro g5 c5 w5 hown5 hgrow hat5 hlt5
        have HO5:Hid (w5.ownsRow w.heap.size 9 1 (.slice (some ⟨g5,0,none⟩) (m+1) c5) (m+1) ((QBp x.ps (br.take (k+1))).map encStr)):=by
         rw [HEm.out];exact hown5
        have hk5:∀ b,b < w.heap.size→w5.heap[b]? = w.heap[b]? := fun b hb=>by
         have h1:=HB03.out.size;(refine (hgrow.block b (by rw [World.size_alloc];omega) (fun e => ?_)).trans ((Below.heap_alloc _ _ _ (by omega)).trans (HB03.out.block b hb)));have:=(HOw.out.lt b e.symm).1;omega
        (have HB5:Hid (Below w.heap.size w w5):=⟨hgrow.os.trans HB03.out.os,hgrow.tape.trans HB03.out.tape,hgrow.output.trans HB03.out.output,by have h1:=HB03.out.size;have h2:=hgrow.size;rw [World.size_alloc] at h2;omega,hk5⟩)
        clear hown5 hgrow hat5 hk5)
      | fail)
     go_roundg (br.length - (k+1))
     case measure=>have:=HG.out;omega
     case rel =>
      (refine⟨k+1,some ⟨g5,0,none⟩,c5,m+1,by omega,rfl,by go_num,rfl,?_,?_,HO5,HB5⟩)
      ·show _=_
       rw [HE.out,List.length_append,← HM.out];rfl
      ·have:=HMk.out
       show _≤_;omega
    ·have HE:Hid (QBp x.ps (br.take (k+1))=QBp x.ps (br.take k)):=by show _=_;rw [HSn.out,if_neg (fun h=>h1 h.1),List.append_nil]
     clear HSn;go_wp2_with fail
     go_roundg (br.length - (k+1))
     case measure=>have:=HG.out;omega
     case rel =>
      (refine⟨k+1,ad,cap,m,by omega,rfl,by go_num,rfl,?_,?_,?_,HB03⟩)
      ·rw [HE.out];exact HM
      ·have:=HMk.out
       show _≤_;omega
      ·rw [HE.out];exact HO3
    ·have HE:Hid (QBp x.ps (br.take (k+1))=QBp x.ps (br.take k)):=by show _=_;rw [HSn.out,if_neg (fun h=>by cases h.2),List.append_nil]
     clear HSn;go_wp2_with fail;refine (HR.out _).mono ?_;rintro e w4 ⟨rfl,hw4⟩;have hw5:=hw4.symm;clear hw4;subst hw5;go_wp2_with fail
     go_roundg (br.length - (k+1))
     case measure=>have:=HG.out;omega
     case rel =>
      (refine⟨k+1,ad,cap,m,by omega,rfl,by go_num,rfl,?_,?_,?_,?_⟩)
      ·rw [HE.out];exact HM
      ·have:=HMk.out
       show _≤_;omega
      ·rw [HE.out];exact HO3
      ·exact HB03
  ·have hge:¬ (k:Int) < (br.length:Int):=by omega
   (have hke:k=br.length:=by omega);subst hke;rw [List.take_length] at HM HO;obtain⟨ss,hss⟩:∃ ss,ss=QBp x.ps br:=⟨_,rfl⟩;have HSs:Hid (ss=QBp x.ps br):=hss;rw [← hss] at HM HO;clear hss;have hm:=HM.out;subst hm;by_cases hne:ss=[]
   ·rw [hne] at HO
    (have hsn:∀ ad cap W,Calls Tryz.prog 102 #[.slice ad 0 cap] W fun e w'=>e = .returned (.tuple #[])∧w'=W:=fun ad cap W=>Tryz.slices_Sort_string_none ad cap W);have HSo:Hid (Calls Tryz.prog 102 #[.slice ad 0 cap] wr _):=hsn ad cap wr;(have hl0:ss.length=0:=by rw [hne];rfl);simp only [List.length_nil] at HO;rw [hl0];clear hsn;go_wp2_with fail;refine HSo.out.mono ?_;rintro e w2 ⟨rfl,rfl⟩;go_wp2_with fail;go_ret;have hcaps:=QAt HO.out;rw [← HSs.out,hne];have hs0:srt []=[]:=List.length_eq_zero_iff.1 (List.length_mergeSort ..);rw [hs0];(exact⟨_,rfl,⟨ad,cap,rfl,hcaps.1,hcaps.2,fun h=>absurd rfl h⟩,HB.out⟩)
   ·obtain⟨g,rfl⟩:∃ g,ad=some ⟨g,0,none⟩:=by
     rcases HO.out.2 with ⟨-,h0⟩|⟨g,cap',cur,hv,-⟩
     ·exact absurd (List.length_eq_zero_iff.1 h0) hne
     ·simp only [Value.slice.injEq,true_and] at hv
      exact⟨g,hv.1⟩
    (have HSo:Hid (Calls Tryz.prog 102 #[.slice (some ⟨g,0,none⟩) ss.length cap] wr _):=QJm w.heap.size g cap ss (by have h1:=HMk.out;have h2:=HBr.out;omega) wr HO.out);go_wp2_with fail;refine HSo.out.mono ?_;rintro e w2 ⟨rfl,hown2,hgr⟩;have HO2:Hid (w2.ownsRow w.heap.size 9 1 (.slice (some ⟨g,0,none⟩) ss.length cap) ss.length ((srt ss).map encStr)):=hown2;(have HB2:Hid (Below w.heap.size w w2):=⟨hgr.os.trans HB.out.os,hgr.tape.trans HB.out.tape,hgr.output.trans HB.out.output,Nat.le_trans HB.out.size hgr.size,fun b hb=>(hgr.block b (Nat.lt_of_lt_of_le hb HB.out.size) (fun e=>by have h1:=(HO.out.lt g rfl).1;cases e;omega)).trans (HB.out.block b hb)⟩);clear hown2 hgr;go_wp2_with fail;go_ret;have hsl:(srt ss).length=ss.length:=List.length_mergeSort ..;have hcaps:=QAt HO2.out;rw [← HSs.out];(refine⟨_,rfl,⟨some ⟨g,0,none⟩,cap,by rw [hsl];rfl,by omega,hcaps.2,fun _=>⟨g,rfl,fun j t ht => ?_⟩⟩,HB2.out⟩);obtain⟨g',e,hc⟩:=QBZ HO2.out (List.length_pos_iff.2 hne)
    cases e
    (have:=hc j (encStr t) (by rw [List.getElem?_map,ht];rfl));rw [QAZ,Nat.zero_add] at this;exact this
end Go.Proofs.YtbmedfokpgghiacGreat
