import Derived.Test.YtbmedfokpgghiacGreatB29
import Derived.Test.YtbmedfokpgghiacGreatB30
import Derived.Test.YtbmedfokpgghiacGreatB26
import Derived.Test.YtbmedfokpgghiacGreatB10
import Derived.Test.YtbmedfokpgghiacGreatB01
import Derived.Test.YtbmedfokpgghiacGreatB23
import Derived.Test.YtbmedfokpgghiacGreatB07
import Derived.Test.YtbmedfokpgghiacGreatB18
import Derived.Test.YtbmedfokpgghiacGreatB15
namespace Go.Proofs.YtbmedfokpgghiacGreat
open Go.RowKit Go.Sort
theorem QAn {w:World} {b:Nat} {c0 c1 c2 c3:Value} {T:TypeId} (h:w.heap[b]? = some (.cells #[c0,c1,c2,c3] T (0,0))):w.cell? ⟨b,0,none⟩=some c0∧w.cell? ⟨b,1,none⟩=some c1∧w.cell? ⟨b,2,none⟩=some c2∧w.cell? ⟨b,3,none⟩=some c3∧w.frozen? ⟨b,0,none⟩=false∧w.frozen? ⟨b,1,none⟩=false∧w.frozen? ⟨b,2,none⟩=false∧w.frozen? ⟨b,3,none⟩=false :=
 ⟨QAL h 0,QAL h 1,QAL h 2,QAL h 3,QAh h 0,QAh h 1,QAh h 2,QAh h 3⟩
theorem PlanR.leaf {P:Nat→Prop} {w:World} {a:ByteArray} {i:Nat} {needs:List Nat} {vn:Value} (ha:a.size≤maxLen) (hn:IRow P w vn needs):PlanR P w (.mk a i needs []) (.agg #[.string a,.int .i64 (i:Nat),vn,.slice none 0 0]) :=
 PlanR.mk a i needs [] vn none 0 0 0 (fun _ => .bool false) ha hn (Nat.le_refl _) (Nat.zero_le _) (fun h=>absurd rfl h) (fun j hj=>by simp at hj) (fun j k hj=>by simp at hj)
theorem QEZ (w:World) (r:Nat) (v0 v1 v2 v3:Value):((((w.setCell ⟨r,0,none⟩ v0).setCell ⟨r,1,none⟩ v1).setCell ⟨r,2,none⟩ v2).setCell ⟨r,3,none⟩ v3).heap.size=w.heap.size:=by
 rw [QAO,QAO,QAO,QAO]
theorem QCJ {w:World} {r b:Nat} (v0 v1 v2 v3:Value) (h:b≠r):((((w.setCell ⟨r,0,none⟩ v0).setCell ⟨r,1,none⟩ v1).setCell ⟨r,2,none⟩ v2).setCell ⟨r,3,none⟩ v3).heap[b]? = w.heap[b]? := by
 rw [QAJ _ h,QAJ _ h,QAJ _ h,QAJ _ h]
theorem QCK {w:World} {r:Nat} {c0 c1 c2 c3:Value} {T:TypeId} (v0 v1 v2 v3:Value) (h:w.heap[r]? = some (.cells #[c0,c1,c2,c3] T (0,0))):((((w.setCell ⟨r,0,none⟩ v0).setCell ⟨r,1,none⟩ v1).setCell ⟨r,2,none⟩ v2).setCell ⟨r,3,none⟩ v3).heap[r]? = some (.cells #[v0,v1,v2,v3] T (0,0)):=by
 rw [QAS (QAS (QAS (QAS h v0) v1) v2) v3];rfl
theorem QIW {B:Nat} {w w1:World} {r:Nat} (v0 v1 v2 v3:Value) (h:Below B w w1) (hr:B≤r):Below B w ((((w1.setCell ⟨r,0,none⟩ v0).setCell ⟨r,1,none⟩ v1).setCell ⟨r,2,none⟩ v2).setCell ⟨r,3,none⟩ v3) :=
 (((h.setCell (p:=⟨r,0,none⟩) hr _).setCell (p:=⟨r,1,none⟩) hr _).setCell (p:=⟨r,2,none⟩) hr _).setCell (p:=⟨r,3,none⟩) hr _
theorem QJC {ps:List PartM} {wh:List Nat} {i:Nat} (hi:i < 2 * ps.length) (h1:wh.getD i 0=1) (s:ByteArray) (hs:s.data.toList=QBO ps wh i) (hne:QBO ps wh i≠[]) :
  ((s.data.toList=Ru.ax.text∧QAo ps (.mk s i [2 * (i / 2),2 * (i / 2)+1] [])∧∀ x∈[2 * (i / 2),2 * (i / 2)+1],wh.getD x 0=1)∨(s.data.toList≠Ru.ax.text∧QAo ps (.mk s i [i] [])∧∀ x∈[i],wh.getD x 0=1)):=by
 (have hlt:i / 2 < ps.length:=by omega);have hp:=List.getElem?_eq_getElem hlt;unfold QBO at hs hne;rw [hp] at hs hne;simp only at hs hne;by_cases e1:ps[i / 2].kind=2∧itR i=true
 ·rw [if_pos e1] at hs
  (exact Or.inr ⟨by rw [hs];decide,QAo.tr s hs i _ hp e1.1 e1.2,fun x hx=>by rw [List.mem_singleton.1 hx];exact h1⟩)
 ·rw [if_neg e1] at hs hne
  by_cases e2:ps[i / 2].kind=3∧itR i=false
  ·rw [if_pos e2] at hs
   (exact Or.inr ⟨by rw [hs];decide,QAo.fa s hs i _ hp e2.1 e2.2,fun x hx=>by rw [List.mem_singleton.1 hx];exact h1⟩)
  ·rw [if_neg e2] at hs hne
   (by_cases e3:wh.getD (if itR i=true then i - 1 else i+1) 0=1)
   ·rw [if_pos e3] at hs
    (refine Or.inl ⟨hs,QAo.ax s hs i _ rfl hlt,fun x hx => ?_⟩);have hc:=QDJ i;have hr:=QAp (i / 2)
    rcases hc with e|e
    ·rw [e,hr.1] at e3
     simp only [Bool.false_eq_true,if_false] at e3;simp only [List.mem_cons,List.not_mem_nil,or_false] at hx
     rcases hx with rfl|rfl
     ·rw [← e];exact h1
     ·rw [← e] at e3 ⊢;exact e3
    ·rw [e,hr.2] at e3
     simp only [if_true] at e3;simp only [List.mem_cons,List.not_mem_nil,or_false] at hx
     rcases hx with rfl|rfl
     ·rw [show 2 * (i / 2)+1 - 1=2 * (i / 2) by omega] at e3;exact e3
     ·rw [← e];exact h1
   ·rw [if_neg e3] at hne
    exact absurd rfl hne
set_option maxRecDepth 10000 in
set_option maxHeartbeats 4000000 in
theorem QHs {x:Fx} {w:World} {M:Nat→Prop} {wh br:List Nat} {wk:Nat} {op:Bool} (h:FinSt x w M wh br wk op) (i:Nat) (hi:i < x.L) (h1:wh.getD i 0=1) (hne:QBO x.ps wh i≠[]) :
  Calls Tryz.prog 96 #[.pointer (some ⟨x.bf,0,none⟩),.int .i64 (i:Nat)] w fun e w'=>∃ p v,e = .returned v∧PlanR (fun b=>w.heap.size≤b) w' p v∧QAo x.ps p∧QCk p∧(∀ y∈p.needs,wh.getD y 0=1)∧Below w.heap.size w w':=by
 have HS:Hid (FinSt x w M wh br wk op):=h;(have HC:Hid (∀ W,Below w.heap.size w W→Calls Tryz.prog 137 #[.pointer (some ⟨x.bf,0,none⟩),.int .i64 (i:Nat)] W _):=fun W hb=>QDd (h.up hb) i hi);have hL2:=h.l2;have hpl:=h.plen;(have hi3:i≤3000000:=by omega);(have HP:Hid (∀ W,Calls Tryz.prog 100 #[.int .i64 (i:Nat)] W _):=fun W=>QCn i hi3 W);obtain⟨n,hn⟩:∃ n:Nat,n=i / 2:=⟨_,rfl⟩;(have hn3:n≤1000000:=by omega);rw [← hn] at HP;(have HAL:Hid (∀ W,Calls Tryz.prog 90 #[.int .i64 (n:Nat)] W _):=fun W=>QCf n hn3 W);(have HAR:Hid (∀ W,Calls Tryz.prog 92 #[.int .i64 (n:Nat)] W _):=fun W=>QCG n hn3 W);obtain⟨n0,hn0⟩:∃ n0:Nat,n0=2 * n:=⟨_,rfl⟩;obtain⟨n1,hn1⟩:∃ n1:Nat,n1=2 * n+1:=⟨_,rfl⟩;rw [← hn0] at HAL;rw [← hn1] at HAR
 have HCl:Hid (∀ s:ByteArray,s.data.toList=QBO x.ps wh i→((s.data.toList=Ru.ax.text∧QAo x.ps (.mk s i [n0,n1] [])∧∀ y∈[n0,n1],wh.getD y 0=1)∨(s.data.toList≠Ru.ax.text∧QAo x.ps (.mk s i [i] [])∧∀ y∈[i],wh.getD y 0=1))):=fun s hs=>by
  rw [hn0,hn1,hn];(exact QJC (by omega) h1 s hs hne)
 (have HNe:Hid (n0≠n1):=by show _≠_;omega);clear h hL2 hpl hi hne h1 hn hn0 hn1 hn3
 go_enter Tryz.func96,Tryz.ntmps96
 go_wp2_with fail;refine (HC.out _ (QAB (Below.refl _ w) _)).mono ?_;rintro e w1 ⟨s,rfl,hs,hs5,hb1⟩;have HB1:Hid (Below w.heap.size w w1):=QAC (QAB (Below.refl _ w) _) hb1;have HR:Hid (w1.heap[w.heap.size]? = some (.cells #[.string ⟨#[]⟩,.int .i64 0,.slice none 0 0,.slice none 0 0] 85 (0,0))):=QAA hb1 (QAH w _);(have HS5:Hid (s.size≤maxLen):=by show s.size≤maxLen;unfold maxLen;omega);(have HZ1:Hid (w.heap.size < w1.heap.size):=by have:=hb1.size;rw [World.size_alloc] at this;exact this);obtain⟨r0,r1,r2,r3,r4,r5,r6,r7⟩:=QAn HR.out;have zlt:=HZ1.out;(have zlt1:w.heap.size < w1.heap.size+1:=by omega);(have zlt2:w.heap.size < w1.heap.size+1+1:=by omega);(have zlt3:w.heap.size < w1.heap.size+1+1+1:=by omega);(have zne:¬ w.heap.size=w1.heap.size+1:=by omega);(have zne2:¬ w1.heap.size+1=w.heap.size:=by omega);clear hb1 hs5
 rcases HCl.out s hs with ⟨hx,hpo,hnd⟩|⟨hx,hpo,hnd⟩
 ·have es:s=⟨#[97,120]⟩:=by
   apply ByteArray.ext;apply Array.ext';exact hx
  have HPo:Hid (QAo x.ps (.mk s i [n0,n1] [])):=hpo;have HNd:Hid (∀ y∈[n0,n1],wh.getD y 0=1):=hnd;rw [es] at HPo HS5;subst es;clear hx hpo hnd hs
  go_wp2_with (first
   | (
     go_at_call 100
     refine (HP.out _).mono ?_;rintro e w3 ⟨rfl,hw3⟩
     subst hw3)
   | (
     go_at_call 90
     refine (HAL.out _).mono ?_;rintro e w3 ⟨rfl,hw3⟩
     subst hw3)
   | (
     go_at_call 92
     refine (HAR.out _).mono ?_;rintro e w3 ⟨rfl,hw3⟩
     subst hw3)
   | fail)
  (refine bodyPost_ret (v := .agg #[.string ⟨#[97,120]⟩,.int .i64 (i:Nat),.slice (some ⟨w1.heap.size+1+1,0,none⟩) 2 2,.slice none 0 0]) (by simp [results,Tryz.results96,go_sem,r0,r1,r2,r3,zlt,zlt1,zlt2]) rfl ⟨.mk ⟨#[97,120]⟩ i [n0,n1] [],_,rfl,?_,HPo.out,QCk.mk _ _ _ _ (by simpa using HNe.out) (fun k hk=>by cases hk) (fun k hk=>by cases hk),HNd.out,QAB (QAB (QAB (QIW _ _ _ _ HB1.out (Nat.le_refl _)) _) _) _⟩);(refine PlanR.leaf HS5.out (IRow.two (by omega) ?_ (T:=82)));have:=QAH (((((((w1.setCell ⟨w.heap.size,0,none⟩ (.string ⟨#[97,120]⟩)).setCell ⟨w.heap.size,1,none⟩ (.int .i64 (i:Nat))).setCell ⟨w.heap.size,2,none⟩ (.slice (some ⟨w1.heap.size+1+1,0,none⟩) 2 2)).setCell ⟨w.heap.size,3,none⟩ (.slice none 0 0)).alloc (.cells #[.int .i64 (i:Nat)] 82 (0,0))).alloc (.cells #[.string ⟨#[97,120]⟩,.int .i64 (i:Nat),.slice (some ⟨w1.heap.size+1+1,0,none⟩) 2 2,.slice none 0 0] 85 (0,0)))) (.cells #[.int .i64 (n0:Nat),.int .i64 (n1:Nat)] 82 (0,0));rw [World.size_alloc,World.size_alloc,QEZ] at this;exact this
 ·have HPo:Hid (QAo x.ps (.mk s i [i] [])):=hpo
  have HNd:Hid (∀ y∈[i],wh.getD y 0=1):=hnd;(have hx':(s.toList == [97,120])=false:=by rw [ByteArray.toList_eq];simp only [beq_eq_false_iff_ne];exact hx);clear hx hpo hnd hs;go_wp2_with fail;(refine bodyPost_ret (v := .agg #[.string s,.int .i64 (i:Nat),.slice (some ⟨w1.heap.size,0,none⟩) 1 1,.slice none 0 0]) (by simp [results,Tryz.results96,go_sem,r0,r1,r2,r3,zlt,zlt1]) rfl ⟨.mk s i [i] [],_,rfl,?_,HPo.out,QCk.mk _ _ _ _ (by simp) (fun k hk=>by cases hk) (fun k hk=>by cases hk),HNd.out,QAB (QAB (QIW _ _ _ _ HB1.out (Nat.le_refl _)) _) _⟩);(refine PlanR.leaf HS5.out (IRow.one (by omega) (QAG ?_ _) (T:=82)));have:=QAH ((((w1.setCell ⟨w.heap.size,0,none⟩ (.string s)).setCell ⟨w.heap.size,1,none⟩ (.int .i64 (i:Nat))).setCell ⟨w.heap.size,2,none⟩ (.slice (some ⟨w1.heap.size,0,none⟩) 1 1)).setCell ⟨w.heap.size,3,none⟩ (.slice none 0 0)) (.cells #[.int .i64 (i:Nat)] 82 (0,0));rw [QEZ] at this;exact this
open Go.RowKit
def QKF (Ph:Fm→Prop) (T:Nat→Prop) (bt:Nat) (ps:List PartM) (fs:List Fm) (m:Nat):Prop:=∀ (w:World) (n:Nat) (f:Fm),Tab Ph w T bt ps fs→fs[n]? = some f→f.size < m →
 Calls Tryz.prog 147 #[.pointer (some ⟨bt,0,none⟩),.int .i64 (n:Nat)] w fun e w'=>∃ v,e = .returned v∧Rep w' (w.heap.size≤·) f v∧Below w.heap.size w w'
set_option maxRecDepth 10000 in
set_option maxHeartbeats 8000000 in
theorem QKy {Ph:Fm→Prop} {T:Nat→Prop} {bt:Nat} {ps:List PartM} {fs:List Fm} (m:Nat) (ih:QKF Ph T bt ps fs m):QKF Ph T bt ps fs (m+1):=by
 intro w n f htab hf hm;(have hnl:n < ps.length:=by rw [htab.ok.len];exact (List.getElem?_eq_some_iff.1 hf).1);obtain⟨⟨k,nm,kids⟩,hp⟩:∃ p,ps[n]? = some p:=⟨_,List.getElem?_eq_getElem hnl⟩;obtain⟨hkl,hfm⟩:=htab.ok.at' n _ hp
 have ef:f=Fm.mk k nm (kids.map fun j=>fs.getD j QAR):=by
  rw [hf] at hfm;exact Option.some.inj hfm
 have hsm:QAu ⟨k,nm,kids⟩:=by
  obtain⟨_,_,_,_,_,-,-,-,-,-,h6,-⟩:=htab.tab;exact h6 _ (List.mem_of_getElem? hp)
 obtain⟨gP,cP,g',cN,bm,mm,hbt,hc1,hc2,-,-,-,d0,d1,d2,d3,d4,-⟩:=htab.tab.at' hp;obtain⟨q0,q1,q2,-⟩:=QAb hbt;have zt:=QAE hbt;have zp:=QAI d0;simp only at zp;(have hnI:(n:Int) < (ps.length:Int):=by omega);(have hnc:(n:Int) < (cP:Int):=by omega);have hk2:kids.length≤2:=hsm.two;(have hk2I:(kids.length:Int)≤2:=by omega);(have hpl:(ps.length:Int)≤9223372036854775807:=by unfold maxLen at hc2;omega);have HNm:Hid (nm.size≤maxLen):=hsm.name;have HT:Hid (Tab Ph w T bt ps fs):=htab;subst ef;(obtain⟨ks,hks⟩:∃ ks,ks=kids.map fun j=>fs.getD j QAR:=⟨_,rfl⟩);(have hkl2:ks.length=kids.length:=by rw [hks];simp);rw [← hks] at hm ⊢
 have HK:Hid (∀ i j,kids[i]? = some j→∃ g,ks[i]? = some g∧fs[j]? = some g):=fun i j hj=>by
  have hlt:j < fs.length:=by
   have:=hkl j (List.mem_of_getElem? hj);rw [← htab.ok.len];omega
  (exact⟨fs.getD j QAR,by rw [hks,List.getElem?_map,hj];rfl,QBd hlt⟩)
 have HKc:Hid (∀ i j,kids[i]? = some j→(i=0∧(PartM.mk k nm kids).k0=j)∨(i=1∧(PartM.mk k nm kids).k1=j)):=fun i j hj=>by
  have hlt:=(List.getElem?_eq_some_iff.1 hj).1;unfold PartM.k0 PartM.k1
  rcases (show i=0∨i=1 by omega) with rfl|rfl
  ·exact Or.inl ⟨rfl,by rw [List.getD_eq_getElem?_getD,hj];rfl⟩
  ·exact Or.inr ⟨rfl,by rw [List.getD_eq_getElem?_getD,hj];rfl⟩
 (have HKj:Hid (∀ i j,kids[i]? = some j→j < 1000000):=fun i j hj=>hsm.kids j (List.mem_of_getElem? hj));have HMs:Hid ((Fm.mk k nm ks).size < m+1):=hm;have HIH:Hid (QKF Ph T bt ps fs m):=ih;have HLe:Hid (ks.length=kids.length):=hkl2;(have zt1:bt < w.heap.size+1:=by omega);(have zp1:gP < w.heap.size+1:=by omega);obtain⟨i0,hi,hz0,hz1,hz2⟩:=QBb;have HIo:Hid (Tryz.prog.info? 29=some i0∧i0.zero=some (.agg #[.int .i64 0,.string ⟨#[]⟩,.slice none 0 0])∧i0.size=3∧i0.bytes=48):=⟨hi,hz0,hz1,hz2⟩;generalize (PartM.mk k nm kids).k0=k0 at *;generalize (PartM.mk k nm kids).k1=k1 at *;obtain⟨c,hc⟩:∃ c,c=kids.length:=⟨_,rfl⟩;have HC:Hid (c=kids.length):=hc;simp only at d2;rw [← hc] at hk2I hk2 d2;clear htab hf hm hnl hp hkl hfm hsm hbt hks hkl2 ih hi hz0 hz1 hz2 hc
 go_enter Tryz.func147,Tryz.ntmps147
 go_wp2_with fail;obtain⟨W,hW⟩:∃ W,W=(((w.alloc (.cells #[.int .i64 0,.string ⟨#[]⟩,.slice none 0 0] 29 (0,0))).alloc (.cells #[.int .i64 k,.string nm,.int .i64 (c:Nat),.int .i64 (k0:Nat),.int .i64 (k1:Nat)] 158 (0,0))).alloc (.cells #[.int .i64 k,.string nm,.slice none 0 0] 29 (0,0))):=⟨_,rfl⟩;rw [← hW];(have HB0:Hid (Below w.heap.size w W):=by rw [hW];exact QAB (QAB (QAB (Below.refl _ w) _) _) _);(have HP0:Hid (W.heap[w.heap.size]? = some (.cells #[.int .i64 0,.string ⟨#[]⟩,.slice none 0 0] 29 (0,0))):=by rw [hW];exact QAG (QAG (QAH w _) _) _);(have HP1:Hid (W.heap[w.heap.size+1]? = some (.cells #[.int .i64 k,.string nm,.int .i64 (c:Nat),.int .i64 (k0:Nat),.int .i64 (k1:Nat)] 158 (0,0))):=by rw [hW];exact QAG (QAa w _ _) _)
 have HP2:Hid (W.heap[w.heap.size+1+1]? = some (.cells #[.int .i64 k,.string nm,.slice none 0 0] 29 (0,0))):=by
  rw [hW];have:=QAH ((w.alloc (.cells #[.int .i64 0,.string ⟨#[]⟩,.slice none 0 0] 29 (0,0))).alloc (.cells #[.int .i64 k,.string nm,.int .i64 (c:Nat),.int .i64 (k0:Nat),.int .i64 (k1:Nat)] 158 (0,0))) (.cells #[.int .i64 k,.string nm,.slice none 0 0] 29 (0,0));rw [World.size_alloc,World.size_alloc] at this;exact this
 clear hW q0 q1 q2 d0 d1 d2 d3 d4
 go_loopg [26] c (fun g cc wr=>∃ i ad cp,i≤c∧g=c - i∧cc = .int .i64 (i:Nat)∧Hid (Below w.heap.size w wr)∧Hid (wr.heap[w.heap.size]? = some (.cells #[.int .i64 0,.string ⟨#[]⟩,.slice none 0 0] 29 (0,0)))∧Hid (wr.heap[w.heap.size+1]? = some (.cells #[.int .i64 k,.string nm,.int .i64 (c:Nat),.int .i64 (k0:Nat),.int .i64 (k1:Nat)] 158 (0,0)))∧Hid (wr.heap[w.heap.size+1+1]? = some (.cells #[.int .i64 k,.string nm,.slice ad i cp] 29 (0,0)))∧Hid (KO (w.heap.size+3) wr ad cp (ks.take i)))
 case atStart=>exact⟨0,none,0,by omega,by omega,rfl,HB0,HP0,HP1,HP2,KO.nil⟩
 case round =>
  obtain⟨i,ad,cp,hile,hg,rfl,HB,H0,H1,H2,HKO⟩:=hrel;have HG:Hid (gk=c - i):=hg;clear hg;by_cases hlt:i < c
  ·obtain⟨j,hj⟩:∃ j,kids[i]? = some j:=⟨_,List.getElem?_eq_getElem (by have:=HC.out;omega)⟩
   obtain⟨g,hkg,hfg⟩:=HK.out i j hj;obtain⟨k2,n2,ks2⟩:=g
   have e3:wr.cell? ⟨w.heap.size+1,3+i,none⟩=some (.int .i64 (j:Nat)):=by
    obtain⟨a0,a1,a2,a3,a4,-⟩:=QCg H1.out
    rcases HKc.out i j hj with ⟨rfl,e⟩|⟨rfl,e⟩
    ·rw [← e];exact a3
    ·rw [← e];exact a4
   (have hltI:(i:Int) < (c:Int):=by omega);(have hlt2:(i:Int) < 2:=by omega)
   have HCall:Hid (∀ W,Below wr.heap.size wr W→Calls Tryz.prog 147 #[.pointer (some ⟨bt,0,none⟩),.int .i64 (j:Nat)] W _):=fun W hb=>HIH.out W j (.mk k2 n2 ks2) ((HT.out.up HB.out).up hb) hfg (by
    have h1:=QBm hkg;have h2:=HMs.out;rw [Fm.size] at h2
    omega)
   have HTk:Hid (ks.take (i+1)=ks.take i++[.mk k2 n2 ks2]):=by
    show _=_;rw [List.take_add_one,hkg];rfl
   (have hti:(ks.take i).length=i:=by rw [List.length_take];have:=HLe.out;have:=HC.out;omega);have HTi:Hid ((ks.take i).length=i):=hti;(have hjI:(j:Int)≤1000000:=by have:=HKj.out i j hj;omega)
   have HOB:Hid (∀ b,wr.heap.size≤b→w.heap.size+3≤b∧(Value.slice ad i cp).ownBlock≠some b):=fun b hb=>by
    obtain⟨cs,ho,-⟩:=HKO.out;rw [hti] at ho;have:=QAE H2.out;(exact⟨by omega,fun e=>by have:=(ho.lt b e).2;omega⟩)
   obtain⟨p0,p1,p2,p3,p4,p5⟩:=QAb H2.out;have z2:=QAE H2.out;have zw:w.heap.size+1 < wr.heap.size:=QAE H1.out;obtain⟨hi,hz0,hz1,hz2⟩:=HIo.out;clear hkg hfg hj hti;go_wp2_with fail
   go_region_law
    (
     first
     | (
      have hown:=(HKO.out.up HB1.out).up ((Below.refl _ w1).alloc (Nat.le_refl _) (.cells #[.int .i64 k2,.string n2,.slice sl3 ks2.length cap3] 29 (0,0)))
      obtain⟨cs,hown,hlq⟩:=hown;rw [HTi.out] at hown hlq;(refine step_append_lies _ rfl _ _ 22 rfl (w.heap.size+3) 29 i0 (.agg #[.int .i64 0,.string ⟨#[]⟩,.slice none 0 0]) 3 48 Tryz.underlying22 hi hz0 hz1 hz2 rfl (by decide) _ _ _ rfl hown ⟨w1.heap.size,0,none⟩ 1 1 [.int .i64 k2,.string n2,.slice sl3 ks2.length cap3] rfl rfl ?_ ?_ (by omega) (by unfold maxLen;omega) (by omega) (by have:=HB1.out.size;rw [World.size_alloc];omega) _ rfl ?_)
      ·intro j u hu
       rw [QAZ,Nat.zero_add,QAL (QAH w1 _)];simpa using hu
      ·intro u hu
       simp at hu
       rcases hu with rfl|rfl|rfl <;> rfl
      intro g3 cp3 w3 hown3 hgrow hat hlt3;have hgrow':(w1.alloc (.cells #[.int .i64 k2,.string n2,.slice sl3 ks2.length cap3] 29 (0,0))).grownBy w3 (Value.slice ad i cp).ownBlock:=hgrow;have hat':(Value.slice ad i cp).ownBlock=some g3∨g3=(w1.alloc (.cells #[.int .i64 k2,.string n2,.slice sl3 ks2.length cap3] 29 (0,0))).heap.size:=hat;clear hgrow hat;(obtain⟨hbB,hko⟩:=KO.app HTi.out (by have:=HB1.out.size;omega) hown hlq (HR3.out.move fun b hb1 hb2=>⟨rfl,(HOB.out b (Nat.le_trans (Nat.le_refl _) hb2)).1,(HOB.out b hb2).2⟩) hown3 hgrow' hat');have HKN:Hid (KO (w.heap.size+3) w3 (some ⟨g3,0,none⟩) cp3 (ks.take i++[.mk k2 n2 ks2])):=hko;have HBB:Hid (Below (w.heap.size+3) w1 w3):=hbB;(have HS2:Hid (w3.heap[w.heap.size+1+1]? = some (.cells #[.int .i64 k,.string nm,.slice ad i cp] 29 (0,0))):=(hbB.block (w.heap.size+1+1) (by omega)).trans (QAA HB1.out H2.out));clear hgrow' hat' hown3 hown hlq hko hbB;obtain⟨s0,s1,s2,s3,s4,s5⟩:=QAb HS2.out
      have y3:=QAE HS2.out)
     | (
      go_simp
      refine (HCall.out _ (Below.refl _ _).drew).mono ?_;rintro e w1 ⟨u,rfl,hrep3,hb1⟩;obtain⟨sl3,cap3,rfl⟩:=QAU hrep3;have HB1:Hid (Below wr.heap.size wr w1):=QAC (Below.refl _ wr).drew hb1;have HR3:Hid (Rep w1 (wr.heap.size≤·) (.mk k2 n2 ks2) (.agg #[.int .i64 k2,.string n2,.slice sl3 ks2.length cap3])):=hrep3;obtain⟨t0,t1,t2,t3,t4,t5⟩:=QAb (QAA HB1.out H2.out);have y2:=QAE (QAA HB1.out H2.out);clear hb1 hrep3
      dsimp only)
     | fail)
   all_goals
    have t5:(w3.setCell ⟨w.heap.size+1+1,2,none⟩ (.slice (some ⟨g3,0,none⟩) (i+1) cp3)).heap[w.heap.size+1+1]? = some (.cells #[.int .i64 k,.string nm,.slice (some ⟨g3,0,none⟩) (i+1) cp3] 29 (0,0)):=by
     rw [QAS HS2.out];rfl
    have T5:Hid ((w3.setCell ⟨w.heap.size+1+1,2,none⟩ (.slice (some ⟨g3,0,none⟩) (i+1) cp3)).heap[w.heap.size+1+1]? = some (.cells #[.int .i64 k,.string nm,.slice (some ⟨g3,0,none⟩) (i+1) cp3] 29 (0,0))):=t5;have zz:=HB.out.size;(have kb:∀ b,b < w.heap.size+2→(w3.setCell ⟨w.heap.size+1+1,2,none⟩ (.slice (some ⟨g3,0,none⟩) (i+1) cp3)).heap[b]? = wr.heap[b]? := fun b hb=>(QAJ _ (by omega)).trans ((HBB.out.block b (by omega)).trans (HB1.out.block b (by omega))));(have T6:Hid ((w3.setCell ⟨w.heap.size+1+1,2,none⟩ (.slice (some ⟨g3,0,none⟩) (i+1) cp3)).heap[w.heap.size]? = some (.cells #[.int .i64 0,.string ⟨#[]⟩,.slice none 0 0] 29 (0,0))):=(kb _ (by omega)).trans H0.out);(have T7:Hid ((w3.setCell ⟨w.heap.size+1+1,2,none⟩ (.slice (some ⟨g3,0,none⟩) (i+1) cp3)).heap[w.heap.size+1]? = some (.cells #[.int .i64 k,.string nm,.int .i64 (c:Nat),.int .i64 (k0:Nat),.int .i64 (k1:Nat)] 158 (0,0))):=(kb _ (by omega)).trans H1.out);(have BB:Hid (Below w.heap.size w (w3.setCell ⟨w.heap.size+1+1,2,none⟩ (.slice (some ⟨g3,0,none⟩) (i+1) cp3))):=((HB.out.trans (HB1.out.mono zz)).trans (HBB.out.mono (by omega))).setCell (by simp;omega) _)
    have HKN2:Hid (KO (w.heap.size+3) (w3.setCell ⟨w.heap.size+1+1,2,none⟩ (.slice (some ⟨g3,0,none⟩) (i+1) cp3)) (some ⟨g3,0,none⟩) cp3 (ks.take (i+1))):=by
     show KO _ _ _ _ _;rw [HTk.out];(exact HKN.out.same fun b hb _=>QAJ _ (by omega))
    clear t5 kb;go_wp2_with fail
    go_roundg (c - (i+1))
    case measure=>have:=HG.out;omega
    case rel=>exact⟨i+1,some ⟨g3,0,none⟩,cp3,by omega,rfl,by go_num,BB,T6,T7,T5,HKN2⟩
  ·have hge:¬ (i:Int) < (c:Int):=by omega
   (have hie:i=c:=by omega);subst hie;(have hkl:ks.length=i:=by have h1:=HLe.out;have h2:=HC.out;omega)
   have HKE:Hid (KO (w.heap.size+3) wr ad cp ks):=by
    have:=HKO.out;(rw [List.take_of_length_le (by omega)] at this);exact this
   obtain⟨p0,p1,p2,-⟩:=QAb H2.out;obtain⟨r0,r1,r2,r3,r4,r5⟩:=QAb H0.out;have zr:=QAE H0.out;go_wp2_with fail;obtain⟨Wf,hWf⟩:∃ Wf,Wf=(((wr.setCell ⟨w.heap.size,0,none⟩ (.int .i64 k)).setCell ⟨w.heap.size,1,none⟩ (.string nm)).setCell ⟨w.heap.size,2,none⟩ (.slice ad i cp)):=⟨_,rfl⟩;rw [← hWf]
   have hE:Wf.heap[w.heap.size]? = some (.cells #[.int .i64 k,.string nm,.slice ad i cp] 29 (0,0)):=by
    rw [hWf,QAS (QAS (QAS H0.out _) _) _];rfl
   obtain⟨m0,m1,m2,-⟩:=QAb hE
   have hB:Below w.heap.size w Wf:=by
    rw [hWf];exact ((HB.out.setCell (p:=⟨w.heap.size,0,none⟩) (Nat.le_refl _) _).setCell (p:=⟨w.heap.size,1,none⟩) (Nat.le_refl _) _).setCell (p:=⟨w.heap.size,2,none⟩) (Nat.le_refl _) _
   (refine bodyPost_ret (v := .agg #[.int .i64 k,.string nm,.slice ad i cp]) (by clear hWf;simp [results,Tryz.results147,go_sem,m0,m1,m2]) rfl ⟨_,rfl,?_,hB⟩)
   have hko:KO (w.heap.size+3) Wf ad cp ks:=HKE.out.same fun b hb _=>by
    (rw [hWf,QAJ _ (by omega),QAJ _ (by omega),QAJ _ (by omega)])
   have:=hko.rep k nm HNm.out;rw [hkl] at this;(exact this.move fun b _ hb=>⟨rfl,by omega⟩)
theorem QHy {Ph:Fm→Prop} {w:World} {T:Nat→Prop} {bt:Nat} {ps:List PartM} {fs:List Fm} (h:Tab Ph w T bt ps fs) {n:Nat} {f:Fm} (hf:fs[n]? = some f):Calls Tryz.prog 147 #[.pointer (some ⟨bt,0,none⟩),.int .i64 (n:Nat)] w fun e w'=>∃ v,e = .returned v∧Rep w' (w.heap.size≤·) f v∧Below w.heap.size w w':=by
 have all:∀ m,QKF Ph T bt ps fs m:=fun m=>by
  induction m with
  | zero=>exact fun w n f _ _ h=>absurd h (Nat.not_lt_zero _)
  | succ m ih=>exact QKy m ih
 exact all (f.size+1) w n f h hf (Nat.lt_succ_self _)
structure WrSt (x:Fx) (w:World) (bz:Nat) (lean:Bool) (st nd:Nat):Prop where
 tab:Tab x.Ph w x.T x.bt x.ps x.fs
 ways:WaysR x.K w x.vW x.ps
 blk:w.heap[bz]? = some (.cells #[.pointer (some ⟨x.bt,0,none⟩),x.vW,.bool lean,.int .i64 (st:Nat),.int .i64 (nd:Nat)] 162 (0,0))
 tk:∀ b,x.T b→x.K b
 kz:∀ b,x.K b→b≠bz∧b < w.heap.size
 l2:x.L=2 * x.ps.length
 plen:x.ps.length≤100000
theorem WrSt.next {x:Fx} {w w':World} {bz:Nat} {lean:Bool} {st nd:Nat} (h:WrSt x w bz lean st nd) (hb:∀ b,b < w.heap.size→x.K b∨b=bz→w'.heap[b]? = w.heap[b]?) (hs:w.heap.size≤w'.heap.size):WrSt x w' bz lean st nd :=
 ⟨h.tab.same (fun b ht hl=>hb b hl (Or.inl (h.tk b ht))) hs,h.ways.move fun b hl hp=>⟨hb b hl (Or.inl hp),hp⟩,(hb bz (QAE h.blk) (Or.inr rfl)).trans h.blk,h.tk,fun b hk=>⟨(h.kz b hk).1,Nat.lt_of_lt_of_le (h.kz b hk).2 hs⟩,h.l2,h.plen⟩
theorem WrSt.up {x:Fx} {w w':World} {bz:Nat} {lean:Bool} {st nd:Nat} (h:WrSt x w bz lean st nd) (hb:Below w.heap.size w w'):WrSt x w' bz lean st nd:=h.next (fun b hl _=>hb.block b hl) hb.size
theorem WrSt.steps {x:Fx} {w:World} {bz:Nat} {lean:Bool} {st nd:Nat} (h:WrSt x w bz lean st nd) (n:Nat):WrSt x (w.setCell ⟨bz,3,none⟩ (.int .i64 (n:Nat))) bz lean n nd :=
 ⟨h.tab.same (fun b ht _=>QAJ _ (h.kz b (h.tk b ht)).1) (by rw [QAO];exact Nat.le_refl _),h.ways.move fun b _ hp=>⟨QAJ _ (h.kz b hp).1,hp⟩,by rw [QAS h.blk];rfl,h.tk,fun b hk=>by rw [QAO];exact h.kz b hk,h.l2,h.plen⟩
theorem WrSt.nodes {x:Fx} {w:World} {bz:Nat} {lean:Bool} {st nd:Nat} (h:WrSt x w bz lean st nd) (n:Nat):WrSt x (w.setCell ⟨bz,4,none⟩ (.int .i64 (n:Nat))) bz lean st n :=
 ⟨h.tab.same (fun b ht _=>QAJ _ (h.kz b (h.tk b ht)).1) (by rw [QAO];exact Nat.le_refl _),h.ways.move fun b _ hp=>⟨QAJ _ (h.kz b hp).1,hp⟩,by rw [QAS h.blk];rfl,h.tk,fun b hk=>by rw [QAO];exact h.kz b hk,h.l2,h.plen⟩
set_option maxRecDepth 10000 in
set_option maxHeartbeats 4000000 in
theorem QFg {x:Fx} {w:World} {bz:Nat} {lean:Bool} {st nd:Nat} (h:WrSt x w bz lean st nd) (a:ByteArray) (i:Nat) (an:Option Addr) (nn cn:Nat) (sl:Option Addr) (nk cp:Nat) (ae:Option Addr) (ne ce:Nat) (hn:nn≤10000000) (he:ne≤10000000) (hk:nk≤10000000) :
  Calls Tryz.prog 145 #[.pointer (some ⟨bz,0,none⟩),.agg #[.string a,.int .i64 (i:Nat),.slice an nn cn,.slice sl nk cp],.slice ae ne ce] w fun e w'=>e = .returned (.bool (lean && decide (0 < nk) && decide (nn < ne)))∧Below w.heap.size w w':=by
 obtain⟨q0,q1,q2,q3,q4,-⟩:=QCg h.blk;have zb:=QAE h.blk;(have zb1:bz < w.heap.size+1:=by omega);(have hnI:(nn:Int)≤10000000:=by omega);(have heI:(ne:Int)≤10000000:=by omega);(have hkI:(nk:Int)≤10000000:=by omega);clear h
 cases lean
 ·go_enter Tryz.func145,Tryz.ntmps145
  go_wp2_with fail;go_ret;exact⟨rfl,QAB (Below.refl _ w) _⟩
 ·rcases Nat.eq_zero_or_pos nk with h0|h0
  ·subst h0
   go_enter Tryz.func145,Tryz.ntmps145
   go_wp2_with fail;go_ret;exact⟨rfl,QAB (Below.refl _ w) _⟩
  ·have h0I:(0:Int) < (nk:Int):=by omega
   rcases Nat.lt_or_ge nn ne with h1|h1
   ·have h1I:(nn:Int) < (ne:Int):=by omega
    go_enter Tryz.func145,Tryz.ntmps145
    go_wp2_with fail;go_ret;(exact⟨by simp [h0,h1],QAB (Below.refl _ w) _⟩)
   ·have h1I:¬ (nn:Int) < (ne:Int):=by omega
    go_enter Tryz.func145,Tryz.ntmps145
    go_wp2_with fail;go_ret;(exact⟨by simp;omega,QAB (Below.refl _ w) _⟩)
theorem QNW (a:Array Value) (h:a.size=58):∃ x0 x1 x2 x3 x4 x5 x6 x7 x8 x9 x10 x11 x12 x13 x14 x15 x16 x17 x18 x19 x20 x21 x22 x23 x24 x25 x26 x27 x28 x29 x30 x31 x32 x33 x34 x35 x36 x37 x38 x39 x40 x41 x42 x43 x44 x45 x46 x47 x48 x49 x50 x51 x52 x53 x54 x55 x56 x57,a=#[x0,x1,x2,x3,x4,x5,x6,x7,x8,x9,x10,x11,x12,x13,x14,x15,x16,x17,x18,x19,x20,x21,x22,x23,x24,x25,x26,x27,x28,x29,x30,x31,x32,x33,x34,x35,x36,x37,x38,x39,x40,x41,x42,x43,x44,x45,x46,x47,x48,x49,x50,x51,x52,x53,x54,x55,x56,x57]:=by
 obtain⟨l⟩:=a;have h0:l.length=58:=h;obtain⟨x0,l1,e0,h1⟩:=QAD h0;obtain⟨x1,l2,e1,h2⟩:=QAD h1;obtain⟨x2,l3,e2,h3⟩:=QAD h2;obtain⟨x3,l4,e3,h4⟩:=QAD h3;obtain⟨x4,l5,e4,h5⟩:=QAD h4;obtain⟨x5,l6,e5,h6⟩:=QAD h5;obtain⟨x6,l7,e6,h7⟩:=QAD h6;obtain⟨x7,l8,e7,h8⟩:=QAD h7;obtain⟨x8,l9,e8,h9⟩:=QAD h8;obtain⟨x9,l10,e9,h10⟩:=QAD h9;obtain⟨x10,l11,e10,h11⟩:=QAD h10;obtain⟨x11,l12,e11,h12⟩:=QAD h11;obtain⟨x12,l13,e12,h13⟩:=QAD h12;obtain⟨x13,l14,e13,h14⟩:=QAD h13;obtain⟨x14,l15,e14,h15⟩:=QAD h14;obtain⟨x15,l16,e15,h16⟩:=QAD h15;obtain⟨x16,l17,e16,h17⟩:=QAD h16;obtain⟨x17,l18,e17,h18⟩:=QAD h17;obtain⟨x18,l19,e18,h19⟩:=QAD h18;obtain⟨x19,l20,e19,h20⟩:=QAD h19;obtain⟨x20,l21,e20,h21⟩:=QAD h20;obtain⟨x21,l22,e21,h22⟩:=QAD h21;obtain⟨x22,l23,e22,h23⟩:=QAD h22;obtain⟨x23,l24,e23,h24⟩:=QAD h23;obtain⟨x24,l25,e24,h25⟩:=QAD h24;obtain⟨x25,l26,e25,h26⟩:=QAD h25;obtain⟨x26,l27,e26,h27⟩:=QAD h26;obtain⟨x27,l28,e27,h28⟩:=QAD h27;obtain⟨x28,l29,e28,h29⟩:=QAD h28;obtain⟨x29,l30,e29,h30⟩:=QAD h29;obtain⟨x30,l31,e30,h31⟩:=QAD h30;obtain⟨x31,l32,e31,h32⟩:=QAD h31;obtain⟨x32,l33,e32,h33⟩:=QAD h32;obtain⟨x33,l34,e33,h34⟩:=QAD h33;obtain⟨x34,l35,e34,h35⟩:=QAD h34;obtain⟨x35,l36,e35,h36⟩:=QAD h35;obtain⟨x36,l37,e36,h37⟩:=QAD h36;obtain⟨x37,l38,e37,h38⟩:=QAD h37;obtain⟨x38,l39,e38,h39⟩:=QAD h38;obtain⟨x39,l40,e39,h40⟩:=QAD h39;obtain⟨x40,l41,e40,h41⟩:=QAD h40;obtain⟨x41,l42,e41,h42⟩:=QAD h41;obtain⟨x42,l43,e42,h43⟩:=QAD h42;obtain⟨x43,l44,e43,h44⟩:=QAD h43;obtain⟨x44,l45,e44,h45⟩:=QAD h44;obtain⟨x45,l46,e45,h46⟩:=QAD h45;obtain⟨x46,l47,e46,h47⟩:=QAD h46;obtain⟨x47,l48,e47,h48⟩:=QAD h47;obtain⟨x48,l49,e48,h49⟩:=QAD h48;obtain⟨x49,l50,e49,h50⟩:=QAD h49;obtain⟨x50,l51,e50,h51⟩:=QAD h50;obtain⟨x51,l52,e51,h52⟩:=QAD h51;obtain⟨x52,l53,e52,h53⟩:=QAD h52;obtain⟨x53,l54,e53,h54⟩:=QAD h53;obtain⟨x54,l55,e54,h55⟩:=QAD h54;obtain⟨x55,l56,e55,h56⟩:=QAD h55;obtain⟨x56,l57,e56,h57⟩:=QAD h56;obtain⟨x57,l58,e57,h58⟩:=QAD h57;have e58:l58=[]:=List.length_eq_zero_iff.1 h58;subst e58 e57 e56 e55 e54 e53 e52 e51 e50 e49 e48 e47 e46 e45 e44 e43 e42 e41 e40 e39 e38 e37 e36 e35 e34 e33 e32 e31 e30 e29 e28 e27 e26 e25 e24 e23 e22 e21 e20 e19 e18 e17 e16 e15 e14 e13 e12 e11 e10 e9 e8 e7 e6 e5 e4 e3 e2 e1 e0;exact⟨x0,x1,x2,x3,x4,x5,x6,x7,x8,x9,x10,x11,x12,x13,x14,x15,x16,x17,x18,x19,x20,x21,x22,x23,x24,x25,x26,x27,x28,x29,x30,x31,x32,x33,x34,x35,x36,x37,x38,x39,x40,x41,x42,x43,x44,x45,x46,x47,x48,x49,x50,x51,x52,x53,x54,x55,x56,x57,rfl⟩
def Fx.nods (x:Fx) (items:List Nat):Nat:=(items.map fun i=>(itF x.fs i).size).sum
set_option maxRecDepth 10000 in
set_option maxHeartbeats 8000000 in
theorem QIe {x:Fx} (hsm:∀ f∈x.fs,f.size≤1000) {w:World} {bz:Nat} {lean:Bool} {st nd0:Nat} (h:WrSt x w bz lean st nd0) (items:List Nat) (v:Value) (hv:IRow (fun b=>b≠bz) w v items) (hb:∀ i∈items,i < x.L) (hl:items.length≤200000) (hst:st≤100000) (hnd:nd0≤10000000) (deep:Nat) (hd:deep≤100000) :
  Calls Tryz.prog 144 #[.pointer (some ⟨bz,0,none⟩),v,.int .i64 (deep:Nat)] w fun e w'=>e = .returned (.bool (decide (st+1≤20000) && decide (deep≤400) && decide (items.length≤60) && decide (nd0+x.nods items≤2097152)))∧WrSt x w' bz lean (st+1) (nd0+x.nods items)∧Kept (fun b=>b≠bz) w w':=by
 have hv':=hv;obtain⟨ad,cap,rfl,hc1,hc2,-⟩:=hv';(have HV:Hid (IRow (fun b=>b≠bz) w (.slice ad items.length cap) items):=hv);have HB:Hid (∀ i∈items,i < x.L):=hb;have HS0:Hid (WrSt x (w.setCell ⟨bz,3,none⟩ (.int .i64 ((st:Int)+1))) bz lean (st+1) nd0):=h.steps (st+1);(have HK0:Hid (Kept (fun b=>b≠bz) w (w.setCell ⟨bz,3,none⟩ (.int .i64 ((st:Int)+1)))):=QAf fun c hc=>hc);(have hlI:(items.length:Int)≤200000:=by omega);(have hlc:(items.length:Int)≤(cap:Int):=by omega);(have hstI:(st:Int)≤100000:=by omega);(have hdI:(deep:Int)≤100000:=by omega);(have HNb0:Hid (nd0≤10000000+0 * 1000):=by show _≤_;omega);have HLs:Hid (items.length≤200000):=hl;have HSm:Hid (∀ f∈x.fs,f.size≤1000):=hsm;have HL:Hid (x.L=2 * x.ps.length∧x.ps.length≤100000∧x.ps.length=x.fs.length):=⟨h.l2,h.plen,h.tab.ok.len⟩;obtain⟨q0,q1,q2,q3,q4,f0,f1,f2,f3,f4⟩:=QCg h.blk;clear hv hb h hc1 hc2 hl hsm hst hnd hd
 go_enter Tryz.func144,Tryz.ntmps144
 go_wp2_with fail;clear q0 q1 q2 q3 q4 f0 f1 f2 f3 f4
 go_loopg [18] items.length (fun g c wr=>∃ k nd,k≤items.length∧g=items.length - k∧c = .int .i64 (k:Nat)∧Hid (WrSt x wr bz lean (st+1) nd)∧Hid (nd≤10000000+k * 1000)∧Hid (Kept (fun b=>b≠bz) w wr)∧Hid (nd=nd0+x.nods (items.take k)))
 case atStart=>exact⟨0,nd0,by omega,by omega,rfl,HS0,HNb0,HK0,by show _=_;simp [Fx.nods]⟩
 case round =>
  obtain⟨k,nd,hk,hg,rfl,HW,HNb',HKe,HSn'⟩:=hrel;have HG:Hid (gk=items.length - k):=hg;clear hg;by_cases hlt:k < items.length
  ·obtain⟨t,ht⟩:∃ t,items[k]? = some t:=⟨_,List.getElem?_eq_getElem hlt⟩
   obtain⟨b,off,rfl,hPb,hcell⟩:=HV.out.some' ht;have g0:=(QAQ (a:=⟨b,off+k,none⟩) (HKe.out.block b (QAI hcell) hPb)).trans hcell;have htL:=HB.out t (List.mem_of_getElem? ht);(have htn:t / 2 < x.ps.length:=by have:=HL.out;omega);have hpp:=List.getElem?_eq_getElem htn;(have hff:x.fs[t / 2]? = some (itF x.fs t):=QBd (by have:=HL.out;omega));obtain⟨sz,hsz⟩:∃ sz,sz=(itF x.fs t).size:=⟨_,rfl⟩;(have hszb:sz≤1000:=by rw [hsz];exact HSm.out _ (List.mem_of_getElem? hff));have HSz:Hid (sz=(itF x.fs t).size):=hsz;obtain⟨th,hth⟩:∃ th,th=t / 2:=⟨_,rfl⟩;(have HPt:Hid (∀ W,Calls Tryz.prog 100 #[.int .i64 (t:Nat)] W fun e w'=>e = .returned (.int .i64 (th:Nat))∧w'=W):=fun W=>by rw [hth];exact QCn t (by have:=HL.out;omega) W);(have HNd:Hid (∀ W,Below wr.heap.size wr W→Calls Tryz.prog 192 #[.pointer (some ⟨x.bt,0,none⟩),.int .i64 (th:Nat)] W fun e w'=>e = .returned (.int .i64 (sz:Nat))∧w'=W):=fun W hb=>by rw [hth];exact QJZ W x.T x.bt x.ps _ (HW.out.up hb).tab.tab (t / 2) sz _ hpp (by rw [List.getElem?_map,hff,hsz];rfl));(have hltI:(k:Int) < (items.length:Int):=by omega);(have hltc:(k:Int) < (cap:Int):=by omega);(have hndI:(nd:Int)≤300000000:=by have h1:=HNb'.out;have h2:=HLs.out;omega);(have hszI:(sz:Int)≤1000:=by omega);(have hwr:IntKind.i64.wrap ((nd:Int)+(sz:Int))=(nd:Int)+(sz:Int):=by rw [IntKind.wrap_i64];omega);have HZ:Hid (wr.heap[bz]? = some (.cells #[.pointer (some ⟨x.bt,0,none⟩),x.vW,.bool lean,.int .i64 ((st+1:Nat):Int),.int .i64 (nd:Nat)] 162 (0,0))):=HW.out.blk
   have HNw:Hid (∀ W,Below wr.heap.size wr W→WrSt x (W.setCell ⟨bz,4,none⟩ (.int .i64 ((nd:Int)+(sz:Int)))) bz lean (st+1) (nd+sz)):=fun W hb=>by
    have:=(HW.out.up hb).nodes (nd+sz);rw [Int.natCast_add] at this;exact this
   (have HNb:Hid (nd+sz≤10000000+(k+1) * 1000):=by have h1:=HNb'.out;show _≤_;omega)
   have HSn:Hid (nd+sz=nd0+x.nods (items.take (k+1))):=by
    have h1:=HSn'.out;show _=_;unfold Fx.nods at h1 ⊢;rw [List.take_add_one,ht,List.map_append,List.sum_append];simp only [Option.toList,List.map_cons,List.map_nil,List.sum_cons,List.sum_nil];omega
   clear hcell hPb ht htL htn hpp hff hsz hth;go_wp2_with fail;(refine QCd (by kernel_rfl) [tEq (.pointer (some ⟨bz,0,none⟩)),tEq (.pointer (some ⟨bz,0,none⟩)),tEq (.pointer (some ⟨bz,4,none⟩)),tEq (.int .i64 (nd:Nat)),tEq (.pointer (some ⟨bz,0,none⟩)),tEq (.pointer (some ⟨bz,0,none⟩)),tEq (.pointer (some ⟨bz,0,none⟩)),tEq (.pointer (some ⟨x.bt,0,none⟩)),tEq (.int .i64 (t:Nat)),tEq (.int .i64 (th:Nat)),tEq (.int .i64 (sz:Nat)),tEq (.int .i64 ((nd:Int)+(sz:Int))),tEq (.pointer (some ⟨bz,0,none⟩)),tEq (.pointer (some ⟨bz,4,none⟩))] ?_ (by kernel_rfl) (by kernel_rfl) 58 rfl (by kernel_rfl) 14 _ rfl rfl (by kernel_rfl) [] 0 (by omega) (fun x _ y=>Below x.heap.size x y) (fun _ y=>Below wr.heap.size wr y) (Below.refl _ _) (fun _ _ _ h hb=>QAC h hb) (fun _ _ _ h hb=>QAC h hb) [] (by kernel_rfl) ?_ ?_ ?_)
   ·intro p hp
    simp only [List.mem_cons,List.not_mem_nil,or_false] at hp
    rcases hp with rfl|rfl|rfl|rfl|rfl|rfl|rfl|rfl|rfl|rfl|rfl|rfl|rfl|rfl
    all_goals exact QDP _
   ·exact⟨fun _ _ _ _ _ _ h _ _=>h,fun _ _ _ _ _ _ h _ _=>h,fun _ _ _ _ _ _ h _ _=>h,fun _ _ _ _ _ _ h _ _=>h,fun _ _ _ _ _ _ h _ _=>h,fun _ _ _ _ _ _ h _ _=>h,fun _ _ _ _ _ _ h _ _=>h,fun _ _ _ _ _ _ h _ _=>h,fun _ _ _ _ _ _ h _ _=>h,fun _ _ _ _ _ _ h _ _=>h,fun _ _ _ _ _ _ h _ _=>h,fun _ _ _ _ _ _ h _ _=>h,fun _ _ _ _ _ _ h _ _=>h,fun _ _ _ _ _ _ h _ _=>h,trivial⟩
   ·refine⟨?_,?_,?_,?_,?_,?_,?_,?_,?_,?_,?_,?_,?_,?_,trivial⟩
    ·intro a wx tg s hB hs hold hdep K hK;have t0:a.tmps[0]? = some (.pointer (some ⟨bz,0,none⟩)):=hold.2.2 0 rfl;clear hold hdep hs hB;go_simp;exact hK.out _ _ rfl (Below.refl _ _)
    ·intro a wx tg s hB hs hold hdep K hK;obtain⟨v22,t22,q22⟩:=hdep 0 rfl _ 22 rfl rfl;have e22:v22=(.pointer (some ⟨bz,0,none⟩)):=q22;subst e22;clear hold hdep hs hB;go_simp;exact hK.out _ _ rfl (Below.refl _ _)
    ·intro a wx tg s hB hs hold hdep K hK;obtain⟨v23,t23,q23⟩:=hdep 1 rfl _ 23 rfl rfl;have e23:v23=(.pointer (some ⟨bz,0,none⟩)):=q23;subst e23;clear hold hdep hs hB;go_simp;exact hK.out _ _ rfl (Below.refl _ _)
    ·intro a wx tg s hB hs hold hdep K hK;obtain⟨v24,t24,q24⟩:=hdep 2 rfl _ 24 rfl rfl;have e24:v24=(.pointer (some ⟨bz,4,none⟩)):=q24;subst e24;obtain⟨y0,y1,y2,y3,y4,-⟩:=QCg (QAA hB HZ.out);clear hold hdep hs hB;go_simp;exact hK.out _ _ rfl (Below.refl _ _)
    ·intro a wx tg s hB hs hold hdep K hK;have t0:a.tmps[0]? = some (.pointer (some ⟨bz,0,none⟩)):=hold.2.2 0 rfl;clear hold hdep hs hB;go_simp;exact hK.out _ _ rfl (Below.refl _ _)
    ·intro a wx tg s hB hs hold hdep K hK;obtain⟨v26,t26,q26⟩:=hdep 4 rfl _ 26 rfl rfl;have e26:v26=(.pointer (some ⟨bz,0,none⟩)):=q26;subst e26;clear hold hdep hs hB;go_simp;exact hK.out _ _ rfl (Below.refl _ _)
    ·intro a wx tg s hB hs hold hdep K hK;obtain⟨v27,t27,q27⟩:=hdep 5 rfl _ 27 rfl rfl;have e27:v27=(.pointer (some ⟨bz,0,none⟩)):=q27;subst e27;clear hold hdep hs hB;go_simp;exact hK.out _ _ rfl (Below.refl _ _)
    ·intro a wx tg s hB hs hold hdep K hK;obtain⟨v28,t28,q28⟩:=hdep 6 rfl _ 28 rfl rfl;have e28:v28=(.pointer (some ⟨bz,0,none⟩)):=q28;subst e28;obtain⟨y0,y1,y2,y3,y4,-⟩:=QCg (QAA hB HZ.out);clear hold hdep hs hB;go_simp;exact hK.out _ _ rfl (Below.refl _ _)
    ·intro a wx tg s hB hs hold hdep K hK;have t8:a.tmps[8]? = some (.int .i64 (t:Nat)):=hold.2.2 8 rfl;clear hold hdep hs hB;go_simp;exact hK.out _ _ rfl (Below.refl _ _)
    ·intro a wx tg s hB hs hold hdep K hK;obtain⟨v30,t30,q30⟩:=hdep 8 rfl _ 30 rfl rfl;have e30:v30=(.int .i64 (t:Nat)):=q30;subst e30;clear hold hdep hs hB;go_simp;refine (HPt.out wx).mono ?_;rintro e w2 ⟨rfl,hw2⟩;have hw3:=hw2.symm;clear hw2;subst hw3;exact hK.out _ _ rfl (Below.refl _ _)
    ·intro a wx tg s hB hs hold hdep K hK;obtain⟨v29,t29,q29⟩:=hdep 7 rfl _ 29 rfl rfl;have e29:v29=(.pointer (some ⟨x.bt,0,none⟩)):=q29;subst e29;obtain⟨v31,t31,q31⟩:=hdep 9 rfl _ 31 rfl rfl;have e31:v31=(.int .i64 (th:Nat)):=q31;subst e31;have hb9:=hB;clear hold hdep hs;go_simp;refine (HNd.out wx hb9).mono ?_;rintro e w2 ⟨rfl,hw2⟩;have hw3:=hw2.symm;clear hw2;subst hw3;exact hK.out _ _ rfl (Below.refl _ _)
    ·intro a wx tg s hB hs hold hdep K hK;obtain⟨v25,t25,q25⟩:=hdep 3 rfl _ 25 rfl rfl;have e25:v25=(.int .i64 (nd:Nat)):=q25;subst e25;obtain⟨v32,t32,q32⟩:=hdep 10 rfl _ 32 rfl rfl;have e32:v32=(.int .i64 (sz:Nat)):=q32;subst e32;clear hold hdep hs hB;go_simp;exact hK.out _ _ rfl (Below.refl _ _)
    ·intro a wx tg s hB hs hold hdep K hK;obtain⟨v22,t22,q22⟩:=hdep 0 rfl _ 22 rfl rfl;have e22:v22=(.pointer (some ⟨bz,0,none⟩)):=q22;subst e22;clear hold hdep hs hB;go_simp;exact hK.out _ _ rfl (Below.refl _ _)
    ·intro a wx tg s hB hs hold hdep K hK;obtain⟨v34,t34,q34⟩:=hdep 12 rfl _ 34 rfl rfl;have e34:v34=(.pointer (some ⟨bz,0,none⟩)):=q34;subst e34;clear hold hdep hs hB;go_simp;exact hK.out _ _ rfl (Below.refl _ _)
   ·intro a wx tg hB hold hgot K hK
    (obtain⟨v33,t33,q33⟩:=hgot 11 _ 33 (by omega) rfl rfl rfl;have e33:v33 = .int .i64 ((nd:Int)+(sz:Int)):=q33;subst e33;obtain⟨v35,t35,q35⟩:=hgot 13 _ 35 (by omega) rfl rfl rfl;have e35:v35 = .pointer (some ⟨bz,4,none⟩):=q35;subst e35;have HBx:Hid (Below wr.heap.size wr wx):=hB;obtain⟨y0,y1,y2,y3,y4,z0,z1,z2,z3,z4⟩:=QCg (QAA hB HZ.out);obtain⟨tm,df⟩:=a;obtain⟨x0,x1,x2,x3,x4,x5,x6,x7,x8,x9,x10,x11,x12,x13,x14,x15,x16,x17,x18,x19,x20,x21,x22,x23,x24,x25,x26,x27,x28,x29,x30,x31,x32,x33,x34,x35,x36,x37,x38,x39,x40,x41,x42,x43,x44,x45,x46,x47,x48,x49,x50,x51,x52,x53,x54,x55,x56,x57,htm⟩:=QNW tm hold.1;subst htm;obtain rfl:df=[]:=hold.2.1;have hh:=hold.2.2;obtain rfl:x0=_:=QAK (hh 0 rfl);obtain rfl:x1=_:=QAK (hh 1 rfl);obtain rfl:x2=_:=QAK (hh 2 rfl);obtain rfl:x3=_:=QAK (hh 3 rfl);obtain rfl:x4=_:=QAK (hh 4 rfl);obtain rfl:x5=_:=QAK (hh 5 rfl);obtain rfl:x6=_:=QAK (hh 6 rfl);obtain rfl:x7=_:=QAK (hh 7 rfl);obtain rfl:x8=_:=QAK (hh 8 rfl);obtain rfl:x9=_:=QAK (hh 9 rfl);obtain rfl:x10=_:=QAK (hh 10 rfl);obtain rfl:x11=_:=QAK (hh 11 rfl);obtain rfl:x12=_:=QAK (hh 12 rfl);obtain rfl:x13=_:=QAK (hh 13 rfl);obtain rfl:x14=_:=QAK (hh 14 rfl);obtain rfl:x15=_:=QAK (hh 15 rfl);obtain rfl:x16=_:=QAK (hh 16 rfl);obtain rfl:x17=_:=QAK (hh 17 rfl);obtain rfl:x18=_:=QAK (hh 18 rfl);obtain rfl:x19=_:=QAK (hh 19 rfl);obtain rfl:x20=_:=QAK (hh 20 rfl);obtain rfl:x21=_:=QAK (hh 21 rfl);obtain rfl:x36=_:=QAK (hh 36 rfl);obtain rfl:x37=_:=QAK (hh 37 rfl);obtain rfl:x38=_:=QAK (hh 38 rfl);obtain rfl:x39=_:=QAK (hh 39 rfl);obtain rfl:x40=_:=QAK (hh 40 rfl);obtain rfl:x41=_:=QAK (hh 41 rfl);obtain rfl:x42=_:=QAK (hh 42 rfl);obtain rfl:x43=_:=QAK (hh 43 rfl);obtain rfl:x44=_:=QAK (hh 44 rfl);obtain rfl:x45=_:=QAK (hh 45 rfl);obtain rfl:x46=_:=QAK (hh 46 rfl);obtain rfl:x47=_:=QAK (hh 47 rfl);obtain rfl:x48=_:=QAK (hh 48 rfl);obtain rfl:x49=_:=QAK (hh 49 rfl);obtain rfl:x50=_:=QAK (hh 50 rfl);obtain rfl:x51=_:=QAK (hh 51 rfl);obtain rfl:x52=_:=QAK (hh 52 rfl);obtain rfl:x53=_:=QAK (hh 53 rfl);obtain rfl:x54=_:=QAK (hh 54 rfl);obtain rfl:x55=_:=QAK (hh 55 rfl);obtain rfl:x56=_:=QAK (hh 56 rfl);obtain rfl:x57=_:=QAK (hh 57 rfl);obtain rfl:x33=_:=Option.some.inj t33;obtain rfl:x35=_:=Option.some.inj t35;clear hh hold hgot hB t33 t35 q33 q35;go_simp;refine hK.out _ _ ?_;go_wp2_with fail;go_roundg (items.length - (k+1)))
    case measure=>have:=HG.out;omega
    case rel=>exact⟨k+1,nd+sz,by omega,rfl,by go_num,HNw.out wx HBx.out,HNb,QAM HKe.out (QAM (QAN (ok:=fun b=>b≠bz) HBx.out fun _ h _=>h) (QAf (b:=bz) (ok:=fun b=>b≠bz) fun c hc=>hc) fun _ _ h=>h) fun _ _ h=>h,HSn⟩
  ·have hge:¬ (k:Int) < (items.length:Int):=by omega
   (have hke:k=items.length:=by omega);subst hke;have hsn:=HSn'.out;rw [List.take_length] at hsn;obtain⟨q0,q1,q2,q3,q4,-⟩:=QCg HW.out.blk;(have hndb:nd≤300000000:=by have h1:=HNb'.out;have h2:=HLs.out;omega);have HRes:Hid (nd=nd0+x.nods items):=hsn;clear hsn;by_cases e1:st+1≤20000
   ·have e1I:(st:Int)+1≤20000:=by omega
    by_cases e2:deep≤400
    ·have e2I:(deep:Int)≤400:=by omega
     by_cases e3:items.length≤60
     ·have e3I:(items.length:Int)≤60:=by omega
      by_cases e4:nd≤2097152
      ·have e4I:(nd:Int)≤2097152:=by omega
       go_wp2_with fail;go_ret;(exact⟨by rw [← HRes.out];first | (simp;done) | (simp;omega),by rw [← HRes.out];exact HW.out,HKe.out⟩)
      ·have e4I:¬ (nd:Int)≤2097152:=by omega
       go_wp2_with fail;go_ret;(exact⟨by rw [← HRes.out];first | (simp;done) | (simp;omega),by rw [← HRes.out];exact HW.out,HKe.out⟩)
     ·have e3I:¬ (items.length:Int)≤60:=by omega
      go_wp2_with fail;go_ret;(exact⟨by first | (simp;done) | (simp;omega),by rw [← HRes.out];exact HW.out,HKe.out⟩)
    ·have e2I:¬ (deep:Int)≤400:=by omega
     go_wp2_with fail;go_ret;(exact⟨by first | (simp;done) | (simp;omega),by rw [← HRes.out];exact HW.out,HKe.out⟩)
   ·have e1I:¬ (st:Int)+1≤20000:=by omega
    go_wp2_with fail;go_ret;(exact⟨by first | (simp;done) | (simp;omega),by rw [← HRes.out];exact HW.out,HKe.out⟩)
set_option maxRecDepth 10000 in
set_option maxHeartbeats 2000000 in
theorem QJK (w:World) :
  Calls Tryz.prog 214 #[.slice none 0 0,.int .i64 0] w fun e w'=>e = .returned (.slice none 0 0)∧w'=w:=by
 go_enter Tryz.func214,Tryz.ntmps214
 go_wp2_with fail;go_ret;exact⟨rfl,rfl⟩
set_option maxRecDepth 10000 in
set_option maxHeartbeats 2000000 in
theorem QJJ (n:Nat) (hn:0 < n) (hn2:n≤100000) (w:World) :
  Calls Tryz.prog 214 #[.slice none 0 0,.int .i64 (n:Nat)] w fun e w'=>∃ g cp,e = .returned (.slice (some ⟨g,0,none⟩) 0 cp)∧w'.ownsRow w.heap.size 82 1 (.slice (some ⟨g,0,none⟩) 0 cp) 0 []∧Below w.heap.size w w':=by
 obtain⟨i0,hi,hz0,hz1,hz2⟩:=QEX;(have hnI:(0:Int) < (n:Int):=by omega);(have hnJ:(n:Int)≤100000:=by omega)
 have hrz:∀ ty,(Builtin.append_ #[78,3] ty #[.slice none 0 0,.int .i64 (n:Nat)]).run Tryz.prog w = .ok (.slice (some ⟨w.heap.size,0,none⟩) n (grownCap w n 0 82)) (w.drew.alloc (.cells (#[]++Builtin.zeroCells (Value.int .i64 0).cells n++Builtin.zeroCells (Value.int .i64 0).cells (grownCap w n 0 82 - n)) 82)):=fun ty=>by
  (have h:=Lib.run_append_grow_zeros w 78 3 ty 82 i0 (.int .i64 0) .i64 .i64 Tryz.underlying78 Tryz.underlying3 hi hz0 none 0 0 [] (run_firstCells_none w.drew i0.size 0 0 0) n hn (by omega) (by omega) (by omega) (by rw [hz2];omega) (by rw [hz2];exact growslice_fits (by omega) (by omega)));simpa using h
 have hGn:n≤grownCap w n 0 82:=grownCap_ge w _ _ _;(have hGm:grownCap w n 0 82≤maxLen:=grownCap_le_maxLen w n 0 82 (by unfold maxLen;omega));generalize grownCap w n 0 82=G at *;(have hG63:(G:Int)≤9223372036854775807:=by unfold maxLen at hGm;omega)
 have hOw:(w.drew.alloc (.cells (#[]++Builtin.zeroCells (Value.int .i64 0).cells n++Builtin.zeroCells (Value.int .i64 0).cells (G - n)) 82)).ownsRow w.heap.size 82 1 (.slice (some ⟨w.heap.size,0,none⟩) 0 G) 0 []:=by
  refine⟨rfl,Or.inr ⟨w.heap.size,G,_,rfl,Nat.le_refl _,QAH _ _,Nat.zero_le _,hGm,?_,rfl⟩⟩;have h3:(Value.int .i64 0).cells.size=1:=rfl;rw [Array.size_append,Array.size_append,size_zeroCells,size_zeroCells,h3];simp only [Array.size_empty];omega
 have HOw:Hid (World.ownsRow _ _ _ _ _ _ _):=hOw;have hBw:Below w.heap.size w (w.drew.alloc (.cells (#[]++Builtin.zeroCells (Value.int .i64 0).cells n++Builtin.zeroCells (Value.int .i64 0).cells (G - n)) 82)):=QAB (Below.refl _ w).drew _;generalize w.drew.alloc _=W at *;clear hOw hz0 hz1 hz2 hi
 go_enter Tryz.func214,Tryz.ntmps214
 go_wp2_with (first
  | (
    at_builtin
    refine Lib.wpList_append_run _ rfl _ _ _ _ rfl _ _ rfl rfl _ _ (hrz _) ?_)
  | fail)
 all_goals
  go_ret;exact⟨_,_,rfl,HOw.out,hBw⟩
def OwnI (B:Nat) (is:List Nat) (ad:Option Addr) (cp:Nat) (w:World):Prop:=w.ownsRow B 82 1 (.slice ad is.length cp) is.length (is.map fun i=>(.int .i64 (i:Nat):Value))
theorem QLA (n:Nat) (hn:n≤100000) (w:World) :
  Calls Tryz.prog 214 #[.slice none 0 0,.int .i64 (n:Nat)] w fun e w'=>∃ ad cp,e = .returned (.slice ad 0 cp)∧OwnI w.heap.size [] ad cp w'∧Below w.heap.size w w':=by
 rcases Nat.eq_zero_or_pos n with rfl|h0
 ·refine (QJK w).mono ?_
  rintro e w' ⟨rfl,rfl⟩;exact⟨none,0,rfl,⟨rfl,Or.inl ⟨rfl,rfl⟩⟩,Below.refl _ _⟩
 ·refine (QJJ n h0 hn w).mono ?_
  rintro e w' ⟨g,cp,rfl,ho,hb⟩;exact⟨_,_,rfl,ho,hb⟩
theorem OwnI.app {W w2 w3:World} {is:List Nat} {ad:Option Addr} {cp:Nat} (B:Below W.heap.size W w2) (h:OwnI W.heap.size is ad cp w2) (hk:Kept (fun b=>(Value.slice ad is.length cp).ownBlock≠some b) w2 w3):Below W.heap.size W w3:=by
 (have hb:∀ j,j < W.heap.size→w3.heap[j]? = w2.heap[j]? := fun j hj=>hk.block j (by have:=B.size;omega) (fun e=>by have:=(World.ownsRow.lt h j e).1;omega));(exact⟨hk.os.trans B.os,hk.tape.trans B.tape,hk.output.trans B.output,by have:=hk.size;have:=B.size;omega,fun j hj=>(hb j hj).trans (B.block j hj)⟩)
set_option maxRecDepth 10000 in
set_option maxHeartbeats 8000000 in
theorem QKt {P:Nat→Prop} (rs:List (List Nat)) (hl:rs.flatten.length≤100000) (hr:rs.length≤1000) (v:Value) (w:World) (hv:PRows P w v rs) :
  Calls Tryz.prog 194 #[v] w fun e w'=>∃ ad cp,e = .returned (.slice ad rs.flatten.length cp)∧OwnI w.heap.size rs.flatten ad cp w'∧Below w.heap.size w w':=by
 have HV:Hid (PRows P w v rs):=hv;obtain⟨adV,cpV,rfl,hv1,hv2,-⟩:=hv;have HLn:Hid (rs.flatten.length≤100000):=hl;(have hrI:(rs.length:Int)≤1000:=by omega);(have hcI:(rs.length:Int)≤(cpV:Int):=by omega)
 have row:∀ k,k < rs.length→∃ r b off u ad cp,rs[k]? = some r∧adV=some ⟨b,off,none⟩∧u = .slice ad r.length cp∧w.cell? ⟨b,off+k,none⟩=some u∧IRow P w u r:=fun k hk=>by
  obtain⟨ad',cap',e,-,-,h4⟩:=HV.out;simp only [Value.slice.injEq,true_and] at e;obtain⟨rfl,rfl⟩:=e;(obtain⟨b,off,h5,-,h7⟩:=h4 (fun e=>by rw [e] at hk;simp at hk));obtain⟨u,h8,h9⟩:=h7 k _ (List.getElem?_eq_getElem hk);obtain⟨a1,c1,rfl,h10⟩:=h9;exact⟨_,b,off,_,a1,c1,List.getElem?_eq_getElem hk,h5,rfl,h8,a1,c1,rfl,h10⟩
 have HR:Hid (∀ k,k < rs.length→∃ r b off u ad cp,rs[k]? = some r∧adV=some ⟨b,off,none⟩∧u = .slice ad r.length cp∧w.cell? ⟨b,off+k,none⟩=some u∧IRow P w u r):=row
 have HT:Hid (∀ k r,rs[k]? = some r→(rs.take (k+1)).flatten=(rs.take k).flatten++r∧(rs.take k).flatten.length+r.length≤100000):=fun k r h=>by
  (have h1:(rs.take (k+1)).flatten=(rs.take k).flatten++r:=by rw [List.take_add_one,h,List.flatten_append];simp);refine⟨h1,?_⟩;(have h2:((rs.take (k+1)).flatten++(rs.drop (k+1)).flatten).length≤100000:=by rw [← List.flatten_append,List.take_append_drop];exact hl);rw [h1] at h2;simp only [List.length_append] at h2;omega
 clear row hv1 hv2 hl hr
 go_enter Tryz.func194,Tryz.ntmps194
 go_wp2_with fail
 go_loopg [11,3] rs.length (fun g c o wr=>∃ k n,k≤rs.length∧g=rs.length - k∧c = .int .i64 (k:Nat)∧o = .int .i64 (n:Nat)∧Hid (n=(rs.take k).flatten.length)∧wr=w)
 case atStart=>exact⟨0,0,by omega,by omega,rfl,rfl,by show _=_;simp,rfl⟩
 case round =>
  obtain⟨k,n,hk,hg,rfl,rfl,HN,hw⟩:=hrel;have hw':=hw.symm;subst hw';have HG:Hid (gk=rs.length - k):=hg;clear hg;by_cases hlt:k < rs.length
  ·obtain⟨r,b,off,u,ad,cp,h1,rfl,rfl,h2,-⟩:=HR.out k hlt
   obtain⟨h3,h4⟩:=HT.out k r h1
   have HN2:Hid (n+r.length=(rs.take (k+1)).flatten.length):=by
    have:=HN.out;show _=_;rw [h3,List.length_append];omega
   (have hltI:(k:Int) < (rs.length:Int):=by omega);(have hltc:(k:Int) < (cpV:Int):=by omega);(have hnI:(n:Int)+(r.length:Int)≤100000:=by have:=HN.out;omega);(have hwr:IntKind.i64.wrap ((n:Int)+(r.length:Int))=(n:Int)+(r.length:Int):=by rw [IntKind.wrap_i64];omega);(have hng:¬ (n:Int)+(r.length:Int) < 0:=by omega);clear h1 h3 h4;go_wp2_with fail
   go_roundg (rs.length - (k+1))
   case measure=>have:=HG.out;omega
   case rel=>exact⟨k+1,n+r.length,by omega,rfl,by go_num,by go_num,HN2,rfl⟩
  ·have hkk:k=rs.length:=by omega
   subst hkk;(have hn:n≤100000:=by have h1:=HN.out;have h2:=HLn.out;rw [List.take_length] at h1;omega);have HNn:Hid (n≤100000):=hn;clear hlt hk hn;go_wp2_with fail;refine (QLA n HNn.out w).mono ?_;rintro e w2 ⟨ad0,cp0,rfl,hA,B2⟩;have HA:Hid (OwnI w.heap.size [] ad0 cp0 w2):=hA;have HB2:Hid (Below w.heap.size w w2):=B2;clear hA B2;go_wp2_with fail
   go_loopg [27,6] rs.length (fun g c o wr=>∃ k is ad cp,k≤rs.length∧g=rs.length - k∧c = .int .i64 (k:Nat)∧o = .slice ad is.length cp∧Hid (is=(rs.take k).flatten)∧Hid (OwnI w.heap.size is ad cp wr)∧Hid (Below w.heap.size w wr))
   case atStart=>exact⟨0,[],ad0,cp0,by omega,by omega,rfl,rfl,by show _=_;simp,HA,HB2⟩
   case round =>
    obtain⟨k,is,ad,cp,hk,hg,rfl,rfl,HI,HO,HW⟩:=hrel;have HG2:Hid (gk=rs.length - k):=hg;clear hg;by_cases hlt:k < rs.length
    ·obtain⟨r,b,off,u,ad2,cp2,h1,rfl,rfl,h2,h5⟩:=HR.out k hlt
     obtain⟨h3,h4⟩:=HT.out k r h1;have g2:=(HW.out.cell (p:=⟨b,off+k,none⟩) (QAI h2)).trans h2
     have HI2:Hid (is++r=(rs.take (k+1)).flatten):=by
      have:=HI.out;show _=_;rw [h3,this]
     (have HRw:Hid (IRow (fun _=>True) wr (.slice ad2 r.length cp2) r):=h5.move fun b hb _=>⟨HW.out.block b hb,trivial⟩);(have HLi:Hid (is.length+r.length≤10000000):=by have:=HI.out;show _≤_;rw [this];omega);have HLs:Hid (w.heap.size≤wr.heap.size):=HW.out.size;(have hltI:(k:Int) < (rs.length:Int):=by omega);(have hltc:(k:Int) < (cpV:Int):=by omega);clear h1 h3 h4 h2 h5
     go_wp2_with (first
      | (
        at_builtin
        go_loud (refine QDt rfl _ _ rfl w.heap.size is r ad cp _ rfl HO.out rfl HRw.out HLs.out HLi.out ?_)
        intro ad3 cp3 w3 hown3 hk3 hat3;have HO3:Hid (OwnI w.heap.size (is++r) ad3 cp3 w3):=hown3;have HB3:Hid (Below w.heap.size w w3):=OwnI.app HW.out HO.out hk3
        clear hown3 hk3 hat3)
      | fail)
     go_roundg (rs.length - (k+1))
     case measure=>have:=HG2.out;omega
     case rel=>exact⟨k+1,is++r,ad3,cp3,by omega,rfl,by go_num,by simp,HI2,HO3,HB3⟩
    ·have hkk:k=rs.length:=by omega
     subst hkk;have hI:=HI.out;rw [List.take_length] at hI;clear hlt hk;go_wp2_with fail;go_ret;(exact⟨ad,cp,by rw [hI];rfl,by rw [← hI];exact HO.out,HW.out⟩)
end Go.Proofs.YtbmedfokpgghiacGreat
