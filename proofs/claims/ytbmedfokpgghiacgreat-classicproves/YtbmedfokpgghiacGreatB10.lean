import Derived.Test.YtbmedfokpgghiacGreatB09
import Derived.Deep.RegionLaw
import Derived.Test.YtbmedfokpgghiacGreatB01
namespace Go.Proofs.YtbmedfokpgghiacGreat
open Go.RowKit
def QNz (m:Nat):Prop:=∀ (f:Fm) (v:Value) (w:World),f.size < m→Slim f→Rep w (fun _=>True) f v →
 Calls Tryz.prog 61 #[v] w fun e w'=>∃ u,e = .returned u∧Rep w' (w.heap.size≤·) f u∧Below w.heap.size w w'
def KO (B:Nat) (w:World) (ad:Option Addr) (cap:Nat) (fs:List Fm):Prop:=∃ cs,w.ownsRow B 29 3 (.slice ad fs.length cap) fs.length cs∧LQ (fun b=>B≤b∧(Value.slice ad fs.length cap).ownBlock≠some b) w cs fs
theorem KO.nil {B:Nat} {w:World}:KO B w none 0 []:=⟨[],⟨rfl,Or.inl ⟨rfl,rfl⟩⟩,trivial⟩
theorem KO.same {B:Nat} {w w':World} {ad:Option Addr} {cap:Nat} {fs:List Fm} (h:KO B w ad cap fs) (hb:∀ b,B≤b→b < w.heap.size→w'.heap[b]? = w.heap[b]?):KO B w' ad cap fs:=by
 obtain⟨cs,⟨h1,h2⟩,h3⟩:=h;(refine⟨cs,⟨h1,?_⟩,h3.move fun b hb1 hb2=>⟨hb b hb2.1 hb1,hb2⟩⟩)
 rcases h2 with h2|⟨g,cap,cur,hv,hg,hh,r⟩
 ·exact Or.inl h2
 ·exact Or.inr ⟨g,cap,cur,hv,hg,(hb g hg (QAE hh)).trans hh,r⟩
theorem KO.up {B:Nat} {w w':World} {ad:Option Addr} {cap:Nat} {fs:List Fm} (h:KO B w ad cap fs) (hb:Below w.heap.size w w'):KO B w' ad cap fs:=h.same fun b _ hb1=>hb.block b hb1
theorem KO.app {B:Nat} {w1 w3:World} {o:Obj} {ad:Option Addr} {cp:Nat} {fs:List Fm} {kid:Fm} {c0 c1 c2:Value} {cs:List Value} {g3 cp3 i:Nat} (hi:fs.length=i) (hB:B≤w1.heap.size)
  (hown:(w1.alloc o).ownsRow B 29 3 (.slice ad i cp) i cs) (hlq:LQ (fun b=>B≤b∧(Value.slice ad i cp).ownBlock≠some b) (w1.alloc o) cs fs)
  (hrep:Rep w1 (fun b=>B≤b∧(Value.slice ad i cp).ownBlock≠some b) kid (.agg #[c0,c1,c2]))
  (hown3:w3.ownsRow B 29 3 (.slice (some ⟨g3,0,none⟩) (i+1) cp3) (i+1) (cs++[c0,c1,c2]))
  (hgrow:(w1.alloc o).grownBy w3 (Value.slice ad i cp).ownBlock) (hat:(Value.slice ad i cp).ownBlock=some g3∨g3=(w1.alloc o).heap.size) :
  Below B w1 w3∧KO B w3 (some ⟨g3,0,none⟩) cp3 (fs++[kid]):=by
 subst hi;(have hs:(w1.alloc o).heap.size=w1.heap.size+1:=by simp);have hs2:=hgrow.size;(refine⟨⟨hgrow.os,hgrow.tape,hgrow.output,by omega,fun j hj => ?_⟩,cs++[c0,c1,c2],?_,?_⟩)
 ·rw [hgrow.block j (by omega) (fun e=>by have:=(hown.lt j e.symm).1;omega),Below.heap_alloc _ _ _ (by omega)]
 ·rw [List.length_append];exact hown3
 ·refine (hlq.append (ds:=[c0,c1,c2]) (gs:=[kid]) ⟨hrep.move fun b hb hok=>⟨Below.heap_alloc _ _ _ hb,hok⟩,trivial⟩).move fun b hb hok=>⟨hgrow.block b hb (fun e=>hok.2 e.symm),hok.1,fun e => ?_⟩
  (have e:g3=b:=by simpa [Value.ownBlock] using e)
  rcases hat with h|h
  ·exact hok.2 (by rw [h,e])
  ·omega
theorem KO.rep {B:Nat} {w:World} {ad:Option Addr} {cap:Nat} {ks:List Fm} (h:KO B w ad cap ks) (k:Int) (n:ByteArray) (hn:n.size≤maxLen):Rep w (B≤·) (.mk k n ks) (.agg #[.int .i64 k,.string n,.slice ad ks.length cap]):=by
 obtain⟨cs,hown,hlq⟩:=h
 rcases hown.2 with ⟨hv,h0⟩|⟨g,cp,cur,hv,hg,hh,h1,h2,-⟩
 ·simp only [Value.slice.injEq] at hv
  obtain⟨rfl,-,rfl⟩:=hv;(exact Rep.def.2 ⟨none,0,rfl,hn,by omega,by simp,fun hne=>absurd (List.length_eq_zero_iff.1 h0) hne⟩)
 ·simp only [Value.slice.injEq,true_and] at hv
  obtain⟨rfl,rfl⟩:=hv;(refine Rep.def.2 ⟨_,cap,rfl,hn,h1,h2,fun _=>⟨g,0,rfl,hg,?_⟩⟩)
  have:=(hlq.move (ok':=(B≤·)) fun b _ hb=>⟨rfl,hb.1⟩).reps (b:=g) 0 fun j u hu=>by
   have:=hown.cells (g:=g) rfl j u hu;rw [QAZ] at this;exact this
  exact this
set_option maxHeartbeats 4000000 in
theorem QMj (m:Nat) (ih:QNz m):QNz (m+1):=by
 intro f v w hm hslim hrep;obtain⟨k,n,ks⟩:=f;obtain⟨sl,cap,rfl,hx1,hx2,hx3,hx4⟩:=Rep.def.1 hrep;(have HX:Hid (ks≠[]→∃ b off,sl=some ⟨b,off,none⟩∧True∧Reps w (fun _=>True) b off ks):=hx4);have HSl:Hid (Slim (.mk k n ks)):=hslim;have hl25:=hslim.len;clear hx4 hslim;obtain⟨i0,hi,hz0,hz1,hz2⟩:=QBb;(have hlenI:((ks.length:Nat):Int)≤25000:=by omega);have HIo:Hid (Tryz.prog.info? 29=some i0∧i0.zero=some (.agg #[.int .i64 0,.string ⟨#[]⟩,.slice none 0 0])∧i0.size=3∧i0.bytes=48):=⟨hi,hz0,hz1,hz2⟩;clear hi hz0 hz1 hz2
 go_enter Tryz.func61,Tryz.ntmps61
 go_wp2_with fail
 go_loopg [4] ks.length (fun g c wr=>∃ i ad cp,i≤ks.length∧g=ks.length - i∧c = .int .i64 (i:Nat)∧Below w.heap.size w wr∧wr.heap[w.heap.size]? = some (.cells #[.int .i64 k,.string n,.slice sl ks.length cap] 29 (0,0))∧wr.heap[w.heap.size+1]? = some (.cells #[.int .i64 0,.string ⟨#[]⟩,.slice none 0 0] 29 (0,0))∧wr.heap[w.heap.size+1+1]? = some (.cells #[.int .i64 k,.string n,.slice ad i cp] 29 (0,0))∧Hid (KO (w.heap.size+3) wr ad cp (ks.take i)))
 case atStart =>
  (refine⟨0,none,0,by omega,by omega,rfl,(((Below.refl _ w).alloc (Nat.le_refl _) _).alloc (by simp) _).alloc (by simp;omega) _,QEA.1,QEA.2,?_,KO.nil⟩);have:=QAH ((w.alloc (.cells #[.int .i64 k,.string n,.slice sl ks.length cap] 29 (0,0))).alloc (.cells #[.int .i64 0,.string ⟨#[]⟩,.slice none 0 0] 29 (0,0))) (.cells #[.int .i64 k,.string n,.slice none 0 0] 29 (0,0));simpa using this
 case round =>
  obtain⟨i,ad,cp,hile,hg,rfl,hbr,q0,q1,q2,HK⟩:=hrel;have HG:Hid (gk=ks.length - i):=hg;clear hg;obtain⟨e0,e1,e2,-⟩:=QAb q0;obtain⟨p0,p1,p2,p3,p4,p5⟩:=QAb q2;have z0:=QAE q0;have z2:=QAE q2;have zz:=hbr.size;by_cases hlt:i < ks.length
  ·obtain⟨⟨k2,n2,ks2⟩,hki⟩:∃ f,ks[i]? = some f:=⟨_,List.getElem?_eq_getElem hlt⟩
   (have hltI:(i:Int) < (ks.length:Int):=by omega);(obtain⟨b,off,hsl,-,hrs⟩:=HX.out (fun e=>by rw [e] at hlt;simp at hlt));subst hsl;obtain⟨sl2,cap2,g0,g1,g2,hrep2⟩:=(hrs.up hbr).at i k2 n2 ks2 hki;(have hsz:(Fm.mk k2 n2 ks2).size < m:=by have:=QBm hki;rw [Fm.size] at hm;omega);(have HIH:Hid (∀ wx,Rep wx (fun _=>True) (.mk k2 n2 ks2) (.agg #[.int .i64 k2,.string n2,.slice sl2 ks2.length cap2])→Calls Tryz.prog 61 #[.agg #[.int .i64 k2,.string n2,.slice sl2 ks2.length cap2]] wx fun e w'=>∃ u,e = .returned u∧Rep w' (wx.heap.size≤·) (.mk k2 n2 ks2) u∧Below wx.heap.size wx w'):=fun wx h=>ih _ _ wx hsz (HSl.out.kid i _ hki) h)
   have zb0:b < w.heap.size:=by
    obtain⟨c0,_,_,h0,_⟩:=hrs.get i _ hki;exact QAI h0
   (have hlc:((i:Nat):Int) < ((cap:Nat):Int):=by omega);have zb:=QAI g0;simp only at zb
   have HT:Hid (ks.take (i+1)=ks.take i++[.mk k2 n2 ks2]):=by
    show _=_;rw [List.take_add_one,hki];rfl
   (have hti:(ks.take i).length=i:=by rw [List.length_take];omega)
   have HOB:Hid (∀ b,wr.heap.size≤b→w.heap.size+3≤b∧(Value.slice ad i cp).ownBlock≠some b):=fun b hb=>by
    obtain⟨cs,ho,-⟩:=HK.out;rw [hti] at ho;(exact⟨by omega,fun e=>by have:=(ho.lt b e).2;omega⟩)
   clear hki hrs hrep HX;obtain⟨hi,hz0,hz1,hz2⟩:=HIo.out;go_wp2_with fail
   go_region_law
    (
     first
     | (
      have hown:=(HK.out.up hb1').up ((Below.refl _ w1).alloc (Nat.le_refl _) (.cells #[.int .i64 k2,.string n2,.slice sl3 ks2.length cap3] 29 (0,0)))
      obtain⟨cs,hown,hlq⟩:=hown;rw [hti] at hown hlq;(refine step_append_lies _ rfl _ _ 22 rfl (w.heap.size+3) 29 i0 (.agg #[.int .i64 0,.string ⟨#[]⟩,.slice none 0 0]) 3 48 Tryz.underlying22 hi hz0 hz1 hz2 rfl (by decide) _ _ _ rfl hown ⟨w1.heap.size,0,none⟩ 1 1 [.int .i64 k2,.string n2,.slice sl3 ks2.length cap3] rfl rfl ?_ ?_ (by omega) (by unfold maxLen;omega) (by omega) (by simp;omega) _ rfl ?_)
      ·intro j u hu
       rw [QAZ,Nat.zero_add,QAL (QAH w1 _)];simpa using hu
      ·intro u hu
       simp at hu
       rcases hu with rfl|rfl|rfl <;> rfl
      intro g3 cp3 w3 hown3 hgrow hat hlt3;have hgrow':(w1.alloc (.cells #[.int .i64 k2,.string n2,.slice sl3 ks2.length cap3] 29 (0,0))).grownBy w3 (Value.slice ad i cp).ownBlock:=hgrow;have hat':(Value.slice ad i cp).ownBlock=some g3∨g3=(w1.alloc (.cells #[.int .i64 k2,.string n2,.slice sl3 ks2.length cap3] 29 (0,0))).heap.size:=hat;clear hgrow hat;(obtain⟨hbB,hko⟩:=KO.app hti (by omega) hown hlq (hrep3.move fun b hb1 hb2=>⟨rfl,(HOB.out b hb2).1,(HOB.out b hb2).2⟩) hown3 hgrow' hat');have HKO:Hid (KO (w.heap.size+3) w3 (some ⟨g3,0,none⟩) cp3 (ks.take i++[.mk k2 n2 ks2])):=hko;clear hgrow' hat' hown3 hown hlq hko c1 c2 c3 c4;(have t1:=(hbB.cell (p:=⟨w.heap.size,2,none⟩) (show w.heap.size < w.heap.size+3 by omega)).trans (QAQ (hb1'.block _ z0) |>.trans e2));(have t2:=(hbB.cell (p:=⟨b,off+i * 3,none⟩) (show b < w.heap.size+3 by omega)).trans (QAQ (hb1'.block _ zb) |>.trans g0));(have t3:=(hbB.cell (p:=⟨b,off+i * 3+1,none⟩) (show b < w.heap.size+3 by omega)).trans (QAQ (hb1'.block _ zb) |>.trans g1));(have t4:=(hbB.cell (p:=⟨b,off+i * 3+2,none⟩) (show b < w.heap.size+3 by omega)).trans (QAQ (hb1'.block _ zb) |>.trans g2));(have t0:=(hbB.block (w.heap.size+1+1) (by omega)).trans r2);clear s0 s1 s2 s3 s4 s5;obtain⟨s0,s1,s2,s3,s4,s5⟩:=QAb t0
      have y3:=hbB.size)
     | (
      go_simp
      go_at_call 61
      refine (HIH.out _ (hrep2.up (Below.refl _ _).drew)).mono ?_;rintro e w1 ⟨u,rfl,hrep3,hb1⟩;obtain⟨sl3,cap3,rfl⟩:=QAU hrep3;have hb1':Below wr.heap.size wr w1:=(Below.refl _ wr).drew.trans hb1;clear hb1;have c1:=(hb1'.cell (p:=⟨w.heap.size,2,none⟩) z0).trans e2;have c2:=(hb1'.cell (p:=⟨b,off+i * 3,none⟩) zb).trans g0;have c3:=(hb1'.cell (p:=⟨b,off+i * 3+1,none⟩) zb).trans g1;have c4:=(hb1'.cell (p:=⟨b,off+i * 3+2,none⟩) zb).trans g2;have r2:=QAA hb1' q2;obtain⟨s0,s1,s2,s3,s4,s5⟩:=QAb r2;have y0:w.heap.size < w1.heap.size:=Nat.lt_of_lt_of_le z0 hb1'.size;have yb:b < w1.heap.size:=Nat.lt_of_lt_of_le zb hb1'.size;have y2:w.heap.size+1+1 < w1.heap.size:=QAE r2
      dsimp only)
     | fail)
   all_goals
    go_wp2_with fail
    have t5:(w3.setCell ⟨w.heap.size+1+1,2,none⟩ (.slice (some ⟨g3,0,none⟩) (i+1) cp3)).heap[w.heap.size+1+1]? = some (.cells #[.int .i64 k,.string n,.slice (some ⟨g3,0,none⟩) (i+1) cp3] 29 (0,0)):=by
     simp [World.setCell,Array.getElem?_modify,t0]
    (have t6:=(Below.heap_setCell w3 ⟨w.heap.size+1+1,2,none⟩ (.slice (some ⟨g3,0,none⟩) (i+1) cp3) w.heap.size (by simp;omega)).trans ((hbB.block w.heap.size (by omega)).trans (QAA hb1' q0)));(have t7:=(Below.heap_setCell w3 ⟨w.heap.size+1+1,2,none⟩ (.slice (some ⟨g3,0,none⟩) (i+1) cp3) (w.heap.size+1) (by simp)).trans ((hbB.block (w.heap.size+1) (by omega)).trans (QAA hb1' q1)));(have BB:Below w.heap.size w (w3.setCell ⟨w.heap.size+1+1,2,none⟩ (.slice (some ⟨g3,0,none⟩) (i+1) cp3)):=((hbr.trans (hb1'.mono zz)).trans (hbB.mono (by omega))).setCell (by simp;omega) _)
    have HKN:Hid (KO (w.heap.size+3) (w3.setCell ⟨w.heap.size+1+1,2,none⟩ (.slice (some ⟨g3,0,none⟩) (i+1) cp3)) (some ⟨g3,0,none⟩) cp3 (ks.take (i+1))):=by
     show KO _ _ _ _ _;rw [HT.out];(exact HKO.out.same fun b hb _=>Below.heap_setCell _ _ _ _ (by simp;omega))
    go_roundg (ks.length - (i+1))
    case measure=>have:=HG.out;omega
    case rel=>exact⟨i+1,some ⟨g3,0,none⟩,cp3,by omega,rfl,by go_num,BB,t6,t7,t5,HKN⟩
  ·obtain rfl:i=ks.length:=by omega
   have HKE:Hid (KO (w.heap.size+3) wr ad cp ks):=by
    have:=HK.out;rw [List.take_length] at this;exact this
   clear HK HX hrep;obtain⟨o0,o1,o2,o3,o4,o5⟩:=QAb q1;go_wp2_with fail;have f3:=QOk q1 (.int .i64 k) (.string n) (.slice ad ks.length cp);(have BF:Below w.heap.size w (((wr.setCell ⟨w.heap.size+1,0,none⟩ (.int .i64 k)).setCell ⟨w.heap.size+1,1,none⟩ (.string n)).setCell ⟨w.heap.size+1,2,none⟩ (.slice ad ks.length cp)):=((hbr.setCell (by simp) _).setCell (by simp) _).setCell (by simp) _)
   have RF:=(HKE.out.same (w':=((wr.setCell ⟨w.heap.size+1,0,none⟩ (.int .i64 k)).setCell ⟨w.heap.size+1,1,none⟩ (.string n)).setCell ⟨w.heap.size+1,2,none⟩ (.slice ad ks.length cp)) fun b hb _=>by
    rw [Below.heap_setCell _ _ _ _ (by simp;omega),Below.heap_setCell _ _ _ _ (by simp;omega),Below.heap_setCell _ _ _ _ (by simp;omega)]).rep k n hx1
   generalize World.setCell _ _ _=F at f3 BF RF ⊢;clear o0 o1 o2 o3 o4 o5;obtain⟨o0,o1,o2,-⟩:=QAb f3;(exact bodyPost_ret (v := .agg #[.int .i64 k,.string n,.slice ad ks.length cp]) (by simp [results,Tryz.results61,go_sem,o0,o1,o2]) rfl ⟨_,rfl,RF.move fun b _ hb=>⟨rfl,by omega⟩,BF⟩)
theorem QIT:∀ m,QNz m
 | 0=>fun _ _ _ h=>absurd h (Nat.not_lt_zero _)
 | m+1=>QMj m (QIT m)
theorem QNc (f:Fm) (v:Value) (w:World) (hs:Slim f) (hrep:Rep w (fun _=>True) f v) :
  Calls Tryz.prog 61 #[v] w fun e w'=>∃ u,e = .returned u∧Rep w' (w.heap.size≤·) f u∧Below w.heap.size w w' :=
 QIT (f.size+1) f v w (Nat.lt_succ_self _) hs hrep
set_option maxHeartbeats 1000000 in
theorem QEl (k:Int) (w:World) :
  Calls Tryz.prog 121 #[.int .i64 k] w fun e w'=>e = .returned (.int .i64 (if QCE k=true then QBh k else -1))∧Below w.heap.size w w':=by
 (have hB:∀ o,Below w.heap.size w (w.alloc o):=fun o=>(Below.refl _ _).alloc (Nat.le_refl _) _);by_cases h1:k < 1
 ·have e:QCE k=false:=by simp [QCE];omega
  rw [e]
  go_enter Tryz.func121,Tryz.ntmps121
  go_wp2;go_ret;exact⟨rfl,Below.refl _ _⟩
 ·by_cases h2:9 < k
  ·have e:QCE k=false:=by simp [QCE];omega
   rw [e]
   go_enter Tryz.func121,Tryz.ntmps121
   go_wp2;go_ret;exact⟨rfl,Below.refl _ _⟩
  ·have:k=1∨k=2∨k=3∨k=4∨k=5∨k=6∨k=7∨k=8∨k=9:=by omega
   rcases this with rfl|rfl|rfl|rfl|rfl|rfl|rfl|rfl|rfl
   all_goals
    clear h1 h2
    go_enter Tryz.func121,Tryz.ntmps121
    go_wp2;go_ret;exact⟨rfl,hB _⟩
theorem LR.reps {A:Nat} {w:World} {b:Nat}:∀ {cs:List Value} {fs:List Fm} (off:Nat),LR A w cs fs→(∀ (j:Nat) (u:Value),cs[j]? = some u→w.cell? ⟨b,off+j,none⟩=some u)→Reps w (fun _=>True) b off fs
 | [],[],_,_,_=>Reps.nil
 | c0 :: c1 :: c2 :: cs,f :: fs,off,h,hc=>Reps.cons.2 ⟨⟨c0,c1,c2,hc 0 c0 rfl,hc 1 c1 rfl,hc 2 c2 rfl,h.1.all⟩,LR.reps (off+3) h.2 fun j u hu=>by
   (have:=hc (j+3) u (by simpa using hu))
   rwa [show off+(j+3)=off+3+j by omega] at this⟩
theorem LO.reps {A B:Nat} {w:World} {v:Value} {fs:List Fm} (h:LO A B w v fs):∃ g cap,v = .slice (some ⟨g,0,none⟩) fs.length cap∧fs.length≤cap∧cap≤maxLen∧Reps w (fun _=>True) g 0 fs:=by
 obtain⟨g,cap,cs,rfl,hown,hlr⟩:=h
 rcases hown.2 with ⟨hv,h0⟩|⟨g',cp,cur,hv,hg,hh,h1,h2,-⟩
 ·cases hv
 ·simp only [Value.slice.injEq,true_and] at hv
  obtain⟨-,rfl⟩:=hv;(refine⟨g,cap,rfl,h1,h2,hlr.reps 0 fun j u hu => ?_⟩);have:=hown.cells (g:=g) rfl j u hu;rw [QAZ] at this;exact this
theorem Rep.name {w:World} {ok:Nat→Prop} {k:Int} {n:ByteArray} {ks:List Fm} {v:Value} (h:Rep w ok (.mk k n ks) v):n.size≤maxLen∧ks.length≤maxLen:=by
 obtain⟨sl,cap,-,h1,h2,h3,-⟩:=Rep.def.1 h;(exact⟨h1,by omega⟩)
def Chk.code:Chk→Int × Int
 | .ok _=>(0,0)
 | .bad c a=>(c,a)
theorem QNN (f:Fm):f.code=(chk f 0).code:=by
 rw [Fm.code]
 cases chk f 0 <;> rfl
theorem QLI (k:Int):0≤QBh k:=by
 unfold QBh
 split
 ·decide
 ·split <;> decide
set_option maxHeartbeats 4000000 in
theorem QJh (f:Fm) (v:Value) (w:World) (hrep:Rep w (fun _=>True) f v) :
  Calls Tryz.prog 77 #[v] w fun e w'=>e = .returned (.agg #[.int .i64 f.code.1,.int .i64 f.code.2])∧Below w.heap.size w w':=by
 have hrun:=QMt f;have hwl:=QEh f 201;(have hwk:=fun w h=>QEi f v 201 w (by omega) h);have hcode:=QNN f;obtain⟨k,n,ks⟩:=f;obtain⟨sl,cap,rfl⟩:=QAU hrep;have HW:Hid (∀ w,_→Calls Tryz.prog 55 _ w _):=hwk;have HR:Hid (run (QBH (.mk k n ks) 201) 0=chk (.mk k n ks) 0):=hrun;have HC:Hid ((Fm.mk k n ks).code=(chk (.mk k n ks) 0).code):=hcode;clear hwk hrun hcode;generalize QBH (.mk k n ks) 201=fs at *;generalize (Fm.mk k n ks).code=cd at *;(have hfI:(fs.length:Int)≤202:=by omega)
 go_enter Tryz.func77,Tryz.ntmps77
 go_wp2_with (first
  | (
    go_at_call 55
    refine (HW.out _ ((hrep.more _).more _)).mono ?_;rintro e w1 ⟨u,rfl,hlo,hb1⟩;obtain⟨g,cp,rfl,hc1,hc2,hrs⟩:=hlo.reps;have r1:=QAA hb1 (QAH (w.alloc _) _);(rw [show (w.alloc _).heap.size=w.heap.size+1 by simp] at r1);have B1:=QAC (QAB (QAB (Below.refl _ w) _) _) hb1;(have HS:Hid (Reps w1 (fun _=>True) g 0 fs):=hrs)
    clear hlo hrs)
  | fail)
 go_loopg [4,5] fs.length (fun g c d wr=>∃ i,i≤fs.length∧i≤200∧g=fs.length - i∧c = .int .i64 (i:Nat)∧Below w1.heap.size w1 wr∧Hid (run (fs.drop i) i=chk (.mk k n ks) 0))
 case atStart=>exact⟨0,by omega,by omega,by omega,rfl,Below.refl _ _,HR.out⟩
 case round =>
  obtain⟨i,hile,hi2,hg,rfl,hbr,HN⟩:=hrel;have HG:Hid (gk=fs.length - i):=hg;clear hg;have B2:=QAC B1 hbr;have r2:=QAA hbr r1;obtain⟨o0,o1,o2,o3⟩:=QAV r2;by_cases hlt:i < fs.length
  ·obtain⟨⟨k2,n2,ks2⟩,hki⟩:∃ f,fs[i]? = some f:=⟨_,List.getElem?_eq_getElem hlt⟩
   obtain⟨sl2,cap2,g0,g1,g2,hrep2⟩:=(HS.out.up hbr).at i k2 n2 ks2 hki;obtain⟨hn2,hk2⟩:=hrep2.name;rw [Nat.zero_add] at g0 g1 g2;(have hltI:(i:Int) < (fs.length:Int):=by omega);(have hlc:((i:Nat):Int) < ((cp:Nat):Int):=by omega);have hnx:=HN.out;rw [QMs hki] at hnx;have HX:Hid (_=chk (.mk k n ks) 0):=hnx;clear hnx HN hki HR HW;have zg:g < wr.heap.size:=QAI g0;have hni:0≤QBh k2:=QLI k2;(have hnm:=fun w=>QFE n2 hn2 w);by_cases h200:i=200
   ·have hcd:cd=(2,0):=by rw [HC.out,← HX.out,if_pos h200];rfl
    have har:=QEl k2;(generalize (if QCE k2=true then QBh k2 else -1)=ar at har);have HA:Hid (∀ w,Calls Tryz.prog 121 _ w _):=har;subst h200;(have hltJ:(200:Int) < (fs.length:Int):=by omega);(have hlcJ:(200:Int) < ((cp:Nat):Int):=by omega)
    replace g0:wr.cell? ⟨g,600,none⟩=some (.int .i64 k2):=g0
    replace g1:wr.cell? ⟨g,601,none⟩=some (.string n2):=g1
    replace g2:wr.cell? ⟨g,602,none⟩=some (.slice sl2 ks2.length cap2):=g2
    clear hnm har hltI hlc
    go_wp2_with (first
     | (
       go_at_call 121
       refine (HA.out _).mono ?_;rintro e w2 ⟨rfl,hb2⟩;have r3:=QAA hb2 r2;have B3:=QAC B2 hb2;have m0:=(hb2.cell (p:=⟨g,600,none⟩) zg).trans g0;have m1:=(hb2.cell (p:=⟨g,601,none⟩) zg).trans g1
       have m2:=(hb2.cell (p:=⟨g,602,none⟩) zg).trans g2)
     | (
       go_at_call 14
       refine (QDG _ _ _).mono ?_;rintro e w3 ⟨rfl,hb3⟩;have r4:=QAA hb3 r3;have B4:=QAC B3 hb3
       obtain⟨j0,j1,j2,j3⟩:=QAV r4)
     | fail)
    have f2:=QCO r4 (.int .i64 2) (.int .i64 0);(have b2:=(B4.setCell (p:=⟨w.heap.size+1,0,none⟩) (by simp) (.int .i64 2)).setCell (p:=⟨w.heap.size+1,1,none⟩) (by simp) (.int .i64 0));generalize World.setCell _ _ _=F at f2 b2 ⊢;obtain⟨k1,k2,-⟩:=QAV f2;(exact bodyPost_ret (v := .agg #[.int .i64 2,.int .i64 0]) (by simp [results,Tryz.results77,go_sem,k1,k2]) rfl ⟨by rw [hcd],b2⟩)
   ·have h200I:¬ (i:Int)=200:=by omega
    (have h200J:((i:Int) == 200)=false:=by simpa using h200I);have hx:=HX.out;rw [if_neg h200] at hx;by_cases hkb:QCE k2=true
    ·have HA:Hid (∀ w,Calls Tryz.prog 121 #[.int .i64 k2] w fun e w'=>e = .returned (.int .i64 (QBh k2))∧Below w.heap.size w w'):=fun w=>by
      have:=QEl k2 w
      rwa [if_pos hkb] at this
     by_cases hsz:(ks2.length:Int)=QBh k2
     ·have hsJ:((ks2.length:Int) != QBh k2)=false:=by simpa using hsz
      rcases hnb:QCU k2 n2 with _|_
      ·have hnf:QBX k2 n2 ks2.length=none:=by simp [QBX,hkb,hsz,hnb]
       rw [hnf] at hx;have HY:Hid (run (fs.drop (i+1)) (i+1)=chk (.mk k n ks) 0):=hx;clear hx HX hnf;by_cases h1:k2=1
       ·subst h1
        (have hm:QBt n2.data.toList=true:=by simpa [QCU] using hnb);rw [hm] at hnm;have HNm:Hid (∀ w,Calls Tryz.prog 56 _ w _):=hnm;clear hnm hnb hm;generalize QBh 1=kn at *
        go_wp2_with (first
         | (
           go_at_call 121
           refine (HA.out _).mono ?_;rintro e w2 ⟨rfl,hb2⟩;have r3:=QAA hb2 r2;have B3:=QAC B2 hb2;have m0:=(hb2.cell (p:=⟨g,i * 3,none⟩) zg).trans g0;have m1:=(hb2.cell (p:=⟨g,i * 3+1,none⟩) zg).trans g1
           have m2:=(hb2.cell (p:=⟨g,i * 3+2,none⟩) zg).trans g2)
         | (
           go_at_call 56
           refine (HNm.out _).mono ?_
           rintro e w4 ⟨rfl,rfl⟩)
         | fail)
        go_roundg (fs.length - (i+1))
        case measure=>have:=HG.out;omega
        case rel=>exact⟨i+1,by omega,by omega,rfl,by go_num,QAC hbr hb2,HY⟩
       ·have h1J:(k2 == 1)=false:=by simpa using h1
        (have h1K:(k2 != 1)=true:=by simpa using h1);(have hm:n2.toList.isEmpty=true:=by rw [ByteArray.toList_eq];simpa [QCU,h1] using hnb);clear hnm hnb;generalize QBh k2=kn at *
        go_wp2_with (first
         | (
           go_at_call 121
           refine (HA.out _).mono ?_;rintro e w2 ⟨rfl,hb2⟩;have r3:=QAA hb2 r2;have B3:=QAC B2 hb2;have m0:=(hb2.cell (p:=⟨g,i * 3,none⟩) zg).trans g0;have m1:=(hb2.cell (p:=⟨g,i * 3+1,none⟩) zg).trans g1
           have m2:=(hb2.cell (p:=⟨g,i * 3+2,none⟩) zg).trans g2)
         | fail)
        go_roundg (fs.length - (i+1))
        case measure=>have:=HG.out;omega
        case rel=>exact⟨i+1,by omega,by omega,rfl,by go_num,QAC hbr hb2,HY⟩
      ·have hnf:QBX k2 n2 ks2.length=some 8:=by simp [QBX,hkb,hsz,hnb]
       (have hcd:cd=(8,(i:Int)):=by rw [HC.out,← hx,hnf];rfl);clear hx HX hnf;by_cases h1:k2=1
       ·subst h1
        (have hm:QBt n2.data.toList=false:=by simpa [QCU] using hnb);rw [hm] at hnm;have HNm:Hid (∀ w,Calls Tryz.prog 56 _ w _):=hnm;clear hnm hnb hm;generalize QBh 1=kn at *
        go_wp2_with (first
         | (
           go_at_call 121
           refine (HA.out _).mono ?_;rintro e w2 ⟨rfl,hb2⟩;have r3:=QAA hb2 r2;have B3:=QAC B2 hb2;have m0:=(hb2.cell (p:=⟨g,i * 3,none⟩) zg).trans g0;have m1:=(hb2.cell (p:=⟨g,i * 3+1,none⟩) zg).trans g1
           have m2:=(hb2.cell (p:=⟨g,i * 3+2,none⟩) zg).trans g2)
         | (
           go_at_call 56
           refine (HNm.out _).mono ?_
           rintro e w4 ⟨rfl,rfl⟩)
         | (
           go_at_call 14
           refine (QDG _ _ _).mono ?_;rintro e w3 ⟨rfl,hb3⟩;have r4:=QAA hb3 r3;have B4:=QAC B3 hb3
           obtain⟨j0,j1,j2,j3⟩:=QAV r4)
         | fail)
        have f2:=QCO r4 (.int .i64 8) (.int .i64 i);(have b2:=(B4.setCell (p:=⟨w.heap.size+1,0,none⟩) (by simp) (.int .i64 8)).setCell (p:=⟨w.heap.size+1,1,none⟩) (by simp) (.int .i64 i));generalize World.setCell _ _ _=F at f2 b2 ⊢;obtain⟨k1,k2,-⟩:=QAV f2;(exact bodyPost_ret (v := .agg #[.int .i64 8,.int .i64 i]) (by simp [results,Tryz.results77,go_sem,k1,k2]) rfl ⟨by rw [hcd],b2⟩)
       ·have h1J:(k2 == 1)=false:=by simpa using h1
        (have h1K:(k2 != 1)=true:=by simpa using h1);(have hm:n2.toList.isEmpty=false:=by rw [ByteArray.toList_eq];simpa [QCU,h1] using hnb);clear hnm hnb;generalize QBh k2=kn at *
        go_wp2_with (first
         | (
           go_at_call 121
           refine (HA.out _).mono ?_;rintro e w2 ⟨rfl,hb2⟩;have r3:=QAA hb2 r2;have B3:=QAC B2 hb2;have m0:=(hb2.cell (p:=⟨g,i * 3,none⟩) zg).trans g0;have m1:=(hb2.cell (p:=⟨g,i * 3+1,none⟩) zg).trans g1
           have m2:=(hb2.cell (p:=⟨g,i * 3+2,none⟩) zg).trans g2)
         | (
           go_at_call 14
           refine (QDG _ _ _).mono ?_;rintro e w3 ⟨rfl,hb3⟩;have r4:=QAA hb3 r3;have B4:=QAC B3 hb3
           obtain⟨j0,j1,j2,j3⟩:=QAV r4)
         | fail)
        have f2:=QCO r4 (.int .i64 8) (.int .i64 i);(have b2:=(B4.setCell (p:=⟨w.heap.size+1,0,none⟩) (by simp) (.int .i64 8)).setCell (p:=⟨w.heap.size+1,1,none⟩) (by simp) (.int .i64 i));generalize World.setCell _ _ _=F at f2 b2 ⊢;obtain⟨k1,k2,-⟩:=QAV f2;(exact bodyPost_ret (v := .agg #[.int .i64 8,.int .i64 i]) (by simp [results,Tryz.results77,go_sem,k1,k2]) rfl ⟨by rw [hcd],b2⟩)
     ·have hsJ:((ks2.length:Int) != QBh k2)=true:=by simpa using hsz
      (have hnf:QBX k2 n2 ks2.length=some 9:=by simp [QBX,hkb,hsz]);(have hcd:cd=(9,(i:Int)):=by rw [HC.out,← hx,hnf];rfl);clear hx HX hnf hnm;generalize QBh k2=kn at *
      go_wp2_with (first
       | (
         go_at_call 121
         refine (HA.out _).mono ?_;rintro e w2 ⟨rfl,hb2⟩;have r3:=QAA hb2 r2;have B3:=QAC B2 hb2;have m0:=(hb2.cell (p:=⟨g,i * 3,none⟩) zg).trans g0;have m1:=(hb2.cell (p:=⟨g,i * 3+1,none⟩) zg).trans g1
         have m2:=(hb2.cell (p:=⟨g,i * 3+2,none⟩) zg).trans g2)
       | (
         go_at_call 14
         refine (QDG _ _ _).mono ?_;rintro e w3 ⟨rfl,hb3⟩;have r4:=QAA hb3 r3;have B4:=QAC B3 hb3
         obtain⟨j0,j1,j2,j3⟩:=QAV r4)
       | fail)
      have f2:=QCO r4 (.int .i64 9) (.int .i64 i);(have b2:=(B4.setCell (p:=⟨w.heap.size+1,0,none⟩) (by simp) (.int .i64 9)).setCell (p:=⟨w.heap.size+1,1,none⟩) (by simp) (.int .i64 i));generalize World.setCell _ _ _=F at f2 b2 ⊢;obtain⟨k1,k2,-⟩:=QAV f2;(exact bodyPost_ret (v := .agg #[.int .i64 9,.int .i64 i]) (by simp [results,Tryz.results77,go_sem,k1,k2]) rfl ⟨by rw [hcd],b2⟩)
    ·have HA:Hid (∀ w,Calls Tryz.prog 121 #[.int .i64 k2] w fun e w'=>e = .returned (.int .i64 (-1))∧Below w.heap.size w w'):=fun w=>by
      have:=QEl k2 w
      rwa [if_neg hkb] at this
     (have hnf:QBX k2 n2 ks2.length=some 4:=by simp [QBX,hkb]);(have hcd:cd=(4,(i:Int)):=by rw [HC.out,← hx,hnf];rfl);clear hx HX hnf hnm
     go_wp2_with (first
      | (
        go_at_call 121
        refine (HA.out _).mono ?_;rintro e w2 ⟨rfl,hb2⟩;have r3:=QAA hb2 r2;have B3:=QAC B2 hb2;have m0:=(hb2.cell (p:=⟨g,i * 3,none⟩) zg).trans g0;have m1:=(hb2.cell (p:=⟨g,i * 3+1,none⟩) zg).trans g1
        have m2:=(hb2.cell (p:=⟨g,i * 3+2,none⟩) zg).trans g2)
      | (
        go_at_call 14
        refine (QDG _ _ _).mono ?_;rintro e w3 ⟨rfl,hb3⟩;have r4:=QAA hb3 r3;have B4:=QAC B3 hb3
        obtain⟨j0,j1,j2,j3⟩:=QAV r4)
      | fail)
     have f2:=QCO r4 (.int .i64 4) (.int .i64 i);(have b2:=(B4.setCell (p:=⟨w.heap.size+1,0,none⟩) (by simp) (.int .i64 4)).setCell (p:=⟨w.heap.size+1,1,none⟩) (by simp) (.int .i64 i));generalize World.setCell _ _ _=F at f2 b2 ⊢;obtain⟨k1,k2,-⟩:=QAV f2;(exact bodyPost_ret (v := .agg #[.int .i64 4,.int .i64 i]) (by simp [results,Tryz.results77,go_sem,k1,k2]) rfl ⟨by rw [hcd],b2⟩)
  ·have hcd:cd=(0,0):=by
    (rw [HC.out,← HN.out,List.drop_of_length_le (by omega),run];rfl)
   clear HN HR HW HS hrep;(have hge:¬ (i:Int) < (fs.length:Int):=by omega);go_wp2_with fail;have f2:=QCO r2 (.int .i64 0) (.int .i64 0);(have b2:=(B2.setCell (p:=⟨w.heap.size+1,0,none⟩) (by simp) (.int .i64 0)).setCell (p:=⟨w.heap.size+1,1,none⟩) (by simp) (.int .i64 0));generalize World.setCell _ _ _=F at f2 b2 ⊢;obtain⟨k1,k2,-⟩:=QAV f2;(exact bodyPost_ret (v := .agg #[.int .i64 0,.int .i64 0]) (by simp [results,Tryz.results77,go_sem,k1,k2]) rfl ⟨rfl,b2⟩)
end Go.Proofs.YtbmedfokpgghiacGreat
