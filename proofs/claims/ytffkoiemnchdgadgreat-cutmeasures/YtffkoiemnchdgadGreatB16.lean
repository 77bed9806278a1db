import Derived.Test.YtffkoiemnchdgadGreatB15
import Derived.Test.YtffkoiemnchdgadGreatB13
import Derived.Lib.AppendZerosOnto
namespace Go.Proofs.YtffkoiemnchdgadGreat
theorem QBz {f:Fm} (hf:Fine f) (hk:f.kind=4):∃ a,f = .mk 4 ⟨#[]⟩ [a]∧f.kidA=a∧Fine a:=by
 rcases hf.forms with ⟨n,rfl,hn⟩|rfl|rfl|⟨k,g,h,rfl,hg⟩|⟨k,g,g',h,rfl,hg,hg'⟩
 ·cases hk
 ·cases hk
 ·cases hk
 ·have:k=4:=hk
  subst this;exact⟨g,rfl,rfl,hg⟩
 ·have:k=4:=hk
  omega
theorem QAu {f:Fm} (hf:Fine f) (hk:f.kind=5∨f.kind=6∨f.kind=7):∃ a b,f = .mk f.kind ⟨#[]⟩ [a,b]∧f.kidA=a∧f.kidB=b∧Fine a∧Fine b:=by
 rcases hf.forms with ⟨n,rfl,hn⟩|rfl|rfl|⟨k,g,h,rfl,hg⟩|⟨k,g,g',h,rfl,hg,hg'⟩
 ·rcases hk with h|h|h <;> cases h
 ·rcases hk with h|h|h <;> cases h
 ·rcases hk with h|h|h <;> cases h
 ·have:k=5∨k=6∨k=7:=hk
  omega
 ·exact⟨g,g',rfl,rfl,rfl,hg,hg'⟩
open Go.RowKit
theorem QHk {ok:Nat→Prop} {w:World} {b:Nat}:∀ {fs:List Fm} {off:Nat},Reps w ok b off fs→∃ cs,LQ ok w cs fs∧∀ (j:Nat) (u:Value),cs[j]? = some u→w.cell? ⟨b,off+j,none⟩=some u
 | [],off,_=>⟨[],trivial,fun j u h=>by simp at h⟩
 | f :: fs,off,h=>by
  obtain⟨⟨c0,c1,c2,h0,h1,h2,hr⟩,hs⟩:=Reps.cons.1 h;obtain⟨cs,hl,hc⟩:=QHk hs;(refine⟨c0 :: c1 :: c2 :: cs,⟨hr,hl⟩,fun j u hu => ?_⟩)
  rcases j with _|_|_|j
  ·simp at hu;subst hu;exact h0
  ·simp at hu;subst hu;exact h1
  ·simp at hu;subst hu;exact h2
  ·have:=hc j u (by simpa using hu)
   (rw [show off+(j+1+1+1)=off+3+j by omega]);exact this
theorem LQ.one {ok:Nat→Prop} {w:World}:∀ {cs:List Value} {fs:List Fm},LQ ok w cs fs→∀ u∈cs,u.oneCell'=true
 | [],[],_,u,hu=>by cases hu
 | c0 :: c1 :: c2 :: cs,⟨k,n,ks⟩ :: fs,h,u,hu=>by
  obtain⟨sl,cap,hv,-⟩:=Rep.def.1 h.1;simp only [Value.agg.injEq,Array.mk.injEq,List.cons.injEq,and_true] at hv;obtain⟨rfl,rfl,rfl⟩:=hv;simp only [List.mem_cons] at hu
  rcases hu with rfl|rfl|rfl|hu
  ·rfl
  ·rfl
  ·rfl
  ·exact LQ.one h.2 u hu
def FLp (P:Nat→Prop) (w:World) (v:Value) (fs:List Fm):Prop:=∃ ad cap,v = .slice ad fs.length cap∧fs.length≤cap∧cap≤maxLen∧(fs≠[]→∃ b off,ad=some ⟨b,off,none⟩∧P b∧Reps w P b off fs)
theorem QFA {w w':World} {P P':Nat→Prop} {b:Nat} (h:∀ k,k < w.heap.size→P k→w'.heap[k]? = w.heap[k]? ∧ P' k) {off:Nat} {fs:List Fm} (hb:P b) (hr:Reps w P b off fs):Reps w' P' b off fs:=by
 cases fs with
 | nil=>exact Reps.nil
 | cons f fs =>
  obtain⟨⟨c0,_,_,h0,_⟩,_⟩:=Reps.cons.1 hr;(exact Reps.keep (fun a ha hlt=>QBH (h a.block hlt ha).1) (fun k hk hp=>(h k hk hp).2) hb (QAI h0) off _ hr)
theorem FLp.move {w w':World} {P P':Nat→Prop} {v:Value} {fs:List Fm} (hf:FLp P w v fs) (h:∀ k,k < w.heap.size→P k→w'.heap[k]? = w.heap[k]? ∧ P' k):FLp P' w' v fs:=by
 obtain⟨ad,cap,h1,h2,h3,h4⟩:=hf;(refine⟨ad,cap,h1,h2,h3,fun hne => ?_⟩);obtain⟨b,off,h5,h6,h7⟩:=h4 hne
 have hlt:b < w.heap.size:=by
  cases fs with
  | nil=>exact absurd rfl hne
  | cons f fs =>
   obtain⟨⟨c0,_,_,h0,_⟩,_⟩:=Reps.cons.1 h7;exact QAI h0
 exact⟨b,off,h5,(h b hlt h6).2,QFA h h6 h7⟩
theorem FL.low {w:World} {v:Value} {fs:List Fm} (hf:FL w v fs):FLp (· < w.heap.size) w v fs:=by
 obtain⟨ad,cap,h1,h2,h3,h4⟩:=hf;(exact FLp.move (P:=fun _=>True) ⟨ad,cap,h1,h2,h3,fun hne=>by obtain⟨b,off,h5,h6⟩:=h4 hne;exact⟨b,off,h5,trivial,h6⟩⟩ fun k hk _=>⟨rfl,hk⟩)
theorem FLp.list {w:World} {P:Nat→Prop} {v:Value} {fs:List Fm} (hf:FLp P w v fs):FL w v fs:=by
 obtain⟨ad,cap,h1,h2,h3,h4⟩:=hf;(refine⟨ad,cap,h1,h2,h3,fun hne => ?_⟩);obtain⟨b,off,h5,h6,h7⟩:=h4 hne;(exact⟨b,off,h5,QFA (fun _ _ _=>⟨rfl,trivial⟩) h6 h7⟩)
theorem FLp.up {w w':World} {P:Nat→Prop} {v:Value} {fs:List Fm} (hf:FLp P w v fs) (hb:Below w.heap.size w w'):FLp P w' v fs:=hf.move fun k hk hp=>⟨hb.block k hk,hp⟩
theorem FLp.cells {P:Nat→Prop} {w:World} {ad:Option Addr} {cap:Nat} {fs:List Fm} (h:FLp P w (.slice ad fs.length cap) fs) (hne:fs≠[]):∃ b off cs,ad=some ⟨b,off,none⟩∧LQ P w cs fs∧∀ (j:Nat) (u:Value),cs[j]? = some u→w.cell? ⟨b,off+j,none⟩=some u:=by
 obtain⟨ad',cap',hv,-,-,h4⟩:=h;simp only [Value.slice.injEq,true_and] at hv;obtain⟨rfl,rfl⟩:=hv;obtain⟨b,off,h5,-,h6⟩:=h4 hne;obtain⟨cs,h7,h8⟩:=QHk h6;exact⟨b,off,cs,h5,h7,h8⟩
theorem QHg {P:Nat→Prop} {B:Nat} {w:World} {ad:Option Addr} {cap:Nat} {fs:List Fm} (h:KP P B w ad cap fs) (hPB:∀ b,B≤b→P b):FLp P w (.slice ad fs.length cap) fs:=by
 (obtain⟨sl',cap',hv,-,h1,h2,h3⟩:=Rep.def.1 (h.rep hPB 0 ⟨#[]⟩ (by simp [maxLen,ByteArray.size])));simp only [Value.agg.injEq,Array.mk.injEq,List.cons.injEq,Value.slice.injEq,true_and,and_true] at hv;obtain⟨rfl,rfl⟩:=hv;exact⟨ad,cap,rfl,h1,h2,h3⟩
theorem FL.flp {w:World} {v:Value} {fs:List Fm} (h:FL w v fs):FLp (fun _=>True) w v fs:=by
 obtain⟨ad,cap,h1,h2,h3,h4⟩:=h;(exact⟨ad,cap,h1,h2,h3,fun hne=>by obtain⟨b,off,h5,h6⟩:=h4 hne;exact⟨b,off,h5,trivial,h6⟩⟩)
theorem QJc (n c:Nat) (w:World):(binOp BinOp.eql 22 (.slice none n c) (.slice none 0 0)).run Tryz.prog w = .ok (.bool true) w:=by kernel_rfl
theorem QKF (a:Addr) (n c:Nat) (w:World):(binOp BinOp.eql 22 (.slice (some a) n c) (.slice none 0 0)).run Tryz.prog w = .ok (.bool false) w:=by kernel_rfl
set_option maxRecDepth 10000 in
set_option maxHeartbeats 2000000 in
theorem QDx (P:Nat→Prop) (fs:List Fm) (hl:fs.length≤1000) (v:Value) (w:World) (hv:FLp P w v fs) :
  Calls Tryz.prog 248 #[v] w fun e w'=>∃ ad cp,e = .returned (.slice ad fs.length cp)∧KP P w.heap.size w' ad cp fs∧Below w.heap.size w w':=by
 obtain⟨ad,cap,rfl,h1,h2,h3⟩:=hv;have HV:Hid (FLp P w (.slice ad fs.length cap) fs):=⟨ad,cap,rfl,h1,h2,h3⟩;obtain⟨i0,hi,hz0,hz1,hz2⟩:=QBV;(have hlI:(fs.length:Int)≤1000:=by omega);(have hny:=fun n c w=>QJc n c w);(have hnn:=fun a n c w=>QKF a n c w);clear h3;by_cases hne:fs=[]
 ·subst hne
  cases ad with
  | none =>
   go_enter Tryz.func248,Tryz.ntmps248
   go_wp2_with fail;go_ret
   exact⟨none,0,rfl,KP.nil,Below.refl _ _⟩
  | some a =>
   go_enter Tryz.func248,Tryz.ntmps248
   go_wp2_with fail;go_ret;(exact⟨some ⟨w.heap.size,0,none⟩,0,rfl,⟨[],⟨rfl,Or.inr ⟨w.heap.size,0,#[],rfl,Nat.le_refl _,QAG _ _,Nat.le_refl _,by simp,rfl,rfl⟩⟩,trivial⟩,QAA (Below.refl _ w) _⟩)
 ·obtain⟨b,off,cs,rfl,hlq,hcs⟩:=HV.out.cells hne
  have hpos:0 < fs.length:=List.length_pos_iff.2 hne;have hlen:=hlq.len;have HOne:Hid (∀ u∈cs,u.oneCell'=true):=hlq.one;have HQ:Hid (LQ P w cs fs):=hlq;have HCs:Hid (∀ (j:Nat) (u:Value),cs[j]? = some u→w.cell? ⟨b,off+j,none⟩=some u):=hcs;(have hown:(w.alloc (.cells #[] 24 (0,0))).ownsRow w.heap.size 24 3 (.slice (some ⟨w.heap.size,0,none⟩) 0 0) 0 []:=⟨rfl,Or.inr ⟨w.heap.size,0,#[],rfl,Nat.le_refl _,QAG _ _,Nat.le_refl _,by simp,rfl,rfl⟩⟩);clear hne hlq hcs
  go_enter Tryz.func248,Tryz.ntmps248
  go_wp2_with (first
   | (
     at_builtin
     refine wpList_append_lies _ rfl _ _ 22 rfl w.heap.size 24 i0 (.agg #[.int .i64 0,.string ⟨#[]⟩,.slice none 0 0]) 3 48 Tryz.underlying22 hi hz0 hz1 hz2 rfl (by decide) _ _ _ rfl hown ⟨b,off,none⟩ fs.length cap cs rfl hlen (fun j u hu=>by
      rw [QAn]
      exact (((Below.refl _ w).alloc (Nat.le_refl _) _).cell (QAI (HCs.out j u hu))).trans (HCs.out j u hu)) HOne.out hpos (by unfold maxLen;omega) (by omega) (by simp) _ rfl ?_
     intro g3 cp3 w3 hown3 hgrow hat hlt3)
   | fail)
  have hown3':w3.ownsRow w.heap.size 24 3 (.slice (some ⟨g3,0,none⟩) fs.length cp3) fs.length cs:=by
   have:=hown3;rw [Nat.zero_add] at this;exact this
  have hgrow':(w.alloc (.cells #[] 24 (0,0))).grownBy w3 (some w.heap.size):=hgrow
  have hbl:∀ j,j < w.heap.size→w3.heap[j]? = w.heap[j]? := fun j hj=>by
   (rw [hgrow'.block j (by simp;omega) (fun e=>by have:=Option.some.inj e;omega),Below.heap_alloc _ _ _ hj])
  (have hB:Below w.heap.size w w3:=⟨hgrow'.os,hgrow'.tape,hgrow'.output,by have:=hgrow'.size;simp at this;omega,hbl⟩);have hg3:w.heap.size≤g3:=(hown3'.lt g3 rfl).1
  have hKP:KP P w.heap.size w3 (some ⟨g3,0,none⟩) cp3 fs:=⟨cs,hown3',HQ.out.move fun b hb hp=>⟨hbl b hb,hp,fun e=>by
   (have:g3=b:=by simpa [Value.ownBlock] using e)
   omega⟩⟩
  clear hown3 hown3' hgrow hgrow' hat hown;(have hz:((0:Int)+(fs.length:Int))=(fs.length:Int):=by omega);go_wp2_with fail;go_ret;refine⟨some ⟨g3,0,none⟩,cp3,?_,hKP,hB⟩
  simp
set_option maxRecDepth 10000 in
set_option maxHeartbeats 2000000 in
theorem QHx (w:World) :
  Calls Tryz.prog 124 #[.slice none 0 0,.int .i64 0] w fun e w'=>e = .returned (.slice none 0 0)∧w'=w:=by
 go_enter Tryz.func124,Tryz.ntmps124
 go_wp2_with fail;go_ret;exact⟨rfl,rfl⟩
set_option maxRecDepth 10000 in
set_option maxHeartbeats 2000000 in
theorem QHw (n:Nat) (hn:0 < n) (hn2:n≤1000) (w:World) :
  Calls Tryz.prog 124 #[.slice none 0 0,.int .i64 (n:Nat)] w fun e w'=>∃ g cp,e = .returned (.slice (some ⟨g,0,none⟩) 0 cp)∧w'.ownsRow w.heap.size 24 3 (.slice (some ⟨g,0,none⟩) 0 cp) 0 []∧Below w.heap.size w w':=by
 obtain⟨i0,hi,hz0,hz1,hz2⟩:=QBV;(have hnI:(0:Int) < (n:Int):=by omega);(have hnJ:(n:Int)≤1000:=by omega)
 have hrz:∀ ty,(Builtin.append_ #[22,3] ty #[.slice none 0 0,.int .i64 (n:Nat)]).run Tryz.prog w = .ok (.slice (some ⟨w.heap.size,0,none⟩) n (grownCap w n 0 24)) (w.drew.alloc (.cells (#[]++Builtin.zeroCells (Value.agg #[.int .i64 0,.string ⟨#[]⟩,.slice none 0 0]).cells n++Builtin.zeroCells (Value.agg #[.int .i64 0,.string ⟨#[]⟩,.slice none 0 0]).cells (grownCap w n 0 24 - n)) 24)):=fun ty=>by
  (have h:=Lib.run_append_grow_zeros w 22 3 ty 24 i0 (.agg #[.int .i64 0,.string ⟨#[]⟩,.slice none 0 0]) .i64 .i64 Tryz.underlying22 Tryz.underlying3 hi hz0 none 0 0 [] (run_firstCells_none w.drew i0.size 0 0 0) n hn (by omega) (by omega) (by omega) (by rw [hz2];omega) (by rw [hz2];exact growslice_fits (by omega) (by omega)));simpa using h
 have hGn:n≤grownCap w n 0 24:=grownCap_ge w _ _ _;(have hGm:grownCap w n 0 24≤maxLen:=grownCap_le_maxLen w n 0 24 (by unfold maxLen;omega));generalize grownCap w n 0 24=G at *;(have hG63:(G:Int)≤9223372036854775807:=by unfold maxLen at hGm;omega)
 have hOw:(w.drew.alloc (.cells (#[]++Builtin.zeroCells (Value.agg #[.int .i64 0,.string ⟨#[]⟩,.slice none 0 0]).cells n++Builtin.zeroCells (Value.agg #[.int .i64 0,.string ⟨#[]⟩,.slice none 0 0]).cells (G - n)) 24)).ownsRow w.heap.size 24 3 (.slice (some ⟨w.heap.size,0,none⟩) 0 G) 0 []:=by
  refine⟨rfl,Or.inr ⟨w.heap.size,G,_,rfl,Nat.le_refl _,QAG _ _,Nat.zero_le _,hGm,?_,rfl⟩⟩;have h3:(Value.agg #[.int .i64 0,.string ⟨#[]⟩,.slice none 0 0]).cells.size=3:=rfl;rw [Array.size_append,Array.size_append,size_zeroCells,size_zeroCells,h3];simp only [Array.size_empty];omega
 have HOw:Hid (World.ownsRow _ _ _ _ _ _ _):=hOw;have hBw:Below w.heap.size w (w.drew.alloc (.cells (#[]++Builtin.zeroCells (Value.agg #[.int .i64 0,.string ⟨#[]⟩,.slice none 0 0]).cells n++Builtin.zeroCells (Value.agg #[.int .i64 0,.string ⟨#[]⟩,.slice none 0 0]).cells (G - n)) 24)):=QAA (Below.refl _ w).drew _;generalize w.drew.alloc _=W at *;clear hOw hz0 hz1 hz2 hi
 go_enter Tryz.func124,Tryz.ntmps124
 go_wp2_with (first
  | (
    at_builtin
    refine Lib.wpList_append_run _ rfl _ _ _ _ rfl _ _ rfl rfl _ _ (hrz _) ?_)
  | fail)
 all_goals
  go_ret;exact⟨_,_,rfl,HOw.out,hBw⟩
def AppL (A B:Nat) (fs:List Fm) (ad:Option Addr) (cp:Nat) (w:World):Prop:=∃ cs,w.ownsRow B 24 3 (.slice ad fs.length cp) fs.length cs∧LQ (fun b=>b < A) w cs fs
theorem AppL.flp {A B:Nat} {fs:List Fm} {ad:Option Addr} {cp:Nat} {w:World} (h:AppL A B fs ad cp w) (hAB:A≤B):FLp (fun b=>b < A∨B≤b) w (.slice ad fs.length cp) fs:=by
 obtain⟨cs,h1,h2⟩:=h;(refine QHg (B:=B) ⟨cs,h1,h2.move fun b _ hb=>⟨rfl,Or.inl hb,fun e => ?_⟩⟩ fun _ h=>Or.inr h);have:=(h1.lt b e).1;omega
theorem AppL.shape {A B:Nat} {fs:List Fm} {ad:Option Addr} {cp:Nat} {w:World} (h:AppL A B fs ad cp w):(ad=none∧cp=0∧fs=[])∨∃ g,ad=some ⟨g,0,none⟩∧fs.length≤cp:=by
 obtain⟨cs,⟨h0,h1⟩,h2⟩:=h
 rcases h1 with ⟨hv,hn⟩|⟨g,cap,cur,hv,-,-,hl,-⟩
 ·simp only [Value.slice.injEq] at hv
  exact Or.inl ⟨hv.1,hv.2.2,List.length_eq_zero_iff.1 hn⟩
 ·simp only [Value.slice.injEq,true_and] at hv
  obtain⟨rfl,rfl⟩:=hv;exact Or.inr ⟨g,rfl,hl⟩
theorem QIw (A n:Nat) (hn:n≤1000) (w:World) :
  Calls Tryz.prog 124 #[.slice none 0 0,.int .i64 (n:Nat)] w fun e w'=>∃ ad cp,e = .returned (.slice ad 0 cp)∧AppL A w.heap.size [] ad cp w'∧Below w.heap.size w w':=by
 rcases Nat.eq_zero_or_pos n with rfl|h0
 ·refine (QHx w).mono ?_
  rintro e w' ⟨rfl,rfl⟩;exact⟨none,0,rfl,⟨[],⟨rfl,Or.inl ⟨rfl,rfl⟩⟩,trivial⟩,Below.refl _ _⟩
 ·refine (QHw n h0 hn w).mono ?_
  rintro e w' ⟨g,cp,rfl,ho,hb⟩;exact⟨_,_,rfl,⟨[],ho,trivial⟩,hb⟩
theorem AppL.app {W w2 w3:World} {A:Nat} {fs gs:List Fm} {ad:Option Addr} {cp g3 cp3:Nat} {cs ds:List Value} (hA:A≤W.heap.size) (B:Below W.heap.size W w2)
  (hown:w2.ownsRow W.heap.size 24 3 (.slice ad fs.length cp) fs.length cs) (hlq:LQ (fun b=>b < A) w2 cs fs) (hds:LQ (fun b=>b < A) w2 ds gs)
  (hown3:w3.ownsRow W.heap.size 24 3 (.slice (some ⟨g3,0,none⟩) (fs.length+gs.length) cp3) (fs.length+gs.length) (cs++ds)) (hgrow:w2.grownBy w3 (Value.slice ad fs.length cp).ownBlock) :
  AppL A W.heap.size (fs++gs) (some ⟨g3,0,none⟩) cp3 w3∧Below W.heap.size W w3:=by
 (have hk:∀ j,j < W.heap.size→w3.heap[j]? = w2.heap[j]? := fun j hj=>hgrow.block j (by have:=B.size;omega) (fun e=>by have:=(hown.lt j e.symm).1;omega));(refine⟨⟨cs++ds,by rw [List.length_append];exact hown3,(hlq.append hds).move fun b _ hb=>⟨hk b (by omega),hb⟩⟩,?_,?_,?_,?_,?_⟩)
 all_goals first
  | exact hgrow.os.trans B.os
  | exact hgrow.tape.trans B.tape
  | exact hgrow.output.trans B.output
  | (have:=hgrow.size;have:=B.size;omega)
  | exact fun j hj=>(hk j hj).trans (B.block j hj)
set_option maxRecDepth 10000 in
set_option maxHeartbeats 8000000 in
theorem QGh (A:Nat) (l r:List Fm) (hl:l.length≤400) (hr:r.length≤400) (v u:Value) (b:Nat) (w:World) (hA:A≤w.heap.size) (hv:FLp (· < A) w v l) (hu:FLp (· < A) w u r) (hb:w.heap[b]? = some (.cells #[v,u] 22 (0,0))) :
  Calls Tryz.prog 83 #[.slice (some ⟨b,0,none⟩) 2 2] w fun e w'=>∃ ad cp,e = .returned (.slice ad (l++r).length cp)∧AppL A w.heap.size (l++r) ad cp w'∧Below w.heap.size w w':=by
 have HV:Hid (FLp (· < A) w v l):=hv;have HU:Hid (FLp (· < A) w u r):=hu;have HAw:Hid (A≤w.heap.size):=hA;clear hA;obtain⟨adV,cpV,rfl,hv1,hv2,-⟩:=hv;obtain⟨adU,cpU,rfl,hu1,hu2,-⟩:=hu;obtain⟨i0,hi,hz0,hz1,hz2⟩:=QBV;have HIo:Hid (Tryz.prog.info? 24=some i0∧i0.zero=some (.agg #[.int .i64 0,.string ⟨#[]⟩,.slice none 0 0])∧i0.size=3∧i0.bytes=48):=⟨hi,hz0,hz1,hz2⟩;obtain⟨a0,a1,-⟩:=QAU hb;(have hlI:(l.length:Int)≤400:=by omega);(have hrI:(r.length:Int)≤400:=by omega);clear hi hz0 hz1 hz2 hv1 hv2 hu1 hu2
 go_enter Tryz.func83,Tryz.ntmps83
 go_wp2_with fail
 go_loopg [11,3] 2 (fun g c o wr=>(g=2∧c = .int .i64 0∧o = .int .i64 0∧wr=w)∨(g=1∧c = .int .i64 1∧o = .int .i64 (l.length:Nat)∧wr=w)∨(g=0∧c = .int .i64 2∧o = .int .i64 ((l.length+r.length:Nat):Int)∧wr=w))
 case atStart=>exact Or.inl ⟨rfl,rfl,rfl,rfl⟩
 case round =>
  rcases hrel with ⟨hg,rfl,rfl,hw⟩|⟨hg,rfl,rfl,hw⟩|⟨hg,rfl,rfl,hw⟩
  ·have hw':=hw.symm
   subst hw';have HG:Hid (gk=2):=hg;clear hg;go_wp2_with fail
   go_roundg 1
   case measure=>have:=HG.out;omega
   case rel=>exact Or.inr (Or.inl ⟨rfl,by go_num,by go_num,rfl⟩)
  ·have hw':=hw.symm
   subst hw';have HG:Hid (gk=1):=hg;clear hg;go_wp2_with fail
   go_roundg 0
   case measure=>have:=HG.out;omega
   case rel=>exact Or.inr (Or.inr ⟨rfl,by go_num,by go_num,rfl⟩)
  ·have hw':=hw.symm
   subst hw';clear hg;go_wp2_with fail;(rw [show ((l.length:Int)+(r.length:Int))=((l.length+r.length:Nat):Int) by simp]);(refine (QIw A (l.length+r.length) (by omega) w).mono ?_);rintro e w2 ⟨ad0,cp0,rfl,hA,B2⟩;have HA:Hid (AppL A w.heap.size [] ad0 cp0 w2):=hA;clear hA a0 a1;have HB:Hid (w.heap[b]? = some (.cells #[.slice adV l.length cpV,.slice adU r.length cpU] 22 (0,0))):=hb;clear hb;go_wp2_with fail
   go_loopg [27,6] 2 (fun g c o wr=>Hid (Below w.heap.size w wr)∧((∃ ad cp,g=2∧c = .int .i64 0∧o = .slice ad 0 cp∧Hid (AppL A w.heap.size [] ad cp wr))∨(∃ ad cp,g=1∧c = .int .i64 1∧o = .slice ad l.length cp∧Hid (AppL A w.heap.size l ad cp wr))∨(∃ ad cp,g=0∧c = .int .i64 2∧o = .slice ad (l++r).length cp∧Hid (AppL A w.heap.size (l++r) ad cp wr))))
   case atStart=>exact⟨B2,Or.inl ⟨ad0,cp0,rfl,rfl,rfl,HA⟩⟩
   case round =>
    clear HA B2;obtain⟨HW,hrel⟩:=hrel;obtain⟨a0,a1,-⟩:=QAU (QAB HW.out HB.out)
    rcases hrel with ⟨ad,cp,hg,rfl,rfl,HA⟩|⟨ad,cp,hg,rfl,rfl,HA⟩|⟨ad,cp,hg,rfl,rfl,HA⟩
    ·have HG:Hid (gk=2):=hg
     clear hg;by_cases hne:l=[]
     ·subst hne
      have BW:=HW.out;(have hpu:∀ w:World,(pure #[]:Sem (Array Value)).run Tryz.prog w = .ok #[] w:=fun _=>rfl);(have hsc:∀ (a:Addr) (w:World),(storeCells a ([]:List Value)).run Tryz.prog w = .ok () w:=fun _ _=>rfl)
      rcases HA.out.shape with ⟨rfl,rfl,hd⟩|⟨gg,rfl,hle⟩
      ·
       clear hd
       cases adV
       all_goals
        go_wp2_with fail
        go_roundg 1
        case measure=>have:=HG.out;omega
        case rel=>exact⟨BW,Or.inr (Or.inl ⟨none,0,rfl,by go_num,by simp,HA.out⟩)⟩
      ·clear hle
       cases adV
       all_goals
        go_wp2_with fail
        go_roundg 1
        case measure=>have:=HG.out;omega
        case rel=>exact⟨BW,Or.inr (Or.inl ⟨_,_,rfl,by go_num,by simp,HA.out⟩)⟩
     ·obtain⟨bs,offs,ds,rfl,hds,hcs⟩:=HV.out.cells hne
      have BW:=HW.out;have hpos:0 < l.length:=List.length_pos_iff.2 hne;obtain⟨cs,hown,hlq⟩:=HA.out;(have hds':=hds.move (ok':=fun b=>b < A) (w':=wr) fun b hb hp=>⟨BW.block b hb,hp⟩);have HD:Hid (LQ _ wr ds l):=hds';have HL:Hid (LQ _ wr cs []):=hlq;have hlen:=hds.len;have HOne:Hid (∀ u∈ds,u.oneCell'=true):=hds.one;(have HCs:Hid (∀ (j:Nat) (u:Value),ds[j]? = some u→wr.cell? ⟨bs,offs+j,none⟩=some u):=fun j u hu=>(BW.cell (p:=⟨bs,offs+j,none⟩) (QAI (hcs j u hu))).trans (hcs j u hu));obtain⟨hi,hz0,hz1,hz2⟩:=HIo.out;have zw:=BW.size;clear hds hds' hcs hlq hne
      go_wp2_with (first
       | (
         at_builtin
         refine wpList_append_lies _ rfl _ _ 22 rfl w.heap.size 24 i0 (.agg #[.int .i64 0,.string ⟨#[]⟩,.slice none 0 0]) 3 48 Tryz.underlying22 hi hz0 hz1 hz2 rfl (by decide) _ _ _ rfl hown ⟨bs,offs,none⟩ l.length cpV ds rfl hlen (fun j u hu=>by
          rw [QAn]
          exact HCs.out j u hu) HOne.out hpos (by unfold maxLen;simp;omega) (by simp;omega) zw _ rfl ?_
         intro g3 cp3 w3 hown3 hgrow hat hlt3)
       | fail)
      obtain⟨hA3,B3⟩:=AppL.app (gs:=l) HAw.out BW hown HL.out HD.out hown3 hgrow;have HA3:Hid (AppL A w.heap.size ([]++l) (some ⟨g3,0,none⟩) cp3 w3):=hA3;clear hown hown3 hgrow hat hA3 hlen hi hz0 hz1 hz2;go_wp2_with fail
      go_roundg 1
      case measure=>have:=HG.out;omega
      case rel=>exact⟨B3,Or.inr (Or.inl ⟨_,_,rfl,by go_num,by simp,HA3.out⟩)⟩
    ·have HG:Hid (gk=1):=hg
     clear hg;by_cases hne:r=[]
     ·subst hne
      have BW:=HW.out;(have hpu:∀ w:World,(pure #[]:Sem (Array Value)).run Tryz.prog w = .ok #[] w:=fun _=>rfl);(have hsc:∀ (a:Addr) (w:World),(storeCells a ([]:List Value)).run Tryz.prog w = .ok () w:=fun _ _=>rfl)
      rcases HA.out.shape with ⟨rfl,rfl,hd⟩|⟨gg,rfl,hle⟩
      ·subst hd
       cases adU
       all_goals
        go_wp2_with fail
        go_roundg 0
        case measure=>have:=HG.out;omega
        case rel=>exact⟨BW,Or.inr (Or.inr ⟨none,0,rfl,by go_num,by simp,by rw [List.append_nil];exact HA.out⟩)⟩
      ·have hleI:(l.length:Int)≤(cp:Int):=by omega
       cases adU
       all_goals
        go_wp2_with fail
        go_roundg 0
        case measure=>have:=HG.out;omega
        case rel=>exact⟨BW,Or.inr (Or.inr ⟨some ⟨gg,0,none⟩,cp,rfl,by go_num,by simp,by rw [List.append_nil];exact HA.out⟩)⟩
     ·obtain⟨bs,offs,ds,rfl,hds,hcs⟩:=HU.out.cells hne
      have BW:=HW.out;have hpos:0 < r.length:=List.length_pos_iff.2 hne;obtain⟨cs,hown,hlq⟩:=HA.out;(have hds':=hds.move (ok':=fun b=>b < A) (w':=wr) fun b hb hp=>⟨BW.block b hb,hp⟩);have HD:Hid (LQ _ wr ds r):=hds';have HL:Hid (LQ _ wr cs l):=hlq;have hlen:=hds.len;have HOne:Hid (∀ u∈ds,u.oneCell'=true):=hds.one;(have HCs:Hid (∀ (j:Nat) (u:Value),ds[j]? = some u→wr.cell? ⟨bs,offs+j,none⟩=some u):=fun j u hu=>(BW.cell (p:=⟨bs,offs+j,none⟩) (QAI (hcs j u hu))).trans (hcs j u hu));obtain⟨hi,hz0,hz1,hz2⟩:=HIo.out;have zw:=BW.size;clear hds hds' hcs hlq hne
      go_wp2_with (first
       | (
         at_builtin
         refine wpList_append_lies _ rfl _ _ 22 rfl w.heap.size 24 i0 (.agg #[.int .i64 0,.string ⟨#[]⟩,.slice none 0 0]) 3 48 Tryz.underlying22 hi hz0 hz1 hz2 rfl (by decide) _ _ _ rfl hown ⟨bs,offs,none⟩ r.length cpU ds rfl hlen (fun j u hu=>by
          rw [QAn]
          exact HCs.out j u hu) HOne.out hpos (by unfold maxLen;omega) (by omega) zw _ rfl ?_
         intro g3 cp3 w3 hown3 hgrow hat hlt3)
       | fail)
      obtain⟨hA3,B3⟩:=AppL.app (gs:=r) HAw.out BW hown HL.out HD.out hown3 hgrow;have HA3:Hid (AppL A w.heap.size (l++r) (some ⟨g3,0,none⟩) cp3 w3):=hA3;clear hown hown3 hgrow hat hA3 hlen hi hz0 hz1 hz2;go_wp2_with fail
      go_roundg 0
      case measure=>have:=HG.out;omega
      case rel=>exact⟨B3,Or.inr (Or.inr ⟨_,_,rfl,by go_num,by simp,HA3.out⟩)⟩
    ·clear hg
     have BW:=HW.out;go_wp2_with fail;go_ret;exact⟨ad,cp,rfl,HA.out,BW⟩
end Go.Proofs.YtffkoiemnchdgadGreat
