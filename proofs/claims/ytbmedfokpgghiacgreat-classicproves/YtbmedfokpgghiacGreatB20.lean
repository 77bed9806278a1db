import Derived.Test.YtbmedfokpgghiacGreatB09
import Derived.Test.YtbmedfokpgghiacGreatB15
import Derived.Test.YtbmedfokpgghiacGreatB14
import Derived.Test.YtbmedfokpgghiacGreatB16
namespace Go.Proofs.YtbmedfokpgghiacGreat
open Go.RowKit
theorem QHM:Tryz.prog.cellsOf 32=7:=by kernel_rfl
theorem QKI:Tryz.prog.cellsOf 24=2:=by kernel_rfl
theorem QNM:Tryz.prog.cellsOf 30=1:=by kernel_rfl
section
variable {H:Type} {enc:TypeId × Value→H} {W:World} {spare:Nat→Bool} {held:Bool}
set_option maxRecDepth 100000 in
theorem QDW (fuel:Nat) (cs:List Value) (x:DataW H × List MemPlace) (h:DataW.trod enc Tryz.prog W 0 spare held fuel 22 cs=some x):∃ v l,cs=[v]∧FL W v l:=by
 rcases DataW.trod_slice Tryz.underlying22 h with ⟨rfl,-⟩|⟨a,len,cap,elems,rest,m,hm,rfl,-,-,hlc,hcm,hel,hall,-⟩
 ·exact⟨_,[],rfl,none,0,rfl,Nat.le_refl _,by simp,fun h=>absurd rfl h⟩
 ·obtain⟨b,off,spot⟩:=a
  by_cases hz:len=0
  ·subst hz
   (exact⟨_,[],rfl,_,cap,rfl,Nat.zero_le _,hcm,fun h=>absurd rfl h⟩)
  ·have hsp:spot=none:=by
    (have hh:=hall 0 (by omega));(rw [QDv,List.getElem?_eq_getElem (by omega)] at hh);obtain⟨cs',hcs,htr⟩:=Option.bind_eq_some_iff.1 hh;obtain⟨-,hl3,hcell⟩:=World.cells?_some hcs;obtain⟨d0,d1,d2,f,rfl,-⟩:=QDo m cs' _ htr;(have g0:=hcell 0 (by omega));simp [Addr.add] at g0;simpa using World.cell?_spot g0
   subst hsp
   obtain⟨fs,hfl,hrs⟩:=QKV (W:=W) (b:=b) (off:=off) (len:=len) (fun i hi=>by
    have hh:=hall i hi;(rw [QDv,List.getElem?_eq_getElem (by omega),QAZ] at hh);obtain⟨cs',hcs,htr⟩:=Option.bind_eq_some_iff.1 hh;obtain⟨-,hl3,hcell⟩:=World.cells?_some hcs;obtain⟨d0,d1,d2,f,rfl,hr⟩:=QDo m cs' _ htr;(have g0:=hcell 0 (by omega));(have g1:=hcell 1 (by omega));(have g2:=hcell 2 (by omega));rw [QAZ] at g0 g1 g2
    exact⟨d0,d1,d2,f,g0,g1,g2,hr⟩)
   subst hfl;(exact⟨_,fs,rfl,_,cap,rfl,hlc,hcm,fun _=>⟨b,off,rfl,hrs⟩⟩)
theorem QMq {b off len:Nat} (rd:∀ i,i < len→∃ c0 c1 c2 c3 c4 c5 c6 p,W.cell? ⟨b,off+i * 7,none⟩=some c0∧W.cell? ⟨b,off+i * 7+1,none⟩=some c1∧W.cell? ⟨b,off+i * 7+2,none⟩=some c2∧W.cell? ⟨b,off+i * 7+3,none⟩=some c3∧W.cell? ⟨b,off+i * 7+4,none⟩=some c4∧W.cell? ⟨b,off+i * 7+5,none⟩=some c5∧W.cell? ⟨b,off+i * 7+6,none⟩=some c6∧PRep W p (.agg #[c0,c1,c2,c3,c4,c5,c6])) :
  ∃ ps:List Pf,ps.length=len∧PReps W b off ps:=by
 induction len generalizing off with
 | zero=>exact⟨[],rfl,PReps.nil⟩
 | succ len ih =>
  (obtain⟨c0,c1,c2,c3,c4,c5,c6,p,h0,h1,h2,h3,h4,h5,h6,hr⟩:=rd 0 (by omega))
  obtain⟨ps,hl,hrs⟩:=ih (off:=off+7) (fun i hi=>by
   (obtain⟨d0,d1,d2,d3,d4,d5,d6,q,k0,k1,k2,k3,k4,k5,k6,kr⟩:=rd (i+1) (by omega));(have e:off+(i+1) * 7=off+7+i * 7:=by omega);rw [e] at k0 k1 k2 k3 k4 k5 k6
   exact⟨d0,d1,d2,d3,d4,d5,d6,q,k0,k1,k2,k3,k4,k5,k6,kr⟩)
  (exact⟨p :: ps,by simp [hl],PReps.cons.2 ⟨⟨c0,c1,c2,c3,c4,c5,c6,by simpa using h0,by simpa using h1,by simpa using h2,by simpa using h3,by simpa using h4,by simpa using h5,by simpa using h6,hr⟩,hrs⟩⟩)
set_option maxRecDepth 100000 in
theorem QNg:∀ (fuel:Nat) (cs:List Value) (x:DataW H × List MemPlace),DataW.trod enc Tryz.prog W 0 spare held fuel 32 cs=some x →
  ∃ c0 c1 c2 c3 c4 c5 c6 p,cs=[c0,c1,c2,c3,c4,c5,c6]∧PRep W p (.agg #[c0,c1,c2,c3,c4,c5,c6]):=by
 intro fuel
 induction fuel using Nat.strongRecOn with
 | _ fuel ih =>
  intro cs x h;obtain⟨xs,n,hfu,-,hl,hlen,hf⟩:=DataW.trod_struct Tryz.underlying32 h;rw [QHM] at hl
  match cs,hl with
  | [c0,c1,c2,c3,c4,c5,c6],_ =>
   have h0:=hf 0 _ rfl;have h1:=hf 1 _ rfl;have h2:=hf 2 _ rfl;have h3:=hf 3 _ rfl;simp at hlen
   match xs,hlen with
   | [y0,y1,y2,y3],_ =>
    simp [QDv,QMN,QKI,QNM] at h0 h1 h2 h3;obtain⟨s,e0,-,hs⟩:=DataW.trod_string Tryz.underlying9 h0;simp at e0;subst e0;obtain⟨f0,f1,f2,f,hfe,hfr⟩:=QDo _ _ _ h1;simp at hfe;obtain⟨rfl,rfl,rfl⟩:=hfe;obtain⟨zs,n2,hfu2,-,hl2,hlen2,hf2⟩:=DataW.trod_struct Tryz.underlying24 h2;have g0:=hf2 0 _ rfl;have g1:=hf2 1 _ rfl;simp at hlen2
    match zs,hlen2 with
    | [z0,z1],_ =>
     simp [QHL] at g0 g1;obtain⟨vl,l,hle,hlf⟩:=QDW _ _ _ g0;obtain⟨vr,r,hre,hrf⟩:=QDW _ _ _ g1;simp at hle hre;subst hle hre
     rcases DataW.trod_slice Tryz.underlying30 h3 with ⟨e2,-⟩|⟨a,len,cap,elems,rest,m,hm,e2,-,-,hlc,hcm,hel,hall,-⟩
     ·simp at e2
      subst e2;(exact⟨_,_,_,_,_,_,_,.mk s f l r [],rfl,PRep.def.2 ⟨_,_,_,_,_,none,0,rfl,hs,hfr,hlf,hrf,Nat.le_refl _,by simp,fun h=>absurd rfl h⟩⟩)
     ·simp at e2
      subst e2;obtain⟨b,off,spot⟩:=a;by_cases hz:len=0
      ·subst hz
       (exact⟨_,_,_,_,_,_,_,.mk s f l r [],rfl,PRep.def.2 ⟨_,_,_,_,_,_,cap,rfl,hs,hfr,hlf,hrf,Nat.zero_le _,hcm,fun h=>absurd rfl h⟩⟩)
      ·have hsp:spot=none:=by
        (have hh:=hall 0 (by omega));(rw [QHM,List.getElem?_eq_getElem (by omega)] at hh);obtain⟨cs',hcs,htr⟩:=Option.bind_eq_some_iff.1 hh;obtain⟨-,hl3,hcell⟩:=World.cells?_some hcs;(obtain⟨d0,d1,d2,d3,d4,d5,d6,q,rfl,-⟩:=ih m (by omega) cs' _ htr);(have k0:=hcell 0 (by omega));simp [Addr.add] at k0;simpa using World.cell?_spot k0
       subst hsp
       obtain⟨ps,hpl,hps⟩:=QMq (W:=W) (b:=b) (off:=off) (len:=len) (fun i hi=>by
        have hh:=hall i hi;(rw [QHM,List.getElem?_eq_getElem (by omega),QAZ] at hh);obtain⟨cs',hcs,htr⟩:=Option.bind_eq_some_iff.1 hh;obtain⟨-,hl3,hcell⟩:=World.cells?_some hcs;(obtain⟨d0,d1,d2,d3,d4,d5,d6,q,rfl,hr⟩:=ih m (by omega) cs' _ htr);(have k0:=hcell 0 (by omega));(have k1:=hcell 1 (by omega));(have k2:=hcell 2 (by omega));(have k3:=hcell 3 (by omega));(have k4:=hcell 4 (by omega));(have k5:=hcell 5 (by omega));(have k6:=hcell 6 (by omega));rw [QAZ] at k0 k1 k2 k3 k4 k5 k6
        exact⟨d0,d1,d2,d3,d4,d5,d6,q,k0,k1,k2,k3,k4,k5,k6,hr⟩)
       subst hpl;(exact⟨_,_,_,_,_,_,_,.mk s f l r ps,rfl,PRep.def.2 ⟨_,_,_,_,_,_,cap,rfl,hs,hfr,hlf,hrf,hlc,hcm,fun _=>⟨b,off,rfl,hps⟩⟩⟩)
end
def QAR:Fm := .mk 0 ⟨#[]⟩ []
def Fm.kA:Fm→Fm
 | .mk _ _ ks=>ks.headD QAR
def Fm.kZ:Fm→Fm
 | .mk _ _ ks=>ks.getLastD QAR
def QAl (i:Bool) (q:Ru) (f:Fm) (l r:List Fm):List (List Fm × List Fm) :=
 match q with
 | .ax=>[]
 | .tr=>[]
 | .fa=>[]
 | .andL=>[(l.erase f++[f.kA,f.kZ],r)]
 | .andR=>[(l,r.erase f++[f.kA]),(l,r.erase f++[f.kZ])]
 | .orL=>[(l.erase f++[f.kA],r),(l.erase f++[f.kZ],r)]
 | .thenR=>[(l++[f.kA],r.erase f++[f.kZ])]
 | .notR=>[(l++[f.kA],r.erase f)]
 | .contrL=>[(l++[f],r)]
 | .orR=>[(l,r.erase f++[f.kA,f.kZ])]
 | .thenL=>[(l.erase f,if i then [f.kA] else r++[f.kA]),(l.erase f++[f.kZ],r)]
 | .notL=>[(l.erase f,if i then [f.kA] else r++[f.kA])]
 | .contrR=>[(l,r++[f])]
 | .cut=>[(l,if i then [f] else r++[f]),(l++[f],r)]
 | .orR1=>[(l,[f.kA])]
 | .orR2=>[(l,[f.kZ])]
def QBY (q:Ru) (f:Fm) (l r:List Fm):Bool :=
 match q with
 | .ax=>decide (f∈l) && decide (f∈r)
 | .tr=>decide (f.kind=2) && decide (f∈r)
 | .fa=>decide (f.kind=3) && decide (f∈l)
 | .andL=>decide (f.kind=5) && decide (f∈l)
 | .andR=>decide (f.kind=5) && decide (f∈r)
 | .orL=>decide (f.kind=6) && decide (f∈l)
 | .thenR=>decide (f.kind=7) && decide (f∈r)
 | .notR=>decide (f.kind=4) && decide (f∈r)
 | .contrL=>decide (f∈l)
 | .orR=>decide (f.kind=6) && decide (f∈r)
 | .thenL=>decide (f.kind=7) && decide (f∈l)
 | .notL=>decide (f.kind=4) && decide (f∈l)
 | .contrR=>decide (f∈r)
 | .cut=>true
 | .orR1=>decide (f.kind=6) && decide (f∈r)
 | .orR2=>decide (f.kind=6) && decide (f∈r)
theorem QNf (i:Bool) (q:Ru) (f:Fm) (hf:Fine f) (l r:List Fm):QCw i q f l r=if QBY q f l r then some (QAl i q f l r) else none:=by
 have ka:f.kind=4→f.kA=f.kidA:=fun h=>by
  obtain⟨a,e,ea,-⟩:=QHw hf h;rw [ea,e];rfl
 have kab:f.kind=5∨f.kind=6∨f.kind=7→f.kA=f.kidA∧f.kZ=f.kidB:=fun h=>by
  obtain⟨a,b,e,ea,eb,-,-⟩:=QHx hf h;rw [ea,eb,e];exact⟨rfl,rfl⟩
 have fin:∀ (p:Prop) [Decidable p] (x y:List (List Fm × List Fm)) (b:Bool),(b=true ↔ p)→(p→x=y)→(if p then some x else none)=if b=true then some y else none:=fun p _ x y b h1 h2=>by
  by_cases hp:p
  ·rw [if_pos hp,if_pos (h1.2 hp),h2 hp]
  ·rw [if_neg hp,if_neg (fun e=>hp (h1.1 e))]
 cases q <;> simp only [QCw,QBY,QAl]
 case cut=>simp
 all_goals refine fin _ _ _ _ (by simp) fun h => ?_
 all_goals first
  | rfl
  | (rw [(kab (by omega)).1,(kab (by omega)).2])
  | (rw [(kab (by omega)).1])
  | (rw [(kab (by omega)).2])
  | (rw [ka (by omega)])
theorem QKD (a b:List Fm):QBB a b=a.all fun x=>decide (a.count x≤b.count x):=by
 rw [Bool.eq_iff_iff,QCR,List.all_eq_true]
 constructor
 ·exact fun h x _=>decide_eq_true (h x)
 ·intro h f
  by_cases hf:f∈a
  ·exact of_decide_eq_true (h f hf)
  ·rw [List.count_eq_zero.2 hf];omega
theorem QGV (a b:List Fm):QEB a b=QEB b a:=by
 rw [Bool.eq_iff_iff,QDI,QDI];(exact⟨fun h=>h.symm,fun h=>h.symm⟩)
mutual
def Pf.nodesD:Pf→Nat→List (Pf × Nat)
 | .mk a f l r ks,d=>(.mk a f l r ks,d) :: Pf.nodesDL ks (d+1)
def Pf.nodesDL:List Pf→Nat→List (Pf × Nat)
 | [],_=>[]
 | k :: ks,d=>k.nodesD d++Pf.nodesDL ks d
end
mutual
def Pf.stepsL:Pf→Nat→Nat→List (Pf × Nat)
 | .mk a f l r ks,d,m=>(.mk a f l r ks,d) :: Pf.stepsLs ks d m 1
def Pf.stepsLs:List Pf→Nat→Nat→Nat→List (Pf × Nat)
 | [],_,_,_=>[]
 | k :: ks,d,m,n=>if n≤m∧d < 402 then k.stepsL (d+1) (m - n)++Pf.stepsLs ks d m (n+(k.stepsL (d+1) (m - n)).length) else []
end
def QCa (i:Bool):List (Pf × Nat)→Nat→Int × Int
 | [],_=>(0,0)
 | x :: xs,s=>if s=20000∨400 < x.2 then (2,0) else if QBa i x.1≠0 then (QBa i x.1,(s:Nat)) else QCa i xs (s+1)
def Agree (n:Nat) (L M:List (Pf × Nat)):Prop:=L=M∨∃ P X Y,L=P++X∧M=P++Y∧(n≤P.length∨∃ e∈P,400 < e.2)
theorem Agree.cons {n:Nat} {L M:List (Pf × Nat)} (x:Pf × Nat) (h:Agree n L M):Agree (n+1) (x :: L) (x :: M):=by
 rcases h with rfl|⟨P,X,Y,rfl,rfl,h⟩
 ·exact Or.inl rfl
 ·refine Or.inr ⟨x :: P,X,Y,rfl,rfl,h.imp (fun h=>by simp;omega) fun ⟨e,he,hd⟩=>⟨e,List.mem_cons_of_mem _ he,hd⟩⟩
theorem Agree.low {n n':Nat} {L M:List (Pf × Nat)} (h:Agree n L M) (hn:n'≤n):Agree n' L M:=by
 rcases h with rfl|⟨P,X,Y,rfl,rfl,h⟩
 ·exact Or.inl rfl
 ·exact Or.inr ⟨P,X,Y,rfl,rfl,h.imp (fun h=>by omega) id⟩
theorem Agree.append {n:Nat} {L M L' M':List (Pf × Nat)} (h:Agree n L M) (h':L=M→Agree (n - L.length) L' M'):Agree n (L++L') (M++M'):=by
 rcases h with rfl|⟨P,X,Y,rfl,rfl,h⟩
 ·rcases h' rfl with rfl|⟨P,X,Y,rfl,rfl,h⟩
  ·exact Or.inl rfl
  ·exact Or.inr ⟨L++P,X,Y,by simp,by simp,h.imp (fun h=>by simp;omega) fun ⟨e,he,hd⟩=>⟨e,List.mem_append_right _ he,hd⟩⟩
 ·exact Or.inr ⟨P,X++L',Y++M',by simp,by simp,h⟩
theorem QGo (i:Bool):∀ (P X Y:List (Pf × Nat)) (s:Nat),s≤20000→(20001≤s+P.length∨∃ e∈P,400 < e.2)→QCa i (P++X) s=QCa i (P++Y) s
 | [],X,Y,s,hs,h=>by
  rcases h with h|⟨e,he,-⟩
  ·simp at h;omega
  ·cases he
 | x :: P,X,Y,s,hs,h=>by
  rw [List.cons_append,List.cons_append,QCa,QCa];by_cases h1:s=20000∨400 < x.2
  ·rw [if_pos h1,if_pos h1]
  ·rw [if_neg h1,if_neg h1]
   (rw [QGo i P X Y (s+1) (by omega) ?_])
   rcases h with h|⟨e,he,hd⟩
   ·rw [List.length_cons] at h
    (exact Or.inl (by omega))
   ·rcases List.mem_cons.1 he with rfl|he
    ·omega
    ·exact Or.inr ⟨e,he,hd⟩
theorem QJk {i:Bool} {n s:Nat} {L M:List (Pf × Nat)} (h:Agree n L M) (hs:s≤20000) (hn:20001≤s+n):QCa i L s=QCa i M s:=by
 rcases h with rfl|⟨P,X,Y,rfl,rfl,h⟩
 ·rfl
 ·exact QGo i P X Y s hs (h.imp (fun h=>by omega) id)
mutual
theorem QDq:∀ (p:Pf) (d m:Nat),Agree (m+1) (p.stepsL d m) (p.nodesD d)
 | .mk a f l r ks,d,m=>by
  rw [Pf.stepsL,Pf.nodesD];by_cases hd:d < 402
  ·by_cases hm:1≤m
   ·exact ((stepss_agree ks d m 1 hd).cons _).low (by omega)
   ·refine Or.inr ⟨[(.mk a f l r ks,d)],_,_,rfl,rfl,Or.inl (by simp;omega)⟩
  ·exact Or.inr ⟨[(.mk a f l r ks,d)],_,_,rfl,rfl,Or.inr ⟨_,List.mem_cons_self,by show 400 < d;omega⟩⟩
theorem stepss_agree:∀ (ks:List Pf) (d m n:Nat),d < 402→Agree (m+1 - n) (Pf.stepsLs ks d m n) (Pf.nodesDL ks (d+1))
 | [],d,m,n,_=>by rw [Pf.stepsLs,Pf.nodesDL];exact Or.inl rfl
 | k :: ks,d,m,n,hd=>by
  rw [Pf.stepsLs,Pf.nodesDL];by_cases h:n≤m∧d < 402
  ·rw [if_pos h]
   have h1:=QDq k (d+1) (m - n);(refine (h1.low (by omega)).append fun _ => ?_);have h2:=stepss_agree ks d m (n+(k.stepsL (d+1) (m - n)).length) hd;(exact h2.low (by omega))
  ·rw [if_neg h]
   (exact Or.inr ⟨[],_,_,rfl,rfl,Or.inl (by simp;omega)⟩)
end
set_option maxRecDepth 10000 in
set_option maxHeartbeats 4000000 in
theorem QHP (fs gs:List Fm) (l:List (List UInt8)) (hl:fs.length≤300) (hr:gs.length≤300) (hfl:∀ f∈fs,Fine f) (hfr:∀ f∈gs,Fine f) (v v' u:Value) (w:World) (hv:FL w v fs) (hv':FL w v' gs) (hu:SL w u l) (r:Bool) (hrr:r=true ↔ ((∀ f∈fs,tv (fun t=>decide (t∈l)) f=true)∧(∀ f∈gs,tv (fun t=>decide (t∈l)) f=false))) :
  Calls Tryz.prog 17 #[.agg #[v,v'],u] w fun e w'=>e = .returned (.bool r)∧Below w.heap.size w w':=by
 obtain⟨aL,cL,rfl,hx1,hx2,hx3⟩:=hv;obtain⟨aR,cR,rfl,hy1,hy2,hy3⟩:=hv';(have HX:Hid (fs≠[]→∃ b off,aL=some ⟨b,off,none⟩∧Reps w (fun _=>True) b off fs):=hx3);(have HY:Hid (gs≠[]→∃ b off,aR=some ⟨b,off,none⟩∧Reps w (fun _=>True) b off gs):=hy3);have HU:Hid (SL w u l):=hu;(have HRr:Hid (r=true ↔ ((∀ f∈fs,tv (fun t=>decide (t∈l)) f=true)∧(∀ f∈gs,tv (fun t=>decide (t∈l)) f=false))):=hrr);clear hrr;have HFl:Hid (∀ f∈fs,Fine f):=hfl;have HFr:Hid (∀ f∈gs,Fine f):=hfr;(have hlI:(fs.length:Int)≤300:=by omega);(have hrI:(gs.length:Int)≤300:=by omega);have HQ0:Hid ((w.alloc (.cells #[.slice aL fs.length cL,.slice aR gs.length cR] 24 (0,0))).heap[w.heap.size]? = some (.cells #[.slice aL fs.length cL,.slice aR gs.length cR] 24 (0,0))):=QAH _ _;have HB0:Hid (Below w.heap.size w (w.alloc (.cells #[.slice aL fs.length cL,.slice aR gs.length cR] 24 (0,0)))):=QAB (Below.refl _ w) _;clear hx3 hy3 hfl hfr hu
 go_enter Tryz.func17,Tryz.ntmps17
 go_wp2_with fail
 go_loopg [5] fs.length (fun g c wr=>∃ i,i≤fs.length∧g=fs.length - i∧c = .int .i64 (i:Nat)∧Hid (Below w.heap.size w wr)∧Hid (wr.heap[w.heap.size]? = some (.cells #[.slice aL fs.length cL,.slice aR gs.length cR] 24 (0,0)))∧Hid (∀ j f,j < i→fs[j]? = some f→tv (fun t=>decide (t∈l)) f=true))
 case atStart=>exact⟨0,by omega,by omega,rfl,HB0,HQ0,fun j f hj=>absurd hj (Nat.not_lt_zero _)⟩
 case round =>
  obtain⟨i,hile,hg,rfl,HB,HQ,HA⟩:=hrel;have HG:Hid (gk=fs.length - i):=hg;clear hg;obtain⟨q0,q1,-⟩:=QAV HQ.out;by_cases hlt:i < fs.length
  ·obtain⟨⟨k2,n2,ks2⟩,hki⟩:∃ f,fs[i]? = some f:=⟨_,List.getElem?_eq_getElem hlt⟩
   (have hltI:(i:Int) < (fs.length:Int):=by omega);(obtain⟨b,off,hsl,hrs⟩:=HX.out (fun e=>by rw [e] at hlt;simp at hlt));subst hsl;obtain⟨sl2,cap2,g0,g1,g2,hrep2⟩:=(hrs.up HB.out).at i k2 n2 ks2 hki;(have hlc:((i:Nat):Int) < ((cL:Nat):Int):=by omega);(have HTr:Hid (Calls Tryz.prog 57 #[.agg #[.int .i64 k2,.string n2,.slice sl2 ks2.length cap2],u] wr fun e w'=>e = .returned (.bool (tv (fun t=>decide (t∈l)) (.mk k2 n2 ks2)))∧Below wr.heap.size wr w'):=QGw l _ _ _ wr (HFl.out _ (List.mem_of_getElem? hki)) hrep2 (HU.out.up HB.out));have HKi:Hid (fs[i]? = some (.mk k2 n2 ks2)):=hki;clear hki hrs hrep2;go_wp2_with fail;refine HTr.out.mono ?_;rintro e w1 ⟨rfl,hb1⟩;have HB1:Hid (Below wr.heap.size wr w1):=hb1;clear hb1
   cases hv:tv (fun t=>decide (t∈l)) (.mk k2 n2 ks2)
   ·go_wp2_with fail
    go_ret
    have e0:r=false:=by
     cases e:r with
     | false=>rfl
     | true =>
      have:=(HRr.out.1 e).1 _ (List.mem_of_getElem? HKi.out);rw [hv] at this
      cases this
    (exact⟨by rw [e0];rfl,QAC HB.out HB1.out⟩)
   ·have HQ1:Hid (w1.heap[w.heap.size]? = some (.cells #[_,_] 24 (0,0))):=QAA HB1.out HQ.out
    have HBw:Hid (Below w.heap.size w w1):=QAC HB.out HB1.out
    have HA1:Hid (∀ j f,j < i+1→fs[j]? = some f→tv (fun t=>decide (t∈l)) f=true):=fun j f hj hf=>by
     rcases Nat.lt_or_ge j i with h|h
     ·exact HA.out j f h hf
     ·have e:j=i:=by omega
      rw [e,HKi.out] at hf
      cases hf
      exact hv
    clear hv q0 q1 g0 g1 g2;go_wp2_with fail
    go_roundg (fs.length - (i+1))
    case measure=>have:=HG.out;omega
    case rel=>exact⟨i+1,by omega,rfl,by go_num,HBw,HQ1,HA1⟩
  ·have hge:¬ (i:Int) < (fs.length:Int):=by omega
   have HAl:Hid (∀ f∈fs,tv (fun t=>decide (t∈l)) f=true):=fun f hf=>by
    obtain⟨j,hj⟩:=List.getElem?_of_mem hf;(exact HA.out j f (by have:=(List.getElem?_eq_some_iff.1 hj).1;omega) hj)
   have HBz:Hid (Below w.heap.size w wr):=HB.out;have HQz:Hid (wr.heap[w.heap.size]? = some (.cells #[.slice aL fs.length cL,.slice aR gs.length cR] 24 (0,0))):=HQ.out;clear HA HB HQ;go_wp2_with fail;clear q0 q1
   go_loopg [6] gs.length (fun g c wr=>∃ i,i≤gs.length∧g=gs.length - i∧c = .int .i64 (i:Nat)∧Hid (Below w.heap.size w wr)∧Hid (wr.heap[w.heap.size]? = some (.cells #[.slice aL fs.length cL,.slice aR gs.length cR] 24 (0,0)))∧Hid (∀ j f,j < i→gs[j]? = some f→tv (fun t=>decide (t∈l)) f=false))
   case atStart=>exact⟨0,by omega,by omega,rfl,HBz,HQz,fun j f hj=>absurd hj (Nat.not_lt_zero _)⟩
   case round =>
    obtain⟨i,hile,hg,rfl,HB,HQ,HA⟩:=hrel;have HG:Hid (gk=gs.length - i):=hg;clear hg;obtain⟨q0,q1,-⟩:=QAV HQ.out;by_cases hlt:i < gs.length
    ·obtain⟨⟨k2,n2,ks2⟩,hki⟩:∃ f,gs[i]? = some f:=⟨_,List.getElem?_eq_getElem hlt⟩
     (have hltI:(i:Int) < (gs.length:Int):=by omega);(obtain⟨b,off,hsl,hrs⟩:=HY.out (fun e=>by rw [e] at hlt;simp at hlt));subst hsl;obtain⟨sl2,cap2,g0,g1,g2,hrep2⟩:=(hrs.up HB.out).at i k2 n2 ks2 hki;(have hlc:((i:Nat):Int) < ((cR:Nat):Int):=by omega);(have HTr:Hid (Calls Tryz.prog 57 #[.agg #[.int .i64 k2,.string n2,.slice sl2 ks2.length cap2],u] wr fun e w'=>e = .returned (.bool (tv (fun t=>decide (t∈l)) (.mk k2 n2 ks2)))∧Below wr.heap.size wr w'):=QGw l _ _ _ wr (HFr.out _ (List.mem_of_getElem? hki)) hrep2 (HU.out.up HB.out));have HKi:Hid (gs[i]? = some (.mk k2 n2 ks2)):=hki;clear hki hrs hrep2;go_wp2_with fail;refine HTr.out.mono ?_;rintro e w1 ⟨rfl,hb1⟩;have HB1:Hid (Below wr.heap.size wr w1):=hb1;clear hb1
     cases hv:tv (fun t=>decide (t∈l)) (.mk k2 n2 ks2)
     ·have HQ1:Hid (w1.heap[w.heap.size]? = some (.cells #[_,_] 24 (0,0))):=QAA HB1.out HQ.out
      have HBw:Hid (Below w.heap.size w w1):=QAC HB.out HB1.out
      have HA1:Hid (∀ j f,j < i+1→gs[j]? = some f→tv (fun t=>decide (t∈l)) f=false):=fun j f hj hf=>by
       rcases Nat.lt_or_ge j i with h|h
       ·exact HA.out j f h hf
       ·have e:j=i:=by omega
        rw [e,HKi.out] at hf
        cases hf
        exact hv
      clear hv q0 q1 g0 g1 g2;go_wp2_with fail
      go_roundg (gs.length - (i+1))
      case measure=>have:=HG.out;omega
      case rel=>exact⟨i+1,by omega,rfl,by go_num,HBw,HQ1,HA1⟩
     ·go_wp2_with fail
      go_ret
      have e0:r=false:=by
       cases e:r with
       | false=>rfl
       | true =>
        have:=(HRr.out.1 e).2 _ (List.mem_of_getElem? HKi.out);rw [hv] at this
        cases this
      (exact⟨by rw [e0];rfl,QAC HB.out HB1.out⟩)
    ·have hge:¬ (i:Int) < (gs.length:Int):=by omega
     have HAr:Hid (∀ f∈gs,tv (fun t=>decide (t∈l)) f=false):=fun f hf=>by
      obtain⟨j,hj⟩:=List.getElem?_of_mem hf;(exact HA.out j f (by have:=(List.getElem?_eq_some_iff.1 hj).1;omega) hj)
     go_wp2_with fail;go_ret;(exact⟨by rw [HRr.out.2 ⟨HAl.out,HAr.out⟩];rfl,HB.out⟩)
def QBz (fs:List Fm):Nat:=(fs.map fun f=>(QBH f 300).length).sum
theorem QEj (a b:List Fm):QBz (a++b)=QBz a+QBz b:=by unfold QBz;rw [List.map_append,List.sum_append]
theorem QHC (fs:List Fm) (i:Nat):QBz (fs.take i)≤QBz fs:=by
 (have:QBz (fs.take i++fs.drop i)=QBz fs:=by rw [List.take_append_drop]);rw [QEj] at this;omega
theorem QIJ {A B:Nat} {w:World} {u:Value} {fs:List Fm} (h:LO A B w u fs):∃ ad cp,u = .slice ad fs.length cp:=by
 obtain⟨g,cap,cs,rfl,-⟩:=h;exact⟨_,_,rfl⟩
set_option maxRecDepth 10000 in
set_option maxHeartbeats 4000000 in
theorem QIN (fs gs:List Fm) (hl:fs.length≤300) (hr:gs.length≤300) (hbd:QBz fs≤400000∧QBz gs≤400000) (v v':Value) (w:World) (hv:FL w v fs) (hv':FL w v' gs) :
  Calls Tryz.prog 15 #[.agg #[v,v']] w fun e w'=>e = .returned (.int .i64 ((QBz fs+QBz gs:Nat):Int))∧Below w.heap.size w w':=by
 obtain⟨aL,cL,rfl,hx1,hx2,hx3⟩:=hv;obtain⟨aR,cR,rfl,hy1,hy2,hy3⟩:=hv';(have HX:Hid (fs≠[]→∃ b off,aL=some ⟨b,off,none⟩∧Reps w (fun _=>True) b off fs):=hx3);(have HY:Hid (gs≠[]→∃ b off,aR=some ⟨b,off,none⟩∧Reps w (fun _=>True) b off gs):=hy3);(have HBd:Hid (∀ _:List Fm,QBz fs≤400000∧QBz gs≤400000):=fun _=>hbd);(have hlI:(fs.length:Int)≤300:=by omega);(have hrI:(gs.length:Int)≤300:=by omega);have HQ0:Hid ((w.alloc (.cells #[.slice aL fs.length cL,.slice aR gs.length cR] 24 (0,0))).heap[w.heap.size]? = some (.cells #[.slice aL fs.length cL,.slice aR gs.length cR] 24 (0,0))):=QAH _ _;have HB0:Hid (Below w.heap.size w (w.alloc (.cells #[.slice aL fs.length cL,.slice aR gs.length cR] 24 (0,0)))):=QAB (Below.refl _ w) _;clear hx3 hy3 hbd
 go_enter Tryz.func15,Tryz.ntmps15
 go_wp2_with fail
 go_loopg [4,3] fs.length (fun g c o wr=>∃ i n,i≤fs.length∧g=fs.length - i∧c = .int .i64 (i:Nat)∧o = .int .i64 (n:Nat)∧Hid (Below w.heap.size w wr)∧Hid (wr.heap[w.heap.size]? = some (.cells #[.slice aL fs.length cL,.slice aR gs.length cR] 24 (0,0)))∧Hid (n=0+QBz (fs.take i)))
 case atStart=>exact⟨0,0,by omega,by omega,rfl,rfl,HB0,HQ0,(by show _=_;simp [QBz])⟩
 case round =>
  obtain⟨i,n,hile,hg,rfl,rfl,HB,HQ,HA⟩:=hrel;have HG:Hid (gk=fs.length - i):=hg;clear hg;obtain⟨q0,q1,-⟩:=QAV HQ.out;by_cases hlt:i < fs.length
  ·obtain⟨⟨k2,n2,ks2⟩,hki⟩:∃ f,fs[i]? = some f:=⟨_,List.getElem?_eq_getElem hlt⟩
   (have hltI:(i:Int) < (fs.length:Int):=by omega);(obtain⟨b,off,hsl,hrs⟩:=HX.out (fun e=>by rw [e] at hlt;simp at hlt));subst hsl;obtain⟨sl2,cap2,g0,g1,g2,hrep2⟩:=(hrs.up HB.out).at i k2 n2 ks2 hki;(have hlc:((i:Nat):Int) < ((cL:Nat):Int):=by omega);obtain⟨m,hm⟩:∃ m,m=(QBH (.mk k2 n2 ks2) 300).length:=⟨_,rfl⟩
   have HTr:Hid (Calls Tryz.prog 55 #[.agg #[.int .i64 k2,.string n2,.slice sl2 ks2.length cap2],.int .i64 (300:Nat)] wr fun e w'=>∃ ad cp,e = .returned (.slice ad m cp)∧Below wr.heap.size wr w'):=by
    (refine (QEi _ _ 300 wr (by omega) hrep2).mono ?_);rintro e w' ⟨u,rfl,hlo,hb⟩;obtain⟨ad,cp,hu⟩:=QIJ hlo;(exact⟨ad,cp,by rw [hu,hm],hb⟩)
   have HA1:Hid (n+m=0+QBz (fs.take (i+1))):=by
    have h1:=HA.out;show _=_;rw [List.take_add_one,hki,QEj,h1,hm];simp only [Option.toList,QBz,List.map_cons,List.map_nil,List.sum_cons,List.sum_nil];omega
   have hmI:(n:Int)+(m:Int)≤1000000:=by
    have h1:=HBd.out (fs.take (i+1));have h2:=HA1.out;have h3:=QHC fs (i+1);omega
   (have hwr:IntKind.i64.wrap ((n:Int)+(m:Int))=(n:Int)+(m:Int):=by rw [IntKind.wrap_i64];omega);clear hki hrs hrep2 hm;go_wp2_with fail;refine HTr.out.mono ?_;rintro e w1 ⟨ad5,cp5,rfl,hb1⟩;have HBw:Hid (Below w.heap.size w w1):=QAC HB.out hb1;have HQ1:Hid (w1.heap[w.heap.size]? = some (.cells #[_,_] 24 (0,0))):=QAA hb1 HQ.out;clear hb1 q0 q1 g0 g1 g2;go_wp2_with fail
   go_roundg (fs.length - (i+1))
   case measure=>have:=HG.out;omega
   case rel=>exact⟨i+1,n+m,by omega,rfl,by go_num,by go_num,HBw,HQ1,HA1⟩
  ·have hge:¬ (i:Int) < (fs.length:Int):=by omega
   have HAl:Hid (n=QBz fs):=by
    have:=HA.out;(rw [List.take_of_length_le (by omega)] at this);show _=_;omega
   have HBz:Hid (Below w.heap.size w wr):=HB.out;have HQz:Hid (wr.heap[w.heap.size]? = some (.cells #[.slice aL fs.length cL,.slice aR gs.length cR] 24 (0,0))):=HQ.out;clear HA HB HQ;go_wp2_with fail;clear q0 q1
   go_loopg [5,3] gs.length (fun g c o wr=>∃ i n,i≤gs.length∧g=gs.length - i∧c = .int .i64 (i:Nat)∧o = .int .i64 (n:Nat)∧Hid (Below w.heap.size w wr)∧Hid (wr.heap[w.heap.size]? = some (.cells #[.slice aL fs.length cL,.slice aR gs.length cR] 24 (0,0)))∧Hid (n=QBz fs+QBz (gs.take i)))
   case atStart=>exact⟨0,n,by omega,by omega,rfl,rfl,HBz,HQz,(by have:=HAl.out;show _=_;rw [this];simp [QBz])⟩
   case round =>
    obtain⟨i,n,hile,hg,rfl,rfl,HB,HQ,HA⟩:=hrel;have HG:Hid (gk=gs.length - i):=hg;clear hg;obtain⟨q0,q1,-⟩:=QAV HQ.out;by_cases hlt:i < gs.length
    ·obtain⟨⟨k2,n2,ks2⟩,hki⟩:∃ f,gs[i]? = some f:=⟨_,List.getElem?_eq_getElem hlt⟩
     (have hltI:(i:Int) < (gs.length:Int):=by omega);(obtain⟨b,off,hsl,hrs⟩:=HY.out (fun e=>by rw [e] at hlt;simp at hlt));subst hsl;obtain⟨sl2,cap2,g0,g1,g2,hrep2⟩:=(hrs.up HB.out).at i k2 n2 ks2 hki;(have hlc:((i:Nat):Int) < ((cR:Nat):Int):=by omega);obtain⟨m,hm⟩:∃ m,m=(QBH (.mk k2 n2 ks2) 300).length:=⟨_,rfl⟩
     have HTr:Hid (Calls Tryz.prog 55 #[.agg #[.int .i64 k2,.string n2,.slice sl2 ks2.length cap2],.int .i64 (300:Nat)] wr fun e w'=>∃ ad cp,e = .returned (.slice ad m cp)∧Below wr.heap.size wr w'):=by
      (refine (QEi _ _ 300 wr (by omega) hrep2).mono ?_);rintro e w' ⟨u,rfl,hlo,hb⟩;obtain⟨ad,cp,hu⟩:=QIJ hlo;(exact⟨ad,cp,by rw [hu,hm],hb⟩)
     have HA1:Hid (n+m=QBz fs+QBz (gs.take (i+1))):=by
      have h1:=HA.out;show _=_;rw [List.take_add_one,hki,QEj,h1,hm];simp only [Option.toList,QBz,List.map_cons,List.map_nil,List.sum_cons,List.sum_nil];omega
     have hmI:(n:Int)+(m:Int)≤1000000:=by
      have h1:=HBd.out (gs.take (i+1));have h2:=HA1.out;have h4:=HBd.out fs;have h3:=QHC gs (i+1);omega
     (have hwr:IntKind.i64.wrap ((n:Int)+(m:Int))=(n:Int)+(m:Int):=by rw [IntKind.wrap_i64];omega);clear hki hrs hrep2 hm;go_wp2_with fail;refine HTr.out.mono ?_;rintro e w1 ⟨ad5,cp5,rfl,hb1⟩;have HBw:Hid (Below w.heap.size w w1):=QAC HB.out hb1;have HQ1:Hid (w1.heap[w.heap.size]? = some (.cells #[_,_] 24 (0,0))):=QAA hb1 HQ.out;clear hb1 q0 q1 g0 g1 g2;go_wp2_with fail
     go_roundg (gs.length - (i+1))
     case measure=>have:=HG.out;omega
     case rel=>exact⟨i+1,n+m,by omega,rfl,by go_num,by go_num,HBw,HQ1,HA1⟩
    ·have hge:¬ (i:Int) < (gs.length:Int):=by omega
     have hA:=HA.out;(rw [List.take_of_length_le (by omega)] at hA);clear HA;have HA:Hid (n=QBz fs+QBz gs):=hA;clear hA;go_wp2_with fail;go_ret;(exact⟨by rw [← Int.natCast_add,← HA.out];rfl,HB.out⟩)
section
variable {H:Type} {enc:TypeId × Value→H} {W:World} {spare:Nat→Bool} {held:Bool}
set_option maxRecDepth 100000 in
theorem QJn (fuel:Nat) (cs:List Value) (x:DataW H × List MemPlace) (h:DataW.trod enc Tryz.prog W 0 spare held fuel 24 cs=some x):∃ v u l r,cs=[v,u]∧FL W v l∧FL W u r:=by
 obtain⟨xs,n,hfu,-,hl,hlen,hf⟩:=DataW.trod_struct Tryz.underlying24 h;rw [QKI] at hl
 match cs,hl with
 | [c0,c1],_ =>
  have h0:=hf 0 _ rfl;have h1:=hf 1 _ rfl;simp at hlen
  match xs,hlen with
  | [y0,y1],_ =>
   simp [QHL] at h0 h1;obtain⟨vl,l,hle,hlf⟩:=QDW _ _ _ h0;obtain⟨vr,r,hre,hrf⟩:=QDW _ _ _ h1;simp at hle hre;subst hle hre;exact⟨_,_,l,r,rfl,hlf,hrf⟩
end
end Go.Proofs.YtbmedfokpgghiacGreat
