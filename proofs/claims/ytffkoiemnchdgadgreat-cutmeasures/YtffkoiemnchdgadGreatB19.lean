import Derived.Test.YtffkoiemnchdgadGreatB16
import Derived.Deep.Upon
namespace Go.Proofs.YtffkoiemnchdgadGreat
open Go.RowKit
theorem AppL.nil {A B:Nat} {w:World}:AppL A B [] none 0 w:=⟨[],⟨rfl,Or.inl ⟨rfl,rfl⟩⟩,trivial⟩
theorem AppL.cap {A B:Nat} {fs:List Fm} {ad:Option Addr} {cp:Nat} {w:World} (h:AppL A B fs ad cp w):fs.length≤cp:=by
 rcases h.shape with ⟨-,rfl,rfl⟩|⟨g,-,h⟩
 ·exact Nat.le_refl _
 ·exact h
theorem AppL.up {A B:Nat} {fs:List Fm} {ad:Option Addr} {cp:Nat} {w w':World} (h:AppL A B fs ad cp w) (hb:Below w.heap.size w w'):AppL A B fs ad cp w':=by
 obtain⟨cs,⟨h1,h2⟩,h3⟩:=h;(refine⟨cs,⟨h1,?_⟩,h3.move fun b hb1 hp=>⟨hb.block b hb1,hp⟩⟩)
 rcases h2 with h2|⟨g,cap,cur,hv,hg,hh,r⟩
 ·exact Or.inl h2
 ·exact Or.inr ⟨g,cap,cur,hv,hg,(hb.block g (QAE hh)).trans hh,r⟩
theorem QHp {o:Oper} {a:Act} {w:World} {K:Act→World→Prop} {Q:Exit→Act→World→Prop} (s x:Operand) (hop:o.op=Op.call { callee:=Callee.builtin Builtin.append,args:=#[s,x],argTypes:=#[22,22] })
  (A B:Nat) (fs gs:List Fm) (ad:Option Addr) (cp:Nat) (vx:Value) (hs:a.eval s = .slice ad fs.length cp) (hA:AppL A B fs ad cp w) (hx:a.eval x=vx) (hg:FLp (· < A) w vx gs) (hAB:A≤B) (hB:B≤w.heap.size) (hl:fs.length+gs.length≤2000)
  (h:∀ ad3 cp3 w3,AppL A B (fs++gs) ad3 cp3 w3→Below B w w3→(∀ b,(Value.slice ad fs.length cp).ownBlock≠some b→b < w.heap.size→w3.heap[b]? = w.heap[b]?)→K (a.put o.dst (.slice ad3 (fs++gs).length cp3)) w3):Oper.wp Tryz.prog o a w K Q:=by
 obtain⟨i0,hi,hz0,hz1,hz2⟩:=QBV;by_cases hne:gs=[]
 ·subst hne
  obtain⟨x0,c,rfl,-⟩:=hg
  have hsrc:Src Tryz.prog i0.size 22 (.slice x0 0 c) 0 [] w:=by
   cases x0 with
   | none=>exact Src.ofNil w Tryz.underlying22 c
   | some ad=>exact Src.ofSlice w Tryz.underlying22 ad 0 c [] (by simp) (fun j u h=>by simp at h) (fun u h=>by cases h)
  have hrun:=run_append_nothing (P:=Tryz.prog) w 22 22 o.type 24 i0 Tryz.underlying22 hi ad fs.length cp hA.cap (.slice x0 0 c) hsrc;have hx':a.eval x = .slice x0 0 c:=hx;(have h9:=h ad cp w (by rw [List.append_nil];exact hA) (Below.refl _ _) (fun _ _ _=>rfl));rw [List.append_nil] at h9;unfold Oper.wp;simp [execOp,hop,resolve,invoke,builtin,hs,hx',hrun,Result.andThen];exact h9
 ·have hg':=hg
  obtain⟨x0,c,rfl,-⟩:=hg';obtain⟨bs,offs,ds,rfl,hds,hcs⟩:=hg.cells hne;have hpos:0 < gs.length:=List.length_pos_iff.2 hne;obtain⟨cs,hown,hlq⟩:=hA
  refine wp_append_lies w s x 22 hop B 24 i0 (.agg #[.int .i64 0,.string ⟨#[]⟩,.slice none 0 0]) 3 48 Tryz.underlying22 hi hz0 hz1 hz2 rfl (by decide) _ _ _ hs hown ⟨bs,offs,none⟩ gs.length c ds hx hds.len (fun j u hu=>by
   rw [QAn]
   exact hcs j u hu) hds.one hpos (by unfold maxLen;omega) (by omega) hB _ rfl ?_
  intro g3 cp3 w3 hown3 hgrow hat hlt3;(have hk:∀ j,j < B→w3.heap[j]? = w.heap[j]? := fun j hj=>hgrow.block j (by omega) (fun e=>by have:=(hown.lt j e.symm).1;omega));have e:fs.length+gs.length=(fs++gs).length:=List.length_append.symm;rw [e] at hown3 ⊢;(exact h _ _ w3 ⟨cs++ds,hown3,(hlq.append hds).move fun b _ hb=>⟨hk b (by have:b < A:=hb;omega),hb⟩⟩ ⟨hgrow.os,hgrow.tape,hgrow.output,hgrow.size,hk⟩ (fun b hb hlt=>hgrow.block b hlt fun e=>hb e.symm))
theorem QFF {ops:Array Oper} {o:Oper} {a:Act} {w:World} {K:Act→World→Prop} {Q:Exit→Act→World→Prop} {E:Prop} (hgd:o.guard=none) (s x:Operand) (hop:o.op=Op.call { callee:=Callee.builtin Builtin.append,args:=#[s,x],argTypes:=#[22,22] })
  (A B:Nat) (fs gs:List Fm) (ad:Option Addr) (cp:Nat) (vx:Value) (hs:a.eval s = .slice ad fs.length cp) (hA:AppL A B fs ad cp w) (hx:a.eval x=vx) (hg:FLp (· < A) w vx gs) (hAB:A≤B) (hB:B≤w.heap.size) (hl:fs.length+gs.length≤2000)
  (h:∀ ad3 cp3 w3,AppL A B (fs++gs) ad3 cp3 w3→Below B w w3→(∀ b,(Value.slice ad fs.length cp).ownBlock≠some b→b < w.heap.size→w3.heap[b]? = w.heap[b]?)→K (a.put o.dst (.slice ad3 (fs++gs).length cp3)) w3):if Region.wanted o (yielded ops a.tmps)=true then Oper.wp Tryz.prog o a w K Q else E:=by
 (have hw:Region.wanted o (yielded ops a.tmps)=true:=by simp [Region.wanted,hgd]);rw [if_pos hw];exact QHp s x hop A B fs gs ad cp vx hs hA hx hg hAB hB hl h
theorem QCj {ops:Array Oper} {rest:List Oper} {o:Oper} {a:Act} {w:World} {Q:Exit→Act→World→Prop} (hgd:o.guard=none) (s x:Operand) (hop:o.op=Op.call { callee:=Callee.builtin Builtin.append,args:=#[s,x],argTypes:=#[22,22] })
  (A B:Nat) (fs gs:List Fm) (ad:Option Addr) (cp:Nat) (vx:Value) (hs:a.eval s = .slice ad fs.length cp) (hA:AppL A B fs ad cp w) (hx:a.eval x=vx) (hg:FLp (· < A) w vx gs) (hAB:A≤B) (hB:B≤w.heap.size) (hl:fs.length+gs.length≤2000)
  (h:∀ ad3 cp3 w3,AppL A B (fs++gs) ad3 cp3 w3→Below B w w3→(∀ b,(Value.slice ad fs.length cp).ownBlock≠some b→b < w.heap.size→w3.heap[b]? = w.heap[b]?)→wpList Tryz.prog ops Q rest (a.put o.dst (.slice ad3 (fs++gs).length cp3)) w3):wpList Tryz.prog ops Q (o :: rest) a w :=
 wpList_plain hgd fun _ hK=>QHp s x hop A B fs gs ad cp vx hs hA hx hg hAB hB hl fun ad3 cp3 w3 h1 h2 h3=>hK _ _ (h ad3 cp3 w3 h1 h2 h3)
end Go.Proofs.YtffkoiemnchdgadGreat
