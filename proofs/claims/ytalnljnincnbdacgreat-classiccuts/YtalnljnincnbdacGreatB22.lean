/- Texts of one proof, one behind the other: KP1. -/
import Derived.RangeFuncNested
import Derived.RangeFuncBound
import Derived.RangeFuncCalls
import Derived.RangeFuncLeaves
import Derived.Shelf.Abstract
import Derived.Shelf.RegionOpen
import Derived.WalkKit
import Derived.OwnWalkIn
import Derived.TacticsInMore
import Derived.LoopNIn
import Derived.LoopIn
import Derived.Test.YtalnljnincnbdacGreatB21
/- Walks: a row of items gone through from its end (slices.Backward). -/
namespace Go.Proofs.YtalnljnincnbdacGreat
open Go.RowKit Go.Shelf
attribute [local go_sem] Oper.semAt_some

/-- What has come when k rounds are over. -/
def backUp (br : List Nat) (k : Nat) : List (Nat × Nat) := (List.range k).map fun j => (br.length - 1 - j, br.getD (br.length - 1 - j) 0)
theorem backUp_succ (br : List Nat) (k : Nat) : backUp br (k + 1) = backUp br k ++ [(br.length - 1 - k, br.getD (br.length - 1 - k) 0)] := by simp [backUp, List.range_succ]
theorem backUp_len (br : List Nat) (k : Nat) : (backUp br k).length = k := by simp [backUp]
theorem backUp_all {br : List Nat} {i : Nat} (hi : i ∈ br) : ∃ y ∈ backUp br br.length, y.2 = i := by
  obtain ⟨n, hn⟩ := List.getElem?_of_mem hi; have hlt := (List.getElem?_eq_some_iff.1 hn).1; (refine ⟨_, List.mem_map.2 ⟨br.length - 1 - n, List.mem_range.2 (by omega), rfl⟩, ?_⟩); simp only; (rw [show br.length - 1 - (br.length - 1 - n) = n by omega, List.getD_eq_getElem?_getD, hn]); rfl
set_option maxHeartbeats 1000000 in
theorem backward_in (a : Option Addr) (len cap : Nat) (w : World) : Calls Tryz.prog 138 #[.slice a len cap] w fun e w' => e = .returned (.func (.func 171) #[] #[.pointer (some ⟨w.heap.size, 0, none⟩)]) ∧ w' = w.alloc (.cells #[.slice a len cap] 78 (0, 0)) := by
  go_enter Tryz.func138, Tryz.ntmps138
  go_wp2_with fail; go_ret; exact ⟨rfl, rfl⟩
def backKp (Bs : Nat) (ad : Option Addr) (W W' : World) : Prop := W'.heap[Bs]? = W.heap[Bs]? ∧ ∀ a, ad = some a → W'.heap[a.block]? = W.heap[a.block]?
set_option maxRecDepth 100000 in
set_option maxHeartbeats 4000000 in
theorem back1_in (n : Nat) (hn : 1 ≤ n) (l Bs : Nat) (ad : Option Addr) (cap : Nat) (br : List Nat) (hbr : br.length ≤ 400000) (J Jx : List {y : Nat × Nat // y.2 ∈ br} → World → Prop)
    (hY : ∀ pre x W, J pre W → pre.length < br.length → YieldAt Fence.wide (n - 1) Tryz.prog l #[.int .i64 (x.1.1 : Nat), .int .i64 (x.1.2 : Nat)] W fun e W' =>
      (e = .returned (.bool true) ∧ J (pre ++ [x]) W' ∧ backKp Bs ad W W') ∨ (e = .returned (.bool false) ∧ Jx (pre ++ [x]) W'))
    (W : World) (hBs : W.cell? ⟨Bs, 0, none⟩ = some (.slice ad br.length cap)) (hc : IRow (fun _ => True) W (.slice ad br.length cap) br) (h0 : J [] W) :
    CallsIn Fence.wide n Tryz.prog 171 #[.func (.yield l) #[] #[], .pointer (some ⟨Bs, 0, none⟩)] W fun e W' => (∃ v, e = .returned v) ∧
      ((∃ ys : List {y : Nat × Nat // y.2 ∈ br}, ys.map Subtype.val = backUp br br.length ∧ J ys W') ∨ (∃ pre : List {y : Nat × Nat // y.2 ∈ br}, (∃ k, k ≤ br.length ∧ pre.map Subtype.val = backUp br k) ∧ Jx pre W')) := by
  (have hbI : (br.length : Int) ≤ 400000 := by omega); (have HC : Hid (IRow (fun _ => True) W (.slice ad br.length cap) br) := hc)
  have hcap : (br.length : Int) ≤ (cap : Int) := by
    obtain ⟨_, _, e, h1, -⟩ := hc; simp only [Value.slice.injEq, true_and] at e; omega
  clear hc; refine callsIn_of_wp Tryz.func171 rfl trivial ?_ rfl; simp only [Tryz.ntmps171, List.size_toArray, List.length_cons, List.length_nil, Nat.reduceAdd, Nat.reduceSub, Array.replicate_succ, Array.replicate_zero, List.push_toArray, List.append_toArray, List.nil_append, List.cons_append]
  gi_wp2
  gi_loopw [3] (fun i wr => ∃ (k : Nat) (pre : List {y : Nat × Nat // y.2 ∈ br}), k ≤ br.length ∧ i = .int .i64 ((br.length : Int) - 1 - (k : Int)) ∧ Hid (pre.map Subtype.val = backUp br k) ∧ J pre wr ∧ Hid (backKp Bs ad W wr))
    (fun i _ => (intOf i + 1).toNat)
  case atStart => exact ⟨0, [], Nat.zero_le _, by simp, by show _ = _; rfl, h0, ⟨rfl, fun _ _ => rfl⟩⟩
  case round =>
    obtain ⟨k, pre, hk, rfl, HPre, hJs, HKp⟩ := hrel; have hbs : wr.cell? ⟨Bs, 0, none⟩ = some (.slice ad br.length cap) := (cell_of_block (a := ⟨Bs, 0, none⟩) HKp.out.1).trans hBs; by_cases hlt : k < br.length
    · obtain ⟨m, hm⟩ : ∃ m : Nat, m = br.length - 1 - k := ⟨_, rfl⟩
      (have hmI : (br.length : Int) - 1 - (k : Int) = (m : Int) := by omega); (obtain ⟨t, ht⟩ : ∃ t, br[m]? = some t := ⟨_, List.getElem?_eq_getElem (by omega)⟩); obtain ⟨b, off, rfl, -, hcell⟩ := HC.out.some' ht; have g0 := (cell_of_block (a := ⟨b, off + m, none⟩) (HKp.out.2 ⟨b, off, none⟩ rfl)).trans hcell; (have htd : br.getD (br.length - 1 - k) 0 = t := by rw [← hm, List.getD_eq_getElem?_getD, ht]; rfl); (obtain ⟨fn, tmps, assign, body, hy, hR⟩ := hY pre ⟨(m, t), List.mem_of_getElem? ht⟩ wr hJs (by have := congrArg List.length HPre.out; rw [List.length_map, backUp_len] at this; omega))
      dsimp only at hy
      (have HUp : Hid ((pre ++ [(⟨(m, t), List.mem_of_getElem? ht⟩ : {y : Nat × Nat // y.2 ∈ br})]).map Subtype.val = backUp br (k + 1)) := by show _ = _; rw [backUp_succ, htd, ← hm, List.map_append, HPre.out]; rfl); (have hmlt : (m : Int) < (br.length : Int) := by omega); (have hmc : (m : Int) < (cap : Int) := by omega); (have hm0 : (0 : Int) ≤ (m : Int) := by omega); have HM : Hid (m = br.length - 1 - k) := hm; rw [hmI]; clear hcell htd hm
      gi_wp2
      refine hR.mono ?_; rintro e W3 (⟨rfl, hJ3, hk3⟩ | ⟨rfl, hJx3⟩)
      · gi_wp2
        go_roundw
        case rel => exact ⟨k + 1, _, by omega, by have := HM.out; simp; omega, HUp, hJ3, ⟨hk3.1.trans HKp.out.1, fun a ha => (hk3.2 a ha).trans (HKp.out.2 a ha)⟩⟩
        case measure => simp [intOf]
      · gi_wp2
        refine bodyPost_ret (results_none rfl _ _ _) rfl ?_; (exact ⟨⟨_, rfl⟩, .inr ⟨_, ⟨k + 1, by omega, HUp.out⟩, hJx3⟩⟩)
    · have hke : k = br.length := by omega
      subst hke; (have hneg : ¬ (0 : Int) ≤ (br.length : Int) - 1 - (br.length : Int) := by omega)
      gi_wp2
      go_end0
      exact ⟨⟨_, rfl⟩, .inl ⟨pre, HPre.out, hJs⟩⟩
theorem back_stops (n : Nat) (hn : 1 ≤ n) (Bs : Nat) (ad : Option Addr) (cap : Nat) (br : List Nat) (hbr : br.length ≤ 400000) (w : World) (hBs : Bs < w.heap.size) (hc : w.cell? ⟨Bs, 0, none⟩ = some (.slice ad br.length cap)) (hI : IRow (fun _ => True) w (.slice ad br.length cap) br) :
    SeqStopsK Fence.wide n Tryz.prog 171 #[.pointer (some ⟨Bs, 0, none⟩)] (fun x : {y : Nat × Nat // y.2 ∈ br} => #[Value.int .i64 (x.1.1 : Nat), Value.int .i64 (x.1.2 : Nat)]) (backKp Bs ad) (fun ys => ys.map Subtype.val = backUp br br.length) (fun pre => ∃ k, k ≤ br.length ∧ pre.map Subtype.val = backUp br k) br.length w := fun l J Jx W hW _ _ hY h0 => by
  have hc' := (hW.cell (p := ⟨Bs, 0, none⟩) hBs).trans hc; (exact back1_in n hn l Bs ad cap br hbr J Jx hY W hc' (hI.move fun b hb _ => ⟨hW.block b hb, trivial⟩) h0)
/-- Only cells of some blocks have changed. -/
theorem keeps_but {W W' : World} {S : Nat → Prop} (h : Kept (fun r => ¬ S r) W W') (hc : ∀ r, S r → ∃ cs T f, W.heap[r]? = some (.cells cs T f)) : KeepsOthers W W' :=
  ⟨h.size, fun r o ho hn => by
    by_cases hs : S r
    · obtain ⟨cs, T, f, e⟩ := hc r hs
      rw [e] at ho
      cases ho
      cases hn
    · exact (h.block r (lt_of_block ho) hs).trans ho⟩
/-- Which item was the best so far. -/
structure PickSt (x : Fx) (w : World) (M : Nat → Prop) (wh br : List Nat) (wk : Nat) (op : Bool) (b0 b1 b2 b3 b4 : Nat) (W : World) (n best : Nat) (found : Bool) (few : Nat) : Prop where
  c0 : W.heap[b0]? = some (.cells #[.pointer (some ⟨x.bf, 0, none⟩)] 80 (0, 0))
  c1 : W.heap[b1]? = some (.cells #[.int .i64 (best : Nat)] 82 (0, 0))
  c2 : W.heap[b2]? = some (.cells #[.bool found] 4 (0, 0))
  c3 : W.heap[b3]? = some (.cells #[.int .i64 (few : Nat)] 3 (0, 0))
  st : FinSt x W M wh br (wk + n) op
  kept : Kept (fun b => ¬ M b) w W
  few2 : few ≤ 2
  yes : found = true → best ∈ br ∧ wh.getD best 0 = 1 ∧ tellB x.ps wh best = true
  b4 : b4 < W.heap.size
theorem PickSt.own {x : Fx} {w : World} {M : Nat → Prop} {wh br : List Nat} {wk : Nat} {op : Bool} {b0 b1 b2 b3 b4 : Nat} {W W' : World} {n best : Nat} {found : Bool} {few B : Nat} {row : Option Nat} (h : PickSt x w M wh br wk op b0 b1 b2 b3 b4 W n best found few) (hg : W.grownBy W' row) (hr : ∀ r, row = some r → B ≤ r ∧ ∃ o : Obj, W.heap[r]? = some o ∧ o.isCells = false) (hB : ∀ b, M b ∨ x.K b → b < B) (hw : w.heap.size ≤ B) : PickSt x w M wh br wk op b0 b1 b2 b3 b4 W' n best found few := by
  have cell : ∀ {r : Nat} {cs : Array Value} {T : TypeId} {f : Nat × Nat}, W.heap[r]? = some (.cells cs T f) → W'.heap[r]? = some (.cells cs T f) := fun {r cs T f} e => (hg.block r (lt_of_block e) fun e2 => by
    obtain ⟨-, o, ho, hn⟩ := hr r e2.symm; rw [e] at ho
    cases ho
    cases hn).trans e
  have low : ∀ r, r < W.heap.size → r < B → W'.heap[r]? = W.heap[r]? := fun r hl hb => hg.block r hl fun e2 => by
    have := (hr r e2.symm).1; omega
  (exact ⟨cell h.c0, cell h.c1, cell h.c2, cell h.c3, h.st.next (fun b hl hk => low b hl (hB b hk.symm)) hg.size, ⟨hg.os.trans h.kept.os, hg.tape.trans h.kept.tape, hg.output.trans h.kept.output, Nat.le_trans h.kept.size hg.size, fun b hb hm => (low b (Nat.lt_of_lt_of_le hb h.kept.size) (by omega)).trans (h.kept.block b hb hm)⟩, h.few2, h.yes, Nat.lt_of_lt_of_le h.b4 hg.size⟩)
end Go.Proofs.YtalnljnincnbdacGreat
