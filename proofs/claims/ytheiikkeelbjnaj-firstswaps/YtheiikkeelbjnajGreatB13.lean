/- Texts of one proof, one behind the other: PB1. -/
import Derived.RangeFuncNested
import Derived.RangeFuncBound
import Derived.RangeFuncCalls
import Derived.RangeFuncLeaves
import Derived.Shelf.Abstract
import Derived.Shelf.RegionOpen
import Derived.WalkKit
import Derived.OwnWalkIn
import Derived.TacticsInMore
import Derived.LoopNIn
import Derived.LoopIn
import Derived.Test.YtheiikkeelbjnajGreatB09
/- Walks: a list of binds gone through from its end (slices.Backward). -/
namespace Go.Proofs.YtheiikkeelbjnajGreat
open Go.RowKit Go.Shelf
attribute [local go_sem] Oper.semAt_some

/-- A bind as it lies: its name, its word's name, its word's Args. -/
abbrev BT := ByteArray × ByteArray × Value
def btz : BT := (⟨#[]⟩, ⟨#[]⟩, .slice none 0 0)
def bval (t : BT) : Value := .agg #[.string t.1, .string t.2.1, t.2.2]
/-- Binds that lie in a slice. -/
def BRow (w : World) (v : Value) (l : List BT) : Prop := ∃ ad cap, v = .slice ad l.length cap ∧ l.length ≤ cap ∧ cap ≤ maxLen ∧ (l ≠ [] → ∃ g off, ad = some ⟨g, off, none⟩ ∧ ∀ (i : Nat) (t : BT), l[i]? = some t → w.cell? ⟨g, off + i * 3, none⟩ = some (.string t.1) ∧ w.cell? ⟨g, off + i * 3 + 1, none⟩ = some (.string t.2.1) ∧ w.cell? ⟨g, off + i * 3 + 2, none⟩ = some t.2.2)
theorem BRow.up {w w' : World} {v : Value} {l : List BT} (h : BRow w v l) (hb : Below w.heap.size w w') : BRow w' v l := by
  obtain ⟨ad, cap, h1, h2, h3, h4⟩ := h; (refine ⟨ad, cap, h1, h2, h3, fun hne => ?_⟩); obtain ⟨g, off, h5, h6⟩ := h4 hne; (refine ⟨g, off, h5, fun i t ht => ?_⟩); obtain ⟨c0, c1, c2⟩ := h6 i t ht; exact ⟨(hb.cell (lt_of_cell c0)).trans c0, (hb.cell (lt_of_cell c1)).trans c1, (hb.cell (lt_of_cell c2)).trans c2⟩
theorem BRow.nil {w : World} : BRow w (.slice none 0 0) [] := ⟨none, 0, rfl, by simp, by simp, fun h => absurd rfl h⟩
theorem BRow.some' {w : World} {ad : Option Addr} {cap : Nat} {l : List BT} (h : BRow w (.slice ad l.length cap) l) {i : Nat} {t : BT} (ht : l[i]? = some t) : ∃ g off, ad = some ⟨g, off, none⟩ ∧ w.cell? ⟨g, off + i * 3, none⟩ = some (.string t.1) ∧ w.cell? ⟨g, off + i * 3 + 1, none⟩ = some (.string t.2.1) ∧ w.cell? ⟨g, off + i * 3 + 2, none⟩ = some t.2.2 := by
  obtain ⟨ad', cap', e, -, -, h4⟩ := h; simp only [Value.slice.injEq, true_and] at e; obtain ⟨rfl, rfl⟩ := e; (obtain ⟨g, off, h5, h6⟩ := h4 (fun e => by rw [e] at ht; simp at ht)); exact ⟨g, off, h5, h6 i t ht⟩
/-- What has come when k rounds are over. -/
def backB (br : List BT) (k : Nat) : List (Nat × BT) := (List.range k).map fun j => (br.length - 1 - j, br.getD (br.length - 1 - j) btz)
theorem backB_succ (br : List BT) (k : Nat) : backB br (k + 1) = backB br k ++ [(br.length - 1 - k, br.getD (br.length - 1 - k) btz)] := by simp [backB, List.range_succ]
theorem backB_len (br : List BT) (k : Nat) : (backB br k).length = k := by simp [backB]
set_option maxHeartbeats 1000000 in
theorem backwardB_in (a : Option Addr) (len cap : Nat) (w : World) : Calls Tryz.prog 196 #[.slice a len cap] w fun e w' => e = .returned (.func (.func 204) #[] #[.pointer (some ⟨w.heap.size, 0, none⟩)]) ∧ w' = w.alloc (.cells #[.slice a len cap] 115 (0, 0)) := by
  go_enter Tryz.func196, Tryz.ntmps196
  go_wp2_with fail; go_ret; exact ⟨rfl, rfl⟩
def backKb (Bs : Nat) (ad : Option Addr) (W W' : World) : Prop := W'.heap[Bs]? = W.heap[Bs]? ∧ ∀ a, ad = some a → W'.heap[a.block]? = W.heap[a.block]?
set_option maxRecDepth 100000 in
set_option maxHeartbeats 4000000 in
theorem back1B_in (n : Nat) (hn : 1 ≤ n) (l Bs : Nat) (ad : Option Addr) (cap : Nat) (br : List BT) (hbr : br.length ≤ 400000) (J Jx : List {y : Nat × BT // y.2 ∈ br} → World → Prop)
    (hY : ∀ pre x W, J pre W → pre.length < br.length → YieldAt Fence.wide (n - 1) Tryz.prog l #[.int .i64 (x.1.1 : Nat), bval x.1.2] W fun e W' =>
      (e = .returned (.bool true) ∧ J (pre ++ [x]) W' ∧ backKb Bs ad W W') ∨ (e = .returned (.bool false) ∧ Jx (pre ++ [x]) W'))
    (W : World) (hBs : W.cell? ⟨Bs, 0, none⟩ = some (.slice ad br.length cap)) (hc : BRow W (.slice ad br.length cap) br) (h0 : J [] W) :
    CallsIn Fence.wide n Tryz.prog 204 #[.func (.yield l) #[] #[], .pointer (some ⟨Bs, 0, none⟩)] W fun e W' => (∃ v, e = .returned v) ∧
      ((∃ ys : List {y : Nat × BT // y.2 ∈ br}, ys.map Subtype.val = backB br br.length ∧ J ys W') ∨ (∃ pre : List {y : Nat × BT // y.2 ∈ br}, (∃ k, k ≤ br.length ∧ pre.map Subtype.val = backB br k) ∧ Jx pre W')) := by
  (have hbI : (br.length : Int) ≤ 400000 := by omega); have HC : Hid (BRow W (.slice ad br.length cap) br) := hc
  have hcap : (br.length : Int) ≤ (cap : Int) := by
    obtain ⟨_, _, e, h1, -⟩ := hc; simp only [Value.slice.injEq, true_and] at e; omega
  clear hc; refine callsIn_of_wp Tryz.func204 rfl trivial ?_ rfl; simp only [Tryz.ntmps204, List.size_toArray, List.length_cons, List.length_nil, Nat.reduceAdd, Nat.reduceSub, Array.replicate_succ, Array.replicate_zero, List.push_toArray, List.append_toArray, List.nil_append, List.cons_append]
  gi_wp2
  gi_loopw [3] (fun i wr => ∃ (k : Nat) (pre : List {y : Nat × BT // y.2 ∈ br}), k ≤ br.length ∧ i = .int .i64 ((br.length : Int) - 1 - (k : Int)) ∧ Hid (pre.map Subtype.val = backB br k) ∧ J pre wr ∧ Hid (backKb Bs ad W wr))
    (fun i _ => (intOf i + 1).toNat)
  case atStart => exact ⟨0, [], Nat.zero_le _, by simp, by show _ = _; rfl, h0, ⟨rfl, fun _ _ => rfl⟩⟩
  case round =>
    obtain ⟨k, pre, hk, rfl, HPre, hJs, HKp⟩ := hrel; have hbs : wr.cell? ⟨Bs, 0, none⟩ = some (.slice ad br.length cap) := (cell_of_block (a := ⟨Bs, 0, none⟩) HKp.out.1).trans hBs; by_cases hlt : k < br.length
    · obtain ⟨m, hm⟩ : ∃ m : Nat, m = br.length - 1 - k := ⟨_, rfl⟩
      (have hmI : (br.length : Int) - 1 - (k : Int) = (m : Int) := by omega); (obtain ⟨t, ht⟩ : ∃ t, br[m]? = some t := ⟨_, List.getElem?_eq_getElem (by omega)⟩); obtain ⟨b, off, rfl, hcell, hcell1, hcell2⟩ := HC.out.some' ht; have g0 := (cell_of_block (a := ⟨b, off + m * 3, none⟩) (HKp.out.2 ⟨b, off, none⟩ rfl)).trans hcell; have g1 := (cell_of_block (a := ⟨b, off + m * 3 + 1, none⟩) (HKp.out.2 ⟨b, off, none⟩ rfl)).trans hcell1; have g2 := (cell_of_block (a := ⟨b, off + m * 3 + 2, none⟩) (HKp.out.2 ⟨b, off, none⟩ rfl)).trans hcell2; obtain ⟨t0, t1, t2⟩ := t
      dsimp only at g0 g1 g2
      (have htd : br.getD (br.length - 1 - k) btz = (t0, t1, t2) := by rw [← hm, List.getD_eq_getElem?_getD, ht]; rfl); (obtain ⟨fn, tmps, assign, body, hy, hR⟩ := hY pre ⟨(m, (t0, t1, t2)), List.mem_of_getElem? ht⟩ wr hJs (by have := congrArg List.length HPre.out; rw [List.length_map, backB_len] at this; omega))
      dsimp only [bval] at hy
      (have HUp : Hid ((pre ++ [(⟨(m, (t0, t1, t2)), List.mem_of_getElem? ht⟩ : {y : Nat × BT // y.2 ∈ br})]).map Subtype.val = backB br (k + 1)) := by show _ = _; rw [backB_succ, htd, ← hm, List.map_append, HPre.out]; rfl); (have hmlt : (m : Int) < (br.length : Int) := by omega); (have hmc : (m : Int) < (cap : Int) := by omega); (have hm0 : (0 : Int) ≤ (m : Int) := by omega); have HMi : Hid (m = br.length - 1 - k) := hm; rw [hmI]; clear hcell hcell1 hcell2 htd hm
      gi_wp2
      refine hR.mono ?_; rintro e W3 (⟨rfl, hJ3, hk3⟩ | ⟨rfl, hJx3⟩)
      · gi_wp2
        go_roundw
        case rel => exact ⟨k + 1, _, by omega, by have := HMi.out; simp; omega, HUp, hJ3, ⟨hk3.1.trans HKp.out.1, fun a ha => (hk3.2 a ha).trans (HKp.out.2 a ha)⟩⟩
        case measure => simp [intOf]
      · gi_wp2
        refine bodyPost_ret (results_none rfl _ _ _) rfl ?_; (exact ⟨⟨_, rfl⟩, .inr ⟨_, ⟨k + 1, by omega, HUp.out⟩, hJx3⟩⟩)
    · have hke : k = br.length := by omega
      subst hke; (have hneg : ¬ (0 : Int) ≤ (br.length : Int) - 1 - (br.length : Int) := by omega)
      gi_wp2
      go_end0
      exact ⟨⟨_, rfl⟩, .inl ⟨pre, HPre.out, hJs⟩⟩
theorem backB_stops (n : Nat) (hn : 1 ≤ n) (Bs : Nat) (ad : Option Addr) (cap : Nat) (br : List BT) (hbr : br.length ≤ 400000) (w : World) (hBs : Bs < w.heap.size) (hc : w.cell? ⟨Bs, 0, none⟩ = some (.slice ad br.length cap)) (hI : BRow w (.slice ad br.length cap) br) :
    SeqStopsK Fence.wide n Tryz.prog 204 #[.pointer (some ⟨Bs, 0, none⟩)] (fun x : {y : Nat × BT // y.2 ∈ br} => #[Value.int .i64 (x.1.1 : Nat), bval x.1.2]) (backKb Bs ad) (fun ys => ys.map Subtype.val = backB br br.length) (fun pre => ∃ k, k ≤ br.length ∧ pre.map Subtype.val = backB br k) br.length w := fun l J Jx W hW _ _ hY h0 => by
  have hc' := (hW.cell (p := ⟨Bs, 0, none⟩) hBs).trans hc; exact back1B_in n hn l Bs ad cap br hbr J Jx hY W hc' (hI.up hW) h0
end Go.Proofs.YtheiikkeelbjnajGreat
