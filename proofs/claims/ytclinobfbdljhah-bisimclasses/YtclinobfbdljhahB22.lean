/- Texts of one proof, one behind the other: BN1, BW8, SB2, SB4, SB5. -/
import Derived.Test.YtclinobfbdljhahB18
import Derived.Test.YtclinobfbdljhahB13
import Derived.Laws.BitsLemmas
import Derived.Deep.RegionHeld3
import Derived.Test.YtclinobfbdljhahB10
import Derived.Test.YtclinobfbdljhahB16
import Derived.Test.YtclinobfbdljhahB09
import Derived.Test.YtclinobfbdljhahB11
import Derived.Test.YtclinobfbdljhahB01
import Derived.RangeFuncBox
import Derived.RangeFuncLeaves
import Derived.Shelf.Abstract
import Derived.WalkKit
import Derived.OwnWalkIn
import Derived.TacticsInMore
import Derived.LoopNIn
import Derived.LoopIn
import Derived.Test.YtclinobfbdljhahB04
/- Walks: the names in several formulas (NamesIn). -/
namespace Go.Proofs.Ytclinobfbdljhah
open Go.RowKit Go.Sort

theorem uniq_rising (l : List (List UInt8)) : Rising (Lib.compact (srt l)) := by
  have hs : (srt l).Pairwise (fun a b => decide (a ≤ b) = true) :=
    List.pairwise_mergeSort (fun a b c h1 h2 => by
      simp only [decide_eq_true_eq] at *
      exact List.le_trans h1 h2) (fun a b => by
      simp only [Bool.or_eq_true, decide_eq_true_eq]
      exact List.le_total a b) _
  generalize srt l = zs at *
  have hle : ∀ i j, i ≤ j → j < zs.length → zs.toArray[i]! ≤ zs.toArray[j]! := by
    intro i j hij hj; (rw [getElem!_pos _ i (by simp; omega), getElem!_pos _ j (by simpa using hj)]); simp only [List.getElem_toArray]
    rcases Nat.lt_or_ge i j with h | h
    · have := List.pairwise_iff_getElem.1 hs i j (by omega) hj h
      simpa using this
    · obtain rfl : i = j := by omega
      exact List.le_refl _
  unfold Lib.compact Lib.compactUpTo; rw [Rising, List.pairwise_map]; refine List.Pairwise.imp_of_mem ?_ ((List.pairwise_lt_range (n := zs.length)).filter _); intro i j hi hj hij; have hj1 := List.mem_range.1 (List.mem_filter.1 hj).1
  have hk : zs.toArray[j]! ≠ zs.toArray[j - 1]! := by
    have := (List.mem_filter.1 hj).2; simp only [Lib.keeps, decide_eq_true_eq] at this
    rcases this with h | h
    · omega
    · exact h
  (have h1 := hle i (j - 1) (by omega) (by omega)); (have h2 := hle (j - 1) j (by omega) hj1)
  rcases lt_tot zs.toArray[i]! zs.toArray[j]! with h | h | h
  · exact h
  · rw [h] at h1
    exact absurd (List.le_antisymm h1 h2) hk
  · exact absurd (hle i j (by omega) hj1) (List.not_le.2 h)
end Go.Proofs.Ytclinobfbdljhah
/- Walks: the names of several formulas, if they are plain and few (namesTogether). -/
namespace Go.Proofs.Ytclinobfbdljhah
open Go.RowKit Go.Sort

/-- What Compact leaves is one's own, too. -/
theorem uniq_own (base g cap : Nat) (zs : List (List UInt8)) (hl : zs.length ≤ 100000) (w : World) (hown : w.ownsRow base 9 1 (.slice (some ⟨g, 0, none⟩) zs.length cap) zs.length (zs.map encStr)) :
    Calls Try.prog 69 #[.slice (some ⟨g, 0, none⟩) zs.length cap] w fun e w' => e = .returned (.slice (some ⟨g, 0, none⟩) (Lib.compact zs).length cap) ∧ KS base w' (some ⟨g, 0, none⟩) cap (Lib.compact zs) ∧ w.grownBy w' (some g) := by
  have hcl := compact_len zs
  rcases hown.2 with ⟨h, -⟩ | ⟨g', cap', cur, hv, hg, hh, h1, h2, h3, h4⟩
  · cases h
  · cases hv
    rw [Nat.mul_one] at h4; have hH := holds_of_block hh h4; (refine (Try.slices_Compact_string g 0 cap zs w hH (by omega) h1).mono ?_); rintro e w' ⟨rfl, q, rfl⟩; refine ⟨rfl, ?_, ?_⟩
    · have hz : (Lib.compact zs ++ List.replicate (zs.length - (Lib.compact zs).length) []).length = zs.length := by simp; omega
      have := ownsRow_sorted (n := q) (os := #[]) hz hg hh h1 h2 h3; rw [grow_empty] at this; have h9 := owns_take this (Lib.compact zs).length hcl; (rw [List.map_append, List.take_append_of_le_length (by simp), List.take_of_length_le (by simp)] at h9); exact h9
    · have := grownBy_sorted (w := w) (g := g) (n := q) (os := #[]) (Lib.compact zs ++ List.replicate (zs.length - (Lib.compact zs).length) []).toArray
      rwa [grow_empty] at this
theorem sort_own (base g cap : Nat) (ss : List (List UInt8)) (hl : ss.length ≤ 100000) (w : World) (hown : KS base w (some ⟨g, 0, none⟩) cap ss) :
    Calls Try.prog 94 #[.slice (some ⟨g, 0, none⟩) ss.length cap] w fun e w' => e = .returned (.tuple #[]) ∧ w'.ownsRow base 9 1 (.slice (some ⟨g, 0, none⟩) ss.length cap) ss.length ((srt ss).map encStr) ∧ w.grownBy w' (some g) := by
  rcases hown.2 with ⟨h, -⟩ | ⟨g', cap', cur, hv, hg, hh, h1, h2, h3, h4⟩
  · cases h
  · cases hv
    rw [Nat.mul_one] at h4; (refine (Try.slices_Sort_string g 0 cap ss w (holds_of_block hh h4) (lt_of_block hh) (by omega)).mono ?_); rintro e w' ⟨rfl, n, os, rfl⟩; exact ⟨rfl, ownsRow_sorted (List.length_mergeSort ..) hg hh h1 h2 h3, grownBy_sorted _⟩

end Go.Proofs.Ytclinobfbdljhah
/- Walks: slices.Sorted(slices.Values(..)) at texts. -/
namespace Go.Proofs.Ytclinobfbdljhah
open Go.RowKit Go.Shelf Go.Sort

set_option maxHeartbeats 1000000 in
theorem valuesT_in (a : Option Addr) (len cap : Nat) (w : World) : Calls Try.prog 71 #[.slice a len cap] w fun e w' => e = .returned (.func (.func 95) #[] #[.pointer (some ⟨w.heap.size, 0, none⟩)]) ∧ w' = w.alloc (.cells #[.slice a len cap] 80 (0, 0)) := by
  go_enter Try.func71, Try.ntmps71
  go_wp2_with fail; go_ret; exact ⟨rfl, rfl⟩
section
attribute [local go_sem] Oper.semAt_some
set_option maxRecDepth 100000 in
set_option maxHeartbeats 4000000 in
theorem values1T_in (n : Nat) (hn : 1 ≤ n) (l Bs n₀ : Nat) (ad : Option Addr) (cap : Nat) (ts : List (List UInt8)) (hts : ts.length ≤ 400000) (J Jx : List (List UInt8) → World → Prop)
    (hY : ∀ pre x W, J pre W → pre.length < ts.length → YieldAt Fence.wide (n - 1) Try.prog l #[encStr x] W fun e W' =>
      (e = .returned (.bool true) ∧ J (pre ++ [x]) W' ∧ Below n₀ W W') ∨ (e = .returned (.bool false) ∧ Jx (pre ++ [x]) W'))
    (W : World) (hBs : W.cell? ⟨Bs, 0, none⟩ = some (.slice ad ts.length cap)) (hc : SL W (.slice ad ts.length cap) ts) (hn0 : ∀ a, ad = some a → ts ≠ [] → a.block < n₀) (h0 : J [] W) :
    CallsIn Fence.wide n Try.prog 95 #[.func (.yield l) #[] #[], .pointer (some ⟨Bs, 0, none⟩)] W fun e W' => (∃ v, e = .returned v) ∧
      ((∃ ys, ys = ts ∧ J ys W') ∨ (∃ pre, (∃ k, k ≤ ts.length ∧ pre = ts.take k) ∧ Jx pre W')) := by
  (have hbI : (ts.length : Int) ≤ 400000 := by omega); have HC : Hid (SL W (.slice ad ts.length cap) ts) := hc
  have hcap : (ts.length : Int) ≤ (cap : Int) := by
    obtain ⟨_, _, e, h1, -⟩ := hc; simp only [Value.slice.injEq, true_and] at e; omega
  clear hc; refine callsIn_of_wp Try.func95 rfl trivial ?_ rfl; simp only [Try.ntmps95, List.size_toArray, List.length_cons, List.length_nil, Nat.reduceAdd, Nat.reduceSub, Array.replicate_succ, Array.replicate_zero, List.push_toArray, List.append_toArray, List.nil_append, List.cons_append]
  gi_wp2
  gi_loopw [7] (fun i wr => ∃ (k : Nat), k ≤ ts.length ∧ i = .int .i64 (k : Nat) ∧ J (ts.take k) wr ∧ Hid (Below n₀ W wr))
    (fun i _ => ts.length - (intOf i).toNat)
  case atStart => exact ⟨0, Nat.zero_le _, rfl, by simpa using h0, Below.refl _ _⟩
  case round =>
    obtain ⟨k, hk, rfl, hJs, HKp⟩ := hrel; by_cases hlt : k < ts.length
    · obtain ⟨t, ht⟩ : ∃ t, ts[k]? = some t := ⟨_, List.getElem?_eq_getElem hlt⟩
      obtain ⟨ad', cap', e', -, -, h3⟩ := HC.out; simp only [Value.slice.injEq, true_and] at e'; obtain ⟨rfl, rfl⟩ := e'; (obtain ⟨b, off, rfl, hcell⟩ := h3 (fun e => by rw [e] at hlt; simp at hlt)); (have g0 := (HKp.out.cell (p := ⟨b, off + k, none⟩) (hn0 ⟨b, off, none⟩ rfl (fun e => by rw [e] at hlt; simp at hlt))).trans (hcell k t ht)); (obtain ⟨fn, tmps, assign, body, hy, hR⟩ := hY (ts.take k) t wr hJs (by rw [List.length_take]; omega)); (have HT : Hid (ts.take k ++ [t] = ts.take (k + 1)) := by show _ = _; rw [List.take_add_one, ht]; rfl); (have hltI : (k : Int) < (ts.length : Int) := by omega); (have hltc : (k : Int) < (cap : Int) := by omega); have hy2 : _ := hy; unfold encStr at hy2; clear h3 hcell ht hy
      gi_wp2
      refine hR.mono ?_; rintro e W3 (⟨rfl, hJ3, hk3⟩ | ⟨rfl, hJx3⟩)
      · gi_wp2
        go_roundw
        case rel => exact ⟨k + 1, by omega, by simp, by rw [← HT.out]; exact hJ3, HKp.out.trans hk3⟩
        case measure => simp [intOf]; omega
      · gi_wp2
        refine bodyPost_ret (results_none rfl _ _ _) rfl ?_; (exact ⟨⟨_, rfl⟩, .inr ⟨_, ⟨k + 1, by omega, HT.out⟩, hJx3⟩⟩)
    · have hke : k = ts.length := by omega
      subst hke; rw [List.take_length] at hJs
      gi_wp2
      go_end0
      exact ⟨⟨_, rfl⟩, .inl ⟨_, rfl, hJs⟩⟩
theorem valuesT_stops (n : Nat) (hn : 1 ≤ n) (Bs n₀ : Nat) (ad : Option Addr) (cap : Nat) (ts : List (List UInt8)) (hts : ts.length ≤ 400000) (w : World) (hBs : Bs < w.heap.size) (hc : w.cell? ⟨Bs, 0, none⟩ = some (.slice ad ts.length cap)) (hI : SL w (.slice ad ts.length cap) ts) (hn0 : ∀ a, ad = some a → ts ≠ [] → a.block < n₀) :
    SeqStopsK Fence.wide n Try.prog 95 #[.pointer (some ⟨Bs, 0, none⟩)] (fun x : List UInt8 => #[encStr x]) (Below n₀) (fun ys => ys = ts) (fun pre => ∃ k, k ≤ ts.length ∧ pre = ts.take k) ts.length w := fun l J Jx W hW _ _ hY h0 => by
  have hc' := (hW.cell (p := ⟨Bs, 0, none⟩) hBs).trans hc; exact values1T_in n hn l Bs n₀ ad cap ts hts J Jx hY W hc' (hI.up hW) hn0 h0
end
end Go.Proofs.Ytclinobfbdljhah
/- Walks: slices.AppendSeq, Collect and Sorted at texts that a list holds. -/
namespace Go.Proofs.Ytclinobfbdljhah
open Go.RowKit Go.Shelf Go.Sort

theorem blk_setS {w : World} {b i : Nat} {cs : Array Value} {T : TypeId} (h : w.heap[b]? = some (.cells cs T (0, 0))) (v : Value) : (w.setCell ⟨b, i, none⟩ v).heap[b]? = some (.cells (cs.setIfInBounds i v) T (0, 0)) := by
  simp [World.setCell, Array.getElem?_modify, h]
theorem blk_otherS {w : World} {b b' i : Nat} (v : Value) (h : b' ≠ b) : (w.setCell ⟨b, i, none⟩ v).heap[b']? = w.heap[b']? := by
  simp [World.setCell, Array.getElem?_modify, Ne.symm h]
theorem size_setS (w : World) (a : Addr) (v : Value) : (w.setCell a v).heap.size = w.heap.size := by
  simp [World.setCell]
/-- What was given so far lies in a list of one's own, in a box. -/
structure ApT (w : World) (pre : List (List UInt8)) (W : World) : Prop where
  box : ∃ ad cap, W.heap[w.heap.size]? = some (.cells #[.slice ad pre.length cap] 80 (0, 0)) ∧ KS w.heap.size W ad cap pre
  below : Below w.heap.size w W
theorem KS.stay {B : Nat} {w w' : World} {ad : Option Addr} {cy : Nat} {L : List (List UInt8)} (h : KS B w ad cy L) (hb : ∀ (b : Nat) (cs : Array Value) (f : Nat × Nat), w.heap[b]? = some (.cells cs 9 f) → w'.heap[b]? = w.heap[b]?) : KS B w' ad cy L := by
  rcases h.2 with ⟨e, e2⟩ | ⟨g, cap, cur, hv, h1, h2, h3⟩
  · exact ⟨h.1, Or.inl ⟨e, e2⟩⟩
  · exact ⟨h.1, Or.inr ⟨g, cap, cur, hv, h1, (hb g _ _ h2).trans h2, h3⟩⟩
theorem ApT.own {w : World} (B : Nat) (hB : w.heap.size ≤ B) : OwnFrom B (ApT w) := fun s W W' row hs hg hr => by
  obtain ⟨ad, cap, h1, h2⟩ := hs.box; (have hr' : ∀ r, row = some r → ∃ o : Obj, W.heap[r]? = some o ∧ o.isCells = false := fun r e => (hr r e).2); (refine ⟨⟨ad, cap, ?_, ?_⟩, hs.below.grown hg hs.below.size fun k e => Nat.le_trans hB (hr k e).1⟩)
  · exact (grownBy_keeps_cells hg hr' h1 rfl).trans h1
  · exact KS.stay h2 fun b cs f e => grownBy_keeps_cells hg hr' e rfl
section
attribute [local go_sem] Oper.semAt_some
set_option maxRecDepth 100000 in
set_option maxHeartbeats 4000000 in
theorem appendSeqT_any (Bs : Nat) (ad : Option Addr) (cap : Nat) (ts : List (List UInt8)) (hts : ts.length ≤ 400000) (w : World) (hc : w.cell? ⟨Bs, 0, none⟩ = some (.slice ad ts.length cap)) (hI : SL w (.slice ad ts.length cap) ts) (hn0 : ∀ a, ad = some a → ts ≠ [] → a.block < w.heap.size) :
    Calls Try.prog 108 #[.slice none 0 0, .func (.func 95) #[] #[.pointer (some ⟨Bs, 0, none⟩)]] w fun e w' => ∃ ad' cap', e = .returned (.slice ad' ts.length cap') ∧ KS w.heap.size w' ad' cap' ts ∧ Below w.heap.size w w' := by
  have hBs : Bs < w.heap.size := lt_of_cell hc; obtain ⟨i0, hi, hz0, hz1, hz2⟩ := infoText; refine (callsIn_wide (n := 5)).1 ?_; refine callsIn_of_wp_marks Try.func108 rfl trivial ?_ rfl; simp only [Try.ntmps108, List.size_toArray, List.length_cons, List.length_nil, Nat.reduceAdd, Nat.reduceSub, Array.replicate_succ, Array.replicate_zero, List.push_toArray, List.append_toArray, List.nil_append, List.cons_append]
  gi_wp2
  obtain ⟨W0, hW0⟩ : ∃ W0, W0 = w.alloc (.cells #[.slice none 0 0] 80 (0, 0)) := ⟨_, rfl⟩; (have hb0 : Below w.heap.size w W0 := by rw [hW0]; exact below_more (Below.refl _ w) _); (have hz : W0.heap.size = w.heap.size + 1 := by rw [hW0]; simp); (have hx0 : W0.heap[w.heap.size]? = some (.cells #[.slice none 0 0] 80 (0, 0)) := by rw [hW0]; exact blk_new _ _); have hc0 : W0.cell? ⟨Bs, 0, none⟩ = some (.slice ad ts.length cap) := (hb0.cell (p := ⟨Bs, 0, none⟩) hBs).trans hc; rw [← hW0]; clear hW0
  refine wpIn_rangeFunc_ownG rfl (by omega) (gf := 95) (lb := #[.pointer (some ⟨Bs, 0, none⟩)]) rfl trivial (enters_of Try.func95 (by kernel_rfl) rfl)
    (valuesT_stops _ (by omega) Bs w.heap.size ad cap ts hts W0 (by omega) hc0 (hI.up hb0) hn0) belowK_t (belowK_b (by omega)) (Below.refl _ _) (fun _ => rfl)
    (ApT w) (fun _ _ _ => False) (ApT.own _ (by omega)) (fun _ _ _ _ _ hs _ _ => hs)
    ⟨⟨none, 0, hx0, KS.nil⟩, hb0⟩
    (fun x => { tmps := #[.slice none 0 0, .func (.func 95) #[] #[.pointer (some ⟨Bs, 0, none⟩)], .pointer (some ⟨w.heap.size, 0, none⟩), undef, .slice none 0 0, encStr x, .func (.func 95) #[] #[.pointer (some ⟨Bs, 0, none⟩)], encStr x, undef, undef, undef, undef, undef], defers := [] }) ?assign ?body ?done ?stop
  case assign =>
    intro l x W K hK
    gi_wp2
    exact hK
  case body =>
    rintro l pre x W hA hlt; obtain ⟨adP, cpP, hbx, hks⟩ := hA.box; (have hp : pre.length ≤ 400000 := by omega); have k0 : W.cell? ⟨w.heap.size, 0, none⟩ = some (.slice adP pre.length cpP) := blk_cell hbx 0; have HB : Hid (Below w.heap.size w W) := hA.below; have HX : Hid (W.heap[w.heap.size]? = some (.cells #[.slice adP pre.length cpP] 80 (0, 0))) := hbx; have HKs : Hid (KS w.heap.size W adP cpP pre) := hks; clear hA hbx hks hlt hz hx0 hc0 hb0 hc hI hn0 hBs
    gi_wp2_with (first
      | (gi_at_builtin
         (refine wpListIn_append_own _ rfl _ _ 80 rfl w.heap.size 9 i0 (.string ⟨#[]⟩) 1 16 Try.underlying80 hi hz0 hz1 hz2 rfl (by decide) (.slice adP pre.length cpP) pre.length (pre.map encStr) rfl (HKs.out.up (below_more (Below.refl _ W) _)) ⟨W.heap.size, 0, none⟩ 1 1 [encStr x] rfl rfl (cell_one_new _ _ _) (by simp [Value.oneCell', encStr]) (by unfold maxLen; omega) (by omega) (by have := HB.out.size; simp; omega) ?_); intro v' w3 hown' hg3 hnil3; have hg3' : (W.alloc (.cells #[encStr x] 9 (0, 0))).grownBy w3 (Value.slice adP pre.length cpP).ownBlock := hg3
         have hv3 : w3.heap[w.heap.size]? = some (.cells #[.slice adP pre.length cpP] 80 (0, 0)) := (hg3'.block _ (by have := lt_of_block HX.out; simp; omega) (fun e => by
           rcases HKs.out.2 with ⟨h, -⟩ | ⟨g', cap', cur, hv, hg, hh, -⟩
           · rw [h] at e; cases e
           · rw [hv] at e
             simp only [Value.ownBlock, Option.some.injEq] at e; rw [← e] at hh; rw [HX.out] at hh
             simp at hh)).trans (alloc_keep HX.out _)
         have k1 : w3.cell? ⟨w.heap.size, 0, none⟩ = some (.slice adP pre.length cpP) := blk_cell hv3 0; have k2 := blk_fz hv3 0; have HV3 : Hid (w3.heap[w.heap.size]? = some (.cells #[.slice adP pre.length cpP] 80 (0, 0))) := hv3; have HG3 : Hid ((W.alloc (.cells #[encStr x] 9 (0, 0))).grownBy w3 (Value.slice adP pre.length cpP).ownBlock) := hg3'; have HO3 : Hid (w3.ownsRow w.heap.size 9 1 v' (pre.length + 1) (pre.map encStr ++ [encStr x])) := hown'
         obtain ⟨g', cap', cur', rfl, -⟩ : ∃ g' cap' cur', v' = .slice (some ⟨g', 0, none⟩) (pre.length + 1) cap' ∧ w.heap.size ≤ g' ∧ w3.heap[g']? = some (.cells cur' 9 (0, 0)) ∧ pre.length + 1 ≤ cap' ∧ cap' ≤ maxLen ∧ cur'.size = cap' * 1 ∧ cur'.toList.take ((pre.length + 1) * 1) = pre.map encStr ++ [encStr x] := by
           rcases hown'.2 with ⟨_, h0⟩ | h'
           · exact absurd h0 (by omega)
           · exact h'
         clear hown' hg3 hg3' hnil3 hv3
         go_frame)
      | fail)
    obtain ⟨W', hW'⟩ : ∃ W', W' = w3.setCell ⟨w.heap.size, 0, none⟩ (.slice (some ⟨g', 0, none⟩) (pre.length + 1) cap') := ⟨_, rfl⟩; rw [← hW']; (have hz3 : W.heap.size ≤ w3.heap.size := Nat.le_trans (by simp) HG3.out.size); (have hz4 : W'.heap.size = w3.heap.size := by rw [hW', size_setS]); (have hoth : ∀ b, b ≠ w.heap.size → W'.heap[b]? = w3.heap[b]? := fun b hb => by rw [hW', blk_otherS _ hb]); (have hbox : W'.heap[w.heap.size]? = some (.cells #[.slice (some ⟨g', 0, none⟩) (pre.length + 1) cap'] 80 (0, 0)) := by rw [hW', blk_setS HV3.out]; rfl); (have hkeep : ∀ b, b < W.heap.size → some b ≠ (Value.slice adP pre.length cpP).ownBlock → w3.heap[b]? = W.heap[b]? := fun b hb hn => (HG3.out.block b (by simp; omega) hn).trans (Below.heap_alloc _ _ b hb))
    have hown : ∀ b o, W.heap[b]? = some o → o.isCells = false → some b ≠ (Value.slice adP pre.length cpP).ownBlock := fun b o ho hn e => by
      rcases HKs.out.2 with ⟨h, -⟩ | ⟨g2, cap2, cur, hv, hg, hh, -⟩
      · rw [h] at e; cases e
      · rw [hv] at e
        simp only [Value.ownBlock, Option.some.injEq] at e; rw [← e, ho] at hh
        cases hh
        cases hn
    have hlow : ∀ b, some b = (Value.slice adP pre.length cpP).ownBlock → w.heap.size ≤ b := fun b e => by
      rcases HKs.out.2 with ⟨h, -⟩ | ⟨g2, cap2, cur, hv, hg, hh, -⟩
      · rw [h] at e; cases e
      · rw [hv] at e
        simp only [Value.ownBlock, Option.some.injEq] at e; omega
    have hBel : Below w.heap.size W W' := by
      rw [hW']; (exact (((Below.refl w.heap.size W).alloc HB.out.size _).grown HG3.out (by have := HB.out.size; simp; omega) (fun k e => hlow k e.symm)).setCell (p := ⟨w.heap.size, 0, none⟩) (Nat.le_refl _) _)
    (refine ⟨⟨by omega, fun b o _ ho hn => ?_⟩, hBel, ⟨some ⟨g', 0, none⟩, cap', ?_, ?_⟩, HB.out.trans hBel⟩)
    · have hb := lt_of_block ho
      (have hne : b ≠ w.heap.size := fun e => by rw [e, HX.out] at ho; cases ho; cases hn); rw [hoth b hne, hkeep b hb (hown b o ho hn), ho]
    · rw [hbox]; simp
    · have h9 : w3.ownsRow w.heap.size 9 1 (.slice (some ⟨g', 0, none⟩) (pre ++ [x]).length cap') (pre ++ [x]).length ((pre ++ [x]).map encStr) := by simpa using HO3.out
      (exact KS.stay h9 fun b cs f e => hoth b fun e2 => by rw [e2, HV3.out] at e; simp at e)
  case done =>
    rintro D ys W hD rfl hA hK; obtain ⟨adP, cpP, hbx, hks⟩ := hA.box; have k0 : W.cell? ⟨w.heap.size, 0, none⟩ = some (.slice adP ys.length cpP) := blk_cell hbx 0
    gi_wp2
    (refine ⟨by simp, .inl ⟨_, _, rfl, run_takeDeferred hK, ?_⟩⟩); (have hDz : w.heap.size ≤ D := by omega); (have hs : ∀ (b : Nat) (cs : Array Value) (f : Nat × Nat), W.heap[b]? = some (.cells cs 9 f) → (W.putObj D (.deferred none)).heap[b]? = W.heap[b]? := fun b cs f e => grownBy_keeps_cells (grownBy_putObj' W D (.deferred none)) (fun r e => by cases e; exact ⟨_, hK, rfl⟩) e rfl); exact ⟨_, results_tmp rfl _ _ _, adP, cpP, rfl, KS.stay hks hs, hA.below.trans (belowK_b (w := w) (Nat.le_refl _) W D _ _ hDz hK rfl rfl)⟩
  case stop =>
    rintro D c pre W _ _ h _; exact h.elim
end
end Go.Proofs.Ytclinobfbdljhah
/- Walks: Collect, Sorted and Compact at texts: the names of a world, each once and rising. -/
namespace Go.Proofs.Ytclinobfbdljhah
open Go.RowKit Go.Shelf Go.Sort

set_option maxHeartbeats 1000000 in
theorem collectT_any (Bs : Nat) (ad : Option Addr) (cap : Nat) (ts : List (List UInt8)) (hts : ts.length ≤ 400000) (w : World) (hc : w.cell? ⟨Bs, 0, none⟩ = some (.slice ad ts.length cap)) (hI : SL w (.slice ad ts.length cap) ts) (hn0 : ∀ a, ad = some a → ts ≠ [] → a.block < w.heap.size) :
    Calls Try.prog 93 #[.func (.func 95) #[] #[.pointer (some ⟨Bs, 0, none⟩)]] w fun e w' => ∃ ad' cap', e = .returned (.slice ad' ts.length cap') ∧ KS w.heap.size w' ad' cap' ts ∧ Below w.heap.size w w' := by
  have HA := appendSeqT_any Bs ad cap ts hts w hc hI hn0; clear hc hI hn0
  go_enter Try.func93, Try.ntmps93
  go_wp2_with fail; refine HA.mono ?_; rintro _ w1 ⟨ad1, cp1, rfl, h1, h2⟩; have H1 : Hid (KS w.heap.size w1 ad1 cp1 ts) := h1; clear h1; go_wp2_with fail; go_ret; exact ⟨ad1, cp1, rfl, H1.out, h2⟩
set_option maxHeartbeats 1000000 in
theorem sortedT_any (Bs : Nat) (ad : Option Addr) (cap : Nat) (ts : List (List UInt8)) (hts : ts.length ≤ 100000) (w : World) (hc : w.cell? ⟨Bs, 0, none⟩ = some (.slice ad ts.length cap)) (hI : SL w (.slice ad ts.length cap) ts) (hn0 : ∀ a, ad = some a → ts ≠ [] → a.block < w.heap.size) :
    Calls Try.prog 70 #[.func (.func 95) #[] #[.pointer (some ⟨Bs, 0, none⟩)]] w fun e w' => ∃ ad' cap', e = .returned (.slice ad' (srt ts).length cap') ∧ KS w.heap.size w' ad' cap' (srt ts) ∧ Below w.heap.size w w' := by
  have hsl : (srt ts).length = ts.length := List.length_mergeSort ..; (have HA := collectT_any Bs ad cap ts (by omega) w hc hI hn0); have HT : Hid (ts.length ≤ 100000) := hts; have HSl : Hid ((srt ts).length = ts.length) := hsl; clear hc hI hn0 hsl hts
  go_enter Try.func70, Try.ntmps70
  go_wp2_with fail; refine HA.mono ?_; rintro _ w1 ⟨ad1, cp1, rfl, h1, h2⟩; have H1 : Hid (KS w.heap.size w1 ad1 cp1 ts) := h1; have H2 : Hid (Below w.heap.size w w1) := h2; clear h2 HA
  rcases KS.ne h1 with ⟨rfl, rfl, rfl⟩ | ⟨g, rfl, hg1, hg2, -⟩
  · clear h1
    go_wp2_with fail; refine (Try.slices_Sort_string_none _ _ _).mono ?_; rintro _ w2 ⟨rfl, rfl⟩; go_wp2_with fail; go_ret; (have hs0 : srt ([] : List (List UInt8)) = [] := by simp [srt]); (refine ⟨none, 0, by rw [hs0]; rfl, by rw [hs0]; exact KS.nil, H2.out⟩)
  · clear h1
    have HS := sort_own w.heap.size g cp1 ts HT.out w1 H1.out; go_wp2_with fail; refine HS.mono ?_; rintro _ w2 ⟨rfl, h3, h4⟩; have H3 : Hid (w2.ownsRow w.heap.size 9 1 (.slice (some ⟨g, 0, none⟩) ts.length cp1) ts.length ((srt ts).map encStr)) := h3; (have H4 : Hid (Below w.heap.size w w2) := H2.out.grown h4 H2.out.size fun k e => by cases e; exact hg1); clear h3 h4 HS; go_wp2_with fail; go_ret; (refine ⟨some ⟨g, 0, none⟩, cp1, by rw [HSl.out]; rfl, ?_, H4.out⟩); show World.ownsRow _ _ _ _ _ _ _; rw [HSl.out]; exact H3.out
/-- Names, each once and rising. -/
def nmz (ts : List (List UInt8)) : List (List UInt8) := Lib.compact (srt ts)
theorem uniqT_any (B : Nat) (ad : Option Addr) (cap : Nat) (zs : List (List UInt8)) (hl : zs.length ≤ 100000) (w : World) (h : KS B w ad cap zs) :
    Calls Try.prog 69 #[.slice ad zs.length cap] w fun e w' => ∃ ad' cap', e = .returned (.slice ad' (Lib.compact zs).length cap') ∧ KS B w' ad' cap' (Lib.compact zs) ∧ (w.heap.size ≥ B → Below B w w') := by
  rcases KS.ne h with ⟨rfl, rfl, rfl⟩ | ⟨g, rfl, hg1, hg2, -⟩
  · refine (Try.slices_Compact_string_empty _ _ _).mono ?_
    rintro _ w2 ⟨rfl, rfl⟩; (exact ⟨none, 0, rfl, KS.nil, fun _ => Below.refl _ _⟩)
  · refine (uniq_own B g cap zs hl w h).mono ?_
    rintro _ w2 ⟨rfl, h1, h2⟩; (exact ⟨_, _, rfl, h1, fun hB => (Below.refl B w).grown h2 hB fun k e => by cases e; exact hg1⟩)
theorem compact_small (zs : List (List UInt8)) : (Lib.compact zs).length ≤ zs.length := compact_len zs
/-- A text of names. -/
def keyN (ns : List (List UInt8)) : List UInt8 := Lib.join ns [32]
theorem joinTail_len (r : List (List UInt8)) (h : ∀ t ∈ r, t.length ≤ 8) : (Lib.joinTail [32] r).length ≤ 9 * r.length := by
  unfold Lib.joinTail
  induction r with
  | nil => simp
  | cons a r ih =>
    (have h1 := h a (by simp)); (have h2 := ih fun t ht => h t (by simp [ht])); simp only [List.map_cons, List.flatten_cons, List.length_append, List.length_cons, List.length_nil] at h2 ⊢; omega
theorem keyN_len (ns : List (List UInt8)) (h : ∀ t ∈ ns, t.length ≤ 8) : (keyN ns).length ≤ 9 * ns.length := by
  unfold keyN
  cases ns with
  | nil => simp [Lib.join_nil]
  | cons a r =>
    (have h1 := h a (by simp)); (have h2 := joinTail_len r fun t ht => h t (by simp [ht])); rw [Lib.join_cons, List.length_append, List.length_cons]; omega
set_option maxHeartbeats 1000000 in
theorem joinT_any (ns : List (List UInt8)) (h30 : ns.length ≤ 100000) (h8 : ∀ t ∈ ns, t.length ≤ 8) (v : Value) (w : World) (hv : SL w v ns) :
    Calls Try.prog 112 #[v, .string ⟨#[32]⟩] w fun e w' => e = .returned (.string ⟨(keyN ns).toArray⟩) ∧ Below w.heap.size w w' := by
  obtain ⟨ad, cap, rfl, h1, h2, h3⟩ := hv; by_cases hne : ns = []
  · subst hne
    refine (Try.strings_Join_none _ _ _ _).mono ?_; rintro _ w2 ⟨rfl, rfl⟩; exact ⟨rfl, Below.refl _ _⟩
  · obtain ⟨g, off, rfl, hc⟩ := h3 hne
    have hmap : (ns.map fun t => (⟨t.toArray⟩ : ByteArray)).map (·.data.toList) = ns := by
      rw [List.map_map]; (exact (List.map_congr_left fun t _ => by simp).trans (List.map_id _))
    have hlt : g < w.heap.size := by
      cases ns with
      | nil => exact absurd rfl hne
      | cons a r => exact lt_of_cell (hc 0 a rfl)
    have hkl := keyN_len ns h8
    have := Try.strings_Join g off cap (ns.map fun t => (⟨t.toArray⟩ : ByteArray)) ⟨#[32]⟩ w (fun j x hx => by
      rw [List.getElem?_map] at hx
      cases hj : ns[j]? with
      | none => rw [hj] at hx; cases hx
      | some t => rw [hj] at hx; cases hx; exact hc j t hj) hlt (by simp; omega) (by simpa using h1) (by rw [hmap]; unfold keyN at hkl; show (Lib.join ns [32]).length ≤ _; omega)
    rw [List.length_map, hmap] at this; exact this
end Go.Proofs.Ytclinobfbdljhah
