/- Texts of one proof, one behind the other: CM2, CB1, CB2. -/
import Derived.Test.YtffkoiemnchdgaeB15
import Derived.Test.YtffkoiemnchdgaeB13
import Derived.Lib.AppendZerosOnto
/- What is proved is true. -/
namespace Go.Proofs.Ytffkoiemnchdgae

theorem fine_one_of {f : Fm} (hf : Fine f) (hk : f.kind = 4) : ∃ a, f = .mk 4 ⟨#[]⟩ [a] ∧ f.kidA = a ∧ Fine a := by
  rcases hf.forms with ⟨n, rfl, hn⟩ | rfl | rfl | ⟨k, g, h, rfl, hg⟩ | ⟨k, g, g', h, rfl, hg, hg'⟩
  · cases hk
  · cases hk
  · cases hk
  · have : k = 4 := hk
    subst this; exact ⟨g, rfl, rfl, hg⟩
  · have : k = 4 := hk
    omega
theorem fine_two_of {f : Fm} (hf : Fine f) (hk : f.kind = 5 ∨ f.kind = 6 ∨ f.kind = 7) : ∃ a b, f = .mk f.kind ⟨#[]⟩ [a, b] ∧ f.kidA = a ∧ f.kidB = b ∧ Fine a ∧ Fine b := by
  rcases hf.forms with ⟨n, rfl, hn⟩ | rfl | rfl | ⟨k, g, h, rfl, hg⟩ | ⟨k, g, g', h, rfl, hg, hg'⟩
  · rcases hk with h | h | h <;> cases h
  · rcases hk with h | h | h <;> cases h
  · rcases hk with h | h | h <;> cases h
  · have : k = 5 ∨ k = 6 ∨ k = 7 := hk
    omega
  · exact ⟨g, g', rfl, rfl, rfl, hg, hg'⟩

end Go.Proofs.Ytffkoiemnchdgae
/- Walks: lists of formulas copied (slices.Clone). -/
namespace Go.Proofs.Ytffkoiemnchdgae
open Go.RowKit

theorem reps_lq {ok : Nat → Prop} {w : World} {b : Nat} : ∀ {fs : List Fm} {off : Nat}, Reps w ok b off fs → ∃ cs, LQ ok w cs fs ∧ ∀ (j : Nat) (u : Value), cs[j]? = some u → w.cell? ⟨b, off + j, none⟩ = some u
  | [], off, _ => ⟨[], trivial, fun j u h => by simp at h⟩
  | f :: fs, off, h => by
    obtain ⟨⟨c0, c1, c2, h0, h1, h2, hr⟩, hs⟩ := Reps.cons.1 h; obtain ⟨cs, hl, hc⟩ := reps_lq hs; (refine ⟨c0 :: c1 :: c2 :: cs, ⟨hr, hl⟩, fun j u hu => ?_⟩)
    rcases j with _ | _ | _ | j
    · simp at hu; subst hu; exact h0
    · simp at hu; subst hu; exact h1
    · simp at hu; subst hu; exact h2
    · have := hc j u (by simpa using hu)
      (rw [show off + (j + 1 + 1 + 1) = off + 3 + j by omega]); exact this
theorem LQ.one {ok : Nat → Prop} {w : World} : ∀ {cs : List Value} {fs : List Fm}, LQ ok w cs fs → ∀ u ∈ cs, u.oneCell' = true
  | [], [], _, u, hu => by cases hu
  | c0 :: c1 :: c2 :: cs, ⟨k, n, ks⟩ :: fs, h, u, hu => by
    obtain ⟨sl, cap, hv, -⟩ := Rep.def.1 h.1; simp only [Value.agg.injEq, Array.mk.injEq, List.cons.injEq, and_true] at hv; obtain ⟨rfl, rfl, rfl⟩ := hv; simp only [List.mem_cons] at hu
    rcases hu with rfl | rfl | rfl | hu
    · rfl
    · rfl
    · rfl
    · exact LQ.one h.2 u hu

/-- A list of formulas, in blocks for which P holds. -/
def FLp (P : Nat → Prop) (w : World) (v : Value) (fs : List Fm) : Prop := ∃ ad cap, v = .slice ad fs.length cap ∧ fs.length ≤ cap ∧ cap ≤ maxLen ∧ (fs ≠ [] → ∃ b off, ad = some ⟨b, off, none⟩ ∧ P b ∧ Reps w P b off fs)
theorem reps_move {w w' : World} {P P' : Nat → Prop} {b : Nat} (h : ∀ k, k < w.heap.size → P k → w'.heap[k]? = w.heap[k]? ∧ P' k) {off : Nat} {fs : List Fm} (hb : P b) (hr : Reps w P b off fs) : Reps w' P' b off fs := by
  cases fs with
  | nil => exact Reps.nil
  | cons f fs =>
    obtain ⟨⟨c0, _, _, h0, _⟩, _⟩ := Reps.cons.1 hr; (exact Reps.keep (fun a ha hlt => cell_of_block (h a.block hlt ha).1) (fun k hk hp => (h k hk hp).2) hb (lt_of_cell h0) off _ hr)
theorem FLp.move {w w' : World} {P P' : Nat → Prop} {v : Value} {fs : List Fm} (hf : FLp P w v fs) (h : ∀ k, k < w.heap.size → P k → w'.heap[k]? = w.heap[k]? ∧ P' k) : FLp P' w' v fs := by
  obtain ⟨ad, cap, h1, h2, h3, h4⟩ := hf; (refine ⟨ad, cap, h1, h2, h3, fun hne => ?_⟩); obtain ⟨b, off, h5, h6, h7⟩ := h4 hne
  have hlt : b < w.heap.size := by
    cases fs with
    | nil => exact absurd rfl hne
    | cons f fs =>
      obtain ⟨⟨c0, _, _, h0, _⟩, _⟩ := Reps.cons.1 h7; exact lt_of_cell h0
  exact ⟨b, off, h5, (h b hlt h6).2, reps_move h h6 h7⟩
theorem FL.low {w : World} {v : Value} {fs : List Fm} (hf : FL w v fs) : FLp (· < w.heap.size) w v fs := by
  obtain ⟨ad, cap, h1, h2, h3, h4⟩ := hf; (exact FLp.move (P := fun _ => True) ⟨ad, cap, h1, h2, h3, fun hne => by obtain ⟨b, off, h5, h6⟩ := h4 hne; exact ⟨b, off, h5, trivial, h6⟩⟩ fun k hk _ => ⟨rfl, hk⟩)
theorem FLp.list {w : World} {P : Nat → Prop} {v : Value} {fs : List Fm} (hf : FLp P w v fs) : FL w v fs := by
  obtain ⟨ad, cap, h1, h2, h3, h4⟩ := hf; (refine ⟨ad, cap, h1, h2, h3, fun hne => ?_⟩); obtain ⟨b, off, h5, h6, h7⟩ := h4 hne; (exact ⟨b, off, h5, reps_move (fun _ _ _ => ⟨rfl, trivial⟩) h6 h7⟩)
theorem FLp.up {w w' : World} {P : Nat → Prop} {v : Value} {fs : List Fm} (hf : FLp P w v fs) (hb : Below w.heap.size w w') : FLp P w' v fs := hf.move fun k hk hp => ⟨hb.block k hk, hp⟩
theorem FLp.cells {P : Nat → Prop} {w : World} {ad : Option Addr} {cap : Nat} {fs : List Fm} (h : FLp P w (.slice ad fs.length cap) fs) (hne : fs ≠ []) : ∃ b off cs, ad = some ⟨b, off, none⟩ ∧ LQ P w cs fs ∧ ∀ (j : Nat) (u : Value), cs[j]? = some u → w.cell? ⟨b, off + j, none⟩ = some u := by
  obtain ⟨ad', cap', hv, -, -, h4⟩ := h; simp only [Value.slice.injEq, true_and] at hv; obtain ⟨rfl, rfl⟩ := hv; obtain ⟨b, off, h5, -, h6⟩ := h4 hne; obtain ⟨cs, h7, h8⟩ := reps_lq h6; exact ⟨b, off, cs, h5, h7, h8⟩
theorem kp_list {P : Nat → Prop} {B : Nat} {w : World} {ad : Option Addr} {cap : Nat} {fs : List Fm} (h : KP P B w ad cap fs) (hPB : ∀ b, B ≤ b → P b) : FLp P w (.slice ad fs.length cap) fs := by
  (obtain ⟨sl', cap', hv, -, h1, h2, h3⟩ := Rep.def.1 (h.rep hPB 0 ⟨#[]⟩ (by simp [maxLen, ByteArray.size]))); simp only [Value.agg.injEq, Array.mk.injEq, List.cons.injEq, Value.slice.injEq, true_and, and_true] at hv; obtain ⟨rfl, rfl⟩ := hv; exact ⟨ad, cap, rfl, h1, h2, h3⟩
theorem FL.flp {w : World} {v : Value} {fs : List Fm} (h : FL w v fs) : FLp (fun _ => True) w v fs := by
  obtain ⟨ad, cap, h1, h2, h3, h4⟩ := h; (exact ⟨ad, cap, h1, h2, h3, fun hne => by obtain ⟨b, off, h5, h6⟩ := h4 hne; exact ⟨b, off, h5, trivial, h6⟩⟩)

theorem nil_yes (n c : Nat) (w : World) : (binOp BinOp.eql 22 (.slice none n c) (.slice none 0 0)).run Try.prog w = .ok (.bool true) w := by kernel_rfl
theorem nil_no (a : Addr) (n c : Nat) (w : World) : (binOp BinOp.eql 22 (.slice (some a) n c) (.slice none 0 0)).run Try.prog w = .ok (.bool false) w := by kernel_rfl

set_option maxRecDepth 10000 in
set_option maxHeartbeats 2000000 in
theorem cloneF_low (P : Nat → Prop) (fs : List Fm) (hl : fs.length ≤ 1000) (v : Value) (w : World) (hv : FLp P w v fs) :
    Calls Try.prog 160 #[v] w fun e w' => ∃ ad cp, e = .returned (.slice ad fs.length cp) ∧ KP P w.heap.size w' ad cp fs ∧ Below w.heap.size w w' := by
  obtain ⟨ad, cap, rfl, h1, h2, h3⟩ := hv; have HV : Hid (FLp P w (.slice ad fs.length cap) fs) := ⟨ad, cap, rfl, h1, h2, h3⟩; obtain ⟨i0, hi, hz0, hz1, hz2⟩ := infoFormula; (have hlI : (fs.length : Int) ≤ 1000 := by omega); (have hny := fun n c w => nil_yes n c w); (have hnn := fun a n c w => nil_no a n c w); clear h3; by_cases hne : fs = []
  · subst hne
    cases ad with
    | none =>
      go_enter Try.func160, Try.ntmps160
      go_wp2_with fail; go_ret
      exact ⟨none, 0, rfl, KP.nil, Below.refl _ _⟩
    | some a =>
      go_enter Try.func160, Try.ntmps160
      go_wp2_with fail; go_ret; (exact ⟨some ⟨w.heap.size, 0, none⟩, 0, rfl, ⟨[], ⟨rfl, Or.inr ⟨w.heap.size, 0, #[], rfl, Nat.le_refl _, blk_new _ _, Nat.le_refl _, by simp, rfl, rfl⟩⟩, trivial⟩, below_more (Below.refl _ w) _⟩)
  · obtain ⟨b, off, cs, rfl, hlq, hcs⟩ := HV.out.cells hne
    have hpos : 0 < fs.length := List.length_pos_iff.2 hne; have hlen := hlq.len; have HOne : Hid (∀ u ∈ cs, u.oneCell' = true) := hlq.one; have HQ : Hid (LQ P w cs fs) := hlq; have HCs : Hid (∀ (j : Nat) (u : Value), cs[j]? = some u → w.cell? ⟨b, off + j, none⟩ = some u) := hcs; (have hown : (w.alloc (.cells #[] 24 (0, 0))).ownsRow w.heap.size 24 3 (.slice (some ⟨w.heap.size, 0, none⟩) 0 0) 0 [] := ⟨rfl, Or.inr ⟨w.heap.size, 0, #[], rfl, Nat.le_refl _, blk_new _ _, Nat.le_refl _, by simp, rfl, rfl⟩⟩); clear hne hlq hcs
    go_enter Try.func160, Try.ntmps160
    go_wp2_with (first
      | (at_builtin
         refine wpList_append_lies _ rfl _ _ 22 rfl w.heap.size 24 i0 (.agg #[.int .i64 0, .string ⟨#[]⟩, .slice none 0 0]) 3 48 Try.underlying22 hi hz0 hz1 hz2 rfl (by decide) _ _ _ rfl hown ⟨b, off, none⟩ fs.length cap cs rfl hlen (fun j u hu => by
           rw [add_none]
           exact (((Below.refl _ w).alloc (Nat.le_refl _) _).cell (lt_of_cell (HCs.out j u hu))).trans (HCs.out j u hu)) HOne.out hpos (by unfold maxLen; omega) (by omega) (by simp) _ rfl ?_
         intro g3 cp3 w3 hown3 hgrow hat hlt3)
      | fail)
    have hown3' : w3.ownsRow w.heap.size 24 3 (.slice (some ⟨g3, 0, none⟩) fs.length cp3) fs.length cs := by
      have := hown3; rw [Nat.zero_add] at this; exact this
    have hgrow' : (w.alloc (.cells #[] 24 (0, 0))).grownBy w3 (some w.heap.size) := hgrow
    have hbl : ∀ j, j < w.heap.size → w3.heap[j]? = w.heap[j]? := fun j hj => by
      (rw [hgrow'.block j (by simp; omega) (fun e => by have := Option.some.inj e; omega), Below.heap_alloc _ _ _ hj])
    (have hB : Below w.heap.size w w3 := ⟨hgrow'.os, hgrow'.tape, hgrow'.output, by have := hgrow'.size; simp at this; omega, hbl⟩); have hg3 : w.heap.size ≤ g3 := (hown3'.lt g3 rfl).1
    have hKP : KP P w.heap.size w3 (some ⟨g3, 0, none⟩) cp3 fs := ⟨cs, hown3', HQ.out.move fun b hb hp => ⟨hbl b hb, hp, fun e => by
      (have : g3 = b := by simpa [Value.ownBlock] using e)
      omega⟩⟩
    clear hown3 hown3' hgrow hgrow' hat hown; (have hz : ((0 : Int) + (fs.length : Int)) = (fs.length : Int) := by omega); go_wp2_with fail; go_ret; refine ⟨some ⟨g3, 0, none⟩, cp3, ?_, hKP, hB⟩
    simp
end Go.Proofs.Ytffkoiemnchdgae
/- Walks: room for formulas (slices.Grow). -/
namespace Go.Proofs.Ytffkoiemnchdgae
open Go.RowKit

set_option maxRecDepth 10000 in
set_option maxHeartbeats 2000000 in
theorem grow_zero (w : World) :
    Calls Try.prog 159 #[.slice none 0 0, .int .i64 0] w fun e w' => e = .returned (.slice none 0 0) ∧ w' = w := by
  go_enter Try.func159, Try.ntmps159
  go_wp2_with fail; go_ret; exact ⟨rfl, rfl⟩

set_option maxRecDepth 10000 in
set_option maxHeartbeats 2000000 in
theorem grow_some (n : Nat) (hn : 0 < n) (hn2 : n ≤ 1000) (w : World) :
    Calls Try.prog 159 #[.slice none 0 0, .int .i64 (n : Nat)] w fun e w' => ∃ g cp, e = .returned (.slice (some ⟨g, 0, none⟩) 0 cp) ∧ w'.ownsRow w.heap.size 24 3 (.slice (some ⟨g, 0, none⟩) 0 cp) 0 [] ∧ Below w.heap.size w w' := by
  obtain ⟨i0, hi, hz0, hz1, hz2⟩ := infoFormula; (have hnI : (0 : Int) < (n : Int) := by omega); (have hnJ : (n : Int) ≤ 1000 := by omega)
  have hrz : ∀ ty, (Builtin.append_ #[22, 3] ty #[.slice none 0 0, .int .i64 (n : Nat)]).run Try.prog w = .ok (.slice (some ⟨w.heap.size, 0, none⟩) n (grownCap w n 0 24)) (w.drew.alloc (.cells (#[] ++ Builtin.zeroCells (Value.agg #[.int .i64 0, .string ⟨#[]⟩, .slice none 0 0]).cells n ++ Builtin.zeroCells (Value.agg #[.int .i64 0, .string ⟨#[]⟩, .slice none 0 0]).cells (grownCap w n 0 24 - n)) 24)) := fun ty => by
    (have h := Lib.run_append_grow_zeros w 22 3 ty 24 i0 (.agg #[.int .i64 0, .string ⟨#[]⟩, .slice none 0 0]) .i64 .i64 Try.underlying22 Try.underlying3 hi hz0 none 0 0 [] (run_firstCells_none w.drew i0.size 0 0 0) n hn (by omega) (by omega) (by omega) (by rw [hz2]; omega) (by rw [hz2]; exact growslice_fits (by omega) (by omega))); simpa using h
  have hGn : n ≤ grownCap w n 0 24 := grownCap_ge w _ _ _; (have hGm : grownCap w n 0 24 ≤ maxLen := grownCap_le_maxLen w n 0 24 (by unfold maxLen; omega)); generalize grownCap w n 0 24 = G at *; (have hG63 : (G : Int) ≤ 9223372036854775807 := by unfold maxLen at hGm; omega)
  have hOw : (w.drew.alloc (.cells (#[] ++ Builtin.zeroCells (Value.agg #[.int .i64 0, .string ⟨#[]⟩, .slice none 0 0]).cells n ++ Builtin.zeroCells (Value.agg #[.int .i64 0, .string ⟨#[]⟩, .slice none 0 0]).cells (G - n)) 24)).ownsRow w.heap.size 24 3 (.slice (some ⟨w.heap.size, 0, none⟩) 0 G) 0 [] := by
    refine ⟨rfl, Or.inr ⟨w.heap.size, G, _, rfl, Nat.le_refl _, blk_new _ _, Nat.zero_le _, hGm, ?_, rfl⟩⟩; have h3 : (Value.agg #[.int .i64 0, .string ⟨#[]⟩, .slice none 0 0]).cells.size = 3 := rfl; rw [Array.size_append, Array.size_append, size_zeroCells, size_zeroCells, h3]; simp only [Array.size_empty]; omega
  have HOw : Hid (World.ownsRow _ _ _ _ _ _ _) := hOw; have hBw : Below w.heap.size w (w.drew.alloc (.cells (#[] ++ Builtin.zeroCells (Value.agg #[.int .i64 0, .string ⟨#[]⟩, .slice none 0 0]).cells n ++ Builtin.zeroCells (Value.agg #[.int .i64 0, .string ⟨#[]⟩, .slice none 0 0]).cells (G - n)) 24)) := below_more (Below.refl _ w).drew _; generalize w.drew.alloc _ = W at *; clear hOw hz0 hz1 hz2 hi
  go_enter Try.func159, Try.ntmps159
  go_wp2_with (first
    | (at_builtin
       refine Lib.wpList_append_run _ rfl _ _ _ _ rfl _ _ rfl rfl _ _ (hrz _) ?_)
    | fail)
  all_goals
    go_ret; exact ⟨_, _, rfl, HOw.out, hBw⟩
end Go.Proofs.Ytffkoiemnchdgae
