/- Texts of one proof, one behind the other: CM1, CM2, CB1, CB2. -/
import Derived.Test.YtlmjnglcdgkomacB18
import Derived.Test.YtlmjnglcdgkomacB13
import Derived.Test.YtlmjnglcdgkomacB11
import Derived.Test.YtlmjnglcdgkomacB09
import Derived.Test.YtlmjnglcdgkomacB10
import Derived.Deep.RegionLaw
import Derived.Shelf.Sort.Plain
import Derived.Shelf.Slices.CompactS
import Derived.Shelf.Slices.In.SortNone
import Derived.Test.YtlmjnglcdgkomacProg
import Derived.Sort.OwnSorted
import Derived.Test.YtlmjnglcdgkomacB12
import Derived.Lib.AppendZerosOnto
/- Proofs as data, and what the checker says of them. -/
namespace Go.Proofs.Ytlmjnglcdgkomac

instance : BEq Fm := ⟨sameB⟩
instance : LawfulBEq Fm where
  eq_of_beq := fun {a b} h => sameB_eq a b h
  rfl := fun {a} => sameB_refl a
instance : DecidableEq Fm := fun a b => if h : (a == b) = true then isTrue (eq_of_beq h) else isFalse fun e => h (by rw [e]; exact sameB_refl b)

theorem hasF_mem (n : Fm) (fs : List Fm) : hasF n fs = true ↔ n ∈ fs := by
  unfold hasF; rw [List.any_eq_true]
  constructor
  · rintro ⟨g, hg, h⟩
    rw [← sameB_eq g n h]; exact hg
  · exact fun h => ⟨n, h, sameB_refl n⟩

/-- A proof: rule, formula, its end's two sides, and the proofs in it. -/
inductive Pf where
  | mk (rule : ByteArray) (f : Fm) (l r : List Fm) (ks : List Pf) : Pf
def Pf.rule : Pf → ByteArray
  | .mk a _ _ _ _ => a
def Pf.f : Pf → Fm
  | .mk _ f _ _ _ => f
def Pf.l : Pf → List Fm
  | .mk _ _ l _ _ => l
def Pf.r : Pf → List Fm
  | .mk _ _ _ r _ => r
/-- The code of the first formula that is not plain, and its number. -/
def firstBad : List Fm → Nat → Int × Int
  | [], _ => (0, 0)
  | f :: fs, i => if f.pcode.1 = 0 then firstBad fs (i + 1) else (f.pcode.1, (i : Nat))
def seqCode (l r : List Fm) : Int × Int := if 60 < l.length + r.length then (2, 0) else firstBad (l ++ r) 0

inductive Ru
  | ax | tr | fa | andL | andR | orL | thenR | notR | contrL | orR | thenL | notL | contrR | cut | orR1 | orR2
  deriving DecidableEq

/-- The rules' names: ax, true, false, and-l, and-r, or-l, then-r, not-r, contr-l, or-r, then-l, not-l, contr-r, cut, or-r1, or-r2; weak. -/
def Ru.text : Ru → List UInt8
  | ax => [97, 120]
  | tr => [116, 114, 117, 101]
  | fa => [102, 97, 108, 115, 101]
  | andL => [97, 110, 100, 45, 108]
  | andR => [97, 110, 100, 45, 114]
  | orL => [111, 114, 45, 108]
  | thenR => [116, 104, 101, 110, 45, 114]
  | notR => [110, 111, 116, 45, 114]
  | contrL => [99, 111, 110, 116, 114, 45, 108]
  | orR => [111, 114, 45, 114]
  | thenL => [116, 104, 101, 110, 45, 108]
  | notL => [110, 111, 116, 45, 108]
  | contrR => [99, 111, 110, 116, 114, 45, 114]
  | cut => [99, 117, 116]
  | orR1 => [111, 114, 45, 114, 49]
  | orR2 => [111, 114, 45, 114, 50]
def weakT : List UInt8 := [119, 101, 97, 107]
/-- The rules of a calculus. -/
def rulesL (i : Bool) : List Ru := [.ax, .tr, .fa, .andL, .andR, .orL, .thenR, .notR, .contrL] ++ if i then [.orR1, .orR2, .thenL, .notL, .cut] else [.orR, .thenL, .notL, .contrR, .cut]
def ruleOf (i : Bool) (t : List UInt8) : Option Ru := (rulesL i).find? fun r => decide (r.text = t)

def Fm.kidA : Fm → Fm
  | .mk _ _ (a :: _) => a
  | f => f
def Fm.kidB : Fm → Fm
  | .mk _ _ (_ :: b :: _) => b
  | f => f
/-- The premises, if the rule applies. -/
def prem (i : Bool) (q : Ru) (f : Fm) (l r : List Fm) : Option (List (List Fm × List Fm)) :=
  let g := l.erase f
  let d := r.erase f
  let a := f.kidA
  let b := f.kidB
  match q with
  | .ax => if f ∈ l ∧ f ∈ r then some [] else none
  | .tr => if f.kind = 2 ∧ f ∈ r then some [] else none
  | .fa => if f.kind = 3 ∧ f ∈ l then some [] else none
  | .andL => if f.kind = 5 ∧ f ∈ l then some [(g ++ [a, b], r)] else none
  | .andR => if f.kind = 5 ∧ f ∈ r then some [(l, d ++ [a]), (l, d ++ [b])] else none
  | .orL => if f.kind = 6 ∧ f ∈ l then some [(g ++ [a], r), (g ++ [b], r)] else none
  | .thenR => if f.kind = 7 ∧ f ∈ r then some [(l ++ [a], d ++ [b])] else none
  | .notR => if f.kind = 4 ∧ f ∈ r then some [(l ++ [a], d)] else none
  | .contrL => if f ∈ l then some [(l ++ [f], r)] else none
  | .orR => if f.kind = 6 ∧ f ∈ r then some [(l, d ++ [a, b])] else none
  | .thenL => if f.kind = 7 ∧ f ∈ l then some [(g, if i then [a] else r ++ [a]), (g ++ [b], r)] else none
  | .notL => if f.kind = 4 ∧ f ∈ l then some [(g, if i then [a] else r ++ [a])] else none
  | .contrR => if f ∈ r then some [(l, r ++ [f])] else none
  | .cut => some [(l, if i then [f] else r ++ [f]), (l ++ [f], r)]
  | .orR1 => if f.kind = 6 ∧ f ∈ r then some [(l, [a])] else none
  | .orR2 => if f.kind = 6 ∧ f ∈ r then some [(l, [b])] else none

/-- Has no formula more often than. -/
def within : List Fm → List Fm → Bool
  | [], _ => true
  | f :: l, m => decide (f ∈ m) && within l (m.erase f)
def isEq (l m : List Fm) : Bool := decide (l.length = m.length) && within l m
def kidsC : List Pf → List (List Fm × List Fm) → Int
  | k :: ks, s :: ss => if isEq k.l s.1 && isEq k.r s.2 then kidsC ks ss else 7
  | _, _ => 0
def weakC (f : Fm) (l r : List Fm) (ks : List Pf) : Int :=
  if f = .mk 0 ⟨#[]⟩ [] then (match ks with
    | [k] => if within k.l l && within k.r r then 0 else 7
    | _ => 9) else 5
def stepC (i : Bool) : Pf → Int
  | .mk a f l r ks =>
    if (seqCode l r).1 ≠ 0 ∨ (i = true ∧ 1 < r.length) then 5
    else if a.data.toList = weakT then weakC f l r ks
    else match ruleOf i a.data.toList with
      | none => 4
      | some q => if f.pcode.1 ≠ 0 then 5 else match prem i q f l r with
        | none => 7
        | some ss => if ks.length ≠ ss.length then 9 else kidsC ks ss

mutual
def look (i : Bool) : Pf → Nat → Nat → Nat → (Int × Int) × Nat × Nat
  | .mk a f l r ks, deep, steps, cuts =>
    if steps = 20000 ∨ 400 < deep then ((2, 0), steps, cuts)
    else if stepC i (.mk a f l r ks) ≠ 0 then ((stepC i (.mk a f l r ks), (steps : Nat)), steps + 1, cuts)
    else looks i ks (deep + 1) (steps + 1) (if a.data.toList = Ru.cut.text then cuts + 1 else cuts)
def looks (i : Bool) : List Pf → Nat → Nat → Nat → (Int × Int) × Nat × Nat
  | [], _, s, c => ((0, 0), s, c)
  | k :: ks, d, s, c => if (look i k d s c).1.1 ≠ 0 then look i k d s c else looks i ks d (look i k d s c).2.1 (look i k d s c).2.2
end

/-! What is proved is true. -/
theorem within_count : ∀ (l m : List Fm), within l m = true ↔ ∀ f, l.count f ≤ m.count f
  | [], m => by simp [within]
  | f :: l, m => by
    rw [within, Bool.and_eq_true, decide_eq_true_eq, within_count l (m.erase f)]
    constructor
    · rintro ⟨hm, h⟩ g
      have := h g; rw [List.count_erase] at this; rw [List.count_cons]; have hp := List.count_pos_iff.2 hm; by_cases e : f == g
      · have e' : f = g := eq_of_beq e
        subst e'; simp only [beq_self_eq_true, if_true] at this ⊢; omega
      · rw [if_neg e] at *
        omega
    · intro h
      have hf := h f; rw [List.count_cons_self] at hf; (refine ⟨List.count_pos_iff.1 (by omega), fun g => ?_⟩); have := h g; rw [List.count_cons] at this; rw [List.count_erase]; by_cases e : f == g
      · rw [if_pos e] at *
        omega
      · rw [if_neg e] at *
        omega
theorem count_sum_perm {l m : List Fm} (hl : l.length = m.length) (h : within l m = true) : l.Perm m := by
  induction l generalizing m with
  | nil =>
    (have : m = [] := List.length_eq_zero_iff.1 (by simpa using hl.symm))
    rw [this]
  | cons f l ih =>
    rw [within, Bool.and_eq_true, decide_eq_true_eq] at h; have hm := h.1
    have := ih (m := m.erase f) (by
      have := List.length_erase_of_mem hm; simp only [List.length_cons] at hl
      omega) h.2
    exact (List.Perm.cons f this).trans (List.perm_cons_erase hm).symm
theorem isEq_perm (l m : List Fm) : isEq l m = true ↔ l.Perm m := by
  unfold isEq; rw [Bool.and_eq_true, decide_eq_true_eq]
  constructor
  · exact fun h => count_sum_perm h.1 h.2
  · exact fun h => ⟨h.length_eq, (within_count l m).2 fun f => Nat.le_of_eq (h.count_eq f)⟩
end Go.Proofs.Ytlmjnglcdgkomac
/- What is proved is true. -/
namespace Go.Proofs.Ytlmjnglcdgkomac

theorem fine_one_of {f : Fm} (hf : Fine f) (hk : f.kind = 4) : ∃ a, f = .mk 4 ⟨#[]⟩ [a] ∧ f.kidA = a ∧ Fine a := by
  rcases hf.forms with ⟨n, rfl, hn⟩ | rfl | rfl | ⟨k, g, h, rfl, hg⟩ | ⟨k, g, g', h, rfl, hg, hg'⟩
  · cases hk
  · cases hk
  · cases hk
  · have : k = 4 := hk
    subst this; exact ⟨g, rfl, rfl, hg⟩
  · have : k = 4 := hk
    omega
theorem fine_two_of {f : Fm} (hf : Fine f) (hk : f.kind = 5 ∨ f.kind = 6 ∨ f.kind = 7) : ∃ a b, f = .mk f.kind ⟨#[]⟩ [a, b] ∧ f.kidA = a ∧ f.kidB = b ∧ Fine a ∧ Fine b := by
  rcases hf.forms with ⟨n, rfl, hn⟩ | rfl | rfl | ⟨k, g, h, rfl, hg⟩ | ⟨k, g, g', h, rfl, hg, hg'⟩
  · rcases hk with h | h | h <;> cases h
  · rcases hk with h | h | h <;> cases h
  · rcases hk with h | h | h <;> cases h
  · have : k = 5 ∨ k = 6 ∨ k = 7 := hk
    omega
  · exact ⟨g, g', rfl, rfl, rfl, hg, hg'⟩

end Go.Proofs.Ytlmjnglcdgkomac
/- Walks: lists of formulas copied (slices.Clone). -/
namespace Go.Proofs.Ytlmjnglcdgkomac
open Go.RowKit

theorem reps_lq {ok : Nat → Prop} {w : World} {b : Nat} : ∀ {fs : List Fm} {off : Nat}, Reps w ok b off fs → ∃ cs, LQ ok w cs fs ∧ ∀ (j : Nat) (u : Value), cs[j]? = some u → w.cell? ⟨b, off + j, none⟩ = some u
  | [], off, _ => ⟨[], trivial, fun j u h => by simp at h⟩
  | f :: fs, off, h => by
    obtain ⟨⟨c0, c1, c2, h0, h1, h2, hr⟩, hs⟩ := Reps.cons.1 h; obtain ⟨cs, hl, hc⟩ := reps_lq hs; (refine ⟨c0 :: c1 :: c2 :: cs, ⟨hr, hl⟩, fun j u hu => ?_⟩)
    rcases j with _ | _ | _ | j
    · simp at hu; subst hu; exact h0
    · simp at hu; subst hu; exact h1
    · simp at hu; subst hu; exact h2
    · have := hc j u (by simpa using hu)
      (rw [show off + (j + 1 + 1 + 1) = off + 3 + j by omega]); exact this
theorem LQ.one {ok : Nat → Prop} {w : World} : ∀ {cs : List Value} {fs : List Fm}, LQ ok w cs fs → ∀ u ∈ cs, u.oneCell' = true
  | [], [], _, u, hu => by cases hu
  | c0 :: c1 :: c2 :: cs, ⟨k, n, ks⟩ :: fs, h, u, hu => by
    obtain ⟨sl, cap, hv, -⟩ := Rep.def.1 h.1; simp only [Value.agg.injEq, Array.mk.injEq, List.cons.injEq, and_true] at hv; obtain ⟨rfl, rfl, rfl⟩ := hv; simp only [List.mem_cons] at hu
    rcases hu with rfl | rfl | rfl | hu
    · rfl
    · rfl
    · rfl
    · exact LQ.one h.2 u hu

/-- A list of formulas, in blocks for which P holds. -/
def FLp (P : Nat → Prop) (w : World) (v : Value) (fs : List Fm) : Prop := ∃ ad cap, v = .slice ad fs.length cap ∧ fs.length ≤ cap ∧ cap ≤ maxLen ∧ (fs ≠ [] → ∃ b off, ad = some ⟨b, off, none⟩ ∧ P b ∧ Reps w P b off fs)
theorem reps_move {w w' : World} {P P' : Nat → Prop} {b : Nat} (h : ∀ k, k < w.heap.size → P k → w'.heap[k]? = w.heap[k]? ∧ P' k) {off : Nat} {fs : List Fm} (hb : P b) (hr : Reps w P b off fs) : Reps w' P' b off fs := by
  cases fs with
  | nil => exact Reps.nil
  | cons f fs =>
    obtain ⟨⟨c0, _, _, h0, _⟩, _⟩ := Reps.cons.1 hr; (exact Reps.keep (fun a ha hlt => cell_of_block (h a.block hlt ha).1) (fun k hk hp => (h k hk hp).2) hb (lt_of_cell h0) off _ hr)
theorem FLp.move {w w' : World} {P P' : Nat → Prop} {v : Value} {fs : List Fm} (hf : FLp P w v fs) (h : ∀ k, k < w.heap.size → P k → w'.heap[k]? = w.heap[k]? ∧ P' k) : FLp P' w' v fs := by
  obtain ⟨ad, cap, h1, h2, h3, h4⟩ := hf; (refine ⟨ad, cap, h1, h2, h3, fun hne => ?_⟩); obtain ⟨b, off, h5, h6, h7⟩ := h4 hne
  have hlt : b < w.heap.size := by
    cases fs with
    | nil => exact absurd rfl hne
    | cons f fs =>
      obtain ⟨⟨c0, _, _, h0, _⟩, _⟩ := Reps.cons.1 h7; exact lt_of_cell h0
  exact ⟨b, off, h5, (h b hlt h6).2, reps_move h h6 h7⟩
theorem FL.low {w : World} {v : Value} {fs : List Fm} (hf : FL w v fs) : FLp (· < w.heap.size) w v fs := by
  obtain ⟨ad, cap, h1, h2, h3, h4⟩ := hf; (exact FLp.move (P := fun _ => True) ⟨ad, cap, h1, h2, h3, fun hne => by obtain ⟨b, off, h5, h6⟩ := h4 hne; exact ⟨b, off, h5, trivial, h6⟩⟩ fun k hk _ => ⟨rfl, hk⟩)
theorem FLp.list {w : World} {P : Nat → Prop} {v : Value} {fs : List Fm} (hf : FLp P w v fs) : FL w v fs := by
  obtain ⟨ad, cap, h1, h2, h3, h4⟩ := hf; (refine ⟨ad, cap, h1, h2, h3, fun hne => ?_⟩); obtain ⟨b, off, h5, h6, h7⟩ := h4 hne; (exact ⟨b, off, h5, reps_move (fun _ _ _ => ⟨rfl, trivial⟩) h6 h7⟩)
theorem FLp.up {w w' : World} {P : Nat → Prop} {v : Value} {fs : List Fm} (hf : FLp P w v fs) (hb : Below w.heap.size w w') : FLp P w' v fs := hf.move fun k hk hp => ⟨hb.block k hk, hp⟩
theorem FLp.cells {P : Nat → Prop} {w : World} {ad : Option Addr} {cap : Nat} {fs : List Fm} (h : FLp P w (.slice ad fs.length cap) fs) (hne : fs ≠ []) : ∃ b off cs, ad = some ⟨b, off, none⟩ ∧ LQ P w cs fs ∧ ∀ (j : Nat) (u : Value), cs[j]? = some u → w.cell? ⟨b, off + j, none⟩ = some u := by
  obtain ⟨ad', cap', hv, -, -, h4⟩ := h; simp only [Value.slice.injEq, true_and] at hv; obtain ⟨rfl, rfl⟩ := hv; obtain ⟨b, off, h5, -, h6⟩ := h4 hne; obtain ⟨cs, h7, h8⟩ := reps_lq h6; exact ⟨b, off, cs, h5, h7, h8⟩
theorem kp_list {P : Nat → Prop} {B : Nat} {w : World} {ad : Option Addr} {cap : Nat} {fs : List Fm} (h : KP P B w ad cap fs) (hPB : ∀ b, B ≤ b → P b) : FLp P w (.slice ad fs.length cap) fs := by
  (obtain ⟨sl', cap', hv, -, h1, h2, h3⟩ := Rep.def.1 (h.rep hPB 0 ⟨#[]⟩ (by simp [maxLen, ByteArray.size]))); simp only [Value.agg.injEq, Array.mk.injEq, List.cons.injEq, Value.slice.injEq, true_and, and_true] at hv; obtain ⟨rfl, rfl⟩ := hv; exact ⟨ad, cap, rfl, h1, h2, h3⟩
theorem FL.flp {w : World} {v : Value} {fs : List Fm} (h : FL w v fs) : FLp (fun _ => True) w v fs := by
  obtain ⟨ad, cap, h1, h2, h3, h4⟩ := h; (exact ⟨ad, cap, h1, h2, h3, fun hne => by obtain ⟨b, off, h5, h6⟩ := h4 hne; exact ⟨b, off, h5, trivial, h6⟩⟩)

theorem nil_yes (n c : Nat) (w : World) : (binOp BinOp.eql 22 (.slice none n c) (.slice none 0 0)).run Try.prog w = .ok (.bool true) w := by kernel_rfl
theorem nil_no (a : Addr) (n c : Nat) (w : World) : (binOp BinOp.eql 22 (.slice (some a) n c) (.slice none 0 0)).run Try.prog w = .ok (.bool false) w := by kernel_rfl

set_option maxRecDepth 10000 in
set_option maxHeartbeats 2000000 in
theorem cloneF_low (P : Nat → Prop) (fs : List Fm) (hl : fs.length ≤ 1000) (v : Value) (w : World) (hv : FLp P w v fs) :
    Calls Try.prog 74 #[v] w fun e w' => ∃ ad cp, e = .returned (.slice ad fs.length cp) ∧ KP P w.heap.size w' ad cp fs ∧ Below w.heap.size w w' := by
  obtain ⟨ad, cap, rfl, h1, h2, h3⟩ := hv; have HV : Hid (FLp P w (.slice ad fs.length cap) fs) := ⟨ad, cap, rfl, h1, h2, h3⟩; obtain ⟨i0, hi, hz0, hz1, hz2⟩ := infoFormula; (have hlI : (fs.length : Int) ≤ 1000 := by omega); (have hny := fun n c w => nil_yes n c w); (have hnn := fun a n c w => nil_no a n c w); clear h3; by_cases hne : fs = []
  · subst hne
    cases ad with
    | none =>
      go_enter Try.func74, Try.ntmps74
      go_wp2_with fail; go_ret
      exact ⟨none, 0, rfl, KP.nil, Below.refl _ _⟩
    | some a =>
      go_enter Try.func74, Try.ntmps74
      go_wp2_with fail; go_ret; (exact ⟨some ⟨w.heap.size, 0, none⟩, 0, rfl, ⟨[], ⟨rfl, Or.inr ⟨w.heap.size, 0, #[], rfl, Nat.le_refl _, blk_new _ _, Nat.le_refl _, by simp, rfl, rfl⟩⟩, trivial⟩, below_more (Below.refl _ w) _⟩)
  · obtain ⟨b, off, cs, rfl, hlq, hcs⟩ := HV.out.cells hne
    have hpos : 0 < fs.length := List.length_pos_iff.2 hne; have hlen := hlq.len; have HOne : Hid (∀ u ∈ cs, u.oneCell' = true) := hlq.one; have HQ : Hid (LQ P w cs fs) := hlq; have HCs : Hid (∀ (j : Nat) (u : Value), cs[j]? = some u → w.cell? ⟨b, off + j, none⟩ = some u) := hcs; (have hown : (w.alloc (.cells #[] 24 (0, 0))).ownsRow w.heap.size 24 3 (.slice (some ⟨w.heap.size, 0, none⟩) 0 0) 0 [] := ⟨rfl, Or.inr ⟨w.heap.size, 0, #[], rfl, Nat.le_refl _, blk_new _ _, Nat.le_refl _, by simp, rfl, rfl⟩⟩); clear hne hlq hcs
    go_enter Try.func74, Try.ntmps74
    go_wp2_with (first
      | (at_builtin
         refine wpList_append_lies _ rfl _ _ 22 rfl w.heap.size 24 i0 (.agg #[.int .i64 0, .string ⟨#[]⟩, .slice none 0 0]) 3 48 Try.underlying22 hi hz0 hz1 hz2 rfl (by decide) _ _ _ rfl hown ⟨b, off, none⟩ fs.length cap cs rfl hlen (fun j u hu => by
           rw [add_none]
           exact (((Below.refl _ w).alloc (Nat.le_refl _) _).cell (lt_of_cell (HCs.out j u hu))).trans (HCs.out j u hu)) HOne.out hpos (by unfold maxLen; omega) (by omega) (by simp) _ rfl ?_
         intro g3 cp3 w3 hown3 hgrow hat hlt3)
      | fail)
    have hown3' : w3.ownsRow w.heap.size 24 3 (.slice (some ⟨g3, 0, none⟩) fs.length cp3) fs.length cs := by
      have := hown3; rw [Nat.zero_add] at this; exact this
    have hgrow' : (w.alloc (.cells #[] 24 (0, 0))).grownBy w3 (some w.heap.size) := hgrow
    have hbl : ∀ j, j < w.heap.size → w3.heap[j]? = w.heap[j]? := fun j hj => by
      (rw [hgrow'.block j (by simp; omega) (fun e => by have := Option.some.inj e; omega), Below.heap_alloc _ _ _ hj])
    (have hB : Below w.heap.size w w3 := ⟨hgrow'.os, hgrow'.tape, hgrow'.output, by have := hgrow'.size; simp at this; omega, hbl⟩); have hg3 : w.heap.size ≤ g3 := (hown3'.lt g3 rfl).1
    have hKP : KP P w.heap.size w3 (some ⟨g3, 0, none⟩) cp3 fs := ⟨cs, hown3', HQ.out.move fun b hb hp => ⟨hbl b hb, hp, fun e => by
      (have : g3 = b := by simpa [Value.ownBlock] using e)
      omega⟩⟩
    clear hown3 hown3' hgrow hgrow' hat hown; (have hz : ((0 : Int) + (fs.length : Int)) = (fs.length : Int) := by omega); go_wp2_with fail; go_ret; refine ⟨some ⟨g3, 0, none⟩, cp3, ?_, hKP, hB⟩
    simp
end Go.Proofs.Ytlmjnglcdgkomac
/- Walks: room for formulas (slices.Grow). -/
namespace Go.Proofs.Ytlmjnglcdgkomac
open Go.RowKit

set_option maxRecDepth 10000 in
set_option maxHeartbeats 2000000 in
theorem grow_zero (w : World) :
    Calls Try.prog 73 #[.slice none 0 0, .int .i64 0] w fun e w' => e = .returned (.slice none 0 0) ∧ w' = w := by
  go_enter Try.func73, Try.ntmps73
  go_wp2_with fail; go_ret; exact ⟨rfl, rfl⟩

set_option maxRecDepth 10000 in
set_option maxHeartbeats 2000000 in
theorem grow_some (n : Nat) (hn : 0 < n) (hn2 : n ≤ 1000) (w : World) :
    Calls Try.prog 73 #[.slice none 0 0, .int .i64 (n : Nat)] w fun e w' => ∃ g cp, e = .returned (.slice (some ⟨g, 0, none⟩) 0 cp) ∧ w'.ownsRow w.heap.size 24 3 (.slice (some ⟨g, 0, none⟩) 0 cp) 0 [] ∧ Below w.heap.size w w' := by
  obtain ⟨i0, hi, hz0, hz1, hz2⟩ := infoFormula; (have hnI : (0 : Int) < (n : Int) := by omega); (have hnJ : (n : Int) ≤ 1000 := by omega)
  have hrz : ∀ ty, (Builtin.append_ #[22, 3] ty #[.slice none 0 0, .int .i64 (n : Nat)]).run Try.prog w = .ok (.slice (some ⟨w.heap.size, 0, none⟩) n (grownCap w n 0 24)) (w.drew.alloc (.cells (#[] ++ Builtin.zeroCells (Value.agg #[.int .i64 0, .string ⟨#[]⟩, .slice none 0 0]).cells n ++ Builtin.zeroCells (Value.agg #[.int .i64 0, .string ⟨#[]⟩, .slice none 0 0]).cells (grownCap w n 0 24 - n)) 24)) := fun ty => by
    (have h := Lib.run_append_grow_zeros w 22 3 ty 24 i0 (.agg #[.int .i64 0, .string ⟨#[]⟩, .slice none 0 0]) .i64 .i64 Try.underlying22 Try.underlying3 hi hz0 none 0 0 [] (run_firstCells_none w.drew i0.size 0 0 0) n hn (by omega) (by omega) (by omega) (by rw [hz2]; omega) (by rw [hz2]; exact growslice_fits (by omega) (by omega))); simpa using h
  have hGn : n ≤ grownCap w n 0 24 := grownCap_ge w _ _ _; (have hGm : grownCap w n 0 24 ≤ maxLen := grownCap_le_maxLen w n 0 24 (by unfold maxLen; omega)); generalize grownCap w n 0 24 = G at *; (have hG63 : (G : Int) ≤ 9223372036854775807 := by unfold maxLen at hGm; omega)
  have hOw : (w.drew.alloc (.cells (#[] ++ Builtin.zeroCells (Value.agg #[.int .i64 0, .string ⟨#[]⟩, .slice none 0 0]).cells n ++ Builtin.zeroCells (Value.agg #[.int .i64 0, .string ⟨#[]⟩, .slice none 0 0]).cells (G - n)) 24)).ownsRow w.heap.size 24 3 (.slice (some ⟨w.heap.size, 0, none⟩) 0 G) 0 [] := by
    refine ⟨rfl, Or.inr ⟨w.heap.size, G, _, rfl, Nat.le_refl _, blk_new _ _, Nat.zero_le _, hGm, ?_, rfl⟩⟩; have h3 : (Value.agg #[.int .i64 0, .string ⟨#[]⟩, .slice none 0 0]).cells.size = 3 := rfl; rw [Array.size_append, Array.size_append, size_zeroCells, size_zeroCells, h3]; simp only [Array.size_empty]; omega
  have HOw : Hid (World.ownsRow _ _ _ _ _ _ _) := hOw; have hBw : Below w.heap.size w (w.drew.alloc (.cells (#[] ++ Builtin.zeroCells (Value.agg #[.int .i64 0, .string ⟨#[]⟩, .slice none 0 0]).cells n ++ Builtin.zeroCells (Value.agg #[.int .i64 0, .string ⟨#[]⟩, .slice none 0 0]).cells (G - n)) 24)) := below_more (Below.refl _ w).drew _; generalize w.drew.alloc _ = W at *; clear hOw hz0 hz1 hz2 hi
  go_enter Try.func73, Try.ntmps73
  go_wp2_with (first
    | (at_builtin
       refine Lib.wpList_append_run _ rfl _ _ _ _ rfl _ _ rfl rfl _ _ (hrz _) ?_)
    | fail)
  all_goals
    go_ret; exact ⟨_, _, rfl, HOw.out, hBw⟩
end Go.Proofs.Ytlmjnglcdgkomac
