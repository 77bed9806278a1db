/- Texts of one proof, one behind the other: Parts3, PartsIn1, NamesIn1, Tr7, TZ1, CM1. -/
import Derived.Test.YtffkoiemnchdgaeB11
import Derived.Test.YtffkoiemnchdgaeB08
import Derived.Test.YtffkoiemnchdgaeB10
import Derived.Deep.RegionLaw
import Derived.Deep.DeepCutAuto
import Derived.Test.YtffkoiemnchdgaeB09
import Derived.Test.YtffkoiemnchdgaeB13
import Derived.Test.YtffkoiemnchdgaeB14
import Derived.Shelf.Sort.Plain
import Derived.Shelf.Slices.CompactS
import Derived.Shelf.Slices.In.SortNone
import Derived.Test.YtffkoiemnchdgaeProg
import Derived.Sort.OwnSorted
import Derived.Sort.Walk0
import Derived.Deep.AppendSrc
import Derived.Test.YtffkoiemnchdgaeB12
import Derived.Deep.RegionHeld3
import Derived.Laws.EntriesVeiled
/- Walks: Parts. -/
namespace Go.Proofs.Ytffkoiemnchdgae
open Go.RowKit

/-- Each formula once, in the order in which they come first. -/
def partsL : List Fm → List Fm → List Fm
  | acc, [] => acc
  | acc, f :: fs => partsL (if hasF f acc = true then acc else acc ++ [f]) fs
theorem partsL_append : ∀ (a acc b : List Fm), partsL acc (a ++ b) = partsL (partsL acc a) b
  | [], _, _ => rfl
  | f :: a, acc, b => by rw [List.cons_append, partsL, partsL, partsL_append a _ b]
theorem partsL_len : ∀ (a acc : List Fm), (partsL acc a).length ≤ acc.length + a.length
  | [], _ => by simp [partsL]
  | f :: a, acc => by
    rw [partsL]
    split
    · have := partsL_len a acc
      simp only [List.length_cons]; omega
    · have := partsL_len a (acc ++ [f])
      simp only [List.length_append, List.length_singleton] at this; simp only [List.length_cons]; omega

end Go.Proofs.Ytffkoiemnchdgae
/- Walks: the parts of a formula, as the yardstick tells them. -/
namespace Go.Proofs.Ytffkoiemnchdgae
open Go.RowKit

theorem KP.list {P : Nat → Prop} {B : Nat} {w : World} {ad : Option Addr} {cap : Nat} {fs : List Fm} (h : KP P B w ad cap fs) (hPB : ∀ b, B ≤ b → P b) : FL w (.slice ad fs.length cap) fs :=
  (h.rep hPB 0 e0 (by decide)).all.kids

theorem LR.repsA {A : Nat} {w : World} {b : Nat} : ∀ {cs : List Value} {fs : List Fm} (off : Nat), LR A w cs fs → (∀ (j : Nat) (u : Value), cs[j]? = some u → w.cell? ⟨b, off + j, none⟩ = some u) → Reps w (· < A) b off fs
  | [], [], _, _, _ => Reps.nil
  | c0 :: c1 :: c2 :: cs, f :: fs, off, h, hc => Reps.cons.2 ⟨⟨c0, c1, c2, hc 0 c0 rfl, hc 1 c1 rfl, hc 2 c2 rfl, h.1⟩, LR.repsA (off + 3) h.2 fun j u hu => by
      (have := hc (j + 3) u (by simpa using hu))
      rwa [show off + (j + 3) = off + 3 + j by omega] at this⟩

theorem walk_all (f : Fm) (h : f.size ≤ 20000) : walkL f 100000 = allN f := by
  (rw [walkL_take, List.take_of_length_le (by rw [allN_len]; omega)])

end Go.Proofs.Ytffkoiemnchdgae
/- Walks: the names of a formula, as the yardstick tells them. -/
namespace Go.Proofs.Ytffkoiemnchdgae
open Go.RowKit Go.Sort

theorem below_drewN {B : Nat} {w w' : World} (h : Below B w w') (n : Nat) : Below B w (w'.drewN n) := ⟨h.os, h.tape, h.output, h.size, h.block⟩
end Go.Proofs.Ytffkoiemnchdgae
/- Walks: namesOfPlain, Rows. -/
namespace Go.Proofs.Ytffkoiemnchdgae
open Go.RowKit Go.Sort

theorem code_split (f : Fm) : f.code.1 = 0 → ∃ s, chk f 0 = .ok s := fun h => code_chk (code_zero h)
theorem pcode_ok {f : Fm} (h : f.pcode.1 = 0) : (∃ s, chk f 0 = .ok s) ∧ Plain f ∧ f.pcode = (0, 0) := by
  unfold Fm.pcode at *; by_cases hc : f.code.1 = 0
  · rw [if_pos hc] at h ⊢
    rcases hm : (modal f 0).2 with _ | _
    · refine ⟨code_split f hc, ?_, by simp⟩
      rw [modal_idx] at hm; exact hm
    · rw [hm] at h; simp at h
  · rw [if_neg hc] at h
    exact absurd h hc
end Go.Proofs.Ytffkoiemnchdgae
/- Walks: the opposite of a formula. -/
namespace Go.Proofs.Ytffkoiemnchdgae
open Go.RowKit Go.Sort

set_option maxHeartbeats 1000000 in
theorem bothP_any (ok : Nat → Prop) (k : Int) (f g : Fm) (v u : Value) (w : World) (ho : ∀ b, w.heap.size ≤ b → ok b) (hv : Rep w ok f v) (hu : Rep w ok g u) :
    Calls Try.prog 39 #[.int .i64 k, v, u] w fun e w' => ∃ x, e = .returned x ∧ Rep w' ok (.mk k ⟨#[]⟩ [f, g]) x ∧ Below w.heap.size w w' := by
  obtain ⟨k1, n1, ks1⟩ := f; obtain ⟨k2, n2, ks2⟩ := g; obtain ⟨sl1, cp1, rfl⟩ := slice_shape hv; obtain ⟨sl2, cp2, rfl⟩ := slice_shape hu; have HV : Hid (Rep w ok (.mk k1 n1 ks1) (.agg #[.int .i64 k1, .string n1, .slice sl1 ks1.length cp1])) := hv; have HU : Hid (Rep w ok (.mk k2 n2 ks2) (.agg #[.int .i64 k2, .string n2, .slice sl2 ks2.length cp2])) := hu; have HO : Hid (∀ b, w.heap.size ≤ b → ok b) := ho; clear hv hu ho
  go_enter Try.func39, Try.ntmps39
  go_wp2_with fail; have q := blk_new (((w.alloc (.cells #[.int .i64 k1, .string n1, .slice sl1 ks1.length cp1] 24 (0, 0))).alloc (.cells #[.int .i64 k2, .string n2, .slice sl2 ks2.length cp2] 24 (0, 0))).alloc (.cells #[.int .i64 k, .string ⟨#[]⟩, .slice (some ⟨w.heap.size + 1 + 1 + 1, 0, none⟩) 2 2] 24 (0, 0))) (.cells #[.int .i64 k1, .string n1, .slice sl1 ks1.length cp1, .int .i64 k2, .string n2, .slice sl2 ks2.length cp2] 24 (0, 0)); (rw [show (((w.alloc (.cells #[.int .i64 k1, .string n1, .slice sl1 ks1.length cp1] 24 (0, 0))).alloc (.cells #[.int .i64 k2, .string n2, .slice sl2 ks2.length cp2] 24 (0, 0))).alloc (.cells #[.int .i64 k, .string ⟨#[]⟩, .slice (some ⟨w.heap.size + 1 + 1 + 1, 0, none⟩) 2 2] 24 (0, 0))).heap.size = w.heap.size + 1 + 1 + 1 by simp] at q); have B := below_more (below_more (below_more (below_more (Below.refl _ w) (.cells #[.int .i64 k1, .string n1, .slice sl1 ks1.length cp1] 24 (0, 0))) (.cells #[.int .i64 k2, .string n2, .slice sl2 ks2.length cp2] 24 (0, 0))) (.cells #[.int .i64 k, .string ⟨#[]⟩, .slice (some ⟨w.heap.size + 1 + 1 + 1, 0, none⟩) 2 2] 24 (0, 0))) (.cells #[.int .i64 k1, .string n1, .slice sl1 ks1.length cp1, .int .i64 k2, .string n2, .slice sl2 ks2.length cp2] 24 (0, 0)); (exact bodyPost_ret (v := .agg #[.int .i64 k, .string ⟨#[]⟩, .slice (some ⟨w.heap.size + 1 + 1 + 1, 0, none⟩) 2 2]) (by simp [results, Try.results39, go_sem]) rfl ⟨_, rfl, Rep.two q (HO.out _ (by omega)) (HV.out.up' B) (HU.out.up' B), B⟩)

set_option maxHeartbeats 1000000 in
theorem ofP_any (ok : Nat → Prop) (k : Int) (f : Fm) (v : Value) (w : World) (ho : ∀ b, w.heap.size ≤ b → ok b) (hv : Rep w ok f v) :
    Calls Try.prog 56 #[.int .i64 k, v] w fun e w' => ∃ x, e = .returned x ∧ Rep w' ok (.mk k ⟨#[]⟩ [f]) x ∧ Below w.heap.size w w' := by
  obtain ⟨k1, n1, ks1⟩ := f; obtain ⟨sl1, cp1, rfl⟩ := slice_shape hv; have HV : Hid (Rep w ok (.mk k1 n1 ks1) (.agg #[.int .i64 k1, .string n1, .slice sl1 ks1.length cp1])) := hv; have HO : Hid (∀ b, w.heap.size ≤ b → ok b) := ho; clear hv ho
  go_enter Try.func56, Try.ntmps56
  go_wp2_with fail; have q := blk_new ((w.alloc (.cells #[.int .i64 k1, .string n1, .slice sl1 ks1.length cp1] 24 (0, 0))).alloc (.cells #[.int .i64 k, .string ⟨#[]⟩, .slice (some ⟨w.heap.size + 1 + 1, 0, none⟩) 1 1] 24 (0, 0))) (.cells #[.int .i64 k1, .string n1, .slice sl1 ks1.length cp1] 24 (0, 0)); (rw [show ((w.alloc (.cells #[.int .i64 k1, .string n1, .slice sl1 ks1.length cp1] 24 (0, 0))).alloc (.cells #[.int .i64 k, .string ⟨#[]⟩, .slice (some ⟨w.heap.size + 1 + 1, 0, none⟩) 1 1] 24 (0, 0))).heap.size = w.heap.size + 1 + 1 by simp] at q); have B := below_more (below_more (below_more (Below.refl _ w) (.cells #[.int .i64 k1, .string n1, .slice sl1 ks1.length cp1] 24 (0, 0))) (.cells #[.int .i64 k, .string ⟨#[]⟩, .slice (some ⟨w.heap.size + 1 + 1, 0, none⟩) 1 1] 24 (0, 0))) (.cells #[.int .i64 k1, .string n1, .slice sl1 ks1.length cp1] 24 (0, 0)); (exact bodyPost_ret (v := .agg #[.int .i64 k, .string ⟨#[]⟩, .slice (some ⟨w.heap.size + 1 + 1, 0, none⟩) 1 1]) (by simp [results, Try.results56, go_sem]) rfl ⟨_, rfl, Rep.one q (HO.out _ (by omega)) (HV.out.up' B), B⟩)

end Go.Proofs.Ytffkoiemnchdgae
/- Proofs as data, and what the checker says of them. -/
namespace Go.Proofs.Ytffkoiemnchdgae

instance : BEq Fm := ⟨sameB⟩
instance : LawfulBEq Fm where
  eq_of_beq := fun {a b} h => sameB_eq a b h
  rfl := fun {a} => sameB_refl a
instance : DecidableEq Fm := fun a b => if h : (a == b) = true then isTrue (eq_of_beq h) else isFalse fun e => h (by rw [e]; exact sameB_refl b)

theorem hasF_mem (n : Fm) (fs : List Fm) : hasF n fs = true ↔ n ∈ fs := by
  unfold hasF; rw [List.any_eq_true]
  constructor
  · rintro ⟨g, hg, h⟩
    rw [← sameB_eq g n h]; exact hg
  · exact fun h => ⟨n, h, sameB_refl n⟩

/-- A proof: rule, formula, its end's two sides, and the proofs in it. -/
inductive Pf where
  | mk (rule : ByteArray) (f : Fm) (l r : List Fm) (ks : List Pf) : Pf
def Pf.rule : Pf → ByteArray
  | .mk a _ _ _ _ => a
def Pf.f : Pf → Fm
  | .mk _ f _ _ _ => f
def Pf.l : Pf → List Fm
  | .mk _ _ l _ _ => l
def Pf.r : Pf → List Fm
  | .mk _ _ _ r _ => r
def Pf.ks : Pf → List Pf
  | .mk _ _ _ _ ks => ks

/-- The code of the first formula that is not plain, and its number. -/
def firstBad : List Fm → Nat → Int × Int
  | [], _ => (0, 0)
  | f :: fs, i => if f.pcode.1 = 0 then firstBad fs (i + 1) else (f.pcode.1, (i : Nat))
def seqCode (l r : List Fm) : Int × Int := if 60 < l.length + r.length then (2, 0) else firstBad (l ++ r) 0

inductive Ru
  | ax | tr | fa | andL | andR | orL | thenR | notR | contrL | orR | thenL | notL | contrR | cut | orR1 | orR2
  deriving DecidableEq

/-- The rules' names: ax, true, false, and-l, and-r, or-l, then-r, not-r, contr-l, or-r, then-l, not-l, contr-r, cut, or-r1, or-r2; weak. -/
def Ru.text : Ru → List UInt8
  | ax => [97, 120]
  | tr => [116, 114, 117, 101]
  | fa => [102, 97, 108, 115, 101]
  | andL => [97, 110, 100, 45, 108]
  | andR => [97, 110, 100, 45, 114]
  | orL => [111, 114, 45, 108]
  | thenR => [116, 104, 101, 110, 45, 114]
  | notR => [110, 111, 116, 45, 114]
  | contrL => [99, 111, 110, 116, 114, 45, 108]
  | orR => [111, 114, 45, 114]
  | thenL => [116, 104, 101, 110, 45, 108]
  | notL => [110, 111, 116, 45, 108]
  | contrR => [99, 111, 110, 116, 114, 45, 114]
  | cut => [99, 117, 116]
  | orR1 => [111, 114, 45, 114, 49]
  | orR2 => [111, 114, 45, 114, 50]
def weakT : List UInt8 := [119, 101, 97, 107]
/-- The rules of a calculus. -/
def rulesL (i : Bool) : List Ru := [.ax, .tr, .fa, .andL, .andR, .orL, .thenR, .notR, .contrL] ++ if i then [.orR1, .orR2, .thenL, .notL, .cut] else [.orR, .thenL, .notL, .contrR, .cut]
def ruleOf (i : Bool) (t : List UInt8) : Option Ru := (rulesL i).find? fun r => decide (r.text = t)

def Fm.kidA : Fm → Fm
  | .mk _ _ (a :: _) => a
  | f => f
def Fm.kidB : Fm → Fm
  | .mk _ _ (_ :: b :: _) => b
  | f => f
/-- The premises, if the rule applies. -/
def prem (i : Bool) (q : Ru) (f : Fm) (l r : List Fm) : Option (List (List Fm × List Fm)) :=
  let g := l.erase f
  let d := r.erase f
  let a := f.kidA
  let b := f.kidB
  match q with
  | .ax => if f ∈ l ∧ f ∈ r then some [] else none
  | .tr => if f.kind = 2 ∧ f ∈ r then some [] else none
  | .fa => if f.kind = 3 ∧ f ∈ l then some [] else none
  | .andL => if f.kind = 5 ∧ f ∈ l then some [(g ++ [a, b], r)] else none
  | .andR => if f.kind = 5 ∧ f ∈ r then some [(l, d ++ [a]), (l, d ++ [b])] else none
  | .orL => if f.kind = 6 ∧ f ∈ l then some [(g ++ [a], r), (g ++ [b], r)] else none
  | .thenR => if f.kind = 7 ∧ f ∈ r then some [(l ++ [a], d ++ [b])] else none
  | .notR => if f.kind = 4 ∧ f ∈ r then some [(l ++ [a], d)] else none
  | .contrL => if f ∈ l then some [(l ++ [f], r)] else none
  | .orR => if f.kind = 6 ∧ f ∈ r then some [(l, d ++ [a, b])] else none
  | .thenL => if f.kind = 7 ∧ f ∈ l then some [(g, if i then [a] else r ++ [a]), (g ++ [b], r)] else none
  | .notL => if f.kind = 4 ∧ f ∈ l then some [(g, if i then [a] else r ++ [a])] else none
  | .contrR => if f ∈ r then some [(l, r ++ [f])] else none
  | .cut => some [(l, if i then [f] else r ++ [f]), (l ++ [f], r)]
  | .orR1 => if f.kind = 6 ∧ f ∈ r then some [(l, [a])] else none
  | .orR2 => if f.kind = 6 ∧ f ∈ r then some [(l, [b])] else none

/-- Has no formula more often than. -/
def within : List Fm → List Fm → Bool
  | [], _ => true
  | f :: l, m => decide (f ∈ m) && within l (m.erase f)
def isEq (l m : List Fm) : Bool := decide (l.length = m.length) && within l m
def kidsC : List Pf → List (List Fm × List Fm) → Int
  | k :: ks, s :: ss => if isEq k.l s.1 && isEq k.r s.2 then kidsC ks ss else 7
  | _, _ => 0
def weakC (f : Fm) (l r : List Fm) (ks : List Pf) : Int :=
  if f = .mk 0 ⟨#[]⟩ [] then (match ks with
    | [k] => if within k.l l && within k.r r then 0 else 7
    | _ => 9) else 5
def stepC (i : Bool) : Pf → Int
  | .mk a f l r ks =>
    if (seqCode l r).1 ≠ 0 ∨ (i = true ∧ 1 < r.length) then 5
    else if a.data.toList = weakT then weakC f l r ks
    else match ruleOf i a.data.toList with
      | none => 4
      | some q => if f.pcode.1 ≠ 0 then 5 else match prem i q f l r with
        | none => 7
        | some ss => if ks.length ≠ ss.length then 9 else kidsC ks ss

mutual
def look (i : Bool) : Pf → Nat → Nat → Nat → (Int × Int) × Nat × Nat
  | .mk a f l r ks, deep, steps, cuts =>
    if steps = 20000 ∨ 400 < deep then ((2, 0), steps, cuts)
    else if stepC i (.mk a f l r ks) ≠ 0 then ((stepC i (.mk a f l r ks), (steps : Nat)), steps + 1, cuts)
    else looks i ks (deep + 1) (steps + 1) (if a.data.toList = Ru.cut.text then cuts + 1 else cuts)
def looks (i : Bool) : List Pf → Nat → Nat → Nat → (Int × Int) × Nat × Nat
  | [], _, s, c => ((0, 0), s, c)
  | k :: ks, d, s, c => if (look i k d s c).1.1 ≠ 0 then look i k d s c else looks i ks d (look i k d s c).2.1 (look i k d s c).2.2
end

/-! What is proved is true. -/
theorem within_count : ∀ (l m : List Fm), within l m = true ↔ ∀ f, l.count f ≤ m.count f
  | [], m => by simp [within]
  | f :: l, m => by
    rw [within, Bool.and_eq_true, decide_eq_true_eq, within_count l (m.erase f)]
    constructor
    · rintro ⟨hm, h⟩ g
      have := h g; rw [List.count_erase] at this; rw [List.count_cons]; have hp := List.count_pos_iff.2 hm; by_cases e : f == g
      · have e' : f = g := eq_of_beq e
        subst e'; simp only [beq_self_eq_true, if_true] at this ⊢; omega
      · rw [if_neg e] at *
        omega
    · intro h
      have hf := h f; rw [List.count_cons_self] at hf; (refine ⟨List.count_pos_iff.1 (by omega), fun g => ?_⟩); have := h g; rw [List.count_cons] at this; rw [List.count_erase]; by_cases e : f == g
      · rw [if_pos e] at *
        omega
      · rw [if_neg e] at *
        omega
theorem count_sum_perm {l m : List Fm} (hl : l.length = m.length) (h : within l m = true) : l.Perm m := by
  induction l generalizing m with
  | nil =>
    (have : m = [] := List.length_eq_zero_iff.1 (by simpa using hl.symm))
    rw [this]
  | cons f l ih =>
    rw [within, Bool.and_eq_true, decide_eq_true_eq] at h; have hm := h.1
    have := ih (m := m.erase f) (by
      have := List.length_erase_of_mem hm; simp only [List.length_cons] at hl
      omega) h.2
    exact (List.Perm.cons f this).trans (List.perm_cons_erase hm).symm
theorem isEq_perm (l m : List Fm) : isEq l m = true ↔ l.Perm m := by
  unfold isEq; rw [Bool.and_eq_true, decide_eq_true_eq]
  constructor
  · exact fun h => count_sum_perm h.1 h.2
  · exact fun h => ⟨h.length_eq, (within_count l m).2 fun f => Nat.le_of_eq (h.count_eq f)⟩
end Go.Proofs.Ytffkoiemnchdgae
