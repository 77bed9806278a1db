/- Texts of one proof, one behind the other: Tr6, Tr7, TY4, TZ1, CM1. -/
import Derived.Test.YtmahgfgndfcmpabB14
import Derived.Test.YtmahgfgndfcmpabB18
import Derived.Test.YtmahgfgndfcmpabB13
import Derived.Test.YtmahgfgndfcmpabB11
import Derived.Laws.EntriesVeiled
import Derived.Test.YtmahgfgndfcmpabB07
import Derived.Test.YtmahgfgndfcmpabB08
import Derived.Deep.RegionLaw
import Derived.Deep.DeepCutAuto
import Derived.Test.YtmahgfgndfcmpabB09
import Derived.Test.YtmahgfgndfcmpabB12
/- Walks: the first place of a bool; the names that are true in a row. -/
namespace Go.Proofs.Ytmahgfgndfcmpab
open Go.RowKit Go.Sort

/-- The names that are true in a row. -/
def rowN (r : Nat) : List (List UInt8) → Nat → List (List UInt8)
  | [], _ => []
  | t :: l, i => if r.testBit i then t :: rowN r l (i + 1) else rowN r l (i + 1)
theorem rowN_snoc (r : Nat) : ∀ (l : List (List UInt8)) (i : Nat) (t : List UInt8), rowN r (l ++ [t]) i = rowN r l i ++ if r.testBit (i + l.length) then [t] else []
  | [], i, t => by simp [rowN]
  | s :: l, i, t => by
    (rw [List.cons_append, rowN, rowN, rowN_snoc r l (i + 1) t, List.length_cons, show i + 1 + l.length = i + (l.length + 1) by omega])
    split <;> simp
theorem rowN_len (r : Nat) : ∀ (l : List (List UInt8)) (i : Nat), (rowN r l i).length ≤ l.length
  | [], i => by simp [rowN]
  | s :: l, i => by
    rw [rowN]; have := rowN_len r l (i + 1)
    split <;> simp <;> omega

theorem below_grown {B : Nat} {W w w5 : World} {ad : Option Addr} {cy n : Nat} {o : Obj} {xs : List Value} {T : TypeId} (hB : Below B W w) (hBs : B ≤ w.heap.size) (hk : w.ownsRow B T 1 (.slice ad n cy) n xs) (hg5 : (w.alloc o).grownBy w5 (Value.slice ad n cy).ownBlock) : Below B W w5 := by
  have h1 : Below B W (w.alloc o) := hB.alloc hBs o; (exact h1.trans ⟨hg5.os, hg5.tape, hg5.output, hg5.size, fun j hj => hg5.block j (by simp; omega) (fun e => by have := (World.ownsRow.lt hk j e.symm).1; omega)⟩)

end Go.Proofs.Ytmahgfgndfcmpab
/- Walks: namesOfPlain, Rows. -/
namespace Go.Proofs.Ytmahgfgndfcmpab
open Go.RowKit Go.Sort

theorem code_split (f : Fm) : f.code.1 = 0 → ∃ s, chk f 0 = .ok s := fun h => code_chk (code_zero h)
theorem pcode_ok {f : Fm} (h : f.pcode.1 = 0) : (∃ s, chk f 0 = .ok s) ∧ Plain f ∧ f.pcode = (0, 0) := by
  unfold Fm.pcode at *; by_cases hc : f.code.1 = 0
  · rw [if_pos hc] at h ⊢
    rcases hm : (modal f 0).2 with _ | _
    · refine ⟨code_split f hc, ?_, by simp⟩
      rw [modal_idx] at hm; exact hm
    · rw [hm] at h; simp at h
  · rw [if_neg hc] at h
    exact absurd h hc
theorem TL.sl {w : World} {v : Value} {l : List (List UInt8)} (h : TL w v l) : SL w v l := by
  obtain ⟨ad, cap, h1, h2, h3, h4⟩ := h; (refine ⟨ad, cap, h1, h2, h3, fun hne => ?_⟩); obtain ⟨g, h5, h6⟩ := h4 hne; (exact ⟨g, 0, h5, fun j t ht => by rw [Nat.zero_add]; exact h6 j t ht⟩)

end Go.Proofs.Ytmahgfgndfcmpab
/- Walks: the yardstick's PlainFault. -/
namespace Go.Proofs.Ytmahgfgndfcmpab
open Go.RowKit Go.Sort

set_option maxHeartbeats 1000000 in
theorem mkF_any (c a : Int) (w : World) : Calls Try.prog 16 #[.int .i64 c, .int .i64 a] w fun e w' => e = .returned (.agg #[.int .i64 c, .int .i64 a]) ∧ Below w.heap.size w w' := by
  have B := below_more (Below.refl _ w) (.cells #[.int .i64 c, .int .i64 a] 25 (0, 0))
  go_enter Try.func16, Try.ntmps16
  go_wp2_with fail; (exact bodyPost_ret (v := .agg #[.int .i64 c, .int .i64 a]) (by simp [results, Try.results16, go_sem]) rfl ⟨rfl, B⟩)

end Go.Proofs.Ytmahgfgndfcmpab
/- Walks: the opposite of a formula. -/
namespace Go.Proofs.Ytmahgfgndfcmpab
open Go.RowKit Go.Sort

set_option maxHeartbeats 1000000 in
theorem bothP_any (ok : Nat → Prop) (k : Int) (f g : Fm) (v u : Value) (w : World) (ho : ∀ b, w.heap.size ≤ b → ok b) (hv : Rep w ok f v) (hu : Rep w ok g u) :
    Calls Try.prog 25 #[.int .i64 k, v, u] w fun e w' => ∃ x, e = .returned x ∧ Rep w' ok (.mk k ⟨#[]⟩ [f, g]) x ∧ Below w.heap.size w w' := by
  obtain ⟨k1, n1, ks1⟩ := f; obtain ⟨k2, n2, ks2⟩ := g; obtain ⟨sl1, cp1, rfl⟩ := slice_shape hv; obtain ⟨sl2, cp2, rfl⟩ := slice_shape hu; have HV : Hid (Rep w ok (.mk k1 n1 ks1) (.agg #[.int .i64 k1, .string n1, .slice sl1 ks1.length cp1])) := hv; have HU : Hid (Rep w ok (.mk k2 n2 ks2) (.agg #[.int .i64 k2, .string n2, .slice sl2 ks2.length cp2])) := hu; have HO : Hid (∀ b, w.heap.size ≤ b → ok b) := ho; clear hv hu ho
  go_enter Try.func25, Try.ntmps25
  go_wp2_with fail; have q := blk_new (((w.alloc (.cells #[.int .i64 k1, .string n1, .slice sl1 ks1.length cp1] 37 (0, 0))).alloc (.cells #[.int .i64 k2, .string n2, .slice sl2 ks2.length cp2] 37 (0, 0))).alloc (.cells #[.int .i64 k, .string ⟨#[]⟩, .slice (some ⟨w.heap.size + 1 + 1 + 1, 0, none⟩) 2 2] 37 (0, 0))) (.cells #[.int .i64 k1, .string n1, .slice sl1 ks1.length cp1, .int .i64 k2, .string n2, .slice sl2 ks2.length cp2] 37 (0, 0)); (rw [show (((w.alloc (.cells #[.int .i64 k1, .string n1, .slice sl1 ks1.length cp1] 37 (0, 0))).alloc (.cells #[.int .i64 k2, .string n2, .slice sl2 ks2.length cp2] 37 (0, 0))).alloc (.cells #[.int .i64 k, .string ⟨#[]⟩, .slice (some ⟨w.heap.size + 1 + 1 + 1, 0, none⟩) 2 2] 37 (0, 0))).heap.size = w.heap.size + 1 + 1 + 1 by simp] at q); have B := below_more (below_more (below_more (below_more (Below.refl _ w) (.cells #[.int .i64 k1, .string n1, .slice sl1 ks1.length cp1] 37 (0, 0))) (.cells #[.int .i64 k2, .string n2, .slice sl2 ks2.length cp2] 37 (0, 0))) (.cells #[.int .i64 k, .string ⟨#[]⟩, .slice (some ⟨w.heap.size + 1 + 1 + 1, 0, none⟩) 2 2] 37 (0, 0))) (.cells #[.int .i64 k1, .string n1, .slice sl1 ks1.length cp1, .int .i64 k2, .string n2, .slice sl2 ks2.length cp2] 37 (0, 0)); (exact bodyPost_ret (v := .agg #[.int .i64 k, .string ⟨#[]⟩, .slice (some ⟨w.heap.size + 1 + 1 + 1, 0, none⟩) 2 2]) (by simp [results, Try.results25, go_sem]) rfl ⟨_, rfl, Rep.two q (HO.out _ (by omega)) (HV.out.up' B) (HU.out.up' B), B⟩)

set_option maxHeartbeats 1000000 in
theorem ofP_any (ok : Nat → Prop) (k : Int) (f : Fm) (v : Value) (w : World) (ho : ∀ b, w.heap.size ≤ b → ok b) (hv : Rep w ok f v) :
    Calls Try.prog 53 #[.int .i64 k, v] w fun e w' => ∃ x, e = .returned x ∧ Rep w' ok (.mk k ⟨#[]⟩ [f]) x ∧ Below w.heap.size w w' := by
  obtain ⟨k1, n1, ks1⟩ := f; obtain ⟨sl1, cp1, rfl⟩ := slice_shape hv; have HV : Hid (Rep w ok (.mk k1 n1 ks1) (.agg #[.int .i64 k1, .string n1, .slice sl1 ks1.length cp1])) := hv; have HO : Hid (∀ b, w.heap.size ≤ b → ok b) := ho; clear hv ho
  go_enter Try.func53, Try.ntmps53
  go_wp2_with fail; have q := blk_new ((w.alloc (.cells #[.int .i64 k1, .string n1, .slice sl1 ks1.length cp1] 37 (0, 0))).alloc (.cells #[.int .i64 k, .string ⟨#[]⟩, .slice (some ⟨w.heap.size + 1 + 1, 0, none⟩) 1 1] 37 (0, 0))) (.cells #[.int .i64 k1, .string n1, .slice sl1 ks1.length cp1] 37 (0, 0)); (rw [show ((w.alloc (.cells #[.int .i64 k1, .string n1, .slice sl1 ks1.length cp1] 37 (0, 0))).alloc (.cells #[.int .i64 k, .string ⟨#[]⟩, .slice (some ⟨w.heap.size + 1 + 1, 0, none⟩) 1 1] 37 (0, 0))).heap.size = w.heap.size + 1 + 1 by simp] at q); have B := below_more (below_more (below_more (Below.refl _ w) (.cells #[.int .i64 k1, .string n1, .slice sl1 ks1.length cp1] 37 (0, 0))) (.cells #[.int .i64 k, .string ⟨#[]⟩, .slice (some ⟨w.heap.size + 1 + 1, 0, none⟩) 1 1] 37 (0, 0))) (.cells #[.int .i64 k1, .string n1, .slice sl1 ks1.length cp1] 37 (0, 0)); (exact bodyPost_ret (v := .agg #[.int .i64 k, .string ⟨#[]⟩, .slice (some ⟨w.heap.size + 1 + 1, 0, none⟩) 1 1]) (by simp [results, Try.results53, go_sem]) rfl ⟨_, rfl, Rep.one q (HO.out _ (by omega)) (HV.out.up' B), B⟩)

end Go.Proofs.Ytmahgfgndfcmpab
/- Proofs as data, and what the checker says of them. -/
namespace Go.Proofs.Ytmahgfgndfcmpab

instance : BEq Fm := ⟨sameB⟩
instance : LawfulBEq Fm where
  eq_of_beq := fun {a b} h => sameB_eq a b h
  rfl := fun {a} => sameB_refl a
instance : DecidableEq Fm := fun a b => if h : (a == b) = true then isTrue (eq_of_beq h) else isFalse fun e => h (by rw [e]; exact sameB_refl b)

theorem hasF_mem (n : Fm) (fs : List Fm) : hasF n fs = true ↔ n ∈ fs := by
  unfold hasF; rw [List.any_eq_true]
  constructor
  · rintro ⟨g, hg, h⟩
    rw [← sameB_eq g n h]; exact hg
  · exact fun h => ⟨n, h, sameB_refl n⟩

/-- A proof: rule, formula, its end's two sides, and the proofs in it. -/
inductive Pf where
  | mk (rule : ByteArray) (f : Fm) (l r : List Fm) (ks : List Pf) : Pf
def Pf.l : Pf → List Fm
  | .mk _ _ l _ _ => l
def Pf.r : Pf → List Fm
  | .mk _ _ _ r _ => r
def Pf.ks : Pf → List Pf
  | .mk _ _ _ _ ks => ks

/-- The code of the first formula that is not plain, and its number. -/
def firstBad : List Fm → Nat → Int × Int
  | [], _ => (0, 0)
  | f :: fs, i => if f.pcode.1 = 0 then firstBad fs (i + 1) else (f.pcode.1, (i : Nat))
def seqCode (l r : List Fm) : Int × Int := if 60 < l.length + r.length then (2, 0) else firstBad (l ++ r) 0

inductive Ru
  | ax | tr | fa | andL | andR | orL | thenR | notR | contrL | orR | thenL | notL | contrR | cut | orR1 | orR2
  deriving DecidableEq

/-- The rules' names: ax, true, false, and-l, and-r, or-l, then-r, not-r, contr-l, or-r, then-l, not-l, contr-r, cut, or-r1, or-r2; weak. -/
def Ru.text : Ru → List UInt8
  | ax => [97, 120]
  | tr => [116, 114, 117, 101]
  | fa => [102, 97, 108, 115, 101]
  | andL => [97, 110, 100, 45, 108]
  | andR => [97, 110, 100, 45, 114]
  | orL => [111, 114, 45, 108]
  | thenR => [116, 104, 101, 110, 45, 114]
  | notR => [110, 111, 116, 45, 114]
  | contrL => [99, 111, 110, 116, 114, 45, 108]
  | orR => [111, 114, 45, 114]
  | thenL => [116, 104, 101, 110, 45, 108]
  | notL => [110, 111, 116, 45, 108]
  | contrR => [99, 111, 110, 116, 114, 45, 114]
  | cut => [99, 117, 116]
  | orR1 => [111, 114, 45, 114, 49]
  | orR2 => [111, 114, 45, 114, 50]
def weakT : List UInt8 := [119, 101, 97, 107]
/-- The rules of a calculus. -/
def rulesL (i : Bool) : List Ru := [.ax, .tr, .fa, .andL, .andR, .orL, .thenR, .notR, .contrL] ++ if i then [.orR1, .orR2, .thenL, .notL, .cut] else [.orR, .thenL, .notL, .contrR, .cut]
def ruleOf (i : Bool) (t : List UInt8) : Option Ru := (rulesL i).find? fun r => decide (r.text = t)

def Fm.kidA : Fm → Fm
  | .mk _ _ (a :: _) => a
  | f => f
def Fm.kidB : Fm → Fm
  | .mk _ _ (_ :: b :: _) => b
  | f => f
/-- The premises, if the rule applies. -/
def prem (i : Bool) (q : Ru) (f : Fm) (l r : List Fm) : Option (List (List Fm × List Fm)) :=
  let g := l.erase f
  let d := r.erase f
  let a := f.kidA
  let b := f.kidB
  match q with
  | .ax => if f ∈ l ∧ f ∈ r then some [] else none
  | .tr => if f.kind = 2 ∧ f ∈ r then some [] else none
  | .fa => if f.kind = 3 ∧ f ∈ l then some [] else none
  | .andL => if f.kind = 5 ∧ f ∈ l then some [(g ++ [a, b], r)] else none
  | .andR => if f.kind = 5 ∧ f ∈ r then some [(l, d ++ [a]), (l, d ++ [b])] else none
  | .orL => if f.kind = 6 ∧ f ∈ l then some [(g ++ [a], r), (g ++ [b], r)] else none
  | .thenR => if f.kind = 7 ∧ f ∈ r then some [(l ++ [a], d ++ [b])] else none
  | .notR => if f.kind = 4 ∧ f ∈ r then some [(l ++ [a], d)] else none
  | .contrL => if f ∈ l then some [(l ++ [f], r)] else none
  | .orR => if f.kind = 6 ∧ f ∈ r then some [(l, d ++ [a, b])] else none
  | .thenL => if f.kind = 7 ∧ f ∈ l then some [(g, if i then [a] else r ++ [a]), (g ++ [b], r)] else none
  | .notL => if f.kind = 4 ∧ f ∈ l then some [(g, if i then [a] else r ++ [a])] else none
  | .contrR => if f ∈ r then some [(l, r ++ [f])] else none
  | .cut => some [(l, if i then [f] else r ++ [f]), (l ++ [f], r)]
  | .orR1 => if f.kind = 6 ∧ f ∈ r then some [(l, [a])] else none
  | .orR2 => if f.kind = 6 ∧ f ∈ r then some [(l, [b])] else none

/-- Has no formula more often than. -/
def within : List Fm → List Fm → Bool
  | [], _ => true
  | f :: l, m => decide (f ∈ m) && within l (m.erase f)
def isEq (l m : List Fm) : Bool := decide (l.length = m.length) && within l m
def kidsC : List Pf → List (List Fm × List Fm) → Int
  | k :: ks, s :: ss => if isEq k.l s.1 && isEq k.r s.2 then kidsC ks ss else 7
  | _, _ => 0
def weakC (f : Fm) (l r : List Fm) (ks : List Pf) : Int :=
  if f = .mk 0 ⟨#[]⟩ [] then (match ks with
    | [k] => if within k.l l && within k.r r then 0 else 7
    | _ => 9) else 5
def stepC (i : Bool) : Pf → Int
  | .mk a f l r ks =>
    if (seqCode l r).1 ≠ 0 ∨ (i = true ∧ 1 < r.length) then 5
    else if a.data.toList = weakT then weakC f l r ks
    else match ruleOf i a.data.toList with
      | none => 4
      | some q => if f.pcode.1 ≠ 0 then 5 else match prem i q f l r with
        | none => 7
        | some ss => if ks.length ≠ ss.length then 9 else kidsC ks ss

mutual
def look (i : Bool) : Pf → Nat → Nat → Nat → (Int × Int) × Nat × Nat
  | .mk a f l r ks, deep, steps, cuts =>
    if steps = 20000 ∨ 400 < deep then ((2, 0), steps, cuts)
    else if stepC i (.mk a f l r ks) ≠ 0 then ((stepC i (.mk a f l r ks), (steps : Nat)), steps + 1, cuts)
    else looks i ks (deep + 1) (steps + 1) (if a.data.toList = Ru.cut.text then cuts + 1 else cuts)
def looks (i : Bool) : List Pf → Nat → Nat → Nat → (Int × Int) × Nat × Nat
  | [], _, s, c => ((0, 0), s, c)
  | k :: ks, d, s, c => if (look i k d s c).1.1 ≠ 0 then look i k d s c else looks i ks d (look i k d s c).2.1 (look i k d s c).2.2
end

/-! What is proved is true. -/
def Valid (l r : List Fm) : Prop := ∀ p, (∀ f ∈ l, tv p f = true) → ∃ g ∈ r, tv p g = true

theorem within_count : ∀ (l m : List Fm), within l m = true ↔ ∀ f, l.count f ≤ m.count f
  | [], m => by simp [within]
  | f :: l, m => by
    rw [within, Bool.and_eq_true, decide_eq_true_eq, within_count l (m.erase f)]
    constructor
    · rintro ⟨hm, h⟩ g
      have := h g; rw [List.count_erase] at this; rw [List.count_cons]; have hp := List.count_pos_iff.2 hm; by_cases e : f == g
      · have e' : f = g := eq_of_beq e
        subst e'; simp only [beq_self_eq_true, if_true] at this ⊢; omega
      · rw [if_neg e] at *
        omega
    · intro h
      have hf := h f; rw [List.count_cons_self] at hf; (refine ⟨List.count_pos_iff.1 (by omega), fun g => ?_⟩); have := h g; rw [List.count_cons] at this; rw [List.count_erase]; by_cases e : f == g
      · rw [if_pos e] at *
        omega
      · rw [if_neg e] at *
        omega
theorem within_sub {l m : List Fm} (h : within l m = true) : ∀ f ∈ l, f ∈ m := fun f hf => by
  have := (within_count l m).1 h f; have hp := List.count_pos_iff.2 hf; (exact List.count_pos_iff.1 (by omega))
theorem count_sum_perm {l m : List Fm} (hl : l.length = m.length) (h : within l m = true) : l.Perm m := by
  induction l generalizing m with
  | nil =>
    (have : m = [] := List.length_eq_zero_iff.1 (by simpa using hl.symm))
    rw [this]
  | cons f l ih =>
    rw [within, Bool.and_eq_true, decide_eq_true_eq] at h; have hm := h.1
    have := ih (m := m.erase f) (by
      have := List.length_erase_of_mem hm; simp only [List.length_cons] at hl
      omega) h.2
    exact (List.Perm.cons f this).trans (List.perm_cons_erase hm).symm
theorem isEq_perm (l m : List Fm) : isEq l m = true ↔ l.Perm m := by
  unfold isEq; rw [Bool.and_eq_true, decide_eq_true_eq]
  constructor
  · exact fun h => count_sum_perm h.1 h.2
  · exact fun h => ⟨h.length_eq, (within_count l m).2 fun f => Nat.le_of_eq (h.count_eq f)⟩
end Go.Proofs.Ytmahgfgndfcmpab
