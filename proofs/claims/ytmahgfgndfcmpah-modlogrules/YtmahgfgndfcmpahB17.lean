/- Texts of one proof, one behind the other: Math12, Swaps1, Tr10, TZ1, CM1, CB5, CC1, CC3, YM1, KM1, ML1. -/
import Derived.Test.YtmahgfgndfcmpahB15
import Derived.Test.YtmahgfgndfcmpahB13
import Derived.Test.YtmahgfgndfcmpahB11
import Derived.Test.YtmahgfgndfcmpahB08
import Derived.Test.YtmahgfgndfcmpahB01
import Derived.Test.YtmahgfgndfcmpahB10
import Derived.Laws.BitsLemmas
import Derived.Deep.RegionHeld3
import Derived.Test.YtmahgfgndfcmpahB14
import Derived.Sort.Walk0
import Derived.Deep.AppendSrc
import Derived.Laws.EntriesVeiled
import Derived.Lib.AppendZerosOnto
import Derived.Deep.RegionLaw
import Derived.Lib.SliceRun
import Derived.Maps.OwnSet
import Derived.Shelf.SlMaps.Copy
import Derived.Test.YtmahgfgndfcmpahB06
import Derived.Test.YtmahgfgndfcmpahB16
/- What a formula for a name does to names and sizes. -/
namespace Go.Proofs.Ytmahgfgndfcmpah

theorem hasN_kind {nm : ByteArray} {k : Int} {n : ByteArray} {ks : List Fm} (h : k ≠ 1) : hasN nm (.mk k n ks) = false := by simp [hasN, h]

theorem put_leaf (nm : ByteArray) (g : Fm) (n : ByteArray) : putF nm g (.mk 1 n []) = if n.data.toList = nm.data.toList then g else .mk 1 n [] := by
  rw [putF, putFs]; by_cases h : n.data.toList = nm.data.toList
  · rw [if_pos h, if_pos (by simp [hasN, h])]
  · rw [if_neg h, if_neg (by simp [hasN, h])]
theorem put_other (nm : ByteArray) (g : Fm) {k : Int} (hk : k ≠ 1) (n : ByteArray) (ks : List Fm) : putF nm g (.mk k n ks) = .mk k n (ks.map (putF nm g)) := by
  rw [putF, hasN_kind hk, putFs_map]; rfl

end Go.Proofs.Ytmahgfgndfcmpah
/- Walks: what FormulaSwaps calls. -/
namespace Go.Proofs.Ytmahgfgndfcmpah
open Go.RowKit

set_option maxHeartbeats 1000000 in
theorem named_any (n : ByteArray) (w : World) :
    Calls Try.prog 13 #[.string n] w fun e w' => e = .returned (.agg #[.int .i64 1, .string n, .slice none 0 0]) ∧ Below w.heap.size w w' := by
  have B := (Below.refl w.heap.size w).alloc (Nat.le_refl _)
  go_enter Try.func13, Try.ntmps13
  go_wp2_with fail; (exact bodyPost_ret (v := .agg #[.int .i64 1, .string n, .slice none 0 0]) (by simp [results, Try.results13, go_sem]) rfl ⟨rfl, B _⟩)

theorem code_zero {f : Fm} (h : f.code.1 = 0) : f.code = (0, 0) := by
  rcases hx : chk f 0 with s | ⟨c, a⟩
  · simp only [Fm.code, hx]
  · have := chk_code f 0 c a hx
    simp only [Fm.code, hx] at h; exact absurd h this
theorem code_chk {f : Fm} (h : f.code = (0, 0)) : ∃ s, chk f 0 = .ok s := by
  rcases hx : chk f 0 with s | ⟨c, a⟩
  · exact ⟨s, rfl⟩
  · have := chk_code f 0 c a hx
    simp only [Fm.code, hx] at h; exact absurd (Prod.mk.inj h).1 this

end Go.Proofs.Ytmahgfgndfcmpah
/- Walks: isNoName, IndexFunc over texts, Value. -/
namespace Go.Proofs.Ytmahgfgndfcmpah
open Go.RowKit Go.Sort

theorem fault_code (a b : Int) (w : World) : (Instr.field 32 (.agg #[.int .i64 a, .int .i64 b]) 0).run Try.prog w = .ok (.int .i64 a) w := by kernel_rfl

end Go.Proofs.Ytmahgfgndfcmpah
/- Walks: the opposite of a formula. -/
namespace Go.Proofs.Ytmahgfgndfcmpah
open Go.RowKit Go.Sort

set_option maxHeartbeats 1000000 in
theorem bothP_any (ok : Nat → Prop) (k : Int) (f g : Fm) (v u : Value) (w : World) (ho : ∀ b, w.heap.size ≤ b → ok b) (hv : Rep w ok f v) (hu : Rep w ok g u) :
    Calls Try.prog 9 #[.int .i64 k, v, u] w fun e w' => ∃ x, e = .returned x ∧ Rep w' ok (.mk k ⟨#[]⟩ [f, g]) x ∧ Below w.heap.size w w' := by
  obtain ⟨k1, n1, ks1⟩ := f; obtain ⟨k2, n2, ks2⟩ := g; obtain ⟨sl1, cp1, rfl⟩ := slice_shape hv; obtain ⟨sl2, cp2, rfl⟩ := slice_shape hu; have HV : Hid (Rep w ok (.mk k1 n1 ks1) (.agg #[.int .i64 k1, .string n1, .slice sl1 ks1.length cp1])) := hv; have HU : Hid (Rep w ok (.mk k2 n2 ks2) (.agg #[.int .i64 k2, .string n2, .slice sl2 ks2.length cp2])) := hu; have HO : Hid (∀ b, w.heap.size ≤ b → ok b) := ho; clear hv hu ho
  go_enter Try.func9, Try.ntmps9
  go_wp2_with fail; have q := blk_new (((w.alloc (.cells #[.int .i64 k1, .string n1, .slice sl1 ks1.length cp1] 24 (0, 0))).alloc (.cells #[.int .i64 k2, .string n2, .slice sl2 ks2.length cp2] 24 (0, 0))).alloc (.cells #[.int .i64 k, .string ⟨#[]⟩, .slice (some ⟨w.heap.size + 1 + 1 + 1, 0, none⟩) 2 2] 24 (0, 0))) (.cells #[.int .i64 k1, .string n1, .slice sl1 ks1.length cp1, .int .i64 k2, .string n2, .slice sl2 ks2.length cp2] 24 (0, 0)); (rw [show (((w.alloc (.cells #[.int .i64 k1, .string n1, .slice sl1 ks1.length cp1] 24 (0, 0))).alloc (.cells #[.int .i64 k2, .string n2, .slice sl2 ks2.length cp2] 24 (0, 0))).alloc (.cells #[.int .i64 k, .string ⟨#[]⟩, .slice (some ⟨w.heap.size + 1 + 1 + 1, 0, none⟩) 2 2] 24 (0, 0))).heap.size = w.heap.size + 1 + 1 + 1 by simp] at q); have B := below_more (below_more (below_more (below_more (Below.refl _ w) (.cells #[.int .i64 k1, .string n1, .slice sl1 ks1.length cp1] 24 (0, 0))) (.cells #[.int .i64 k2, .string n2, .slice sl2 ks2.length cp2] 24 (0, 0))) (.cells #[.int .i64 k, .string ⟨#[]⟩, .slice (some ⟨w.heap.size + 1 + 1 + 1, 0, none⟩) 2 2] 24 (0, 0))) (.cells #[.int .i64 k1, .string n1, .slice sl1 ks1.length cp1, .int .i64 k2, .string n2, .slice sl2 ks2.length cp2] 24 (0, 0)); (exact bodyPost_ret (v := .agg #[.int .i64 k, .string ⟨#[]⟩, .slice (some ⟨w.heap.size + 1 + 1 + 1, 0, none⟩) 2 2]) (by simp [results, Try.results9, go_sem]) rfl ⟨_, rfl, Rep.two q (HO.out _ (by omega)) (HV.out.up' B) (HU.out.up' B), B⟩)

set_option maxHeartbeats 1000000 in
theorem ofP_any (ok : Nat → Prop) (k : Int) (f : Fm) (v : Value) (w : World) (ho : ∀ b, w.heap.size ≤ b → ok b) (hv : Rep w ok f v) :
    Calls Try.prog 8 #[.int .i64 k, v] w fun e w' => ∃ x, e = .returned x ∧ Rep w' ok (.mk k ⟨#[]⟩ [f]) x ∧ Below w.heap.size w w' := by
  obtain ⟨k1, n1, ks1⟩ := f; obtain ⟨sl1, cp1, rfl⟩ := slice_shape hv; have HV : Hid (Rep w ok (.mk k1 n1 ks1) (.agg #[.int .i64 k1, .string n1, .slice sl1 ks1.length cp1])) := hv; have HO : Hid (∀ b, w.heap.size ≤ b → ok b) := ho; clear hv ho
  go_enter Try.func8, Try.ntmps8
  go_wp2_with fail; have q := blk_new ((w.alloc (.cells #[.int .i64 k1, .string n1, .slice sl1 ks1.length cp1] 24 (0, 0))).alloc (.cells #[.int .i64 k, .string ⟨#[]⟩, .slice (some ⟨w.heap.size + 1 + 1, 0, none⟩) 1 1] 24 (0, 0))) (.cells #[.int .i64 k1, .string n1, .slice sl1 ks1.length cp1] 24 (0, 0)); (rw [show ((w.alloc (.cells #[.int .i64 k1, .string n1, .slice sl1 ks1.length cp1] 24 (0, 0))).alloc (.cells #[.int .i64 k, .string ⟨#[]⟩, .slice (some ⟨w.heap.size + 1 + 1, 0, none⟩) 1 1] 24 (0, 0))).heap.size = w.heap.size + 1 + 1 by simp] at q); have B := below_more (below_more (below_more (Below.refl _ w) (.cells #[.int .i64 k1, .string n1, .slice sl1 ks1.length cp1] 24 (0, 0))) (.cells #[.int .i64 k, .string ⟨#[]⟩, .slice (some ⟨w.heap.size + 1 + 1, 0, none⟩) 1 1] 24 (0, 0))) (.cells #[.int .i64 k1, .string n1, .slice sl1 ks1.length cp1] 24 (0, 0)); (exact bodyPost_ret (v := .agg #[.int .i64 k, .string ⟨#[]⟩, .slice (some ⟨w.heap.size + 1 + 1, 0, none⟩) 1 1]) (by simp [results, Try.results8, go_sem]) rfl ⟨_, rfl, Rep.one q (HO.out _ (by omega)) (HV.out.up' B), B⟩)

end Go.Proofs.Ytmahgfgndfcmpah
/- Proofs as data, and what the checker says of them. -/
namespace Go.Proofs.Ytmahgfgndfcmpah

instance : BEq Fm := ⟨sameB⟩
instance : LawfulBEq Fm where
  eq_of_beq := fun {a b} h => sameB_eq a b h
  rfl := fun {a} => sameB_refl a
instance : DecidableEq Fm := fun a b => if h : (a == b) = true then isTrue (eq_of_beq h) else isFalse fun e => h (by rw [e]; exact sameB_refl b)

def Fm.kidA : Fm → Fm
  | .mk _ _ (a :: _) => a
  | f => f
def Fm.kidB : Fm → Fm
  | .mk _ _ (_ :: b :: _) => b
  | f => f

/-! What is proved is true. -/
end Go.Proofs.Ytmahgfgndfcmpah
/- Walks: bag.Without. -/
namespace Go.Proofs.Ytmahgfgndfcmpah
open Go.RowKit

theorem wrap_small (n : Nat) (h : n < 9223372036854775808) : IntKind.i64.wrap (n : Int) = (n : Int) := by
  (have h1 : (n : Int).toNat = n := by omega); simp [IntKind.wrap, IntKind.bits, IntKind.signed]; omega

end Go.Proofs.Ytmahgfgndfcmpah
/- Walks: calculus.CheckSequent, isNoEnd. -/
namespace Go.Proofs.Ytmahgfgndfcmpah
open Go.RowKit

theorem blk_two (w : World) (o o' : Obj) : ((w.alloc o).alloc o').heap[w.heap.size + 1]? = some o' := by
  have := blk_new (w.alloc o) o'
  rwa [show (w.alloc o).heap.size = w.heap.size + 1 by simp] at this
end Go.Proofs.Ytmahgfgndfcmpah
/- Sequents in memory; facts that stay. -/
namespace Go.Proofs.Ytmahgfgndfcmpah
open Go.RowKit

/-! The facts on the way through a region. -/
def kEq (x : Value) : Value → World → Prop := fun v _ => v = x
theorem kEq_stays (x : Value) : Stays (kEq x) := fun _ _ _ h _ => h
end Go.Proofs.Ytmahgfgndfcmpah
/- The yardstick's premises, against the rules: plain. -/
namespace Go.Proofs.Ytmahgfgndfcmpah

def zeroF : Fm := .mk 0 ⟨#[]⟩ []
/-! Steps, as the yardstick lists them. -/
end Go.Proofs.Ytmahgfgndfcmpah
/- A table of formulas, sequents of numbers, and how a search takes them apart: plain. -/
namespace Go.Proofs.Ytmahgfgndfcmpah

/-- A part: a formula with the numbers of what is in it. -/
structure PartM where
  kind : Int
  name : ByteArray
  kids : List Nat
  deriving DecidableEq
def PartM.fm (fs : List Fm) (p : PartM) : Fm := .mk p.kind p.name (p.kids.map fun j => fs.getD j zeroF)
/-- The parts and the formulas that they are, each once, those in a formula ahead of it. -/
structure TabOk (ps : List PartM) (fs : List Fm) : Prop where
  len : ps.length = fs.length
  nodup : fs.Nodup
  at' : ∀ (n : Nat) (p : PartM), ps[n]? = some p → (∀ j ∈ p.kids, j < n) ∧ fs[n]? = some (p.fm fs)
theorem TabOk.nil : TabOk [] [] := ⟨rfl, List.nodup_nil, fun n p h => by simp at h⟩
theorem getD_lt {fs : List Fm} {j : Nat} (h : j < fs.length) : fs[j]? = some (fs.getD j zeroF) := by
  rw [List.getD_eq_getElem?_getD, List.getElem?_eq_getElem h]; rfl
theorem nodup_inj {fs : List Fm} (h : fs.Nodup) {i j : Nat} (hi : i < fs.length) (hj : j < fs.length) (e : fs.getD i zeroF = fs.getD j zeroF) : i = j := by
  have h1 := getD_lt hi; have h2 := getD_lt hj; rw [e, ← h2] at h1; exact (List.getElem?_inj hi h).1 h1
theorem kids_inj {fs : List Fm} (h : fs.Nodup) : ∀ {a b : List Nat}, (∀ j ∈ a, j < fs.length) → (∀ j ∈ b, j < fs.length) → (a.map fun j => fs.getD j zeroF) = (b.map fun j => fs.getD j zeroF) → a = b
  | [], [], _, _, _ => rfl
  | [], _ :: _, _, _, e => by simp at e
  | _ :: _, [], _, _, e => by simp at e
  | x :: a, y :: b, h1, h2, e => by
    rw [List.map_cons, List.map_cons] at e
    injection e with e1 e2
    (rw [nodup_inj h (h1 x List.mem_cons_self) (h2 y List.mem_cons_self) e1, kids_inj h (fun j hj => h1 j (List.mem_cons_of_mem _ hj)) (fun j hj => h2 j (List.mem_cons_of_mem _ hj)) e2])
/-- A part that is there is the formula's. -/
theorem TabOk.found {ps : List PartM} {fs : List Fm} (h : TabOk ps fs) {p : PartM} {n : Nat} (hn : ps[n]? = some p) : fs[n]? = some (p.fm fs) := (h.at' n p hn).2
/-- One that is not there is new. -/
theorem TabOk.fresh {ps : List PartM} {fs : List Fm} (h : TabOk ps fs) {p : PartM} (hk : ∀ j ∈ p.kids, j < fs.length) (hn : p ∉ ps) : p.fm fs ∉ fs := by
  intro hm; obtain ⟨n, hn'⟩ := List.getElem?_of_mem hm; (have hlt : n < ps.length := by rw [h.len]; exact (List.getElem?_eq_some_iff.1 hn').1); have hp := List.getElem?_eq_getElem hlt; obtain ⟨hq, hf⟩ := h.at' n _ hp; rw [hn'] at hf; have e := Option.some.inj hf; unfold PartM.fm at e
  injection e with e1 e2 e3
  (have e4 := kids_inj h.nodup hk (fun j hj => by have := hq j hj; rw [← h.len]; omega) e3)
  have e5 : p = ps[n] := by
    cases p
    cases hps : ps[n]
    rw [hps] at e1 e2 e4; simp only at e1 e2 e4; rw [e1, e2, e4]
  exact hn (e5 ▸ List.getElem_mem hlt)
theorem fm_grow {fs gs : List Fm} {p : PartM} (hk : ∀ j ∈ p.kids, j < fs.length) : p.fm (fs ++ gs) = p.fm fs := by
  unfold PartM.fm
  congr 1
  (refine List.map_congr_left fun j hj => ?_); rw [List.getD_eq_getElem?_getD, List.getD_eq_getElem?_getD, List.getElem?_append_left (hk j hj)]
theorem TabOk.snoc {ps : List PartM} {fs : List Fm} (h : TabOk ps fs) {p : PartM} (hk : ∀ j ∈ p.kids, j < fs.length) (hn : p ∉ ps) : TabOk (ps ++ [p]) (fs ++ [p.fm fs]) := by
  (refine ⟨by simp [h.len], ?_, fun n q hq => ?_⟩)
  · rw [List.nodup_append]
    (refine ⟨h.nodup, by simp, fun a ha b hb => ?_⟩); simp at hb; subst hb; (exact fun e => h.fresh hk hn (e ▸ ha))
  · rcases Nat.lt_or_ge n ps.length with hlt | hge
    · rw [List.getElem?_append_left hlt] at hq
      obtain ⟨h1, h2⟩ := h.at' n q hq; refine ⟨h1, ?_⟩; (rw [List.getElem?_append_left (by rw [← h.len]; exact hlt), h2, fm_grow fun j hj => by have := h1 j hj; rw [← h.len]; omega])
    · rw [List.getElem?_append_right hge] at hq
      have : n - ps.length = 0 := by
        rcases Nat.eq_zero_or_pos (n - ps.length) with h0 | h0
        · exact h0
        · rw [List.getElem?_eq_none (by simp; omega)] at hq; cases hq
      rw [this] at hq; simp at hq; subst hq; (have hn0 : n = ps.length := by omega); subst hn0; (refine ⟨fun j hj => by rw [h.len]; exact hk j hj, ?_⟩); rw [h.len, List.getElem?_append_right (Nat.le_refl _), Nat.sub_self, fm_grow hk]; rfl

/-! Items: a formula's number at a side: twice it at the left, one more at the right. -/
def PartM.k0 (p : PartM) : Nat := p.kids.getD 0 0
def PartM.k1 (p : PartM) : Nat := p.kids.getD 1 0
end Go.Proofs.Ytmahgfgndfcmpah
/- Sets of parts that can be true at one world of a logic's models, plain. -/
namespace Go.Proofs.Ytmahgfgndfcmpah

def noPart : PartM := ⟨0, ⟨#[]⟩, []⟩
def pk (ps : List PartM) (n : Nat) : Int := (ps.getD n noPart).kind
def pa (ps : List PartM) (n : Nat) : Nat := (ps.getD n noPart).kids.getD 0 0
def pb (ps : List PartM) (n : Nat) : Nat := (ps.getD n noPart).kids.getD 1 0
def pnm (ps : List PartM) (n : Nat) : List UInt8 := (ps.getD n noPart).name.data.toList
/-- What its kids make of a part. -/
def trN (ps : List PartM) (h n : Nat) : Bool :=
  if pk ps n = 2 then true else if pk ps n = 3 then false else if pk ps n = 4 then !h.testBit (pa ps n) else if pk ps n = 5 then h.testBit (pa ps n) && h.testBit (pb ps n) else if pk ps n = 6 then h.testBit (pa ps n) || h.testBit (pb ps n) else if pk ps n = 7 then !h.testBit (pa ps n) || h.testBit (pb ps n) else h.testBit n
def wholeB (ps : List PartM) (h : Nat) : Bool := (List.range ps.length).all fun n => h.testBit n == trN ps h n
def isMd (ps : List PartM) (n : Nat) : Bool := decide (pk ps n = 8) || decide (pk ps n = 9)
/-- Which boxes and diamonds want to see a world, and which are shown by one. -/
def wnB (ps : List PartM) (h n : Nat) : Bool := isMd ps n && (h.testBit n == decide (pk ps n = 9))
def swB (ps : List PartM) (h n : Nat) : Bool := isMd ps n && (h.testBit (pa ps n) == decide (pk ps n = 9))
def nextB (ps : List PartM) (u v : Nat) : Bool := subB ps.length (swB ps v) (wnB ps u)
def byndB (ps : List PartM) (u v : Nat) : Bool := nextB ps u v && subB ps.length (wnB ps v) (wnB ps u)
def onwB (ps : List PartM) (u v : Nat) : Bool := byndB ps u v && !decide (bm ps.length (wnB ps u) = bm ps.length (wnB ps v))
/-- Which worlds see each other, in the logic of this number. -/
def seesB (ps : List PartM) (k : Nat) (u v : Nat) : Bool :=
  if k = 8 then onwB ps u v else if k = 7 then nextB ps u v && nextB ps v u else if k = 6 then byndB ps u v && byndB ps v u else if k = 5 then byndB ps u v else if k = 4 then byndB ps u v else nextB ps u v
def itsB (k : Nat) : Bool := k == 3 || k == 5 || k == 6 || k == 7
def someB (k : Nat) : Bool := k == 2
def shownB (ps : List PartM) (k : Nat) (l : List Nat) (u n : Nat) : Bool := l.any fun v => seesB ps k u v && swB ps v n
def contB (ps : List PartM) (k : Nat) (l : List Nat) (u : Nat) : Bool := decide (bm ps.length (shownB ps k l u) = bm ps.length (wnB ps u)) && (l.any (seesB ps k u) || !someB k)
def allowB (ps : List PartM) (k u : Nat) : Bool := !itsB k || seesB ps k u u
/-- A list of worlds that are all content. -/
def Stable (ps : List PartM) (k : Nat) (l : List Nat) : Prop := ∀ x ∈ l, x < 2 ^ ps.length ∧ wholeB ps x = true ∧ allowB ps k x = true ∧ contB ps k l x = true
/-- A logic's models. -/
def ofB (k N : Nat) (R : Nat → Nat → Bool) : Bool :=
  if k = 1 then true else if k = 2 then sh4 N R else if k = 3 then sh0 N R else if k = 4 then sh1 N R else if k = 5 then sh0 N R && sh1 N R else if k = 6 then (sh0 N R && sh1 N R) && sh2 N R else if k = 7 then sh0 N R && sh2 N R else sh5 N R
/-- True at all worlds of all of a logic's models. -/
def ValidM (k : Nat) (f : Fm) : Prop := ∀ (N : Nat) (R : Nat → Nat → Bool) (p : Nat → List UInt8 → Bool), ofB k N R = true → ∀ u, u < N → mtv (seeR N R) p f u = true

section
variable {ps : List PartM} {fs : List Fm}
theorem getD_part {n : Nat} (h : n < ps.length) : ps[n]? = some (ps.getD n noPart) := by
  rw [List.getD_eq_getElem?_getD, List.getElem?_eq_getElem h]; rfl
/-- A part, by its kind. -/
theorem part_view (ht : TabOk ps fs) (hf : ∀ g ∈ fs, Fine g) {n : Nat} (hn : n < ps.length) :
    (∃ a, pk ps n = 1 ∧ fs.getD n zeroF = .mk 1 a [] ∧ pnm ps n = a.data.toList) ∨ (pk ps n = 2 ∧ fs.getD n zeroF = .mk 2 ⟨#[]⟩ []) ∨ (pk ps n = 3 ∧ fs.getD n zeroF = .mk 3 ⟨#[]⟩ []) ∨
    ((pk ps n = 4 ∨ pk ps n = 8 ∨ pk ps n = 9) ∧ fs.getD n zeroF = .mk (pk ps n) ⟨#[]⟩ [fs.getD (pa ps n) zeroF] ∧ pa ps n < n) ∨
    ((pk ps n = 5 ∨ pk ps n = 6 ∨ pk ps n = 7) ∧ fs.getD n zeroF = .mk (pk ps n) ⟨#[]⟩ [fs.getD (pa ps n) zeroF, fs.getD (pb ps n) zeroF] ∧ pa ps n < n ∧ pb ps n < n) := by
  obtain ⟨h1, h2⟩ := ht.at' n _ (getD_part hn); (have e : fs.getD n zeroF = (ps.getD n noPart).fm fs := by rw [List.getD_eq_getElem?_getD, h2]; rfl); have hfi : Fine ((ps.getD n noPart).fm fs) := hf _ (List.mem_of_getElem? h2); unfold pk pa pb pnm; rw [e]; generalize ps.getD n noPart = q at *; obtain ⟨k, a, ks⟩ := q; unfold PartM.fm at hfi ⊢; simp only at h1 hfi ⊢
  rcases hfi.forms with ⟨b, h, -⟩ | h | h | ⟨c, g, hc, h, -⟩ | ⟨c, g, g', hc, h, -, -⟩
  · injection h with h3 h4 h5
    (exact Or.inl ⟨a, h3, by rw [h3, h5], rfl⟩)
  · injection h with h3 h4 h5
    (exact Or.inr (Or.inl ⟨h3, by rw [h3, h4, h5]⟩))
  · injection h with h3 h4 h5
    (exact Or.inr (Or.inr (Or.inl ⟨h3, by rw [h3, h4, h5]⟩)))
  · injection h with h3 h4 h5
    match ks, h1, h5 with
    | [j], h1, h5 =>
      refine Or.inr (Or.inr (Or.inr (Or.inl ⟨by rw [h3]; exact hc, by rw [h4]; rfl, h1 j (by simp)⟩)))
    | [], _, h5 => simp at h5
    | _ :: _ :: _, _, h5 => simp at h5
  · injection h with h3 h4 h5
    match ks, h1, h5 with
    | [i, j], h1, h5 =>
      exact Or.inr (Or.inr (Or.inr (Or.inr ⟨by rw [h3]; exact hc, by rw [h4]; rfl, h1 i (by simp), h1 j (by simp)⟩)))
    | [], _, h5 => simp at h5
    | [_], _, h5 => simp at h5
    | _ :: _ :: _ :: _, _, h5 => simp at h5
theorem whole_iff {h : Nat} : wholeB ps h = true ↔ ∀ n, n < ps.length → h.testBit n = trN ps h n := by
  unfold wholeB; simp only [List.all_eq_true, List.mem_range, beq_iff_eq]
theorem sub_iff {N : Nat} {P Q : Nat → Bool} : subB N P Q = true ↔ ∀ i, i < N → P i = true → Q i = true := by
  unfold subB; exact decide_eq_true_iff
theorem bm_same {N : Nat} {P Q : Nat → Bool} : bm N P = bm N Q ↔ ∀ i, i < N → P i = Q i := ⟨fun h i hi => bm_inj h i hi, fun h => bm_ext h⟩
theorem sees_next {k u v : Nat} (h : seesB ps k u v = true) : nextB ps u v = true := by
  unfold seesB onwB byndB at h
  split at h
  · simp only [Bool.and_eq_true] at h; exact h.1.1
  split at h
  · simp only [Bool.and_eq_true] at h; exact h.1
  split at h
  · simp only [Bool.and_eq_true] at h; exact h.1.1
  split at h
  · simp only [Bool.and_eq_true] at h; exact h.1
  split at h
  · simp only [Bool.and_eq_true] at h; exact h.1
  · exact h
theorem cont_iff {k : Nat} {l : List Nat} {u : Nat} : contB ps k l u = true ↔ (∀ n, n < ps.length → wnB ps u n = true → ∃ v ∈ l, seesB ps k u v = true ∧ swB ps v n = true) ∧ (k = 2 → ∃ v ∈ l, seesB ps k u v = true) := by
  unfold contB someB shownB; rw [Bool.and_eq_true, decide_eq_true_iff, bm_same, Bool.or_eq_true, List.any_eq_true, Bool.not_eq_true']; (have e : (k == 2) = false ↔ k ≠ 2 := by simp); rw [e]
  constructor
  · rintro ⟨h1, h2⟩
    (refine ⟨fun n hn hw => ?_, fun hk => ?_⟩)
    · rw [← h1 n hn, List.any_eq_true] at hw
      obtain ⟨v, hv, h⟩ := hw; exact ⟨v, hv, Bool.and_eq_true_iff.1 h⟩
    · rcases h2 with h2 | h2
      · exact h2
      · exact absurd hk h2
  · rintro ⟨h1, h2⟩
    (refine ⟨fun n hn => ?_, ?_⟩)
    · rw [Bool.eq_iff_iff, List.any_eq_true]
      constructor
      · rintro ⟨v, hv, h⟩
        rw [Bool.and_eq_true] at h; exact sub_iff.1 (sees_next h.1) n hn h.2
      · intro h
        obtain ⟨v, hv, h3, h4⟩ := h1 n hn h; (exact ⟨v, hv, by rw [h3, h4]; rfl⟩)
    · by_cases hk : k = 2
      · exact Or.inl (h2 hk)
      · exact Or.inr hk
/-- What is content stays so among more. -/
theorem cont_more {k : Nat} {l l' : List Nat} {u : Nat} (h : contB ps k l u = true) (hs : ∀ x ∈ l, x ∈ l') : contB ps k l' u = true := by
  rw [cont_iff] at h ⊢; (refine ⟨fun n hn hw => ?_, fun hk => ?_⟩)
  · obtain ⟨v, hv, h2⟩ := h.1 n hn hw
    exact ⟨v, hs v hv, h2⟩
  · obtain ⟨v, hv, h2⟩ := h.2 hk
    exact ⟨v, hs v hv, h2⟩

/-! The model of a list of worlds. -/
def wAt (l : List Nat) (i : Nat) : Nat := l.getD i 0
def relW (ps : List PartM) (k : Nat) (l : List Nat) (i j : Nat) : Bool := seesB ps k (wAt l i) (wAt l j)
def namW (ps : List PartM) (l : List Nat) (i : Nat) (s : List UInt8) : Bool := (List.range ps.length).any fun n => decide (pk ps n = 1) && (decide (pnm ps n = s) && (wAt l i).testBit n)
theorem wAt_mem {l : List Nat} {i : Nat} (h : i < l.length) : wAt l i ∈ l := by
  unfold wAt; rw [List.getD_eq_getElem?_getD, List.getElem?_eq_getElem h]; exact List.getElem_mem h
theorem wAt_of {l : List Nat} {x : Nat} (h : x ∈ l) : ∃ i, i < l.length ∧ wAt l i = x := by
  obtain ⟨i, hi, e⟩ := List.getElem_of_mem h; refine ⟨i, hi, ?_⟩; unfold wAt; rw [List.getD_eq_getElem?_getD, List.getElem?_eq_getElem hi, e]; rfl
/-- Just the parts in a world are true at it. -/
theorem truth_at (ht : TabOk ps fs) (hf : ∀ g ∈ fs, Fine g) {k : Nat} {l : List Nat} (hl : Stable ps k l) : ∀ (m n : Nat), n < m → n < ps.length → ∀ i, i < l.length → mtv (seeR l.length (relW ps k l)) (namW ps l) (fs.getD n zeroF) i = (wAt l i).testBit n := by
  intro m
  induction m with
  | zero => intro n hn; omega
  | succ m ih =>
    intro n hnm hn i hi; obtain ⟨-, h2, -, h4⟩ := hl _ (wAt_mem hi); have hw := whole_iff.1 h2 n hn
    rcases part_view ht hf hn with ⟨a, e1, e2, e3⟩ | ⟨e1, e2⟩ | ⟨e1, e2⟩ | ⟨e1, e2, e3⟩ | ⟨e1, e2, e3, e4⟩
    · rw [e2, mtv, mtvs]
      show namW ps l i a.data.toList = _; rw [Bool.eq_iff_iff]; unfold namW; rw [List.any_eq_true]
      constructor
      · rintro ⟨j, hj, h⟩
        rw [List.mem_range] at hj; simp only [Bool.and_eq_true, decide_eq_true_iff] at h; obtain ⟨q1, q2, q3⟩ := h
        rcases part_view ht hf hj with ⟨a', d1, d2, d3⟩ | ⟨d1, -⟩ | ⟨d1, -⟩ | ⟨d1, -⟩ | ⟨d1, -⟩
        · have : a' = a := by
            apply ByteArray.ext; apply Array.ext'; rw [← d3, q2]
          rw [this, ← e2] at d2; (have := nodup_inj ht.nodup (by rw [← ht.len]; exact hj) (by rw [← ht.len]; exact hn) d2); rw [← this]; exact q3
        all_goals omega
      · intro h
        (exact ⟨n, List.mem_range.2 hn, by simp [e1, e3, h]⟩)
    · rw [e2, mtv, mtvs, hw]
      simp [mval, trN, e1]
    · rw [e2, mtv, mtvs, hw]
      simp [mval, trN, e1]
    · have ihA := ih (pa ps n) (by omega) (by omega)
      rw [e2]
      rcases e1 with e1 | e1 | e1
      · rw [e1, mtv_not, hw]
        simp only; rw [ihA i hi]; simp [trN, e1]
      · rw [e1, mtv_box]
        simp only; rw [Bool.eq_iff_iff, List.all_eq_true]; simp only [mem_seeR, and_imp]; (have hm : isMd ps n = true := by simp [isMd, e1])
        constructor
        · intro h
          cases hb : (wAt l i).testBit n with
          | true => rfl
          | false =>
            (obtain ⟨v, hv, h5, h6⟩ := (cont_iff.1 h4).1 n hn (by simp [wnB, hm, hb, e1])); obtain ⟨j, hj, rfl⟩ := wAt_of hv; have := h j hj h5; rw [ihA j hj] at this; simp [swB, hm, e1, this] at h6
        · intro h j hj hr
          rw [ihA j hj]
          cases hb : (wAt l j).testBit (pa ps n) with
          | true => rfl
          | false =>
            (have := sub_iff.1 (sees_next hr) n hn (by simp [swB, hm, hb, e1])); simp [wnB, hm, h, e1] at this
      · rw [e1, mtv_dia]
        simp only; rw [Bool.eq_iff_iff, List.any_eq_true]; (have hm : isMd ps n = true := by simp [isMd, e1])
        constructor
        · rintro ⟨j, hj, h⟩
          obtain ⟨hj1, hj2⟩ := mem_seeR.1 hj; rw [ihA j hj1] at h; (have := sub_iff.1 (sees_next hj2) n hn (by simp [swB, hm, h, e1])); simpa [wnB, hm, e1] using this
        · intro h
          (obtain ⟨v, hv, h5, h6⟩ := (cont_iff.1 h4).1 n hn (by simp [wnB, hm, h, e1])); obtain ⟨j, hj, rfl⟩ := wAt_of hv; refine ⟨j, mem_seeR.2 ⟨hj, h5⟩, ?_⟩; rw [ihA j hj]; simpa [swB, hm, e1] using h6
    · have ihA := ih (pa ps n) (by omega) (by omega) i hi
      (have ihB := ih (pb ps n) (by omega) (by omega) i hi); rw [e2, hw]
      rcases e1 with e1 | e1 | e1
      · rw [e1, mtv_and]
        simp only; rw [ihA, ihB]; simp [trN, e1]
      · rw [e1, mtv_or]
        simp only; rw [ihA, ihB]; simp [trN, e1]
      · rw [e1, mtv_then]
        simp only; rw [ihA, ihB]; simp [trN, e1]
theorem bynd_trans {a b c : Nat} (h1 : byndB ps a b = true) (h2 : byndB ps b c = true) : byndB ps a c = true := by
  unfold byndB at *; rw [Bool.and_eq_true] at *; obtain ⟨-, q2⟩ := h1; obtain ⟨q3, q4⟩ := h2; (exact ⟨sub_iff.2 fun i hi h => sub_iff.1 q2 i hi (sub_iff.1 q3 i hi h), sub_iff.2 fun i hi h => sub_iff.1 q2 i hi (sub_iff.1 q4 i hi h)⟩)
theorem onw_trans {a b c : Nat} (h1 : onwB ps a b = true) (h2 : onwB ps b c = true) : onwB ps a c = true := by
  unfold onwB at *; rw [Bool.and_eq_true] at *; refine ⟨bynd_trans h1.1 h2.1, ?_⟩; have q1 := h1.1; have q2 := h2.1; unfold byndB at q1 q2; rw [Bool.and_eq_true] at q1 q2; have q3 := h1.2; simp only [Bool.not_eq_true', decide_eq_false_iff_not] at q3 ⊢; intro e; (refine q3 (bm_same.2 fun i hi => ?_)); rw [Bool.eq_iff_iff]
  constructor
  · intro h
    rw [bm_same.1 e i hi] at h; exact sub_iff.1 q2.2 i hi h
  · exact sub_iff.1 q1.2 i hi
theorem allow_its {k u : Nat} (h : allowB ps k u = true) (hk : itsB k = true) : seesB ps k u u = true := by
  unfold allowB at h; rw [hk] at h; simpa using h
/-- It is a model of the logic. -/
theorem of_stable {k : Nat} (hk : 1 ≤ k ∧ k ≤ 8) {l : List Nat} (hl : Stable ps k l) : ofB k l.length (relW ps k l) = true := by
  (have refl : itsB k = true → sh0 l.length (relW ps k l) = true := fun h => sh0_iff.2 fun u hu => allow_its (hl _ (wAt_mem hu)).2.2.1 h); obtain ⟨h1, h8⟩ := hk; (have hc : k = 1 ∨ k = 2 ∨ k = 3 ∨ k = 4 ∨ k = 5 ∨ k = 6 ∨ k = 7 ∨ k = 8 := by omega)
  rcases hc with rfl | rfl | rfl | rfl | rfl | rfl | rfl | rfl
  · rfl
  · refine sh4_iff.2 fun u hu => ?_
    obtain ⟨v, hv, h⟩ := (cont_iff.1 (hl _ (wAt_mem hu)).2.2.2).2 rfl; obtain ⟨j, hj, rfl⟩ := wAt_of hv; exact ⟨j, hj, h⟩
  · exact refl rfl
  · exact sh1_iff.2 fun u v x _ _ _ a b => bynd_trans a b
  · show (sh0 _ _ && sh1 _ _) = true
    rw [refl rfl]; (exact sh1_iff.2 fun u v x _ _ _ a b => bynd_trans a b)
  · show ((sh0 _ _ && sh1 _ _) && sh2 _ _) = true
    rw [refl rfl, Bool.true_and, Bool.and_eq_true]; (refine ⟨sh1_iff.2 fun u v x _ _ _ a b => ?_, sh2_iff.2 fun u v _ _ a => ?_⟩)
    · have a' : (byndB ps _ _ && byndB ps _ _) = true := a
      have b' : (byndB ps _ _ && byndB ps _ _) = true := b; rw [Bool.and_eq_true] at a' b'; show (byndB ps _ _ && byndB ps _ _) = true; rw [Bool.and_eq_true]; exact ⟨bynd_trans a'.1 b'.1, bynd_trans b'.2 a'.2⟩
    · have a' : (byndB ps _ _ && byndB ps _ _) = true := a
      rw [Bool.and_eq_true] at a'; show (byndB ps _ _ && byndB ps _ _) = true; rw [Bool.and_eq_true]; exact ⟨a'.2, a'.1⟩
  · show (sh0 _ _ && sh2 _ _) = true
    rw [refl rfl, Bool.true_and]; (refine sh2_iff.2 fun u v _ _ a => ?_); have a' : (nextB ps _ _ && nextB ps _ _) = true := a; rw [Bool.and_eq_true] at a'; show (nextB ps _ _ && nextB ps _ _) = true; rw [Bool.and_eq_true]; exact ⟨a'.2, a'.1⟩
  · refine sh5_iff.2 ⟨sh1_iff.2 fun u v x _ _ _ a b => onw_trans a b, fun u _ => ?_⟩
    show onwB ps _ _ = false; simp [onwB]
end
end Go.Proofs.Ytmahgfgndfcmpah
