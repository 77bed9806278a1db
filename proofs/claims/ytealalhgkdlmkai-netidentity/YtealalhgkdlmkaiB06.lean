/- Texts of one proof, one behind the other: Ref1, Ref2, Back1, Open1, Tok1, Tr3, Tr10, TY4, MD1, NT2, NT3. -/
import Derived.Test.YtealalhgkdlmkaiB03
import Derived.Test.YtealalhgkdlmkaiB04
import Derived.Lib.Builder
import Derived.Lib.AppendStr
import Derived.Lib.UnsafeStr
import Derived.Laws.Externs
import Derived.ProofKit
import Derived.Deep.Strs
import Derived.Deep.Slices
import Derived.Lib.SmallJoins
import Derived.Maps.OwnSet
import Derived.Maps.OwnOps
import Derived.Laws.BitsLemmas
import Derived.Deep.RegionHeld3
import Derived.Deep.DeepCutAuto
import Derived.Deep.CutBlock
import Derived.Deep.AppendLies
import Derived.Deep.RegionLaw
import Derived.Shelf.Sort.Plain
import Derived.Shelf.Slices.CompactS
import Derived.Shelf.Slices.In.SortNone
import Derived.Test.YtealalhgkdlmkaiProg
import Derived.Sort.OwnSorted
import Derived.Sort.Walk0
import Derived.Deep.AppendSrc
import Derived.Laws.EntriesVeiled
import Derived.Deep.Upon
import Derived.Lib.AppendZerosOnto
import Derived.Test.YtealalhgkdlmkaiB05
/- Walks: what the laws' own yardstick does with formulas. -/
namespace Go.Proofs.Ytealalhgkdlmkai
open Go.RowKit

/-- A bool is answered. -/
def IsB (e : Ending) : Prop := ∃ b, e = .returned (.bool b)

end Go.Proofs.Ytealalhgkdlmkai
/- Walks: Same. -/
namespace Go.Proofs.Ytealalhgkdlmkai
open Go.RowKit

mutual
def sameB : Fm → Fm → Bool
  | .mk k n ks, g => decide (k = g.kind) && decide (n.data.toList = g.name.data.toList) && decide (ks.length = g.kids.length) && sameBs ks g.kids
def sameBs : List Fm → List Fm → Bool
  | [], _ => true
  | _ :: _, [] => true
  | f :: fs, g :: gs => sameB f g && sameBs fs gs
end

mutual
theorem sameB_refl : ∀ f : Fm, sameB f f = true
  | .mk k n ks => by rw [sameB]; simp [Fm.kind, Fm.name, Fm.kids, sameBs_refl ks]
theorem sameBs_refl : ∀ fs : List Fm, sameBs fs fs = true
  | [] => by rw [sameBs]
  | f :: fs => by rw [sameBs, sameB_refl f, sameBs_refl fs]; rfl
end

mutual
theorem sameB_eq : ∀ f g : Fm, sameB f g = true → f = g
  | .mk k n ks, .mk k' n' ks', h => by
    rw [sameB] at h; simp only [Fm.kind, Fm.name, Fm.kids, Bool.and_eq_true] at h; obtain ⟨⟨⟨h1, h2⟩, h3⟩, h4⟩ := h
    replace h1 := of_decide_eq_true h1
    replace h2 := of_decide_eq_true h2
    replace h3 := of_decide_eq_true h3
    have h5 := sameBs_eq ks ks' h3 h4; subst h1 h5; (have h6 : n = n' := by apply ByteArray.ext; apply Array.ext'; exact h2); rw [h6]
theorem sameBs_eq : ∀ fs gs : List Fm, fs.length = gs.length → sameBs fs gs = true → fs = gs
  | [], [], _, _ => rfl
  | [], _ :: _, h, _ => by simp at h
  | _ :: _, [], h, _ => by simp at h
  | f :: fs, g :: gs, h, h' => by
    rw [sameBs, Bool.and_eq_true] at h'; (rw [sameB_eq f g h'.1, sameBs_eq fs gs (by simpa using h) h'.2])
end

end Go.Proofs.Ytealalhgkdlmkai
/- Walks: FormulaBack. -/
namespace Go.Proofs.Ytealalhgkdlmkai
open Go.RowKit

theorem below_keep {w w' : World} {k : Nat} {o : Obj} (hb : Below w.heap.size w w') (h : w.heap[k]? = some o) : w'.heap[k]? = some o := (hb.block k (lt_of_block h)).trans h
theorem alloc_keep {w : World} {k : Nat} {o : Obj} (h : w.heap[k]? = some o) (o' : Obj) : (w.alloc o').heap[k]? = some o := (Below.heap_alloc _ _ _ (lt_of_block h)).trans h
theorem below_join {W w w' : World} (h : Below W.heap.size W w) (hb : Below w.heap.size w w') : Below W.heap.size W w' := h.trans (hb.mono h.size)
theorem below_more {W w : World} (h : Below W.heap.size W w) (o : Obj) : Below W.heap.size W (w.alloc o) := h.alloc h.size o

end Go.Proofs.Ytealalhgkdlmkai
/- A formula that came in, as data. -/
namespace Go.Proofs.Ytealalhgkdlmkai
open Go.RowKit

theorem add_none (b off n : Nat) : (⟨b, off, none⟩ : Addr).add n = ⟨b, off + n, none⟩ := by
  (by_cases h : n = 0 <;> simp [Addr.add, h])

end Go.Proofs.Ytealalhgkdlmkai
/- Walks: the yardstick's names and tokens. -/
namespace Go.Proofs.Ytealalhgkdlmkai
open Go.RowKit

set_option maxHeartbeats 1000000 in
theorem refName_any (s : ByteArray) (hs : s.size ≤ maxLen) (w : World) :
    Calls Try.prog 42 #[.string s] w fun e w' => e = .returned (.bool (isNm s.data.toList)) ∧ w' = w := by
  have hsz : s.data.toList.length = s.size := Array.length_toList; unfold maxLen at hs; have HN : Hid (isNm s.data.toList = (allLow s.data.toList && decide (0 < s.data.toList.length) && decide (s.data.toList.length < 9))) := isNm_all _; have HZ : Hid (s.data.toList.length = s.size) := hsz; clear hsz
  go_enter Try.func42, Try.ntmps42
  go_wp2
  go_loop [3] (fun v => ∃ k l, At s k l ∧ v = .int .i64 (k : Nat) ∧ allLow s.data.toList = allLow l) (fun v => s.size - (intOf v).toNat)
  case atStart => exact ⟨0, s.data.toList, ⟨Nat.zero_le _, by simp⟩, rfl, rfl⟩
  case round =>
    obtain ⟨k, l, ha, rfl, hl⟩ := hrel; have hlen := ha.len; have HL : Hid (At s k l ∧ allLow s.data.toList = allLow l) := ⟨ha, hl⟩; clear ha hl
    cases l with
    | nil =>
      simp at hlen; (have hd : decide ((k : Int) < (s.size : Int)) = false := by simp; omega); go_wp2
      all_goals
        go_ret; refine ⟨ret_bool ?_, rfl⟩; rw [HN.out, HL.out.2, HZ.out]; rw [Bool.eq_iff_iff]; simp only [allLow, List.all_nil, Bool.true_and, Bool.and_eq_true, decide_eq_true_eq, Bool.false_eq_true, false_iff]
        omega
    | cons c l =>
      simp at hlen; (have hlt' : k < s.size := by omega); (have hlt : (k : Int) < (s.size : Int) := by omega); have hhd : s[k] = c := HL.out.1.head hlt'; by_cases hc : lower c
      · have hx : (97 : Int) ≤ (s[k].toNat : Int) := by rw [hhd]; simp [lower] at hc; omega
        (have hy : (s[k].toNat : Int) ≤ 122 := by rw [hhd]; simp [lower] at hc; omega); (have HM : Hid (At s (k + 1) l ∧ allLow s.data.toList = allLow l) := ⟨HL.out.1.cons, by rw [HL.out.2]; simp only [allLow, List.all_cons, hc, Bool.true_and]⟩); clear hhd hc; go_wp2
        go_round
        case rel => exact ⟨k + 1, l, HM.out.1, by go_num, HM.out.2⟩
        case measure => simp [intOf]; omega
      · have hx : ¬ ((97 : Int) ≤ (s[k].toNat : Int) ∧ (s[k].toNat : Int) ≤ 122) := by rw [hhd]; simp [lower] at hc; omega
        have HM : Hid (allLow s.data.toList = false) := by
          show _ = _; rw [HL.out.2]; simp only [allLow, List.all_cons, Bool.eq_false_iff.2 hc, Bool.false_and]
        clear hhd hc; go_wp2
        all_goals
          go_ret; refine ⟨ret_bool ?_, rfl⟩; rw [HN.out, HM.out]; rfl

end Go.Proofs.Ytealalhgkdlmkai
/- Walks: plainFault; names' places in a map; what is asked of them. -/
namespace Go.Proofs.Ytealalhgkdlmkai
open Go.RowKit Go.Maps Go.WideMaps

/-! A list of texts in memory, wherever it begins. -/
theorem zeroInt (w : World) : (zeroValue 3).run Try.prog w = .ok (.int .i64 0) w := by kernel_rfl
end Go.Proofs.Ytealalhgkdlmkai
/- Walks: isNoName, IndexFunc over texts, Value. -/
namespace Go.Proofs.Ytealalhgkdlmkai
open Go.RowKit Go.Sort

theorem code_name (s : ByteArray) : (Fm.mk 1 s []).code = if isNm s.data.toList then (0, 0) else (8, 0) := by
  by_cases h : isNm s.data.toList = true
  · rw [if_pos h]
    (have := chk_fine (.mk 1 s []) 0 (by have := fine_name (l := s.data.toList) h; exact this) (by rw [size_leaf]; omega)); simp only [Fm.code, this]
  · rw [if_neg h]
    have hn : nodeF 1 s 0 = some 8 := by
      (have h1 : kindB 1 = true := by decide); (have h2 : kidsN 1 = 0 := by decide); (have h3 : nameB 1 s = true := by simp [nameB, h]); simp [nodeF, h1, h2, h3]
    have : chk (.mk 1 s []) 0 = .bad 8 0 := by
      rw [chk]; simp [hn]
    simp only [Fm.code, this]; rfl

theorem fault_code (a b : Int) (w : World) : (Instr.field 28 (.agg #[.int .i64 a, .int .i64 b]) 0).run Try.prog w = .ok (.int .i64 a) w := by kernel_rfl

end Go.Proofs.Ytealalhgkdlmkai
/- Walks: the yardstick's PlainFault. -/
namespace Go.Proofs.Ytealalhgkdlmkai
open Go.RowKit Go.Sort

set_option maxHeartbeats 1000000 in
theorem mkF_any (c a : Int) (w : World) : Calls Try.prog 21 #[.int .i64 c, .int .i64 a] w fun e w' => e = .returned (.agg #[.int .i64 c, .int .i64 a]) ∧ Below w.heap.size w w' := by
  have B := below_more (Below.refl _ w) (.cells #[.int .i64 c, .int .i64 a] 28 (0, 0))
  go_enter Try.func21, Try.ntmps21
  go_wp2_with fail; (exact bodyPost_ret (v := .agg #[.int .i64 c, .int .i64 a]) (by simp [results, Try.results21, go_sem]) rfl ⟨rfl, B⟩)

end Go.Proofs.Ytealalhgkdlmkai
/- Models as data, in memory, and what is wrong with them. -/
namespace Go.Proofs.Ytealalhgkdlmkai
open Go.RowKit

/-- Pairs in memory. -/
def PL (w : World) (v : Value) (rs : List (Int × Int)) : Prop := ∃ ad cap, v = .slice ad rs.length cap ∧ rs.length ≤ cap ∧ cap ≤ maxLen ∧ (rs ≠ [] → ∃ b off, ad = some ⟨b, off, none⟩ ∧ ∀ (j : Nat) (x y : Int), rs[j]? = some (x, y) → w.cell? ⟨b, off + j * 2, none⟩ = some (.int .i64 x) ∧ w.cell? ⟨b, off + j * 2 + 1, none⟩ = some (.int .i64 y))
theorem PL.up {w w' : World} {v : Value} {rs : List (Int × Int)} (h : PL w v rs) (hb : Below w.heap.size w w') : PL w' v rs := by
  obtain ⟨ad, cap, rfl, h1, h2, h3⟩ := h; (refine ⟨ad, cap, rfl, h1, h2, fun hne => ?_⟩); obtain ⟨b, off, rfl, hc⟩ := h3 hne; (refine ⟨b, off, rfl, fun j x y hj => ?_⟩); obtain ⟨c1, c2⟩ := hc j x y hj; exact ⟨(hb.cell (lt_of_cell c1)).trans c1, (hb.cell (lt_of_cell c2)).trans c2⟩
end Go.Proofs.Ytealalhgkdlmkai
/- Linear formulas in memory. -/
namespace Go.Proofs.Ytealalhgkdlmkai
open Go.RowKit

mutual
def LRep (w : World) : Lm → Value → Prop
  | .mk k n g ks, v => ∃ sl cap, v = .agg #[.int .i64 k, .string n, .bool g, .slice sl ks.length cap] ∧ n.size ≤ maxLen ∧ ks.length ≤ cap ∧ cap ≤ maxLen ∧ (ks ≠ [] → ∃ b off, sl = some ⟨b, off, none⟩ ∧ LReps w b off ks)
def LReps (w : World) (b : Nat) : Nat → List Lm → Prop
  | _, [] => True
  | off, f :: fs => (∃ c0 c1 c2 c3, w.cell? ⟨b, off, none⟩ = some c0 ∧ w.cell? ⟨b, off + 1, none⟩ = some c1 ∧ w.cell? ⟨b, off + 2, none⟩ = some c2 ∧ w.cell? ⟨b, off + 3, none⟩ = some c3 ∧ LRep w f (.agg #[c0, c1, c2, c3])) ∧ LReps w b (off + 4) fs
end
theorem LRep.def {w : World} {k : Int} {n : ByteArray} {g : Bool} {ks : List Lm} {v : Value} : LRep w (.mk k n g ks) v ↔ ∃ sl cap, v = .agg #[.int .i64 k, .string n, .bool g, .slice sl ks.length cap] ∧ n.size ≤ maxLen ∧ ks.length ≤ cap ∧ cap ≤ maxLen ∧ (ks ≠ [] → ∃ b off, sl = some ⟨b, off, none⟩ ∧ LReps w b off ks) := by
  rw [LRep]
theorem LReps.nil {w : World} {b off : Nat} : LReps w b off [] := by rw [LReps]; trivial
theorem LReps.cons {w : World} {b off : Nat} {f : Lm} {fs : List Lm} : LReps w b off (f :: fs) ↔ (∃ c0 c1 c2 c3, w.cell? ⟨b, off, none⟩ = some c0 ∧ w.cell? ⟨b, off + 1, none⟩ = some c1 ∧ w.cell? ⟨b, off + 2, none⟩ = some c2 ∧ w.cell? ⟨b, off + 3, none⟩ = some c3 ∧ LRep w f (.agg #[c0, c1, c2, c3])) ∧ LReps w b (off + 4) fs := by
  rw [LReps]
mutual
theorem LRep.keep {w w' : World} (hc : ∀ a : Addr, a.block < w.heap.size → (∀ c, w.cell? a = some c → w'.cell? a = some c)) :
    ∀ (f : Lm) (v : Value), LRep w f v → LRep w' f v
  | .mk k n g ks, v, h => by
    rw [LRep.def] at h ⊢; obtain ⟨sl, cap, hv, hn, hl, hc', hk⟩ := h; (refine ⟨sl, cap, hv, hn, hl, hc', fun hne => ?_⟩); obtain ⟨b, off, hsl, hr⟩ := hk hne; exact ⟨b, off, hsl, LReps.keep hc off ks hr⟩
theorem LReps.keep {w w' : World} (hc : ∀ a : Addr, a.block < w.heap.size → (∀ c, w.cell? a = some c → w'.cell? a = some c)) {b : Nat} :
    ∀ (off : Nat) (fs : List Lm), LReps w b off fs → LReps w' b off fs
  | _, [], _ => LReps.nil
  | off, f :: fs, h => by
    rw [LReps.cons] at h ⊢; obtain ⟨⟨c0, c1, c2, c3, h0, h1, h2, h3, hr⟩, hrs⟩ := h; exact ⟨⟨c0, c1, c2, c3, hc _ (lt_of_cell h0) _ h0, hc _ (lt_of_cell h1) _ h1, hc _ (lt_of_cell h2) _ h2, hc _ (lt_of_cell h3) _ h3, LRep.keep hc f _ hr⟩, LReps.keep hc (off + 4) fs hrs⟩
end
/-- What is kept at blocks of linear formulas' cells keeps them. -/
theorem LReps.get {w : World} {b : Nat} : ∀ {off : Nat} {fs : List Lm} (_ : LReps w b off fs) (i : Nat) (f : Lm) (_ : fs[i]? = some f),
    ∃ c0 c1 c2 c3, w.cell? ⟨b, off + i * 4, none⟩ = some c0 ∧ w.cell? ⟨b, off + i * 4 + 1, none⟩ = some c1 ∧ w.cell? ⟨b, off + i * 4 + 2, none⟩ = some c2 ∧ w.cell? ⟨b, off + i * 4 + 3, none⟩ = some c3 ∧ LRep w f (.agg #[c0, c1, c2, c3])
  | off, [], _, i, f, hf => by simp at hf
  | off, g :: gs, h, i, f, hf => by
    obtain ⟨h1, h2⟩ := LReps.cons.1 h
    cases i with
    | zero => simp at hf; subst hf; simpa using h1
    | succ i =>
      (have := LReps.get h2 i f (by simpa using hf)); (have e : off + 4 + i * 4 = off + (i + 1) * 4 := by omega)
      rwa [e] at this
theorem LReps.at {w : World} {b off : Nat} {fs : List Lm} (h : LReps w b off fs) (i : Nat) (k : Int) (n : ByteArray) (g : Bool) (ks : List Lm) (hf : fs[i]? = some (.mk k n g ks)) :
    ∃ sl cap, w.cell? ⟨b, off + i * 4, none⟩ = some (.int .i64 k) ∧ w.cell? ⟨b, off + i * 4 + 1, none⟩ = some (.string n) ∧ w.cell? ⟨b, off + i * 4 + 2, none⟩ = some (.bool g) ∧ w.cell? ⟨b, off + i * 4 + 3, none⟩ = some (.slice sl ks.length cap) ∧ LRep w (.mk k n g ks) (.agg #[.int .i64 k, .string n, .bool g, .slice sl ks.length cap]) := by
  obtain ⟨c0, c1, c2, c3, h0, h1, h2, h3, hr⟩ := h.get i _ hf; obtain ⟨sl, cap, hv, hr'⟩ := LRep.def.1 hr; simp only [Value.agg.injEq, Array.mk.injEq, List.cons.injEq, and_true] at hv; obtain ⟨rfl, rfl, rfl, rfl⟩ := hv; exact ⟨sl, cap, h0, h1, h2, h3, hr⟩
theorem LRep.up {w w' : World} {f : Lm} {v : Value} (h : LRep w f v) (hb : Below w.heap.size w w') : LRep w' f v :=
  LRep.keep (fun _ hlt _ hc => (hb.cell hlt).trans hc) f v h
theorem LReps.up {w w' : World} {b off : Nat} {fs : List Lm} (h : LReps w b off fs) (hb : Below w.heap.size w w') : LReps w' b off fs :=
  LReps.keep (fun _ hlt _ hc => (hb.cell hlt).trans hc) off fs h
/-- A list of linear formulas in memory. -/
def LL (w : World) (v : Value) (l : List Lm) : Prop := ∃ sl cap, v = .slice sl l.length cap ∧ l.length ≤ cap ∧ cap ≤ maxLen ∧ (l ≠ [] → ∃ b off, sl = some ⟨b, off, none⟩ ∧ LReps w b off l)
theorem LL.up {w w' : World} {v : Value} {l : List Lm} (h : LL w v l) (hb : Below w.heap.size w w') : LL w' v l := by
  obtain ⟨sl, cap, e, h1, h2, h3⟩ := h; (refine ⟨sl, cap, e, h1, h2, fun hn => ?_⟩); obtain ⟨b, off, e2, h4⟩ := h3 hn; exact ⟨b, off, e2, h4.up hb⟩
/-- The kids of a linear formula as a list. -/
theorem LRep.kidsL {w : World} {k : Int} {n : ByteArray} {g : Bool} {ks : List Lm} {sl : Option Addr} {cap : Nat} (h : LRep w (.mk k n g ks) (.agg #[.int .i64 k, .string n, .bool g, .slice sl ks.length cap])) : LL w (.slice sl ks.length cap) ks := by
  obtain ⟨sl', cap', hv, h1, h2, h3, h4⟩ := LRep.def.1 h; simp only [Value.agg.injEq, Array.mk.injEq, List.cons.injEq, Value.slice.injEq, and_true, true_and] at hv; obtain ⟨rfl, rfl⟩ := hv; exact ⟨_, _, rfl, h2, h3, h4⟩
/-- The i-th of a list. -/
theorem LL.at {w : World} {sl : Option Addr} {len cap : Nat} {l : List Lm} (h : LL w (.slice sl len cap) l) (i : Nat) (k : Int) (n : ByteArray) (g : Bool) (ks : List Lm) (hf : l[i]? = some (.mk k n g ks)) :
    ∃ b off sl2 cap2, sl = some ⟨b, off, none⟩ ∧ w.cell? ⟨b, off + i * 4, none⟩ = some (.int .i64 k) ∧ w.cell? ⟨b, off + i * 4 + 1, none⟩ = some (.string n) ∧ w.cell? ⟨b, off + i * 4 + 2, none⟩ = some (.bool g) ∧ w.cell? ⟨b, off + i * 4 + 3, none⟩ = some (.slice sl2 ks.length cap2) ∧ LRep w (.mk k n g ks) (.agg #[.int .i64 k, .string n, .bool g, .slice sl2 ks.length cap2]) := by
  obtain ⟨sl', cap', hv, h1, h2, h3⟩ := h; simp only [Value.slice.injEq] at hv; obtain ⟨rfl, rfl, rfl⟩ := hv; (obtain ⟨b, off, e, h4⟩ := h3 (fun e => by rw [e] at hf; simp at hf)); obtain ⟨sl2, cap2, g0, g1, g2, g3, hr⟩ := h4.at i k n g ks hf; exact ⟨b, off, sl2, cap2, e, g0, g1, g2, g3, hr⟩
theorem blk4L {w : World} {b : Nat} {c0 c1 c2 c3 : Value} {T : TypeId} (h : w.heap[b]? = some (.cells #[c0, c1, c2, c3] T (0, 0))) : w.cell? ⟨b, 0, none⟩ = some c0 ∧ w.cell? ⟨b, 1, none⟩ = some c1 ∧ w.cell? ⟨b, 2, none⟩ = some c2 ∧ w.cell? ⟨b, 3, none⟩ = some c3 :=
  ⟨blk_cell h 0, blk_cell h 1, blk_cell h 2, blk_cell h 3⟩
end Go.Proofs.Ytealalhgkdlmkai
/- Walks: net.Check's steps. -/
namespace Go.Proofs.Ytealalhgkdlmkai
open Go.RowKit Go.Sort

set_option maxHeartbeats 1000000 in
theorem netName_any (s : ByteArray) (hs : s.size ≤ maxLen) (w : World) :
    Calls Try.prog 98 #[.string s] w fun e w' => e = .returned (.bool (isNm s.data.toList)) ∧ Below w.heap.size w w' := by
  (have hck := fun v (w : World) h => check_any (.mk 1 s []) v w h); have hcn := code_name s; have HC : Hid (∀ v w, _ → Calls Try.prog 100 #[v] w _) := hck; (have HL : Hid (∀ w, Rep w (fun _ => True) (.mk 1 s []) (.agg #[.int .i64 1, .string s, .slice none 0 0])) := fun w => Rep.leaf hs); (have hfc := fun a b w => fault_code a b w); clear hck hs
  rcases hb : isNm s.data.toList with _ | _
  · have hcn' : (Fm.mk 1 s []).code = (8, 0) := by rw [hcn, hb]; rfl
    rw [hcn'] at HC; clear hcn'; clear hcn hb
    go_enter Try.func98, Try.ntmps98
    go_wp2_with (first
      | (go_at_call 100
         refine (HC.out _ _ (HL.out _)).mono ?_
         rintro e w1 ⟨rfl, hb1⟩)
      | fail)
    go_ret; exact ⟨rfl, hb1⟩
  · have hcn' : (Fm.mk 1 s []).code = (0, 0) := by rw [hcn, hb]; rfl
    rw [hcn'] at HC; clear hcn'; clear hcn hb
    go_enter Try.func98, Try.ntmps98
    go_wp2_with (first
      | (go_at_call 100
         refine (HC.out _ _ (HL.out _)).mono ?_
         rintro e w1 ⟨rfl, hb1⟩)
      | fail)
    go_ret; exact ⟨rfl, hb1⟩
set_option maxHeartbeats 1000000 in
theorem lkidsOf_any (k : Int) (w : World) :
    Calls Try.prog 97 #[.int .i64 k] w fun e w' => e = .returned (.tuple #[.int .i64 (lkidsN k), .bool (lkindB k)]) ∧ w' = w := by
  go_enter Try.func97, Try.ntmps97
  go_wp2
  all_goals
    go_ret2; refine ⟨tup_ib ?_ ?_, rfl⟩
  all_goals
    simp only [beq_iff_eq, beq_eq_false_iff_ne, ne_eq] at *
    first
      | (subst_vars; decide)
      | (unfold lkidsN; rw [if_neg (by omega)])
      | (unfold lkindB; simp; omega)
set_option maxHeartbeats 1000000 in
theorem lnode_kind (k at_ : Int) (n : ByteArray) (g : Bool) (sl : Option Addr) (len cap : Nat) (w : World) (h : lkindB k = false) :
    Calls Try.prog 86 #[.agg #[.int .i64 k, .string n, .bool g, .slice sl len cap], .int .i64 at_] w fun e w' => e = .panicked (stopC 4 at_) ∧ Below w.heap.size w w' := by
  go_enter Try.func86, Try.ntmps86
  go_wp2_with (first
    | (go_at_call 97; refine (lkidsOf_any k _).mono ?_; rintro e w1 ⟨rfl, rfl⟩)
    | (go_at_call 57; refine (stop_any _ _ _).mono ?_; rintro e w4 ⟨rfl, rfl⟩)
    | fail)
  exact ⟨rfl, rfl, (Below.refl _ _).alloc (Nat.le_refl _) _⟩
set_option maxHeartbeats 1000000 in
theorem lnode_size (k at_ : Int) (n : ByteArray) (g : Bool) (sl : Option Addr) (len cap : Nat) (w : World) (h : lkindB k = true) (h2 : (len : Int) ≠ lkidsN k) :
    Calls Try.prog 86 #[.agg #[.int .i64 k, .string n, .bool g, .slice sl len cap], .int .i64 at_] w fun e w' => e = .panicked (stopC 9 at_) ∧ Below w.heap.size w w' := by
  go_enter Try.func86, Try.ntmps86
  go_wp2_with (first
    | (go_at_call 97; refine (lkidsOf_any k _).mono ?_; rintro e w1 ⟨rfl, rfl⟩)
    | (go_at_call 57; refine (stop_any _ _ _).mono ?_; rintro e w4 ⟨rfl, rfl⟩)
    | fail)
  exact ⟨rfl, rfl, (Below.refl _ _).alloc (Nat.le_refl _) _⟩
set_option maxHeartbeats 2000000 in
theorem lnode_name (k at_ : Int) (n : ByteArray) (hn : n.size ≤ maxLen) (g : Bool) (sl : Option Addr) (len cap : Nat) (w : World) (h : lkindB k = true) (h2 : (len : Int) = lkidsN k) (h3 : lnameB k n g = true) :
    Calls Try.prog 86 #[.agg #[.int .i64 k, .string n, .bool g, .slice sl len cap], .int .i64 at_] w fun e w' => e = .panicked (stopC 8 at_) ∧ Below w.heap.size w w' := by
  have hin := netName_any n hn; by_cases hk : k = 1
  · subst hk
    (have h4 : isNm n.data.toList = false := by simpa [lnameB] using h3); rw [h4] at hin; have HI : Hid (∀ w, Calls Try.prog 98 #[.string n] w _) := hin; clear hin
    go_enter Try.func86, Try.ntmps86
    go_wp2_with (first
      | (go_at_call 97; refine (lkidsOf_any 1 _).mono ?_; rintro e w1 ⟨rfl, rfl⟩)
      | (go_at_call 98; refine (HI.out _).mono ?_; rintro e w1 ⟨rfl, hb1⟩)
      | (go_at_call 57; refine (stop_any _ _ _).mono ?_; rintro e w4 ⟨rfl, rfl⟩)
      | fail)
    exact ⟨rfl, rfl, below_join ((Below.refl _ _).alloc (Nat.le_refl _) _) hb1⟩
  · have hk1 : (k == 1) = false := by simpa using hk
    (have hk2 : (k != 1) = true := by simpa using hk); clear hin; by_cases h5 : n.toList.isEmpty = true
    · have h6 : n.toList = [] := by simpa using h5
      have hg : g = true := by
        rw [lnameB, if_neg hk, ← ByteArray.toList_eq, h5] at h3; simpa using h3
      subst hg; clear h5 h3
      go_enter Try.func86, Try.ntmps86
      go_wp2_with (first
        | (go_at_call 97; refine (lkidsOf_any k _).mono ?_; rintro e w1 ⟨rfl, rfl⟩)
        | (go_at_call 57; refine (stop_any _ _ _).mono ?_; rintro e w4 ⟨rfl, rfl⟩)
        | fail)
      exact ⟨rfl, rfl, (Below.refl _ _).alloc (Nat.le_refl _) _⟩
    · have h6 : n.toList.isEmpty = false := by simpa using h5
      clear h5 h3
      go_enter Try.func86, Try.ntmps86
      go_wp2_with (first
        | (go_at_call 97; refine (lkidsOf_any k _).mono ?_; rintro e w1 ⟨rfl, rfl⟩)
        | (go_at_call 57; refine (stop_any _ _ _).mono ?_; rintro e w4 ⟨rfl, rfl⟩)
        | fail)
      exact ⟨rfl, rfl, (Below.refl _ _).alloc (Nat.le_refl _) _⟩
set_option maxHeartbeats 2000000 in
theorem lnode_fine (k at_ : Int) (n : ByteArray) (hn : n.size ≤ maxLen) (g : Bool) (sl : Option Addr) (len cap : Nat) (w : World) (h : lkindB k = true) (h2 : (len : Int) = lkidsN k) (h3 : lnameB k n g = false) :
    Calls Try.prog 86 #[.agg #[.int .i64 k, .string n, .bool g, .slice sl len cap], .int .i64 at_] w fun e w' => e = .returned (.tuple #[]) ∧ Below w.heap.size w w' := by
  have hin := netName_any n hn; by_cases hk : k = 1
  · subst hk
    (have h4 : isNm n.data.toList = true := by simpa [lnameB] using h3); rw [h4] at hin; have HI : Hid (∀ w, Calls Try.prog 98 #[.string n] w _) := hin; clear hin
    go_enter Try.func86, Try.ntmps86
    go_wp2_with (first
      | (go_at_call 97; refine (lkidsOf_any 1 _).mono ?_; rintro e w1 ⟨rfl, rfl⟩)
      | (go_at_call 98; refine (HI.out _).mono ?_; rintro e w1 ⟨rfl, hb1⟩)
      | fail)
    go_end0
    exact ⟨rfl, below_join ((Below.refl _ _).alloc (Nat.le_refl _) _) hb1⟩
  · have hk1 : (k == 1) = false := by simpa using hk
    have h4 : n.toList.isEmpty = true ∧ g = false := by
      rw [lnameB, if_neg hk, ← ByteArray.toList_eq] at h3
      rcases hx : n.toList.isEmpty with _ | _
      · rw [hx] at h3; simp at h3
      · rw [hx] at h3; simpa using h3
    obtain ⟨h5, rfl⟩ := h4; (have h6 : n.toList = [] := by simpa using h5); clear h5 h3 hin
    go_enter Try.func86, Try.ntmps86
    go_wp2_with (first
      | (go_at_call 97; refine (lkidsOf_any k _).mono ?_; rintro e w1 ⟨rfl, rfl⟩)
      | fail)
    go_end0
    exact ⟨rfl, (Below.refl _ _).alloc (Nat.le_refl _) _⟩
theorem lnodeF_some {k : Int} {n : ByteArray} {g : Bool} {len : Nat} {c : Int} (h : lnodeF k n g len = some c) (at_ : Int) (hn : n.size ≤ maxLen) (sl : Option Addr) (cap : Nat) (w : World) :
    Calls Try.prog 86 #[.agg #[.int .i64 k, .string n, .bool g, .slice sl len cap], .int .i64 at_] w fun e w' => e = .panicked (stopC c at_) ∧ Below w.heap.size w w' := by
  unfold lnodeF at h
  split at h
  · rename_i h1; cases h; exact lnode_kind k at_ n g sl len cap w h1
  · rename_i h1
    (have h1 : lkindB k = true := by simpa using h1)
    split at h
    · rename_i h2; cases h; exact lnode_size k at_ n g sl len cap w h1 h2
    · rename_i h2
      (have h2 : (len : Int) = lkidsN k := by simpa using h2)
      split at h
      · rename_i h3; cases h; exact lnode_name k at_ n hn g sl len cap w h1 h2 h3
      · cases h
theorem lnodeF_none {k : Int} {n : ByteArray} {g : Bool} {len : Nat} (h : lnodeF k n g len = none) (at_ : Int) (hn : n.size ≤ maxLen) (sl : Option Addr) (cap : Nat) (w : World) :
    Calls Try.prog 86 #[.agg #[.int .i64 k, .string n, .bool g, .slice sl len cap], .int .i64 at_] w fun e w' => e = .returned (.tuple #[]) ∧ Below w.heap.size w w' := by
  unfold lnodeF at h
  split at h
  · cases h
  · rename_i h1
    (have h1 : lkindB k = true := by simpa using h1)
    split at h
    · cases h
    · rename_i h2
      (have h2 : (len : Int) = lkidsN k := by simpa using h2)
      split at h
      · cases h
      · rename_i h3
        (exact lnode_fine k at_ n hn g sl len cap w h1 h2 (by simpa using h3))
end Go.Proofs.Ytealalhgkdlmkai
