/- Texts of one proof, one behind the other: Math, Math2, Math3, Base, Walk2, Walk4, Walk7, Walk8, Check1. -/
import Derived.Test.YtealalhgkdlmkaiChecked
import Derived.WalkKit
import Derived.WalkSpells
import Derived.WalkLawsBesides
import Derived.Deep.QuietTactic
import Derived.BigQuiet
import Derived.Shelf.LaysM
import Derived.Shelf.Strconv.Clone
import Derived.Shelf.Strings.Prefix
import Derived.Test.YtealalhgkdlmkaiProg
import Derived.Deep.LoopGhost
import Derived.Deep.RegionHeld3
import Derived.Defers
import Derived.Recover
import Derived.RegionTactic
/- The plain mathematics of layer 1: formulas as data, the reader and the writer as functions on lists of bytes. Nothing of the program's translation is named here. -/
namespace Go.Proofs.Ytealalhgkdlmkai

/-- A formula as data: kind, name, kids. -/
inductive Fm where
  | mk (kind : Int) (name : ByteArray) (kids : List Fm)

def Fm.kind : Fm → Int | .mk k _ _ => k
def Fm.name : Fm → ByteArray | .mk _ n _ => n
def Fm.kids : Fm → List Fm | .mk _ _ ks => ks

mutual
def Fm.size : Fm → Nat
  | .mk _ _ ks => Fm.sizes ks + 1
def Fm.sizes : List Fm → Nat
  | [] => 0
  | f :: fs => Fm.size f + Fm.sizes fs
end

/-! ### Reading -/

def lower (c : UInt8) : Bool := decide (97 ≤ c.toNat) && decide (c.toNat ≤ 122)

def letters : List UInt8 → List UInt8
  | [] => []
  | c :: l => if lower c then c :: letters l else []

def isNm (l : List UInt8) : Bool := decide (l ≠ []) && decide (l.length ≤ 8) && decide ((letters l).length = l.length)

def nmF (l : List UInt8) : Fm := .mk 1 ⟨l.toArray⟩ []
end Go.Proofs.Ytealalhgkdlmkai
/- The plain mathematics of layer 1, two: what the reader's functions answer at last. -/
namespace Go.Proofs.Ytealalhgkdlmkai

theorem size_leaf (k : Int) (n : ByteArray) : (Fm.mk k n []).size = 1 := by simp [Fm.size, Fm.sizes]
end Go.Proofs.Ytealalhgkdlmkai
/- The plain mathematics of layer 1, three: what Check says. -/
namespace Go.Proofs.Ytealalhgkdlmkai

def kidsN (k : Int) : Int := if k = 4 ∨ k = 8 ∨ k = 9 then 1 else if k = 5 ∨ k = 6 ∨ k = 7 then 2 else 0
def kindB (k : Int) : Bool := decide (1 ≤ k) && decide (k ≤ 9)
def nameB (k : Int) (n : ByteArray) : Bool := if k = 1 then !isNm n.data.toList else !n.data.toList.isEmpty

/-- What is wrong at a node, if something is. -/
def nodeF (k : Int) (n : ByteArray) (len : Nat) : Option Int :=
  if kindB k = false then some 4 else if (len : Int) ≠ kidsN k then some 9 else if nameB k n = true then some 8 else none

inductive Chk where
  | ok (seen : Nat)
  | bad (code : Int) (at_ : Nat)

mutual
def chk : Fm → Nat → Chk
  | .mk k n ks, s => if s = 200 then .bad 2 0 else match nodeF k n ks.length with
    | some c => .bad c s
    | none => chks ks (s + 1)
def chks : List Fm → Nat → Chk
  | [], s => .ok s
  | f :: fs, s => match chk f s with
    | .bad c a => .bad c a
    | .ok s' => chks fs s'
end

mutual
theorem chk_le : ∀ (f : Fm) (s s' : Nat), chk f s = .ok s' → s ≤ 200 → s' ≤ 200 ∧ s' = s + f.size
  | .mk k n ks, s, s', h, hs => by
    rw [chk] at h
    split at h
    · cases h
    · rename_i h2
      split at h
      · cases h
      · have := chks_le ks (s + 1) s' h (by omega)
        rw [Fm.size]; omega
theorem chks_le : ∀ (fs : List Fm) (s s' : Nat), chks fs s = .ok s' → s ≤ 200 → s' ≤ 200 ∧ s' = s + Fm.sizes fs
  | [], s, s', h, hs => by rw [chks] at h; cases h; simp [Fm.sizes]; exact hs
  | f :: fs, s, s', h, hs => by
    rw [chks] at h
    split at h
    · cases h
    · rename_i s1 h1
      have a := chk_le f s s1 h1 hs; have b := chks_le fs s1 s' h a.1; rw [Fm.sizes]; omega
end

/-- What Check answers. -/
def Fm.code (f : Fm) : Int × Int := match chk f 0 with
  | .ok _ => (0, 0)
  | .bad c a => (c, a)
end Go.Proofs.Ytealalhgkdlmkai
/- What the walks over layer 1 share: formulas in memory, what a call leaves as it was, the reader's own block. -/
namespace Go.Proofs.Ytealalhgkdlmkai
open Go.RowKit

/-- The blocks of w for which 'ok' holds are as they were. -/
structure Kept (ok : Nat → Prop) (w w' : World) : Prop where
  os : w'.os = w.os
  tape : w'.tape = w.tape
  output : w'.output = w.output
  size : w.heap.size ≤ w'.heap.size
  block : ∀ k, k < w.heap.size → ok k → w'.heap[k]? = w.heap[k]?

theorem Kept.refl (ok : Nat → Prop) (w : World) : Kept ok w w := ⟨rfl, rfl, rfl, Nat.le_refl _, fun _ _ _ => rfl⟩
theorem Kept.trans {ok : Nat → Prop} {a b c : World} (h : Kept ok a b) (k : Kept ok b c) : Kept ok a c :=
  ⟨k.os.trans h.os, k.tape.trans h.tape, k.output.trans h.output, Nat.le_trans h.size k.size, fun i hi ho => (k.block i (Nat.lt_of_lt_of_le hi h.size) ho).trans (h.block i hi ho)⟩
theorem Kept.drew {ok : Nat → Prop} {a w : World} (h : Kept ok a w) : Kept ok a w.drew := ⟨h.os, h.tape, h.output, h.size, h.block⟩
theorem Kept.alloc {ok : Nat → Prop} {a w : World} (h : Kept ok a w) (o : Obj) : Kept ok a (w.alloc o) :=
  h.trans ⟨rfl, rfl, rfl, by simp, fun k hk _ => Below.heap_alloc _ _ _ hk⟩
theorem Kept.setCell {ok : Nat → Prop} {a w : World} (h : Kept ok a w) {p : Addr} (hp : p.block < a.heap.size → ¬ ok p.block) (u : Value) : Kept ok a (w.setCell p u) := by
  (refine ⟨h.os, h.tape, h.output, by simpa [World.setCell] using h.size, fun k hk ho => ?_⟩); (rw [Below.heap_setCell _ _ _ _ (fun e => by subst e; exact hp hk ho)]); exact h.block k hk ho
theorem Kept.mono {ok ok' : Nat → Prop} {a b : World} (h : Kept ok a b) (hi : ∀ k, k < a.heap.size → ok' k → ok k) : Kept ok' a b :=
  ⟨h.os, h.tape, h.output, h.size, fun k hk ho => h.block k hk (hi k hk ho)⟩
theorem Kept.below {ok : Nat → Prop} {a b : World} {B : Nat} (h : Kept ok a b) (hB : B ≤ a.heap.size) (hi : ∀ k, k < B → ok k) : Below B a b :=
  ⟨h.os, h.tape, h.output, h.size, fun k hk => h.block k (Nat.lt_of_lt_of_le hk hB) (hi k hk)⟩
theorem kept_of_below {ok : Nat → Prop} {a b : World} {B : Nat} (h : Below B a b) (hi : ∀ k, k < a.heap.size → ok k → k < B) : Kept ok a b :=
  ⟨h.os, h.tape, h.output, h.size, fun k hk ho => h.block k (hi k hk ho)⟩

theorem lt_of_block {w : World} {b : Nat} {o : Obj} (h : w.heap[b]? = some o) : b < w.heap.size := by
  rcases Nat.lt_or_ge b w.heap.size with h' | h'
  · exact h'
  · rw [Array.getElem?_eq_none h'] at h; cases h

theorem lt_of_cell {w : World} {a : Addr} {v : Value} (h : w.cell? a = some v) : a.block < w.heap.size := by
  rcases Nat.lt_or_ge a.block w.heap.size with h' | h'
  · exact h'
  · simp [World.cell?, Array.getElem?_eq_none h'] at h

theorem cell_of_block {w w' : World} {a : Addr} (h : w'.heap[a.block]? = w.heap[a.block]?) : w'.cell? a = w.cell? a := by
  simp only [World.cell?, h]

theorem blk_cell {w : World} {b : Nat} {cs : Array Value} {T : TypeId} (h : w.heap[b]? = some (.cells cs T (0, 0))) (o : Nat) : w.cell? ⟨b, o, none⟩ = cs[o]? := by simp [World.cell?, h]
theorem blk_fz {w : World} {b : Nat} {cs : Array Value} {T : TypeId} (h : w.heap[b]? = some (.cells cs T (0, 0))) (o : Nat) : w.frozen? ⟨b, o, none⟩ = false := by simp [World.frozen?, h]
/-- A block of three cells, as the walk wants it. -/
theorem blk3 {w : World} {b : Nat} {c0 c1 c2 : Value} {T : TypeId} (h : w.heap[b]? = some (.cells #[c0, c1, c2] T (0, 0))) : w.cell? ⟨b, 0, none⟩ = some c0 ∧ w.cell? ⟨b, 1, none⟩ = some c1 ∧ w.cell? ⟨b, 2, none⟩ = some c2 ∧ w.frozen? ⟨b, 0, none⟩ = false ∧ w.frozen? ⟨b, 1, none⟩ = false ∧ w.frozen? ⟨b, 2, none⟩ = false :=
  ⟨blk_cell h 0, blk_cell h 1, blk_cell h 2, blk_fz h 0, blk_fz h 1, blk_fz h 2⟩
theorem blk2 {w : World} {b : Nat} {c0 c1 : Value} {T : TypeId} (h : w.heap[b]? = some (.cells #[c0, c1] T (0, 0))) : w.cell? ⟨b, 0, none⟩ = some c0 ∧ w.cell? ⟨b, 1, none⟩ = some c1 ∧ w.frozen? ⟨b, 0, none⟩ = false ∧ w.frozen? ⟨b, 1, none⟩ = false :=
  ⟨blk_cell h 0, blk_cell h 1, blk_fz h 0, blk_fz h 1⟩
theorem blk_new (w : World) (o : Obj) : (w.alloc o).heap[w.heap.size]? = some o := by
  show (w.heap.push o)[w.heap.size]? = _
  simp

/-! ### Formulas in memory -/
mutual
def Rep (w : World) (ok : Nat → Prop) : Fm → Value → Prop
  | .mk k n ks, v => ∃ sl cap, v = .agg #[.int .i64 k, .string n, .slice sl ks.length cap] ∧ n.size ≤ maxLen ∧ ks.length ≤ cap ∧ cap ≤ maxLen ∧ (ks ≠ [] → ∃ b off, sl = some ⟨b, off, none⟩ ∧ ok b ∧ Reps w ok b off ks)
def Reps (w : World) (ok : Nat → Prop) (b : Nat) : Nat → List Fm → Prop
  | _, [] => True
  | off, f :: fs => (∃ c0 c1 c2, w.cell? ⟨b, off, none⟩ = some c0 ∧ w.cell? ⟨b, off + 1, none⟩ = some c1 ∧ w.cell? ⟨b, off + 2, none⟩ = some c2 ∧ Rep w ok f (.agg #[c0, c1, c2])) ∧ Reps w ok b (off + 3) fs
end

theorem Rep.def {w : World} {ok : Nat → Prop} {k : Int} {n : ByteArray} {ks : List Fm} {v : Value} : Rep w ok (.mk k n ks) v ↔ ∃ sl cap, v = .agg #[.int .i64 k, .string n, .slice sl ks.length cap] ∧ n.size ≤ maxLen ∧ ks.length ≤ cap ∧ cap ≤ maxLen ∧ (ks ≠ [] → ∃ b off, sl = some ⟨b, off, none⟩ ∧ ok b ∧ Reps w ok b off ks) := by
  rw [Rep]

theorem Reps.nil {w : World} {ok : Nat → Prop} {b off : Nat} : Reps w ok b off [] := by rw [Reps]; trivial

theorem Reps.cons {w : World} {ok : Nat → Prop} {b off : Nat} {f : Fm} {fs : List Fm} : Reps w ok b off (f :: fs) ↔ (∃ c0 c1 c2, w.cell? ⟨b, off, none⟩ = some c0 ∧ w.cell? ⟨b, off + 1, none⟩ = some c1 ∧ w.cell? ⟨b, off + 2, none⟩ = some c2 ∧ Rep w ok f (.agg #[c0, c1, c2])) ∧ Reps w ok b (off + 3) fs := by
  rw [Reps]

mutual
theorem Rep.keep {w w' : World} {ok ok' : Nat → Prop} (hc : ∀ a : Addr, ok a.block → a.block < w.heap.size → w'.cell? a = w.cell? a) (hi : ∀ k, k < w.heap.size → ok k → ok' k) :
    ∀ (f : Fm) (v : Value), Rep w ok f v → Rep w' ok' f v
  | .mk k n ks, v, h => by
    rw [Rep.def] at h ⊢; obtain ⟨sl, cap, hv, hn, hl, hc', hk⟩ := h; (refine ⟨sl, cap, hv, hn, hl, hc', fun hne => ?_⟩); obtain ⟨b, off, hsl, hb, hr⟩ := hk hne
    have hlt : b < w.heap.size := by
      cases ks with
      | nil => exact absurd rfl hne
      | cons g gs =>
        obtain ⟨⟨c0, _, _, h0, _⟩, _⟩ := Reps.cons.1 hr; exact lt_of_cell h0
    exact ⟨b, off, hsl, hi b hlt hb, Reps.keep hc hi hb hlt off ks hr⟩
theorem Reps.keep {w w' : World} {ok ok' : Nat → Prop} (hc : ∀ a : Addr, ok a.block → a.block < w.heap.size → w'.cell? a = w.cell? a) (hi : ∀ k, k < w.heap.size → ok k → ok' k) {b : Nat} (hb : ok b) (hlt : b < w.heap.size) :
    ∀ (off : Nat) (fs : List Fm), Reps w ok b off fs → Reps w' ok' b off fs
  | _, [], _ => Reps.nil
  | off, f :: fs, h => by
    rw [Reps.cons] at h ⊢; obtain ⟨⟨c0, c1, c2, h0, h1, h2, hr⟩, hrs⟩ := h; (exact ⟨⟨c0, c1, c2, by rw [hc _ hb hlt]; exact h0, by rw [hc _ hb hlt]; exact h1, by rw [hc _ hb hlt]; exact h2, Rep.keep hc hi f _ hr⟩, Reps.keep hc hi hb hlt (off + 3) fs hrs⟩)
end

theorem Rep.kept {w w' : World} {ok : Nat → Prop} {f : Fm} {v : Value} (h : Rep w ok f v) (hk : Kept ok w w') : Rep w' ok f v :=
  Rep.keep (fun _ ha hlt => cell_of_block (hk.block _ hlt ha)) (fun _ _ h => h) f v h
theorem Reps.kept {w w' : World} {ok : Nat → Prop} {b off : Nat} {fs : List Fm} (h : Reps w ok b off fs) (hb : ok b) (hk : Kept ok w w') : Reps w' ok b off fs := by
  cases fs with
  | nil => exact Reps.nil
  | cons f fs =>
    have hlt : b < w.heap.size := by
      obtain ⟨⟨c0, _, _, h0, _⟩, _⟩ := Reps.cons.1 h; exact lt_of_cell h0
    (exact Reps.keep (fun _ ha hlt => cell_of_block (hk.block _ hlt ha)) (fun _ _ h => h) hb hlt off _ h)

/-- The i-th of the kids. -/
theorem Reps.get {w : World} {ok : Nat → Prop} {b : Nat} : ∀ {off : Nat} {fs : List Fm} (_ : Reps w ok b off fs) (i : Nat) (f : Fm) (_ : fs[i]? = some f),
    ∃ c0 c1 c2, w.cell? ⟨b, off + i * 3, none⟩ = some c0 ∧ w.cell? ⟨b, off + i * 3 + 1, none⟩ = some c1 ∧ w.cell? ⟨b, off + i * 3 + 2, none⟩ = some c2 ∧ Rep w ok f (.agg #[c0, c1, c2])
  | off, [], _, i, f, hf => by simp at hf
  | off, g :: gs, h, i, f, hf => by
    obtain ⟨h1, h2⟩ := Reps.cons.1 h
    cases i with
    | zero => simp at hf; subst hf; simpa using h1
    | succ i =>
      (have := Reps.get h2 i f (by simpa using hf)); (have e : off + 3 + i * 3 = off + (i + 1) * 3 := by omega)
      rwa [e] at this

/-- .. with its parts shown. -/
theorem Reps.at {w : World} {ok : Nat → Prop} {b off : Nat} {fs : List Fm} (h : Reps w ok b off fs) (i : Nat) (k : Int) (n : ByteArray) (ks : List Fm) (hf : fs[i]? = some (.mk k n ks)) :
    ∃ sl cap, w.cell? ⟨b, off + i * 3, none⟩ = some (.int .i64 k) ∧ w.cell? ⟨b, off + i * 3 + 1, none⟩ = some (.string n) ∧ w.cell? ⟨b, off + i * 3 + 2, none⟩ = some (.slice sl ks.length cap) ∧ Rep w ok (.mk k n ks) (.agg #[.int .i64 k, .string n, .slice sl ks.length cap]) := by
  obtain ⟨c0, c1, c2, h0, h1, h2, hr⟩ := h.get i _ hf; obtain ⟨sl, cap, hv, hr'⟩ := Rep.def.1 hr; simp only [Value.agg.injEq, Array.mk.injEq, List.cons.injEq, and_true] at hv; obtain ⟨rfl, rfl, rfl⟩ := hv; exact ⟨sl, cap, h0, h1, h2, hr⟩

theorem Rep.leaf {w : World} {ok : Nat → Prop} {k : Int} {n : ByteArray} (h : n.size ≤ maxLen) : Rep w ok (.mk k n []) (.agg #[.int .i64 k, .string n, .slice none 0 0]) :=
  Rep.def.2 ⟨none, 0, rfl, h, by simp, by simp, fun h => absurd rfl h⟩

/-! ### The reader's block -/
/-- From place a on the text reads l. -/
def At (t : ByteArray) (a : Nat) (l : List UInt8) : Prop := a ≤ t.size ∧ t.data.toList.drop a = l

theorem At.len {t : ByteArray} {a : Nat} {l : List UInt8} (h : At t a l) : a + l.length = t.size := by
  obtain ⟨h1, h2⟩ := h; have e : t.data.toList.length = t.size := Array.length_toList; rw [← h2, List.length_drop, e]; omega
theorem At.cons {t : ByteArray} {a : Nat} {c : UInt8} {l : List UInt8} (h : At t a (c :: l)) : At t (a + 1) l := by
  have := h.len; (refine ⟨by simp at this; omega, ?_⟩); rw [← List.drop_drop, h.2]; rfl
theorem At.head {t : ByteArray} {a : Nat} {c : UInt8} {l : List UInt8} (h : At t a (c :: l)) (hlt : a < t.size) : t[a] = c := by
  have h2 := h.2; have e : t.data.toList.length = t.size := Array.length_toList; (rw [List.drop_eq_getElem_cons (by omega)] at h2); have := (List.cons.inj h2).1; rw [← this]; rfl
end Go.Proofs.Ytealalhgkdlmkai
/- Walks: the reader's small steps, two. -/
namespace Go.Proofs.Ytealalhgkdlmkai
open Go.RowKit

theorem ret_bool {a b : Bool} (h : a = b) : Ending.returned (.bool a) = .returned (.bool b) := by rw [h]

set_option maxHeartbeats 1000000 in
theorem isLetter_any (c : Int) (w : World) :
    Calls Try.prog 108 #[.int .u8 c] w fun e w' => e = .returned (.bool (decide (97 ≤ c ∧ c ≤ 122))) ∧ w' = w := by
  by_cases h1 : (97 : Int) ≤ c
  · by_cases h2 : c ≤ 122
    · go_enter Try.func108, Try.ntmps108
      go_wp2; go_ret; (exact ⟨ret_bool (by simp [h1, h2]), rfl⟩)
    · go_enter Try.func108, Try.ntmps108
      go_wp2; go_ret; (exact ⟨ret_bool (by simp [h2]), rfl⟩)
  · go_enter Try.func108, Try.ntmps108
    go_wp2; go_ret; (exact ⟨ret_bool (by rw [eq_comm, Bool.and_eq_false_iff, decide_eq_false_iff_not]; left; omega), rfl⟩)

theorem nm_yes {l : List UInt8} (h0 : l ≠ []) (h8 : l.length ≤ 8) (hl : (letters l).length = l.length) : isNm l = true := by
  simp [isNm, h0, h8, hl]
theorem nm_no {l : List UInt8} (hl : (letters l).length < l.length) : isNm l = false := by
  (have : ¬ (letters l).length = l.length := by omega); simp [isNm, this]

set_option maxHeartbeats 1000000 in
theorem isName_any (s : ByteArray) (hs : s.size ≤ maxLen) (w : World) :
    Calls Try.prog 107 #[.string s] w fun e w' => e = .returned (.bool (isNm s.data.toList)) ∧ w' = w := by
  have hsz : s.data.toList.length = s.size := Array.length_toList; have HB : Hid (s.data.toList.length = s.size) := hsz; unfold maxLen at hs; clear hsz; by_cases h0 : s = ⟨#[]⟩
  · subst h0
    go_enter Try.func107, Try.ntmps107
    go_wp2_with fail; go_ret; exact ⟨ret_bool rfl, rfl⟩
  have H0 : Hid (s.data.toList ≠ []) := fun e => h0 (by
    cases s with
    | mk d => simp at e; rw [e])
  have he : s.toList.isEmpty = false := by
    rw [ByteArray.toList_eq]
    cases hh : s.data.toList with
    | nil => exact absurd hh H0.out
    | cons _ _ => rfl
  clear h0; by_cases h8 : s.size ≤ 8
  case neg =>
    (have h8I : (8 : Int) < (s.size : Int) := by omega)
    go_enter Try.func107, Try.ntmps107
    go_wp2_with fail; go_ret; (have h3 : ¬ s.data.toList.length ≤ 8 := by have := HB.out; omega); (exact ⟨ret_bool (by simp only [isNm, h3, decide_false, Bool.and_false, Bool.false_and]), rfl⟩)
  (have h8I : (s.size : Int) ≤ 8 := by omega); have H8 : Hid (s.size ≤ 8) := h8; clear h8 hs
  go_enter Try.func107, Try.ntmps107
  go_wp2_with fail
  go_loop [13] (fun v => ∃ k l, At s k l ∧ v = .int .i64 (k : Nat) ∧ (letters s.data.toList).length = k + (letters l).length) (fun v => s.size - (intOf v).toNat)
  case atStart => exact ⟨0, s.data.toList, ⟨Nat.zero_le _, by simp⟩, rfl, by simp⟩
  case round =>
    obtain ⟨k, l, ha, rfl, hl⟩ := hrel; have hlen := ha.len; have HL : Hid (At s k l ∧ (letters s.data.toList).length = k + (letters l).length) := ⟨ha, hl⟩; clear ha hl
    cases l with
    | nil =>
      simp at hlen; (have hd : decide ((k : Int) < (s.size : Int)) = false := by simp; omega); go_wp2_with fail; go_ret
      exact ⟨ret_bool (nm_yes H0.out (by have := HB.out; have := H8.out; omega) (by have h2 := HL.out.2; have := HB.out; simp only [letters, List.length_nil] at h2; omega)).symm, rfl⟩
    | cons c l =>
      simp at hlen; (have hlt' : k < s.size := by omega); (have hlt : (k : Int) < (s.size : Int) := by omega); have hhd : s[k] = c := HL.out.1.head hlt'; by_cases hc : lower c
      · have hx : (97 : Int) ≤ (s[k].toNat : Int) := by rw [hhd]; simp [lower] at hc; omega
        (have hy : (s[k].toNat : Int) ≤ 122 := by rw [hhd]; simp [lower] at hc; omega); (have HN : Hid (At s (k + 1) l ∧ (letters s.data.toList).length = (k + 1) + (letters l).length) := ⟨HL.out.1.cons, by rw [HL.out.2, letters, if_pos hc]; simp; omega⟩); have hlc := isLetter_any (s[k].toNat : Int); rw [decide_eq_true (p := (97 : Int) ≤ (s[k].toNat : Int) ∧ (s[k].toNat : Int) ≤ 122) ⟨hx, hy⟩] at hlc; clear hhd hc hx hy; go_wp2_with (go_at_call 108; refine (hlc _).mono ?_; rintro e w2 ⟨rfl, rfl⟩)
        go_round
        case rel => exact ⟨k + 1, l, HN.out.1, by go_num, HN.out.2⟩
        case measure => simp [intOf]; omega
      · have hx : ¬ ((97 : Int) ≤ (s[k].toNat : Int) ∧ (s[k].toNat : Int) ≤ 122) := by rw [hhd]; simp [lower] at hc; omega
        (have HN : Hid ((letters s.data.toList).length = k) := by show _ = _; rw [HL.out.2, letters, if_neg hc]; rfl); have hlc := isLetter_any (s[k].toNat : Int); rw [decide_eq_false hx] at hlc; clear hhd hc hx; go_wp2_with (go_at_call 108; refine (hlc _).mono ?_; rintro e w2 ⟨rfl, rfl⟩); go_ret; (exact ⟨ret_bool (nm_no (by have := HN.out; have := HB.out; omega)).symm, rfl⟩)

/-- The panic that a fault is. -/
def stopC (code at_ : Int) : List PanicEntry := [{ v := .iface 93 (.agg #[.int .i64 code, .int .i64 at_]), recovered := false }]

set_option maxHeartbeats 400000 in
theorem stop_any (code at_ : Int) (w : World) :
    Calls Try.prog 57 #[.int .i64 code, .int .i64 at_] w fun e w' => e = .panicked (stopC code at_) ∧ w' = w := by
  go_enter Try.func57, Try.ntmps57
  go_wp2; exact ⟨rfl, rfl, rfl⟩

end Go.Proofs.Ytealalhgkdlmkai
/- Walks: a reader's 'not', way by way. -/
namespace Go.Proofs.Ytealalhgkdlmkai
open Go.RowKit

theorem Rep.move {w w' : World} {ok ok' : Nat → Prop} {f : Fm} {v : Value} (h : Rep w ok f v) (hb : ∀ b, b < w.heap.size → ok b → w'.heap[b]? = w.heap[b]? ∧ ok' b) : Rep w' ok' f v :=
  Rep.keep (fun _ ha hlt => cell_of_block (hb _ hlt ha).1) (fun k h1 h2 => (hb k h1 h2).2) f v h

end Go.Proofs.Ytealalhgkdlmkai
/- Walks: a fault that is caught. -/
namespace Go.Proofs.Ytealalhgkdlmkai
open Go.RowKit

theorem set2 {w : World} {b : Nat} {x0 x1 : Value} {T : TypeId} (h : w.heap[b]? = some (.cells #[x0, x1] T (0, 0))) (y0 y1 : Value) :
    ((w.setCell ⟨b, 0, none⟩ y0).setCell ⟨b, 1, none⟩ y1).heap[b]? = some (.cells #[y0, y1] T (0, 0)) := by
  simp [World.setCell, Array.getElem?_modify, h]

theorem assert_stop (v : Value) (w : World) : (Instr.typeAssert (.iface 93 v) 20 93 true).run Try.prog w = .ok (.tuple #[v, .bool true]) w := by kernel_rfl

set_option maxRecDepth 100000 in
theorem catch_stop (p : Nat) (x y code at_ : Int) (w : World) (hb : w.heap[p]? = some (.cells #[.int .i64 x, .int .i64 y] 28 (0, 0))) :
    CallsD Try.prog 56 #[.pointer (some ⟨p, 0, none⟩)] (.panicking [{ v := .iface 93 (.agg #[.int .i64 code, .int .i64 at_]), recovered := false }]) w fun e u' w' =>
      e = .returned (.tuple #[]) ∧ u' = .panicking [{ v := .iface 93 (.agg #[.int .i64 code, .int .i64 at_]), recovered := true }] ∧ w'.heap[p]? = some (.cells #[.int .i64 code, .int .i64 at_] 28 (0, 0)) ∧ Kept (· ≠ p) w w' := by
  obtain ⟨g1, g2, g3, g4⟩ := blk2 hb; have hlt := lt_of_block hb; (refine callsD_of_wpS Try.func56 rfl fun c₀ cs hu => ?_); apply wpS_seq; apply wpS_region; simp [wpOpsS, go_sem, recoverD, hu, Try.ntmps56, Exit.thenS]; apply wpS_of_wp; have HB : Hid (w.heap[p]? = some (.cells #[.int .i64 x, .int .i64 y] 28 (0, 0))) := hb; clear hb; clear hu; (generalize hQ : (fun (e : Exit) (a' : Act) (w' : World) => _) = Q); have HQ : Hid (_ = Q) := hQ; clear hQ
  change Code.wp _ _ _ { tmps := #[.pointer (some ⟨p, 0, none⟩), undef, undef, undef, .iface 93 (.agg #[.int .i64 code, .int .i64 at_]), undef, undef, undef, undef, undef, undef, undef], defers := [] } _
  have hta := assert_stop; go_wp2; rw [← HQ.out]; (refine ⟨rfl, _, rfl, .tuple #[], by simp [results, Try.results56, go_sem], rfl, rfl, ?_, ?_⟩)
  · rw [Below.heap_alloc _ _ _ (by simpa [World.setCell] using hlt)]
    exact set2 HB.out _ _
  · exact (((Kept.refl _ _).setCell (by simp) _).setCell (by simp) _).alloc _

set_option maxRecDepth 100000 in
theorem catch_idle (p : Addr) (w : World) :
    CallsD Try.prog 56 #[.pointer (some p)] .returning w fun e u' w' => e = .returned (.tuple #[]) ∧ u' = .returning ∧ w' = w := by
  (refine callsD_of_wpS Try.func56 rfl fun c₀ cs hu => ?_); apply wpS_seq; apply wpS_region; simp [wpOpsS, go_sem, recoverD, hu, Try.ntmps56, Exit.thenS]; apply wpS_of_wp; have HU : Hid (c₀.mode = .returning) := hu; clear hu; (generalize hQ : (fun (e : Exit) (a' : Act) (w' : World) => _) = Q); have HQ : Hid (_ = Q) := hQ; clear hQ
  change Code.wp _ _ _ { tmps := #[.pointer (some p), undef, undef, undef, .nilIface, undef, undef, undef, undef, undef, undef, undef], defers := [] } _
  go_wp2; rw [← HQ.out]; (refine ⟨rfl, .returning, ?_, .tuple #[], by simp [results, Try.results56, go_sem], rfl, rfl, rfl⟩); have := HU.out
  cases c₀
  simp_all

set_option maxRecDepth 100000 in
set_option maxHeartbeats 1000000 in
theorem caught_ok (g : Nat) (cap : Array Value) (w : World) (R : World → Prop) (hcf : ∀ w, (callFunc g cap).run Try.prog w = .ok (.enter g cap) w)
    (hw : Calls Try.prog g cap (w.alloc (.cells #[.int .i64 0, .int .i64 0] 28 (0, 0))) fun e w' => e = .returned (.tuple #[]) ∧ w'.heap[w.heap.size]? = some (.cells #[.int .i64 0, .int .i64 0] 28 (0, 0)) ∧ R w') :
    Calls Try.prog 34 #[.func (.func g) #[] cap] w fun e w' => e = .returned (.agg #[.int .i64 0, .int .i64 0]) ∧ ∃ w1, R w1 ∧ Kept (· ≠ w.heap.size) w1 w' := by
  (have hmf : ∀ (fn : Fn) (first cap : Array Value) (w : World), (Instr.makeFunc fn first cap).run Try.prog w = .ok (.func fn first cap) w := fun _ _ _ _ => rfl); have HW : Hid (Calls Try.prog g cap _ _) := hw; clear hw
  go_enter_defers Try.func34, Try.ntmps34
  go_wp2_with fail; refine HW.out.mono ?_; rintro e w1 ⟨rfl, q1, hR⟩; obtain ⟨g1, g2, g3, g4⟩ := blk2 q1; go_wp2_with fail; (refine leaves_cons (f := 56) (args := #[.pointer (some ⟨w.heap.size, 0, none⟩)]) (by simp) (by simp [go_sem]) ?_); refine (catch_idle ⟨w.heap.size, 0, none⟩ _).mono ?_; rintro e u' w'' ⟨rfl, rfl, rfl⟩; simp only [Leaves, settle]; (exact ⟨.agg #[.int .i64 0, .int .i64 0], by simp [results, Try.results34, go_sem, g1, g2], rfl, w1, hR, ((Kept.refl _ _).setCell (by simp) _).setCell (by simp) _⟩)

set_option maxRecDepth 100000 in
set_option maxHeartbeats 1000000 in
theorem caught_bad (g : Nat) (cap : Array Value) (w : World) (R : World → Prop) (code at_ : Int) (hcf : ∀ w, (callFunc g cap).run Try.prog w = .ok (.enter g cap) w)
    (hw : Calls Try.prog g cap (w.alloc (.cells #[.int .i64 0, .int .i64 0] 28 (0, 0))) fun e w' => e = .panicked (stopC code at_) ∧ w'.heap[w.heap.size]? = some (.cells #[.int .i64 0, .int .i64 0] 28 (0, 0)) ∧ R w') :
    Calls Try.prog 34 #[.func (.func g) #[] cap] w fun e w' => e = .returned (.agg #[.int .i64 code, .int .i64 at_]) ∧ ∃ w1, R w1 ∧ Kept (· ≠ w.heap.size) w1 w' := by
  (have hmf : ∀ (fn : Fn) (first cap : Array Value) (w : World), (Instr.makeFunc fn first cap).run Try.prog w = .ok (.func fn first cap) w := fun _ _ _ _ => rfl); have HW : Hid (Calls Try.prog g cap _ _) := hw; clear hw
  go_enter_defers Try.func34, Try.ntmps34
  go_wp2_with fail; refine HW.out.mono ?_; rintro e w1 ⟨rfl, q1, hR⟩; (refine leaves_cons (f := 56) (args := #[.pointer (some ⟨w.heap.size, 0, none⟩)]) (by simp) (by simp [go_sem]) ?_); refine (catch_stop w.heap.size 0 0 code at_ _ q1).mono ?_; rintro e u' w'' ⟨rfl, rfl, q2, hk⟩; obtain ⟨g1, g2, g3, g4⟩ := blk2 q2; simp only [settle]; (exact ⟨.agg #[.int .i64 code, .int .i64 at_], by simp [results, Try.results34, go_sem, g1, g2], rfl, w1, hR, hk⟩)
end Go.Proofs.Ytealalhgkdlmkai
/- Walks: a whole reading; Parse. -/
namespace Go.Proofs.Ytealalhgkdlmkai
open Go.RowKit

/-- What a call leaves that was handed a new block of its own. -/
theorem Kept.past {w w' : World} {o : Obj} (h : Kept (· ≠ w.heap.size) (w.alloc o) w') : Kept (fun _ => True) w w' :=
  ⟨h.os, h.tape, h.output, by have := h.size; simp at this; omega, fun k hk _ => (h.block k (by simp; omega) (by omega)).trans (Below.heap_alloc _ _ _ hk)⟩

end Go.Proofs.Ytealalhgkdlmkai
/- Walks: Check's small steps. -/
namespace Go.Proofs.Ytealalhgkdlmkai
open Go.RowKit

theorem tup_ib {a a' : Int} {b b' : Bool} (h : a = a') (k : b = b') : Ending.returned (.tuple #[.int .i64 a, .bool b]) = .returned (.tuple #[.int .i64 a', .bool b']) := by rw [h, k]

set_option maxHeartbeats 1000000 in
theorem kidsOf_any (k : Int) (w : World) :
    Calls Try.prog 106 #[.int .i64 k] w fun e w' => e = .returned (.tuple #[.int .i64 (kidsN k), .bool (kindB k)]) ∧ w' = w := by
  go_enter Try.func106, Try.ntmps106
  go_wp2
  all_goals
    go_ret2; refine ⟨tup_ib ?_ ?_, rfl⟩
  all_goals
    simp only [beq_iff_eq, beq_eq_false_iff_ne, ne_eq] at *
    first
      | (subst_vars; decide)
      | (unfold kidsN; rw [if_neg (by omega), if_neg (by omega)])
      | (unfold kindB; simp; omega)

set_option maxHeartbeats 1000000 in
theorem node_kind (k at_ : Int) (n : ByteArray) (sl : Option Addr) (len cap : Nat) (w : World) (h : kindB k = false) :
    Calls Try.prog 105 #[.agg #[.int .i64 k, .string n, .slice sl len cap], .int .i64 at_] w fun e w' => e = .panicked (stopC 4 at_) ∧ Below w.heap.size w w' := by
  go_enter Try.func105, Try.ntmps105
  go_wp2_with (first
    | (go_at_call 106; refine (kidsOf_any k _).mono ?_; rintro e w1 ⟨rfl, rfl⟩)
    | (go_at_call 57; refine (stop_any _ _ _).mono ?_; rintro e w4 ⟨rfl, rfl⟩)
    | fail)
  exact ⟨rfl, rfl, (Below.refl _ _).alloc (Nat.le_refl _) _⟩

set_option maxHeartbeats 1000000 in
theorem node_size (k at_ : Int) (n : ByteArray) (sl : Option Addr) (len cap : Nat) (w : World) (h : kindB k = true) (h2 : (len : Int) ≠ kidsN k) :
    Calls Try.prog 105 #[.agg #[.int .i64 k, .string n, .slice sl len cap], .int .i64 at_] w fun e w' => e = .panicked (stopC 9 at_) ∧ Below w.heap.size w w' := by
  go_enter Try.func105, Try.ntmps105
  go_wp2_with (first
    | (go_at_call 106; refine (kidsOf_any k _).mono ?_; rintro e w1 ⟨rfl, rfl⟩)
    | (go_at_call 57; refine (stop_any _ _ _).mono ?_; rintro e w4 ⟨rfl, rfl⟩)
    | fail)
  exact ⟨rfl, rfl, (Below.refl _ _).alloc (Nat.le_refl _) _⟩

set_option maxHeartbeats 1000000 in
theorem node_name (k at_ : Int) (n : ByteArray) (hn : n.size ≤ maxLen) (sl : Option Addr) (len cap : Nat) (w : World) (h : kindB k = true) (h2 : (len : Int) = kidsN k) (h3 : nameB k n = true) :
    Calls Try.prog 105 #[.agg #[.int .i64 k, .string n, .slice sl len cap], .int .i64 at_] w fun e w' => e = .panicked (stopC 8 at_) ∧ Below w.heap.size w w' := by
  have hin := isName_any n hn; by_cases hk : k = 1
  · subst hk
    (have h4 : isNm n.data.toList = false := by simpa [nameB] using h3); rw [h4] at hin
    go_enter Try.func105, Try.ntmps105
    go_wp2_with (first
      | (go_at_call 106; refine (kidsOf_any 1 _).mono ?_; rintro e w1 ⟨rfl, rfl⟩)
      | (go_at_call 107; refine (hin _).mono ?_; rintro e w1 ⟨rfl, rfl⟩)
      | (go_at_call 57; refine (stop_any _ _ _).mono ?_; rintro e w4 ⟨rfl, rfl⟩)
      | fail)
    exact ⟨rfl, rfl, (Below.refl _ _).alloc (Nat.le_refl _) _⟩
  · have h4 : n.toList.isEmpty = false := by rw [ByteArray.toList_eq]; simpa [nameB, hk] using h3
    (have hk1 : (k == 1) = false := by simpa using hk); (have hk2 : (k != 1) = true := by simpa using hk)
    go_enter Try.func105, Try.ntmps105
    go_wp2_with (first
      | (go_at_call 106; refine (kidsOf_any k _).mono ?_; rintro e w1 ⟨rfl, rfl⟩)
      | (go_at_call 57; refine (stop_any _ _ _).mono ?_; rintro e w4 ⟨rfl, rfl⟩)
      | fail)
    exact ⟨rfl, rfl, (Below.refl _ _).alloc (Nat.le_refl _) _⟩

set_option maxHeartbeats 1000000 in
theorem node_fine (k at_ : Int) (n : ByteArray) (hn : n.size ≤ maxLen) (sl : Option Addr) (len cap : Nat) (w : World) (h : kindB k = true) (h2 : (len : Int) = kidsN k) (h3 : nameB k n = false) :
    Calls Try.prog 105 #[.agg #[.int .i64 k, .string n, .slice sl len cap], .int .i64 at_] w fun e w' => e = .returned (.tuple #[]) ∧ Below w.heap.size w w' := by
  have hin := isName_any n hn; by_cases hk : k = 1
  · subst hk
    (have h4 : isNm n.data.toList = true := by simpa [nameB] using h3); rw [h4] at hin
    go_enter Try.func105, Try.ntmps105
    go_wp2_with (first
      | (go_at_call 106; refine (kidsOf_any 1 _).mono ?_; rintro e w1 ⟨rfl, rfl⟩)
      | (go_at_call 107; refine (hin _).mono ?_; rintro e w1 ⟨rfl, rfl⟩)
      | fail)
    go_end0
    exact ⟨rfl, (Below.refl _ _).alloc (Nat.le_refl _) _⟩
  · have h4 : n.toList = [] := by rw [ByteArray.toList_eq]; simpa [nameB, hk] using h3
    (have hk1 : (k == 1) = false := by simpa using hk)
    go_enter Try.func105, Try.ntmps105
    go_wp2_with (first
      | (go_at_call 106; refine (kidsOf_any k _).mono ?_; rintro e w1 ⟨rfl, rfl⟩)
      | fail)
    go_end0
    exact ⟨rfl, (Below.refl _ _).alloc (Nat.le_refl _) _⟩

theorem nodeF_some {k : Int} {n : ByteArray} {len : Nat} {c : Int} (h : nodeF k n len = some c) (at_ : Int) (hn : n.size ≤ maxLen) (sl : Option Addr) (cap : Nat) (w : World) :
    Calls Try.prog 105 #[.agg #[.int .i64 k, .string n, .slice sl len cap], .int .i64 at_] w fun e w' => e = .panicked (stopC c at_) ∧ Below w.heap.size w w' := by
  unfold nodeF at h
  split at h
  · rename_i h1; cases h; exact node_kind k at_ n sl len cap w h1
  · rename_i h1
    (have h1 : kindB k = true := by simpa using h1)
    split at h
    · rename_i h2; cases h; exact node_size k at_ n sl len cap w h1 h2
    · rename_i h2
      (have h2 : (len : Int) = kidsN k := by simpa using h2)
      split at h
      · rename_i h3; cases h; exact node_name k at_ n hn sl len cap w h1 h2 h3
      · cases h

theorem nodeF_none {k : Int} {n : ByteArray} {len : Nat} (h : nodeF k n len = none) (at_ : Int) (hn : n.size ≤ maxLen) (sl : Option Addr) (cap : Nat) (w : World) :
    Calls Try.prog 105 #[.agg #[.int .i64 k, .string n, .slice sl len cap], .int .i64 at_] w fun e w' => e = .returned (.tuple #[]) ∧ Below w.heap.size w w' := by
  unfold nodeF at h
  split at h
  · cases h
  · rename_i h1
    (have h1 : kindB k = true := by simpa using h1)
    split at h
    · cases h
    · rename_i h2
      (have h2 : (len : Int) = kidsN k := by simpa using h2)
      split at h
      · cases h
      · rename_i h3
        (exact node_fine k at_ n hn sl len cap w h1 h2 (by simpa using h3))
end Go.Proofs.Ytealalhgkdlmkai
