/- Texts of one proof, one behind the other: Math, Math2, Math3, Math4, Math6, Base, Free1, FreeA. -/
import Derived.Test.YtheiikkeelbjnajGreatChecked
import Derived.WalkKit
import Derived.WalkSpells
import Derived.WalkLawsBesides
import Derived.Deep.QuietTactic
import Derived.BigQuiet
/- The plain mathematics of layer 1: formulas as data, the reader and the writer as functions on lists of bytes. Nothing of the program's translation is named here. -/
namespace Go.Proofs.YtheiikkeelbjnajGreat

/-- A formula as data: kind, name, kids. -/
inductive Fm where
  | mk (kind : Int) (name : ByteArray) (kids : List Fm)

def Fm.kind : Fm → Int | .mk k _ _ => k
def Fm.name : Fm → ByteArray | .mk _ n _ => n
def Fm.kids : Fm → List Fm | .mk _ _ ks => ks

mutual
def Fm.size : Fm → Nat
  | .mk _ _ ks => Fm.sizes ks + 1
def Fm.sizes : List Fm → Nat
  | [] => 0
  | f :: fs => Fm.size f + Fm.sizes fs
end

/-! ### Reading -/

def blank (c : UInt8) : Bool := c == 32 || c == 10

def skipB : List UInt8 → List UInt8
  | [] => []
  | c :: l => if blank c then skipB l else c :: l

theorem skipB_length (l : List UInt8) : (skipB l).length ≤ l.length := by
  induction l with
  | nil => simp [skipB]
  | cons c l ih => simp only [skipB]; split <;> simp <;> omega

theorem skipB_idem (l : List UInt8) : skipB (skipB l) = skipB l := by
  induction l with
  | nil => rfl
  | cons c l ih =>
    simp only [skipB]
    split
    · exact ih
    · rename_i h; simp [skipB, h]

def takeS (s l : List UInt8) : Option (List UInt8) := if s.isPrefixOf (skipB l) then some ((skipB l).drop s.length) else none

def lower (c : UInt8) : Bool := decide (97 ≤ c.toNat) && decide (c.toNat ≤ 122)

def letters : List UInt8 → List UInt8
  | [] => []
  | c :: l => if lower c then c :: letters l else []

def isNm (l : List UInt8) : Bool := decide (l ≠ []) && decide (l.length ≤ 8) && decide ((letters l).length = l.length)

def nmF (l : List UInt8) : Fm := .mk 1 ⟨l.toArray⟩ []
def e0 : ByteArray := ⟨#[]⟩

end Go.Proofs.YtheiikkeelbjnajGreat
/- The plain mathematics of layer 1, two: what the reader's functions answer at last. -/
namespace Go.Proofs.YtheiikkeelbjnajGreat

theorem takeS_skip (s l : List UInt8) : takeS s (skipB l) = takeS s l := by unfold takeS; rw [skipB_idem]

theorem takeS_len {s l r : List UInt8} (h : takeS s l = some r) : r.length + s.length ≤ l.length := by
  unfold takeS at h
  split at h
  · rename_i hp
    have h1 := List.IsPrefix.length_le (List.isPrefixOf_iff_prefix.1 hp); have h2 := skipB_length l; have := Option.some.inj h; rw [← this, List.length_drop]; omega
  · cases h

theorem size_leaf (k : Int) (n : ByteArray) : (Fm.mk k n []).size = 1 := by simp [Fm.size, Fm.sizes]
end Go.Proofs.YtheiikkeelbjnajGreat
/- The plain mathematics of layer 1, three: what Check says. -/
namespace Go.Proofs.YtheiikkeelbjnajGreat

def kidsN (k : Int) : Int := if k = 4 ∨ k = 8 ∨ k = 9 then 1 else if k = 5 ∨ k = 6 ∨ k = 7 then 2 else 0
def kindB (k : Int) : Bool := decide (1 ≤ k) && decide (k ≤ 9)
def nameB (k : Int) (n : ByteArray) : Bool := if k = 1 then !isNm n.data.toList else !n.data.toList.isEmpty

/-- What is wrong at a node, if something is. -/
def nodeF (k : Int) (n : ByteArray) (len : Nat) : Option Int :=
  if kindB k = false then some 4 else if (len : Int) ≠ kidsN k then some 9 else if nameB k n = true then some 8 else none

inductive Chk where
  | ok (seen : Nat)
  | bad (code : Int) (at_ : Nat)

mutual
def chk : Fm → Nat → Chk
  | .mk k n ks, s => if s = 200 then .bad 2 0 else match nodeF k n ks.length with
    | some c => .bad c s
    | none => chks ks (s + 1)
def chks : List Fm → Nat → Chk
  | [], s => .ok s
  | f :: fs, s => match chk f s with
    | .bad c a => .bad c a
    | .ok s' => chks fs s'
end

mutual
theorem chk_le : ∀ (f : Fm) (s s' : Nat), chk f s = .ok s' → s ≤ 200 → s' ≤ 200 ∧ s' = s + f.size
  | .mk k n ks, s, s', h, hs => by
    rw [chk] at h
    split at h
    · cases h
    · rename_i h2
      split at h
      · cases h
      · have := chks_le ks (s + 1) s' h (by omega)
        rw [Fm.size]; omega
theorem chks_le : ∀ (fs : List Fm) (s s' : Nat), chks fs s = .ok s' → s ≤ 200 → s' ≤ 200 ∧ s' = s + Fm.sizes fs
  | [], s, s', h, hs => by rw [chks] at h; cases h; simp [Fm.sizes]; exact hs
  | f :: fs, s, s', h, hs => by
    rw [chks] at h
    split at h
    · cases h
    · rename_i s1 h1
      have a := chk_le f s s1 h1 hs; have b := chks_le fs s1 s' h a.1; rw [Fm.sizes]; omega
end

/-- What Check answers. -/
def Fm.code (f : Fm) : Int × Int := match chk f 0 with
  | .ok _ => (0, 0)
  | .bad c a => (c, a)
end Go.Proofs.YtheiikkeelbjnajGreat
/- The plain mathematics of layer 1, four: what Print writes. -/
namespace Go.Proofs.YtheiikkeelbjnajGreat

def brk (b : Bool) (s : List UInt8) : List UInt8 := if b then s else [40] ++ s ++ [41]

/-- Each node is as it should be. -/
inductive Fine : Fm → Prop
  | mk (k : Int) (n : ByteArray) (ks : List Fm) (h : nodeF k n ks.length = none) (hk : ∀ (i : Nat) (f : Fm), ks[i]? = some f → Fine f) : Fine (.mk k n ks)

theorem Fine.node {k : Int} {n : ByteArray} {ks : List Fm} (h : Fine (.mk k n ks)) : nodeF k n ks.length = none := by cases h; assumption
theorem Fine.kid {k : Int} {n : ByteArray} {ks : List Fm} (h : Fine (.mk k n ks)) (i : Nat) (f : Fm) (hi : ks[i]? = some f) : Fine f := by
  cases h with
  | mk _ _ _ _ hk => exact hk i f hi

theorem isNm_bd {l : List UInt8} (h : isNm l = true) : 1 ≤ l.length ∧ l.length ≤ 8 := by
  simp [isNm] at h
  cases l with
  | nil => simp at h
  | cons c l => simp at h ⊢; omega

end Go.Proofs.YtheiikkeelbjnajGreat
/- The plain mathematics of layer 1, six: what is read is as it should be. -/
namespace Go.Proofs.YtheiikkeelbjnajGreat

theorem fine_name {l : List UInt8} (h : isNm l = true) : Fine (nmF l) :=
  Fine.mk _ _ _ (by
    (have : nodeF 1 ⟨l.toArray⟩ 0 = none := by simp [nodeF, kindB, kidsN, nameB, h])
    exact this) (fun i f hf => by simp at hf)

mutual
theorem chk_fine : ∀ (f : Fm) (s : Nat), Fine f → s + f.size ≤ 200 → chk f s = .ok (s + f.size)
  | .mk k n ks, s, h, hs => by
    rw [Fm.size] at hs; (rw [chk, if_neg (by omega), h.node, Fm.size]); (have := chks_fine ks (s + 1) (h.kid) (by omega)); simp only [this]
    congr 1; omega
theorem chks_fine : ∀ (fs : List Fm) (s : Nat), (∀ (i : Nat) (f : Fm), fs[i]? = some f → Fine f) → s + Fm.sizes fs ≤ 200 → chks fs s = .ok (s + Fm.sizes fs)
  | [], s, _, _ => by rw [chks, Fm.sizes]; rfl
  | f :: fs, s, h, hs => by
    rw [Fm.sizes] at hs; (rw [chks, chk_fine f s (h 0 f rfl) (by omega), Fm.sizes]); (have := chks_fine fs (s + f.size) (fun i g hg => h (i + 1) g (by simpa using hg)) (by omega)); simp only [this]
    congr 1; omega
end
end Go.Proofs.YtheiikkeelbjnajGreat
/- What the walks over layer 1 share: formulas in memory, what a call leaves as it was, the reader's own block. -/
namespace Go.Proofs.YtheiikkeelbjnajGreat
open Go.RowKit

/-- The blocks of w for which 'ok' holds are as they were. -/
structure Kept (ok : Nat → Prop) (w w' : World) : Prop where
  os : w'.os = w.os
  tape : w'.tape = w.tape
  output : w'.output = w.output
  size : w.heap.size ≤ w'.heap.size
  block : ∀ k, k < w.heap.size → ok k → w'.heap[k]? = w.heap[k]?

theorem Kept.refl (ok : Nat → Prop) (w : World) : Kept ok w w := ⟨rfl, rfl, rfl, Nat.le_refl _, fun _ _ _ => rfl⟩
theorem Kept.trans {ok : Nat → Prop} {a b c : World} (h : Kept ok a b) (k : Kept ok b c) : Kept ok a c :=
  ⟨k.os.trans h.os, k.tape.trans h.tape, k.output.trans h.output, Nat.le_trans h.size k.size, fun i hi ho => (k.block i (Nat.lt_of_lt_of_le hi h.size) ho).trans (h.block i hi ho)⟩
theorem Kept.drew {ok : Nat → Prop} {a w : World} (h : Kept ok a w) : Kept ok a w.drew := ⟨h.os, h.tape, h.output, h.size, h.block⟩
theorem Kept.drewN {ok : Nat → Prop} {a w : World} (n : Nat) (h : Kept ok a w) : Kept ok a (w.drewN n) := ⟨h.os, h.tape, h.output, h.size, h.block⟩
theorem Kept.alloc {ok : Nat → Prop} {a w : World} (h : Kept ok a w) (o : Obj) : Kept ok a (w.alloc o) :=
  h.trans ⟨rfl, rfl, rfl, by simp, fun k hk _ => Below.heap_alloc _ _ _ hk⟩
theorem Kept.setCell {ok : Nat → Prop} {a w : World} (h : Kept ok a w) {p : Addr} (hp : p.block < a.heap.size → ¬ ok p.block) (u : Value) : Kept ok a (w.setCell p u) := by
  (refine ⟨h.os, h.tape, h.output, by simpa [World.setCell] using h.size, fun k hk ho => ?_⟩); (rw [Below.heap_setCell _ _ _ _ (fun e => by subst e; exact hp hk ho)]); exact h.block k hk ho
theorem Kept.mono {ok ok' : Nat → Prop} {a b : World} (h : Kept ok a b) (hi : ∀ k, k < a.heap.size → ok' k → ok k) : Kept ok' a b :=
  ⟨h.os, h.tape, h.output, h.size, fun k hk ho => h.block k hk (hi k hk ho)⟩
theorem Kept.below {ok : Nat → Prop} {a b : World} {B : Nat} (h : Kept ok a b) (hB : B ≤ a.heap.size) (hi : ∀ k, k < B → ok k) : Below B a b :=
  ⟨h.os, h.tape, h.output, h.size, fun k hk => h.block k (Nat.lt_of_lt_of_le hk hB) (hi k hk)⟩
theorem kept_of_below {ok : Nat → Prop} {a b : World} {B : Nat} (h : Below B a b) (hi : ∀ k, k < a.heap.size → ok k → k < B) : Kept ok a b :=
  ⟨h.os, h.tape, h.output, h.size, fun k hk ho => h.block k (hi k hk ho)⟩

theorem lt_of_block {w : World} {b : Nat} {o : Obj} (h : w.heap[b]? = some o) : b < w.heap.size := by
  rcases Nat.lt_or_ge b w.heap.size with h' | h'
  · exact h'
  · rw [Array.getElem?_eq_none h'] at h; cases h

theorem lt_of_cell {w : World} {a : Addr} {v : Value} (h : w.cell? a = some v) : a.block < w.heap.size := by
  rcases Nat.lt_or_ge a.block w.heap.size with h' | h'
  · exact h'
  · simp [World.cell?, Array.getElem?_eq_none h'] at h

theorem cell_of_block {w w' : World} {a : Addr} (h : w'.heap[a.block]? = w.heap[a.block]?) : w'.cell? a = w.cell? a := by
  simp only [World.cell?, h]

theorem blk_cell {w : World} {b : Nat} {cs : Array Value} {T : TypeId} (h : w.heap[b]? = some (.cells cs T (0, 0))) (o : Nat) : w.cell? ⟨b, o, none⟩ = cs[o]? := by simp [World.cell?, h]
theorem blk_fz {w : World} {b : Nat} {cs : Array Value} {T : TypeId} (h : w.heap[b]? = some (.cells cs T (0, 0))) (o : Nat) : w.frozen? ⟨b, o, none⟩ = false := by simp [World.frozen?, h]
/-- A block of three cells, as the walk wants it. -/
theorem blk3 {w : World} {b : Nat} {c0 c1 c2 : Value} {T : TypeId} (h : w.heap[b]? = some (.cells #[c0, c1, c2] T (0, 0))) : w.cell? ⟨b, 0, none⟩ = some c0 ∧ w.cell? ⟨b, 1, none⟩ = some c1 ∧ w.cell? ⟨b, 2, none⟩ = some c2 ∧ w.frozen? ⟨b, 0, none⟩ = false ∧ w.frozen? ⟨b, 1, none⟩ = false ∧ w.frozen? ⟨b, 2, none⟩ = false :=
  ⟨blk_cell h 0, blk_cell h 1, blk_cell h 2, blk_fz h 0, blk_fz h 1, blk_fz h 2⟩
theorem blk2 {w : World} {b : Nat} {c0 c1 : Value} {T : TypeId} (h : w.heap[b]? = some (.cells #[c0, c1] T (0, 0))) : w.cell? ⟨b, 0, none⟩ = some c0 ∧ w.cell? ⟨b, 1, none⟩ = some c1 ∧ w.frozen? ⟨b, 0, none⟩ = false ∧ w.frozen? ⟨b, 1, none⟩ = false :=
  ⟨blk_cell h 0, blk_cell h 1, blk_fz h 0, blk_fz h 1⟩
theorem blk_new (w : World) (o : Obj) : (w.alloc o).heap[w.heap.size]? = some o := by
  show (w.heap.push o)[w.heap.size]? = _
  simp

/-! ### Formulas in memory -/
mutual
def Rep (w : World) (ok : Nat → Prop) : Fm → Value → Prop
  | .mk k n ks, v => ∃ sl cap, v = .agg #[.int .i64 k, .string n, .slice sl ks.length cap] ∧ n.size ≤ maxLen ∧ ks.length ≤ cap ∧ cap ≤ maxLen ∧ (ks ≠ [] → ∃ b off, sl = some ⟨b, off, none⟩ ∧ ok b ∧ Reps w ok b off ks)
def Reps (w : World) (ok : Nat → Prop) (b : Nat) : Nat → List Fm → Prop
  | _, [] => True
  | off, f :: fs => (∃ c0 c1 c2, w.cell? ⟨b, off, none⟩ = some c0 ∧ w.cell? ⟨b, off + 1, none⟩ = some c1 ∧ w.cell? ⟨b, off + 2, none⟩ = some c2 ∧ Rep w ok f (.agg #[c0, c1, c2])) ∧ Reps w ok b (off + 3) fs
end

theorem Rep.def {w : World} {ok : Nat → Prop} {k : Int} {n : ByteArray} {ks : List Fm} {v : Value} : Rep w ok (.mk k n ks) v ↔ ∃ sl cap, v = .agg #[.int .i64 k, .string n, .slice sl ks.length cap] ∧ n.size ≤ maxLen ∧ ks.length ≤ cap ∧ cap ≤ maxLen ∧ (ks ≠ [] → ∃ b off, sl = some ⟨b, off, none⟩ ∧ ok b ∧ Reps w ok b off ks) := by
  rw [Rep]

theorem Reps.nil {w : World} {ok : Nat → Prop} {b off : Nat} : Reps w ok b off [] := by rw [Reps]; trivial

theorem Reps.cons {w : World} {ok : Nat → Prop} {b off : Nat} {f : Fm} {fs : List Fm} : Reps w ok b off (f :: fs) ↔ (∃ c0 c1 c2, w.cell? ⟨b, off, none⟩ = some c0 ∧ w.cell? ⟨b, off + 1, none⟩ = some c1 ∧ w.cell? ⟨b, off + 2, none⟩ = some c2 ∧ Rep w ok f (.agg #[c0, c1, c2])) ∧ Reps w ok b (off + 3) fs := by
  rw [Reps]

mutual
theorem Rep.keep {w w' : World} {ok ok' : Nat → Prop} (hc : ∀ a : Addr, ok a.block → a.block < w.heap.size → w'.cell? a = w.cell? a) (hi : ∀ k, k < w.heap.size → ok k → ok' k) :
    ∀ (f : Fm) (v : Value), Rep w ok f v → Rep w' ok' f v
  | .mk k n ks, v, h => by
    rw [Rep.def] at h ⊢; obtain ⟨sl, cap, hv, hn, hl, hc', hk⟩ := h; (refine ⟨sl, cap, hv, hn, hl, hc', fun hne => ?_⟩); obtain ⟨b, off, hsl, hb, hr⟩ := hk hne
    have hlt : b < w.heap.size := by
      cases ks with
      | nil => exact absurd rfl hne
      | cons g gs =>
        obtain ⟨⟨c0, _, _, h0, _⟩, _⟩ := Reps.cons.1 hr; exact lt_of_cell h0
    exact ⟨b, off, hsl, hi b hlt hb, Reps.keep hc hi hb hlt off ks hr⟩
theorem Reps.keep {w w' : World} {ok ok' : Nat → Prop} (hc : ∀ a : Addr, ok a.block → a.block < w.heap.size → w'.cell? a = w.cell? a) (hi : ∀ k, k < w.heap.size → ok k → ok' k) {b : Nat} (hb : ok b) (hlt : b < w.heap.size) :
    ∀ (off : Nat) (fs : List Fm), Reps w ok b off fs → Reps w' ok' b off fs
  | _, [], _ => Reps.nil
  | off, f :: fs, h => by
    rw [Reps.cons] at h ⊢; obtain ⟨⟨c0, c1, c2, h0, h1, h2, hr⟩, hrs⟩ := h; (exact ⟨⟨c0, c1, c2, by rw [hc _ hb hlt]; exact h0, by rw [hc _ hb hlt]; exact h1, by rw [hc _ hb hlt]; exact h2, Rep.keep hc hi f _ hr⟩, Reps.keep hc hi hb hlt (off + 3) fs hrs⟩)
end

theorem Rep.kept {w w' : World} {ok : Nat → Prop} {f : Fm} {v : Value} (h : Rep w ok f v) (hk : Kept ok w w') : Rep w' ok f v :=
  Rep.keep (fun _ ha hlt => cell_of_block (hk.block _ hlt ha)) (fun _ _ h => h) f v h
theorem Reps.kept {w w' : World} {ok : Nat → Prop} {b off : Nat} {fs : List Fm} (h : Reps w ok b off fs) (hb : ok b) (hk : Kept ok w w') : Reps w' ok b off fs := by
  cases fs with
  | nil => exact Reps.nil
  | cons f fs =>
    have hlt : b < w.heap.size := by
      obtain ⟨⟨c0, _, _, h0, _⟩, _⟩ := Reps.cons.1 h; exact lt_of_cell h0
    (exact Reps.keep (fun _ ha hlt => cell_of_block (hk.block _ hlt ha)) (fun _ _ h => h) hb hlt off _ h)

/-- The i-th of the kids. -/
theorem Reps.get {w : World} {ok : Nat → Prop} {b : Nat} : ∀ {off : Nat} {fs : List Fm} (_ : Reps w ok b off fs) (i : Nat) (f : Fm) (_ : fs[i]? = some f),
    ∃ c0 c1 c2, w.cell? ⟨b, off + i * 3, none⟩ = some c0 ∧ w.cell? ⟨b, off + i * 3 + 1, none⟩ = some c1 ∧ w.cell? ⟨b, off + i * 3 + 2, none⟩ = some c2 ∧ Rep w ok f (.agg #[c0, c1, c2])
  | off, [], _, i, f, hf => by simp at hf
  | off, g :: gs, h, i, f, hf => by
    obtain ⟨h1, h2⟩ := Reps.cons.1 h
    cases i with
    | zero => simp at hf; subst hf; simpa using h1
    | succ i =>
      (have := Reps.get h2 i f (by simpa using hf)); (have e : off + 3 + i * 3 = off + (i + 1) * 3 := by omega)
      rwa [e] at this

/-- .. with its parts shown. -/
theorem Reps.at {w : World} {ok : Nat → Prop} {b off : Nat} {fs : List Fm} (h : Reps w ok b off fs) (i : Nat) (k : Int) (n : ByteArray) (ks : List Fm) (hf : fs[i]? = some (.mk k n ks)) :
    ∃ sl cap, w.cell? ⟨b, off + i * 3, none⟩ = some (.int .i64 k) ∧ w.cell? ⟨b, off + i * 3 + 1, none⟩ = some (.string n) ∧ w.cell? ⟨b, off + i * 3 + 2, none⟩ = some (.slice sl ks.length cap) ∧ Rep w ok (.mk k n ks) (.agg #[.int .i64 k, .string n, .slice sl ks.length cap]) := by
  obtain ⟨c0, c1, c2, h0, h1, h2, hr⟩ := h.get i _ hf; obtain ⟨sl, cap, hv, hr'⟩ := Rep.def.1 hr; simp only [Value.agg.injEq, Array.mk.injEq, List.cons.injEq, and_true] at hv; obtain ⟨rfl, rfl, rfl⟩ := hv; exact ⟨sl, cap, h0, h1, h2, hr⟩

theorem Rep.leaf {w : World} {ok : Nat → Prop} {k : Int} {n : ByteArray} (h : n.size ≤ maxLen) : Rep w ok (.mk k n []) (.agg #[.int .i64 k, .string n, .slice none 0 0]) :=
  Rep.def.2 ⟨none, 0, rfl, h, by simp, by simp, fun h => absurd rfl h⟩

/-! ### The reader's block -/
/-- From place a on the text reads l. -/
def At (t : ByteArray) (a : Nat) (l : List UInt8) : Prop := a ≤ t.size ∧ t.data.toList.drop a = l

theorem At.len {t : ByteArray} {a : Nat} {l : List UInt8} (h : At t a l) : a + l.length = t.size := by
  obtain ⟨h1, h2⟩ := h; have e : t.data.toList.length = t.size := Array.length_toList; rw [← h2, List.length_drop, e]; omega
theorem At.cons {t : ByteArray} {a : Nat} {c : UInt8} {l : List UInt8} (h : At t a (c :: l)) : At t (a + 1) l := by
  have := h.len; (refine ⟨by simp at this; omega, ?_⟩); rw [← List.drop_drop, h.2]; rfl
theorem At.drop {t : ByteArray} {a : Nat} {l : List UInt8} (h : At t a l) (k : Nat) (hk : k ≤ l.length) : At t (a + k) (l.drop k) := by
  have := h.len; (refine ⟨by omega, ?_⟩); rw [← List.drop_drop, h.2]
theorem At.head {t : ByteArray} {a : Nat} {c : UInt8} {l : List UInt8} (h : At t a (c :: l)) (hlt : a < t.size) : t[a] = c := by
  have h2 := h.2; have e : t.data.toList.length = t.size := Array.length_toList; (rw [List.drop_eq_getElem_cons (by omega)] at h2); have := (List.cons.inj h2).1; rw [← this]; rfl
end Go.Proofs.YtheiikkeelbjnajGreat
/- A region that draws its order, whose operations only add to memory: each operation once, whatever the order. -/
namespace Go.Proofs.YtheiikkeelbjnajGreat
open Go.RowKit

/-- A fact that stays while memory is only added to. -/
def Stays (p : Value → World → Prop) : Prop := ∀ v w w', p v w → Below w.heap.size w w' → p v w'
def phiAt (phi : List (Value → World → Prop)) (i : Nat) : Value → World → Prop := phi.getD i fun _ _ => True

/-- No two operations write one slot; each waits for earlier ones alone. -/
def tidyOps (ops : Array Oper) : Bool :=
  (List.range ops.size).all fun i => (List.range ops.size).all fun j => i == j || (match (ops[i]?).bind (·.dst), (ops[j]?).bind (·.dst) with
    | some d, some d' => d != d'
    | _, _ => true)
def backOps (ops : Array Oper) : Bool :=
  (List.range ops.size).all fun i => match ops[i]? with
    | some o => o.after.all fun e => !Region.binds .any e || decide (e.on < i)
    | none => true
def waits (md : Region.Mode) (o : Oper) (j : Nat) : Bool := o.after.toList.any fun e => Region.binds md e && e.on == j

section
variable {P : Program} {ops : Array Oper} {Q : Exit → Act → World → Prop} {phi : List (Value → World → Prop)} {a0 : Act} {W : World}

/-- The slots that no operation of the region writes are as they were. -/
def OldSlots (ops : Array Oper) (a0 a : Act) : Prop := a.tmps.size = a0.tmps.size ∧ a.defers = a0.defers ∧ ∀ t, (ops.toList.all fun o => o.dst != some t) = true → a.tmps[t]? = a0.tmps[t]?

structure Way (ops : Array Oper) (phi : List (Value → World → Prop)) (a0 : Act) (W : World) (listed : Array Bool) (a : Act) (w : World) : Prop where
  below : Below W.heap.size W w
  old : OldSlots ops a0 a
  got : ∀ i o d, ops[i]? = some o → listed.getD i false = true → o.dst = some d → ∃ v, a.tmps[d]? = some v ∧ phiAt phi i v w
  fits : ∀ o d, o ∈ ops.toList → o.dst = some d → d < a0.tmps.size

/-- What is to be shown of one operation. -/
def StepOk (P : Program) (ops : Array Oper) (Q : Exit → Act → World → Prop) (phi : List (Value → World → Prop)) (a0 : Act) (W : World) (i : Nat) (o : Oper) : Prop :=
  ∀ a w, Below W.heap.size W w → OldSlots ops a0 a →
    (∀ j, waits .any o j = true → ∀ o' d, ops[j]? = some o' → o'.dst = some d → ∃ v, a.tmps[d]? = some v ∧ phiAt phi j v w) →
    ∀ K : Act → World → Prop, Hid (∀ v w', phiAt phi i v w' → Below w.heap.size w w' → K (a.put o.dst v) w') → if Region.wanted o (yielded ops a.tmps) = true then Oper.wp P o a w K Q else K (a.put o.dst undef) w
def StepsOk (P : Program) (ops : Array Oper) (Q : Exit → Act → World → Prop) (phi : List (Value → World → Prop)) (a0 : Act) (W : World) : Nat → List Oper → Prop
  | _, [] => True
  | i, o :: os => StepOk P ops Q phi a0 W i o ∧ StepsOk P ops Q phi a0 W (i + 1) os
theorem StepsOk.get : ∀ {i : Nat} {os : List Oper}, StepsOk P ops Q phi a0 W i os → ∀ (j : Nat) (o : Oper), os[j]? = some o → StepOk P ops Q phi a0 W (i + j) o
  | _, [], _, j, o, h => by simp at h
  | i, x :: os, hs, j, o, h => by
    cases j with
    | zero => simp at h; subst h; exact hs.1
    | succ j =>
      (have := StepsOk.get hs.2 j o (by simpa using h))
      rwa [show i + 1 + j = i + (j + 1) by omega] at this

theorem tidy_spec (h : tidyOps ops = true) {i j : Nat} {o o' : Oper} {d : Tmp} (hi : ops[i]? = some o) (hj : ops[j]? = some o') (ho : o.dst = some d) (ho' : o'.dst = some d) : i = j := by
  unfold tidyOps at h; rw [List.all_eq_true] at h; have h1 := h i (List.mem_range.2 (Array.getElem?_eq_some_iff.1 hi).1); rw [List.all_eq_true] at h1; have h2 := h1 j (List.mem_range.2 (Array.getElem?_eq_some_iff.1 hj).1); simp [hi, hj, ho, ho'] at h2; exact h2
theorem all_listed (h : backOps ops = true) {listed : Array Bool} (hsz : listed.size = ops.size) (hr : Region.ready .any ops listed = []) : ∀ (n i : Nat), i < n → i < ops.size → listed.getD i false = true
  | 0, i, h0, _ => by omega
  | n + 1, i, h0, hi => by
    rcases Nat.lt_or_ge i n with hlt | hge
    · exact all_listed h hsz hr n i hlt hi
    · have hin : i = n := by omega
      subst hin; have ho : ops[i]? = some ops[i] := Array.getElem?_eq_getElem hi
      cases hl : listed.getD i true with
      | true =>
        (rw [Array.getD_eq_getD_getElem?, Array.getElem?_eq_getElem (by omega)] at hl ⊢)
        simpa using hl
      | false =>
        have : i ∈ Region.ready .any ops listed := by
          rw [mem_ready]; (refine ⟨hl, ops[i], ho, fun e he hbe => ?_⟩); have hk := h; unfold backOps at hk; rw [List.all_eq_true] at hk; have h1 := hk i (List.mem_range.2 hi); simp only [ho] at h1
          have h2 : e.on < i := by
            obtain ⟨k, hk, rfl⟩ := Array.mem_iff_getElem.1 he; have := Array.all_eq_true.1 h1 k hk; rw [hbe] at this; simpa using this
          (exact all_listed h hsz hr i e.on h2 (by omega))
        rw [hr] at this
        cases this

def unl (l : List Bool) : Nat := l.countP fun b => !b
theorem unl_set : ∀ (l : List Bool) (i : Nat), l[i]? = some false → unl (l.set i true) + 1 = unl l
  | [], i, h => by simp at h
  | b :: l, 0, h => by
    simp at h; subst h
    simp [unl]
  | b :: l, i + 1, h => by
    (have := unl_set l i (by simpa using h)); unfold unl at *
    cases b
    · simp; omega
    · simp; omega

/-- **The region, whatever the order.** -/
theorem wp_region_free {id : Nat} (hm : P.follows .mixedOrders = true) (phi : List (Value → World → Prop)) (hst : ∀ p ∈ phi, Stays p) (ht : tidyOps ops = true) (hb : backOps ops = true) (N : Nat) (hN : a0.tmps.size = N) (hf : ops.toList.all (fun o => match o.dst with | some d => decide (d < N) | none => true) = true)
    (hs : StepsOk P ops Q phi a0 W 0 ops.toList)
    (he : ∀ a w, Below W.heap.size W w → OldSlots ops a0 a → (∀ i o d, ops[i]? = some o → o.dst = some d → ∃ v, a.tmps[d]? = some v ∧ phiAt phi i v w) → Q .normal a w) : (Code.region id ops true).wp P Q a0 W := by
  have hst' : ∀ i, Stays (phiAt phi i) := fun i => by
    unfold phiAt; rw [List.getD_eq_getElem?_getD]
    rcases Nat.lt_or_ge i phi.length with h | h
    · rw [List.getElem?_eq_getElem h]
      exact hst _ (List.getElem_mem h)
    · rw [List.getElem?_eq_none h]
      (exact fun _ _ _ _ _ => trivial)
  have main : ∀ (fuel : Nat) (listed : Array Bool) (a : Act) (w : World), listed.size = ops.size → unl listed.toList ≤ fuel → Way ops phi a0 W listed a w → wpAny P .any ops Q fuel listed a w := by
    have hend : ∀ (listed : Array Bool) (a : Act) (w : World), listed.size = ops.size → Way ops phi a0 W listed a w → Region.ready .any ops listed = [] → Q .normal a w := fun listed a w hsz hw hr =>
      he a w hw.below hw.old fun i o d hi hd => hw.got i o d hi (all_listed hb hsz hr (i + 1) i (Nat.lt_succ_self _) (Array.getElem?_eq_some_iff.1 hi).1) hd
    intro fuel
    induction fuel with
    | zero =>
      intro listed a w hsz hu hw
      have hr : Region.ready .any ops listed = [] := by
        rw [List.eq_nil_iff_forall_not_mem]; intro i hi; obtain ⟨h0, o, ho, -⟩ := mem_ready.1 hi; have hlt := (Array.getElem?_eq_some_iff.1 ho).1
        have h1 : listed.toList[i]? = some false := by
          (rw [Array.getElem?_toList, Array.getElem?_eq_getElem (by omega)]); (rw [Array.getD_eq_getD_getElem?, Array.getElem?_eq_getElem (by omega)] at h0); simpa using h0
        have := unl_set _ _ h1; omega
      exact ⟨hr, hend listed a w hsz hw hr⟩
    | succ fuel ih =>
      intro listed a w hsz hu hw; (refine ⟨hend listed a w hsz hw, fun i hi => ?_⟩); obtain ⟨h0, o, ho, hdep⟩ := mem_ready.1 hi; have hlt := (Array.getElem?_eq_some_iff.1 ho).1
      have h1 : listed.toList[i]? = some false := by
        (rw [Array.getElem?_toList, Array.getElem?_eq_getElem (by omega)]); (rw [Array.getD_eq_getD_getElem?, Array.getElem?_eq_getElem (by omega)] at h0); simpa using h0
      have hu' := unl_set _ _ h1
      have hok : StepOk P ops Q phi a0 W i o := by
        (have := hs.get i o (by rw [Array.getElem?_toList]; exact ho))
        rwa [Nat.zero_add] at this
      have hstep := hok a w hw.below hw.old (fun j hj o' d hj' hd => hw.got j o' d hj' (by
        unfold waits at hj; rw [List.any_eq_true] at hj; obtain ⟨e, hk, hk2⟩ := hj; rw [Bool.and_eq_true, beq_iff_eq] at hk2; have := hdep e (Array.mem_toList_iff.1 hk) hk2.1
        rwa [hk2.2] at this) hd) (wpAny P .any ops Q fuel (listed.setIfInBounds i true)) (fun v w' hp hbw => by
        (refine ih _ _ _ (by simpa using hsz) (by rw [Array.toList_setIfInBounds]; omega) ?_); (have hbel : Below W.heap.size W w' := hw.below.trans (hbw.mono (by have := hw.below.size; exact this))); refine ⟨hbel, ?_, ?_, hw.fits⟩
        · obtain ⟨o1, o2, o3⟩ := hw.old
          (refine ⟨?_, ?_, fun t ht' => ?_⟩)
          · cases hd : o.dst <;> simp [Act.put, o1]
          · cases hd : o.dst <;> simp [Act.put, o2]
          · rw [← o3 t ht']
            cases hd : o.dst with
            | none => rfl
            | some d =>
              have hne : d ≠ t := fun e => by
                have := List.all_eq_true.1 ht' o (Array.mem_toList_iff.2 (Array.mem_of_getElem? ho)); rw [hd, e] at this; simp at this
              simp [Act.put, Array.getElem?_setIfInBounds_ne hne]
        · intro j o' d hj hlj hd
          by_cases hji : i = j
          · subst hji
            rw [ho] at hj
            cases hj
            have hdl : d < a.tmps.size := by rw [hw.old.1]; exact hw.fits o d (by
              rw [Array.mem_toList_iff]; exact Array.mem_of_getElem? ho) hd
            (exact ⟨v, by rw [hd]; simp [Act.put, hdl], hp⟩)
          · rw [getD_set_ne false hji] at hlj
            obtain ⟨u, hu1, hu2⟩ := hw.got j o' d hj hlj hd; refine ⟨u, ?_, hst' j u w w' hu2 hbw⟩
            cases hd' : o.dst with
            | none => exact hu1
            | some d' =>
              (have hne : d' ≠ d := fun e => hji (tidy_spec ht ho hj (by rw [hd', e]) hd))
              simp [Act.put, Array.getElem?_setIfInBounds_ne hne, hu1])
      unfold wpOp; simp only [ho]
      split
      · rename_i hw1
        rw [if_pos hw1] at hstep; exact Or.inl hstep
      · rename_i hw1
        rw [if_neg hw1] at hstep; exact hstep
  (refine wp_region_any hm (main _ _ _ _ (by simp) ?_ ⟨?_, ⟨rfl, rfl, fun _ _ => rfl⟩, ?_, ?_⟩))
  · have : unl (Array.replicate ops.size false).toList ≤ (Array.replicate ops.size false).toList.length := List.countP_le_length
    simpa using this
  · exact ⟨rfl, rfl, rfl, Nat.le_refl _, fun _ _ => rfl⟩
  · intro i o d _ h _
    rw [Array.getD_eq_getD_getElem?] at h
    rcases Nat.lt_or_ge i ops.size with h1 | h1
    · simp [h1] at h
    · simp [Nat.not_lt.2 h1] at h
  · intro o d ho hd
    have := List.all_eq_true.1 hf o ho; rw [hd] at this; rw [hN]; simpa using this
end
end Go.Proofs.YtheiikkeelbjnajGreat
/- A region that draws its order, in which one operation x writes: all others that are not plain come ahead of it; the last one waits for all. -/
namespace Go.Proofs.YtheiikkeelbjnajGreat
open Go.RowKit

/-- Does operation i wait for j, by way of others? -/
def reachB (ops : Array Oper) : Nat → Nat → Nat → Bool
  | 0, i, j => match ops[i]? with | some o => waits .any o j | none => false
  | n + 1, i, j => match ops[i]? with | some o => waits .any o j || (List.range ops.size).any fun k => waits .any o k && reachB ops n k j | none => false
end Go.Proofs.YtheiikkeelbjnajGreat
