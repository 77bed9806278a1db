/- Texts of one proof, one behind the other: Math, Math3, Math4, Base, Free1, Free2, FreeA, FreeB, Math7, Free7, KT1, MV1, ME1, ME2. -/
import Derived.Test.YtmahgfgndfcmpagChecked
import Derived.WalkKit
import Derived.WalkSpells
import Derived.WalkLawsBesides
import Derived.Deep.QuietTactic
import Derived.BigQuiet
import Derived.Maps.OwnSet
import Derived.Maps.OwnOps
import Derived.DeepKeys4
import Derived.Laws.BitsLemmas
import Derived.Deep.LoopGhost
/- The plain mathematics of layer 1: formulas as data, the reader and the writer as functions on lists of bytes. Nothing of the program's translation is named here. -/
namespace Go.Proofs.Ytmahgfgndfcmpag

/-- A formula as data: kind, name, kids. -/
inductive Fm where
  | mk (kind : Int) (name : ByteArray) (kids : List Fm)

def Fm.kind : Fm → Int | .mk k _ _ => k
def Fm.name : Fm → ByteArray | .mk _ n _ => n
def Fm.kids : Fm → List Fm | .mk _ _ ks => ks

mutual
def Fm.size : Fm → Nat
  | .mk _ _ ks => Fm.sizes ks + 1
def Fm.sizes : List Fm → Nat
  | [] => 0
  | f :: fs => Fm.size f + Fm.sizes fs
end

/-! ### Reading -/

def lower (c : UInt8) : Bool := decide (97 ≤ c.toNat) && decide (c.toNat ≤ 122)

def letters : List UInt8 → List UInt8
  | [] => []
  | c :: l => if lower c then c :: letters l else []

theorem letters_length (l : List UInt8) : (letters l).length ≤ l.length := by
  induction l with
  | nil => simp [letters]
  | cons c l ih => simp only [letters]; split <;> simp <;> omega

def isNm (l : List UInt8) : Bool := decide (l ≠ []) && decide (l.length ≤ 8) && decide ((letters l).length = l.length)

def e0 : ByteArray := ⟨#[]⟩

end Go.Proofs.Ytmahgfgndfcmpag
/- The plain mathematics of layer 1, three: what Check says. -/
namespace Go.Proofs.Ytmahgfgndfcmpag

def kidsN (k : Int) : Int := if k = 4 ∨ k = 8 ∨ k = 9 then 1 else if k = 5 ∨ k = 6 ∨ k = 7 then 2 else 0
def kindB (k : Int) : Bool := decide (1 ≤ k) && decide (k ≤ 9)
def nameB (k : Int) (n : ByteArray) : Bool := if k = 1 then !isNm n.data.toList else !n.data.toList.isEmpty

/-- What is wrong at a node, if something is. -/
def nodeF (k : Int) (n : ByteArray) (len : Nat) : Option Int :=
  if kindB k = false then some 4 else if (len : Int) ≠ kidsN k then some 9 else if nameB k n = true then some 8 else none

inductive Chk where
  | ok (seen : Nat)
  | bad (code : Int) (at_ : Nat)

mutual
def chk : Fm → Nat → Chk
  | .mk k n ks, s => if s = 200 then .bad 2 0 else match nodeF k n ks.length with
    | some c => .bad c s
    | none => chks ks (s + 1)
def chks : List Fm → Nat → Chk
  | [], s => .ok s
  | f :: fs, s => match chk f s with
    | .bad c a => .bad c a
    | .ok s' => chks fs s'
end

mutual
theorem chk_le : ∀ (f : Fm) (s s' : Nat), chk f s = .ok s' → s ≤ 200 → s' ≤ 200 ∧ s' = s + f.size
  | .mk k n ks, s, s', h, hs => by
    rw [chk] at h
    split at h
    · cases h
    · rename_i h2
      split at h
      · cases h
      · have := chks_le ks (s + 1) s' h (by omega)
        rw [Fm.size]; omega
theorem chks_le : ∀ (fs : List Fm) (s s' : Nat), chks fs s = .ok s' → s ≤ 200 → s' ≤ 200 ∧ s' = s + Fm.sizes fs
  | [], s, s', h, hs => by rw [chks] at h; cases h; simp [Fm.sizes]; exact hs
  | f :: fs, s, s', h, hs => by
    rw [chks] at h
    split at h
    · cases h
    · rename_i s1 h1
      have a := chk_le f s s1 h1 hs; have b := chks_le fs s1 s' h a.1; rw [Fm.sizes]; omega
end

/-- What Check answers. -/
def Fm.code (f : Fm) : Int × Int := match chk f 0 with
  | .ok _ => (0, 0)
  | .bad c a => (c, a)
end Go.Proofs.Ytmahgfgndfcmpag
/- The plain mathematics of layer 1, four: what Print writes. -/
namespace Go.Proofs.Ytmahgfgndfcmpag

/-- Each node is as it should be. -/
inductive Fine : Fm → Prop
  | mk (k : Int) (n : ByteArray) (ks : List Fm) (h : nodeF k n ks.length = none) (hk : ∀ (i : Nat) (f : Fm), ks[i]? = some f → Fine f) : Fine (.mk k n ks)

theorem Fine.node {k : Int} {n : ByteArray} {ks : List Fm} (h : Fine (.mk k n ks)) : nodeF k n ks.length = none := by cases h; assumption
theorem Fine.kid {k : Int} {n : ByteArray} {ks : List Fm} (h : Fine (.mk k n ks)) (i : Nat) (f : Fm) (hi : ks[i]? = some f) : Fine f := by
  cases h with
  | mk _ _ _ _ hk => exact hk i f hi

mutual
theorem fine_of_chk : ∀ (f : Fm) (s s' : Nat), chk f s = .ok s' → Fine f
  | .mk k n ks, s, s', h => by
    rw [chk] at h
    split at h
    · cases h
    · split at h
      · cases h
      · rename_i hn
        exact Fine.mk k n ks hn (fine_of_chks ks (s + 1) s' h)
theorem fine_of_chks : ∀ (fs : List Fm) (s s' : Nat), chks fs s = .ok s' → ∀ (i : Nat) (f : Fm), fs[i]? = some f → Fine f
  | [], _, _, _ => fun i f hf => by simp at hf
  | g :: gs, s, s', h => fun i f hf => by
    rw [chks] at h
    split at h
    · cases h
    · rename_i s1 h1
      cases i with
      | zero => simp at hf; subst hf; exact fine_of_chk g s s1 h1
      | succ i => exact fine_of_chks gs s1 s' h i f (by simpa using hf)
end

theorem nodeF_parts {k : Int} {n : ByteArray} {len : Nat} (h : nodeF k n len = none) : 1 ≤ k ∧ k ≤ 9 ∧ (len : Int) = kidsN k ∧ nameB k n = false := by
  unfold nodeF at h
  split at h
  · cases h
  · rename_i h1
    (have h1 : kindB k = true := by simpa using h1); simp [kindB] at h1
    split at h
    · cases h
    · rename_i h2
      split at h
      · cases h
      · rename_i h3
        (exact ⟨h1.1, h1.2, by simpa using h2, by simpa using h3⟩)

/-- A formula that is as it should be is one of three forms. -/
theorem Fine.forms {f : Fm} (h : Fine f) : (∃ n, f = .mk 1 n [] ∧ isNm n.data.toList = true) ∨ (f = .mk 2 ⟨#[]⟩ []) ∨ (f = .mk 3 ⟨#[]⟩ []) ∨ (∃ k g, (k = 4 ∨ k = 8 ∨ k = 9) ∧ f = .mk k ⟨#[]⟩ [g] ∧ Fine g) ∨ (∃ k g g', (k = 5 ∨ k = 6 ∨ k = 7) ∧ f = .mk k ⟨#[]⟩ [g, g'] ∧ Fine g ∧ Fine g') := by
  obtain ⟨k, n, ks⟩ := f; obtain ⟨h1, h2, h3, h4⟩ := nodeF_parts h.node
  have hn : k ≠ 1 → n = ⟨#[]⟩ := fun hk => by
    simp [nameB, hk] at h4; apply ByteArray.ext; exact h4
  (have hlen : k = 1 ∨ k = 2 ∨ k = 3 ∨ k = 4 ∨ k = 5 ∨ k = 6 ∨ k = 7 ∨ k = 8 ∨ k = 9 := by omega)
  have kid1 : ∀ ks : List Fm, ((ks.length : Nat) : Int) = 1 → ∃ g, ks = [g] := fun ks h => by
    match ks, h with
    | [g], _ => exact ⟨g, rfl⟩
    | [], h => simp at h
    | _ :: _ :: _, h => simp at h; omega
  have kid2 : ∀ ks : List Fm, ((ks.length : Nat) : Int) = 2 → ∃ g g', ks = [g, g'] := fun ks h => by
    match ks, h with
    | [g, g'], _ => exact ⟨g, g', rfl⟩
    | [], h => simp at h
    | [_], h => simp at h
    | _ :: _ :: _ :: _, h => simp at h; omega
  have kid0 : ∀ ks : List Fm, ((ks.length : Nat) : Int) = 0 → ks = [] := fun ks h => by
    cases ks with
    | nil => rfl
    | cons _ _ => simp at h; omega
  rcases hlen with e | e | e | e | e | e | e | e | e <;> subst e
  · obtain rfl := kid0 ks (h3.trans rfl); exact Or.inl ⟨n, rfl, by simpa [nameB] using h4⟩
  · obtain rfl := kid0 ks (h3.trans rfl); rw [hn (by decide)]; exact Or.inr (Or.inl rfl)
  · obtain rfl := kid0 ks (h3.trans rfl); rw [hn (by decide)]; exact Or.inr (Or.inr (Or.inl rfl))
  · obtain ⟨g, rfl⟩ := kid1 ks (h3.trans rfl); rw [hn (by decide)]; exact Or.inr (Or.inr (Or.inr (Or.inl ⟨4, g, Or.inl rfl, rfl, h.kid 0 g rfl⟩)))
  · obtain ⟨g, g', rfl⟩ := kid2 ks (h3.trans rfl); rw [hn (by decide)]; exact Or.inr (Or.inr (Or.inr (Or.inr ⟨5, g, g', Or.inl rfl, rfl, h.kid 0 g rfl, h.kid 1 g' rfl⟩)))
  · obtain ⟨g, g', rfl⟩ := kid2 ks (h3.trans rfl); rw [hn (by decide)]; exact Or.inr (Or.inr (Or.inr (Or.inr ⟨6, g, g', Or.inr (Or.inl rfl), rfl, h.kid 0 g rfl, h.kid 1 g' rfl⟩)))
  · obtain ⟨g, g', rfl⟩ := kid2 ks (h3.trans rfl); rw [hn (by decide)]; exact Or.inr (Or.inr (Or.inr (Or.inr ⟨7, g, g', Or.inr (Or.inr rfl), rfl, h.kid 0 g rfl, h.kid 1 g' rfl⟩)))
  · obtain ⟨g, rfl⟩ := kid1 ks (h3.trans rfl); rw [hn (by decide)]; exact Or.inr (Or.inr (Or.inr (Or.inl ⟨8, g, Or.inr (Or.inl rfl), rfl, h.kid 0 g rfl⟩)))
  · obtain ⟨g, rfl⟩ := kid1 ks (h3.trans rfl); rw [hn (by decide)]; exact Or.inr (Or.inr (Or.inr (Or.inl ⟨9, g, Or.inr (Or.inr rfl), rfl, h.kid 0 g rfl⟩)))

theorem isNm_bd {l : List UInt8} (h : isNm l = true) : 1 ≤ l.length ∧ l.length ≤ 8 := by
  simp [isNm] at h
  cases l with
  | nil => simp at h
  | cons c l => simp at h ⊢; omega

mutual
theorem chk_code : ∀ (f : Fm) (s : Nat) (c : Int) (a : Nat), chk f s = .bad c a → c ≠ 0
  | .mk k n ks, s, c, a, h => by
    rw [chk] at h
    split at h
    · cases h; decide
    · split at h
      · rename_i c' hc
        cases h
        unfold nodeF at hc
        split at hc
        · cases hc; decide
        · split at hc
          · cases hc; decide
          · split at hc
            · cases hc; decide
            · cases hc
      · exact chks_code ks (s + 1) c a h
theorem chks_code : ∀ (fs : List Fm) (s : Nat) (c : Int) (a : Nat), chks fs s = .bad c a → c ≠ 0
  | [], s, c, a, h => by rw [chks] at h; cases h
  | f :: fs, s, c, a, h => by
    rw [chks] at h
    split at h
    · rename_i c' a' h1
      cases h
      exact chk_code f s c a h1
    · rename_i s1 h1
      exact chks_code fs s1 c a h
end
end Go.Proofs.Ytmahgfgndfcmpag
/- What the walks over layer 1 share: formulas in memory, what a call leaves as it was, the reader's own block. -/
namespace Go.Proofs.Ytmahgfgndfcmpag
open Go.RowKit

/-- The blocks of w for which 'ok' holds are as they were. -/
structure Kept (ok : Nat → Prop) (w w' : World) : Prop where
  os : w'.os = w.os
  tape : w'.tape = w.tape
  output : w'.output = w.output
  size : w.heap.size ≤ w'.heap.size
  block : ∀ k, k < w.heap.size → ok k → w'.heap[k]? = w.heap[k]?

theorem Kept.refl (ok : Nat → Prop) (w : World) : Kept ok w w := ⟨rfl, rfl, rfl, Nat.le_refl _, fun _ _ _ => rfl⟩
theorem Kept.trans {ok : Nat → Prop} {a b c : World} (h : Kept ok a b) (k : Kept ok b c) : Kept ok a c :=
  ⟨k.os.trans h.os, k.tape.trans h.tape, k.output.trans h.output, Nat.le_trans h.size k.size, fun i hi ho => (k.block i (Nat.lt_of_lt_of_le hi h.size) ho).trans (h.block i hi ho)⟩
theorem Kept.drewN {ok : Nat → Prop} {a w : World} (n : Nat) (h : Kept ok a w) : Kept ok a (w.drewN n) := ⟨h.os, h.tape, h.output, h.size, h.block⟩
theorem Kept.alloc {ok : Nat → Prop} {a w : World} (h : Kept ok a w) (o : Obj) : Kept ok a (w.alloc o) :=
  h.trans ⟨rfl, rfl, rfl, by simp, fun k hk _ => Below.heap_alloc _ _ _ hk⟩
theorem Kept.setCell {ok : Nat → Prop} {a w : World} (h : Kept ok a w) {p : Addr} (hp : p.block < a.heap.size → ¬ ok p.block) (u : Value) : Kept ok a (w.setCell p u) := by
  (refine ⟨h.os, h.tape, h.output, by simpa [World.setCell] using h.size, fun k hk ho => ?_⟩); (rw [Below.heap_setCell _ _ _ _ (fun e => by subst e; exact hp hk ho)]); exact h.block k hk ho
theorem Kept.mono {ok ok' : Nat → Prop} {a b : World} (h : Kept ok a b) (hi : ∀ k, k < a.heap.size → ok' k → ok k) : Kept ok' a b :=
  ⟨h.os, h.tape, h.output, h.size, fun k hk ho => h.block k hk (hi k hk ho)⟩
theorem Kept.below {ok : Nat → Prop} {a b : World} {B : Nat} (h : Kept ok a b) (hB : B ≤ a.heap.size) (hi : ∀ k, k < B → ok k) : Below B a b :=
  ⟨h.os, h.tape, h.output, h.size, fun k hk => h.block k (Nat.lt_of_lt_of_le hk hB) (hi k hk)⟩
theorem kept_of_below {ok : Nat → Prop} {a b : World} {B : Nat} (h : Below B a b) (hi : ∀ k, k < a.heap.size → ok k → k < B) : Kept ok a b :=
  ⟨h.os, h.tape, h.output, h.size, fun k hk ho => h.block k (hi k hk ho)⟩

theorem lt_of_block {w : World} {b : Nat} {o : Obj} (h : w.heap[b]? = some o) : b < w.heap.size := by
  rcases Nat.lt_or_ge b w.heap.size with h' | h'
  · exact h'
  · rw [Array.getElem?_eq_none h'] at h; cases h

theorem lt_of_cell {w : World} {a : Addr} {v : Value} (h : w.cell? a = some v) : a.block < w.heap.size := by
  rcases Nat.lt_or_ge a.block w.heap.size with h' | h'
  · exact h'
  · simp [World.cell?, Array.getElem?_eq_none h'] at h

theorem cell_of_block {w w' : World} {a : Addr} (h : w'.heap[a.block]? = w.heap[a.block]?) : w'.cell? a = w.cell? a := by
  simp only [World.cell?, h]

theorem blk_cell {w : World} {b : Nat} {cs : Array Value} {T : TypeId} (h : w.heap[b]? = some (.cells cs T (0, 0))) (o : Nat) : w.cell? ⟨b, o, none⟩ = cs[o]? := by simp [World.cell?, h]
theorem blk_fz {w : World} {b : Nat} {cs : Array Value} {T : TypeId} (h : w.heap[b]? = some (.cells cs T (0, 0))) (o : Nat) : w.frozen? ⟨b, o, none⟩ = false := by simp [World.frozen?, h]
/-- A block of three cells, as the walk wants it. -/
theorem blk3 {w : World} {b : Nat} {c0 c1 c2 : Value} {T : TypeId} (h : w.heap[b]? = some (.cells #[c0, c1, c2] T (0, 0))) : w.cell? ⟨b, 0, none⟩ = some c0 ∧ w.cell? ⟨b, 1, none⟩ = some c1 ∧ w.cell? ⟨b, 2, none⟩ = some c2 ∧ w.frozen? ⟨b, 0, none⟩ = false ∧ w.frozen? ⟨b, 1, none⟩ = false ∧ w.frozen? ⟨b, 2, none⟩ = false :=
  ⟨blk_cell h 0, blk_cell h 1, blk_cell h 2, blk_fz h 0, blk_fz h 1, blk_fz h 2⟩
theorem blk2 {w : World} {b : Nat} {c0 c1 : Value} {T : TypeId} (h : w.heap[b]? = some (.cells #[c0, c1] T (0, 0))) : w.cell? ⟨b, 0, none⟩ = some c0 ∧ w.cell? ⟨b, 1, none⟩ = some c1 ∧ w.frozen? ⟨b, 0, none⟩ = false ∧ w.frozen? ⟨b, 1, none⟩ = false :=
  ⟨blk_cell h 0, blk_cell h 1, blk_fz h 0, blk_fz h 1⟩
theorem blk_new (w : World) (o : Obj) : (w.alloc o).heap[w.heap.size]? = some o := by
  show (w.heap.push o)[w.heap.size]? = _
  simp

/-! ### Formulas in memory -/
mutual
def Rep (w : World) (ok : Nat → Prop) : Fm → Value → Prop
  | .mk k n ks, v => ∃ sl cap, v = .agg #[.int .i64 k, .string n, .slice sl ks.length cap] ∧ n.size ≤ maxLen ∧ ks.length ≤ cap ∧ cap ≤ maxLen ∧ (ks ≠ [] → ∃ b off, sl = some ⟨b, off, none⟩ ∧ ok b ∧ Reps w ok b off ks)
def Reps (w : World) (ok : Nat → Prop) (b : Nat) : Nat → List Fm → Prop
  | _, [] => True
  | off, f :: fs => (∃ c0 c1 c2, w.cell? ⟨b, off, none⟩ = some c0 ∧ w.cell? ⟨b, off + 1, none⟩ = some c1 ∧ w.cell? ⟨b, off + 2, none⟩ = some c2 ∧ Rep w ok f (.agg #[c0, c1, c2])) ∧ Reps w ok b (off + 3) fs
end

theorem Rep.def {w : World} {ok : Nat → Prop} {k : Int} {n : ByteArray} {ks : List Fm} {v : Value} : Rep w ok (.mk k n ks) v ↔ ∃ sl cap, v = .agg #[.int .i64 k, .string n, .slice sl ks.length cap] ∧ n.size ≤ maxLen ∧ ks.length ≤ cap ∧ cap ≤ maxLen ∧ (ks ≠ [] → ∃ b off, sl = some ⟨b, off, none⟩ ∧ ok b ∧ Reps w ok b off ks) := by
  rw [Rep]

theorem Reps.nil {w : World} {ok : Nat → Prop} {b off : Nat} : Reps w ok b off [] := by rw [Reps]; trivial

theorem Reps.cons {w : World} {ok : Nat → Prop} {b off : Nat} {f : Fm} {fs : List Fm} : Reps w ok b off (f :: fs) ↔ (∃ c0 c1 c2, w.cell? ⟨b, off, none⟩ = some c0 ∧ w.cell? ⟨b, off + 1, none⟩ = some c1 ∧ w.cell? ⟨b, off + 2, none⟩ = some c2 ∧ Rep w ok f (.agg #[c0, c1, c2])) ∧ Reps w ok b (off + 3) fs := by
  rw [Reps]

mutual
theorem Rep.keep {w w' : World} {ok ok' : Nat → Prop} (hc : ∀ a : Addr, ok a.block → a.block < w.heap.size → w'.cell? a = w.cell? a) (hi : ∀ k, k < w.heap.size → ok k → ok' k) :
    ∀ (f : Fm) (v : Value), Rep w ok f v → Rep w' ok' f v
  | .mk k n ks, v, h => by
    rw [Rep.def] at h ⊢; obtain ⟨sl, cap, hv, hn, hl, hc', hk⟩ := h; (refine ⟨sl, cap, hv, hn, hl, hc', fun hne => ?_⟩); obtain ⟨b, off, hsl, hb, hr⟩ := hk hne
    have hlt : b < w.heap.size := by
      cases ks with
      | nil => exact absurd rfl hne
      | cons g gs =>
        obtain ⟨⟨c0, _, _, h0, _⟩, _⟩ := Reps.cons.1 hr; exact lt_of_cell h0
    exact ⟨b, off, hsl, hi b hlt hb, Reps.keep hc hi hb hlt off ks hr⟩
theorem Reps.keep {w w' : World} {ok ok' : Nat → Prop} (hc : ∀ a : Addr, ok a.block → a.block < w.heap.size → w'.cell? a = w.cell? a) (hi : ∀ k, k < w.heap.size → ok k → ok' k) {b : Nat} (hb : ok b) (hlt : b < w.heap.size) :
    ∀ (off : Nat) (fs : List Fm), Reps w ok b off fs → Reps w' ok' b off fs
  | _, [], _ => Reps.nil
  | off, f :: fs, h => by
    rw [Reps.cons] at h ⊢; obtain ⟨⟨c0, c1, c2, h0, h1, h2, hr⟩, hrs⟩ := h; (exact ⟨⟨c0, c1, c2, by rw [hc _ hb hlt]; exact h0, by rw [hc _ hb hlt]; exact h1, by rw [hc _ hb hlt]; exact h2, Rep.keep hc hi f _ hr⟩, Reps.keep hc hi hb hlt (off + 3) fs hrs⟩)
end

theorem Rep.kept {w w' : World} {ok : Nat → Prop} {f : Fm} {v : Value} (h : Rep w ok f v) (hk : Kept ok w w') : Rep w' ok f v :=
  Rep.keep (fun _ ha hlt => cell_of_block (hk.block _ hlt ha)) (fun _ _ h => h) f v h
theorem Rep.weak {w : World} {ok ok' : Nat → Prop} {f : Fm} {v : Value} (h : Rep w ok f v) (hi : ∀ k, k < w.heap.size → ok k → ok' k) : Rep w ok' f v :=
  Rep.keep (fun _ _ _ => rfl) hi f v h
theorem Reps.kept {w w' : World} {ok : Nat → Prop} {b off : Nat} {fs : List Fm} (h : Reps w ok b off fs) (hb : ok b) (hk : Kept ok w w') : Reps w' ok b off fs := by
  cases fs with
  | nil => exact Reps.nil
  | cons f fs =>
    have hlt : b < w.heap.size := by
      obtain ⟨⟨c0, _, _, h0, _⟩, _⟩ := Reps.cons.1 h; exact lt_of_cell h0
    (exact Reps.keep (fun _ ha hlt => cell_of_block (hk.block _ hlt ha)) (fun _ _ h => h) hb hlt off _ h)

/-- The i-th of the kids. -/
theorem Reps.get {w : World} {ok : Nat → Prop} {b : Nat} : ∀ {off : Nat} {fs : List Fm} (_ : Reps w ok b off fs) (i : Nat) (f : Fm) (_ : fs[i]? = some f),
    ∃ c0 c1 c2, w.cell? ⟨b, off + i * 3, none⟩ = some c0 ∧ w.cell? ⟨b, off + i * 3 + 1, none⟩ = some c1 ∧ w.cell? ⟨b, off + i * 3 + 2, none⟩ = some c2 ∧ Rep w ok f (.agg #[c0, c1, c2])
  | off, [], _, i, f, hf => by simp at hf
  | off, g :: gs, h, i, f, hf => by
    obtain ⟨h1, h2⟩ := Reps.cons.1 h
    cases i with
    | zero => simp at hf; subst hf; simpa using h1
    | succ i =>
      (have := Reps.get h2 i f (by simpa using hf)); (have e : off + 3 + i * 3 = off + (i + 1) * 3 := by omega)
      rwa [e] at this

/-- .. with its parts shown. -/
theorem Reps.at {w : World} {ok : Nat → Prop} {b off : Nat} {fs : List Fm} (h : Reps w ok b off fs) (i : Nat) (k : Int) (n : ByteArray) (ks : List Fm) (hf : fs[i]? = some (.mk k n ks)) :
    ∃ sl cap, w.cell? ⟨b, off + i * 3, none⟩ = some (.int .i64 k) ∧ w.cell? ⟨b, off + i * 3 + 1, none⟩ = some (.string n) ∧ w.cell? ⟨b, off + i * 3 + 2, none⟩ = some (.slice sl ks.length cap) ∧ Rep w ok (.mk k n ks) (.agg #[.int .i64 k, .string n, .slice sl ks.length cap]) := by
  obtain ⟨c0, c1, c2, h0, h1, h2, hr⟩ := h.get i _ hf; obtain ⟨sl, cap, hv, hr'⟩ := Rep.def.1 hr; simp only [Value.agg.injEq, Array.mk.injEq, List.cons.injEq, and_true] at hv; obtain ⟨rfl, rfl, rfl⟩ := hv; exact ⟨sl, cap, h0, h1, h2, hr⟩

theorem Rep.leaf {w : World} {ok : Nat → Prop} {k : Int} {n : ByteArray} (h : n.size ≤ maxLen) : Rep w ok (.mk k n []) (.agg #[.int .i64 k, .string n, .slice none 0 0]) :=
  Rep.def.2 ⟨none, 0, rfl, h, by simp, by simp, fun h => absurd rfl h⟩

/-! ### The reader's block -/
/-- From place a on the text reads l. -/
def At (t : ByteArray) (a : Nat) (l : List UInt8) : Prop := a ≤ t.size ∧ t.data.toList.drop a = l

theorem At.len {t : ByteArray} {a : Nat} {l : List UInt8} (h : At t a l) : a + l.length = t.size := by
  obtain ⟨h1, h2⟩ := h; have e : t.data.toList.length = t.size := Array.length_toList; rw [← h2, List.length_drop, e]; omega
theorem At.cons {t : ByteArray} {a : Nat} {c : UInt8} {l : List UInt8} (h : At t a (c :: l)) : At t (a + 1) l := by
  have := h.len; (refine ⟨by simp at this; omega, ?_⟩); rw [← List.drop_drop, h.2]; rfl
theorem At.head {t : ByteArray} {a : Nat} {c : UInt8} {l : List UInt8} (h : At t a (c :: l)) (hlt : a < t.size) : t[a] = c := by
  have h2 := h.2; have e : t.data.toList.length = t.size := Array.length_toList; (rw [List.drop_eq_getElem_cons (by omega)] at h2); have := (List.cons.inj h2).1; rw [← this]; rfl
end Go.Proofs.Ytmahgfgndfcmpag
/- A region that draws its order, whose operations only add to memory: each operation once, whatever the order. -/
namespace Go.Proofs.Ytmahgfgndfcmpag
open Go.RowKit

/-- A fact that stays while memory is only added to. -/
def Stays (p : Value → World → Prop) : Prop := ∀ v w w', p v w → Below w.heap.size w w' → p v w'
def phiAt (phi : List (Value → World → Prop)) (i : Nat) : Value → World → Prop := phi.getD i fun _ _ => True

/-- No two operations write one slot; each waits for earlier ones alone. -/
def tidyOps (ops : Array Oper) : Bool :=
  (List.range ops.size).all fun i => (List.range ops.size).all fun j => i == j || (match (ops[i]?).bind (·.dst), (ops[j]?).bind (·.dst) with
    | some d, some d' => d != d'
    | _, _ => true)
def backOps (ops : Array Oper) : Bool :=
  (List.range ops.size).all fun i => match ops[i]? with
    | some o => o.after.all fun e => !Region.binds .any e || decide (e.on < i)
    | none => true
def waits (md : Region.Mode) (o : Oper) (j : Nat) : Bool := o.after.toList.any fun e => Region.binds md e && e.on == j

section
variable {P : Program} {ops : Array Oper} {Q : Exit → Act → World → Prop} {phi : List (Value → World → Prop)} {a0 : Act} {W : World}

/-- The slots that no operation of the region writes are as they were. -/
def OldSlots (ops : Array Oper) (a0 a : Act) : Prop := a.tmps.size = a0.tmps.size ∧ a.defers = a0.defers ∧ ∀ t, (ops.toList.all fun o => o.dst != some t) = true → a.tmps[t]? = a0.tmps[t]?

structure Way (ops : Array Oper) (phi : List (Value → World → Prop)) (a0 : Act) (W : World) (listed : Array Bool) (a : Act) (w : World) : Prop where
  below : Below W.heap.size W w
  old : OldSlots ops a0 a
  got : ∀ i o d, ops[i]? = some o → listed.getD i false = true → o.dst = some d → ∃ v, a.tmps[d]? = some v ∧ phiAt phi i v w
  fits : ∀ o d, o ∈ ops.toList → o.dst = some d → d < a0.tmps.size

/-- What is to be shown of one operation. -/
def StepOk (P : Program) (ops : Array Oper) (Q : Exit → Act → World → Prop) (phi : List (Value → World → Prop)) (a0 : Act) (W : World) (i : Nat) (o : Oper) : Prop :=
  ∀ a w, Below W.heap.size W w → OldSlots ops a0 a →
    (∀ j, waits .any o j = true → ∀ o' d, ops[j]? = some o' → o'.dst = some d → ∃ v, a.tmps[d]? = some v ∧ phiAt phi j v w) →
    ∀ K : Act → World → Prop, Hid (∀ v w', phiAt phi i v w' → Below w.heap.size w w' → K (a.put o.dst v) w') → if Region.wanted o (yielded ops a.tmps) = true then Oper.wp P o a w K Q else K (a.put o.dst undef) w
def StepsOk (P : Program) (ops : Array Oper) (Q : Exit → Act → World → Prop) (phi : List (Value → World → Prop)) (a0 : Act) (W : World) : Nat → List Oper → Prop
  | _, [] => True
  | i, o :: os => StepOk P ops Q phi a0 W i o ∧ StepsOk P ops Q phi a0 W (i + 1) os
theorem StepsOk.get : ∀ {i : Nat} {os : List Oper}, StepsOk P ops Q phi a0 W i os → ∀ (j : Nat) (o : Oper), os[j]? = some o → StepOk P ops Q phi a0 W (i + j) o
  | _, [], _, j, o, h => by simp at h
  | i, x :: os, hs, j, o, h => by
    cases j with
    | zero => simp at h; subst h; exact hs.1
    | succ j =>
      (have := StepsOk.get hs.2 j o (by simpa using h))
      rwa [show i + 1 + j = i + (j + 1) by omega] at this

theorem tidy_spec (h : tidyOps ops = true) {i j : Nat} {o o' : Oper} {d : Tmp} (hi : ops[i]? = some o) (hj : ops[j]? = some o') (ho : o.dst = some d) (ho' : o'.dst = some d) : i = j := by
  unfold tidyOps at h; rw [List.all_eq_true] at h; have h1 := h i (List.mem_range.2 (Array.getElem?_eq_some_iff.1 hi).1); rw [List.all_eq_true] at h1; have h2 := h1 j (List.mem_range.2 (Array.getElem?_eq_some_iff.1 hj).1); simp [hi, hj, ho, ho'] at h2; exact h2
theorem all_listed (h : backOps ops = true) {listed : Array Bool} (hsz : listed.size = ops.size) (hr : Region.ready .any ops listed = []) : ∀ (n i : Nat), i < n → i < ops.size → listed.getD i false = true
  | 0, i, h0, _ => by omega
  | n + 1, i, h0, hi => by
    rcases Nat.lt_or_ge i n with hlt | hge
    · exact all_listed h hsz hr n i hlt hi
    · have hin : i = n := by omega
      subst hin; have ho : ops[i]? = some ops[i] := Array.getElem?_eq_getElem hi
      cases hl : listed.getD i true with
      | true =>
        (rw [Array.getD_eq_getD_getElem?, Array.getElem?_eq_getElem (by omega)] at hl ⊢)
        simpa using hl
      | false =>
        have : i ∈ Region.ready .any ops listed := by
          rw [mem_ready]; (refine ⟨hl, ops[i], ho, fun e he hbe => ?_⟩); have hk := h; unfold backOps at hk; rw [List.all_eq_true] at hk; have h1 := hk i (List.mem_range.2 hi); simp only [ho] at h1
          have h2 : e.on < i := by
            obtain ⟨k, hk, rfl⟩ := Array.mem_iff_getElem.1 he; have := Array.all_eq_true.1 h1 k hk; rw [hbe] at this; simpa using this
          (exact all_listed h hsz hr i e.on h2 (by omega))
        rw [hr] at this
        cases this

def unl (l : List Bool) : Nat := l.countP fun b => !b
theorem unl_set : ∀ (l : List Bool) (i : Nat), l[i]? = some false → unl (l.set i true) + 1 = unl l
  | [], i, h => by simp at h
  | b :: l, 0, h => by
    simp at h; subst h
    simp [unl]
  | b :: l, i + 1, h => by
    (have := unl_set l i (by simpa using h)); unfold unl at *
    cases b
    · simp; omega
    · simp; omega

/-- **The region, whatever the order.** -/
theorem wp_region_free {id : Nat} (hm : P.follows .mixedOrders = true) (phi : List (Value → World → Prop)) (hst : ∀ p ∈ phi, Stays p) (ht : tidyOps ops = true) (hb : backOps ops = true) (N : Nat) (hN : a0.tmps.size = N) (hf : ops.toList.all (fun o => match o.dst with | some d => decide (d < N) | none => true) = true)
    (hs : StepsOk P ops Q phi a0 W 0 ops.toList)
    (he : ∀ a w, Below W.heap.size W w → OldSlots ops a0 a → (∀ i o d, ops[i]? = some o → o.dst = some d → ∃ v, a.tmps[d]? = some v ∧ phiAt phi i v w) → Q .normal a w) : (Code.region id ops true).wp P Q a0 W := by
  have hst' : ∀ i, Stays (phiAt phi i) := fun i => by
    unfold phiAt; rw [List.getD_eq_getElem?_getD]
    rcases Nat.lt_or_ge i phi.length with h | h
    · rw [List.getElem?_eq_getElem h]
      exact hst _ (List.getElem_mem h)
    · rw [List.getElem?_eq_none h]
      (exact fun _ _ _ _ _ => trivial)
  have main : ∀ (fuel : Nat) (listed : Array Bool) (a : Act) (w : World), listed.size = ops.size → unl listed.toList ≤ fuel → Way ops phi a0 W listed a w → wpAny P .any ops Q fuel listed a w := by
    have hend : ∀ (listed : Array Bool) (a : Act) (w : World), listed.size = ops.size → Way ops phi a0 W listed a w → Region.ready .any ops listed = [] → Q .normal a w := fun listed a w hsz hw hr =>
      he a w hw.below hw.old fun i o d hi hd => hw.got i o d hi (all_listed hb hsz hr (i + 1) i (Nat.lt_succ_self _) (Array.getElem?_eq_some_iff.1 hi).1) hd
    intro fuel
    induction fuel with
    | zero =>
      intro listed a w hsz hu hw
      have hr : Region.ready .any ops listed = [] := by
        rw [List.eq_nil_iff_forall_not_mem]; intro i hi; obtain ⟨h0, o, ho, -⟩ := mem_ready.1 hi; have hlt := (Array.getElem?_eq_some_iff.1 ho).1
        have h1 : listed.toList[i]? = some false := by
          (rw [Array.getElem?_toList, Array.getElem?_eq_getElem (by omega)]); (rw [Array.getD_eq_getD_getElem?, Array.getElem?_eq_getElem (by omega)] at h0); simpa using h0
        have := unl_set _ _ h1; omega
      exact ⟨hr, hend listed a w hsz hw hr⟩
    | succ fuel ih =>
      intro listed a w hsz hu hw; (refine ⟨hend listed a w hsz hw, fun i hi => ?_⟩); obtain ⟨h0, o, ho, hdep⟩ := mem_ready.1 hi; have hlt := (Array.getElem?_eq_some_iff.1 ho).1
      have h1 : listed.toList[i]? = some false := by
        (rw [Array.getElem?_toList, Array.getElem?_eq_getElem (by omega)]); (rw [Array.getD_eq_getD_getElem?, Array.getElem?_eq_getElem (by omega)] at h0); simpa using h0
      have hu' := unl_set _ _ h1
      have hok : StepOk P ops Q phi a0 W i o := by
        (have := hs.get i o (by rw [Array.getElem?_toList]; exact ho))
        rwa [Nat.zero_add] at this
      have hstep := hok a w hw.below hw.old (fun j hj o' d hj' hd => hw.got j o' d hj' (by
        unfold waits at hj; rw [List.any_eq_true] at hj; obtain ⟨e, hk, hk2⟩ := hj; rw [Bool.and_eq_true, beq_iff_eq] at hk2; have := hdep e (Array.mem_toList_iff.1 hk) hk2.1
        rwa [hk2.2] at this) hd) (wpAny P .any ops Q fuel (listed.setIfInBounds i true)) (fun v w' hp hbw => by
        (refine ih _ _ _ (by simpa using hsz) (by rw [Array.toList_setIfInBounds]; omega) ?_); (have hbel : Below W.heap.size W w' := hw.below.trans (hbw.mono (by have := hw.below.size; exact this))); refine ⟨hbel, ?_, ?_, hw.fits⟩
        · obtain ⟨o1, o2, o3⟩ := hw.old
          (refine ⟨?_, ?_, fun t ht' => ?_⟩)
          · cases hd : o.dst <;> simp [Act.put, o1]
          · cases hd : o.dst <;> simp [Act.put, o2]
          · rw [← o3 t ht']
            cases hd : o.dst with
            | none => rfl
            | some d =>
              have hne : d ≠ t := fun e => by
                have := List.all_eq_true.1 ht' o (Array.mem_toList_iff.2 (Array.mem_of_getElem? ho)); rw [hd, e] at this; simp at this
              simp [Act.put, Array.getElem?_setIfInBounds_ne hne]
        · intro j o' d hj hlj hd
          by_cases hji : i = j
          · subst hji
            rw [ho] at hj
            cases hj
            have hdl : d < a.tmps.size := by rw [hw.old.1]; exact hw.fits o d (by
              rw [Array.mem_toList_iff]; exact Array.mem_of_getElem? ho) hd
            (exact ⟨v, by rw [hd]; simp [Act.put, hdl], hp⟩)
          · rw [getD_set_ne false hji] at hlj
            obtain ⟨u, hu1, hu2⟩ := hw.got j o' d hj hlj hd; refine ⟨u, ?_, hst' j u w w' hu2 hbw⟩
            cases hd' : o.dst with
            | none => exact hu1
            | some d' =>
              (have hne : d' ≠ d := fun e => hji (tidy_spec ht ho hj (by rw [hd', e]) hd))
              simp [Act.put, Array.getElem?_setIfInBounds_ne hne, hu1])
      unfold wpOp; simp only [ho]
      split
      · rename_i hw1
        rw [if_pos hw1] at hstep; exact Or.inl hstep
      · rename_i hw1
        rw [if_neg hw1] at hstep; exact hstep
  (refine wp_region_any hm (main _ _ _ _ (by simp) ?_ ⟨?_, ⟨rfl, rfl, fun _ _ => rfl⟩, ?_, ?_⟩))
  · have : unl (Array.replicate ops.size false).toList ≤ (Array.replicate ops.size false).toList.length := List.countP_le_length
    simpa using this
  · exact ⟨rfl, rfl, rfl, Nat.le_refl _, fun _ _ => rfl⟩
  · intro i o d _ h _
    rw [Array.getD_eq_getD_getElem?] at h
    rcases Nat.lt_or_ge i ops.size with h1 | h1
    · simp [h1] at h
    · simp [Nat.not_lt.2 h1] at h
  · intro o d ho hd
    have := List.all_eq_true.1 hf o ho; rw [hd] at this; rw [hN]; simpa using this
end
end Go.Proofs.Ytmahgfgndfcmpag
/- A region that draws its order, with a last operation that waits for all others. -/
namespace Go.Proofs.Ytmahgfgndfcmpag
open Go.RowKit
section
variable {P : Program} {ops : Array Oper} {Q : Exit → Act → World → Prop} {a0 : Act} {W : World}

/-- The same, with a last operation that waits for all others and may write. -/
theorem wp_region_last {id : Nat} (hm : P.follows .mixedOrders = true) (phi : List (Value → World → Prop)) (hst : ∀ p ∈ phi, Stays p) (ht : tidyOps ops = true) (hb : backOps ops = true) (N : Nat) (hN : a0.tmps.size = N) (hf : ops.toList.all (fun o => match o.dst with | some d => decide (d < N) | none => true) = true)
    (m : Nat) (ol : Oper) (hm1 : ops.size = m + 1) (hol : ops[m]? = some ol) (hw : (List.range m).all (waits .any ol) = true) (hs : StepsOk P ops Q phi a0 W 0 (ops.toList.take m))
    (he : ∀ a w, Below W.heap.size W w → OldSlots ops a0 a → (∀ i o d, i < m → ops[i]? = some o → o.dst = some d → ∃ v, a.tmps[d]? = some v ∧ phiAt phi i v w) → ∀ K : Act → World → Prop, Hid (∀ a' w', Q .normal a' w' → K a' w') → if Region.wanted ol (yielded ops a.tmps) = true then Oper.wp P ol a w K Q else K (a.put ol.dst undef) w) : (Code.region id ops true).wp P Q a0 W := by
  have hst' : ∀ i, Stays (phiAt phi i) := fun i => by
    unfold phiAt; rw [List.getD_eq_getElem?_getD]
    rcases Nat.lt_or_ge i phi.length with h | h
    · rw [List.getElem?_eq_getElem h]
      exact hst _ (List.getElem_mem h)
    · rw [List.getElem?_eq_none h]
      (exact fun _ _ _ _ _ => trivial)
  have done : ∀ (fuel : Nat) (listed : Array Bool) (a : Act) (w : World), Region.ready .any ops listed = [] → Q .normal a w → wpAny P .any ops Q fuel listed a w := fun fuel listed a w hr hq => by
    cases fuel with
    | zero => exact ⟨hr, hq⟩
    | succ fuel => exact ⟨fun _ => hq, fun i hi => by rw [hr] at hi; cases hi⟩
  have main : ∀ (fuel : Nat) (listed : Array Bool) (a : Act) (w : World), listed.size = ops.size → unl listed.toList ≤ fuel → listed.getD m true = false → Way ops phi a0 W listed a w → wpAny P .any ops Q fuel listed a w := by
    have hend : ∀ (listed : Array Bool) (a : Act) (w : World), listed.size = ops.size → listed.getD m true = false → Region.ready .any ops listed = [] → Q .normal a w := fun listed a w hsz hm0 hr => by
      (have := all_listed hb hsz hr (m + 1) m (Nat.lt_succ_self _) (by omega)); (rw [Array.getD_eq_getD_getElem?, Array.getElem?_eq_getElem (by omega)] at this hm0); simp at this hm0; rw [hm0] at this
      cases this
    intro fuel
    induction fuel with
    | zero =>
      intro listed a w hsz hu hmf hw
      have hr : Region.ready .any ops listed = [] := by
        rw [List.eq_nil_iff_forall_not_mem]; intro i hi; obtain ⟨h0, o, ho, -⟩ := mem_ready.1 hi; have hlt := (Array.getElem?_eq_some_iff.1 ho).1
        have h1 : listed.toList[i]? = some false := by
          (rw [Array.getElem?_toList, Array.getElem?_eq_getElem (by omega)]); (rw [Array.getD_eq_getD_getElem?, Array.getElem?_eq_getElem (by omega)] at h0); simpa using h0
        have := unl_set _ _ h1; omega
      exact ⟨hr, hend listed a w hsz hmf hr⟩
    | succ fuel ih =>
      intro listed a w hsz hu hmf hwy; (refine ⟨hend listed a w hsz hmf, fun i hi => ?_⟩); obtain ⟨h0, o, ho, hdep⟩ := mem_ready.1 hi; have hlt := (Array.getElem?_eq_some_iff.1 ho).1
      have h1 : listed.toList[i]? = some false := by
        (rw [Array.getElem?_toList, Array.getElem?_eq_getElem (by omega)]); (rw [Array.getD_eq_getD_getElem?, Array.getElem?_eq_getElem (by omega)] at h0); simpa using h0
      have hu' := unl_set _ _ h1; by_cases him : i = m
      · subst him
        rw [hol] at ho
        cases ho
        have hall : ∀ j, j < i → listed.getD j false = true := fun j hj => by
          have hwj := List.all_eq_true.1 hw j (List.mem_range.2 hj); unfold waits at hwj; rw [List.any_eq_true] at hwj; obtain ⟨e, hk, hk2⟩ := hwj; rw [Bool.and_eq_true, beq_iff_eq] at hk2; have := hdep e (Array.mem_toList_iff.1 hk) hk2.1
          rwa [hk2.2] at this
        have hnone : Region.ready .any ops (listed.setIfInBounds i true) = [] := by
          rw [List.eq_nil_iff_forall_not_mem]; intro j hj; obtain ⟨g0, o', ho', -⟩ := mem_ready.1 hj; have hjl := (Array.getElem?_eq_some_iff.1 ho').1; by_cases hji : i = j
          · subst hji
            simp [hsz, hlt] at g0
          · rw [getD_set_ne true hji] at g0
            (have := hall j (by omega)); (rw [Array.getD_eq_getD_getElem?, Array.getElem?_eq_getElem (by omega)] at this g0); simp at this g0; rw [g0] at this
            cases this
        (have hstep := he a w hwy.below hwy.old (fun j o' d hj hoj hd => hwy.got j o' d hoj (hall j hj) hd) (wpAny P .any ops Q fuel (listed.setIfInBounds i true)) (fun a' w' hq => done _ _ _ _ hnone hq)); unfold wpOp; simp only [hol]
        split
        · rename_i hw1
          rw [if_pos hw1] at hstep; exact Or.inl hstep
        · rename_i hw1
          rw [if_neg hw1] at hstep; exact hstep
      have hok : StepOk P ops Q phi a0 W i o := by
        (have := hs.get i o (by rw [List.getElem?_take_of_lt (by omega), Array.getElem?_toList]; exact ho))
        rwa [Nat.zero_add] at this
      have hstep := hok a w hwy.below hwy.old (fun j hj o' d hj' hd => hwy.got j o' d hj' (by
        unfold waits at hj; rw [List.any_eq_true] at hj; obtain ⟨e, hk, hk2⟩ := hj; rw [Bool.and_eq_true, beq_iff_eq] at hk2; have := hdep e (Array.mem_toList_iff.1 hk) hk2.1
        rwa [hk2.2] at this) hd) (wpAny P .any ops Q fuel (listed.setIfInBounds i true)) (fun v w' hp hbw => by
        (refine ih _ _ _ (by simpa using hsz) (by rw [Array.toList_setIfInBounds]; omega) (by rw [getD_set_ne true him]; exact hmf) ?_); (have hbel : Below W.heap.size W w' := hwy.below.trans (hbw.mono (by have := hwy.below.size; exact this))); refine ⟨hbel, ?_, ?_, hwy.fits⟩
        · obtain ⟨o1, o2, o3⟩ := hwy.old
          (refine ⟨?_, ?_, fun t ht' => ?_⟩)
          · cases hd : o.dst <;> simp [Act.put, o1]
          · cases hd : o.dst <;> simp [Act.put, o2]
          · rw [← o3 t ht']
            cases hd : o.dst with
            | none => rfl
            | some d =>
              have hne : d ≠ t := fun e => by
                have := List.all_eq_true.1 ht' o (Array.mem_toList_iff.2 (Array.mem_of_getElem? ho)); rw [hd, e] at this; simp at this
              simp [Act.put, Array.getElem?_setIfInBounds_ne hne]
        · intro j o' d hj hlj hd
          by_cases hji : i = j
          · subst hji
            rw [ho] at hj
            cases hj
            have hdl : d < a.tmps.size := by rw [hwy.old.1]; exact hwy.fits o d (by
              rw [Array.mem_toList_iff]; exact Array.mem_of_getElem? ho) hd
            (exact ⟨v, by rw [hd]; simp [Act.put, hdl], hp⟩)
          · rw [getD_set_ne false hji] at hlj
            obtain ⟨u, hu1, hu2⟩ := hwy.got j o' d hj hlj hd; refine ⟨u, ?_, hst' j u w w' hu2 hbw⟩
            cases hd' : o.dst with
            | none => exact hu1
            | some d' =>
              (have hne : d' ≠ d := fun e => hji (tidy_spec ht ho hj (by rw [hd', e]) hd))
              simp [Act.put, Array.getElem?_setIfInBounds_ne hne, hu1])
      unfold wpOp; simp only [ho]
      split
      · rename_i hw1
        rw [if_pos hw1] at hstep; exact Or.inl hstep
      · rename_i hw1
        rw [if_neg hw1] at hstep; exact hstep
  (refine wp_region_any hm (main _ _ _ _ (by simp) ?_ (by simp [hm1]) ⟨?_, ⟨rfl, rfl, fun _ _ => rfl⟩, ?_, ?_⟩))
  · have : unl (Array.replicate ops.size false).toList ≤ (Array.replicate ops.size false).toList.length := List.countP_le_length
    simpa using this
  · exact ⟨rfl, rfl, rfl, Nat.le_refl _, fun _ _ => rfl⟩
  · intro i o d _ h _
    rw [Array.getD_eq_getD_getElem?] at h
    rcases Nat.lt_or_ge i ops.size with h1 | h1
    · simp [h1] at h
    · simp [Nat.not_lt.2 h1] at h
  · intro o d ho hd
    have := List.all_eq_true.1 hf o ho; rw [hd] at this; rw [hN]; simpa using this
end
end Go.Proofs.Ytmahgfgndfcmpag
/- A region that draws its order, in which one operation x writes: all others that are not plain come ahead of it; the last one waits for all. -/
namespace Go.Proofs.Ytmahgfgndfcmpag
open Go.RowKit

/-- Does operation i wait for j, by way of others? -/
def reachB (ops : Array Oper) : Nat → Nat → Nat → Bool
  | 0, i, j => match ops[i]? with | some o => waits .any o j | none => false
  | n + 1, i, j => match ops[i]? with | some o => waits .any o j || (List.range ops.size).any fun k => waits .any o k && reachB ops n k j | none => false
/-- A plain operation: whatever the world is, it gives c. -/
def StepE (P : Program) (ops : Array Oper) (Q : Exit → Act → World → Prop) (E : Nat → Option Value) (a0 : Act) (o : Oper) (c : Value) : Prop :=
  ∀ a w, OldSlots ops a0 a → (∀ j, waits .any o j = true → ∀ o' d cj, ops[j]? = some o' → o'.dst = some d → E j = some cj → a.tmps[d]? = some cj) → ∀ K : Act → World → Prop, Hid (K (a.put o.dst c) w) → if Region.wanted o (yielded ops a.tmps) = true then Oper.wp P o a w K Q else K (a.put o.dst undef) w
structure WayA (ops : Array Oper) (phi : List (Value → World → Prop)) (E : Nat → Option Value) (x : Nat) (psi : Value → World → Prop) (a0 : Act) (W : World) (listed : Array Bool) (a : Act) (w : World) : Prop where
  old : OldSlots ops a0 a
  fits : ∀ o d, o ∈ ops.toList → o.dst = some d → d < a0.tmps.size
  clo : ∀ i o, ops[i]? = some o → listed.getD i false = true → ∀ j, waits .any o j = true → listed.getD j false = true
  pure : ∀ i o d c, ops[i]? = some o → listed.getD i false = true → o.dst = some d → E i = some c → a.tmps[d]? = some c
  ahead : listed.getD x false = false → Below W.heap.size W w ∧ ∀ i o d, ops[i]? = some o → listed.getD i false = true → o.dst = some d → E i = none → ∃ v, a.tmps[d]? = some v ∧ phiAt phi i v w
  behind : listed.getD x false = true → ∀ o d, ops[x]? = some o → o.dst = some d → ∃ v, a.tmps[d]? = some v ∧ psi v w
section
variable {P : Program} {ops : Array Oper} {Q : Exit → Act → World → Prop} {a0 : Act} {W : World}
theorem WayA.reach {phi : List (Value → World → Prop)} {E : Nat → Option Value} {x : Nat} {psi : Value → World → Prop} {listed : Array Bool} {a : Act} {w : World} (h : WayA ops phi E x psi a0 W listed a w) : ∀ (n i j : Nat), listed.getD i false = true → reachB ops n i j = true → listed.getD j false = true
  | 0, i, j, hi, hr => by
    unfold reachB at hr
    cases ho : ops[i]? with
    | none => rw [ho] at hr; cases hr
    | some o => rw [ho] at hr; exact h.clo i o ho hi j hr
  | n + 1, i, j, hi, hr => by
    unfold reachB at hr
    cases ho : ops[i]? with
    | none => rw [ho] at hr; cases hr
    | some o =>
      rw [ho] at hr
      rcases Bool.or_eq_true_iff.1 hr with h1 | h1
      · exact h.clo i o ho hi j h1
      · obtain ⟨k, -, hk⟩ := List.any_eq_true.1 h1
        obtain ⟨hk1, hk2⟩ := Bool.and_eq_true_iff.1 hk; exact WayA.reach h n k j (h.clo i o ho hi k hk1) hk2
def StepsA (P : Program) (ops : Array Oper) (Q : Exit → Act → World → Prop) (phi : List (Value → World → Prop)) (E : Nat → Option Value) (x : Nat) (a0 : Act) (W : World) : Nat → List Oper → Prop
  | _, [] => True
  | i, o :: os => (if i = x then True else match E i with | some c => StepE P ops Q E a0 o c | none => StepOk P ops Q phi a0 W i o) ∧ StepsA P ops Q phi E x a0 W (i + 1) os
theorem StepsA.get {phi : List (Value → World → Prop)} {E : Nat → Option Value} {x : Nat} : ∀ {i : Nat} {os : List Oper}, StepsA P ops Q phi E x a0 W i os → ∀ (j : Nat) (o : Oper), os[j]? = some o → (if i + j = x then True else match E (i + j) with | some c => StepE P ops Q E a0 o c | none => StepOk P ops Q phi a0 W (i + j) o)
  | _, [], _, j, o, h => by simp at h
  | i, y :: os, hs, j, o, h => by
    cases j with
    | zero => simp at h; subst h; exact hs.1
    | succ j =>
      (have := StepsA.get hs.2 j o (by simpa using h))
      rwa [show i + 1 + j = i + (j + 1) by omega] at this
/-- **The region**: x writes, the last one ends. -/
theorem wp_region_wr {id : Nat} (hm : P.follows .mixedOrders = true) (phi : List (Value → World → Prop)) (hst : ∀ p ∈ phi, Stays p) (ht : tidyOps ops = true) (hb : backOps ops = true) (N : Nat) (hN : a0.tmps.size = N) (hf : ops.toList.all (fun o => match o.dst with | some d => decide (d < N) | none => true) = true)
    (m : Nat) (ol : Oper) (hm1 : ops.size = m + 1) (hol : ops[m]? = some ol) (hw : (List.range m).all (waits .any ol) = true)
    (E : Nat → Option Value) (x : Nat) (ox : Oper) (hxm : x < m) (hox : ops[x]? = some ox) (hEx : E x = none) (n : Nat) (hr : ((List.range m).all fun j => j == x || (E j).isSome || reachB ops n x j) = true) (psi : Value → World → Prop) (hpure : ∀ j c w, E j = some c → phiAt phi j c w)
    (hs : StepsA P ops Q phi E x a0 W 0 (ops.toList.take m))
    (hx : ∀ a w, Below W.heap.size W w → OldSlots ops a0 a → (∀ i o d, i < m → i ≠ x → E i = none → ops[i]? = some o → o.dst = some d → ∃ v, a.tmps[d]? = some v ∧ phiAt phi i v w) → ∀ K : Act → World → Prop, Hid (∀ v w', psi v w' → K (a.put ox.dst v) w') → if Region.wanted ox (yielded ops a.tmps) = true then Oper.wp P ox a w K Q else K (a.put ox.dst undef) w)
    (he : ∀ a w, OldSlots ops a0 a → (∀ d, ox.dst = some d → ∃ v, a.tmps[d]? = some v ∧ psi v w) → (∀ i o d c, ops[i]? = some o → i < m → o.dst = some d → E i = some c → a.tmps[d]? = some c) → ∀ K : Act → World → Prop, Hid (∀ a' w', Q .normal a' w' → K a' w') → if Region.wanted ol (yielded ops a.tmps) = true then Oper.wp P ol a w K Q else K (a.put ol.dst undef) w) : (Code.region id ops true).wp P Q a0 W := by
  have hst' : ∀ i, Stays (phiAt phi i) := fun i => by
    unfold phiAt; rw [List.getD_eq_getElem?_getD]
    rcases Nat.lt_or_ge i phi.length with h | h
    · rw [List.getElem?_eq_getElem h]
      exact hst _ (List.getElem_mem h)
    · rw [List.getElem?_eq_none h]
      (exact fun _ _ _ _ _ => trivial)
  have done : ∀ (fuel : Nat) (listed : Array Bool) (a : Act) (w : World), Region.ready .any ops listed = [] → Q .normal a w → wpAny P .any ops Q fuel listed a w := fun fuel listed a w hr hq => by
    cases fuel with
    | zero => exact ⟨hr, hq⟩
    | succ fuel => exact ⟨fun _ => hq, fun i hi => by rw [hr] at hi; cases hi⟩
  have main : ∀ (fuel : Nat) (listed : Array Bool) (a : Act) (w : World), listed.size = ops.size → unl listed.toList ≤ fuel → listed.getD m true = false → WayA ops phi E x psi a0 W listed a w → wpAny P .any ops Q fuel listed a w := by
    have hend : ∀ (listed : Array Bool) (a : Act) (w : World), listed.size = ops.size → listed.getD m true = false → Region.ready .any ops listed = [] → Q .normal a w := fun listed a w hsz hm0 hr => by
      (have := all_listed hb hsz hr (m + 1) m (Nat.lt_succ_self _) (by omega)); (rw [Array.getD_eq_getD_getElem?, Array.getElem?_eq_getElem (by omega)] at this hm0); simp at this hm0; rw [hm0] at this
      cases this
    intro fuel
    induction fuel with
    | zero =>
      intro listed a w hsz hu hmf hw
      have hr : Region.ready .any ops listed = [] := by
        rw [List.eq_nil_iff_forall_not_mem]; intro i hi; obtain ⟨h0, o, ho, -⟩ := mem_ready.1 hi; have hlt := (Array.getElem?_eq_some_iff.1 ho).1
        have h1 : listed.toList[i]? = some false := by
          (rw [Array.getElem?_toList, Array.getElem?_eq_getElem (by omega)]); (rw [Array.getD_eq_getD_getElem?, Array.getElem?_eq_getElem (by omega)] at h0); simpa using h0
        have := unl_set _ _ h1; omega
      exact ⟨hr, hend listed a w hsz hmf hr⟩
    | succ fuel ih =>
      intro listed a w hsz hu hmf hwy; (refine ⟨hend listed a w hsz hmf, fun i hi => ?_⟩); obtain ⟨h0, o, ho, hdep⟩ := mem_ready.1 hi; have hlt := (Array.getElem?_eq_some_iff.1 ho).1
      have h1 : listed.toList[i]? = some false := by
        (rw [Array.getElem?_toList, Array.getElem?_eq_getElem (by omega)]); (rw [Array.getD_eq_getD_getElem?, Array.getElem?_eq_getElem (by omega)] at h0); simpa using h0
      have hun : listed.getD i false = false := by
        (rw [Array.getD_eq_getD_getElem?, Array.getElem?_eq_getElem (by omega)] at h0 ⊢); simpa using h0
      have hu' := unl_set _ _ h1
      have hdir : ∀ j, waits .any o j = true → listed.getD j false = true := fun j hwj => by
        unfold waits at hwj; rw [List.any_eq_true] at hwj; obtain ⟨e, hk, hk2⟩ := hwj; rw [Bool.and_eq_true, beq_iff_eq] at hk2; have := hdep e (Array.mem_toList_iff.1 hk) hk2.1
        rwa [hk2.2] at this
      have hset : ∀ q, listed.getD q false = true → (listed.setIfInBounds i true).getD q false = true := fun q hq => by
        by_cases hqi : i = q
        · subst hqi; simp [hsz, hlt]
        · rw [getD_set_ne false hqi]; exact hq
      have hput : ∀ (v : Value) (j : Nat) (o' : Oper) (d' : Nat), i ≠ j → ops[j]? = some o' → o'.dst = some d' → (a.put o.dst v).tmps[d']? = a.tmps[d']? := fun v j o' d' hji hj hd' => by
        cases hdo : o.dst with
        | none => rfl
        | some d0 =>
          (have hne : d0 ≠ d' := fun e => hji (tidy_spec ht ho hj (by rw [hdo, e]) hd')); simp [Act.put, Array.getElem?_setIfInBounds_ne hne]
      have hself : ∀ (v : Value) d, o.dst = some d → (a.put o.dst v).tmps[d]? = some v := fun v d hd => by
        (have hdl : d < a.tmps.size := by rw [hwy.old.1]; exact hwy.fits o d (by rw [Array.mem_toList_iff]; exact Array.mem_of_getElem? ho) hd); rw [hd]; simp [Act.put, hdl]
      have hold : ∀ v, OldSlots ops a0 (a.put o.dst v) := fun v => by
        obtain ⟨o1, o2, o3⟩ := hwy.old; (refine ⟨?_, ?_, fun t ht' => ?_⟩)
        · cases hd : o.dst <;> simp [Act.put, o1]
        · cases hd : o.dst <;> simp [Act.put, o2]
        · rw [← o3 t ht']
          cases hd : o.dst with
          | none => rfl
          | some d =>
            have hne : d ≠ t := fun e => by
              have := List.all_eq_true.1 ht' o (Array.mem_toList_iff.2 (Array.mem_of_getElem? ho)); rw [hd, e] at this; simp at this
            simp [Act.put, Array.getElem?_setIfInBounds_ne hne]
      have hclo : ∀ j o', ops[j]? = some o' → (listed.setIfInBounds i true).getD j false = true → ∀ q, waits .any o' q = true → (listed.setIfInBounds i true).getD q false = true := fun j o' hj hlj q hq => by
        by_cases hji : i = j
        · subst hji
          rw [ho] at hj
          cases hj
          exact hset q (hdir q hq)
        · rw [getD_set_ne false hji] at hlj
          exact hset q (hwy.clo j o' hj hlj q hq)
      have hfin : ∀ (K : Act → World → Prop), (if Region.wanted o (yielded ops a.tmps) = true then Oper.wp P o a w K Q else K (a.put o.dst undef) w) → wpOp P ops Q i K a w := fun K hK => by
        unfold wpOp; simp only [ho]
        split
        · rename_i hw1
          rw [if_pos hw1] at hK; exact Or.inl hK
        · rename_i hw1
          rw [if_neg hw1] at hK; exact hK
      by_cases him : i = m
      · subst him
        rw [hol] at ho
        cases ho
        (have hall : ∀ j, j < i → listed.getD j false = true := fun j hj => hdir j (List.all_eq_true.1 hw j (List.mem_range.2 hj)))
        have hnone : Region.ready .any ops (listed.setIfInBounds i true) = [] := by
          rw [List.eq_nil_iff_forall_not_mem]; intro j hj; obtain ⟨g0, o', ho', -⟩ := mem_ready.1 hj; have hjl := (Array.getElem?_eq_some_iff.1 ho').1; by_cases hji : i = j
          · subst hji
            simp [hsz, hlt] at g0
          · rw [getD_set_ne true hji] at g0
            (have := hall j (by omega)); (rw [Array.getD_eq_getD_getElem?, Array.getElem?_eq_getElem (by omega)] at this g0); simp at this g0; rw [g0] at this
            cases this
        (exact hfin _ (he a w hwy.old (fun d hd => hwy.behind (hall x hxm) ox d hox hd) (fun j o' d c hj hjm hd hc => hwy.pure j o' d c hj (hall j hjm) hd hc) _ (fun a' w' hq => done _ _ _ _ hnone hq)))
      (have hmf' : (listed.setIfInBounds i true).getD m true = false := by rw [getD_set_ne true him]; exact hmf); (have hsz' : (listed.setIfInBounds i true).size = ops.size := by simpa using hsz); (have hu2 : unl (listed.setIfInBounds i true).toList ≤ fuel := by rw [Array.toList_setIfInBounds]; omega); by_cases hix : i = x
      · subst hix
        rw [hox] at ho
        cases ho
        (have hself2 : (listed.setIfInBounds i true).getD i false = true := by simp [hsz, hlt])
        have hfree : ∀ j, j < m → j ≠ i → E j = none → listed.getD j false = true := fun j hj hne hE => by
          have := List.all_eq_true.1 hr j (List.mem_range.2 hj); rw [hE] at this; (have hne2 : (j == i) = false := by simpa using hne); rw [hne2] at this; simp only [Option.isSome_none, Bool.or_false, Bool.false_or] at this
          have key : ∀ (n j : Nat), reachB ops n i j = true → listed.getD j false = true := fun n j hr => by
            cases n with
            | zero =>
              unfold reachB at hr; rw [hox] at hr
              exact hdir j hr
            | succ n =>
              unfold reachB at hr; rw [hox] at hr
              rcases Bool.or_eq_true_iff.1 hr with h1 | h1
              · exact hdir j h1
              · obtain ⟨k, -, hk⟩ := List.any_eq_true.1 h1
                obtain ⟨hk1, hk2⟩ := Bool.and_eq_true_iff.1 hk; exact hwy.reach n k j (hdir k hk1) hk2
          exact key n j this
        obtain ⟨hbel, hgot⟩ := hwy.ahead hun; (refine hfin _ (hx a w hbel hwy.old (fun j o' d hj hne hE hoj hd => hgot j o' d hoj (hfree j hj hne hE) hd hE) _ (fun v w' hp => ?_))); (refine ih _ _ _ hsz' hu2 hmf' ⟨hold v, hwy.fits, hclo, fun j o' d c hj hlj hd hc => ?_, fun h => (by rw [hself2] at h; cases h), fun _ o' d ho' hd => ?_⟩)
        · have hne : i ≠ j := fun e => by rw [← e, hEx] at hc; cases hc
          rw [getD_set_ne false hne] at hlj; rw [hput v j o' d hne hj hd]; exact hwy.pure j o' d c hj hlj hd hc
        · rw [hox] at ho'
          cases ho'
          exact ⟨v, hself v d hd, hp⟩
      (have hstep := hs.get i o (by rw [List.getElem?_take_of_lt (by omega), Array.getElem?_toList]; exact ho)); rw [Nat.zero_add, if_neg hix] at hstep; have hxl : (listed.setIfInBounds i true).getD x false = listed.getD x false := getD_set_ne false hix
      cases hE : E i with
      | some c =>
        rw [hE] at hstep; (refine hfin _ (hstep a w hwy.old (fun j hj o' d cj hoj hd hc => hwy.pure j o' d cj hoj (hdir j hj) hd hc) _ ?_)); (refine ih _ _ _ hsz' hu2 hmf' ⟨hold c, hwy.fits, hclo, fun j o' d cj hj hlj hd hc => ?_, fun h => ?_, fun h o' d ho' hd => ?_⟩)
        · by_cases hji : i = j
          · subst hji
            rw [ho] at hj
            cases hj
            rw [hE] at hc
            cases hc
            exact hself c d hd
          · rw [getD_set_ne false hji] at hlj
            rw [hput c j o' d hji hj hd]; exact hwy.pure j o' d cj hj hlj hd hc
        · rw [hxl] at h
          obtain ⟨hbel, hgot⟩ := hwy.ahead h; (refine ⟨hbel, fun j o' d hj hlj hd hEj => ?_⟩); (have hji : i ≠ j := fun e => by rw [← e, hE] at hEj; cases hEj); rw [getD_set_ne false hji] at hlj; rw [hput c j o' d hji hj hd]; exact hgot j o' d hj hlj hd hEj
        · rw [hxl] at h
          rw [hput c x o' d hix ho' hd]
          exact hwy.behind h o' d ho' hd
      | none =>
        rw [hE] at hstep
        have hxun : listed.getD x false = false := by
          cases hxl2 : listed.getD x false with
          | false => rfl
          | true =>
            (have := List.all_eq_true.1 hr i (List.mem_range.2 (by omega))); rw [hE] at this; (have hne2 : (i == x) = false := by simpa using hix); rw [hne2] at this; simp only [Option.isSome_none, Bool.or_false, Bool.false_or] at this; have := hwy.reach n x i hxl2 this; rw [hun] at this
            cases this
        obtain ⟨hbel, hgot⟩ := hwy.ahead hxun; (refine hfin _ (hstep a w hbel hwy.old (fun j hj o' d hoj hd => ?_) _ (fun v w' hp hbw => ?_)))
        · cases hEj : E j with
          | none => exact hgot j o' d hoj (hdir j hj) hd hEj
          | some cj => exact ⟨cj, hwy.pure j o' d cj hoj (hdir j hj) hd hEj, hpure j cj w hEj⟩
        · refine ih _ _ _ hsz' hu2 hmf' ⟨hold v, hwy.fits, hclo, fun j o' d cj hj hlj hd hc => ?_, fun h => ?_, fun h => (by rw [hxl, hxun] at h; cases h)⟩
          · have hji : i ≠ j := fun e => by rw [← e, hE] at hc; cases hc
            rw [getD_set_ne false hji] at hlj; rw [hput v j o' d hji hj hd]; exact hwy.pure j o' d cj hj hlj hd hc
          · refine ⟨hbel.trans (hbw.mono hbel.size), fun j o' d hj hlj hd hEj => ?_⟩
            by_cases hji : i = j
            · subst hji
              rw [ho] at hj
              cases hj
              exact ⟨v, hself v d hd, hp⟩
            · rw [getD_set_ne false hji] at hlj
              obtain ⟨u, hu1, hu2⟩ := hgot j o' d hj hlj hd hEj; (exact ⟨u, by rw [hput v j o' d hji hj hd]; exact hu1, hst' j u w w' hu2 hbw⟩)
  (refine wp_region_any hm (main _ _ _ _ (by simp) ?_ (by simp [hm1]) ?_))
  · have : unl (Array.replicate ops.size false).toList ≤ (Array.replicate ops.size false).toList.length := List.countP_le_length
    simpa using this
  · have hno : ∀ i, (Array.replicate ops.size false).getD i false = true → False := fun i h => by
      rw [Array.getD_eq_getD_getElem?] at h
      rcases Nat.lt_or_ge i ops.size with h1 | h1
      · simp [h1] at h
      · simp [Nat.not_lt.2 h1] at h
    (refine ⟨⟨rfl, rfl, fun _ _ => rfl⟩, fun o d ho hd => ?_, fun i _ _ h => (hno i h).elim, fun i _ _ _ _ h => (hno i h).elim, fun _ => ⟨⟨rfl, rfl, rfl, Nat.le_refl _, fun _ _ => rfl⟩, fun i _ _ _ h => (hno i h).elim⟩, fun h => (hno x h).elim⟩); have := List.all_eq_true.1 hf o ho; rw [hd] at this; rw [hN]; simpa using this
end
end Go.Proofs.Ytmahgfgndfcmpag
/- A region that draws its order, in which one operation x writes: all others that are not plain come ahead of it; the last one waits for all. -/
namespace Go.Proofs.Ytmahgfgndfcmpag
open Go.RowKit

/-- A step, with the slots that the last operation has not written yet. -/
def StepOkB (P : Program) (ops : Array Oper) (Q : Exit → Act → World → Prop) (phi : List (Value → World → Prop)) (m : Nat) (a0 : Act) (W : World) (i : Nat) (o : Oper) : Prop :=
  ∀ a w, Below W.heap.size W w → OldSlots ⟨ops.toList.take m⟩ a0 a → (∀ j, waits .any o j = true → ∀ o' d, ops[j]? = some o' → o'.dst = some d → ∃ v, a.tmps[d]? = some v ∧ phiAt phi j v w) → ∀ K : Act → World → Prop, Hid (∀ v w', phiAt phi i v w' → Below w.heap.size w w' → K (a.put o.dst v) w') → if Region.wanted o (yielded ops a.tmps) = true then Oper.wp P o a w K Q else K (a.put o.dst undef) w
/-- A plain operation: whatever the world is, it gives c. -/
def StepEB (P : Program) (ops : Array Oper) (Q : Exit → Act → World → Prop) (m : Nat) (E : Nat → Option Value) (a0 : Act) (o : Oper) (c : Value) : Prop :=
  ∀ a w, OldSlots ⟨ops.toList.take m⟩ a0 a → (∀ j, waits .any o j = true → ∀ o' d cj, ops[j]? = some o' → o'.dst = some d → E j = some cj → a.tmps[d]? = some cj) → ∀ K : Act → World → Prop, Hid (K (a.put o.dst c) w) → if Region.wanted o (yielded ops a.tmps) = true then Oper.wp P o a w K Q else K (a.put o.dst undef) w
structure WayB (m : Nat) (ops : Array Oper) (phi : List (Value → World → Prop)) (E : Nat → Option Value) (x : Nat) (psi : Value → World → Prop) (a0 : Act) (W : World) (listed : Array Bool) (a : Act) (w : World) : Prop where
  old : OldSlots ⟨ops.toList.take m⟩ a0 a
  fits : ∀ o d, o ∈ ops.toList → o.dst = some d → d < a0.tmps.size
  clo : ∀ i o, ops[i]? = some o → listed.getD i false = true → ∀ j, waits .any o j = true → listed.getD j false = true
  pure : ∀ i o d c, ops[i]? = some o → listed.getD i false = true → o.dst = some d → E i = some c → a.tmps[d]? = some c
  ahead : listed.getD x false = false → Below W.heap.size W w ∧ ∀ i o d, ops[i]? = some o → listed.getD i false = true → o.dst = some d → E i = none → ∃ v, a.tmps[d]? = some v ∧ phiAt phi i v w
  behind : listed.getD x false = true → ∀ o d, ops[x]? = some o → o.dst = some d → ∃ v, a.tmps[d]? = some v ∧ psi v w
section
variable {P : Program} {ops : Array Oper} {Q : Exit → Act → World → Prop} {a0 : Act} {W : World}
theorem WayB.reach {m : Nat} {phi : List (Value → World → Prop)} {E : Nat → Option Value} {x : Nat} {psi : Value → World → Prop} {listed : Array Bool} {a : Act} {w : World} (h : WayB m ops phi E x psi a0 W listed a w) : ∀ (n i j : Nat), listed.getD i false = true → reachB ops n i j = true → listed.getD j false = true
  | 0, i, j, hi, hr => by
    unfold reachB at hr
    cases ho : ops[i]? with
    | none => rw [ho] at hr; cases hr
    | some o => rw [ho] at hr; exact h.clo i o ho hi j hr
  | n + 1, i, j, hi, hr => by
    unfold reachB at hr
    cases ho : ops[i]? with
    | none => rw [ho] at hr; cases hr
    | some o =>
      rw [ho] at hr
      rcases Bool.or_eq_true_iff.1 hr with h1 | h1
      · exact h.clo i o ho hi j h1
      · obtain ⟨k, -, hk⟩ := List.any_eq_true.1 h1
        obtain ⟨hk1, hk2⟩ := Bool.and_eq_true_iff.1 hk; exact WayB.reach h n k j (h.clo i o ho hi k hk1) hk2
def StepsB (m : Nat) (P : Program) (ops : Array Oper) (Q : Exit → Act → World → Prop) (phi : List (Value → World → Prop)) (E : Nat → Option Value) (x : Nat) (a0 : Act) (W : World) : Nat → List Oper → Prop
  | _, [] => True
  | i, o :: os => (if i = x then True else match E i with | some c => StepEB P ops Q m E a0 o c | none => StepOkB P ops Q phi m a0 W i o) ∧ StepsB m P ops Q phi E x a0 W (i + 1) os
theorem StepsB.get {m : Nat} {phi : List (Value → World → Prop)} {E : Nat → Option Value} {x : Nat} : ∀ {i : Nat} {os : List Oper}, StepsB m P ops Q phi E x a0 W i os → ∀ (j : Nat) (o : Oper), os[j]? = some o → (if i + j = x then True else match E (i + j) with | some c => StepEB P ops Q m E a0 o c | none => StepOkB P ops Q phi m a0 W (i + j) o)
  | _, [], _, j, o, h => by simp at h
  | i, y :: os, hs, j, o, h => by
    cases j with
    | zero => simp at h; subst h; exact hs.1
    | succ j =>
      (have := StepsB.get hs.2 j o (by simpa using h))
      rwa [show i + 1 + j = i + (j + 1) by omega] at this
/-- **The region**: x writes, the last one ends. -/
theorem wp_region_wrb {id : Nat} (hm : P.follows .mixedOrders = true) (phi : List (Value → World → Prop)) (hst : ∀ p ∈ phi, Stays p) (ht : tidyOps ops = true) (hb : backOps ops = true) (N : Nat) (hN : a0.tmps.size = N) (hf : ops.toList.all (fun o => match o.dst with | some d => decide (d < N) | none => true) = true)
    (m : Nat) (ol : Oper) (hm1 : ops.size = m + 1) (hol : ops[m]? = some ol) (hw : (List.range m).all (waits .any ol) = true)
    (E : Nat → Option Value) (x : Nat) (ox : Oper) (hxm : x < m) (hox : ops[x]? = some ox) (hEx : E x = none) (n : Nat) (hr : ((List.range m).all fun j => j == x || (E j).isSome || reachB ops n x j) = true) (psi : Value → World → Prop) (hpure : ∀ j c w, E j = some c → phiAt phi j c w)
    (hs : StepsB m P ops Q phi E x a0 W 0 (ops.toList.take m))
    (hx : ∀ a w, Below W.heap.size W w → OldSlots ⟨ops.toList.take m⟩ a0 a → (∀ i o d, i < m → i ≠ x → E i = none → ops[i]? = some o → o.dst = some d → ∃ v, a.tmps[d]? = some v ∧ phiAt phi i v w) → ∀ K : Act → World → Prop, Hid (∀ v w', psi v w' → K (a.put ox.dst v) w') → if Region.wanted ox (yielded ops a.tmps) = true then Oper.wp P ox a w K Q else K (a.put ox.dst undef) w)
    (he : ∀ a w, OldSlots ⟨ops.toList.take m⟩ a0 a → (∀ d, ox.dst = some d → ∃ v, a.tmps[d]? = some v ∧ psi v w) → (∀ i o d c, ops[i]? = some o → i < m → o.dst = some d → E i = some c → a.tmps[d]? = some c) → ∀ K : Act → World → Prop, Hid (∀ a' w', Q .normal a' w' → K a' w') → if Region.wanted ol (yielded ops a.tmps) = true then Oper.wp P ol a w K Q else K (a.put ol.dst undef) w) : (Code.region id ops true).wp P Q a0 W := by
  have hst' : ∀ i, Stays (phiAt phi i) := fun i => by
    unfold phiAt; rw [List.getD_eq_getElem?_getD]
    rcases Nat.lt_or_ge i phi.length with h | h
    · rw [List.getElem?_eq_getElem h]
      exact hst _ (List.getElem_mem h)
    · rw [List.getElem?_eq_none h]
      (exact fun _ _ _ _ _ => trivial)
  have done : ∀ (fuel : Nat) (listed : Array Bool) (a : Act) (w : World), Region.ready .any ops listed = [] → Q .normal a w → wpAny P .any ops Q fuel listed a w := fun fuel listed a w hr hq => by
    cases fuel with
    | zero => exact ⟨hr, hq⟩
    | succ fuel => exact ⟨fun _ => hq, fun i hi => by rw [hr] at hi; cases hi⟩
  have main : ∀ (fuel : Nat) (listed : Array Bool) (a : Act) (w : World), listed.size = ops.size → unl listed.toList ≤ fuel → listed.getD m true = false → WayB m ops phi E x psi a0 W listed a w → wpAny P .any ops Q fuel listed a w := by
    have hend : ∀ (listed : Array Bool) (a : Act) (w : World), listed.size = ops.size → listed.getD m true = false → Region.ready .any ops listed = [] → Q .normal a w := fun listed a w hsz hm0 hr => by
      (have := all_listed hb hsz hr (m + 1) m (Nat.lt_succ_self _) (by omega)); (rw [Array.getD_eq_getD_getElem?, Array.getElem?_eq_getElem (by omega)] at this hm0); simp at this hm0; rw [hm0] at this
      cases this
    intro fuel
    induction fuel with
    | zero =>
      intro listed a w hsz hu hmf hw
      have hr : Region.ready .any ops listed = [] := by
        rw [List.eq_nil_iff_forall_not_mem]; intro i hi; obtain ⟨h0, o, ho, -⟩ := mem_ready.1 hi; have hlt := (Array.getElem?_eq_some_iff.1 ho).1
        have h1 : listed.toList[i]? = some false := by
          (rw [Array.getElem?_toList, Array.getElem?_eq_getElem (by omega)]); (rw [Array.getD_eq_getD_getElem?, Array.getElem?_eq_getElem (by omega)] at h0); simpa using h0
        have := unl_set _ _ h1; omega
      exact ⟨hr, hend listed a w hsz hmf hr⟩
    | succ fuel ih =>
      intro listed a w hsz hu hmf hwy; (refine ⟨hend listed a w hsz hmf, fun i hi => ?_⟩); obtain ⟨h0, o, ho, hdep⟩ := mem_ready.1 hi; have hlt := (Array.getElem?_eq_some_iff.1 ho).1
      have h1 : listed.toList[i]? = some false := by
        (rw [Array.getElem?_toList, Array.getElem?_eq_getElem (by omega)]); (rw [Array.getD_eq_getD_getElem?, Array.getElem?_eq_getElem (by omega)] at h0); simpa using h0
      have hun : listed.getD i false = false := by
        (rw [Array.getD_eq_getD_getElem?, Array.getElem?_eq_getElem (by omega)] at h0 ⊢); simpa using h0
      have hu' := unl_set _ _ h1
      have hdir : ∀ j, waits .any o j = true → listed.getD j false = true := fun j hwj => by
        unfold waits at hwj; rw [List.any_eq_true] at hwj; obtain ⟨e, hk, hk2⟩ := hwj; rw [Bool.and_eq_true, beq_iff_eq] at hk2; have := hdep e (Array.mem_toList_iff.1 hk) hk2.1
        rwa [hk2.2] at this
      have hset : ∀ q, listed.getD q false = true → (listed.setIfInBounds i true).getD q false = true := fun q hq => by
        by_cases hqi : i = q
        · subst hqi; simp [hsz, hlt]
        · rw [getD_set_ne false hqi]; exact hq
      have hput : ∀ (v : Value) (j : Nat) (o' : Oper) (d' : Nat), i ≠ j → ops[j]? = some o' → o'.dst = some d' → (a.put o.dst v).tmps[d']? = a.tmps[d']? := fun v j o' d' hji hj hd' => by
        cases hdo : o.dst with
        | none => rfl
        | some d0 =>
          (have hne : d0 ≠ d' := fun e => hji (tidy_spec ht ho hj (by rw [hdo, e]) hd')); simp [Act.put, Array.getElem?_setIfInBounds_ne hne]
      have hself : ∀ (v : Value) d, o.dst = some d → (a.put o.dst v).tmps[d]? = some v := fun v d hd => by
        (have hdl : d < a.tmps.size := by rw [hwy.old.1]; exact hwy.fits o d (by rw [Array.mem_toList_iff]; exact Array.mem_of_getElem? ho) hd); rw [hd]; simp [Act.put, hdl]
      have hold : i < m → ∀ v, OldSlots ⟨ops.toList.take m⟩ a0 (a.put o.dst v) := fun him v => by
        obtain ⟨o1, o2, o3⟩ := hwy.old; (refine ⟨?_, ?_, fun t ht' => ?_⟩)
        · cases hd : o.dst <;> simp [Act.put, o1]
        · cases hd : o.dst <;> simp [Act.put, o2]
        · rw [← o3 t ht']
          cases hd : o.dst with
          | none => rfl
          | some d =>
            have hne : d ≠ t := fun e => by
              (have := List.all_eq_true.1 ht' o (List.mem_of_getElem? (i := i) (by rw [List.getElem?_take_of_lt him, Array.getElem?_toList]; exact ho))); rw [hd, e] at this; simp at this
            simp [Act.put, Array.getElem?_setIfInBounds_ne hne]
      have hclo : ∀ j o', ops[j]? = some o' → (listed.setIfInBounds i true).getD j false = true → ∀ q, waits .any o' q = true → (listed.setIfInBounds i true).getD q false = true := fun j o' hj hlj q hq => by
        by_cases hji : i = j
        · subst hji
          rw [ho] at hj
          cases hj
          exact hset q (hdir q hq)
        · rw [getD_set_ne false hji] at hlj
          exact hset q (hwy.clo j o' hj hlj q hq)
      have hfin : ∀ (K : Act → World → Prop), (if Region.wanted o (yielded ops a.tmps) = true then Oper.wp P o a w K Q else K (a.put o.dst undef) w) → wpOp P ops Q i K a w := fun K hK => by
        unfold wpOp; simp only [ho]
        split
        · rename_i hw1
          rw [if_pos hw1] at hK; exact Or.inl hK
        · rename_i hw1
          rw [if_neg hw1] at hK; exact hK
      by_cases him : i = m
      · subst him
        rw [hol] at ho
        cases ho
        (have hall : ∀ j, j < i → listed.getD j false = true := fun j hj => hdir j (List.all_eq_true.1 hw j (List.mem_range.2 hj)))
        have hnone : Region.ready .any ops (listed.setIfInBounds i true) = [] := by
          rw [List.eq_nil_iff_forall_not_mem]; intro j hj; obtain ⟨g0, o', ho', -⟩ := mem_ready.1 hj; have hjl := (Array.getElem?_eq_some_iff.1 ho').1; by_cases hji : i = j
          · subst hji
            simp [hsz, hlt] at g0
          · rw [getD_set_ne true hji] at g0
            (have := hall j (by omega)); (rw [Array.getD_eq_getD_getElem?, Array.getElem?_eq_getElem (by omega)] at this g0); simp at this g0; rw [g0] at this
            cases this
        (exact hfin _ (he a w hwy.old (fun d hd => hwy.behind (hall x hxm) ox d hox hd) (fun j o' d c hj hjm hd hc => hwy.pure j o' d c hj (hall j hjm) hd hc) _ (fun a' w' hq => done _ _ _ _ hnone hq)))
      (have hmf' : (listed.setIfInBounds i true).getD m true = false := by rw [getD_set_ne true him]; exact hmf); (have hsz' : (listed.setIfInBounds i true).size = ops.size := by simpa using hsz); (have hu2 : unl (listed.setIfInBounds i true).toList ≤ fuel := by rw [Array.toList_setIfInBounds]; omega); by_cases hix : i = x
      · subst hix
        rw [hox] at ho
        cases ho
        (have hself2 : (listed.setIfInBounds i true).getD i false = true := by simp [hsz, hlt])
        have hfree : ∀ j, j < m → j ≠ i → E j = none → listed.getD j false = true := fun j hj hne hE => by
          have := List.all_eq_true.1 hr j (List.mem_range.2 hj); rw [hE] at this; (have hne2 : (j == i) = false := by simpa using hne); rw [hne2] at this; simp only [Option.isSome_none, Bool.or_false, Bool.false_or] at this
          have key : ∀ (n j : Nat), reachB ops n i j = true → listed.getD j false = true := fun n j hr => by
            cases n with
            | zero =>
              unfold reachB at hr; rw [hox] at hr
              exact hdir j hr
            | succ n =>
              unfold reachB at hr; rw [hox] at hr
              rcases Bool.or_eq_true_iff.1 hr with h1 | h1
              · exact hdir j h1
              · obtain ⟨k, -, hk⟩ := List.any_eq_true.1 h1
                obtain ⟨hk1, hk2⟩ := Bool.and_eq_true_iff.1 hk; exact hwy.reach n k j (hdir k hk1) hk2
          exact key n j this
        obtain ⟨hbel, hgot⟩ := hwy.ahead hun; (refine hfin _ (hx a w hbel hwy.old (fun j o' d hj hne hE hoj hd => hgot j o' d hoj (hfree j hj hne hE) hd hE) _ (fun v w' hp => ?_))); (refine ih _ _ _ hsz' hu2 hmf' ⟨hold (by omega) v, hwy.fits, hclo, fun j o' d c hj hlj hd hc => ?_, fun h => (by rw [hself2] at h; cases h), fun _ o' d ho' hd => ?_⟩)
        · have hne : i ≠ j := fun e => by rw [← e, hEx] at hc; cases hc
          rw [getD_set_ne false hne] at hlj; rw [hput v j o' d hne hj hd]; exact hwy.pure j o' d c hj hlj hd hc
        · rw [hox] at ho'
          cases ho'
          exact ⟨v, hself v d hd, hp⟩
      (have hstep := hs.get i o (by rw [List.getElem?_take_of_lt (by omega), Array.getElem?_toList]; exact ho)); rw [Nat.zero_add, if_neg hix] at hstep; have hxl : (listed.setIfInBounds i true).getD x false = listed.getD x false := getD_set_ne false hix
      cases hE : E i with
      | some c =>
        rw [hE] at hstep; (refine hfin _ (hstep a w hwy.old (fun j hj o' d cj hoj hd hc => hwy.pure j o' d cj hoj (hdir j hj) hd hc) _ ?_)); (refine ih _ _ _ hsz' hu2 hmf' ⟨hold (by omega) c, hwy.fits, hclo, fun j o' d cj hj hlj hd hc => ?_, fun h => ?_, fun h o' d ho' hd => ?_⟩)
        · by_cases hji : i = j
          · subst hji
            rw [ho] at hj
            cases hj
            rw [hE] at hc
            cases hc
            exact hself c d hd
          · rw [getD_set_ne false hji] at hlj
            rw [hput c j o' d hji hj hd]; exact hwy.pure j o' d cj hj hlj hd hc
        · rw [hxl] at h
          obtain ⟨hbel, hgot⟩ := hwy.ahead h; (refine ⟨hbel, fun j o' d hj hlj hd hEj => ?_⟩); (have hji : i ≠ j := fun e => by rw [← e, hE] at hEj; cases hEj); rw [getD_set_ne false hji] at hlj; rw [hput c j o' d hji hj hd]; exact hgot j o' d hj hlj hd hEj
        · rw [hxl] at h
          rw [hput c x o' d hix ho' hd]
          exact hwy.behind h o' d ho' hd
      | none =>
        rw [hE] at hstep
        have hxun : listed.getD x false = false := by
          cases hxl2 : listed.getD x false with
          | false => rfl
          | true =>
            (have := List.all_eq_true.1 hr i (List.mem_range.2 (by omega))); rw [hE] at this; (have hne2 : (i == x) = false := by simpa using hix); rw [hne2] at this; simp only [Option.isSome_none, Bool.or_false, Bool.false_or] at this; have := hwy.reach n x i hxl2 this; rw [hun] at this
            cases this
        obtain ⟨hbel, hgot⟩ := hwy.ahead hxun; (refine hfin _ (hstep a w hbel hwy.old (fun j hj o' d hoj hd => ?_) _ (fun v w' hp hbw => ?_)))
        · cases hEj : E j with
          | none => exact hgot j o' d hoj (hdir j hj) hd hEj
          | some cj => exact ⟨cj, hwy.pure j o' d cj hoj (hdir j hj) hd hEj, hpure j cj w hEj⟩
        · refine ih _ _ _ hsz' hu2 hmf' ⟨hold (by omega) v, hwy.fits, hclo, fun j o' d cj hj hlj hd hc => ?_, fun h => ?_, fun h => (by rw [hxl, hxun] at h; cases h)⟩
          · have hji : i ≠ j := fun e => by rw [← e, hE] at hc; cases hc
            rw [getD_set_ne false hji] at hlj; rw [hput v j o' d hji hj hd]; exact hwy.pure j o' d cj hj hlj hd hc
          · refine ⟨hbel.trans (hbw.mono hbel.size), fun j o' d hj hlj hd hEj => ?_⟩
            by_cases hji : i = j
            · subst hji
              rw [ho] at hj
              cases hj
              exact ⟨v, hself v d hd, hp⟩
            · rw [getD_set_ne false hji] at hlj
              obtain ⟨u, hu1, hu2⟩ := hgot j o' d hj hlj hd hEj; (exact ⟨u, by rw [hput v j o' d hji hj hd]; exact hu1, hst' j u w w' hu2 hbw⟩)
  (refine wp_region_any hm (main _ _ _ _ (by simp) ?_ (by simp [hm1]) ?_))
  · have : unl (Array.replicate ops.size false).toList ≤ (Array.replicate ops.size false).toList.length := List.countP_le_length
    simpa using this
  · have hno : ∀ i, (Array.replicate ops.size false).getD i false = true → False := fun i h => by
      rw [Array.getD_eq_getD_getElem?] at h
      rcases Nat.lt_or_ge i ops.size with h1 | h1
      · simp [h1] at h
      · simp [Nat.not_lt.2 h1] at h
    (refine ⟨⟨rfl, rfl, fun _ _ => rfl⟩, fun o d ho hd => ?_, fun i _ _ h => (hno i h).elim, fun i _ _ _ _ h => (hno i h).elim, fun _ => ⟨⟨rfl, rfl, rfl, Nat.le_refl _, fun _ _ => rfl⟩, fun i _ _ _ h => (hno i h).elim⟩, fun h => (hno x h).elim⟩); have := List.all_eq_true.1 hf o ho; rw [hd] at this; rw [hN]; simpa using this
end
end Go.Proofs.Ytmahgfgndfcmpag
/- The plain mathematics of layer 1, seven: the yardstick's tokens. -/
namespace Go.Proofs.Ytmahgfgndfcmpag

def allLow (l : List UInt8) : Bool := l.all lower
theorem letters_of_all : ∀ (l : List UInt8), allLow l = true → letters l = l
  | [], _ => rfl
  | c :: l, h => by
    simp only [allLow, List.all_cons, Bool.and_eq_true] at h; rw [letters, if_pos h.1, letters_of_all l h.2]
theorem all_of_letters : ∀ (l : List UInt8), (letters l).length = l.length → allLow l = true
  | [], _ => rfl
  | c :: l, h => by
    rw [letters] at h
    split at h
    · rename_i hc
      simp only [allLow, List.all_cons, Bool.and_eq_true]; (exact ⟨hc, all_of_letters l (by simpa using h)⟩)
    · simp at h
theorem isNm_all (l : List UInt8) : isNm l = (allLow l && decide (0 < l.length) && decide (l.length < 9)) := by
  unfold isNm
  rcases h : allLow l with _ | _
  · have : ¬ (letters l).length = l.length := fun e => by rw [all_of_letters l e] at h; cases h
    simp [this]
  · rw [letters_of_all l h]
    have e1 : (l ≠ []) ↔ 0 < l.length := List.length_pos_iff.symm; (have e2 : (l.length ≤ 8) ↔ l.length < 9 := by omega); rw [Bool.eq_iff_iff]; simp only [Bool.and_eq_true, decide_eq_true_eq, e1, e2, Bool.true_and, and_true]
end Go.Proofs.Ytmahgfgndfcmpag
/- A region that draws its order, whatever its operations write: what is known is told by a state of one's own that each operation moves on. -/
namespace Go.Proofs.Ytmahgfgndfcmpag
open Go.RowKit

theorem row_same {l m : List Value} {lo n : Nat} (h : ∀ t, lo ≤ t → t < lo + n → l[t]? = m[t]?) : (l.drop lo).take n = (m.drop lo).take n := by
  apply List.ext_getElem?; intro t
  rcases Nat.lt_or_ge t n with ht | ht
  · rw [List.getElem?_take_of_lt ht, List.getElem?_take_of_lt ht, List.getElem?_drop, List.getElem?_drop]
    (exact h _ (by omega) (by omega))
  · rw [List.getElem?_eq_none (by rw [List.length_take]; omega), List.getElem?_eq_none (by rw [List.length_take]; omega)]
/-- A frame behind a drawn region whose slots lie in two rows. -/
theorem frame_two {ops : Array Oper} {tm : Array Value} {df : List Deferred} {a0 : Act} (lo n mid n2 a1 a2 a3 : Nat) (e1 : lo + n = a1) (e2 : a1 + mid = a2) (e3 : a2 + n2 = a3) (hin : (ops.toList.all fun o => match o.dst with | some d => decide ((lo ≤ d ∧ a1 > d) ∨ (a2 ≤ d ∧ a3 > d)) | none => true) = true) (hlen : a3 ≤ a0.tmps.size) (h : OldSlots ops a0 ⟨tm, df⟩) : ∃ ys zs : List Value, ys.length = n ∧ zs.length = n2 ∧ tm = ⟨a0.tmps.toList.take lo ++ (ys ++ ((a0.tmps.toList.drop a1).take mid ++ (zs ++ a0.tmps.toList.drop a3)))⟩ ∧ df = a0.defers := by
  obtain ⟨h1, h2, h3⟩ := h; have h1' : tm.toList.length = a0.tmps.toList.length := h1; have hl : a3 ≤ a0.tmps.toList.length := hlen
  have old : ∀ t, (t < lo ∨ (a1 ≤ t ∧ t < a2) ∨ a3 ≤ t) → tm.toList[t]? = a0.tmps.toList[t]? := fun t ht => by
    have := h3 t (by
      rw [List.all_eq_true] at hin ⊢; intro o ho; have := hin o ho
      cases hd : o.dst with
      | none => rfl
      | some d =>
        rw [hd] at this; have := of_decide_eq_true this; (refine bne_iff_ne.2 fun e => ?_); have e2 : d = t := Option.some.inj e; subst e2
        omega)
    simpa using this
  (refine ⟨(tm.toList.drop lo).take n, (tm.toList.drop a2).take n2, by rw [List.length_take, List.length_drop]; omega, by rw [List.length_take, List.length_drop]; omega, ?_, h2⟩); apply Array.ext'
  have p1 : tm.toList.take lo = a0.tmps.toList.take lo := by
    (have := row_same (l := tm.toList) (m := a0.tmps.toList) (lo := 0) (n := lo) fun t _ ht => old t (by omega)); simpa using this
  (have p2 : (tm.toList.drop a1).take mid = (a0.tmps.toList.drop a1).take mid := row_same fun t h5 h6 => old t (by omega))
  have p3 : tm.toList.drop a3 = a0.tmps.toList.drop a3 := by
    (have := row_same (l := tm.toList) (m := a0.tmps.toList) (lo := a3) (n := tm.toList.length) fun t h5 _ => old t (by omega))
    rwa [List.take_of_length_le (by rw [List.length_drop]; omega), List.take_of_length_le (by rw [List.length_drop]; omega)] at this
  show tm.toList = _; rw [← p1, ← p2, ← p3]
  conv => lhs; rw [← List.take_append_drop lo tm.toList]
  congr 1
  conv => lhs; rw [← List.take_append_drop n (tm.toList.drop lo)]
  congr 1
  rw [List.drop_drop, e1]
  conv => lhs; rw [← List.take_append_drop mid (tm.toList.drop a1)]
  congr 1
  rw [List.drop_drop, e2]
  conv => lhs; rw [← List.take_append_drop n2 (tm.toList.drop a2)]
  congr 1
  rw [List.drop_drop, e3]
end Go.Proofs.Ytmahgfgndfcmpag
/- Parts as keys of a map. -/
namespace Go.Proofs.Ytmahgfgndfcmpag
open Go.RowKit Go.Maps

theorem laidP : laidOutB Try.prog = true := by kernel_rfl
theorem partLaw : Keyed Try.prog 135 := Keyed.of_law (deep_law_laid laidP (m := 3) (by omega) (of_decide_eq_true (by kernel_rfl)) (by kernel_rfl) (by kernel_rfl))
def partLits (k : Int) (n : List UInt8) (c a b : Int) : List Lit := [.int .i64 k, .string n, .int .i64 c, .int .i64 a, .int .i64 b]
theorem keyPart (k : Int) (n : ByteArray) (c a b : Int) (hk : (Lit.int .i64 k).wf = true) (hc : (Lit.int .i64 c).wf = true) (ha : (Lit.int .i64 a).wf = true) (hb : (Lit.int .i64 b).wf = true) (hn : n.size ≤ maxLen) :
    keyOf Try.prog 135 (.agg #[.int .i64 k, .string n, .int .i64 c, .int .i64 a, .int .i64 b]) = some (.string (keyBytes (partLits k n.data.toList c a b))) := by
  (have h1 : Try.prog.keyType 135 = true := by kernel_rfl); (have h2 : (Value.agg #[.int .i64 k, .string n, .int .i64 c, .int .i64 a, .int .i64 b]).formed Try.prog 135 = true := by kernel_rfl); (obtain ⟨d, hd⟩ : ∃ d, Try.prog.types.size = d + 2 := ⟨Try.prog.types.size - 2, by kernel_rfl⟩); unfold keyOf; rw [Try.underlying135]; simp only [h1, h2, hd]; (have c1 : Try.prog.cellsOf 3 = 1 := by kernel_rfl); (have c2 : Try.prog.cellsOf 9 = 1 := by kernel_rfl); (have c3 : Try.prog.cellsOf 82 = 2 := by kernel_rfl); (have c4 : Try.prog.cellsOf 135 = 5 := by kernel_rfl); simp [Program.keyLits, Value.cells, partLits, Try.underlying135, Try.underlying3, Try.underlying9, Try.underlying82, c1, c2, c3, c4, hk, hc, ha, hb, hn, List.range, List.range.loop]
theorem partLits_inj {k k' : Int} {n n' : List UInt8} {c c' a a' b b' : Int} (hk : (Lit.int .i64 k).wf = true) (hc : (Lit.int .i64 c).wf = true) (ha : (Lit.int .i64 a).wf = true) (hb : (Lit.int .i64 b).wf = true) (hn : n.length ≤ maxLen) (hk' : (Lit.int .i64 k').wf = true) (hc' : (Lit.int .i64 c').wf = true) (ha' : (Lit.int .i64 a').wf = true) (hb' : (Lit.int .i64 b').wf = true) (hn' : n'.length ≤ maxLen)
    (e : keyBytes (partLits k n c a b) = keyBytes (partLits k' n' c' a' b')) : k = k' ∧ n = n' ∧ c = c' ∧ a = a' ∧ b = b' := by
  have h := keyBytes_inj (l := partLits k n c a b) (l' := partLits k' n' c' a' b') ⟨rfl, trivial, rfl, rfl, rfl, trivial⟩ (by
    intro x hx; simp [partLits] at hx
    rcases hx with rfl | rfl | rfl | rfl | rfl
    · exact hk
    · exact hn
    · exact hc
    · exact ha
    · exact hb) (by
    intro x hx; simp [partLits] at hx
    rcases hx with rfl | rfl | rfl | rfl | rfl
    · exact hk'
    · exact hn'
    · exact hc'
    · exact ha'
    · exact hb') e
  simpa [partLits] using h
end Go.Proofs.Ytmahgfgndfcmpag
/- Where a formula is true at worlds, plain: boxes and diamonds. -/
namespace Go.Proofs.Ytmahgfgndfcmpag

/-- A node of a formula at a world, by what its kids are there and elsewhere: boxes and diamonds. -/
def mval (S : Nat → List Nat) (k : Int) (pn : Nat → Bool) (l : List (Nat → Bool)) (u : Nat) : Bool :=
  if k = 1 then pn u else if k = 4 then !(l.getD 0 (fun _ => false) u) else if k = 5 then l.getD 0 (fun _ => false) u && l.getD 1 (fun _ => false) u else if k = 6 then l.getD 0 (fun _ => false) u || l.getD 1 (fun _ => false) u else if k = 7 then !(l.getD 0 (fun _ => false) u) || l.getD 1 (fun _ => false) u else if k = 8 then (S u).all (l.getD 0 fun _ => false) else if k = 9 then (S u).any (l.getD 0 fun _ => false) else decide (k = 2)
mutual
def mtv (S : Nat → List Nat) (p : Nat → List UInt8 → Bool) : Fm → Nat → Bool
  | .mk k n ks => mval S k (fun u => p u n.data.toList) (mtvs S p ks)
def mtvs (S : Nat → List Nat) (p : Nat → List UInt8 → Bool) : List Fm → List (Nat → Bool)
  | [] => []
  | f :: fs => mtv S p f :: mtvs S p fs
end
theorem mtv_not (S : Nat → List Nat) (p : Nat → List UInt8 → Bool) (f : Fm) (n : ByteArray) : mtv S p (.mk 4 n [f]) = fun u => !mtv S p f u := by
  funext u; rw [mtv, mtvs, mtvs]; rfl
theorem mtv_and (S : Nat → List Nat) (p : Nat → List UInt8 → Bool) (f g : Fm) (n : ByteArray) : mtv S p (.mk 5 n [f, g]) = fun u => mtv S p f u && mtv S p g u := by
  funext u; rw [mtv, mtvs, mtvs, mtvs]; rfl
theorem mtv_or (S : Nat → List Nat) (p : Nat → List UInt8 → Bool) (f g : Fm) (n : ByteArray) : mtv S p (.mk 6 n [f, g]) = fun u => mtv S p f u || mtv S p g u := by
  funext u; rw [mtv, mtvs, mtvs, mtvs]; rfl
theorem mtv_then (S : Nat → List Nat) (p : Nat → List UInt8 → Bool) (f g : Fm) (n : ByteArray) : mtv S p (.mk 7 n [f, g]) = fun u => !mtv S p f u || mtv S p g u := by
  funext u; rw [mtv, mtvs, mtvs, mtvs]; rfl
theorem mtv_box (S : Nat → List Nat) (p : Nat → List UInt8 → Bool) (f : Fm) (n : ByteArray) : mtv S p (.mk 8 n [f]) = fun u => (S u).all (mtv S p f) := by
  funext u; rw [mtv, mtvs, mtvs]; rfl
theorem mtv_dia (S : Nat → List Nat) (p : Nat → List UInt8 → Bool) (f : Fm) (n : ByteArray) : mtv S p (.mk 9 n [f]) = fun u => (S u).any (mtv S p f) := by
  funext u; rw [mtv, mtvs, mtvs]; rfl
end Go.Proofs.Ytmahgfgndfcmpag
/- Sets of small numbers as one word, plain. -/
namespace Go.Proofs.Ytmahgfgndfcmpag
open Go.RowKit

/-- The word whose digits below N are as P says. -/
def bm : Nat → (Nat → Bool) → Nat
  | 0, _ => 0
  | n + 1, P => bm n P + (if P n = true then 2 ^ n else 0)
theorem bm_lt : ∀ (N : Nat) (P : Nat → Bool), bm N P < 2 ^ N
  | 0, _ => by simp [bm]
  | n + 1, P => by
    have := bm_lt n P; rw [bm, Nat.pow_succ]
    split <;> omega
theorem bm_bit : ∀ (N : Nat) (P : Nat → Bool) (i : Nat), (bm N P).testBit i = (decide (i < N) && P i)
  | 0, _, i => by simp [bm]
  | n + 1, P, i => by
    have h := bm_lt n P; have ih := bm_bit n P i; rw [bm]; by_cases hp : P n = true
    · rw [if_pos hp, Nat.add_comm]
      rcases Nat.lt_trichotomy i n with h1 | h1 | h1
      · rw [Nat.testBit_two_pow_add_gt h1, ih]
        simp [h1, Nat.lt_succ_of_lt h1]
      · subst h1
        rw [Nat.testBit_two_pow_add_eq, Nat.testBit_lt_two_pow h]; simp [hp]
      · have h2 : 2 ^ n + bm n P < 2 ^ i := Nat.lt_of_lt_of_le (by rw [Nat.pow_succ]; omega : 2 ^ n + bm n P < 2 ^ (n + 1)) (Nat.pow_le_pow_right (by omega) h1)
        rw [Nat.testBit_lt_two_pow h2]; (have : ¬ i < n + 1 := by omega); simp [this]
    · rw [if_neg hp, Nat.add_zero, ih]
      rcases Nat.lt_trichotomy i n with h1 | h1 | h1
      · simp [h1, Nat.lt_succ_of_lt h1]
      · subst h1; simp [hp]
      · have a1 : ¬ i < n := by omega
        (have a2 : ¬ i < n + 1 := by omega); simp [a1, a2]
theorem bm_ext {N : Nat} {P Q : Nat → Bool} (h : ∀ i, i < N → P i = Q i) : bm N P = bm N Q := by
  apply Nat.eq_of_testBit_eq; intro i; rw [bm_bit, bm_bit]; by_cases hi : i < N
  · rw [h i hi]
  · simp [hi]
theorem bm_eq {N : Nat} {P : Nat → Bool} {s : Nat} (h : ∀ i, s.testBit i = (decide (i < N) && P i)) : s = bm N P := by
  apply Nat.eq_of_testBit_eq; intro i; rw [bm_bit, h]
theorem bm_inj {N : Nat} {P Q : Nat → Bool} (h : bm N P = bm N Q) (i : Nat) (hi : i < N) : P i = Q i := by
  (have := congrArg (fun s => s.testBit i) h); simp only [bm_bit, hi, decide_true, Bool.true_and] at this; exact this
theorem bm_none (N : Nat) : bm N (fun _ => false) = 0 := (bm_eq (s := 0) fun i => by simp).symm
theorem bm_or (N : Nat) (P Q : Nat → Bool) : bm N P ||| bm N Q = bm N fun i => P i || Q i := bm_eq fun i => by
  (rw [Nat.testBit_or, bm_bit, bm_bit]; cases decide (i < N) <;> simp)
theorem bm_with (N : Nat) (P : Nat → Bool) (n : Nat) (hn : n < N) : bm N P ||| 2 ^ n = bm N fun i => P i || i == n := bm_eq fun i => by
  rw [Nat.testBit_or, bm_bit, Nat.testBit_two_pow]; by_cases e : n = i
  · subst e; simp [hn]
  · have : (i == n) = false := by simpa using fun h => e h.symm
    simp [e, this]
theorem bm_zero (N : Nat) (P : Nat → Bool) : bm N P = 0 ↔ ∀ i, i < N → P i = false := by
  rw [← bm_none N]; (exact ⟨fun h i hi => bm_inj h i hi, fun h => bm_ext h⟩)
theorem pow40 {N : Nat} (h : N ≤ 40) : 2 ^ N ≤ 1099511627776 := Nat.le_trans (Nat.pow_le_pow_right (by omega) h) (by decide)
theorem bm_small {N : Nat} (h : N ≤ 40) (P : Nat → Bool) : bm N P < 1099511627776 := Nat.lt_of_lt_of_le (bm_lt N P) (pow40 h)

theorem wraps_u64 (n : Int) (h0 : 0 ≤ n) (h1 : n < 2 ^ 62) : IntKind.u64.wrap n = n := by
  (have e : ((2 : Int) ^ 62) = 4611686018427387904 := by decide); rw [e] at h1; unfold IntKind.wrap IntKind.bits IntKind.signed; simp only []; (have e2 : ((2 : Int) ^ 64) = 18446744073709551616 := by decide); rw [e2]; (have : n % 18446744073709551616 = n := by omega); rw [this]
  simp
theorem lt62 {a : Nat} (h : a < 1099511627776) : a < 2 ^ 62 := Nat.lt_trans h (by decide)
theorem u64_and {a b : Nat} (ha : a < 1099511627776) (hb : b < 1099511627776) : bits .and .u64 (a : Int) (b : Int) = ((a &&& b : Nat) : Int) := (bits_nat .u64 62 (by decide) wraps_u64 a b (lt62 ha) (lt62 hb)).1
theorem u64_or {a b : Nat} (ha : a < 1099511627776) (hb : b < 1099511627776) : bits .or .u64 (a : Int) (b : Int) = ((a ||| b : Nat) : Int) := (bits_nat .u64 62 (by decide) wraps_u64 a b (lt62 ha) (lt62 hb)).2
theorem u64_not {N : Nat} (hN : N ≤ 40) (P Q : Nat → Bool) : bits .andNot .u64 (bm N P : Nat) (bm N Q : Nat) = ((bm N fun i => P i && !Q i : Nat) : Int) := by
  have ha := bm_small hN P; have hb := bm_small hN Q
  have key : ((BitVec.ofInt 64 ((bm N P : Nat) : Int)) &&& ~~~(BitVec.ofInt 64 ((bm N Q : Nat) : Int))).toNat = bm N fun i => P i && !Q i := by
    apply bm_eq; intro i; rw [BitVec.testBit_toNat, BitVec.getLsbD_and, BitVec.getLsbD_not, BitVec.ofInt_natCast, BitVec.ofInt_natCast, BitVec.getLsbD_ofNat, BitVec.getLsbD_ofNat, bm_bit, bm_bit]; by_cases hi : i < N
    · have h64 : i < 64 := by omega
      simp [hi, h64]
    · simp [hi]
  show IntKind.u64.wrap (((BitVec.ofInt 64 ((bm N P : Nat) : Int)) &&& ~~~(BitVec.ofInt 64 ((bm N Q : Nat) : Int))).toNat : Nat) = _; rw [key]; refine wraps_u64 _ (Int.natCast_nonneg _) ?_; (have := lt62 (bm_small hN fun i => P i && !Q i))
  exact_mod_cast this
/-- A digit, as the walk spells it. -/
theorem u64_has {s : Nat} (n : Nat) (hs : s < 1099511627776) : (bits .and .u64 ((s : Int) / 2 ^ n) 1 == 1) = s.testBit n := by
  have hd : ((s : Int) / 2 ^ n) = ((s / 2 ^ n : Nat) : Int) := by
    rw [Int.natCast_ediv]; simp
  have hle : s / 2 ^ n < 1099511627776 := Nat.lt_of_le_of_lt (Nat.div_le_self _ _) hs; rw [hd]; (have h' : bits BinOp.and IntKind.u64 ((s / 2 ^ n : Nat) : Int) 1 = (((s / 2 ^ n) &&& 1 : Nat) : Int) := u64_and hle (by decide)); rw [h', Nat.and_one_is_mod, Nat.testBit_eq_decide_div_mod_eq]
  rcases Nat.mod_two_eq_zero_or_one (s / 2 ^ n) with h | h <;> rw [h] <;> decide
end Go.Proofs.Ytmahgfgndfcmpag
/- Walks: sets of small numbers. -/
namespace Go.Proofs.Ytmahgfgndfcmpag
open Go.RowKit

set_option maxHeartbeats 1000000 in
theorem set_without {N : Nat} (hN : N ≤ 40) (P Q : Nat → Bool) (w : World) :
    Calls Try.prog 57 #[.int .u64 (bm N P : Nat), .int .u64 (bm N Q : Nat)] w fun e w' => e = .returned (.int .u64 (bm N (fun i => P i && !Q i) : Nat)) ∧ w' = w := by
  have hw := u64_not hN P Q
  go_enter Try.func57, Try.ntmps57
  go_wp2_with fail; go_ret; exact ⟨rfl, rfl⟩
set_option maxHeartbeats 1000000 in
theorem set_within {N : Nat} (hN : N ≤ 40) (P Q : Nat → Bool) (w : World) :
    Calls Try.prog 60 #[.int .u64 (bm N P : Nat), .int .u64 (bm N Q : Nat)] w fun e w' => e = .returned (.bool (decide (∀ i, i < N → P i = true → Q i = true))) ∧ w' = w := by
  go_enter Try.func60, Try.ntmps60
  go_wp2_with fail; refine (set_without hN P Q w).mono ?_; rintro _ _ ⟨rfl, rfl⟩; go_wp2_with fail; go_ret; (refine ⟨congrArg (fun b => Ending.returned (Value.bool b)) ?_, rfl⟩)
  have h : ((bm N fun i => P i && !Q i : Nat) : Int) = 0 ↔ ∀ i, i < N → P i = true → Q i = true := by
    rw [Int.natCast_eq_zero, bm_zero]; (refine forall_congr' fun i => forall_congr' fun _ => ?_)
    cases P i <;> cases Q i <;> simp
  rw [Bool.eq_iff_iff, beq_iff_eq, decide_eq_true_iff]; exact h
set_option maxHeartbeats 1000000 in
theorem set_has {N : Nat} (hN : N ≤ 40) (P : Nat → Bool) (n : Nat) (hn : n < N) (w : World) :
    Calls Try.prog 62 #[.int .u64 (bm N P : Nat), .int .i64 (n : Nat)] w fun e w' => e = .returned (.bool (P n)) ∧ w' = w := by
  have h := u64_has n (bm_small hN P); (have hnI : (n : Int) < 40 := by omega); rw [bm_bit, decide_eq_true hn, Bool.true_and] at h
  go_enter Try.func62, Try.ntmps62
  go_wp2_with fail; go_ret; exact ⟨rfl, rfl⟩
def hasE (ns : List Nat) (i : Nat) : Bool := ns.contains i
set_option maxHeartbeats 1000000 in
theorem set_with {N : Nat} (hN : N ≤ 40) (ns : List Nat) (P : Nat → Bool) (ad : Option Addr) (cp : Nat) (w : World) (hns : ∀ n ∈ ns, n < N) (hl : ns.length ≤ cp) (hcp : cp ≤ maxLen) (hc : ns ≠ [] → ∃ b off, ad = some ⟨b, off, none⟩ ∧ ∀ (j n : Nat), ns[j]? = some n → w.cell? ⟨b, off + j, none⟩ = some (.int .i64 (n : Nat))) :
    Calls Try.prog 32 #[.int .u64 (bm N P : Nat), .slice ad ns.length cp] w fun e w' => e = .returned (.int .u64 (bm N (fun i => P i || hasE ns i) : Nat)) ∧ w' = w := by
  (have hlI : (ns.length : Int) ≤ (cp : Int) := by omega); have HC : Hid (ns ≠ [] → ∃ b off, ad = some ⟨b, off, none⟩ ∧ ∀ (j n : Nat), ns[j]? = some n → w.cell? ⟨b, off + j, none⟩ = some (.int .i64 (n : Nat))) := hc; have HN : Hid (∀ n ∈ ns, n < N) := hns; have HN4 : Hid (N ≤ 40) := hN; (have hmx : (ns.length : Int) ≤ 9223372036854775807 := by unfold maxLen at hcp; omega); clear hc hns hl hcp hN
  go_enter Try.func32, Try.ntmps32
  go_wp2_with fail
  go_loopg [9, 0] ns.length (fun g c s wr => ∃ i x, i ≤ ns.length ∧ g = ns.length - i ∧ c = .int .i64 (i : Nat) ∧ s = .int .u64 (x : Nat) ∧ Hid (x = bm N fun k => P k || hasE (ns.take i) k) ∧ wr = w)
  case atStart => exact ⟨0, bm N P, by omega, by omega, rfl, rfl, by show _ = _; exact bm_ext fun k _ => by simp [hasE], rfl⟩
  case round =>
    obtain ⟨i, x, hi, hg, rfl, rfl, HX, rfl⟩ := hrel; have HGk : Hid (gk = ns.length - i) := hg; clear hg; by_cases hlt : i < ns.length
    · obtain ⟨n, hr⟩ : ∃ r, ns[i]? = some r := ⟨_, List.getElem?_eq_getElem hlt⟩
      have hnN := HN.out _ (List.mem_of_getElem? hr); have hN4 := HN4.out; (obtain ⟨b, off, rfl, hc⟩ := HC.out (fun e => by rw [e] at hlt; simp at hlt)); have c0 := hc i n hr; (have hltI : (i : Int) < (ns.length : Int) := by omega); (have hltc : (i : Int) < (cp : Int) := by omega); (have hnI : (n : Int) < 40 := by omega); (have hn2 : (2 : Int) ^ n = ((2 ^ n : Nat) : Int) := by simp); (have hpw : (2 : Nat) ^ n < 1099511627776 := Nat.lt_of_lt_of_le (Nat.pow_lt_pow_right (by omega) (by omega : n < 40)) (by decide)); obtain ⟨y, hy⟩ : ∃ y, y = x ||| 2 ^ n := ⟨_, rfl⟩
      have hor : bits .or .u64 (x : Nat) (IntKind.u64.wrap ((2 : Int) ^ n)) = (y : Int) := by
        (rw [hn2, wraps_u64 _ (Int.natCast_nonneg _) (by exact_mod_cast lt62 hpw), hy]); (exact u64_or (by rw [HX.out]; exact bm_small hN4 _) hpw)
      have HY : Hid (y = bm N fun k => P k || hasE (ns.take (i + 1)) k) := by
        show _ = _; rw [hy, HX.out, bm_with _ _ _ hnN]; (refine bm_ext fun k _ => ?_); rw [List.take_add_one, hr, Bool.or_assoc]
        congr 1
        rw [Bool.eq_iff_iff]; simp [hasE]
      have HI : Hid (i < ns.length) := hlt; clear hlt hi hc hr hn2 hpw hy hN4 hnN; go_wp2_with fail
      go_roundg (ns.length - (i + 1))
      case measure => have := HGk.out; have := HI.out; omega
      case rel => exact ⟨i + 1, y, HI.out, rfl, by go_num, rfl, HY, rfl⟩
    · have hii : i = ns.length := by omega
      subst hii; (have hge : ¬ (ns.length : Int) < (ns.length : Int) := by omega); rw [List.take_length] at HX; clear hlt hi; go_wp2_with fail; go_ret; (exact ⟨congrArg (fun x : Nat => Ending.returned (Value.int .u64 (x : Int))) HX.out, rfl⟩)
/-- One number more. -/
theorem set_with1 {N : Nat} (hN : N ≤ 40) (P : Nat → Bool) (n b : Nat) (hn : n < N) (w : World) (hc : w.cell? ⟨b, 0, none⟩ = some (.int .i64 (n : Nat))) :
    Calls Try.prog 32 #[.int .u64 (bm N P : Nat), .slice (some ⟨b, 0, none⟩) 1 1] w fun e w' => e = .returned (.int .u64 (bm N (fun i => P i || i == n) : Nat)) ∧ w' = w := by
  (refine (set_with hN [n] P (some ⟨b, 0, none⟩) 1 w (by simpa using hn) (by simp) (by decide) fun _ => ⟨b, 0, rfl, fun j m hj => ?_⟩).mono ?_)
  · match j, hj with
    | 0, hj =>
      simp at hj; subst hj
      exact hc
    | j + 1, hj => simp at hj
  · rintro _ _ ⟨rfl, rfl⟩
    (refine ⟨congrArg (fun x : Nat => Ending.returned (Value.int .u64 (x : Int))) (bm_ext fun i _ => ?_), rfl⟩); rw [Bool.eq_iff_iff]; simp [hasE]
end Go.Proofs.Ytmahgfgndfcmpag
