/- Texts of one proof, one behind the other: Math, Math2, Math3, Math4, Math6, Base, Math7. -/
import Derived.Test.YtclinobfbdljhahChecked
import Derived.WalkKit
import Derived.WalkSpells
import Derived.WalkLawsBesides
import Derived.Deep.QuietTactic
import Derived.BigQuiet
/- The plain mathematics of layer 1: formulas as data, the reader and the writer as functions on lists of bytes. Nothing of the program's translation is named here. -/
namespace Go.Proofs.Ytclinobfbdljhah

/-- A formula as data: kind, name, kids. -/
inductive Fm where
  | mk (kind : Int) (name : ByteArray) (kids : List Fm)

def Fm.kind : Fm → Int | .mk k _ _ => k
def Fm.name : Fm → ByteArray | .mk _ n _ => n
def Fm.kids : Fm → List Fm | .mk _ _ ks => ks

mutual
def Fm.size : Fm → Nat
  | .mk _ _ ks => Fm.sizes ks + 1
def Fm.sizes : List Fm → Nat
  | [] => 0
  | f :: fs => Fm.size f + Fm.sizes fs
end

/-! ### Reading -/

def lower (c : UInt8) : Bool := decide (97 ≤ c.toNat) && decide (c.toNat ≤ 122)

def letters : List UInt8 → List UInt8
  | [] => []
  | c :: l => if lower c then c :: letters l else []

theorem letters_length (l : List UInt8) : (letters l).length ≤ l.length := by
  induction l with
  | nil => simp [letters]
  | cons c l ih => simp only [letters]; split <;> simp <;> omega

def isNm (l : List UInt8) : Bool := decide (l ≠ []) && decide (l.length ≤ 8) && decide ((letters l).length = l.length)

def nmF (l : List UInt8) : Fm := .mk 1 ⟨l.toArray⟩ []
end Go.Proofs.Ytclinobfbdljhah
/- The plain mathematics of layer 1, two: what the reader's functions answer at last. -/
namespace Go.Proofs.Ytclinobfbdljhah

theorem size_leaf (k : Int) (n : ByteArray) : (Fm.mk k n []).size = 1 := by simp [Fm.size, Fm.sizes]
end Go.Proofs.Ytclinobfbdljhah
/- The plain mathematics of layer 1, three: what Check says. -/
namespace Go.Proofs.Ytclinobfbdljhah

def kidsN (k : Int) : Int := if k = 4 ∨ k = 8 ∨ k = 9 then 1 else if k = 5 ∨ k = 6 ∨ k = 7 then 2 else 0
def kindB (k : Int) : Bool := decide (1 ≤ k) && decide (k ≤ 9)
def nameB (k : Int) (n : ByteArray) : Bool := if k = 1 then !isNm n.data.toList else !n.data.toList.isEmpty

/-- What is wrong at a node, if something is. -/
def nodeF (k : Int) (n : ByteArray) (len : Nat) : Option Int :=
  if kindB k = false then some 4 else if (len : Int) ≠ kidsN k then some 9 else if nameB k n = true then some 8 else none

inductive Chk where
  | ok (seen : Nat)
  | bad (code : Int) (at_ : Nat)

mutual
def chk : Fm → Nat → Chk
  | .mk k n ks, s => if s = 200 then .bad 2 0 else match nodeF k n ks.length with
    | some c => .bad c s
    | none => chks ks (s + 1)
def chks : List Fm → Nat → Chk
  | [], s => .ok s
  | f :: fs, s => match chk f s with
    | .bad c a => .bad c a
    | .ok s' => chks fs s'
end

mutual
theorem chk_le : ∀ (f : Fm) (s s' : Nat), chk f s = .ok s' → s ≤ 200 → s' ≤ 200 ∧ s' = s + f.size
  | .mk k n ks, s, s', h, hs => by
    rw [chk] at h
    split at h
    · cases h
    · rename_i h2
      split at h
      · cases h
      · have := chks_le ks (s + 1) s' h (by omega)
        rw [Fm.size]; omega
theorem chks_le : ∀ (fs : List Fm) (s s' : Nat), chks fs s = .ok s' → s ≤ 200 → s' ≤ 200 ∧ s' = s + Fm.sizes fs
  | [], s, s', h, hs => by rw [chks] at h; cases h; simp [Fm.sizes]; exact hs
  | f :: fs, s, s', h, hs => by
    rw [chks] at h
    split at h
    · cases h
    · rename_i s1 h1
      have a := chk_le f s s1 h1 hs; have b := chks_le fs s1 s' h a.1; rw [Fm.sizes]; omega
end

/-- What Check answers. -/
def Fm.code (f : Fm) : Int × Int := match chk f 0 with
  | .ok _ => (0, 0)
  | .bad c a => (c, a)
end Go.Proofs.Ytclinobfbdljhah
/- The plain mathematics of layer 1, four: what Print writes. -/
namespace Go.Proofs.Ytclinobfbdljhah

/-- Each node is as it should be. -/
inductive Fine : Fm → Prop
  | mk (k : Int) (n : ByteArray) (ks : List Fm) (h : nodeF k n ks.length = none) (hk : ∀ (i : Nat) (f : Fm), ks[i]? = some f → Fine f) : Fine (.mk k n ks)

theorem Fine.node {k : Int} {n : ByteArray} {ks : List Fm} (h : Fine (.mk k n ks)) : nodeF k n ks.length = none := by cases h; assumption
theorem Fine.kid {k : Int} {n : ByteArray} {ks : List Fm} (h : Fine (.mk k n ks)) (i : Nat) (f : Fm) (hi : ks[i]? = some f) : Fine f := by
  cases h with
  | mk _ _ _ _ hk => exact hk i f hi

mutual
theorem fine_of_chk : ∀ (f : Fm) (s s' : Nat), chk f s = .ok s' → Fine f
  | .mk k n ks, s, s', h => by
    rw [chk] at h
    split at h
    · cases h
    · split at h
      · cases h
      · rename_i hn
        exact Fine.mk k n ks hn (fine_of_chks ks (s + 1) s' h)
theorem fine_of_chks : ∀ (fs : List Fm) (s s' : Nat), chks fs s = .ok s' → ∀ (i : Nat) (f : Fm), fs[i]? = some f → Fine f
  | [], _, _, _ => fun i f hf => by simp at hf
  | g :: gs, s, s', h => fun i f hf => by
    rw [chks] at h
    split at h
    · cases h
    · rename_i s1 h1
      cases i with
      | zero => simp at hf; subst hf; exact fine_of_chk g s s1 h1
      | succ i => exact fine_of_chks gs s1 s' h i f (by simpa using hf)
end

theorem nodeF_parts {k : Int} {n : ByteArray} {len : Nat} (h : nodeF k n len = none) : 1 ≤ k ∧ k ≤ 9 ∧ (len : Int) = kidsN k ∧ nameB k n = false := by
  unfold nodeF at h
  split at h
  · cases h
  · rename_i h1
    (have h1 : kindB k = true := by simpa using h1); simp [kindB] at h1
    split at h
    · cases h
    · rename_i h2
      split at h
      · cases h
      · rename_i h3
        (exact ⟨h1.1, h1.2, by simpa using h2, by simpa using h3⟩)

/-- A formula that is as it should be is one of three forms. -/
theorem Fine.forms {f : Fm} (h : Fine f) : (∃ n, f = .mk 1 n [] ∧ isNm n.data.toList = true) ∨ (f = .mk 2 ⟨#[]⟩ []) ∨ (f = .mk 3 ⟨#[]⟩ []) ∨ (∃ k g, (k = 4 ∨ k = 8 ∨ k = 9) ∧ f = .mk k ⟨#[]⟩ [g] ∧ Fine g) ∨ (∃ k g g', (k = 5 ∨ k = 6 ∨ k = 7) ∧ f = .mk k ⟨#[]⟩ [g, g'] ∧ Fine g ∧ Fine g') := by
  obtain ⟨k, n, ks⟩ := f; obtain ⟨h1, h2, h3, h4⟩ := nodeF_parts h.node
  have hn : k ≠ 1 → n = ⟨#[]⟩ := fun hk => by
    simp [nameB, hk] at h4; apply ByteArray.ext; exact h4
  (have hlen : k = 1 ∨ k = 2 ∨ k = 3 ∨ k = 4 ∨ k = 5 ∨ k = 6 ∨ k = 7 ∨ k = 8 ∨ k = 9 := by omega)
  have kid1 : ∀ ks : List Fm, ((ks.length : Nat) : Int) = 1 → ∃ g, ks = [g] := fun ks h => by
    match ks, h with
    | [g], _ => exact ⟨g, rfl⟩
    | [], h => simp at h
    | _ :: _ :: _, h => simp at h; omega
  have kid2 : ∀ ks : List Fm, ((ks.length : Nat) : Int) = 2 → ∃ g g', ks = [g, g'] := fun ks h => by
    match ks, h with
    | [g, g'], _ => exact ⟨g, g', rfl⟩
    | [], h => simp at h
    | [_], h => simp at h
    | _ :: _ :: _ :: _, h => simp at h; omega
  have kid0 : ∀ ks : List Fm, ((ks.length : Nat) : Int) = 0 → ks = [] := fun ks h => by
    cases ks with
    | nil => rfl
    | cons _ _ => simp at h; omega
  rcases hlen with e | e | e | e | e | e | e | e | e <;> subst e
  · obtain rfl := kid0 ks (h3.trans rfl); exact Or.inl ⟨n, rfl, by simpa [nameB] using h4⟩
  · obtain rfl := kid0 ks (h3.trans rfl); rw [hn (by decide)]; exact Or.inr (Or.inl rfl)
  · obtain rfl := kid0 ks (h3.trans rfl); rw [hn (by decide)]; exact Or.inr (Or.inr (Or.inl rfl))
  · obtain ⟨g, rfl⟩ := kid1 ks (h3.trans rfl); rw [hn (by decide)]; exact Or.inr (Or.inr (Or.inr (Or.inl ⟨4, g, Or.inl rfl, rfl, h.kid 0 g rfl⟩)))
  · obtain ⟨g, g', rfl⟩ := kid2 ks (h3.trans rfl); rw [hn (by decide)]; exact Or.inr (Or.inr (Or.inr (Or.inr ⟨5, g, g', Or.inl rfl, rfl, h.kid 0 g rfl, h.kid 1 g' rfl⟩)))
  · obtain ⟨g, g', rfl⟩ := kid2 ks (h3.trans rfl); rw [hn (by decide)]; exact Or.inr (Or.inr (Or.inr (Or.inr ⟨6, g, g', Or.inr (Or.inl rfl), rfl, h.kid 0 g rfl, h.kid 1 g' rfl⟩)))
  · obtain ⟨g, g', rfl⟩ := kid2 ks (h3.trans rfl); rw [hn (by decide)]; exact Or.inr (Or.inr (Or.inr (Or.inr ⟨7, g, g', Or.inr (Or.inr rfl), rfl, h.kid 0 g rfl, h.kid 1 g' rfl⟩)))
  · obtain ⟨g, rfl⟩ := kid1 ks (h3.trans rfl); rw [hn (by decide)]; exact Or.inr (Or.inr (Or.inr (Or.inl ⟨8, g, Or.inr (Or.inl rfl), rfl, h.kid 0 g rfl⟩)))
  · obtain ⟨g, rfl⟩ := kid1 ks (h3.trans rfl); rw [hn (by decide)]; exact Or.inr (Or.inr (Or.inr (Or.inl ⟨9, g, Or.inr (Or.inr rfl), rfl, h.kid 0 g rfl⟩)))

theorem isNm_bd {l : List UInt8} (h : isNm l = true) : 1 ≤ l.length ∧ l.length ≤ 8 := by
  simp [isNm] at h
  cases l with
  | nil => simp at h
  | cons c l => simp at h ⊢; omega

mutual
theorem chk_code : ∀ (f : Fm) (s : Nat) (c : Int) (a : Nat), chk f s = .bad c a → c ≠ 0
  | .mk k n ks, s, c, a, h => by
    rw [chk] at h
    split at h
    · cases h; decide
    · split at h
      · rename_i c' hc
        cases h
        unfold nodeF at hc
        split at hc
        · cases hc; decide
        · split at hc
          · cases hc; decide
          · split at hc
            · cases hc; decide
            · cases hc
      · exact chks_code ks (s + 1) c a h
theorem chks_code : ∀ (fs : List Fm) (s : Nat) (c : Int) (a : Nat), chks fs s = .bad c a → c ≠ 0
  | [], s, c, a, h => by rw [chks] at h; cases h
  | f :: fs, s, c, a, h => by
    rw [chks] at h
    split at h
    · rename_i c' a' h1
      cases h
      exact chk_code f s c a h1
    · rename_i s1 h1
      exact chks_code fs s1 c a h
end
end Go.Proofs.Ytclinobfbdljhah
/- The plain mathematics of layer 1, six: what is read is as it should be. -/
namespace Go.Proofs.Ytclinobfbdljhah

theorem fine_name {l : List UInt8} (h : isNm l = true) : Fine (nmF l) :=
  Fine.mk _ _ _ (by
    (have : nodeF 1 ⟨l.toArray⟩ 0 = none := by simp [nodeF, kindB, kidsN, nameB, h])
    exact this) (fun i f hf => by simp at hf)

mutual
theorem chk_fine : ∀ (f : Fm) (s : Nat), Fine f → s + f.size ≤ 200 → chk f s = .ok (s + f.size)
  | .mk k n ks, s, h, hs => by
    rw [Fm.size] at hs; (rw [chk, if_neg (by omega), h.node, Fm.size]); (have := chks_fine ks (s + 1) (h.kid) (by omega)); simp only [this]
    congr 1; omega
theorem chks_fine : ∀ (fs : List Fm) (s : Nat), (∀ (i : Nat) (f : Fm), fs[i]? = some f → Fine f) → s + Fm.sizes fs ≤ 200 → chks fs s = .ok (s + Fm.sizes fs)
  | [], s, _, _ => by rw [chks, Fm.sizes]; rfl
  | f :: fs, s, h, hs => by
    rw [Fm.sizes] at hs; (rw [chks, chk_fine f s (h 0 f rfl) (by omega), Fm.sizes]); (have := chks_fine fs (s + f.size) (fun i g hg => h (i + 1) g (by simpa using hg)) (by omega)); simp only [this]
    congr 1; omega
end
end Go.Proofs.Ytclinobfbdljhah
/- What the walks over layer 1 share: formulas in memory, what a call leaves as it was, the reader's own block. -/
namespace Go.Proofs.Ytclinobfbdljhah
open Go.RowKit

/-- The blocks of w for which 'ok' holds are as they were. -/
structure Kept (ok : Nat → Prop) (w w' : World) : Prop where
  os : w'.os = w.os
  tape : w'.tape = w.tape
  output : w'.output = w.output
  size : w.heap.size ≤ w'.heap.size
  block : ∀ k, k < w.heap.size → ok k → w'.heap[k]? = w.heap[k]?

theorem Kept.refl (ok : Nat → Prop) (w : World) : Kept ok w w := ⟨rfl, rfl, rfl, Nat.le_refl _, fun _ _ _ => rfl⟩
theorem Kept.trans {ok : Nat → Prop} {a b c : World} (h : Kept ok a b) (k : Kept ok b c) : Kept ok a c :=
  ⟨k.os.trans h.os, k.tape.trans h.tape, k.output.trans h.output, Nat.le_trans h.size k.size, fun i hi ho => (k.block i (Nat.lt_of_lt_of_le hi h.size) ho).trans (h.block i hi ho)⟩
theorem Kept.alloc {ok : Nat → Prop} {a w : World} (h : Kept ok a w) (o : Obj) : Kept ok a (w.alloc o) :=
  h.trans ⟨rfl, rfl, rfl, by simp, fun k hk _ => Below.heap_alloc _ _ _ hk⟩
theorem Kept.setCell {ok : Nat → Prop} {a w : World} (h : Kept ok a w) {p : Addr} (hp : p.block < a.heap.size → ¬ ok p.block) (u : Value) : Kept ok a (w.setCell p u) := by
  (refine ⟨h.os, h.tape, h.output, by simpa [World.setCell] using h.size, fun k hk ho => ?_⟩); (rw [Below.heap_setCell _ _ _ _ (fun e => by subst e; exact hp hk ho)]); exact h.block k hk ho
theorem Kept.mono {ok ok' : Nat → Prop} {a b : World} (h : Kept ok a b) (hi : ∀ k, k < a.heap.size → ok' k → ok k) : Kept ok' a b :=
  ⟨h.os, h.tape, h.output, h.size, fun k hk ho => h.block k hk (hi k hk ho)⟩
theorem Kept.below {ok : Nat → Prop} {a b : World} {B : Nat} (h : Kept ok a b) (hB : B ≤ a.heap.size) (hi : ∀ k, k < B → ok k) : Below B a b :=
  ⟨h.os, h.tape, h.output, h.size, fun k hk => h.block k (Nat.lt_of_lt_of_le hk hB) (hi k hk)⟩
theorem kept_of_below {ok : Nat → Prop} {a b : World} {B : Nat} (h : Below B a b) (hi : ∀ k, k < a.heap.size → ok k → k < B) : Kept ok a b :=
  ⟨h.os, h.tape, h.output, h.size, fun k hk ho => h.block k (hi k hk ho)⟩

theorem lt_of_block {w : World} {b : Nat} {o : Obj} (h : w.heap[b]? = some o) : b < w.heap.size := by
  rcases Nat.lt_or_ge b w.heap.size with h' | h'
  · exact h'
  · rw [Array.getElem?_eq_none h'] at h; cases h

theorem lt_of_cell {w : World} {a : Addr} {v : Value} (h : w.cell? a = some v) : a.block < w.heap.size := by
  rcases Nat.lt_or_ge a.block w.heap.size with h' | h'
  · exact h'
  · simp [World.cell?, Array.getElem?_eq_none h'] at h

theorem cell_of_block {w w' : World} {a : Addr} (h : w'.heap[a.block]? = w.heap[a.block]?) : w'.cell? a = w.cell? a := by
  simp only [World.cell?, h]

theorem blk_cell {w : World} {b : Nat} {cs : Array Value} {T : TypeId} (h : w.heap[b]? = some (.cells cs T (0, 0))) (o : Nat) : w.cell? ⟨b, o, none⟩ = cs[o]? := by simp [World.cell?, h]
theorem blk_fz {w : World} {b : Nat} {cs : Array Value} {T : TypeId} (h : w.heap[b]? = some (.cells cs T (0, 0))) (o : Nat) : w.frozen? ⟨b, o, none⟩ = false := by simp [World.frozen?, h]
/-- A block of three cells, as the walk wants it. -/
theorem blk3 {w : World} {b : Nat} {c0 c1 c2 : Value} {T : TypeId} (h : w.heap[b]? = some (.cells #[c0, c1, c2] T (0, 0))) : w.cell? ⟨b, 0, none⟩ = some c0 ∧ w.cell? ⟨b, 1, none⟩ = some c1 ∧ w.cell? ⟨b, 2, none⟩ = some c2 ∧ w.frozen? ⟨b, 0, none⟩ = false ∧ w.frozen? ⟨b, 1, none⟩ = false ∧ w.frozen? ⟨b, 2, none⟩ = false :=
  ⟨blk_cell h 0, blk_cell h 1, blk_cell h 2, blk_fz h 0, blk_fz h 1, blk_fz h 2⟩
theorem blk2 {w : World} {b : Nat} {c0 c1 : Value} {T : TypeId} (h : w.heap[b]? = some (.cells #[c0, c1] T (0, 0))) : w.cell? ⟨b, 0, none⟩ = some c0 ∧ w.cell? ⟨b, 1, none⟩ = some c1 ∧ w.frozen? ⟨b, 0, none⟩ = false ∧ w.frozen? ⟨b, 1, none⟩ = false :=
  ⟨blk_cell h 0, blk_cell h 1, blk_fz h 0, blk_fz h 1⟩
theorem blk_new (w : World) (o : Obj) : (w.alloc o).heap[w.heap.size]? = some o := by
  show (w.heap.push o)[w.heap.size]? = _
  simp

/-! ### Formulas in memory -/
mutual
def Rep (w : World) (ok : Nat → Prop) : Fm → Value → Prop
  | .mk k n ks, v => ∃ sl cap, v = .agg #[.int .i64 k, .string n, .slice sl ks.length cap] ∧ n.size ≤ maxLen ∧ ks.length ≤ cap ∧ cap ≤ maxLen ∧ (ks ≠ [] → ∃ b off, sl = some ⟨b, off, none⟩ ∧ ok b ∧ Reps w ok b off ks)
def Reps (w : World) (ok : Nat → Prop) (b : Nat) : Nat → List Fm → Prop
  | _, [] => True
  | off, f :: fs => (∃ c0 c1 c2, w.cell? ⟨b, off, none⟩ = some c0 ∧ w.cell? ⟨b, off + 1, none⟩ = some c1 ∧ w.cell? ⟨b, off + 2, none⟩ = some c2 ∧ Rep w ok f (.agg #[c0, c1, c2])) ∧ Reps w ok b (off + 3) fs
end

theorem Rep.def {w : World} {ok : Nat → Prop} {k : Int} {n : ByteArray} {ks : List Fm} {v : Value} : Rep w ok (.mk k n ks) v ↔ ∃ sl cap, v = .agg #[.int .i64 k, .string n, .slice sl ks.length cap] ∧ n.size ≤ maxLen ∧ ks.length ≤ cap ∧ cap ≤ maxLen ∧ (ks ≠ [] → ∃ b off, sl = some ⟨b, off, none⟩ ∧ ok b ∧ Reps w ok b off ks) := by
  rw [Rep]

theorem Reps.nil {w : World} {ok : Nat → Prop} {b off : Nat} : Reps w ok b off [] := by rw [Reps]; trivial

theorem Reps.cons {w : World} {ok : Nat → Prop} {b off : Nat} {f : Fm} {fs : List Fm} : Reps w ok b off (f :: fs) ↔ (∃ c0 c1 c2, w.cell? ⟨b, off, none⟩ = some c0 ∧ w.cell? ⟨b, off + 1, none⟩ = some c1 ∧ w.cell? ⟨b, off + 2, none⟩ = some c2 ∧ Rep w ok f (.agg #[c0, c1, c2])) ∧ Reps w ok b (off + 3) fs := by
  rw [Reps]

mutual
theorem Rep.keep {w w' : World} {ok ok' : Nat → Prop} (hc : ∀ a : Addr, ok a.block → a.block < w.heap.size → w'.cell? a = w.cell? a) (hi : ∀ k, k < w.heap.size → ok k → ok' k) :
    ∀ (f : Fm) (v : Value), Rep w ok f v → Rep w' ok' f v
  | .mk k n ks, v, h => by
    rw [Rep.def] at h ⊢; obtain ⟨sl, cap, hv, hn, hl, hc', hk⟩ := h; (refine ⟨sl, cap, hv, hn, hl, hc', fun hne => ?_⟩); obtain ⟨b, off, hsl, hb, hr⟩ := hk hne
    have hlt : b < w.heap.size := by
      cases ks with
      | nil => exact absurd rfl hne
      | cons g gs =>
        obtain ⟨⟨c0, _, _, h0, _⟩, _⟩ := Reps.cons.1 hr; exact lt_of_cell h0
    exact ⟨b, off, hsl, hi b hlt hb, Reps.keep hc hi hb hlt off ks hr⟩
theorem Reps.keep {w w' : World} {ok ok' : Nat → Prop} (hc : ∀ a : Addr, ok a.block → a.block < w.heap.size → w'.cell? a = w.cell? a) (hi : ∀ k, k < w.heap.size → ok k → ok' k) {b : Nat} (hb : ok b) (hlt : b < w.heap.size) :
    ∀ (off : Nat) (fs : List Fm), Reps w ok b off fs → Reps w' ok' b off fs
  | _, [], _ => Reps.nil
  | off, f :: fs, h => by
    rw [Reps.cons] at h ⊢; obtain ⟨⟨c0, c1, c2, h0, h1, h2, hr⟩, hrs⟩ := h; (exact ⟨⟨c0, c1, c2, by rw [hc _ hb hlt]; exact h0, by rw [hc _ hb hlt]; exact h1, by rw [hc _ hb hlt]; exact h2, Rep.keep hc hi f _ hr⟩, Reps.keep hc hi hb hlt (off + 3) fs hrs⟩)
end

theorem Rep.kept {w w' : World} {ok : Nat → Prop} {f : Fm} {v : Value} (h : Rep w ok f v) (hk : Kept ok w w') : Rep w' ok f v :=
  Rep.keep (fun _ ha hlt => cell_of_block (hk.block _ hlt ha)) (fun _ _ h => h) f v h
theorem Reps.kept {w w' : World} {ok : Nat → Prop} {b off : Nat} {fs : List Fm} (h : Reps w ok b off fs) (hb : ok b) (hk : Kept ok w w') : Reps w' ok b off fs := by
  cases fs with
  | nil => exact Reps.nil
  | cons f fs =>
    have hlt : b < w.heap.size := by
      obtain ⟨⟨c0, _, _, h0, _⟩, _⟩ := Reps.cons.1 h; exact lt_of_cell h0
    (exact Reps.keep (fun _ ha hlt => cell_of_block (hk.block _ hlt ha)) (fun _ _ h => h) hb hlt off _ h)

/-- The i-th of the kids. -/
theorem Reps.get {w : World} {ok : Nat → Prop} {b : Nat} : ∀ {off : Nat} {fs : List Fm} (_ : Reps w ok b off fs) (i : Nat) (f : Fm) (_ : fs[i]? = some f),
    ∃ c0 c1 c2, w.cell? ⟨b, off + i * 3, none⟩ = some c0 ∧ w.cell? ⟨b, off + i * 3 + 1, none⟩ = some c1 ∧ w.cell? ⟨b, off + i * 3 + 2, none⟩ = some c2 ∧ Rep w ok f (.agg #[c0, c1, c2])
  | off, [], _, i, f, hf => by simp at hf
  | off, g :: gs, h, i, f, hf => by
    obtain ⟨h1, h2⟩ := Reps.cons.1 h
    cases i with
    | zero => simp at hf; subst hf; simpa using h1
    | succ i =>
      (have := Reps.get h2 i f (by simpa using hf)); (have e : off + 3 + i * 3 = off + (i + 1) * 3 := by omega)
      rwa [e] at this

/-- .. with its parts shown. -/
theorem Reps.at {w : World} {ok : Nat → Prop} {b off : Nat} {fs : List Fm} (h : Reps w ok b off fs) (i : Nat) (k : Int) (n : ByteArray) (ks : List Fm) (hf : fs[i]? = some (.mk k n ks)) :
    ∃ sl cap, w.cell? ⟨b, off + i * 3, none⟩ = some (.int .i64 k) ∧ w.cell? ⟨b, off + i * 3 + 1, none⟩ = some (.string n) ∧ w.cell? ⟨b, off + i * 3 + 2, none⟩ = some (.slice sl ks.length cap) ∧ Rep w ok (.mk k n ks) (.agg #[.int .i64 k, .string n, .slice sl ks.length cap]) := by
  obtain ⟨c0, c1, c2, h0, h1, h2, hr⟩ := h.get i _ hf; obtain ⟨sl, cap, hv, hr'⟩ := Rep.def.1 hr; simp only [Value.agg.injEq, Array.mk.injEq, List.cons.injEq, and_true] at hv; obtain ⟨rfl, rfl, rfl⟩ := hv; exact ⟨sl, cap, h0, h1, h2, hr⟩

theorem Rep.leaf {w : World} {ok : Nat → Prop} {k : Int} {n : ByteArray} (h : n.size ≤ maxLen) : Rep w ok (.mk k n []) (.agg #[.int .i64 k, .string n, .slice none 0 0]) :=
  Rep.def.2 ⟨none, 0, rfl, h, by simp, by simp, fun h => absurd rfl h⟩

/-! ### The reader's block -/
/-- From place a on the text reads l. -/
def At (t : ByteArray) (a : Nat) (l : List UInt8) : Prop := a ≤ t.size ∧ t.data.toList.drop a = l

theorem At.len {t : ByteArray} {a : Nat} {l : List UInt8} (h : At t a l) : a + l.length = t.size := by
  obtain ⟨h1, h2⟩ := h; have e : t.data.toList.length = t.size := Array.length_toList; rw [← h2, List.length_drop, e]; omega
theorem At.cons {t : ByteArray} {a : Nat} {c : UInt8} {l : List UInt8} (h : At t a (c :: l)) : At t (a + 1) l := by
  have := h.len; (refine ⟨by simp at this; omega, ?_⟩); rw [← List.drop_drop, h.2]; rfl
theorem At.head {t : ByteArray} {a : Nat} {c : UInt8} {l : List UInt8} (h : At t a (c :: l)) (hlt : a < t.size) : t[a] = c := by
  have h2 := h.2; have e : t.data.toList.length = t.size := Array.length_toList; (rw [List.drop_eq_getElem_cons (by omega)] at h2); have := (List.cons.inj h2).1; rw [← this]; rfl
end Go.Proofs.Ytclinobfbdljhah
/- The plain mathematics of layer 1, seven: the yardstick's tokens. -/
namespace Go.Proofs.Ytclinobfbdljhah

def allLow (l : List UInt8) : Bool := l.all lower
theorem letters_of_all : ∀ (l : List UInt8), allLow l = true → letters l = l
  | [], _ => rfl
  | c :: l, h => by
    simp only [allLow, List.all_cons, Bool.and_eq_true] at h; rw [letters, if_pos h.1, letters_of_all l h.2]
theorem all_of_letters : ∀ (l : List UInt8), (letters l).length = l.length → allLow l = true
  | [], _ => rfl
  | c :: l, h => by
    rw [letters] at h
    split at h
    · rename_i hc
      simp only [allLow, List.all_cons, Bool.and_eq_true]; (exact ⟨hc, all_of_letters l (by simpa using h)⟩)
    · simp at h
theorem isNm_all (l : List UInt8) : isNm l = (allLow l && decide (0 < l.length) && decide (l.length < 9)) := by
  unfold isNm
  rcases h : allLow l with _ | _
  · have : ¬ (letters l).length = l.length := fun e => by rw [all_of_letters l e] at h; cases h
    simp [this]
  · rw [letters_of_all l h]
    have e1 : (l ≠ []) ↔ 0 < l.length := List.length_pos_iff.symm; (have e2 : (l.length ≤ 8) ↔ l.length < 9 := by omega); rw [Bool.eq_iff_iff]; simp only [Bool.and_eq_true, decide_eq_true_eq, e1, e2, Bool.true_and, and_true]
end Go.Proofs.Ytclinobfbdljhah
