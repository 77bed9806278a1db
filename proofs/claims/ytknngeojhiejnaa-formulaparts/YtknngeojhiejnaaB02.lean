/- Texts of one proof, one behind the other: Math6, Shelf, Base, Walk1, Walk2, Walk3. -/
import Derived.Test.YtknngeojhiejnaaB01
import Derived.Shelf.LaysM
import Derived.Shelf.Strconv.Clone
import Derived.Shelf.Strings.Prefix
import Derived.Test.YtknngeojhiejnaaProg
import Derived.Test.YtknngeojhiejnaaChecked
import Derived.WalkKit
import Derived.WalkSpells
import Derived.WalkLawsBesides
import Derived.Deep.QuietTactic
import Derived.BigQuiet
import Derived.Deep.LoopGhost
/- The plain mathematics of layer 1, six: what is read is as it should be. -/
namespace Go.Proofs.Ytknngeojhiejnaa

theorem fine_leaf (k : Int) (h : k = 2 ∨ k = 3) : Fine (.mk k e0 []) :=
  Fine.mk _ _ _ (by rcases h with rfl | rfl <;> decide) (fun i f hf => by simp at hf)
theorem fine_one (k : Int) (f : Fm) (h : k = 4 ∨ k = 8 ∨ k = 9) (hf : Fine f) : Fine (.mk k e0 [f]) :=
  Fine.mk _ _ _ (by rcases h with rfl | rfl | rfl <;> (show nodeF _ e0 1 = none; decide)) (fun i g hg => by
    cases i with
    | zero => simp at hg; subst hg; exact hf
    | succ i => simp at hg)
theorem fine_two (k : Int) (f g : Fm) (h : k = 5 ∨ k = 6 ∨ k = 7) (hf : Fine f) (hg : Fine g) : Fine (.mk k e0 [f, g]) :=
  Fine.mk _ _ _ (by rcases h with rfl | rfl | rfl <;> (show nodeF _ e0 2 = none; decide)) (fun i x hx => by
    match i, hx with
    | 0, hx => simp at hx; subst hx; exact hf
    | 1, hx => simp at hx; subst hx; exact hg
    | i + 2, hx => simp at hx)
theorem fine_name {l : List UInt8} (h : isNm l = true) : Fine (nmF l) :=
  Fine.mk _ _ _ (by
    have : nodeF 1 ⟨l.toArray⟩ 0 = none := by simp [nodeF, kindB, kidsN, nameB, h]
    exact this) (fun i f hf => by simp at hf)

mutual
theorem chk_fine : ∀ (f : Fm) (s : Nat), Fine f → s + f.size ≤ 200 → chk f s = .ok (s + f.size)
  | .mk k n ks, s, h, hs => by
    rw [Fm.size] at hs
    rw [chk, if_neg (by omega), h.node, Fm.size]
    have := chks_fine ks (s + 1) (h.kid) (by omega)
    simp only [this]
    congr 1; omega
theorem chks_fine : ∀ (fs : List Fm) (s : Nat), (∀ (i : Nat) (f : Fm), fs[i]? = some f → Fine f) → s + Fm.sizes fs ≤ 200 → chks fs s = .ok (s + Fm.sizes fs)
  | [], s, _, _ => by rw [chks, Fm.sizes]; rfl
  | f :: fs, s, h, hs => by
    rw [Fm.sizes] at hs
    rw [chks, chk_fine f s (h 0 f rfl) (by omega), Fm.sizes]
    have := chks_fine fs (s + f.size) (fun i g hg => h (i + 1) g (by simpa using hg)) (by omega)
    simp only [this]
    congr 1; omega
end
end Go.Proofs.Ytknngeojhiejnaa
/- Three contracts of the library, laid at this program: strings.HasPrefix, and the two small functions beneath it and beneath strings.Clone. -/
namespace Go.Proofs
open Go.Shelf
def Try.laysM316_ren : Go.Shelf.Ren := ⟨fun | 316 => 86 | n => n, fun | 9 => 9 | 3 => 3 | 4 => 4 | 37 => 72 | 0 => 0 | 127 => 119 | 5 => 5 | n => n, fun | n => n⟩
theorem Try.laysM316 : Go.Proofs.LaysM.n316 Try.prog Try.laysM316_ren := {
  mixed := by kernel_rfl
  f316 := Try.func86.trans (congrArg some (by kernel_rfl))
  t0 := Try.underlying0
  a0 := Try.isAgg0
  z0 := Try.sizeOf0
  v0 := Try.zeroValue0
  t3 := Try.underlying3
  a3 := Try.isAgg3
  z3 := Try.sizeOf3
  v3 := Try.zeroValue3
  t4 := Try.underlying4
  a4 := Try.isAgg4
  z4 := Try.sizeOf4
  v4 := Try.zeroValue4
  t9 := Try.underlying9
  a9 := Try.isAgg9
  z9 := Try.sizeOf9
  v9 := Try.zeroValue9
  t37 := Try.underlying72
  a37 := Try.isAgg72
  z37 := Try.sizeOf72
  v37 := Try.zeroValue72
  t127 := Try.underlying119
  a127 := Try.isAgg119
  z127 := Try.sizeOf119
  v127 := Try.zeroValue119
  t5 := Try.underlying5
  a5 := Try.isAgg5
  z5 := Try.sizeOf5
  v5 := Try.zeroValue5
  i0 := by kernel_rfl
  i3 := by kernel_rfl
  i4 := by kernel_rfl
  i5 := by kernel_rfl
  i9 := by kernel_rfl
  i37 := by kernel_rfl
  i127 := by kernel_rfl }
open Go.RowKit in
theorem Try.stringslite_Clone (s : ByteArray) (w : World) (hlim : s.size ≤ 281474976710656) :
    Calls Try.prog 86 #[.string s] w fun e w' => e = .returned (.string s) ∧ Below w.heap.size w w' := Any.stringslite_Clone Try.laysM316 s w hlim
def Try.lays99_ren : Go.Shelf.Ren := ⟨fun | 99 => 132 | 206 => 141 | n => n, fun | 9 => 9 | 4 => 4 | 3 => 3 | n => n, fun | n => n⟩
theorem Try.lays99 : Go.Proofs.Lays.n99 Try.prog Try.lays99_ren := {
  mixed := by kernel_rfl
  f99 := Try.func132.trans (congrArg some (by kernel_rfl))
  f206 := Try.func141.trans (congrArg some (by kernel_rfl))
  t3 := Try.underlying3
  a3 := Try.isAgg3
  z3 := Try.sizeOf3
  v3 := Try.zeroValue3
  t4 := Try.underlying4
  a4 := Try.isAgg4
  z4 := Try.sizeOf4
  v4 := Try.zeroValue4
  t9 := Try.underlying9
  a9 := Try.isAgg9
  z9 := Try.sizeOf9
  v9 := Try.zeroValue9 }
open Go.RowKit Go.Lib in
theorem Try.strings_HasPrefix (s p : ByteArray) (w : World) :
    Calls Try.prog 132 #[.string s, .string p] w fun e w' => e = .returned (.bool (Lib.hasPrefix s.data.toList p.data.toList)) ∧ w' = w := Any.strings_HasPrefix Try.lays99 s p w
end Go.Proofs
/- What the walks over layer 1 share: formulas in memory, what a call leaves as it was, the reader's own block. -/
namespace Go.Proofs.Ytknngeojhiejnaa
open Go.RowKit

/-- The blocks of w for which 'ok' holds are as they were. -/
structure Kept (ok : Nat → Prop) (w w' : World) : Prop where
  os : w'.os = w.os
  tape : w'.tape = w.tape
  output : w'.output = w.output
  size : w.heap.size ≤ w'.heap.size
  block : ∀ k, k < w.heap.size → ok k → w'.heap[k]? = w.heap[k]?

theorem Kept.refl (ok : Nat → Prop) (w : World) : Kept ok w w := ⟨rfl, rfl, rfl, Nat.le_refl _, fun _ _ _ => rfl⟩
theorem Kept.trans {ok : Nat → Prop} {a b c : World} (h : Kept ok a b) (k : Kept ok b c) : Kept ok a c :=
  ⟨k.os.trans h.os, k.tape.trans h.tape, k.output.trans h.output, Nat.le_trans h.size k.size, fun i hi ho => (k.block i (Nat.lt_of_lt_of_le hi h.size) ho).trans (h.block i hi ho)⟩
theorem Kept.drew {ok : Nat → Prop} {a w : World} (h : Kept ok a w) : Kept ok a w.drew := ⟨h.os, h.tape, h.output, h.size, h.block⟩
theorem Kept.drewN {ok : Nat → Prop} {a w : World} (n : Nat) (h : Kept ok a w) : Kept ok a (w.drewN n) := ⟨h.os, h.tape, h.output, h.size, h.block⟩
theorem Kept.alloc {ok : Nat → Prop} {a w : World} (h : Kept ok a w) (o : Obj) : Kept ok a (w.alloc o) :=
  h.trans ⟨rfl, rfl, rfl, by simp, fun k hk _ => Below.heap_alloc _ _ _ hk⟩
theorem Kept.setCell {ok : Nat → Prop} {a w : World} (h : Kept ok a w) {p : Addr} (hp : p.block < a.heap.size → ¬ ok p.block) (u : Value) : Kept ok a (w.setCell p u) := by
  refine ⟨h.os, h.tape, h.output, by simpa [World.setCell] using h.size, fun k hk ho => ?_⟩
  rw [Below.heap_setCell _ _ _ _ (fun e => by subst e; exact hp hk ho)]
  exact h.block k hk ho
theorem Kept.mono {ok ok' : Nat → Prop} {a b : World} (h : Kept ok a b) (hi : ∀ k, k < a.heap.size → ok' k → ok k) : Kept ok' a b :=
  ⟨h.os, h.tape, h.output, h.size, fun k hk ho => h.block k hk (hi k hk ho)⟩
theorem Kept.below {ok : Nat → Prop} {a b : World} {B : Nat} (h : Kept ok a b) (hB : B ≤ a.heap.size) (hi : ∀ k, k < B → ok k) : Below B a b :=
  ⟨h.os, h.tape, h.output, h.size, fun k hk => h.block k (Nat.lt_of_lt_of_le hk hB) (hi k hk)⟩
theorem kept_of_below {ok : Nat → Prop} {a b : World} {B : Nat} (h : Below B a b) (hi : ∀ k, k < a.heap.size → ok k → k < B) : Kept ok a b :=
  ⟨h.os, h.tape, h.output, h.size, fun k hk ho => h.block k (hi k hk ho)⟩

theorem lt_of_block {w : World} {b : Nat} {o : Obj} (h : w.heap[b]? = some o) : b < w.heap.size := by
  rcases Nat.lt_or_ge b w.heap.size with h' | h'
  · exact h'
  · rw [Array.getElem?_eq_none h'] at h; cases h

theorem lt_of_cell {w : World} {a : Addr} {v : Value} (h : w.cell? a = some v) : a.block < w.heap.size := by
  rcases Nat.lt_or_ge a.block w.heap.size with h' | h'
  · exact h'
  · simp [World.cell?, Array.getElem?_eq_none h'] at h

theorem cell_of_block {w w' : World} {a : Addr} (h : w'.heap[a.block]? = w.heap[a.block]?) : w'.cell? a = w.cell? a := by
  simp only [World.cell?, h]

theorem blk_cell {w : World} {b : Nat} {cs : Array Value} {T : TypeId} (h : w.heap[b]? = some (.cells cs T (0, 0))) (o : Nat) : w.cell? ⟨b, o, none⟩ = cs[o]? := by simp [World.cell?, h]
theorem blk_fz {w : World} {b : Nat} {cs : Array Value} {T : TypeId} (h : w.heap[b]? = some (.cells cs T (0, 0))) (o : Nat) : w.frozen? ⟨b, o, none⟩ = false := by simp [World.frozen?, h]
/-- A block of three cells, as the walk wants it. -/
theorem blk3 {w : World} {b : Nat} {c0 c1 c2 : Value} {T : TypeId} (h : w.heap[b]? = some (.cells #[c0, c1, c2] T (0, 0))) : w.cell? ⟨b, 0, none⟩ = some c0 ∧ w.cell? ⟨b, 1, none⟩ = some c1 ∧ w.cell? ⟨b, 2, none⟩ = some c2 ∧ w.frozen? ⟨b, 0, none⟩ = false ∧ w.frozen? ⟨b, 1, none⟩ = false ∧ w.frozen? ⟨b, 2, none⟩ = false :=
  ⟨blk_cell h 0, blk_cell h 1, blk_cell h 2, blk_fz h 0, blk_fz h 1, blk_fz h 2⟩
theorem blk2 {w : World} {b : Nat} {c0 c1 : Value} {T : TypeId} (h : w.heap[b]? = some (.cells #[c0, c1] T (0, 0))) : w.cell? ⟨b, 0, none⟩ = some c0 ∧ w.cell? ⟨b, 1, none⟩ = some c1 ∧ w.frozen? ⟨b, 0, none⟩ = false ∧ w.frozen? ⟨b, 1, none⟩ = false :=
  ⟨blk_cell h 0, blk_cell h 1, blk_fz h 0, blk_fz h 1⟩
theorem blk_new (w : World) (o : Obj) : (w.alloc o).heap[w.heap.size]? = some o := by
  show (w.heap.push o)[w.heap.size]? = _
  simp

/-! ### Formulas in memory -/
mutual
def Rep (w : World) (ok : Nat → Prop) : Fm → Value → Prop
  | .mk k n ks, v => ∃ sl cap, v = .agg #[.int .i64 k, .string n, .slice sl ks.length cap] ∧ n.size ≤ maxLen ∧ ks.length ≤ cap ∧ cap ≤ maxLen ∧ (ks ≠ [] → ∃ b off, sl = some ⟨b, off, none⟩ ∧ ok b ∧ Reps w ok b off ks)
def Reps (w : World) (ok : Nat → Prop) (b : Nat) : Nat → List Fm → Prop
  | _, [] => True
  | off, f :: fs => (∃ c0 c1 c2, w.cell? ⟨b, off, none⟩ = some c0 ∧ w.cell? ⟨b, off + 1, none⟩ = some c1 ∧ w.cell? ⟨b, off + 2, none⟩ = some c2 ∧ Rep w ok f (.agg #[c0, c1, c2])) ∧ Reps w ok b (off + 3) fs
end

theorem Rep.def {w : World} {ok : Nat → Prop} {k : Int} {n : ByteArray} {ks : List Fm} {v : Value} : Rep w ok (.mk k n ks) v ↔ ∃ sl cap, v = .agg #[.int .i64 k, .string n, .slice sl ks.length cap] ∧ n.size ≤ maxLen ∧ ks.length ≤ cap ∧ cap ≤ maxLen ∧ (ks ≠ [] → ∃ b off, sl = some ⟨b, off, none⟩ ∧ ok b ∧ Reps w ok b off ks) := by
  rw [Rep]

theorem Reps.nil {w : World} {ok : Nat → Prop} {b off : Nat} : Reps w ok b off [] := by rw [Reps]; trivial

theorem Reps.cons {w : World} {ok : Nat → Prop} {b off : Nat} {f : Fm} {fs : List Fm} : Reps w ok b off (f :: fs) ↔ (∃ c0 c1 c2, w.cell? ⟨b, off, none⟩ = some c0 ∧ w.cell? ⟨b, off + 1, none⟩ = some c1 ∧ w.cell? ⟨b, off + 2, none⟩ = some c2 ∧ Rep w ok f (.agg #[c0, c1, c2])) ∧ Reps w ok b (off + 3) fs := by
  rw [Reps]

mutual
theorem Rep.keep {w w' : World} {ok ok' : Nat → Prop} (hc : ∀ a : Addr, ok a.block → a.block < w.heap.size → w'.cell? a = w.cell? a) (hi : ∀ k, k < w.heap.size → ok k → ok' k) :
    ∀ (f : Fm) (v : Value), Rep w ok f v → Rep w' ok' f v
  | .mk k n ks, v, h => by
    rw [Rep.def] at h ⊢
    obtain ⟨sl, cap, hv, hn, hl, hc', hk⟩ := h
    refine ⟨sl, cap, hv, hn, hl, hc', fun hne => ?_⟩
    obtain ⟨b, off, hsl, hb, hr⟩ := hk hne
    have hlt : b < w.heap.size := by
      cases ks with
      | nil => exact absurd rfl hne
      | cons g gs =>
        obtain ⟨⟨c0, _, _, h0, _⟩, _⟩ := Reps.cons.1 hr
        exact lt_of_cell h0
    exact ⟨b, off, hsl, hi b hlt hb, Reps.keep hc hi hb hlt off ks hr⟩
theorem Reps.keep {w w' : World} {ok ok' : Nat → Prop} (hc : ∀ a : Addr, ok a.block → a.block < w.heap.size → w'.cell? a = w.cell? a) (hi : ∀ k, k < w.heap.size → ok k → ok' k) {b : Nat} (hb : ok b) (hlt : b < w.heap.size) :
    ∀ (off : Nat) (fs : List Fm), Reps w ok b off fs → Reps w' ok' b off fs
  | _, [], _ => Reps.nil
  | off, f :: fs, h => by
    rw [Reps.cons] at h ⊢
    obtain ⟨⟨c0, c1, c2, h0, h1, h2, hr⟩, hrs⟩ := h
    exact ⟨⟨c0, c1, c2, by rw [hc _ hb hlt]; exact h0, by rw [hc _ hb hlt]; exact h1, by rw [hc _ hb hlt]; exact h2, Rep.keep hc hi f _ hr⟩, Reps.keep hc hi hb hlt (off + 3) fs hrs⟩
end

theorem Rep.kept {w w' : World} {ok : Nat → Prop} {f : Fm} {v : Value} (h : Rep w ok f v) (hk : Kept ok w w') : Rep w' ok f v :=
  Rep.keep (fun _ ha hlt => cell_of_block (hk.block _ hlt ha)) (fun _ _ h => h) f v h
theorem Reps.kept {w w' : World} {ok : Nat → Prop} {b off : Nat} {fs : List Fm} (h : Reps w ok b off fs) (hb : ok b) (hk : Kept ok w w') : Reps w' ok b off fs := by
  cases fs with
  | nil => exact Reps.nil
  | cons f fs =>
    have hlt : b < w.heap.size := by
      obtain ⟨⟨c0, _, _, h0, _⟩, _⟩ := Reps.cons.1 h
      exact lt_of_cell h0
    exact Reps.keep (fun _ ha hlt => cell_of_block (hk.block _ hlt ha)) (fun _ _ h => h) hb hlt off _ h

/-- The i-th of the kids. -/
theorem Reps.get {w : World} {ok : Nat → Prop} {b : Nat} : ∀ {off : Nat} {fs : List Fm} (_ : Reps w ok b off fs) (i : Nat) (f : Fm) (_ : fs[i]? = some f),
    ∃ c0 c1 c2, w.cell? ⟨b, off + i * 3, none⟩ = some c0 ∧ w.cell? ⟨b, off + i * 3 + 1, none⟩ = some c1 ∧ w.cell? ⟨b, off + i * 3 + 2, none⟩ = some c2 ∧ Rep w ok f (.agg #[c0, c1, c2])
  | off, [], _, i, f, hf => by simp at hf
  | off, g :: gs, h, i, f, hf => by
    obtain ⟨h1, h2⟩ := Reps.cons.1 h
    cases i with
    | zero => simp at hf; subst hf; simpa using h1
    | succ i =>
      have := Reps.get h2 i f (by simpa using hf)
      have e : off + 3 + i * 3 = off + (i + 1) * 3 := by omega
      rwa [e] at this

/-- .. with its parts shown. -/
theorem Reps.at {w : World} {ok : Nat → Prop} {b off : Nat} {fs : List Fm} (h : Reps w ok b off fs) (i : Nat) (k : Int) (n : ByteArray) (ks : List Fm) (hf : fs[i]? = some (.mk k n ks)) :
    ∃ sl cap, w.cell? ⟨b, off + i * 3, none⟩ = some (.int .i64 k) ∧ w.cell? ⟨b, off + i * 3 + 1, none⟩ = some (.string n) ∧ w.cell? ⟨b, off + i * 3 + 2, none⟩ = some (.slice sl ks.length cap) ∧ Rep w ok (.mk k n ks) (.agg #[.int .i64 k, .string n, .slice sl ks.length cap]) := by
  obtain ⟨c0, c1, c2, h0, h1, h2, hr⟩ := h.get i _ hf
  obtain ⟨sl, cap, hv, hr'⟩ := Rep.def.1 hr
  simp only [Value.agg.injEq, Array.mk.injEq, List.cons.injEq, and_true] at hv
  obtain ⟨rfl, rfl, rfl⟩ := hv
  exact ⟨sl, cap, h0, h1, h2, hr⟩

theorem Rep.leaf {w : World} {ok : Nat → Prop} {k : Int} {n : ByteArray} (h : n.size ≤ maxLen) : Rep w ok (.mk k n []) (.agg #[.int .i64 k, .string n, .slice none 0 0]) :=
  Rep.def.2 ⟨none, 0, rfl, h, by simp, by simp, fun h => absurd rfl h⟩

/-! ### The reader's block -/
def RS (br : Nat) (w : World) (t : ByteArray) (a n : Nat) : Prop := w.heap[br]? = some (.cells #[.string t, .int .i64 a, .int .i64 n] 82 (0, 0))

theorem RS.lt {br : Nat} {w : World} {t : ByteArray} {a n : Nat} (h : RS br w t a n) : br < w.heap.size := lt_of_block h
theorem RS.c0 {br : Nat} {w : World} {t : ByteArray} {a n : Nat} (h : RS br w t a n) : w.cell? ⟨br, 0, none⟩ = some (.string t) := by unfold RS at h; simp [World.cell?, h]
theorem RS.c1 {br : Nat} {w : World} {t : ByteArray} {a n : Nat} (h : RS br w t a n) : w.cell? ⟨br, 1, none⟩ = some (.int .i64 a) := by unfold RS at h; simp [World.cell?, h]
theorem RS.c2 {br : Nat} {w : World} {t : ByteArray} {a n : Nat} (h : RS br w t a n) : w.cell? ⟨br, 2, none⟩ = some (.int .i64 n) := by unfold RS at h; simp [World.cell?, h]
theorem RS.fz {br : Nat} {w : World} {t : ByteArray} {a n : Nat} (h : RS br w t a n) (o : Nat) : w.frozen? ⟨br, o, none⟩ = false := by unfold RS at h; simp [World.frozen?, h]
theorem RS.drew {br : Nat} {w : World} {t : ByteArray} {a n : Nat} (h : RS br w t a n) : RS br w.drew t a n := h
theorem RS.drewN {br : Nat} {w : World} {t : ByteArray} {a n : Nat} (h : RS br w t a n) (k : Nat) : RS br (w.drewN k) t a n := h
theorem RS.alloc {br : Nat} {w : World} {t : ByteArray} {a n : Nat} (h : RS br w t a n) (o : Obj) : RS br (w.alloc o) t a n := by
  unfold RS; rw [Below.heap_alloc _ _ _ h.lt]; exact h
theorem RS.set1 {br : Nat} {w : World} {t : ByteArray} {a n : Nat} (h : RS br w t a n) (a' : Nat) : RS br (w.setCell ⟨br, 1, none⟩ (.int .i64 a')) t a' n := by
  unfold RS at *; simp [World.setCell, Array.getElem?_modify, h]
theorem RS.set2 {br : Nat} {w : World} {t : ByteArray} {a n : Nat} (h : RS br w t a n) (n' : Nat) : RS br (w.setCell ⟨br, 2, none⟩ (.int .i64 n')) t a n' := by
  unfold RS at *; simp [World.setCell, Array.getElem?_modify, h]

theorem RS.other {br : Nat} {w : World} {t : ByteArray} {a n : Nat} (h : RS br w t a n) {p : Addr} (hp : p.block ≠ br) (v : Value) : RS br (w.setCell p v) t a n := by
  unfold RS; rw [Below.heap_setCell _ _ _ _ (Ne.symm hp)]; exact h
theorem RS.below {br : Nat} {w w' : World} {t : ByteArray} {a n : Nat} (h : RS br w t a n) (hb : Below w.heap.size w w') : RS br w' t a n := by
  unfold RS; rw [hb.block _ h.lt]; exact h

/-- From place a on the text reads l. -/
def At (t : ByteArray) (a : Nat) (l : List UInt8) : Prop := a ≤ t.size ∧ t.data.toList.drop a = l

theorem At.len {t : ByteArray} {a : Nat} {l : List UInt8} (h : At t a l) : a + l.length = t.size := by
  obtain ⟨h1, h2⟩ := h
  have e : t.data.toList.length = t.size := Array.length_toList
  rw [← h2, List.length_drop, e]; omega
theorem At.cons {t : ByteArray} {a : Nat} {c : UInt8} {l : List UInt8} (h : At t a (c :: l)) : At t (a + 1) l := by
  have := h.len
  refine ⟨by simp at this; omega, ?_⟩
  rw [← List.drop_drop, h.2]; rfl
theorem At.drop {t : ByteArray} {a : Nat} {l : List UInt8} (h : At t a l) (k : Nat) (hk : k ≤ l.length) : At t (a + k) (l.drop k) := by
  have := h.len
  refine ⟨by omega, ?_⟩
  rw [← List.drop_drop, h.2]
theorem At.head {t : ByteArray} {a : Nat} {c : UInt8} {l : List UInt8} (h : At t a (c :: l)) (hlt : a < t.size) : t[a] = c := by
  have h2 := h.2
  have e : t.data.toList.length = t.size := Array.length_toList
  rw [List.drop_eq_getElem_cons (by omega)] at h2
  have := (List.cons.inj h2).1
  rw [← this]; rfl
end Go.Proofs.Ytknngeojhiejnaa
/- Walks: the reader's small steps. -/
namespace Go.Proofs.Ytknngeojhiejnaa
open Go.RowKit

theorem At.slice {t : ByteArray} {a : Nat} {l : List UInt8} (h : At t a l) : (t.extract a t.size).data.toList = l := by
  rw [← h.2, ByteArray.data_extract, Array.toList_extract, ← ByteArray.size_data, ← Array.length_toList, List.extract_eq_take_drop, List.take_of_length_le (by simp)]

set_option maxHeartbeats 1000000 in
theorem skip_any (br : Nat) (t : ByteArray) (ht : t.size ≤ 20000) (n : Nat) (w : World) (a : Nat) (l : List UInt8) (ha : At t a l) (h : RS br w t a n) :
    Calls Try.prog 84 #[.pointer (some ⟨br, 0, none⟩)] w fun e w' => e = .returned (.tuple #[]) ∧ (∃ a', At t a' (skipB l) ∧ RS br w' t a' n) ∧ Kept (· ≠ br) w w' := by
  go_enter Try.func84, Try.ntmps84
  go_wp2
  go_loopg [] l.length (fun k wr => ∃ a' l', At t a' l' ∧ l'.length = k ∧ skipB l' = skipB l ∧ RS br wr t a' n ∧ Kept (· ≠ br) w wr)
  case atStart => exact ⟨a, l, ha, rfl, rfl, h, Kept.refl _ _⟩
  case round =>
    obtain ⟨a', l', ha', hl', hsk, hrs, hkept⟩ := hrel
    have hlen := ha'.len
    have f0 := hrs.c0
    have f1 := hrs.c1
    have f2 := hrs.fz 1
    have HS : Hid (skipB l' = skipB l) := hsk
    clear hsk
    have HA : Hid (At t a' l') := ha'
    clear ha'
    have HR : Hid (RS br wr t a' n) := hrs
    clear hrs
    have HL : Hid (l'.length = gk) := hl'
    clear hl'
    cases l' with
    | nil =>
      simp at hlen
      have hd : decide ((a' : Int) < (t.size : Int)) = false := by simp; omega
      go_wp2
      go_quiet (fail)
      go_wp2
      go_end0
      exact ⟨rfl, ⟨a', by rw [← HS.out]; exact HA.out, HR.out⟩, hkept.drewN _⟩
    | cons c l' =>
      simp at hlen
      have hlt : (a' : Int) < (t.size : Int) := by omega
      have hlt' : a' < t.size := by omega
      have hhd : t[a'] = c := HA.out.head hlt'
      have hl1 : (t.size : Int) ≤ 20000 := by omega
      by_cases h1 : blank c
      · have hx : ((t[a'].toNat : Int) = 32) ∨ ((t[a'].toNat : Int) = 10) := by
          rw [hhd]; simp only [blank, Bool.or_eq_true, beq_iff_eq] at h1
          rcases h1 with h | h <;> subst h
          · left; rfl
          · right; rfl
        have HN : Hid (At t (a' + 1) l' ∧ skipB l' = skipB l) := ⟨HA.out.cons, by rw [← HS.out, skipB, if_pos h1]⟩
        clear hhd h1
        rcases hx with hx | hx
        all_goals
          go_wp2
          go_quiet (fail)
          go_wp2
          go_roundg l'.length
          case measure => have := HL.out; simp at this; omega
          case rel => exact ⟨a' + 1, l', HN.out.1, rfl, HN.out.2, (HR.out.set1 (a' + 1)).drewN _, (hkept.drewN _).setCell (by simp) _⟩
      · have hx : ¬ ((t[a'].toNat : Int) = 32) := by
          rw [hhd]; intro h; apply h1; have : c = 32 := UInt8.toNat_inj.1 (by simpa using (Int.ofNat.inj h)); simp [blank, this]
        have hy : ¬ ((t[a'].toNat : Int) = 10) := by
          rw [hhd]; intro h; apply h1; have : c = 10 := UInt8.toNat_inj.1 (by simpa using (Int.ofNat.inj h)); simp [blank, this]
        have hx' : ((t[a'].toNat : Int) == 32) = false := by simpa using hx
        have hy' : ((t[a'].toNat : Int) == 10) = false := by simpa using hy
        have HN : Hid (At t a' (c :: l') ∧ c :: l' = skipB l) := ⟨HA.out, by rw [← HS.out, skipB, if_neg h1]⟩
        clear hhd h1
        go_wp2
        go_quiet (fail)
        go_wp2
        go_end0
        exact ⟨rfl, ⟨a', by rw [← HN.out.2]; exact HN.out.1, HR.out⟩, hkept.drewN _⟩
end Go.Proofs.Ytknngeojhiejnaa
/- Walks: the reader's small steps, two. -/
namespace Go.Proofs.Ytknngeojhiejnaa
open Go.RowKit

theorem ret_int {k : IntKind} {a b : Int} (h : a = b) : Ending.returned (.int k a) = .returned (.int k b) := by rw [h]
theorem ret_bool {a b : Bool} (h : a = b) : Ending.returned (.bool a) = .returned (.bool b) := by rw [h]

theorem pre_any {s p : ByteArray} {b : Bool} (h : Lib.hasPrefix s.data.toList p.data.toList = b) (w : World) :
    Calls Try.prog 132 #[.string s, .string p] w fun e w' => e = .returned (.bool b) ∧ w' = w := by
  subst h; exact Try.strings_HasPrefix s p w

set_option maxHeartbeats 1000000 in
theorem take_yes (br : Nat) (t s : ByteArray) (ht : t.size ≤ 20000) (hs : s.size ≤ 10) (n : Nat) (w : World) (a : Nat) (l r : List UInt8) (ha : At t a l) (h : RS br w t a n) (htk : takeS s.data.toList l = some r) :
    Calls Try.prog 108 #[.pointer (some ⟨br, 0, none⟩), .string s] w fun e w' => e = .returned (.bool true) ∧ (∃ a', At t a' r ∧ RS br w' t a' n) ∧ Kept (· ≠ br) w w' := by
  have HT : Hid (Lib.hasPrefix (skipB l) s.data.toList = true ∧ (skipB l).drop s.size = r ∧ s.size ≤ (skipB l).length) := by
    unfold takeS at htk
    split at htk
    · rename_i hp
      have := List.IsPrefix.length_le (List.isPrefixOf_iff_prefix.1 hp)
      rw [show s.data.toList.length = s.size from Array.length_toList] at htk this
      exact ⟨hp, Option.some.inj htk, this⟩
    · cases htk
  clear htk
  go_enter Try.func108, Try.ntmps108
  go_wp2_with (go_at_call 84; refine (skip_any br t ht n _ a l ha h).mono ?_; rintro e w1 ⟨rfl, ⟨a1, ha1, hr1⟩, hk1⟩)
  have f0 := hr1.c0
  have f1 := hr1.c1
  have f2 := hr1.fz 1
  have hlen := ha1.len
  have hle : (a1 : Int) ≤ (t.size : Int) := by omega
  have hl1 : (t.size : Int) ≤ 20000 := by omega
  have hl2 : (s.size : Int) ≤ 10 := by omega
  have HA : Hid (At t a1 (skipB l)) := ha1
  clear ha1 ha
  have hp := pre_any (s := t.extract a1 t.size) (p := s) (b := true) (by rw [HA.out.slice]; exact HT.out.1)
  go_quiet ((go_at_call 132; exact Calls.quiet_of_same (hp _)))
  clear hp
  go_wp2
  go_ret
  refine ⟨rfl, ⟨a1 + s.size, ?_, ?_⟩, ?_⟩
  · rw [← HT.out.2.1]; exact HA.out.drop _ HT.out.2.2
  · exact (hr1.set1 (a1 + s.size)).drewN _
  · exact (hk1.drewN _).setCell (by simp) _

set_option maxHeartbeats 1000000 in
theorem take_no (br : Nat) (t s : ByteArray) (ht : t.size ≤ 20000) (n : Nat) (w : World) (a : Nat) (l : List UInt8) (ha : At t a l) (h : RS br w t a n) (htk : takeS s.data.toList l = none) :
    Calls Try.prog 108 #[.pointer (some ⟨br, 0, none⟩), .string s] w fun e w' => e = .returned (.bool false) ∧ (∃ a', At t a' (skipB l) ∧ RS br w' t a' n) ∧ Kept (· ≠ br) w w' := by
  have HT : Hid (Lib.hasPrefix (skipB l) s.data.toList = false) := by
    unfold takeS at htk
    split at htk
    · cases htk
    · rename_i hp; exact Bool.eq_false_iff.2 hp
  clear htk
  go_enter Try.func108, Try.ntmps108
  go_wp2_with (go_at_call 84; refine (skip_any br t ht n _ a l ha h).mono ?_; rintro e w1 ⟨rfl, ⟨a1, ha1, hr1⟩, hk1⟩)
  have f0 := hr1.c0
  have f1 := hr1.c1
  have hlen := ha1.len
  have hle : (a1 : Int) ≤ (t.size : Int) := by omega
  have hl1 : (t.size : Int) ≤ 20000 := by omega
  have HA : Hid (At t a1 (skipB l)) := ha1
  clear ha1 ha
  have hp := pre_any (s := t.extract a1 t.size) (p := s) (b := false) (by rw [HA.out.slice]; exact HT.out)
  go_quiet ((go_at_call 132; exact Calls.quiet_of_same (hp _)))
  clear hp
  go_wp2
  go_ret
  exact ⟨rfl, ⟨a1, HA.out, hr1.drewN _⟩, hk1.drewN _⟩

set_option maxHeartbeats 1000000 in
theorem letters_any (s : ByteArray) (hs : s.size ≤ maxLen) (w : World) :
    Calls Try.prog 91 #[.string s] w fun e w' => e = .returned (.int .i64 (letters s.data.toList).length) ∧ w' = w := by
  unfold maxLen at hs
  go_enter Try.func91, Try.ntmps91
  go_wp2
  go_loop [3] (fun v => ∃ k l, At s k l ∧ v = .int .i64 (k : Nat) ∧ (letters s.data.toList).length = k + (letters l).length) (fun v => s.size - (intOf v).toNat)
  case atStart => exact ⟨0, s.data.toList, ⟨Nat.zero_le _, by simp⟩, rfl, by simp⟩
  case round =>
    obtain ⟨k, l, ha, rfl, hl⟩ := hrel
    have hlen := ha.len
    have HL : Hid (At s k l ∧ (letters s.data.toList).length = k + (letters l).length) := ⟨ha, hl⟩
    clear ha hl
    cases l with
    | nil =>
      simp at hlen
      have hd : decide ((k : Int) < (s.size : Int)) = false := by simp; omega
      go_wp2
      go_ret
      exact ⟨ret_int (by have := HL.out.2; simp only [letters, List.length_nil] at this; omega), rfl⟩
    | cons c l =>
      simp at hlen
      have hlt' : k < s.size := by omega
      have hlt : (k : Int) < (s.size : Int) := by omega
      have hhd : s[k] = c := HL.out.1.head hlt'
      by_cases hc : lower c
      · have hx : (97 : Int) ≤ (s[k].toNat : Int) := by rw [hhd]; simp [lower] at hc; omega
        have hy : (s[k].toNat : Int) ≤ 122 := by rw [hhd]; simp [lower] at hc; omega
        have HN : Hid (At s (k + 1) l ∧ (letters s.data.toList).length = (k + 1) + (letters l).length) := ⟨HL.out.1.cons, by rw [HL.out.2, letters, if_pos hc]; simp; omega⟩
        clear hhd hc
        go_wp2
        go_round
        case rel => exact ⟨k + 1, l, HN.out.1, by go_num, HN.out.2⟩
        case measure => simp [intOf]; omega
      · have hx : ¬ ((97 : Int) ≤ (s[k].toNat : Int) ∧ (s[k].toNat : Int) ≤ 122) := by rw [hhd]; simp [lower] at hc; omega
        have HN : Hid ((letters s.data.toList).length = k) := by show _ = _; rw [HL.out.2, letters, if_neg hc]; rfl
        clear hhd hc
        go_wp2
        all_goals
          go_ret
          exact ⟨ret_int (by have := HN.out; omega), rfl⟩

set_option maxHeartbeats 1000000 in
theorem isName_any (s : ByteArray) (hs : s.size ≤ maxLen) (w : World) :
    Calls Try.prog 60 #[.string s] w fun e w' => e = .returned (.bool (isNm s.data.toList)) ∧ w' = w := by
  have hsz : s.data.toList.length = s.size := Array.length_toList
  have hlt := letters_length s.data.toList
  have HB : Hid (s.data.toList.length = s.size) := hsz
  rw [hsz] at hlt
  unfold maxLen at hs
  have hc := letters_any s (by unfold maxLen; exact hs)
  go_enter Try.func60, Try.ntmps60
  go_wp2_with (go_at_call 91; refine (hc _).mono ?_; rintro e w1 ⟨rfl, rfl⟩)
  all_goals
    go_ret
    refine ⟨ret_bool ?_, rfl⟩
  · rename_i hh
    rw [ByteArray.toList_eq] at hh
    simp [isNm, hh]
  · rename_i h1 h2
    rw [ByteArray.toList_eq] at h1 ⊢
    have h3 : s.data.toList.length ≤ 8 := by have := HB.out; omega
    rw [← HB.out]
    simp only [isNm, h3, decide_true, Bool.and_true, List.isEmpty_eq_false_iff.2 h1, Bool.not_false, Bool.true_and, ne_eq, h1, not_false_eq_true]
    rw [Bool.eq_iff_iff]; simp; omega
  · rename_i h1 h2
    have h3 : ¬ s.data.toList.length ≤ 8 := by have := HB.out; omega
    simp only [isNm, h3, decide_false, Bool.and_false, Bool.false_and]

/-- The panic that a fault is. -/
def stopC (code at_ : Int) : List PanicEntry := [{ v := .iface 111 (.agg #[.int .i64 code, .int .i64 at_]), recovered := false }]

set_option maxHeartbeats 400000 in
theorem stop_any (code at_ : Int) (w : World) :
    Calls Try.prog 78 #[.int .i64 code, .int .i64 at_] w fun e w' => e = .panicked (stopC code at_) ∧ w' = w := by
  go_enter Try.func78, Try.ntmps78
  go_wp2
  exact ⟨rfl, rfl, rfl⟩

set_option maxHeartbeats 400000 in
theorem node_any (br : Nat) (kind : Int) (t : ByteArray) (a n : Nat) (sl : Option Addr) (len cap : Nat) (w : World) (h : RS br w t a n) (hn : n ≤ 20000) :
    Calls Try.prog 109 #[.pointer (some ⟨br, 0, none⟩), .int .i64 kind, .slice sl len cap] w fun e w' => e = .returned (.agg #[.int .i64 kind, .string ⟨#[]⟩, .slice sl len cap]) ∧ RS br w' t a (n + 1) ∧ Kept (· ≠ br) w w' := by
  have f2 := h.c2
  have f3 := h.fz 2
  have hb := h.lt
  have hn' : (n : Int) ≤ 20000 := by omega
  go_enter Try.func109, Try.ntmps109
  go_wp2
  refine bodyPost_ret (v := .agg #[.int .i64 kind, .string ⟨#[]⟩, .slice sl len cap]) (by simp [results, Try.results109, go_sem]) rfl ⟨rfl, ?_, ?_⟩
  · exact (h.set2 (n + 1)).alloc _
  · exact ((Kept.refl _ _).setCell (by simp) _).alloc _
end Go.Proofs.Ytknngeojhiejnaa
/- Walks: the reader's names. -/
namespace Go.Proofs.Ytknngeojhiejnaa
open Go.RowKit

set_option maxHeartbeats 400000 in
theorem clone_any (s : ByteArray) (w : World) (hlim : s.size ≤ 281474976710656) :
    Calls Try.prog 54 #[.string s] w fun e w' => e = .returned (.string s) ∧ Below w.heap.size w w' := by
  go_enter Try.func54, Try.ntmps54
  go_wp2_with (go_at_call 86; refine (Try.stringslite_Clone s _ hlim).mono ?_; rintro e w1 ⟨rfl, hb⟩)
  go_ret
  exact ⟨rfl, hb⟩

theorem letters_prefix (l : List UInt8) : letters l = l.take (letters l).length := by
  induction l with
  | nil => simp [letters]
  | cons c l ih => simp only [letters]; split; · simp; exact ih
                   · simp

theorem isNm_le {l : List UInt8} (h : isNm l = true) : l.length ≤ 8 := by
  simp [isNm] at h; omega

theorem take_data (x : ByteArray) (l : List UInt8) (k : Nat) (h : x.data.toList = l) : (x.extract 0 k).data.toList = l.take k := by
  rw [ByteArray.data_extract, Array.toList_extract, h, List.extract_eq_take_drop]; simp

set_option maxHeartbeats 1000000 in
theorem name_any (br : Nat) (t : ByteArray) (ht : t.size ≤ 20000) (n : Nat) (hn : n ≤ 20000) (w : World) (a : Nat) (l : List UInt8) (ha : At t a l) (h : RS br w t a n) (hnm : isNm (letters (skipB l)) = true) :
    Calls Try.prog 143 #[.pointer (some ⟨br, 0, none⟩)] w fun e w' => ∃ v, e = .returned v ∧ Rep w' (· ≠ br) (nmF (letters (skipB l))) v ∧ (∃ a', At t a' ((skipB l).drop (letters (skipB l)).length) ∧ RS br w' t a' (n + 1)) ∧ Kept (· ≠ br) w w' := by
  have hne : w.heap.size ≠ br := by have := h.lt; omega
  go_enter Try.func143, Try.ntmps143
  go_wp2_with (go_at_call 84; refine (skip_any br t ht n _ a l ha (h.alloc _)).mono ?_; rintro e w1 ⟨rfl, ⟨a1, ha1, hr1⟩, hk1⟩)
  have f0 := hr1.c0
  have f1 := hr1.c1
  have f2 := hr1.fz 1
  have hlen := ha1.len
  have hle : (a1 : Int) ≤ (t.size : Int) := by omega
  have hl1 : (t.size : Int) ≤ 20000 := by omega
  have HA : Hid (At t a1 (skipB l)) := ha1
  clear ha1 ha
  go_quiet (fail)
  have hle2 := letters_length (skipB l)
  have HS := HA.out.slice
  generalize hx : t.extract a1 t.size = x at HS ⊢
  have hxs : x.size = (skipB l).length := by rw [← HS]; exact Array.length_toList.symm
  have hlc := letters_any x (by unfold maxLen; omega)
  rw [HS] at hlc
  have hsn := take_data x _ (letters (skipB l)).length HS
  rw [← letters_prefix] at hsn
  have HX : Hid (t.extract a1 t.size = x ∧ x.data.toList = skipB l) := ⟨hx, HS⟩
  clear hx HS
  have b1 : ((letters (skipB l)).length : Int) ≤ (x.size : Int) := by omega
  have b2 : ((letters (skipB l)).length : Int) ≤ 8 := by have := isNm_le hnm; omega
  have hy0 : x.extract 0 (letters (skipB l)).length = ⟨(letters (skipB l)).toArray⟩ := by
    apply ByteArray.ext; apply Array.ext'; rw [hsn]
  have hys : (⟨(letters (skipB l)).toArray⟩ : ByteArray).size = (letters (skipB l)).length := by simp [ByteArray.size]
  clear hsn
  have hin := isName_any ⟨(letters (skipB l)).toArray⟩ (by unfold maxLen; omega)
  rw [show (⟨(letters (skipB l)).toArray⟩ : ByteArray).data.toList = letters (skipB l) from rfl, hnm] at hin
  have hcl := fun w => clone_any ⟨(letters (skipB l)).toArray⟩ w (by omega)
  generalize hlet : letters (skipB l) = lt at *
  go_wp2_with (first
    | (go_at_call 91; refine (hlc _).mono ?_; rintro e w2 ⟨rfl, rfl⟩)
    | (go_at_call 60; refine (hin _).mono ?_; rintro e w2 ⟨rfl, rfl⟩)
    | (go_at_call 109
       refine (node_any br 1 t (a1 + lt.length) n none 0 0 _ ((hr1.drewN _).set1 (a1 + lt.length)) hn).mono ?_
       rintro e w2 ⟨rfl, hr2, hk2⟩
       have q2 : w2.heap[w.heap.size]? = some (.cells #[.int .i64 0, .string ⟨#[]⟩, .slice none 0 0] 24 (0, 0)) := by
         rw [hk2.block _ (by have := hk1.size; simp at this; simp [World.setCell, World.drewN]; omega) hne, Below.heap_setCell _ _ _ _ hne]
         exact (hk1.block _ (by simp) hne).trans (blk_new _ _))
    | (go_at_call 54
       refine (hcl _).mono ?_
       rintro e w3 ⟨rfl, hb3⟩
       have z2 : w.heap.size < w2.heap.size := lt_of_block q2
       have q3 : w3.heap[w2.heap.size]? = some (.cells #[.int .i64 1, .string ⟨#[]⟩, .slice none 0 0] 24 (0, 0)) := by
         rw [hb3.block _ (by simp)]; exact blk_new _ _
       have q4 : w3.heap[w.heap.size]? = some (.cells #[.int .i64 0, .string ⟨#[]⟩, .slice none 0 0] 24 (0, 0)) := by
         rw [hb3.block _ (by simp; omega), Below.heap_alloc _ _ _ z2]; exact q2
       have q5 : ¬ w2.heap.size = w.heap.size := by omega
       have q6 : ¬ w.heap.size = w2.heap.size := by omega
       obtain ⟨g1, g2, g3, g4, g5, g6⟩ := blk3 q3
       obtain ⟨k1, k2, k3, k4, k5, k6⟩ := blk3 q4)
    | fail)
  refine bodyPost_ret (v := .agg #[.int .i64 1, .string ⟨lt.toArray⟩, .slice none 0 0]) (by simp [results, Try.results143, go_sem, k1, k2, k3]) rfl ⟨_, rfl, ?_, ⟨a1 + lt.length, ?_, ?_⟩, ?_⟩
  · rw [hlet]; exact Rep.leaf (by rw [hys]; unfold maxLen; omega)
  · rw [hlet]; exact HA.out.drop _ hle2
  · have hne2 : w2.heap.size ≠ br := by have := hr2.lt; omega
    exact (((((hr2.alloc _).below hb3).other hne2 _).other hne _).other hne _).other hne _
  · have k0 : Kept (· ≠ br) w w2 := ((((Kept.refl _ _).alloc _).trans hk1).drewN nq |>.setCell (by simp) _).trans hk2
    have k9 : Kept (· ≠ br) w w3 := (k0.alloc _).trans (kept_of_below hb3 (fun _ h _ => h))
    exact (((k9.setCell (fun h => by simp at h; omega) _).setCell (fun h => by simp at h) _).setCell (fun h => by simp at h) _).setCell (fun h => by simp at h) _

set_option maxHeartbeats 1000000 in
theorem name_bad (br : Nat) (t : ByteArray) (ht : t.size ≤ 20000) (n : Nat) (w : World) (a : Nat) (l : List UInt8) (ha : At t a l) (h : RS br w t a n) (hnm : isNm (letters (skipB l)) = false) :
    Calls Try.prog 143 #[.pointer (some ⟨br, 0, none⟩)] w fun e w' => ∃ a', e = .panicked (stopC 1 (a' : Nat)) ∧ At t a' (skipB l) ∧ Kept (· ≠ br) w w' := by
  have hne : w.heap.size ≠ br := by have := h.lt; omega
  go_enter Try.func143, Try.ntmps143
  go_wp2_with (go_at_call 84; refine (skip_any br t ht n _ a l ha (h.alloc _)).mono ?_; rintro e w1 ⟨rfl, ⟨a1, ha1, hr1⟩, hk1⟩)
  have f0 := hr1.c0
  have f1 := hr1.c1
  have f2 := hr1.fz 1
  have hlen := ha1.len
  have hle : (a1 : Int) ≤ (t.size : Int) := by omega
  have hl1 : (t.size : Int) ≤ 20000 := by omega
  have HA : Hid (At t a1 (skipB l)) := ha1
  clear ha1 ha
  go_quiet (fail)
  have hle2 := letters_length (skipB l)
  have HS := HA.out.slice
  generalize hx : t.extract a1 t.size = x at HS ⊢
  have hxs : x.size = (skipB l).length := by rw [← HS]; exact Array.length_toList.symm
  have hlc := letters_any x (by unfold maxLen; omega)
  rw [HS] at hlc
  have hsn := take_data x _ (letters (skipB l)).length HS
  rw [← letters_prefix] at hsn
  have HX : Hid (t.extract a1 t.size = x ∧ x.data.toList = skipB l) := ⟨hx, HS⟩
  clear hx HS
  have b1 : ((letters (skipB l)).length : Int) ≤ (x.size : Int) := by omega
  have hy0 : x.extract 0 (letters (skipB l)).length = ⟨(letters (skipB l)).toArray⟩ := by
    apply ByteArray.ext; apply Array.ext'; rw [hsn]
  have hys : (⟨(letters (skipB l)).toArray⟩ : ByteArray).size = (letters (skipB l)).length := by simp [ByteArray.size]
  clear hsn
  have hin := isName_any ⟨(letters (skipB l)).toArray⟩ (by unfold maxLen; omega)
  rw [show (⟨(letters (skipB l)).toArray⟩ : ByteArray).data.toList = letters (skipB l) from rfl, hnm] at hin
  generalize hlet : letters (skipB l) = lt at *
  go_wp2_with (first
    | (go_at_call 91; refine (hlc _).mono ?_; rintro e w2 ⟨rfl, rfl⟩)
    | (go_at_call 60; refine (hin _).mono ?_; rintro e w2 ⟨rfl, rfl⟩)
    | (go_at_call 78; refine (stop_any _ _ _).mono ?_; rintro e w3 ⟨rfl, rfl⟩)
    | fail)
  exact ⟨rfl, a1, rfl, HA.out, (((Kept.refl _ _).alloc _).trans hk1).drewN nq⟩
end Go.Proofs.Ytknngeojhiejnaa
