/- Texts of one proof, one behind the other: BF1. -/
import Derived.Test.YtffkoiemnchdgafB09
import Derived.Test.YtffkoiemnchdgafB38
/- Regions that draw their order and end in a formula and a fault that are put into new variables. -/
namespace Go.Proofs.Ytffkoiemnchdgaf
open Go.RowKit

structure YG where
  g : World
  b4 : Nat
  b5 : Nat
  k : Int
  n : ByteArray
  ks : List Fm
  sl : Option Addr
  cp : Nat
def YG.x (y : YG) : Value := .agg #[.int .i64 y.k, .string y.n, .slice y.sl y.ks.length y.cp]
/-- A formula that no zero block is a part of. -/
def OffOk (D : Fm) : Prop := Fine D ∨ ∃ k n, D = .mk k n []
theorem Rep.off2 {w : World} {P : Nat → Prop} {b : Nat} {T : TypeId} (hz : w.heap[b]? = some (.cells #[.int .i64 0, .int .i64 0] T (0, 0))) : ∀ {f : Fm} {v : Value}, Fine f → Rep w P f v → Rep w (fun c => P c ∧ c ≠ b) f v := by
  have key : ∀ (m : Nat) (f : Fm) (v : Value), f.size < m → Fine f → Rep w P f v → Rep w (fun c => P c ∧ c ≠ b) f v := by
    intro m
    induction m with
    | zero => intro f v h; exact absurd h (Nat.not_lt_zero _)
    | succ m ih =>
      intro f v hm hf hr; obtain ⟨k, n, ks⟩ := f; obtain ⟨sl, cap, h1, h2, h3, h4, h5⟩ := Rep.def.1 hr; (refine Rep.def.2 ⟨sl, cap, h1, h2, h3, h4, fun hne => ?_⟩); obtain ⟨c, off, h6, h7, h8⟩ := h5 hne
      have hks : ∀ (off : Nat) (fs : List Fm), (∀ g ∈ fs, g ∈ ks) → Reps w P c off fs → Reps w (fun c => P c ∧ c ≠ b) c off fs := by
        intro off fs
        induction fs generalizing off with
        | nil => intro _ _; exact Reps.nil
        | cons g gs ih2 =>
          intro hs hr; obtain ⟨⟨c0, c1, c2, a0, a1, a2, hg⟩, hgs⟩ := Reps.cons.1 hr; (have hgk := hs g (by simp)); obtain ⟨i, hi⟩ := List.getElem?_of_mem hgk; (refine Reps.cons.2 ⟨⟨c0, c1, c2, a0, a1, a2, ih g _ ?_ (hf.kid i g hi) hg⟩, ih2 _ (fun x hx => hs x (by simp [hx])) hgs⟩); have := size_kid hgk (k := k) (n := n); omega
      (refine ⟨c, off, h6, ⟨h7, fun e => ?_⟩, hks off ks (fun _ h => h) h8⟩); subst e; (obtain ⟨g, gs, rfl⟩ : ∃ g gs, ks = g :: gs := by cases ks with | nil => exact absurd rfl hne | cons g gs => exact ⟨g, gs, rfl⟩); obtain ⟨⟨c0, c1, c2, a0, a1, a2, hg⟩, -⟩ := Reps.cons.1 h8; obtain ⟨k', n', ks'⟩ := g; obtain ⟨sl', cap', e', -⟩ := Rep.def.1 hg; simp only [Value.agg.injEq, Array.mk.injEq, List.cons.injEq, and_true] at e'; obtain ⟨rfl, rfl, rfl⟩ := e'; rw [blk_cell hz] at a0; have hk0 := fine_kind (hf.kid 0 (.mk k' n' ks') rfl)
      rcases off with _ | _ | off
      · simp at a0; exact hk0 a0.symm
      · simp at a0; exact hk0 a0.symm
      · simp at a0
  intro f v hf hr; exact key (f.size + 1) f v (Nat.lt_succ_self _) hf hr
theorem Rep.offB {w : World} {b4 b5 : Nat} {T T' : TypeId} {D : Fm} {v : Value} (hD : OffOk D) (h4 : w.heap[b4]? = some (.cells #[.int .i64 0, .string ⟨#[]⟩, .slice none 0 0] T (0, 0))) (h5 : w.heap[b5]? = some (.cells #[.int .i64 0, .int .i64 0] T' (0, 0))) (h : Rep w (fun _ => True) D v) : Rep w (fun c => c ≠ b4 ∧ c ≠ b5) D v := by
  rcases hD with hf | ⟨k, n, rfl⟩
  · exact (Rep.off2 h5 hf (Rep.off h4 hf h)).weak fun c _ hc => ⟨hc.1.2, hc.2⟩
  · obtain ⟨sl, cap, h1, h2, h3, h4, h5⟩ := Rep.def.1 h
    (exact Rep.def.2 ⟨sl, cap, h1, h2, h3, h4, fun hne => absurd rfl hne⟩)

/-- The state: what is added lies in the world y.g; the two stores are told by how the world differs from it. -/
structure St2 (W : World) (D : Fm) (fc fd : Int) (c4 c5 cc s4 s5 : Bool) (y : YG) (w : World) : Prop where
  below : Below W.heap.size W y.g
  z4 : c4 = true → W.heap.size ≤ y.b4 ∧ y.g.heap[y.b4]? = some (.cells #[.int .i64 0, .string ⟨#[]⟩, .slice none 0 0] 24 (0, 0))
  z5 : c5 = true → W.heap.size ≤ y.b5 ∧ y.g.heap[y.b5]? = some (.cells #[.int .i64 0, .int .i64 0] 29 (0, 0))
  rx : cc = true → D = .mk y.k y.n y.ks ∧ Rep y.g (fun _ => True) D y.x
  os : w.os = y.g.os ∧ w.tape = y.g.tape ∧ w.output = y.g.output ∧ w.heap.size = y.g.heap.size
  far : ∀ b, (s4 = true → b ≠ y.b4) → (s5 = true → b ≠ y.b5) → w.heap[b]? = y.g.heap[b]?
  at4 : s4 = true → w.heap[y.b4]? = some (.cells #[.int .i64 y.k, .string y.n, .slice y.sl y.ks.length y.cp] 24 (0, 0))
  at5 : s5 = true → w.heap[y.b5]? = some (.cells #[.int .i64 fc, .int .i64 fd] 29 (0, 0))
section
variable {W : World} {D : Fm} {fc fd : Int} {c4 c5 cc s4 s5 : Bool} {y : YG} {w w' : World}
theorem St2.init (h : Below W.heap.size W w) (h' : Below w.heap.size w W) (y : YG) (hy : y.g = W) : St2 W D fc fd false false false false false y w := by
  (have e : w.heap.size = W.heap.size := by have := h.size; have := h'.size; omega); (refine ⟨by rw [hy]; exact Below.refl _ _, (fun e => Bool.noConfusion e), (fun e => Bool.noConfusion e), (fun e => Bool.noConfusion e), by rw [hy]; exact ⟨h.os, h.tape, h.output, e⟩, (fun b _ _ => ?_), (fun e => Bool.noConfusion e), (fun e => Bool.noConfusion e)⟩); rw [hy]
  rcases Nat.lt_or_ge b W.heap.size with hb | hb
  · exact h.block b hb
  · rw [Array.getElem?_eq_none (by omega), Array.getElem?_eq_none (by omega)]
theorem St2.eqv (h : St2 W D fc fd c4 c5 cc false false y w) : Below y.g.heap.size y.g w := ⟨h.os.1, h.os.2.1, h.os.2.2.1, by have := h.os.2.2.2; omega, fun b _ => h.far b (fun e => Bool.noConfusion e) (fun e => Bool.noConfusion e)⟩
theorem St2.up (h : St2 W D fc fd c4 c5 cc false false y w) (hb : Below w.heap.size w w') : St2 W D fc fd c4 c5 cc false false { y with g := w' } w' := by
  have hg := below_join h.eqv hb; (exact ⟨below_join h.below hg, (fun e => ⟨(h.z4 e).1, below_keep hg (h.z4 e).2⟩), (fun e => ⟨(h.z5 e).1, below_keep hg (h.z5 e).2⟩), (fun e => ⟨(h.rx e).1, (h.rx e).2.up hg⟩), ⟨rfl, rfl, rfl, rfl⟩, (fun _ _ _ => rfl), (fun e => Bool.noConfusion e), (fun e => Bool.noConfusion e)⟩)
theorem St2.call (h : St2 W D fc fd c4 c5 cc false false y w) (hb : Below w.heap.size w w') {k : Int} {n : ByteArray} {ks : List Fm} {sl : Option Addr} {cp : Nat} (hD : D = .mk k n ks) (hr : Rep w' (fun _ => True) D (.agg #[.int .i64 k, .string n, .slice sl ks.length cp])) : St2 W D fc fd c4 c5 true false false { y with g := w', k := k, n := n, ks := ks, sl := sl, cp := cp } w' := by
  have hg := below_join h.eqv hb; (exact ⟨below_join h.below hg, (fun e => ⟨(h.z4 e).1, below_keep hg (h.z4 e).2⟩), (fun e => ⟨(h.z5 e).1, below_keep hg (h.z5 e).2⟩), (fun _ => ⟨hD, hr⟩), ⟨rfl, rfl, rfl, rfl⟩, (fun _ _ _ => rfl), (fun e => Bool.noConfusion e), (fun e => Bool.noConfusion e)⟩)
theorem St2.new4 (h : St2 W D fc fd c4 c5 cc false false y w) : St2 W D fc fd true c5 cc false false { y with g := w.alloc (.cells #[.int .i64 0, .string ⟨#[]⟩, .slice none 0 0] 24 (0, 0)), b4 := w.heap.size } (w.alloc (.cells #[.int .i64 0, .string ⟨#[]⟩, .slice none 0 0] 24 (0, 0))) := by
  have hb : Below w.heap.size w (w.alloc (.cells #[.int .i64 0, .string ⟨#[]⟩, .slice none 0 0] 24 (0, 0))) := (Below.refl _ _).alloc (Nat.le_refl _) _; have h' := h.up hb; have e := (below_join h.below h.eqv).size; (exact ⟨h'.below, (fun _ => ⟨e, blk_new w _⟩), h'.z5, h'.rx, ⟨rfl, rfl, rfl, rfl⟩, (fun _ _ _ => rfl), (fun e => Bool.noConfusion e), (fun e => Bool.noConfusion e)⟩)
theorem St2.new5 (h : St2 W D fc fd c4 c5 cc false false y w) : St2 W D fc fd c4 true cc false false { y with g := w.alloc (.cells #[.int .i64 0, .int .i64 0] 29 (0, 0)), b5 := w.heap.size } (w.alloc (.cells #[.int .i64 0, .int .i64 0] 29 (0, 0))) := by
  have hb : Below w.heap.size w (w.alloc (.cells #[.int .i64 0, .int .i64 0] 29 (0, 0))) := (Below.refl _ _).alloc (Nat.le_refl _) _; have h' := h.up hb; have e := (below_join h.below h.eqv).size; (exact ⟨h'.below, h'.z4, (fun _ => ⟨e, blk_new w _⟩), h'.rx, ⟨rfl, rfl, rfl, rfl⟩, (fun _ _ _ => rfl), (fun e => Bool.noConfusion e), (fun e => Bool.noConfusion e)⟩)
theorem St2.ne (h : St2 W D fc fd true true cc s4 s5 y w) : y.b4 ≠ y.b5 := fun e => by
  have h1 := (h.z4 rfl).2; rw [e, (h.z5 rfl).2] at h1; simp at h1
theorem St2.w4 (h : St2 W D fc fd true true cc false s5 y w) : w.heap[y.b4]? = some (.cells #[.int .i64 0, .string ⟨#[]⟩, .slice none 0 0] 24 (0, 0)) := (h.far _ (fun e => Bool.noConfusion e) fun _ => h.ne).trans (h.z4 rfl).2
theorem St2.w5 (h : St2 W D fc fd true true cc s4 false y w) : w.heap[y.b5]? = some (.cells #[.int .i64 0, .int .i64 0] 29 (0, 0)) := (h.far _ (fun _ e => h.ne e.symm) (fun e => Bool.noConfusion e)).trans (h.z5 rfl).2
theorem St2.put4 (h : St2 W D fc fd true true cc false s5 y w) : St2 W D fc fd true true cc true s5 y (((w.setCell ⟨y.b4, 0, none⟩ (.int .i64 y.k)).setCell ⟨y.b4, 1, none⟩ (.string y.n)).setCell ⟨y.b4, 2, none⟩ (.slice y.sl y.ks.length y.cp)) :=
  ⟨h.below, h.z4, h.z5, h.rx, ⟨h.os.1, h.os.2.1, h.os.2.2.1, by have := h.os.2.2.2; simp [World.setCell]; exact this⟩, fun b h4 h5 => (far3 (h4 rfl) _ _ _).trans (h.far b (fun e => Bool.noConfusion e) h5), fun _ => set3 h.w4 _ _ _, fun e => (far3 (fun e => h.ne e.symm) _ _ _).trans (h.at5 e)⟩
theorem St2.put5 (h : St2 W D fc fd true true cc s4 false y w) : St2 W D fc fd true true cc s4 true y ((w.setCell ⟨y.b5, 0, none⟩ (.int .i64 fc)).setCell ⟨y.b5, 1, none⟩ (.int .i64 fd)) :=
  ⟨h.below, h.z4, h.z5, h.rx, ⟨h.os.1, h.os.2.1, h.os.2.2.1, by have := h.os.2.2.2; simp [World.setCell]; exact this⟩, fun b h4 h5 => (far2 (h5 rfl) _ _).trans (h.far b h4 (fun e => Bool.noConfusion e)), fun e => (far2 h.ne _ _).trans (h.at4 e), fun _ => set2 h.w5 _ _⟩
/-- What is known behind the region. -/
structure End2 (W : World) (D : Fm) (fc fd : Int) (b4 b5 : Nat) (k : Int) (n : ByteArray) (ks : List Fm) (sl : Option Addr) (cp : Nat) (w : World) : Prop where
  below : Below W.heap.size W w
  l4 : W.heap.size ≤ b4
  l5 : W.heap.size ≤ b5
  eq : D = .mk k n ks
  at4 : w.heap[b4]? = some (.cells #[.int .i64 k, .string n, .slice sl ks.length cp] 24 (0, 0))
  at5 : w.heap[b5]? = some (.cells #[.int .i64 fc, .int .i64 fd] 29 (0, 0))
  rep : Rep w (fun c => c ≠ b4 ∧ c ≠ b5) D (.agg #[.int .i64 k, .string n, .slice sl ks.length cp])
theorem St2.fin (hD : OffOk D) (h : St2 W D fc fd true true true true true y w) : End2 W D fc fd y.b4 y.b5 y.k y.n y.ks y.sl y.cp w := by
  refine ⟨?_, (h.z4 rfl).1, (h.z5 rfl).1, (h.rx rfl).1, h.at4 rfl, h.at5 rfl, ?_⟩
  · refine ⟨h.os.1.trans h.below.os, h.os.2.1.trans h.below.tape, h.os.2.2.1.trans h.below.output, by have := h.os.2.2.2; have := h.below.size; omega, fun b hb => (h.far b (fun _ e => ?_) fun _ e => ?_).trans (h.below.block b hb)⟩
    · have := (h.z4 rfl).1; omega
    · have := (h.z5 rfl).1; omega
  · exact (Rep.offB hD (h.z4 rfl).2 (h.z5 rfl).2 (h.rx rfl).2).move fun b hl hp => ⟨h.far b (fun _ => hp.1) (fun _ => hp.2), hp⟩
end
/-- A formula, told by the state's world. -/
def gF (D : Fm) : FactG YG := fun y v _ => kF (fun _ => True) D v y.g
theorem gF_up {D : Fm} {y y' : YG} {w w' : World} (hb : Below y.g.heap.size y.g y'.g) (u : Value) (h : gF D y u w) : gF D y' u w' := kF_stays _ D u y.g y'.g h hb
def gS (l : List (List UInt8)) : FactG YG := fun y v _ => kS l v y.g
theorem gS_up {l : List (List UInt8)} {y y' : YG} {w w' : World} (hb : Below y.g.heap.size y.g y'.g) (u : Value) (h : gS l y u w) : gS l y' u w' := kS_stays l u y.g y'.g h hb
end Go.Proofs.Ytffkoiemnchdgaf
