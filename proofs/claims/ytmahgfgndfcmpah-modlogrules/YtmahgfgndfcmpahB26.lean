/- Texts of one proof, one behind the other: MEA, MS8. -/
import Derived.Test.YtmahgfgndfcmpahB21
import Derived.Test.YtmahgfgndfcmpahB17
import Derived.RegionTactic
import Derived.Test.YtmahgfgndfcmpahB06
/- Calls of Eval in the laws: facts; an example of the document. -/
namespace Go.Proofs.Ytmahgfgndfcmpah
open Go.RowKit

def kR (F : Fm) : Value → World → Prop := fun v w => Rep w (fun _ => True) F v
theorem kR_stays (F : Fm) : Stays (kR F) := fun _ _ _ h hb => Rep.up h hb
end Go.Proofs.Ytmahgfgndfcmpah
/- The law ModalShapes, walked. -/
namespace Go.Proofs.Ytmahgfgndfcmpah
open Go.RowKit

/-- A new formula, zero. -/
def kZf (A : Nat) : Value → World → Prop := fun v w => ∃ b, v = .pointer (some ⟨b, 0, none⟩) ∧ A ≤ b ∧ w.heap[b]? = some (.cells #[.int .i64 0, .string ⟨#[]⟩, .slice none 0 0] 24 (0, 0))
theorem kZf_stays (A : Nat) : Stays (kZf A) := fun _ _ _ ⟨b, e, h1, h2⟩ hb => ⟨b, e, h1, below_keep hb h2⟩
theorem fine_kindM {k : Int} {n : ByteArray} {ks : List Fm} (h : Fine (.mk k n ks)) : k ≠ 0 := by
  rcases h.forms with ⟨m, e, -⟩ | e | e | ⟨k', g, h1, e, -⟩ | ⟨k', g, g', h1, e, -⟩
  all_goals
    cases e
    omega
/-- A zero block is no part of a formula that is fine. -/
theorem Rep.offZ {w : World} {P : Nat → Prop} {b : Nat} {T : TypeId} (hz : w.heap[b]? = some (.cells #[.int .i64 0, .string ⟨#[]⟩, .slice none 0 0] T (0, 0))) : ∀ {f : Fm} {v : Value}, Fine f → Rep w P f v → Rep w (fun c => P c ∧ c ≠ b) f v := by
  have key : ∀ (m : Nat) (f : Fm) (v : Value), f.size < m → Fine f → Rep w P f v → Rep w (fun c => P c ∧ c ≠ b) f v := by
    intro m
    induction m with
    | zero => intro f v h; exact absurd h (Nat.not_lt_zero _)
    | succ m ih =>
      intro f v hm hf hr; obtain ⟨k, n, ks⟩ := f; obtain ⟨sl, cap, h1, h2, h3, h4, h5⟩ := Rep.def.1 hr; (refine Rep.def.2 ⟨sl, cap, h1, h2, h3, h4, fun hne => ?_⟩); obtain ⟨c, off, h6, h7, h8⟩ := h5 hne
      have hks : ∀ (off : Nat) (fs : List Fm), (∀ g ∈ fs, g ∈ ks) → Reps w P c off fs → Reps w (fun c => P c ∧ c ≠ b) c off fs := by
        intro off fs
        induction fs generalizing off with
        | nil => intro _ _; exact Reps.nil
        | cons g gs ih2 =>
          intro hs hr; obtain ⟨⟨c0, c1, c2, a0, a1, a2, hg⟩, hgs⟩ := Reps.cons.1 hr; (have hgk := hs g (by simp)); obtain ⟨i, hi⟩ := List.getElem?_of_mem hgk; (refine Reps.cons.2 ⟨⟨c0, c1, c2, a0, a1, a2, ih g _ ?_ (hf.kid i g hi) hg⟩, ih2 _ (fun x hx => hs x (by simp [hx])) hgs⟩); have := kid_size (k := k) (n := n) hi; omega
      (refine ⟨c, off, h6, ⟨h7, fun e => ?_⟩, hks off ks (fun _ h => h) h8⟩); subst e; (obtain ⟨g, gs, rfl⟩ : ∃ g gs, ks = g :: gs := by cases ks with | nil => exact absurd rfl hne | cons g gs => exact ⟨g, gs, rfl⟩); obtain ⟨⟨c0, c1, c2, a0, a1, a2, hg⟩, -⟩ := Reps.cons.1 h8; obtain ⟨k', n', ks'⟩ := g; obtain ⟨sl', cap', e', -⟩ := Rep.def.1 hg; simp only [Value.agg.injEq, Array.mk.injEq, List.cons.injEq, and_true] at e'; obtain ⟨rfl, rfl, rfl⟩ := e'; rw [blk_cell hz] at a0; have hk0 := fine_kindM (hf.kid 0 (.mk k' n' ks') rfl)
      rcases off with _ | _ | _ | off
      · simp at a0; exact hk0 a0.symm
      · simp at a0
      · simp at a0
      · simp at a0
  intro f v hf hr; exact key (f.size + 1) f v (Nat.lt_succ_self _) hf hr
/-- A formula that is fine stays where a zero block is written. -/
theorem rep_put3 {w : World} {b : Nat} {T : TypeId} (hz : w.heap[b]? = some (.cells #[.int .i64 0, .string ⟨#[]⟩, .slice none 0 0] T (0, 0))) {f : Fm} {v : Value} (hf : Fine f) (hr : Rep w (fun _ => True) f v) (y0 y1 y2 : Value) : Rep (((w.setCell ⟨b, 0, none⟩ y0).setCell ⟨b, 1, none⟩ y1).setCell ⟨b, 2, none⟩ y2) (fun _ => True) f v := by
  have h1 := Rep.offZ hz hf hr; (have hk : Kept (fun c => True ∧ c ≠ b) w (((w.setCell ⟨b, 0, none⟩ y0).setCell ⟨b, 1, none⟩ y1).setCell ⟨b, 2, none⟩ y2) := (((Kept.refl _ w).setCell (p := ⟨b, 0, none⟩) (fun _ h => h.2 rfl) _).setCell (p := ⟨b, 1, none⟩) (fun _ h => h.2 rfl) _).setCell (p := ⟨b, 2, none⟩) (fun _ h => h.2 rfl) _); (exact (h1.kept hk).weak fun _ _ _ => trivial)
end Go.Proofs.Ytmahgfgndfcmpah
