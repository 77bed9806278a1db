/- Texts of one proof, one behind the other: CW4. -/
import Derived.Test.YtlmjnglcdgkomacB24
import Derived.Test.YtlmjnglcdgkomacB07
import Derived.Test.YtlmjnglcdgkomacB35
/- Walks: everywhere. -/
namespace Go.Proofs.Ytlmjnglcdgkomac
open Go.RowKit

theorem cons_len {n : Nat} {l : List Value} (h : l.length = n + 1) : ∃ v t, l = v :: t ∧ t.length = n := by
  cases l with
  | nil => cases h
  | cons v t => exact ⟨v, t, rfl, by simpa using h⟩
/-! Facts on the way through a region, with the blocks' makers. -/
def tEq (x : Value) : Fact := fun v _ _ => v = x
theorem tEq_stays (x : Value) : Stays3 (tEq x) := fun _ _ _ _ _ h _ _ => h
/-- Old blocks, and those that the operations ns made. -/
def tP (A S : Nat) (t : Nat → Nat) (ns : List Nat) : Nat → Prop := fun b => b < A ∨ (S ≤ b ∧ t b ∈ ns)
def tPtr (S n : Nat) (cs : Array Value) (T : TypeId) : Fact := fun v w t => ∃ g, v = .pointer (some ⟨g, 0, none⟩) ∧ w.heap[g]? = some (.cells cs T (0, 0)) ∧ S ≤ g ∧ t g = n
def tFL (A S : Nat) (ns : List Nat) (l : List Fm) : Fact := fun v w t => ∃ ad m cp, v = .slice ad m cp ∧ FLp (tP A S t ns) w (.slice ad m cp) l
theorem tP.up {A S : Nat} {t t' : Nat → Nat} {ns : List Nat} {b N : Nat} (h : tP A S t ns b) (ht : ∀ b, b < N → t' b = t b) (hb : b < N) : tP A S t' ns b := h.imp id fun h => ⟨h.1, by rw [ht b hb]; exact h.2⟩
theorem tPtr_stays (S n : Nat) (cs : Array Value) (T : TypeId) : Stays3 (tPtr S n cs T) := fun _ w _ _ _ h hb ht => by
  obtain ⟨g, hv, hh, h1, h2⟩ := h; (exact ⟨g, hv, below_keep hb hh, h1, by rw [ht g (lt_of_block hh)]; exact h2⟩)
theorem tFL_stays (A S : Nat) (ns : List Nat) (l : List Fm) : Stays3 (tFL A S ns l) := fun _ w _ _ _ h hb ht => by
  obtain ⟨ad, m, cp, hv, hf⟩ := h; (exact ⟨ad, m, cp, hv, hf.move fun b hb1 hp => ⟨hb.block b hb1, hp.up ht hb1⟩⟩)
/-! The same for lists of proofs. -/
def tKid (A S n : Nat) (p : Pf) : Fact := fun v w t => PRp (tP A S t [n]) w p v
theorem tKid_stays (A S n : Nat) (p : Pf) : Stays3 (tKid A S n p) := fun _ _ _ _ _ h hb ht => PRp.move h fun b hb1 hp => ⟨hb.block b hb1, hp.up ht hb1⟩
def tKF (P : Nat → Prop) (B : Nat) (ad : Option Addr) (cp i : Nat) (ps : List Pf) : Fact := fun v w _ => v = .slice ad i cp ∧ KF P B w ad cp ps
theorem tKF_stays (P : Nat → Prop) (B : Nat) (ad : Option Addr) (cp i : Nat) (ps : List Pf) : Stays3 (tKF P B ad cp i ps) := fun _ _ _ _ _ h hb _ => ⟨h.1, h.2.up hb⟩
def tNew (A S n : Nat) (T : TypeId) (p : Pf) : Fact := fun v w t => ∃ g y0 y1 y2 y3 y4 y5 y6, v = .slice (some ⟨g, 0, none⟩) 1 1 ∧ w.heap[g]? = some (.cells #[y0, y1, y2, y3, y4, y5, y6] T (0, 0)) ∧ PRp (tP A S t [n]) w p (.agg #[y0, y1, y2, y3, y4, y5, y6])
theorem tNew_stays (A S n : Nat) (T : TypeId) (p : Pf) : Stays3 (tNew A S n T p) := fun _ w _ _ _ h hb ht => by
  obtain ⟨g, y0, y1, y2, y3, y4, y5, y6, hv, hh, hp⟩ := h; (exact ⟨g, y0, y1, y2, y3, y4, y5, y6, hv, below_keep hb hh, hp.move fun b hb1 hp => ⟨hb.block b hb1, hp.up ht hb1⟩⟩)
def tMade (P : Nat → Prop) (B n : Nat) (ps : List Pf) : Fact := fun v w _ => ∃ g cp, v = .slice (some ⟨g, 0, none⟩) n cp ∧ KF P B w (some ⟨g, 0, none⟩) cp ps
theorem tMade_stays (P : Nat → Prop) (B n : Nat) (ps : List Pf) : Stays3 (tMade P B n ps) := fun _ w _ _ _ h hb _ => by
  obtain ⟨g, cp, hv, hk⟩ := h; exact ⟨g, cp, hv, hk.up hb⟩
theorem tKid_live (A S n : Nat) (p : Pf) (own : Option Nat) (ho : ∀ b, own = some b → A ≤ b ∧ b < S) (v : Value) (w : World) (t : Nat → Nat) (w' : World) (t' : Nat → Nat) (h : tKid A S n p v w t) (hw : w.grownBy w' own) (ht : ∀ b, b < w.heap.size → t' b = t b) : tKid A S n p v w' t' :=
  PRp.move h fun b hb1 hp => ⟨hw.block b hb1 fun e => by have := ho b e.symm; rcases hp with hp | hp <;> omega, hp.up ht hb1⟩
theorem KF.rep {P : Nat → Prop} {B : Nat} {w : World} {ad : Option Addr} {cap : Nat} {ps : List Pf} (h : KF P B w ad cap ps) (hPB : ∀ b, B ≤ b → P b) : ps.length ≤ cap ∧ cap ≤ maxLen ∧ (ps ≠ [] → ∃ b off, ad = some ⟨b, off, none⟩ ∧ P b ∧ PRps P w b off ps) := by
  obtain ⟨cs, hown, hlq⟩ := h
  rcases hown.2 with ⟨hv, h0⟩ | ⟨g, cp, cur, hv, hg, hh, h1, h2, -⟩
  · simp only [Value.slice.injEq] at hv
    obtain ⟨rfl, -, rfl⟩ := hv; (exact ⟨by omega, by simp, fun hne => absurd (List.length_eq_zero_iff.1 h0) hne⟩)
  · simp only [Value.slice.injEq, true_and] at hv
    obtain ⟨rfl, rfl⟩ := hv; (refine ⟨h1, h2, fun _ => ⟨g, 0, rfl, hPB g hg, ?_⟩⟩)
    exact (PQ.move (P' := P) (fun b _ hb => ⟨rfl, hb.1⟩) hlq).reps (b := g) 0 fun j u hu => by
      have := hown.cells (g := g) rfl j u hu; rw [add_none] at this; exact this
theorem infoPf : ∃ i, Try.prog.info? 29 = some i ∧ i.zero = some (.agg #[.string ⟨#[]⟩, .int .i64 0, .string ⟨#[]⟩, .slice none 0 0, .slice none 0 0, .slice none 0 0, .slice none 0 0]) ∧ i.size = 7 ∧ i.bytes = 136 := by
  (obtain ⟨i, hi, h⟩ := Option.map_eq_some_iff.1 (show (Try.prog.info? 29).map (fun i => (i.zero, i.size, i.bytes)) = some (some (.agg #[.string ⟨#[]⟩, .int .i64 0, .string ⟨#[]⟩, .slice none 0 0, .slice none 0 0, .slice none 0 0, .slice none 0 0]), 7, 136) by kernel_rfl)); simp only [Prod.mk.injEq] at h; exact ⟨i, hi, h.1, h.2.1, h.2.2⟩
end Go.Proofs.Ytlmjnglcdgkomac
