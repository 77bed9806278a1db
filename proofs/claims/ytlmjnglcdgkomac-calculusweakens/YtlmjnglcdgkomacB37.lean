/- Texts of one proof, one behind the other: CW4. -/
import Derived.Test.YtlmjnglcdgkomacB24
import Derived.Test.YtlmjnglcdgkomacB07
import Derived.Test.YtlmjnglcdgkomacB35
/- Walks: everywhere. -/
namespace Go.Proofs.Ytlmjnglcdgkomac
open Go.RowKit

theorem cons_len {n : Nat} {l : List Value} (h : l.length = n + 1) : ∃ v t, l = v :: t ∧ t.length = n := by
  cases l with
  | nil => cases h
  | cons v t => exact ⟨v, t, rfl, by simpa using h⟩
theorem frame43 (a : Array Value) (h : a.size = 43) : ∃ x0 x1 x2 x3 x4 x5 x6 x7 x8 x9 x10 x11 x12 x13 x14 x15 x16 x17 x18 x19 x20 x21 x22 x23 x24 x25 x26 x27 x28 x29 x30 x31 x32 x33 x34 x35 x36 x37 x38 x39 x40 x41 x42, a = #[x0, x1, x2, x3, x4, x5, x6, x7, x8, x9, x10, x11, x12, x13, x14, x15, x16, x17, x18, x19, x20, x21, x22, x23, x24, x25, x26, x27, x28, x29, x30, x31, x32, x33, x34, x35, x36, x37, x38, x39, x40, x41, x42] := by
  obtain ⟨l⟩ := a; have h0 : l.length = 43 := h; obtain ⟨x0, l1, e0, h1⟩ := cons_len h0; obtain ⟨x1, l2, e1, h2⟩ := cons_len h1; obtain ⟨x2, l3, e2, h3⟩ := cons_len h2; obtain ⟨x3, l4, e3, h4⟩ := cons_len h3; obtain ⟨x4, l5, e4, h5⟩ := cons_len h4; obtain ⟨x5, l6, e5, h6⟩ := cons_len h5; obtain ⟨x6, l7, e6, h7⟩ := cons_len h6; obtain ⟨x7, l8, e7, h8⟩ := cons_len h7; obtain ⟨x8, l9, e8, h9⟩ := cons_len h8; obtain ⟨x9, l10, e9, h10⟩ := cons_len h9; obtain ⟨x10, l11, e10, h11⟩ := cons_len h10; obtain ⟨x11, l12, e11, h12⟩ := cons_len h11; obtain ⟨x12, l13, e12, h13⟩ := cons_len h12; obtain ⟨x13, l14, e13, h14⟩ := cons_len h13; obtain ⟨x14, l15, e14, h15⟩ := cons_len h14; obtain ⟨x15, l16, e15, h16⟩ := cons_len h15; obtain ⟨x16, l17, e16, h17⟩ := cons_len h16; obtain ⟨x17, l18, e17, h18⟩ := cons_len h17; obtain ⟨x18, l19, e18, h19⟩ := cons_len h18; obtain ⟨x19, l20, e19, h20⟩ := cons_len h19; obtain ⟨x20, l21, e20, h21⟩ := cons_len h20; obtain ⟨x21, l22, e21, h22⟩ := cons_len h21; obtain ⟨x22, l23, e22, h23⟩ := cons_len h22; obtain ⟨x23, l24, e23, h24⟩ := cons_len h23; obtain ⟨x24, l25, e24, h25⟩ := cons_len h24; obtain ⟨x25, l26, e25, h26⟩ := cons_len h25; obtain ⟨x26, l27, e26, h27⟩ := cons_len h26; obtain ⟨x27, l28, e27, h28⟩ := cons_len h27; obtain ⟨x28, l29, e28, h29⟩ := cons_len h28; obtain ⟨x29, l30, e29, h30⟩ := cons_len h29; obtain ⟨x30, l31, e30, h31⟩ := cons_len h30; obtain ⟨x31, l32, e31, h32⟩ := cons_len h31; obtain ⟨x32, l33, e32, h33⟩ := cons_len h32; obtain ⟨x33, l34, e33, h34⟩ := cons_len h33; obtain ⟨x34, l35, e34, h35⟩ := cons_len h34; obtain ⟨x35, l36, e35, h36⟩ := cons_len h35; obtain ⟨x36, l37, e36, h37⟩ := cons_len h36; obtain ⟨x37, l38, e37, h38⟩ := cons_len h37; obtain ⟨x38, l39, e38, h39⟩ := cons_len h38; obtain ⟨x39, l40, e39, h40⟩ := cons_len h39; obtain ⟨x40, l41, e40, h41⟩ := cons_len h40; obtain ⟨x41, l42, e41, h42⟩ := cons_len h41; obtain ⟨x42, l43, e42, h43⟩ := cons_len h42; have e43 : l43 = [] := List.length_eq_zero_iff.1 h43; subst e43 e42 e41 e40 e39 e38 e37 e36 e35 e34 e33 e32 e31 e30 e29 e28 e27 e26 e25 e24 e23 e22 e21 e20 e19 e18 e17 e16 e15 e14 e13 e12 e11 e10 e9 e8 e7 e6 e5 e4 e3 e2 e1 e0; exact ⟨x0, x1, x2, x3, x4, x5, x6, x7, x8, x9, x10, x11, x12, x13, x14, x15, x16, x17, x18, x19, x20, x21, x22, x23, x24, x25, x26, x27, x28, x29, x30, x31, x32, x33, x34, x35, x36, x37, x38, x39, x40, x41, x42, rfl⟩

/-! Facts on the way through a region, with the blocks' makers. -/
def tEq (x : Value) : Fact := fun v _ _ => v = x
theorem tEq_stays (x : Value) : Stays3 (tEq x) := fun _ _ _ _ _ h _ _ => h
/-- Old blocks, and those that the operations ns made. -/
def tP (A S : Nat) (t : Nat → Nat) (ns : List Nat) : Nat → Prop := fun b => b < A ∨ (S ≤ b ∧ t b ∈ ns)
def tOwn (A S n : Nat) (l : List Fm) : Fact := fun v w t => ∃ ad cp, v = .slice ad l.length cp ∧ KP (tP A S t [n]) S w ad cp l ∧ ∀ g, (Value.slice ad l.length cp).ownBlock = some g → t g = n
def tBlk (S n : Nat) (cs : Array Value) (T : TypeId) : Fact := fun v w t => ∃ g, v = .slice (some ⟨g, 0, none⟩) 1 1 ∧ w.heap[g]? = some (.cells cs T (0, 0)) ∧ S ≤ g ∧ t g = n
def tPtr (S n : Nat) (cs : Array Value) (T : TypeId) : Fact := fun v w t => ∃ g, v = .pointer (some ⟨g, 0, none⟩) ∧ w.heap[g]? = some (.cells cs T (0, 0)) ∧ S ≤ g ∧ t g = n
def tFL (A S : Nat) (ns : List Nat) (l : List Fm) : Fact := fun v w t => ∃ ad m cp, v = .slice ad m cp ∧ FLp (tP A S t ns) w (.slice ad m cp) l
def tSq (A S : Nat) (ns : List Nat) (l : List Fm) (vr : Value) : Fact := fun v w t => ∃ ad m cp, v = .agg #[.slice ad m cp, vr] ∧ FLp (tP A S t ns) w (.slice ad m cp) l
def tPf (A S : Nat) (ns : List Nat) (l : List Fm) (a c0 c1 c2 vr : Value) : Fact := fun v w t => ∃ ad m cp, v = .agg #[a, c0, c1, c2, .slice ad m cp, vr, .slice none 0 0] ∧ FLp (tP A S t ns) w (.slice ad m cp) l
theorem tP.up {A S : Nat} {t t' : Nat → Nat} {ns : List Nat} {b N : Nat} (h : tP A S t ns b) (ht : ∀ b, b < N → t' b = t b) (hb : b < N) : tP A S t' ns b := h.imp id fun h => ⟨h.1, by rw [ht b hb]; exact h.2⟩
theorem KP.move {P P' : Nat → Prop} {B : Nat} {w w' : World} {ad : Option Addr} {cap : Nat} {fs : List Fm} (h : KP P B w ad cap fs) (hb : ∀ b, b < w.heap.size → w'.heap[b]? = w.heap[b]?) (hp : ∀ b, b < w.heap.size → P b → P' b) : KP P' B w' ad cap fs := by
  obtain ⟨cs, ⟨h1, h2⟩, h3⟩ := h; (refine ⟨cs, ⟨h1, ?_⟩, h3.move fun b hb1 hb2 => ⟨hb b hb1, hp b hb1 hb2.1, hb2.2⟩⟩)
  rcases h2 with h2 | ⟨g, cap, cur, hv, hg, hh, r⟩
  · exact Or.inl h2
  · exact Or.inr ⟨g, cap, cur, hv, hg, (hb g (lt_of_block hh)).trans hh, r⟩
theorem tOwn_stays (A S n : Nat) (l : List Fm) : Stays3 (tOwn A S n l) := fun _ w _ _ _ h hb ht => by
  obtain ⟨ad, cp, hv, hk, hg⟩ := h; (refine ⟨ad, cp, hv, hk.move (fun b hb1 => hb.block b hb1) fun b hb1 hp => hp.up ht hb1, fun g e => ?_⟩); obtain ⟨cs, ho, -⟩ := hk; rw [ht g (ho.lt g e).2]; exact hg g e
theorem tBlk_stays (S n : Nat) (cs : Array Value) (T : TypeId) : Stays3 (tBlk S n cs T) := fun _ w _ _ _ h hb ht => by
  obtain ⟨g, hv, hh, h1, h2⟩ := h; (exact ⟨g, hv, below_keep hb hh, h1, by rw [ht g (lt_of_block hh)]; exact h2⟩)
theorem tPtr_stays (S n : Nat) (cs : Array Value) (T : TypeId) : Stays3 (tPtr S n cs T) := fun _ w _ _ _ h hb ht => by
  obtain ⟨g, hv, hh, h1, h2⟩ := h; (exact ⟨g, hv, below_keep hb hh, h1, by rw [ht g (lt_of_block hh)]; exact h2⟩)
theorem tFL_stays (A S : Nat) (ns : List Nat) (l : List Fm) : Stays3 (tFL A S ns l) := fun _ w _ _ _ h hb ht => by
  obtain ⟨ad, m, cp, hv, hf⟩ := h; (exact ⟨ad, m, cp, hv, hf.move fun b hb1 hp => ⟨hb.block b hb1, hp.up ht hb1⟩⟩)
theorem tSq_stays (A S : Nat) (ns : List Nat) (l : List Fm) (vr : Value) : Stays3 (tSq A S ns l vr) := fun _ w _ _ _ h hb ht => by
  obtain ⟨ad, m, cp, hv, hf⟩ := h; (exact ⟨ad, m, cp, hv, hf.move fun b hb1 hp => ⟨hb.block b hb1, hp.up ht hb1⟩⟩)
theorem tPf_stays (A S : Nat) (ns : List Nat) (l : List Fm) (a c0 c1 c2 vr : Value) : Stays3 (tPf A S ns l a c0 c1 c2 vr) := fun _ w _ _ _ h hb ht => by
  obtain ⟨ad, m, cp, hv, hf⟩ := h; (exact ⟨ad, m, cp, hv, hf.move fun b hb1 hp => ⟨hb.block b hb1, hp.up ht hb1⟩⟩)
/-- What an append may do: write blocks of maker n. -/
def tW (S n : Nat) : Rel3 := fun w t w' => w'.os = w.os ∧ w'.tape = w.tape ∧ w'.output = w.output ∧ w.heap.size ≤ w'.heap.size ∧ ∀ b, b < w.heap.size → (b < S ∨ t b ≠ n) → w'.heap[b]? = w.heap[b]?
theorem tPtr_live (S S' n n' : Nat) (hn : n' ≠ n) (cs : Array Value) (T : TypeId) (v : Value) (w : World) (t : Nat → Nat) (w' : World) (t' : Nat → Nat) (h : tPtr S n' cs T v w t) (hw : tW S' n w t w') (ht : ∀ b, b < w.heap.size → t' b = t b) : tPtr S n' cs T v w' t' := by
  obtain ⟨g, hv, hh, h1, h2⟩ := h; (exact ⟨g, hv, (hw.2.2.2.2 g (lt_of_block hh) (Or.inr (by rw [h2]; exact hn))).trans hh, h1, by rw [ht g (lt_of_block hh)]; exact h2⟩)
/-! The same for lists of proofs. -/
def tKid (A S n : Nat) (p : Pf) : Fact := fun v w t => PRp (tP A S t [n]) w p v
theorem tKid_stays (A S n : Nat) (p : Pf) : Stays3 (tKid A S n p) := fun _ _ _ _ _ h hb ht => PRp.move h fun b hb1 hp => ⟨hb.block b hb1, hp.up ht hb1⟩
def tKF (P : Nat → Prop) (B : Nat) (ad : Option Addr) (cp i : Nat) (ps : List Pf) : Fact := fun v w _ => v = .slice ad i cp ∧ KF P B w ad cp ps
theorem tKF_stays (P : Nat → Prop) (B : Nat) (ad : Option Addr) (cp i : Nat) (ps : List Pf) : Stays3 (tKF P B ad cp i ps) := fun _ _ _ _ _ h hb _ => ⟨h.1, h.2.up hb⟩
def tNew (A S n : Nat) (T : TypeId) (p : Pf) : Fact := fun v w t => ∃ g y0 y1 y2 y3 y4 y5 y6, v = .slice (some ⟨g, 0, none⟩) 1 1 ∧ w.heap[g]? = some (.cells #[y0, y1, y2, y3, y4, y5, y6] T (0, 0)) ∧ PRp (tP A S t [n]) w p (.agg #[y0, y1, y2, y3, y4, y5, y6])
theorem tNew_stays (A S n : Nat) (T : TypeId) (p : Pf) : Stays3 (tNew A S n T p) := fun _ w _ _ _ h hb ht => by
  obtain ⟨g, y0, y1, y2, y3, y4, y5, y6, hv, hh, hp⟩ := h; (exact ⟨g, y0, y1, y2, y3, y4, y5, y6, hv, below_keep hb hh, hp.move fun b hb1 hp => ⟨hb.block b hb1, hp.up ht hb1⟩⟩)
def tMade (P : Nat → Prop) (B n : Nat) (ps : List Pf) : Fact := fun v w _ => ∃ g cp, v = .slice (some ⟨g, 0, none⟩) n cp ∧ KF P B w (some ⟨g, 0, none⟩) cp ps
theorem tMade_stays (P : Nat → Prop) (B n : Nat) (ps : List Pf) : Stays3 (tMade P B n ps) := fun _ w _ _ _ h hb _ => by
  obtain ⟨g, cp, hv, hk⟩ := h; exact ⟨g, cp, hv, hk.up hb⟩
theorem tKid_live (A S n : Nat) (p : Pf) (own : Option Nat) (ho : ∀ b, own = some b → A ≤ b ∧ b < S) (v : Value) (w : World) (t : Nat → Nat) (w' : World) (t' : Nat → Nat) (h : tKid A S n p v w t) (hw : w.grownBy w' own) (ht : ∀ b, b < w.heap.size → t' b = t b) : tKid A S n p v w' t' :=
  PRp.move h fun b hb1 hp => ⟨hw.block b hb1 fun e => by have := ho b e.symm; rcases hp with hp | hp <;> omega, hp.up ht hb1⟩
theorem KF.rep {P : Nat → Prop} {B : Nat} {w : World} {ad : Option Addr} {cap : Nat} {ps : List Pf} (h : KF P B w ad cap ps) (hPB : ∀ b, B ≤ b → P b) : ps.length ≤ cap ∧ cap ≤ maxLen ∧ (ps ≠ [] → ∃ b off, ad = some ⟨b, off, none⟩ ∧ P b ∧ PRps P w b off ps) := by
  obtain ⟨cs, hown, hlq⟩ := h
  rcases hown.2 with ⟨hv, h0⟩ | ⟨g, cp, cur, hv, hg, hh, h1, h2, -⟩
  · simp only [Value.slice.injEq] at hv
    obtain ⟨rfl, -, rfl⟩ := hv; (exact ⟨by omega, by simp, fun hne => absurd (List.length_eq_zero_iff.1 h0) hne⟩)
  · simp only [Value.slice.injEq, true_and] at hv
    obtain ⟨rfl, rfl⟩ := hv; (refine ⟨h1, h2, fun _ => ⟨g, 0, rfl, hPB g hg, ?_⟩⟩)
    exact (PQ.move (P' := P) (fun b _ hb => ⟨rfl, hb.1⟩) hlq).reps (b := g) 0 fun j u hu => by
      have := hown.cells (g := g) rfl j u hu; rw [add_none] at this; exact this
theorem infoPf : ∃ i, Try.prog.info? 29 = some i ∧ i.zero = some (.agg #[.string ⟨#[]⟩, .int .i64 0, .string ⟨#[]⟩, .slice none 0 0, .slice none 0 0, .slice none 0 0, .slice none 0 0]) ∧ i.size = 7 ∧ i.bytes = 136 := by
  (obtain ⟨i, hi, h⟩ := Option.map_eq_some_iff.1 (show (Try.prog.info? 29).map (fun i => (i.zero, i.size, i.bytes)) = some (some (.agg #[.string ⟨#[]⟩, .int .i64 0, .string ⟨#[]⟩, .slice none 0 0, .slice none 0 0, .slice none 0 0, .slice none 0 0]), 7, 136) by kernel_rfl)); simp only [Prod.mk.injEq] at h; exact ⟨i, hi, h.1, h.2.1, h.2.2⟩
/-- The append itself. -/
theorem tapp {A S n x : Nat} {l : List Fm} {f : Fm} {w1 w3 : World} {t : Nat → Nat} {ad : Option Addr} {cp : Nat} {c0 c1 c2 : Value} {cs : List Value} {g3 cp3 : Nat} (hAS : A ≤ S)
    (hown : w1.ownsRow S 24 3 (.slice ad l.length cp) l.length cs) (hlq : LQ (fun b => tP A S t [n] b ∧ (Value.slice ad l.length cp).ownBlock ≠ some b) w1 cs l) (hg : ∀ g, (Value.slice ad l.length cp).ownBlock = some g → t g = n)
    (hrep : Rep w1 (· < A) f (.agg #[c0, c1, c2]))
    (hown3 : w3.ownsRow S 24 3 (.slice (some ⟨g3, 0, none⟩) (l.length + 1) cp3) (l.length + 1) (cs ++ [c0, c1, c2]))
    (hgrow : w1.grownBy w3 (Value.slice ad l.length cp).ownBlock) (hat : (Value.slice ad l.length cp).ownBlock = some g3 ∨ g3 = w1.heap.size) :
    tFL A S [n, x] (l ++ [f]) (.slice (some ⟨g3, 0, none⟩) (l.length + 1) cp3) w3 (mark w1 t x) ∧ tW S n w1 t w3 := by
  have hs2 := hgrow.size; (refine ⟨⟨_, _, _, rfl, ?_⟩, hgrow.os, hgrow.tape, hgrow.output, hs2, fun b hb h => hgrow.block b hb fun e => ?_⟩)
  · have hkp : KP (tP A S (mark w1 t x) [n, x]) S w3 (some ⟨g3, 0, none⟩) cp3 (l ++ [f]) := by
      (refine ⟨cs ++ [c0, c1, c2], by rw [List.length_append]; exact hown3, ?_⟩); (refine ((hlq.move (ok' := fun b => tP A S (mark w1 t x) [n, x] b ∧ (Value.slice ad l.length cp).ownBlock ≠ some b) fun b hb hp => ⟨rfl, hp.1.imp id fun h => ⟨h.1, by have := h.2; simp at this; simp [mark, hb, this]⟩, hp.2⟩).append (ds := [c0, c1, c2]) (gs := [f]) ⟨hrep.move fun b hb hok => ⟨rfl, Or.inl hok, fun e => by have := (hown.lt b e).1; have : b < A := hok; omega⟩, trivial⟩).move fun b hb hok => ⟨hgrow.block b hb (fun e => hok.2 e.symm), hok.1, fun e => ?_⟩); (have e : g3 = b := by simpa [Value.ownBlock] using e)
      rcases hat with h | h
      · exact hok.2 (by rw [h, e])
      · omega
    have hPg : tP A S (mark w1 t x) [n, x] g3 := by
      refine Or.inr ⟨(hown3.lt g3 rfl).1, ?_⟩
      rcases hat with h | h
      · simp [mark, (hown.lt g3 h).2, hg g3 h]
      · simp [mark, h]
    obtain ⟨cs', ho', hl'⟩ := hkp; (have hb : (l ++ [f]).length = l.length + 1 := by rw [List.length_append]; rfl)
    rcases ho'.2 with ⟨hv, -⟩ | ⟨g, cp', cur, hv, hg', hh, h1, h2, -⟩
    · simp at hv
    · simp only [Value.slice.injEq, Option.some.injEq, Addr.mk.injEq, and_true, true_and] at hv
      obtain ⟨rfl, rfl⟩ := hv; (refine ⟨_, cp3, ?_, h1, h2, fun _ => ⟨g3, 0, rfl, hPg, ?_⟩⟩)
      · rw [hb]
      · exact (hl'.move (ok' := tP A S (mark w1 t x) [n, x]) fun b _ hb => ⟨rfl, hb.1⟩).reps (b := g3) 0 fun j u hu => by
          have := ho'.cells (g := g3) rfl j u hu; rw [add_none] at this; exact this
  · have hb2 := hown.lt b e.symm
    rcases h with h | h
    · omega
    · exact h (hg b e.symm)
end Go.Proofs.Ytlmjnglcdgkomac
