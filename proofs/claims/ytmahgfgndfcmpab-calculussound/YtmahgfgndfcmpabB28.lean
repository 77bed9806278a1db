/- Texts of one proof, one behind the other: CC3. -/
import Derived.Test.YtmahgfgndfcmpabB27
/- Sequents in memory; facts that stay. -/
namespace Go.Proofs.Ytmahgfgndfcmpab
open Go.RowKit

def SQs (w : World) (v : Value) (ss : List (List Fm × List Fm)) : Prop := ∃ ad cap, v = .slice ad ss.length cap ∧ ss.length ≤ cap ∧ cap ≤ maxLen ∧ (ss ≠ [] → ∃ b off, ad = some ⟨b, off, none⟩ ∧ ∀ (j : Nat) (s : List Fm × List Fm), ss[j]? = some s → ∃ vl vr, w.cell? ⟨b, off + j * 2, none⟩ = some vl ∧ w.cell? ⟨b, off + j * 2 + 1, none⟩ = some vr ∧ FL w vl s.1 ∧ FL w vr s.2)
theorem SQs.up {w w' : World} {v : Value} {ss : List (List Fm × List Fm)} (h : SQs w v ss) (hb : Below w.heap.size w w') : SQs w' v ss := by
  obtain ⟨ad, cap, h1, h2, h3, h4⟩ := h; (refine ⟨ad, cap, h1, h2, h3, fun hne => ?_⟩); obtain ⟨b, off, h5, h6⟩ := h4 hne; (refine ⟨b, off, h5, fun j s hs => ?_⟩); obtain ⟨vl, vr, h7, h8, h9, h10⟩ := h6 j s hs; exact ⟨vl, vr, (hb.cell (p := ⟨b, off + j * 2, none⟩) (lt_of_cell h7)).trans h7, (hb.cell (p := ⟨b, off + j * 2 + 1, none⟩) (lt_of_cell h8)).trans h8, h9.up hb, h10.up hb⟩
theorem SQs.nil {w : World} : SQs w (.slice none 0 0) [] := ⟨none, 0, rfl, Nat.le_refl _, by simp, fun h => absurd rfl h⟩
theorem SQs.one {w : World} {b : Nat} {T : TypeId} {vl vr : Value} {s : List Fm × List Fm} (hb : w.heap[b]? = some (.cells #[vl, vr] T (0, 0))) (h1 : FL w vl s.1) (h2 : FL w vr s.2) : SQs w (.slice (some ⟨b, 0, none⟩) 1 1) [s] := by
  (refine ⟨_, 1, rfl, Nat.le_refl _, by simp [maxLen], fun _ => ⟨b, 0, rfl, fun j t ht => ?_⟩⟩)
  cases j with
  | zero => simp at ht; subst ht; exact ⟨vl, vr, blk_cell hb 0, blk_cell hb 1, h1, h2⟩
  | succ j => simp at ht
theorem SQs.two {w : World} {b : Nat} {T : TypeId} {vl vr vl' vr' : Value} {s s' : List Fm × List Fm} (hb : w.heap[b]? = some (.cells #[vl, vr, vl', vr'] T (0, 0))) (h1 : FL w vl s.1) (h2 : FL w vr s.2) (h3 : FL w vl' s'.1) (h4 : FL w vr' s'.2) : SQs w (.slice (some ⟨b, 0, none⟩) 2 2) [s, s'] := by
  (refine ⟨_, 2, rfl, Nat.le_refl _, by simp [maxLen], fun _ => ⟨b, 0, rfl, fun j t ht => ?_⟩⟩)
  rcases j with _ | _ | j
  · simp at ht; subst ht; exact ⟨vl, vr, blk_cell hb 0, blk_cell hb 1, h1, h2⟩
  · simp at ht; subst ht; exact ⟨vl', vr', blk_cell hb 2, blk_cell hb 3, h3, h4⟩
  · simp at ht
theorem FL.sing {w : World} {b : Nat} {T : TypeId} {c0 c1 c2 : Value} {f : Fm} (hb : w.heap[b]? = some (.cells #[c0, c1, c2] T (0, 0))) (h : Rep w (fun _ => True) f (.agg #[c0, c1, c2])) : FL w (.slice (some ⟨b, 0, none⟩) 1 1) [f] :=
  ⟨_, 1, rfl, Nat.le_refl _, by simp [maxLen], fun _ => ⟨b, 0, rfl, Reps.cons.2 ⟨⟨c0, c1, c2, blk_cell hb 0, blk_cell hb 1, blk_cell hb 2, h⟩, Reps.nil⟩⟩⟩
theorem FL.duo {w : World} {b : Nat} {T : TypeId} {c0 c1 c2 c3 c4 c5 : Value} {f g : Fm} (hb : w.heap[b]? = some (.cells #[c0, c1, c2, c3, c4, c5] T (0, 0))) (h : Rep w (fun _ => True) f (.agg #[c0, c1, c2])) (h' : Rep w (fun _ => True) g (.agg #[c3, c4, c5])) : FL w (.slice (some ⟨b, 0, none⟩) 2 2) [f, g] :=
  ⟨_, 2, rfl, Nat.le_refl _, by simp [maxLen], fun _ => ⟨b, 0, rfl, Reps.cons.2 ⟨⟨c0, c1, c2, blk_cell hb 0, blk_cell hb 1, blk_cell hb 2, h⟩, Reps.cons.2 ⟨⟨c3, c4, c5, blk_cell hb 3, blk_cell hb 4, blk_cell hb 5, h'⟩, Reps.nil⟩⟩⟩⟩
theorem FL.none {w : World} : FL w (.slice none 0 0) [] := ⟨_, 0, rfl, Nat.le_refl _, by simp, fun h => absurd rfl h⟩

/-! The facts on the way through a region. -/
def kEq (x : Value) : Value → World → Prop := fun v _ => v = x
def kRep (k : Int) (n : ByteArray) (ks : List Fm) : Value → World → Prop := fun v w => ∃ sl cap, v = .agg #[.int .i64 k, .string n, .slice sl ks.length cap] ∧ Rep w (fun _ => True) (.mk k n ks) (.agg #[.int .i64 k, .string n, .slice sl ks.length cap])
def kFL (l : List Fm) : Value → World → Prop := fun v w => ∃ ad m cap, v = .slice ad m cap ∧ FL w (.slice ad m cap) l
def kSQ (s : List Fm × List Fm) : Value → World → Prop := fun v w => ∃ ad m cap ad' m' cap', v = .agg #[.slice ad m cap, .slice ad' m' cap'] ∧ FL w (.slice ad m cap) s.1 ∧ FL w (.slice ad' m' cap') s.2
def kSQs (ss : List (List Fm × List Fm)) : Value → World → Prop := fun v w => SQs w v ss
theorem kEq_stays (x : Value) : Stays (kEq x) := fun _ _ _ h _ => h
theorem kRep_stays (k : Int) (n : ByteArray) (ks : List Fm) : Stays (kRep k n ks) := fun _ _ _ h hb => by
  obtain ⟨sl, cap, hv, hr⟩ := h; exact ⟨sl, cap, hv, hr.up hb⟩
theorem kFL_stays (l : List Fm) : Stays (kFL l) := fun _ _ _ h hb => by
  obtain ⟨ad, m, cap, hv, hl⟩ := h; exact ⟨ad, m, cap, hv, hl.up hb⟩
theorem kSQ_stays (s : List Fm × List Fm) : Stays (kSQ s) := fun _ _ _ h hb => by
  obtain ⟨ad, m, cap, ad', m', cap', hv, h1, h2⟩ := h; exact ⟨ad, m, cap, ad', m', cap', hv, h1.up hb, h2.up hb⟩
theorem kSQs_stays (ss : List (List Fm × List Fm)) : Stays (kSQs ss) := fun _ _ _ h hb => SQs.up h hb
theorem kRep_of {k : Int} {n : ByteArray} {ks : List Fm} {w : World} {x : Value} (h : Rep w (fun _ => True) (.mk k n ks) x) : kRep k n ks x w := by
  obtain ⟨sl, cap, rfl⟩ := slice_shape h; exact ⟨sl, cap, rfl, h⟩
theorem kFL_of {l : List Fm} {w : World} {x : Value} (h : FL w x l) : kFL l x w := by
  have h' := h; obtain ⟨ad, cap, rfl, -⟩ := h; exact ⟨ad, _, cap, rfl, h'⟩
end Go.Proofs.Ytmahgfgndfcmpab
