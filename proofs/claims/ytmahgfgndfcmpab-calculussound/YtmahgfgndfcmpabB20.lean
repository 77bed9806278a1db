/- Texts of one proof, one behind the other: CM2, CB1. -/
import Derived.Test.YtmahgfgndfcmpabB19
import Derived.Test.YtmahgfgndfcmpabB18
import Derived.Test.YtmahgfgndfcmpabB12
/- What is proved is true. -/
namespace Go.Proofs.Ytmahgfgndfcmpab

theorem fine_one_of {f : Fm} (hf : Fine f) (hk : f.kind = 4) : ∃ a, f = .mk 4 ⟨#[]⟩ [a] ∧ f.kidA = a ∧ Fine a := by
  rcases hf.forms with ⟨n, rfl, hn⟩ | rfl | rfl | ⟨k, g, h, rfl, hg⟩ | ⟨k, g, g', h, rfl, hg, hg'⟩
  · cases hk
  · cases hk
  · cases hk
  · have : k = 4 := hk
    subst this; exact ⟨g, rfl, rfl, hg⟩
  · have : k = 4 := hk
    omega
theorem fine_two_of {f : Fm} (hf : Fine f) (hk : f.kind = 5 ∨ f.kind = 6 ∨ f.kind = 7) : ∃ a b, f = .mk f.kind ⟨#[]⟩ [a, b] ∧ f.kidA = a ∧ f.kidB = b ∧ Fine a ∧ Fine b := by
  rcases hf.forms with ⟨n, rfl, hn⟩ | rfl | rfl | ⟨k, g, h, rfl, hg⟩ | ⟨k, g, g', h, rfl, hg, hg'⟩
  · rcases hk with h | h | h <;> cases h
  · rcases hk with h | h | h <;> cases h
  · rcases hk with h | h | h <;> cases h
  · have : k = 5 ∨ k = 6 ∨ k = 7 := hk
    omega
  · exact ⟨g, g', rfl, rfl, rfl, hg, hg'⟩

theorem prem_sound (i : Bool) (q : Ru) {f : Fm} (hf : Fine f) {l r : List Fm} {ss : List (List Fm × List Fm)} (h : prem i q f l r = some ss) (hs : ∀ s ∈ ss, Valid s.1 s.2) : Valid l r := by
  intro p hl
  cases q with
  | ax =>
    simp only [prem] at h
    split at h
    · rename_i hc
      exact ⟨f, hc.2, hl f hc.1⟩
    · cases h
  | tr =>
    simp only [prem] at h
    split at h
    · rename_i hc
      refine ⟨f, hc.2, ?_⟩
      rcases hf.forms with ⟨n, rfl, hn⟩ | rfl | rfl | ⟨k, g, h, rfl, hg⟩ | ⟨k, g, g', h, rfl, hg, hg'⟩
      · cases hc.1
      · rw [tv_true]
      · cases hc.1
      · have : k = 2 := hc.1
        omega
      · have : k = 2 := hc.1
        omega
    · cases h
  | fa =>
    simp only [prem] at h
    split at h
    · rename_i hc
      have := hl f hc.2
      rcases hf.forms with ⟨n, rfl, hn⟩ | rfl | rfl | ⟨k, g, h, rfl, hg⟩ | ⟨k, g, g', h, rfl, hg, hg'⟩
      · cases hc.1
      · cases hc.1
      · rw [tv_false] at this; cases this
      · have : k = 3 := hc.1
        omega
      · have : k = 3 := hc.1
        omega
    · cases h
  | andL =>
    simp only [prem] at h
    split at h
    · rename_i hc
      cases h
      obtain ⟨a, b, e, ea, eb, -, -⟩ := fine_two_of hf (Or.inl hc.1); have ht := hl f hc.2; rw [e, hc.1, tv_and, Bool.and_eq_true] at ht; (refine hs _ List.mem_cons_self p fun x hx => ?_)
      rcases List.mem_append.1 hx with hx | hx
      · exact hl x (List.mem_of_mem_erase hx)
      · rw [ea, eb] at hx
        simp at hx
        rcases hx with rfl | rfl
        · exact ht.1
        · exact ht.2
    · cases h
  | andR =>
    simp only [prem] at h
    split at h
    · rename_i hc
      cases h
      obtain ⟨a, b, e, ea, eb, -, -⟩ := fine_two_of hf (Or.inl hc.1); obtain ⟨x, hx, hxt⟩ := hs _ List.mem_cons_self p hl; obtain ⟨y, hy, hyt⟩ := hs _ (List.mem_cons_of_mem _ List.mem_cons_self) p hl
      rcases List.mem_append.1 hx with hx | hx
      · exact ⟨x, List.mem_of_mem_erase hx, hxt⟩
      · rcases List.mem_append.1 hy with hy | hy
        · exact ⟨y, List.mem_of_mem_erase hy, hyt⟩
        · simp at hx hy
          refine ⟨f, hc.2, ?_⟩; rw [e, hc.1, tv_and, ← ea, ← eb, ← hx, ← hy, hxt, hyt]; rfl
    · cases h
  | orL =>
    simp only [prem] at h
    split at h
    · rename_i hc
      cases h
      obtain ⟨a, b, e, ea, eb, -, -⟩ := fine_two_of hf (Or.inr (Or.inl hc.1)); have ht := hl f hc.2; rw [e, hc.1, tv_or, Bool.or_eq_true] at ht
      rcases ht with ht | ht
      · refine hs _ List.mem_cons_self p fun x hx => ?_
        rcases List.mem_append.1 hx with hx | hx
        · exact hl x (List.mem_of_mem_erase hx)
        · rw [ea] at hx; simp at hx; rw [hx]; exact ht
      · refine hs _ (List.mem_cons_of_mem _ List.mem_cons_self) p fun x hx => ?_
        rcases List.mem_append.1 hx with hx | hx
        · exact hl x (List.mem_of_mem_erase hx)
        · rw [eb] at hx; simp at hx; rw [hx]; exact ht
    · cases h
  | thenR =>
    simp only [prem] at h
    split at h
    · rename_i hc
      cases h
      obtain ⟨a, b, e, ea, eb, -, -⟩ := fine_two_of hf (Or.inr (Or.inr hc.1))
      cases hta : tv p a
      · refine ⟨f, hc.2, ?_⟩
        rw [e, hc.1, tv_then, hta]; rfl
      · obtain ⟨x, hx, hxt⟩ := hs _ List.mem_cons_self p fun x hx => by
          rcases List.mem_append.1 hx with hx | hx
          · exact hl x hx
          · rw [ea] at hx; simp at hx; rw [hx]; exact hta
        rcases List.mem_append.1 hx with hx | hx
        · exact ⟨x, List.mem_of_mem_erase hx, hxt⟩
        · rw [eb] at hx
          simp at hx; refine ⟨f, hc.2, ?_⟩; rw [e, hc.1, tv_then, ← hx, hxt, Bool.or_true]
    · cases h
  | notR =>
    simp only [prem] at h
    split at h
    · rename_i hc
      cases h
      obtain ⟨a, e, ea, -⟩ := fine_one_of hf hc.1
      cases hta : tv p a
      · refine ⟨f, hc.2, ?_⟩
        rw [e, tv_not, hta]; rfl
      · obtain ⟨x, hx, hxt⟩ := hs _ List.mem_cons_self p fun x hx => by
          rcases List.mem_append.1 hx with hx | hx
          · exact hl x hx
          · rw [ea] at hx; simp at hx; rw [hx]; exact hta
        exact ⟨x, List.mem_of_mem_erase hx, hxt⟩
    · cases h
  | contrL =>
    simp only [prem] at h
    split at h
    · rename_i hc
      cases h
      (refine hs _ List.mem_cons_self p fun x hx => ?_)
      rcases List.mem_append.1 hx with hx | hx
      · exact hl x hx
      · simp at hx; rw [hx]; exact hl f hc
    · cases h
  | orR =>
    simp only [prem] at h
    split at h
    · rename_i hc
      cases h
      obtain ⟨a, b, e, ea, eb, -, -⟩ := fine_two_of hf (Or.inr (Or.inl hc.1)); obtain ⟨x, hx, hxt⟩ := hs _ List.mem_cons_self p hl
      rcases List.mem_append.1 hx with hx | hx
      · exact ⟨x, List.mem_of_mem_erase hx, hxt⟩
      · rw [ea, eb] at hx
        simp at hx; refine ⟨f, hc.2, ?_⟩; rw [e, hc.1, tv_or]
        rcases hx with rfl | rfl
        · rw [hxt]; rfl
        · rw [hxt, Bool.or_true]
    · cases h
  | thenL =>
    simp only [prem] at h
    split at h
    · rename_i hc
      cases h
      obtain ⟨a, b, e, ea, eb, -, -⟩ := fine_two_of hf (Or.inr (Or.inr hc.1)); have ht := hl f hc.2; rw [e, hc.1, tv_then, Bool.or_eq_true] at ht; (have hgl : ∀ x ∈ l.erase f, tv p x = true := fun x hx => hl x (List.mem_of_mem_erase hx)); obtain ⟨x, hx, hxt⟩ := hs _ List.mem_cons_self p hgl
      have hx' : x = a ∨ x ∈ r := by
        revert hx
        cases i
        · intro hx
          simp only [Bool.false_eq_true, if_false] at hx
          rcases List.mem_append.1 hx with h | h
          · exact Or.inr h
          · rw [ea] at h; simp at h; exact Or.inl h
        · intro hx
          simp only [if_true] at hx; rw [ea] at hx; simp at hx; exact Or.inl hx
      rcases hx' with rfl | hx'
      · rw [hxt] at ht
        (have hb : tv p b = true := by simpa using ht); (refine hs _ (List.mem_cons_of_mem _ List.mem_cons_self) p fun y hy => ?_)
        rcases List.mem_append.1 hy with hy | hy
        · exact hgl y hy
        · rw [eb] at hy; simp at hy; rw [hy]; exact hb
      · exact ⟨x, hx', hxt⟩
    · cases h
  | notL =>
    simp only [prem] at h
    split at h
    · rename_i hc
      cases h
      obtain ⟨a, e, ea, -⟩ := fine_one_of hf hc.1; have ht := hl f hc.2; rw [e, tv_not] at ht; (obtain ⟨x, hx, hxt⟩ := hs _ List.mem_cons_self p fun x hx => hl x (List.mem_of_mem_erase hx))
      have hx' : x = a ∨ x ∈ r := by
        revert hx
        cases i
        · intro hx
          simp only [Bool.false_eq_true, if_false] at hx
          rcases List.mem_append.1 hx with h | h
          · exact Or.inr h
          · rw [ea] at h; simp at h; exact Or.inl h
        · intro hx
          simp only [if_true] at hx; rw [ea] at hx; simp at hx; exact Or.inl hx
      rcases hx' with rfl | hx'
      · rw [hxt] at ht; cases ht
      · exact ⟨x, hx', hxt⟩
    · cases h
  | contrR =>
    simp only [prem] at h
    split at h
    · rename_i hc
      cases h
      obtain ⟨x, hx, hxt⟩ := hs _ List.mem_cons_self p hl
      rcases List.mem_append.1 hx with hx | hx
      · exact ⟨x, hx, hxt⟩
      · simp at hx; exact ⟨f, hc, by rw [← hx]; exact hxt⟩
    · cases h
  | cut =>
    simp only [prem] at h
    cases h
    obtain ⟨x, hx, hxt⟩ := hs _ List.mem_cons_self p hl
    have hx' : x = f ∨ x ∈ r := by
      revert hx
      cases i
      · intro hx
        simp only [Bool.false_eq_true, if_false] at hx
        rcases List.mem_append.1 hx with h | h
        · exact Or.inr h
        · simp at h; exact Or.inl h
      · intro hx
        simp only [if_true] at hx; simp at hx; exact Or.inl hx
    rcases hx' with rfl | hx'
    · refine hs _ (List.mem_cons_of_mem _ List.mem_cons_self) p fun y hy => ?_
      rcases List.mem_append.1 hy with hy | hy
      · exact hl y hy
      · simp at hy; rw [hy]; exact hxt
    · exact ⟨x, hx', hxt⟩
  | orR1 =>
    simp only [prem] at h
    split at h
    · rename_i hc
      cases h
      obtain ⟨a, b, e, ea, eb, -, -⟩ := fine_two_of hf (Or.inr (Or.inl hc.1)); obtain ⟨x, hx, hxt⟩ := hs _ List.mem_cons_self p hl; rw [ea] at hx; simp at hx; refine ⟨f, hc.2, ?_⟩; rw [e, hc.1, tv_or, ← hx, hxt]; rfl
    · cases h
  | orR2 =>
    simp only [prem] at h
    split at h
    · rename_i hc
      cases h
      obtain ⟨a, b, e, ea, eb, -, -⟩ := fine_two_of hf (Or.inr (Or.inl hc.1)); obtain ⟨x, hx, hxt⟩ := hs _ List.mem_cons_self p hl; rw [eb] at hx; simp at hx; refine ⟨f, hc.2, ?_⟩; rw [e, hc.1, tv_or, ← hx, hxt, Bool.or_true]
    · cases h

theorem Valid.perm {l l' r r' : List Fm} (h : Valid l r) (hl : l.Perm l') (hr : r.Perm r') : Valid l' r' := fun p hp => by
  (obtain ⟨g, hg, ht⟩ := h p fun f hf => hp f (hl.mem_iff.1 hf)); exact ⟨g, hr.mem_iff.1 hg, ht⟩
theorem kidsC_zero : ∀ {ks : List Pf} {ss : List (List Fm × List Fm)}, ks.length = ss.length → kidsC ks ss = 0 → ∀ s ∈ ss, ∃ k ∈ ks, k.l.Perm s.1 ∧ k.r.Perm s.2
  | [], [], _, _, s, hs => by cases hs
  | [], _ :: _, h, _, _, _ => by cases h
  | _ :: _, [], h, _, _, _ => by cases h
  | k :: ks, s :: ss, hl, h, u, hu => by
    rw [kidsC] at h
    split at h
    · rename_i hb
      rw [Bool.and_eq_true] at hb
      rcases List.mem_cons.1 hu with rfl | hu
      · exact ⟨k, List.mem_cons_self, (isEq_perm _ _).1 hb.1, (isEq_perm _ _).1 hb.2⟩
      · obtain ⟨k', hk', hp⟩ := kidsC_zero (by simpa using hl) h u hu
        exact ⟨k', List.mem_cons_of_mem _ hk', hp⟩
    · cases h

/-- A step that is fine leads from what is valid to what is. -/
theorem step_sound (i : Bool) (p : Pf) (h : stepC i p = 0) (hk : ∀ k ∈ p.ks, Valid k.l k.r) : Valid p.l p.r := by
  obtain ⟨a, f, l, r, ks⟩ := p; rw [stepC] at h
  split at h
  · cases h
  · split at h
    · unfold weakC at h
      split at h
      · split at h
        · rename_i k
          split at h
          · rename_i hb
            rw [Bool.and_eq_true] at hb; intro q hq; (obtain ⟨g, hg, ht⟩ := hk k List.mem_cons_self q fun x hx => hq x (within_sub hb.1 x hx)); exact ⟨g, within_sub hb.2 g hg, ht⟩
          · cases h
        · cases h
      · cases h
    · split at h
      · cases h
      · rename_i q hq
        split at h
        · cases h
        · rename_i hp
          split at h
          · cases h
          · rename_i ss hss
            split at h
            · cases h
            · rename_i hlen
              (have hp0 : f.pcode.1 = 0 := Classical.byContradiction fun e => hp e); (have hlen' : ks.length = ss.length := Classical.byContradiction fun e => hlen e); obtain ⟨⟨sz, hsz⟩, -⟩ := pcode_ok hp0; (refine prem_sound i q (fine_of_chk f 0 sz hsz) hss fun s hs => ?_); obtain ⟨k, hkm, h1, h2⟩ := kidsC_zero hlen' h s hs; exact (hk k hkm).perm h1 h2

mutual
theorem look_sound (i : Bool) : ∀ (p : Pf) (d s c : Nat), (look i p d s c).1.1 = 0 → Valid p.l p.r
  | .mk a f l r ks, d, s, c, h => by
    rw [look] at h
    split at h
    · cases h
    · split at h
      · rename_i hs
        exact absurd h hs
      · rename_i hs
        (have hs' : stepC i (.mk a f l r ks) = 0 := Classical.byContradiction fun e => hs e); exact step_sound i (.mk a f l r ks) hs' (looks_sound i ks _ _ _ h)
theorem looks_sound (i : Bool) : ∀ (ks : List Pf) (d s c : Nat), (looks i ks d s c).1.1 = 0 → ∀ k ∈ ks, Valid k.l k.r
  | [], _, _, _, _, k, hk => by cases hk
  | k :: ks, d, s, c, h, u, hu => by
    rw [looks] at h
    split at h
    · rename_i hn
      exact absurd h hn
    · rename_i hn
      (have hn' : (look i k d s c).1.1 = 0 := Classical.byContradiction fun e => hn e)
      rcases List.mem_cons.1 hu with e | hu
      · rw [e]
        exact look_sound i k d s c hn'
      · exact looks_sound i ks _ _ _ h u hu
end
end Go.Proofs.Ytmahgfgndfcmpab
/- Walks: lists of formulas copied (slices.Clone). -/
namespace Go.Proofs.Ytmahgfgndfcmpab
open Go.RowKit

theorem reps_lq {ok : Nat → Prop} {w : World} {b : Nat} : ∀ {fs : List Fm} {off : Nat}, Reps w ok b off fs → ∃ cs, LQ ok w cs fs ∧ ∀ (j : Nat) (u : Value), cs[j]? = some u → w.cell? ⟨b, off + j, none⟩ = some u
  | [], off, _ => ⟨[], trivial, fun j u h => by simp at h⟩
  | f :: fs, off, h => by
    obtain ⟨⟨c0, c1, c2, h0, h1, h2, hr⟩, hs⟩ := Reps.cons.1 h; obtain ⟨cs, hl, hc⟩ := reps_lq hs; (refine ⟨c0 :: c1 :: c2 :: cs, ⟨hr, hl⟩, fun j u hu => ?_⟩)
    rcases j with _ | _ | _ | j
    · simp at hu; subst hu; exact h0
    · simp at hu; subst hu; exact h1
    · simp at hu; subst hu; exact h2
    · have := hc j u (by simpa using hu)
      (rw [show off + (j + 1 + 1 + 1) = off + 3 + j by omega]); exact this
theorem LQ.one {ok : Nat → Prop} {w : World} : ∀ {cs : List Value} {fs : List Fm}, LQ ok w cs fs → ∀ u ∈ cs, u.oneCell' = true
  | [], [], _, u, hu => by cases hu
  | c0 :: c1 :: c2 :: cs, ⟨k, n, ks⟩ :: fs, h, u, hu => by
    obtain ⟨sl, cap, hv, -⟩ := Rep.def.1 h.1; simp only [Value.agg.injEq, Array.mk.injEq, List.cons.injEq, and_true] at hv; obtain ⟨rfl, rfl, rfl⟩ := hv; simp only [List.mem_cons] at hu
    rcases hu with rfl | rfl | rfl | hu
    · rfl
    · rfl
    · rfl
    · exact LQ.one h.2 u hu

/-- A list of formulas, in blocks for which P holds. -/
def FLp (P : Nat → Prop) (w : World) (v : Value) (fs : List Fm) : Prop := ∃ ad cap, v = .slice ad fs.length cap ∧ fs.length ≤ cap ∧ cap ≤ maxLen ∧ (fs ≠ [] → ∃ b off, ad = some ⟨b, off, none⟩ ∧ P b ∧ Reps w P b off fs)
theorem reps_move {w w' : World} {P P' : Nat → Prop} {b : Nat} (h : ∀ k, k < w.heap.size → P k → w'.heap[k]? = w.heap[k]? ∧ P' k) {off : Nat} {fs : List Fm} (hb : P b) (hr : Reps w P b off fs) : Reps w' P' b off fs := by
  cases fs with
  | nil => exact Reps.nil
  | cons f fs =>
    obtain ⟨⟨c0, _, _, h0, _⟩, _⟩ := Reps.cons.1 hr; (exact Reps.keep (fun a ha hlt => cell_of_block (h a.block hlt ha).1) (fun k hk hp => (h k hk hp).2) hb (lt_of_cell h0) off _ hr)
theorem FLp.move {w w' : World} {P P' : Nat → Prop} {v : Value} {fs : List Fm} (hf : FLp P w v fs) (h : ∀ k, k < w.heap.size → P k → w'.heap[k]? = w.heap[k]? ∧ P' k) : FLp P' w' v fs := by
  obtain ⟨ad, cap, h1, h2, h3, h4⟩ := hf; (refine ⟨ad, cap, h1, h2, h3, fun hne => ?_⟩); obtain ⟨b, off, h5, h6, h7⟩ := h4 hne
  have hlt : b < w.heap.size := by
    cases fs with
    | nil => exact absurd rfl hne
    | cons f fs =>
      obtain ⟨⟨c0, _, _, h0, _⟩, _⟩ := Reps.cons.1 h7; exact lt_of_cell h0
  exact ⟨b, off, h5, (h b hlt h6).2, reps_move h h6 h7⟩
theorem FL.low {w : World} {v : Value} {fs : List Fm} (hf : FL w v fs) : FLp (· < w.heap.size) w v fs := by
  obtain ⟨ad, cap, h1, h2, h3, h4⟩ := hf; (exact FLp.move (P := fun _ => True) ⟨ad, cap, h1, h2, h3, fun hne => by obtain ⟨b, off, h5, h6⟩ := h4 hne; exact ⟨b, off, h5, trivial, h6⟩⟩ fun k hk _ => ⟨rfl, hk⟩)
theorem FLp.list {w : World} {P : Nat → Prop} {v : Value} {fs : List Fm} (hf : FLp P w v fs) : FL w v fs := by
  obtain ⟨ad, cap, h1, h2, h3, h4⟩ := hf; (refine ⟨ad, cap, h1, h2, h3, fun hne => ?_⟩); obtain ⟨b, off, h5, h6, h7⟩ := h4 hne; (exact ⟨b, off, h5, reps_move (fun _ _ _ => ⟨rfl, trivial⟩) h6 h7⟩)
theorem FLp.up {w w' : World} {P : Nat → Prop} {v : Value} {fs : List Fm} (hf : FLp P w v fs) (hb : Below w.heap.size w w') : FLp P w' v fs := hf.move fun k hk hp => ⟨hb.block k hk, hp⟩
theorem FLp.cells {P : Nat → Prop} {w : World} {ad : Option Addr} {cap : Nat} {fs : List Fm} (h : FLp P w (.slice ad fs.length cap) fs) (hne : fs ≠ []) : ∃ b off cs, ad = some ⟨b, off, none⟩ ∧ LQ P w cs fs ∧ ∀ (j : Nat) (u : Value), cs[j]? = some u → w.cell? ⟨b, off + j, none⟩ = some u := by
  obtain ⟨ad', cap', hv, -, -, h4⟩ := h; simp only [Value.slice.injEq, true_and] at hv; obtain ⟨rfl, rfl⟩ := hv; obtain ⟨b, off, h5, -, h6⟩ := h4 hne; obtain ⟨cs, h7, h8⟩ := reps_lq h6; exact ⟨b, off, cs, h5, h7, h8⟩
theorem kp_list {P : Nat → Prop} {B : Nat} {w : World} {ad : Option Addr} {cap : Nat} {fs : List Fm} (h : KP P B w ad cap fs) (hPB : ∀ b, B ≤ b → P b) : FLp P w (.slice ad fs.length cap) fs := by
  (obtain ⟨sl', cap', hv, -, h1, h2, h3⟩ := Rep.def.1 (h.rep hPB 0 ⟨#[]⟩ (by simp [maxLen, ByteArray.size]))); simp only [Value.agg.injEq, Array.mk.injEq, List.cons.injEq, Value.slice.injEq, true_and, and_true] at hv; obtain ⟨rfl, rfl⟩ := hv; exact ⟨ad, cap, rfl, h1, h2, h3⟩
theorem FL.flp {w : World} {v : Value} {fs : List Fm} (h : FL w v fs) : FLp (fun _ => True) w v fs := by
  obtain ⟨ad, cap, h1, h2, h3, h4⟩ := h; (exact ⟨ad, cap, h1, h2, h3, fun hne => by obtain ⟨b, off, h5, h6⟩ := h4 hne; exact ⟨b, off, h5, trivial, h6⟩⟩)

theorem nil_yes (n c : Nat) (w : World) : (binOp BinOp.eql 35 (.slice none n c) (.slice none 0 0)).run Try.prog w = .ok (.bool true) w := by kernel_rfl
theorem nil_no (a : Addr) (n c : Nat) (w : World) : (binOp BinOp.eql 35 (.slice (some a) n c) (.slice none 0 0)).run Try.prog w = .ok (.bool false) w := by kernel_rfl

set_option maxRecDepth 10000 in
set_option maxHeartbeats 2000000 in
theorem cloneF_low (P : Nat → Prop) (fs : List Fm) (hl : fs.length ≤ 1000) (v : Value) (w : World) (hv : FLp P w v fs) :
    Calls Try.prog 152 #[v] w fun e w' => ∃ ad cp, e = .returned (.slice ad fs.length cp) ∧ KP P w.heap.size w' ad cp fs ∧ Below w.heap.size w w' := by
  obtain ⟨ad, cap, rfl, h1, h2, h3⟩ := hv; have HV : Hid (FLp P w (.slice ad fs.length cap) fs) := ⟨ad, cap, rfl, h1, h2, h3⟩; obtain ⟨i0, hi, hz0, hz1, hz2⟩ := infoFormula; (have hlI : (fs.length : Int) ≤ 1000 := by omega); (have hny := fun n c w => nil_yes n c w); (have hnn := fun a n c w => nil_no a n c w); clear h3; by_cases hne : fs = []
  · subst hne
    cases ad with
    | none =>
      go_enter Try.func152, Try.ntmps152
      go_wp2_with fail; go_ret
      exact ⟨none, 0, rfl, KP.nil, Below.refl _ _⟩
    | some a =>
      go_enter Try.func152, Try.ntmps152
      go_wp2_with fail; go_ret; (exact ⟨some ⟨w.heap.size, 0, none⟩, 0, rfl, ⟨[], ⟨rfl, Or.inr ⟨w.heap.size, 0, #[], rfl, Nat.le_refl _, blk_new _ _, Nat.le_refl _, by simp, rfl, rfl⟩⟩, trivial⟩, below_more (Below.refl _ w) _⟩)
  · obtain ⟨b, off, cs, rfl, hlq, hcs⟩ := HV.out.cells hne
    have hpos : 0 < fs.length := List.length_pos_iff.2 hne; have hlen := hlq.len; have HOne : Hid (∀ u ∈ cs, u.oneCell' = true) := hlq.one; have HQ : Hid (LQ P w cs fs) := hlq; have HCs : Hid (∀ (j : Nat) (u : Value), cs[j]? = some u → w.cell? ⟨b, off + j, none⟩ = some u) := hcs; (have hown : (w.alloc (.cells #[] 37 (0, 0))).ownsRow w.heap.size 37 3 (.slice (some ⟨w.heap.size, 0, none⟩) 0 0) 0 [] := ⟨rfl, Or.inr ⟨w.heap.size, 0, #[], rfl, Nat.le_refl _, blk_new _ _, Nat.le_refl _, by simp, rfl, rfl⟩⟩); clear hne hlq hcs
    go_enter Try.func152, Try.ntmps152
    go_wp2_with (first
      | (at_builtin
         refine wpList_append_lies _ rfl _ _ 35 rfl w.heap.size 37 i0 (.agg #[.int .i64 0, .string ⟨#[]⟩, .slice none 0 0]) 3 48 Try.underlying35 hi hz0 hz1 hz2 rfl (by decide) _ _ _ rfl hown ⟨b, off, none⟩ fs.length cap cs rfl hlen (fun j u hu => by
           rw [add_none]
           exact (((Below.refl _ w).alloc (Nat.le_refl _) _).cell (lt_of_cell (HCs.out j u hu))).trans (HCs.out j u hu)) HOne.out hpos (by unfold maxLen; omega) (by omega) (by simp) _ rfl ?_
         intro g3 cp3 w3 hown3 hgrow hat hlt3)
      | fail)
    have hown3' : w3.ownsRow w.heap.size 37 3 (.slice (some ⟨g3, 0, none⟩) fs.length cp3) fs.length cs := by
      have := hown3; rw [Nat.zero_add] at this; exact this
    have hgrow' : (w.alloc (.cells #[] 37 (0, 0))).grownBy w3 (some w.heap.size) := hgrow
    have hbl : ∀ j, j < w.heap.size → w3.heap[j]? = w.heap[j]? := fun j hj => by
      (rw [hgrow'.block j (by simp; omega) (fun e => by have := Option.some.inj e; omega), Below.heap_alloc _ _ _ hj])
    (have hB : Below w.heap.size w w3 := ⟨hgrow'.os, hgrow'.tape, hgrow'.output, by have := hgrow'.size; simp at this; omega, hbl⟩); have hg3 : w.heap.size ≤ g3 := (hown3'.lt g3 rfl).1
    have hKP : KP P w.heap.size w3 (some ⟨g3, 0, none⟩) cp3 fs := ⟨cs, hown3', HQ.out.move fun b hb hp => ⟨hbl b hb, hp, fun e => by
      (have : g3 = b := by simpa [Value.ownBlock] using e)
      omega⟩⟩
    clear hown3 hown3' hgrow hgrow' hat hown; (have hz : ((0 : Int) + (fs.length : Int)) = (fs.length : Int) := by omega); go_wp2_with fail; go_ret; refine ⟨some ⟨g3, 0, none⟩, cp3, ?_, hKP, hB⟩
    simp
end Go.Proofs.Ytmahgfgndfcmpab
