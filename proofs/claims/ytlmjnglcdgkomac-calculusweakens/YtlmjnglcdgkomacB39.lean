/- Texts of one proof, one behind the other: CW1. -/
import Derived.Test.YtlmjnglcdgkomacB38
/- A proof with a formula more at the left of each step: plain. -/
namespace Go.Proofs.Ytlmjnglcdgkomac
open Go.RowKit

mutual
/-- With a formula more at each left. -/
def Pf.ev (f : Fm) : Pf → Pf
  | .mk a g l r ks => .mk a g (l ++ [f]) r (Pf.evs f ks)
def Pf.evs (f : Fm) : List Pf → List Pf
  | [] => []
  | k :: ks => k.ev f :: Pf.evs f ks
end
mutual
/-- All steps, each ahead of those in it. -/
def Pf.nodes : Pf → List Pf
  | .mk a g l r ks => .mk a g l r ks :: Pf.nodesL ks
def Pf.nodesL : List Pf → List Pf
  | [] => []
  | k :: ks => k.nodes ++ Pf.nodesL ks
end
mutual
def Pf.deep : Pf → Nat
  | .mk _ _ _ _ ks => Pf.deeps ks + 1
def Pf.deeps : List Pf → Nat
  | [] => 0
  | k :: ks => max k.deep (Pf.deeps ks)
end
mutual
/-- Room for one more at each step. -/
def Pf.short : Pf → Prop
  | .mk _ _ l r ks => l.length + r.length < 60 ∧ Pf.shorts ks
def Pf.shorts : List Pf → Prop
  | [] => True
  | k :: ks => k.short ∧ Pf.shorts ks
end
theorem ev_l (f : Fm) (k : Pf) : (k.ev f).l = k.l ++ [f] := by cases k; rw [Pf.ev]; rfl
theorem ev_r (f : Fm) (k : Pf) : (k.ev f).r = k.r := by cases k; rw [Pf.ev]; rfl
theorem evs_map (f : Fm) : ∀ ks, Pf.evs f ks = ks.map (Pf.ev f)
  | [] => by rw [Pf.evs]; rfl
  | k :: ks => by rw [Pf.evs, evs_map f ks]; rfl
theorem evs_len (f : Fm) (ks : List Pf) : (Pf.evs f ks).length = ks.length := by rw [evs_map, List.length_map]

mutual
theorem ev_size (f : Fm) : ∀ p : Pf, (p.ev f).size = p.size
  | .mk a g l r ks => by rw [Pf.ev, Pf.size, Pf.size, evs_size f ks]
theorem evs_size (f : Fm) : ∀ ks : List Pf, Pf.sizes (Pf.evs f ks) = Pf.sizes ks
  | [] => by rw [Pf.evs]
  | k :: ks => by rw [Pf.evs, Pf.sizes, Pf.sizes, ev_size f k, evs_size f ks]
end
mutual
theorem ev_deep (f : Fm) : ∀ p : Pf, (p.ev f).deep = p.deep
  | .mk a g l r ks => by rw [Pf.ev, Pf.deep, Pf.deep, evs_deep f ks]
theorem evs_deep (f : Fm) : ∀ ks : List Pf, Pf.deeps (Pf.evs f ks) = Pf.deeps ks
  | [] => by rw [Pf.evs]
  | k :: ks => by rw [Pf.evs, Pf.deeps, Pf.deeps, ev_deep f k, evs_deep f ks]
end
mutual
theorem nodes_size : ∀ p : Pf, p.nodes.length = p.size
  | .mk a g l r ks => by rw [Pf.nodes, Pf.size, List.length_cons, nodesL_size ks]
theorem nodesL_size : ∀ ks : List Pf, (Pf.nodesL ks).length = Pf.sizes ks
  | [] => by rw [Pf.nodesL, Pf.sizes]; rfl
  | k :: ks => by rw [Pf.nodesL, Pf.sizes, List.length_append, nodes_size k, nodesL_size ks]
end
mutual
theorem ev_short (f : Fm) : ∀ p : Pf, (∀ x ∈ (p.ev f).nodes, x.l.length + x.r.length ≤ 60) → p.short
  | .mk a g l r ks, h => by
    rw [Pf.ev, Pf.nodes] at h; rw [Pf.short]; (refine ⟨?_, evs_short f ks fun x hx => h x (List.mem_cons_of_mem _ hx)⟩); have := h _ List.mem_cons_self; rw [show (Pf.mk a g (l ++ [f]) r (Pf.evs f ks)).l = l ++ [f] from rfl, show (Pf.mk a g (l ++ [f]) r (Pf.evs f ks)).r = r from rfl, List.length_append] at this; simp at this; omega
theorem evs_short (f : Fm) : ∀ ks : List Pf, (∀ x ∈ Pf.nodesL (Pf.evs f ks), x.l.length + x.r.length ≤ 60) → Pf.shorts ks
  | [], _ => by rw [Pf.shorts]; trivial
  | k :: ks, h => by
    rw [Pf.evs, Pf.nodesL] at h; rw [Pf.shorts]; (exact ⟨ev_short f k fun x hx => h x (List.mem_append_left _ hx), evs_short f ks fun x hx => h x (List.mem_append_right _ hx)⟩)
end

theorem firstBad_zero : ∀ (l : List Fm) (i : Nat), (∀ f ∈ l, f.pcode.1 = 0) → firstBad l i = (0, 0)
  | [], _, _ => rfl
  | f :: l, i, h => by
    rw [firstBad, if_pos (h f List.mem_cons_self)]; (exact firstBad_zero l (i + 1) fun g hg => h g (List.mem_cons_of_mem _ hg))
theorem firstBad_all : ∀ (l : List Fm) (i : Nat), (firstBad l i).1 = 0 → ∀ f ∈ l, f.pcode.1 = 0
  | [], _, _, f, hf => by cases hf
  | g :: l, i, h, f, hf => by
    rw [firstBad] at h
    split at h
    · rename_i hg
      rcases List.mem_cons.1 hf with rfl | hf
      · exact hg
      · exact firstBad_all l (i + 1) h f hf
    · rename_i hg
      exact absurd h hg
theorem seqCode_zero {l r : List Fm} (h : (seqCode l r).1 = 0) : l.length + r.length ≤ 60 ∧ ∀ f ∈ l ++ r, f.pcode.1 = 0 := by
  unfold seqCode at h
  split at h
  · cases h
  · exact ⟨by omega, firstBad_all _ _ h⟩
theorem seqCode_more {l r : List Fm} {f : Fm} (h : (seqCode l r).1 = 0) (hf : f.pcode.1 = 0) (hl : l.length + r.length < 60) : (seqCode (l ++ [f]) r).1 = 0 := by
  obtain ⟨-, h2⟩ := seqCode_zero h; unfold seqCode; (rw [if_neg (by simp; omega), firstBad_zero]); intro g hg; simp only [List.append_assoc, List.mem_append, List.mem_cons, List.not_mem_nil, or_false] at hg h2
  rcases hg with hg | rfl | hg
  · exact h2 g (Or.inl hg)
  · exact hf
  · exact h2 g (Or.inr hg)

/-- Premises with a formula more. -/
def EvR (f : Fm) : List (List Fm × List Fm) → List (List Fm × List Fm) → Prop
  | [], [] => True
  | s :: ss, t :: ts => t.1.Perm (s.1 ++ [f]) ∧ t.2 = s.2 ∧ EvR f ss ts
  | _, _ => False
theorem EvR.len {f : Fm} : ∀ {ss ts : List (List Fm × List Fm)}, EvR f ss ts → ts.length = ss.length
  | [], [], _ => rfl
  | s :: ss, t :: ts, h => by rw [List.length_cons, List.length_cons, EvR.len h.2.2]
  | [], _ :: _, h => h.elim
  | _ :: _, [], h => h.elim
theorem kidsC_ev {f : Fm} : ∀ {ks : List Pf} {ss ts : List (List Fm × List Fm)}, EvR f ss ts → kidsC ks ss = 0 → kidsC (Pf.evs f ks) ts = 0
  | [], ss, ts, _, _ => by rw [Pf.evs]; cases ts <;> rfl
  | k :: ks, [], [], _, _ => by rw [Pf.evs]; rfl
  | k :: ks, s :: ss, t :: ts, h, h0 => by
    rw [kidsC] at h0
    split at h0
    · rename_i hb
      rw [Bool.and_eq_true, isEq_perm, isEq_perm] at hb; rw [Pf.evs, kidsC, if_pos]
      · exact kidsC_ev h.2.2 h0
      · rw [Bool.and_eq_true, isEq_perm, isEq_perm, ev_l, ev_r, h.2.1]
        exact ⟨(hb.1.append_right [f]).trans h.1.symm, hb.2⟩
    · cases h0
  | _ :: _, [], _ :: _, h, _ => h.elim
  | _ :: _, _ :: _, [], h, _ => h.elim
theorem swap_last (l : List Fm) (a f : Fm) : ((l ++ [f]) ++ [a]).Perm ((l ++ [a]) ++ [f]) := by
  rw [List.append_assoc, List.append_assoc]; exact List.Perm.append_left l (List.perm_append_comm (l₁ := [f]) (l₂ := [a]))
theorem swap_last2 (l : List Fm) (a b f : Fm) : ((l ++ [f]) ++ [a, b]).Perm ((l ++ [a, b]) ++ [f]) := by
  rw [List.append_assoc, List.append_assoc]; exact List.Perm.append_left l (List.perm_append_comm (l₁ := [f]) (l₂ := [a, b]))
theorem prem_ev (i : Bool) (q : Ru) (g f : Fm) (l r : List Fm) (ss : List (List Fm × List Fm)) (h : prem i q g l r = some ss) : ∃ ts, prem i q g (l ++ [f]) r = some ts ∧ EvR f ss ts := by
  (have hmem : g ∈ l → g ∈ l ++ [f] := fun h => List.mem_append_left _ h); (have her : g ∈ l → (l ++ [f]).erase g = l.erase g ++ [f] := fun h => List.erase_append_left _ h)
  cases q <;> simp only [prem] at h ⊢
  case tr =>
    split at h
    · rename_i hc
      cases h
      refine ⟨[], if_pos hc, ?_⟩; trivial
    · cases h
  case fa =>
    split at h
    · rename_i hc
      cases h
      exact ⟨[], if_pos ⟨hc.1, hmem hc.2⟩, trivial⟩
    · cases h
  case cut => cases h; exact ⟨_, rfl, List.Perm.refl _, rfl, swap_last _ _ _, rfl, trivial⟩
  all_goals
    split at h
    · rename_i hc
      cases h
      first
        | exact ⟨[], if_pos ⟨hmem hc.1, hc.2⟩, trivial⟩
        | exact ⟨[], if_pos hc, trivial⟩
        | exact ⟨[], if_pos ⟨hc.1, hmem hc.2⟩, trivial⟩
        | exact ⟨_, if_pos ⟨hc.1, hmem hc.2⟩, by rw [her hc.2]; exact swap_last2 _ _ _ _, rfl, trivial⟩
        | exact ⟨_, if_pos ⟨hc.1, hmem hc.2⟩, by rw [her hc.2]; exact swap_last _ _ _, rfl, by rw [her hc.2]; exact swap_last _ _ _, rfl, trivial⟩
        | exact ⟨_, if_pos ⟨hc.1, hmem hc.2⟩, by rw [her hc.2], rfl, by rw [her hc.2]; exact swap_last _ _ _, rfl, trivial⟩
        | exact ⟨_, if_pos ⟨hc.1, hmem hc.2⟩, by rw [her hc.2], rfl, trivial⟩
        | exact ⟨_, if_pos (hmem hc), swap_last _ _ _, rfl, trivial⟩
        | exact ⟨_, if_pos hc, swap_last _ _ _, rfl, trivial⟩
        | exact ⟨_, if_pos hc, List.Perm.refl _, rfl, List.Perm.refl _, rfl, trivial⟩
        | exact ⟨_, if_pos hc, List.Perm.refl _, rfl, trivial⟩
    · cases h
theorem stepC_ev (i : Bool) (f : Fm) (a : ByteArray) (g : Fm) (l r : List Fm) (ks : List Pf) (hf : f.pcode.1 = 0) (hl : l.length + r.length < 60) (h : stepC i (.mk a g l r ks) = 0) : stepC i (.mk a g (l ++ [f]) r (Pf.evs f ks)) = 0 := by
  rw [stepC] at h ⊢
  split at h
  · cases h
  · rename_i hn
    (have hn1 : (seqCode l r).1 = 0 := Classical.byContradiction fun e => hn (Or.inl e)); (rw [if_neg (fun e => e.elim (fun e => e (seqCode_more hn1 hf hl)) fun e => hn (Or.inr e))])
    split at h
    · rename_i hw
      rw [if_pos hw]; unfold weakC at h ⊢
      split at h
      · rename_i hg
        rw [if_pos hg]
        split at h
        · rename_i k
          split at h
          · rename_i hb
            rw [Bool.and_eq_true] at hb; simp only [Pf.evs]; rw [if_pos]; rw [Bool.and_eq_true, ev_l, ev_r]; (refine ⟨(within_count _ _).2 fun x => ?_, hb.2⟩); have := (within_count _ _).1 hb.1 x; rw [List.count_append, List.count_append]; omega
          · cases h
        · cases h
      · cases h
    · rename_i hw
      rw [if_neg hw]
      split at h
      · cases h
      · rename_i q hq
        split at h
        · cases h
        · rename_i hp
          rw [if_neg hp]
          split at h
          · cases h
          · rename_i ss hss
            obtain ⟨ts, hts, hev⟩ := prem_ev i q g f l r ss hss; rw [hts]; simp only
            split at h
            · cases h
            · rename_i hlen
              (rw [if_neg (by rw [evs_len, hev.len]; exact hlen)]); exact kidsC_ev hev h

mutual
/-- **A proof stays one.** -/
theorem look_ev (i : Bool) (f : Fm) (hf : f.pcode.1 = 0) : ∀ (p : Pf) (d s c : Nat), (look i p d s c).1.1 = 0 → p.short → look i (p.ev f) d s c = look i p d s c
  | .mk a g l r ks, d, s, c, h, hsh => by
    rw [Pf.short] at hsh; rw [Pf.ev]; rw [look_def] at h ⊢; rw [look_def]
    split at h
    · cases h
    · rename_i h1
      rw [if_neg h1, if_neg h1]
      split at h
      · rename_i h2
        exact absurd h h2
      · rename_i h2
        (have h3 : stepC i (.mk a g l r ks) = 0 := Classical.byContradiction fun e => h2 e); (rw [if_neg h2, if_neg (fun e => e (stepC_ev i f a g l r ks hf hsh.1 h3))]); exact looks_ev i f hf ks _ _ _ h hsh.2
theorem looks_ev (i : Bool) (f : Fm) (hf : f.pcode.1 = 0) : ∀ (ks : List Pf) (d s c : Nat), (looks i ks d s c).1.1 = 0 → Pf.shorts ks → looks i (Pf.evs f ks) d s c = looks i ks d s c
  | [], _, _, _, _, _ => by rw [Pf.evs]
  | k :: ks, d, s, c, h, hsh => by
    rw [Pf.shorts] at hsh; rw [looks] at h
    split at h
    · rename_i hn
      exact absurd h hn
    · rename_i hn
      (have hn' : (look i k d s c).1.1 = 0 := Classical.byContradiction fun e => hn e); rw [Pf.evs, looks, looks, look_ev i f hf k d s c hn' hsh.1, if_neg hn, looks_ev i f hf ks _ _ _ h hsh.2]; rw [if_neg hn]
end
mutual
theorem look_size (i : Bool) : ∀ (p : Pf) (d s c : Nat), (look i p d s c).1.1 = 0 → (look i p d s c).2.1 = s + p.size ∧ d + p.deep ≤ 401
  | .mk a g l r ks, d, s, c, h => by
    rw [look_def] at h ⊢
    split at h
    · cases h
    · rename_i h1
      rw [if_neg h1]
      split at h
      · rename_i h2
        exact absurd h h2
      · rename_i h2
        rw [if_neg h2]; obtain ⟨h3, h4⟩ := looks_size i ks _ _ _ h; rw [h3, Pf.size, Pf.deep]; omega
theorem looks_size (i : Bool) : ∀ (ks : List Pf) (d s c : Nat), (looks i ks d s c).1.1 = 0 → (looks i ks d s c).2.1 = s + Pf.sizes ks ∧ (d ≤ 401 → d + Pf.deeps ks ≤ 401)
  | [], d, s, c, h => by rw [looks, Pf.sizes, Pf.deeps]; exact ⟨by simp, fun h => by omega⟩
  | k :: ks, d, s, c, h => by
    rw [looks] at h ⊢
    split at h
    · rename_i hn
      exact absurd h hn
    · rename_i hn
      (have hn' : (look i k d s c).1.1 = 0 := Classical.byContradiction fun e => hn e); rw [if_neg hn]; obtain ⟨h1, h2⟩ := look_size i k d s c hn'; obtain ⟨h3, h4⟩ := looks_size i ks _ _ _ h; rw [h3, h1, Pf.sizes, Pf.deeps]; (exact ⟨by omega, fun hd => by have := h4 hd; omega⟩)
end
end Go.Proofs.Ytlmjnglcdgkomac
