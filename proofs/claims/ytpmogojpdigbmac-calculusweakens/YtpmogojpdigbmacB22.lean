/- Texts of one proof, one behind the other: Open4, CW1, CW2. -/
import Derived.Test.YtpmogojpdigbmacB21
/- A proof that came in, as data. -/
namespace Go.Proofs.Ytpmogojpdigbmac
open Go.RowKit

theorem cellsPf : Try.prog.cellsOf 29 = 7 := by kernel_rfl
theorem cellsSq : Try.prog.cellsOf 26 = 2 := by kernel_rfl
theorem cellsPs : Try.prog.cellsOf 27 = 1 := by kernel_rfl

section
variable {H : Type} {enc : TypeId × Value → H} {W : World} {spare : Nat → Bool} {held : Bool}

set_option maxRecDepth 100000 in
theorem fl_of_trod (fuel : Nat) (cs : List Value) (x : DataW H × List MemPlace) (h : DataW.trod enc Try.prog W 0 spare held fuel 22 cs = some x) : ∃ v l, cs = [v] ∧ FL W v l := by
  rcases DataW.trod_slice Try.underlying22 h with ⟨rfl, -⟩ | ⟨a, len, cap, elems, rest, m, hm, rfl, -, -, hlc, hcm, hel, hall, -⟩
  · exact ⟨_, [], rfl, none, 0, rfl, Nat.le_refl _, by simp, fun h => absurd rfl h⟩
  · obtain ⟨b, off, spot⟩ := a
    by_cases hz : len = 0
    · subst hz
      exact ⟨_, [], rfl, _, cap, rfl, Nat.zero_le _, hcm, fun h => absurd rfl h⟩
    · have hsp : spot = none := by
        have hh := hall 0 (by omega)
        rw [cells24, List.getElem?_eq_getElem (by omega)] at hh
        obtain ⟨cs', hcs, htr⟩ := Option.bind_eq_some_iff.1 hh
        obtain ⟨-, hl3, hcell⟩ := World.cells?_some hcs
        obtain ⟨d0, d1, d2, f, rfl, -⟩ := rep_of_trod m cs' _ htr
        have g0 := hcell 0 (by omega)
        simp [Addr.add] at g0
        simpa using World.cell?_spot g0
      subst hsp
      obtain ⟨fs, hfl, hrs⟩ := reps_of (W := W) (b := b) (off := off) (len := len) (fun i hi => by
        have hh := hall i hi
        rw [cells24, List.getElem?_eq_getElem (by omega), add_none] at hh
        obtain ⟨cs', hcs, htr⟩ := Option.bind_eq_some_iff.1 hh
        obtain ⟨-, hl3, hcell⟩ := World.cells?_some hcs
        obtain ⟨d0, d1, d2, f, rfl, hr⟩ := rep_of_trod m cs' _ htr
        have g0 := hcell 0 (by omega)
        have g1 := hcell 1 (by omega)
        have g2 := hcell 2 (by omega)
        rw [add_none] at g0 g1 g2
        exact ⟨d0, d1, d2, f, g0, g1, g2, hr⟩)
      subst hfl
      exact ⟨_, fs, rfl, _, cap, rfl, hlc, hcm, fun _ => ⟨b, off, rfl, hrs⟩⟩

theorem preps_of {b off len : Nat} (rd : ∀ i, i < len → ∃ c0 c1 c2 c3 c4 c5 c6 p, W.cell? ⟨b, off + i * 7, none⟩ = some c0 ∧ W.cell? ⟨b, off + i * 7 + 1, none⟩ = some c1 ∧ W.cell? ⟨b, off + i * 7 + 2, none⟩ = some c2 ∧ W.cell? ⟨b, off + i * 7 + 3, none⟩ = some c3 ∧ W.cell? ⟨b, off + i * 7 + 4, none⟩ = some c4 ∧ W.cell? ⟨b, off + i * 7 + 5, none⟩ = some c5 ∧ W.cell? ⟨b, off + i * 7 + 6, none⟩ = some c6 ∧ PRep W p (.agg #[c0, c1, c2, c3, c4, c5, c6])) :
    ∃ ps : List Pf, ps.length = len ∧ PReps W b off ps := by
  induction len generalizing off with
  | zero => exact ⟨[], rfl, PReps.nil⟩
  | succ len ih =>
    obtain ⟨c0, c1, c2, c3, c4, c5, c6, p, h0, h1, h2, h3, h4, h5, h6, hr⟩ := rd 0 (by omega)
    obtain ⟨ps, hl, hrs⟩ := ih (off := off + 7) (fun i hi => by
      obtain ⟨d0, d1, d2, d3, d4, d5, d6, q, k0, k1, k2, k3, k4, k5, k6, kr⟩ := rd (i + 1) (by omega)
      have e : off + (i + 1) * 7 = off + 7 + i * 7 := by omega
      rw [e] at k0 k1 k2 k3 k4 k5 k6
      exact ⟨d0, d1, d2, d3, d4, d5, d6, q, k0, k1, k2, k3, k4, k5, k6, kr⟩)
    exact ⟨p :: ps, by simp [hl], PReps.cons.2 ⟨⟨c0, c1, c2, c3, c4, c5, c6, by simpa using h0, by simpa using h1, by simpa using h2, by simpa using h3, by simpa using h4, by simpa using h5, by simpa using h6, hr⟩, hrs⟩⟩

set_option maxRecDepth 100000 in
theorem prep_of_trod : ∀ (fuel : Nat) (cs : List Value) (x : DataW H × List MemPlace), DataW.trod enc Try.prog W 0 spare held fuel 29 cs = some x →
    ∃ c0 c1 c2 c3 c4 c5 c6 p, cs = [c0, c1, c2, c3, c4, c5, c6] ∧ PRep W p (.agg #[c0, c1, c2, c3, c4, c5, c6]) := by
  intro fuel
  induction fuel using Nat.strongRecOn with
  | _ fuel ih =>
    intro cs x h
    obtain ⟨xs, n, hfu, -, hl, hlen, hf⟩ := DataW.trod_struct Try.underlying29 h
    rw [cellsPf] at hl
    match cs, hl with
    | [c0, c1, c2, c3, c4, c5, c6], _ =>
      have h0 := hf 0 _ rfl
      have h1 := hf 1 _ rfl
      have h2 := hf 2 _ rfl
      have h3 := hf 3 _ rfl
      simp at hlen
      match xs, hlen with
      | [y0, y1, y2, y3], _ =>
        simp [cells24, cells9, cellsSq, cellsPs] at h0 h1 h2 h3
        obtain ⟨s, e0, -, hs⟩ := DataW.trod_string Try.underlying9 h0
        simp at e0
        subst e0
        obtain ⟨f0, f1, f2, f, hfe, hfr⟩ := rep_of_trod _ _ _ h1
        simp at hfe
        obtain ⟨rfl, rfl, rfl⟩ := hfe
        obtain ⟨zs, n2, hfu2, -, hl2, hlen2, hf2⟩ := DataW.trod_struct Try.underlying26 h2
        have g0 := hf2 0 _ rfl
        have g1 := hf2 1 _ rfl
        simp at hlen2
        match zs, hlen2 with
        | [z0, z1], _ =>
          simp [cells22] at g0 g1
          obtain ⟨vl, l, hle, hlf⟩ := fl_of_trod _ _ _ g0
          obtain ⟨vr, r, hre, hrf⟩ := fl_of_trod _ _ _ g1
          simp at hle hre
          subst hle hre
          rcases DataW.trod_slice Try.underlying27 h3 with ⟨e2, -⟩ | ⟨a, len, cap, elems, rest, m, hm, e2, -, -, hlc, hcm, hel, hall, -⟩
          · simp at e2
            subst e2
            exact ⟨_, _, _, _, _, _, _, .mk s f l r [], rfl, PRep.def.2 ⟨_, _, _, _, _, none, 0, rfl, hs, hfr, hlf, hrf, Nat.le_refl _, by simp, fun h => absurd rfl h⟩⟩
          · simp at e2
            subst e2
            obtain ⟨b, off, spot⟩ := a
            by_cases hz : len = 0
            · subst hz
              exact ⟨_, _, _, _, _, _, _, .mk s f l r [], rfl, PRep.def.2 ⟨_, _, _, _, _, _, cap, rfl, hs, hfr, hlf, hrf, Nat.zero_le _, hcm, fun h => absurd rfl h⟩⟩
            · have hsp : spot = none := by
                have hh := hall 0 (by omega)
                rw [cellsPf, List.getElem?_eq_getElem (by omega)] at hh
                obtain ⟨cs', hcs, htr⟩ := Option.bind_eq_some_iff.1 hh
                obtain ⟨-, hl3, hcell⟩ := World.cells?_some hcs
                obtain ⟨d0, d1, d2, d3, d4, d5, d6, q, rfl, -⟩ := ih m (by omega) cs' _ htr
                have k0 := hcell 0 (by omega)
                simp [Addr.add] at k0
                simpa using World.cell?_spot k0
              subst hsp
              obtain ⟨ps, hpl, hps⟩ := preps_of (W := W) (b := b) (off := off) (len := len) (fun i hi => by
                have hh := hall i hi
                rw [cellsPf, List.getElem?_eq_getElem (by omega), add_none] at hh
                obtain ⟨cs', hcs, htr⟩ := Option.bind_eq_some_iff.1 hh
                obtain ⟨-, hl3, hcell⟩ := World.cells?_some hcs
                obtain ⟨d0, d1, d2, d3, d4, d5, d6, q, rfl, hr⟩ := ih m (by omega) cs' _ htr
                have k0 := hcell 0 (by omega)
                have k1 := hcell 1 (by omega)
                have k2 := hcell 2 (by omega)
                have k3 := hcell 3 (by omega)
                have k4 := hcell 4 (by omega)
                have k5 := hcell 5 (by omega)
                have k6 := hcell 6 (by omega)
                rw [add_none] at k0 k1 k2 k3 k4 k5 k6
                exact ⟨d0, d1, d2, d3, d4, d5, d6, q, k0, k1, k2, k3, k4, k5, k6, hr⟩)
              subst hpl
              exact ⟨_, _, _, _, _, _, _, .mk s f l r ps, rfl, PRep.def.2 ⟨_, _, _, _, _, _, cap, rfl, hs, hfr, hlf, hrf, hlc, hcm, fun _ => ⟨b, off, rfl, hps⟩⟩⟩
end
end Go.Proofs.Ytpmogojpdigbmac
/- A proof with a formula more at the left of each step: plain. -/
namespace Go.Proofs.Ytpmogojpdigbmac
open Go.RowKit

mutual
/-- With a formula more at each left. -/
def Pf.ev (f : Fm) : Pf → Pf
  | .mk a g l r ks => .mk a g (l ++ [f]) r (Pf.evs f ks)
def Pf.evs (f : Fm) : List Pf → List Pf
  | [] => []
  | k :: ks => k.ev f :: Pf.evs f ks
end
mutual
/-- All steps, each ahead of those in it. -/
def Pf.nodes : Pf → List Pf
  | .mk a g l r ks => .mk a g l r ks :: Pf.nodesL ks
def Pf.nodesL : List Pf → List Pf
  | [] => []
  | k :: ks => k.nodes ++ Pf.nodesL ks
end
mutual
def Pf.deep : Pf → Nat
  | .mk _ _ _ _ ks => Pf.deeps ks + 1
def Pf.deeps : List Pf → Nat
  | [] => 0
  | k :: ks => max k.deep (Pf.deeps ks)
end
mutual
/-- Room for one more at each step. -/
def Pf.short : Pf → Prop
  | .mk _ _ l r ks => l.length + r.length < 60 ∧ Pf.shorts ks
def Pf.shorts : List Pf → Prop
  | [] => True
  | k :: ks => k.short ∧ Pf.shorts ks
end
theorem ev_l (f : Fm) (k : Pf) : (k.ev f).l = k.l ++ [f] := by cases k; rw [Pf.ev]; rfl
theorem ev_r (f : Fm) (k : Pf) : (k.ev f).r = k.r := by cases k; rw [Pf.ev]; rfl
theorem evs_map (f : Fm) : ∀ ks, Pf.evs f ks = ks.map (Pf.ev f)
  | [] => by rw [Pf.evs]; rfl
  | k :: ks => by rw [Pf.evs, evs_map f ks]; rfl
theorem evs_len (f : Fm) (ks : List Pf) : (Pf.evs f ks).length = ks.length := by rw [evs_map, List.length_map]

mutual
theorem ev_size (f : Fm) : ∀ p : Pf, (p.ev f).size = p.size
  | .mk a g l r ks => by rw [Pf.ev, Pf.size, Pf.size, evs_size f ks]
theorem evs_size (f : Fm) : ∀ ks : List Pf, Pf.sizes (Pf.evs f ks) = Pf.sizes ks
  | [] => by rw [Pf.evs]
  | k :: ks => by rw [Pf.evs, Pf.sizes, Pf.sizes, ev_size f k, evs_size f ks]
end
mutual
theorem ev_deep (f : Fm) : ∀ p : Pf, (p.ev f).deep = p.deep
  | .mk a g l r ks => by rw [Pf.ev, Pf.deep, Pf.deep, evs_deep f ks]
theorem evs_deep (f : Fm) : ∀ ks : List Pf, Pf.deeps (Pf.evs f ks) = Pf.deeps ks
  | [] => by rw [Pf.evs]
  | k :: ks => by rw [Pf.evs, Pf.deeps, Pf.deeps, ev_deep f k, evs_deep f ks]
end
mutual
theorem nodes_size : ∀ p : Pf, p.nodes.length = p.size
  | .mk a g l r ks => by rw [Pf.nodes, Pf.size, List.length_cons, nodesL_size ks]
theorem nodesL_size : ∀ ks : List Pf, (Pf.nodesL ks).length = Pf.sizes ks
  | [] => by rw [Pf.nodesL, Pf.sizes]; rfl
  | k :: ks => by rw [Pf.nodesL, Pf.sizes, List.length_append, nodes_size k, nodesL_size ks]
end
mutual
theorem ev_short (f : Fm) : ∀ p : Pf, (∀ x ∈ (p.ev f).nodes, x.l.length + x.r.length ≤ 60) → p.short
  | .mk a g l r ks, h => by
    rw [Pf.ev, Pf.nodes] at h
    rw [Pf.short]
    refine ⟨?_, evs_short f ks fun x hx => h x (List.mem_cons_of_mem _ hx)⟩
    have := h _ List.mem_cons_self
    rw [show (Pf.mk a g (l ++ [f]) r (Pf.evs f ks)).l = l ++ [f] from rfl, show (Pf.mk a g (l ++ [f]) r (Pf.evs f ks)).r = r from rfl, List.length_append] at this
    simp at this
    omega
theorem evs_short (f : Fm) : ∀ ks : List Pf, (∀ x ∈ Pf.nodesL (Pf.evs f ks), x.l.length + x.r.length ≤ 60) → Pf.shorts ks
  | [], _ => by rw [Pf.shorts]; trivial
  | k :: ks, h => by
    rw [Pf.evs, Pf.nodesL] at h
    rw [Pf.shorts]
    exact ⟨ev_short f k fun x hx => h x (List.mem_append_left _ hx), evs_short f ks fun x hx => h x (List.mem_append_right _ hx)⟩
end

theorem firstBad_zero : ∀ (l : List Fm) (i : Nat), (∀ f ∈ l, f.pcode.1 = 0) → firstBad l i = (0, 0)
  | [], _, _ => rfl
  | f :: l, i, h => by
    rw [firstBad, if_pos (h f List.mem_cons_self)]
    exact firstBad_zero l (i + 1) fun g hg => h g (List.mem_cons_of_mem _ hg)
theorem firstBad_all : ∀ (l : List Fm) (i : Nat), (firstBad l i).1 = 0 → ∀ f ∈ l, f.pcode.1 = 0
  | [], _, _, f, hf => by cases hf
  | g :: l, i, h, f, hf => by
    rw [firstBad] at h
    split at h
    · rename_i hg
      rcases List.mem_cons.1 hf with rfl | hf
      · exact hg
      · exact firstBad_all l (i + 1) h f hf
    · rename_i hg
      exact absurd h hg
theorem seqCode_zero {l r : List Fm} (h : (seqCode l r).1 = 0) : l.length + r.length ≤ 60 ∧ ∀ f ∈ l ++ r, f.pcode.1 = 0 := by
  unfold seqCode at h
  split at h
  · cases h
  · exact ⟨by omega, firstBad_all _ _ h⟩
theorem seqCode_more {l r : List Fm} {f : Fm} (h : (seqCode l r).1 = 0) (hf : f.pcode.1 = 0) (hl : l.length + r.length < 60) : (seqCode (l ++ [f]) r).1 = 0 := by
  obtain ⟨-, h2⟩ := seqCode_zero h
  unfold seqCode
  rw [if_neg (by simp; omega), firstBad_zero]
  intro g hg
  simp only [List.append_assoc, List.mem_append, List.mem_cons, List.not_mem_nil, or_false] at hg h2
  rcases hg with hg | rfl | hg
  · exact h2 g (Or.inl hg)
  · exact hf
  · exact h2 g (Or.inr hg)

/-- Premises with a formula more. -/
def EvR (f : Fm) : List (List Fm × List Fm) → List (List Fm × List Fm) → Prop
  | [], [] => True
  | s :: ss, t :: ts => t.1.Perm (s.1 ++ [f]) ∧ t.2 = s.2 ∧ EvR f ss ts
  | _, _ => False
theorem EvR.len {f : Fm} : ∀ {ss ts : List (List Fm × List Fm)}, EvR f ss ts → ts.length = ss.length
  | [], [], _ => rfl
  | s :: ss, t :: ts, h => by rw [List.length_cons, List.length_cons, EvR.len h.2.2]
  | [], _ :: _, h => h.elim
  | _ :: _, [], h => h.elim
theorem kidsC_ev {f : Fm} : ∀ {ks : List Pf} {ss ts : List (List Fm × List Fm)}, EvR f ss ts → kidsC ks ss = 0 → kidsC (Pf.evs f ks) ts = 0
  | [], ss, ts, _, _ => by rw [Pf.evs]; cases ts <;> rfl
  | k :: ks, [], [], _, _ => by rw [Pf.evs]; rfl
  | k :: ks, s :: ss, t :: ts, h, h0 => by
    rw [kidsC] at h0
    split at h0
    · rename_i hb
      rw [Bool.and_eq_true, isEq_perm, isEq_perm] at hb
      rw [Pf.evs, kidsC, if_pos]
      · exact kidsC_ev h.2.2 h0
      · rw [Bool.and_eq_true, isEq_perm, isEq_perm, ev_l, ev_r, h.2.1]
        exact ⟨(hb.1.append_right [f]).trans h.1.symm, hb.2⟩
    · cases h0
  | _ :: _, [], _ :: _, h, _ => h.elim
  | _ :: _, _ :: _, [], h, _ => h.elim
theorem swap_last (l : List Fm) (a f : Fm) : ((l ++ [f]) ++ [a]).Perm ((l ++ [a]) ++ [f]) := by
  rw [List.append_assoc, List.append_assoc]
  exact List.Perm.append_left l (List.perm_append_comm (l₁ := [f]) (l₂ := [a]))
theorem swap_last2 (l : List Fm) (a b f : Fm) : ((l ++ [f]) ++ [a, b]).Perm ((l ++ [a, b]) ++ [f]) := by
  rw [List.append_assoc, List.append_assoc]
  exact List.Perm.append_left l (List.perm_append_comm (l₁ := [f]) (l₂ := [a, b]))
theorem prem_ev (i : Bool) (q : Ru) (g f : Fm) (l r : List Fm) (ss : List (List Fm × List Fm)) (h : prem i q g l r = some ss) : ∃ ts, prem i q g (l ++ [f]) r = some ts ∧ EvR f ss ts := by
  have hmem : g ∈ l → g ∈ l ++ [f] := fun h => List.mem_append_left _ h
  have her : g ∈ l → (l ++ [f]).erase g = l.erase g ++ [f] := fun h => List.erase_append_left _ h
  cases q <;> simp only [prem] at h ⊢
  case tr =>
    split at h
    · rename_i hc
      cases h
      refine ⟨[], if_pos hc, ?_⟩
      trivial
    · cases h
  case fa =>
    split at h
    · rename_i hc
      cases h
      exact ⟨[], if_pos ⟨hc.1, hmem hc.2⟩, trivial⟩
    · cases h
  case cut => cases h; exact ⟨_, rfl, List.Perm.refl _, rfl, swap_last _ _ _, rfl, trivial⟩
  all_goals
    split at h
    · rename_i hc
      cases h
      first
        | exact ⟨[], if_pos ⟨hmem hc.1, hc.2⟩, trivial⟩
        | exact ⟨[], if_pos hc, trivial⟩
        | exact ⟨[], if_pos ⟨hc.1, hmem hc.2⟩, trivial⟩
        | exact ⟨_, if_pos ⟨hc.1, hmem hc.2⟩, by rw [her hc.2]; exact swap_last2 _ _ _ _, rfl, trivial⟩
        | exact ⟨_, if_pos ⟨hc.1, hmem hc.2⟩, by rw [her hc.2]; exact swap_last _ _ _, rfl, by rw [her hc.2]; exact swap_last _ _ _, rfl, trivial⟩
        | exact ⟨_, if_pos ⟨hc.1, hmem hc.2⟩, by rw [her hc.2], rfl, by rw [her hc.2]; exact swap_last _ _ _, rfl, trivial⟩
        | exact ⟨_, if_pos ⟨hc.1, hmem hc.2⟩, by rw [her hc.2], rfl, trivial⟩
        | exact ⟨_, if_pos (hmem hc), swap_last _ _ _, rfl, trivial⟩
        | exact ⟨_, if_pos hc, swap_last _ _ _, rfl, trivial⟩
        | exact ⟨_, if_pos hc, List.Perm.refl _, rfl, List.Perm.refl _, rfl, trivial⟩
        | exact ⟨_, if_pos hc, List.Perm.refl _, rfl, trivial⟩
    · cases h
theorem stepC_ev (i : Bool) (f : Fm) (a : ByteArray) (g : Fm) (l r : List Fm) (ks : List Pf) (hf : f.pcode.1 = 0) (hl : l.length + r.length < 60) (h : stepC i (.mk a g l r ks) = 0) : stepC i (.mk a g (l ++ [f]) r (Pf.evs f ks)) = 0 := by
  rw [stepC] at h ⊢
  split at h
  · cases h
  · rename_i hn
    have hn1 : (seqCode l r).1 = 0 := Classical.byContradiction fun e => hn (Or.inl e)
    rw [if_neg (fun e => e.elim (fun e => e (seqCode_more hn1 hf hl)) fun e => hn (Or.inr e))]
    split at h
    · rename_i hw
      rw [if_pos hw]
      unfold weakC at h ⊢
      split at h
      · rename_i hg
        rw [if_pos hg]
        split at h
        · rename_i k
          split at h
          · rename_i hb
            rw [Bool.and_eq_true] at hb
            simp only [Pf.evs]
            rw [if_pos]
            rw [Bool.and_eq_true, ev_l, ev_r]
            refine ⟨(within_count _ _).2 fun x => ?_, hb.2⟩
            have := (within_count _ _).1 hb.1 x
            rw [List.count_append, List.count_append]
            omega
          · cases h
        · cases h
      · cases h
    · rename_i hw
      rw [if_neg hw]
      split at h
      · cases h
      · rename_i q hq
        split at h
        · cases h
        · rename_i hp
          rw [if_neg hp]
          split at h
          · cases h
          · rename_i ss hss
            obtain ⟨ts, hts, hev⟩ := prem_ev i q g f l r ss hss
            rw [hts]
            simp only
            split at h
            · cases h
            · rename_i hlen
              rw [if_neg (by rw [evs_len, hev.len]; exact hlen)]
              exact kidsC_ev hev h

mutual
/-- **A proof stays one.** -/
theorem look_ev (i : Bool) (f : Fm) (hf : f.pcode.1 = 0) : ∀ (p : Pf) (d s c : Nat), (look i p d s c).1.1 = 0 → p.short → look i (p.ev f) d s c = look i p d s c
  | .mk a g l r ks, d, s, c, h, hsh => by
    rw [Pf.short] at hsh
    rw [Pf.ev]
    rw [look_def] at h ⊢
    rw [look_def]
    split at h
    · cases h
    · rename_i h1
      rw [if_neg h1, if_neg h1]
      split at h
      · rename_i h2
        exact absurd h h2
      · rename_i h2
        have h3 : stepC i (.mk a g l r ks) = 0 := Classical.byContradiction fun e => h2 e
        rw [if_neg h2, if_neg (fun e => e (stepC_ev i f a g l r ks hf hsh.1 h3))]
        exact looks_ev i f hf ks _ _ _ h hsh.2
theorem looks_ev (i : Bool) (f : Fm) (hf : f.pcode.1 = 0) : ∀ (ks : List Pf) (d s c : Nat), (looks i ks d s c).1.1 = 0 → Pf.shorts ks → looks i (Pf.evs f ks) d s c = looks i ks d s c
  | [], _, _, _, _, _ => by rw [Pf.evs]
  | k :: ks, d, s, c, h, hsh => by
    rw [Pf.shorts] at hsh
    rw [looks] at h
    split at h
    · rename_i hn
      exact absurd h hn
    · rename_i hn
      have hn' : (look i k d s c).1.1 = 0 := Classical.byContradiction fun e => hn e
      rw [Pf.evs, looks, looks, look_ev i f hf k d s c hn' hsh.1, if_neg hn, looks_ev i f hf ks _ _ _ h hsh.2]
      rw [if_neg hn]
end
mutual
theorem look_size (i : Bool) : ∀ (p : Pf) (d s c : Nat), (look i p d s c).1.1 = 0 → (look i p d s c).2.1 = s + p.size ∧ d + p.deep ≤ 401
  | .mk a g l r ks, d, s, c, h => by
    rw [look_def] at h ⊢
    split at h
    · cases h
    · rename_i h1
      rw [if_neg h1]
      split at h
      · rename_i h2
        exact absurd h h2
      · rename_i h2
        rw [if_neg h2]
        obtain ⟨h3, h4⟩ := looks_size i ks _ _ _ h
        rw [h3, Pf.size, Pf.deep]
        omega
theorem looks_size (i : Bool) : ∀ (ks : List Pf) (d s c : Nat), (looks i ks d s c).1.1 = 0 → (looks i ks d s c).2.1 = s + Pf.sizes ks ∧ (d ≤ 401 → d + Pf.deeps ks ≤ 401)
  | [], d, s, c, h => by rw [looks, Pf.sizes, Pf.deeps]; exact ⟨by simp, fun h => by omega⟩
  | k :: ks, d, s, c, h => by
    rw [looks] at h ⊢
    split at h
    · rename_i hn
      exact absurd h hn
    · rename_i hn
      have hn' : (look i k d s c).1.1 = 0 := Classical.byContradiction fun e => hn e
      rw [if_neg hn]
      obtain ⟨h1, h2⟩ := look_size i k d s c hn'
      obtain ⟨h3, h4⟩ := looks_size i ks _ _ _ h
      rw [h3, h1, Pf.sizes, Pf.deeps]
      exact ⟨by omega, fun hd => by have := h4 hd; omega⟩
end
end Go.Proofs.Ytpmogojpdigbmac
/- Walks: a copy of a list of formulas. -/
namespace Go.Proofs.Ytpmogojpdigbmac
open Go.RowKit

theorem fsize_pos (f : Fm) : 1 ≤ f.size := by cases f; rw [Fm.size]; omega
theorem len_sizes : ∀ ks : List Fm, ks.length ≤ Fm.sizes ks
  | [] => by simp
  | k :: ks => by
    have := len_sizes ks
    have := fsize_pos k
    rw [Fm.sizes, List.length_cons]; omega
mutual
theorem slim_of : ∀ (f : Fm), f.size ≤ 25000 → Slim f
  | .mk k n ks, h => by
    rw [Fm.size] at h
    exact Slim.mk k n ks (by have := len_sizes ks; omega) fun i f hf => by
      obtain ⟨hi, e⟩ := List.getElem?_eq_some_iff.1 hf
      exact slims_of ks (by omega) f (e ▸ List.getElem_mem hi)
theorem slims_of : ∀ (ks : List Fm), Fm.sizes ks ≤ 25000 → ∀ f ∈ ks, Slim f
  | [], _, f, hf => by cases hf
  | k :: ks, h, f, hf => by
    rw [Fm.sizes] at h
    rcases List.mem_cons.1 hf with e | hf
    · rw [e]; exact slim_of k (by omega)
    · exact slims_of ks (by omega) f hf
end

set_option maxHeartbeats 4000000 in
theorem ownList_any (fs : List Fm) (hl : fs.length ≤ 300) (hslim : ∀ f ∈ fs, Slim f) (v : Value) (w : World) (hv : FL w v fs) :
    Calls Try.prog 20 #[v] w fun e w' => ∃ ad cp, e = .returned (.slice ad fs.length cp) ∧ KO w.heap.size w' ad cp fs ∧ Below w.heap.size w w' := by
  obtain ⟨adv, cap, rfl, hx1, hx2, hx3⟩ := hv
  have HX : Hid (fs ≠ [] → ∃ b off, adv = some ⟨b, off, none⟩ ∧ Reps w (fun _ => True) b off fs) := hx3
  have HSl : Hid (∀ f ∈ fs, Slim f) := hslim
  obtain ⟨i0, hi, hz0, hz1, hz2⟩ := infoFormula
  have hlI : (fs.length : Int) ≤ 300 := by omega
  clear hx3 hslim
  go_enter Try.func20, Try.ntmps20
  go_wp2_with fail
  go_loopg [3, 4] fs.length (fun g u c wr => ∃ i ad cp, i ≤ fs.length ∧ g = fs.length - i ∧ c = .int .i64 (i : Nat) ∧ u = .slice ad i cp ∧ Below w.heap.size w wr ∧ Hid (KO w.heap.size wr ad cp (fs.take i)))
  case atStart => exact ⟨0, none, 0, by omega, by omega, rfl, rfl, Below.refl _ w, KO.nil⟩
  case round =>
    obtain ⟨i, ad, cp, hile, hg, rfl, rfl, hbr, HK⟩ := hrel
    have HG : Hid (gk = fs.length - i) := hg
    clear hg
    have zz := hbr.size
    by_cases hlt : i < fs.length
    · obtain ⟨⟨k2, n2, ks2⟩, hki⟩ : ∃ f, fs[i]? = some f := ⟨_, List.getElem?_eq_getElem hlt⟩
      have hltI : (i : Int) < (fs.length : Int) := by omega
      obtain ⟨b, off, hsl, hrs⟩ := HX.out (fun e => by rw [e] at hlt; simp at hlt)
      subst hsl
      obtain ⟨sl2, cap2, g0, g1, g2, hrep2⟩ := (hrs.up hbr).at i k2 n2 ks2 hki
      have hlc : ((i : Nat) : Int) < ((cap : Nat) : Int) := by omega
      have HIH : Hid (Calls Try.prog 29 #[.agg #[.int .i64 k2, .string n2, .slice sl2 ks2.length cap2]] wr _) := own_any _ _ wr (HSl.out _ (List.mem_of_getElem? hki)) hrep2
      have HT : Hid (fs.take (i + 1) = fs.take i ++ [.mk k2 n2 ks2]) := by
        show _ = _
        rw [List.take_add_one, hki]; rfl
      have hti : (fs.take i).length = i := by rw [List.length_take]; omega
      have HTI : Hid ((fs.take i).length = i) := hti
      have HOB : Hid (∀ b, wr.heap.size ≤ b → w.heap.size ≤ b ∧ (Value.slice ad i cp).ownBlock ≠ some b) := fun b hb => by
        obtain ⟨cs, ho, -⟩ := HK.out
        rw [hti] at ho
        exact ⟨by omega, fun e => by have := (ho.lt b e).2; omega⟩
      clear hki hrs HX hrep2 hti
      go_wp2_with (first
        | (go_at_call 29
           refine HIH.out.mono ?_
           rintro e w1 ⟨u, rfl, hrep3, hb1⟩
           obtain ⟨sl3, cap3, rfl⟩ := slice_shape hrep3
           have HR3 : Hid (Rep w1 (wr.heap.size ≤ ·) (.mk k2 n2 ks2) _) := hrep3
           have zw1 := hb1.size
           clear hrep3)
        | (at_builtin
           obtain ⟨cs, hown, hlq⟩ := (HK.out.up hb1).up ((Below.refl _ w1).alloc (Nat.le_refl _) (.cells #[.int .i64 k2, .string n2, .slice sl3 ks2.length cap3] 24 (0, 0)))
           rw [HTI.out] at hown hlq
           refine wpList_append_lies _ rfl _ _ 22 rfl w.heap.size 24 i0 (.agg #[.int .i64 0, .string ⟨#[]⟩, .slice none 0 0]) 3 48 Try.underlying22 hi hz0 hz1 hz2 rfl (by decide) _ _ _ rfl hown ⟨w1.heap.size, 0, none⟩ 1 1 [.int .i64 k2, .string n2, .slice sl3 ks2.length cap3] rfl rfl ?_ ?_ (by omega) (by unfold maxLen; omega) (by omega) (by simp; omega) _ rfl ?_
           · intro j u hu
             rw [add_none, Nat.zero_add, blk_cell (blk_new w1 _)]
             simpa using hu
           · intro u hu
             simp at hu
             rcases hu with rfl | rfl | rfl <;> rfl
           intro g3 cp3 w3 hown3 hgrow hat hlt3
           have hgrow' : (w1.alloc (.cells #[.int .i64 k2, .string n2, .slice sl3 ks2.length cap3] 24 (0, 0))).grownBy w3 (Value.slice ad i cp).ownBlock := hgrow
           have hat' : (Value.slice ad i cp).ownBlock = some g3 ∨ g3 = (w1.alloc (.cells #[.int .i64 k2, .string n2, .slice sl3 ks2.length cap3] 24 (0, 0))).heap.size := hat
           clear hgrow hat
           obtain ⟨hbB, hko⟩ := KO.app HTI.out (by omega) hown hlq (HR3.out.move fun b hb1 hb2 => ⟨rfl, (HOB.out b hb2).1, (HOB.out b hb2).2⟩) hown3 hgrow' hat'
           have HKO : Hid (KO w.heap.size w3 (some ⟨g3, 0, none⟩) cp3 (fs.take i ++ [.mk k2 n2 ks2])) := hko
           clear hgrow' hat' hown3 hown hlq hko)
        | fail)
      go_roundg (fs.length - (i + 1))
      case measure => have := HG.out; omega
      case rel =>
        refine ⟨i + 1, some ⟨g3, 0, none⟩, cp3, by omega, rfl, by go_num, rfl, (hbr.trans (hb1.mono zz)).trans hbB, ?_⟩
        show KO _ _ _ _ _
        rw [HT.out]
        exact HKO.out
    · obtain rfl : i = fs.length := by omega
      have HKE : Hid (KO w.heap.size wr ad cp fs) := by
        have := HK.out
        rw [List.take_length] at this
        exact this
      have hge : ¬ (fs.length : Int) < (fs.length : Int) := by omega
      clear HK HX
      go_wp2_with fail
      go_ret
      exact ⟨ad, cp, rfl, HKE.out, hbr⟩
end Go.Proofs.Ytpmogojpdigbmac
