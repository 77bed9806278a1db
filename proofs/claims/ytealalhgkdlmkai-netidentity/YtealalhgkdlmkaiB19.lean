/- Texts of one proof, one behind the other: OpenL. -/
import Derived.Test.YtealalhgkdlmkaiB11
import Derived.Test.YtealalhgkdlmkaiB15
/- Linear formulas, and lists of them, that came in, as data. -/
namespace Go.Proofs.Ytealalhgkdlmkai
open Go.RowKit

theorem cellsLm : Try.prog.cellsOf 52 = 4 := by kernel_rfl
theorem cellsLs : Try.prog.cellsOf 22 = 1 := by kernel_rfl
theorem cellsIL : Try.prog.cellsOf 3 = 1 := by kernel_rfl
theorem cellsSL : Try.prog.cellsOf 9 = 1 := by kernel_rfl
theorem cellsBL : Try.prog.cellsOf 4 = 1 := by kernel_rfl
section
variable {H : Type} {enc : TypeId × Value → H} {W : World} {spare : Nat → Bool} {held : Bool}
/-- Cells that read as linear formulas, one behind the other. -/
theorem lreps_of {b off len : Nat} (rd : ∀ i, i < len → ∃ c0 c1 c2 c3 f, W.cell? ⟨b, off + i * 4, none⟩ = some c0 ∧ W.cell? ⟨b, off + i * 4 + 1, none⟩ = some c1 ∧ W.cell? ⟨b, off + i * 4 + 2, none⟩ = some c2 ∧ W.cell? ⟨b, off + i * 4 + 3, none⟩ = some c3 ∧ LRep W f (.agg #[c0, c1, c2, c3])) :
    ∃ fs : List Lm, fs.length = len ∧ LReps W b off fs := by
  induction len generalizing off with
  | zero => exact ⟨[], rfl, LReps.nil⟩
  | succ len ih =>
    (obtain ⟨c0, c1, c2, c3, f, h0, h1, h2, h3, hr⟩ := rd 0 (by omega))
    obtain ⟨fs, hl, hrs⟩ := ih (off := off + 4) (fun i hi => by
      (obtain ⟨d0, d1, d2, d3, g, k0, k1, k2, k3, kr⟩ := rd (i + 1) (by omega)); (have e : off + (i + 1) * 4 = off + 4 + i * 4 := by omega); rw [e] at k0 k1 k2 k3
      exact ⟨d0, d1, d2, d3, g, k0, k1, k2, k3, kr⟩)
    (exact ⟨f :: fs, by simp [hl], LReps.cons.2 ⟨⟨c0, c1, c2, c3, by simpa using h0, by simpa using h1, by simpa using h2, by simpa using h3, hr⟩, hrs⟩⟩)
set_option maxRecDepth 100000 in
/-- A list whose elements read as linear formulas. -/
theorem ll_of {fuel : Nat} (ih : ∀ (m : Nat), m < fuel → ∀ (cs : List Value) (x : DataW H × List MemPlace), DataW.trod enc Try.prog W 0 spare held m 52 cs = some x → ∃ c0 c1 c2 c3 f, cs = [c0, c1, c2, c3] ∧ LRep W f (.agg #[c0, c1, c2, c3])) (cs : List Value) (x : DataW H × List MemPlace) (h : DataW.trod enc Try.prog W 0 spare held fuel 22 cs = some x) : ∃ v l, cs = [v] ∧ LL W v l := by
  rcases DataW.trod_slice Try.underlying22 h with ⟨rfl, -⟩ | ⟨a, len, cap, elems, rest, m, hm, rfl, -, -, hlc, hcm, hel, hall, -⟩
  · exact ⟨_, [], rfl, none, 0, rfl, by simp, by simp, fun h => absurd rfl h⟩
  · obtain ⟨b, off, spot⟩ := a
    by_cases hz : len = 0
    · subst hz
      (exact ⟨_, [], rfl, _, cap, rfl, by simp, hcm, fun h => absurd rfl h⟩)
    · have hsp : spot = none := by
        (have hh := hall 0 (by omega)); (rw [cellsLm, List.getElem?_eq_getElem (by omega)] at hh); obtain ⟨cs', hcs, htr⟩ := Option.bind_eq_some_iff.1 hh; obtain ⟨-, hl3, hcell⟩ := World.cells?_some hcs; (obtain ⟨d0, d1, d2, d3, f, rfl, -⟩ := ih m (by omega) cs' _ htr); (have g0 := hcell 0 (by omega)); simp [Addr.add] at g0; simpa using World.cell?_spot g0
      subst hsp
      obtain ⟨fs, hfl, hrs⟩ := lreps_of (W := W) (b := b) (off := off) (len := len) (fun i hi => by
        have hh := hall i hi; (rw [cellsLm, List.getElem?_eq_getElem (by omega), add_none] at hh); obtain ⟨cs', hcs, htr⟩ := Option.bind_eq_some_iff.1 hh; obtain ⟨-, hl3, hcell⟩ := World.cells?_some hcs; (obtain ⟨d0, d1, d2, d3, f, rfl, hr⟩ := ih m (by omega) cs' _ htr); (have g0 := hcell 0 (by omega)); (have g1 := hcell 1 (by omega)); (have g2 := hcell 2 (by omega)); (have g3 := hcell 3 (by omega)); rw [add_none] at g0 g1 g2 g3
        exact ⟨d0, d1, d2, d3, f, g0, g1, g2, g3, hr⟩)
      subst hfl; (exact ⟨_, fs, rfl, _, cap, rfl, hlc, hcm, fun _ => ⟨b, off, rfl, hrs⟩⟩)
set_option maxRecDepth 100000 in
theorem lrep_of_trod : ∀ (fuel : Nat) (cs : List Value) (x : DataW H × List MemPlace), DataW.trod enc Try.prog W 0 spare held fuel 52 cs = some x →
    ∃ c0 c1 c2 c3 f, cs = [c0, c1, c2, c3] ∧ LRep W f (.agg #[c0, c1, c2, c3]) := by
  intro fuel
  induction fuel using Nat.strongRecOn with
  | _ fuel ih =>
    intro cs x h; obtain ⟨xs, n, hfu, -, hl, hlen, hf⟩ := DataW.trod_struct Try.underlying52 h; rw [cellsLm] at hl
    match cs, hl with
    | [c0, c1, c2, c3], _ =>
      have h0 := hf 0 _ rfl; have h1 := hf 1 _ rfl; have h2 := hf 2 _ rfl; have h3 := hf 3 _ rfl; simp at hlen
      match xs, hlen with
      | [y0, y1, y2, y3], _ =>
        simp [cellsIL, cellsSL, cellsBL, cellsLs] at h0 h1 h2 h3; obtain ⟨k, e0, -, -⟩ := DataW.trod_int Try.underlying3 h0; obtain ⟨s, e1, -, hs⟩ := DataW.trod_string Try.underlying9 h1; obtain ⟨g, e2, -, -⟩ := DataW.trod_bool Try.underlying4 h2; (obtain ⟨v, ks, e3, hll⟩ := ll_of (fun m hm => ih m (by omega)) _ _ h3); simp at e0 e1 e2 e3; subst e0 e1 e2 e3; obtain ⟨sl, cap, rfl, g1, g2, g3⟩ := hll; exact ⟨_, _, _, _, .mk k s g ks, rfl, LRep.def.2 ⟨sl, cap, rfl, hs, g1, g2, g3⟩⟩
theorem ll_of_trod (fuel : Nat) (cs : List Value) (x : DataW H × List MemPlace) (h : DataW.trod enc Try.prog W 0 spare held fuel 22 cs = some x) : ∃ v l, cs = [v] ∧ LL W v l := ll_of (fun m _ => lrep_of_trod m) cs x h
end
end Go.Proofs.Ytealalhgkdlmkai
