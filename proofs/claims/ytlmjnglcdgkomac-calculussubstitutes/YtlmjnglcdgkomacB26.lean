/- Texts of one proof, one behind the other: Open4. -/
import Derived.Test.YtlmjnglcdgkomacB08
import Derived.Test.YtlmjnglcdgkomacB24
/- A proof that came in, as data. -/
namespace Go.Proofs.Ytlmjnglcdgkomac
open Go.RowKit

theorem cellsPf : Try.prog.cellsOf 29 = 7 := by kernel_rfl
theorem cellsSq : Try.prog.cellsOf 26 = 2 := by kernel_rfl
theorem cellsPs : Try.prog.cellsOf 27 = 1 := by kernel_rfl

section
variable {H : Type} {enc : TypeId × Value → H} {W : World} {spare : Nat → Bool} {held : Bool}

set_option maxRecDepth 100000 in
theorem fl_of_trod (fuel : Nat) (cs : List Value) (x : DataW H × List MemPlace) (h : DataW.trod enc Try.prog W 0 spare held fuel 22 cs = some x) : ∃ v l, cs = [v] ∧ FL W v l := by
  rcases DataW.trod_slice Try.underlying22 h with ⟨rfl, -⟩ | ⟨a, len, cap, elems, rest, m, hm, rfl, -, -, hlc, hcm, hel, hall, -⟩
  · exact ⟨_, [], rfl, none, 0, rfl, Nat.le_refl _, by simp, fun h => absurd rfl h⟩
  · obtain ⟨b, off, spot⟩ := a
    by_cases hz : len = 0
    · subst hz
      (exact ⟨_, [], rfl, _, cap, rfl, Nat.zero_le _, hcm, fun h => absurd rfl h⟩)
    · have hsp : spot = none := by
        (have hh := hall 0 (by omega)); (rw [cells24, List.getElem?_eq_getElem (by omega)] at hh); obtain ⟨cs', hcs, htr⟩ := Option.bind_eq_some_iff.1 hh; obtain ⟨-, hl3, hcell⟩ := World.cells?_some hcs; obtain ⟨d0, d1, d2, f, rfl, -⟩ := rep_of_trod m cs' _ htr; (have g0 := hcell 0 (by omega)); simp [Addr.add] at g0; simpa using World.cell?_spot g0
      subst hsp
      obtain ⟨fs, hfl, hrs⟩ := reps_of (W := W) (b := b) (off := off) (len := len) (fun i hi => by
        have hh := hall i hi; (rw [cells24, List.getElem?_eq_getElem (by omega), add_none] at hh); obtain ⟨cs', hcs, htr⟩ := Option.bind_eq_some_iff.1 hh; obtain ⟨-, hl3, hcell⟩ := World.cells?_some hcs; obtain ⟨d0, d1, d2, f, rfl, hr⟩ := rep_of_trod m cs' _ htr; (have g0 := hcell 0 (by omega)); (have g1 := hcell 1 (by omega)); (have g2 := hcell 2 (by omega)); rw [add_none] at g0 g1 g2
        exact ⟨d0, d1, d2, f, g0, g1, g2, hr⟩)
      subst hfl; (exact ⟨_, fs, rfl, _, cap, rfl, hlc, hcm, fun _ => ⟨b, off, rfl, hrs⟩⟩)

theorem preps_of {b off len : Nat} (rd : ∀ i, i < len → ∃ c0 c1 c2 c3 c4 c5 c6 p, W.cell? ⟨b, off + i * 7, none⟩ = some c0 ∧ W.cell? ⟨b, off + i * 7 + 1, none⟩ = some c1 ∧ W.cell? ⟨b, off + i * 7 + 2, none⟩ = some c2 ∧ W.cell? ⟨b, off + i * 7 + 3, none⟩ = some c3 ∧ W.cell? ⟨b, off + i * 7 + 4, none⟩ = some c4 ∧ W.cell? ⟨b, off + i * 7 + 5, none⟩ = some c5 ∧ W.cell? ⟨b, off + i * 7 + 6, none⟩ = some c6 ∧ PRep W p (.agg #[c0, c1, c2, c3, c4, c5, c6])) :
    ∃ ps : List Pf, ps.length = len ∧ PReps W b off ps := by
  induction len generalizing off with
  | zero => exact ⟨[], rfl, PReps.nil⟩
  | succ len ih =>
    (obtain ⟨c0, c1, c2, c3, c4, c5, c6, p, h0, h1, h2, h3, h4, h5, h6, hr⟩ := rd 0 (by omega))
    obtain ⟨ps, hl, hrs⟩ := ih (off := off + 7) (fun i hi => by
      (obtain ⟨d0, d1, d2, d3, d4, d5, d6, q, k0, k1, k2, k3, k4, k5, k6, kr⟩ := rd (i + 1) (by omega)); (have e : off + (i + 1) * 7 = off + 7 + i * 7 := by omega); rw [e] at k0 k1 k2 k3 k4 k5 k6
      exact ⟨d0, d1, d2, d3, d4, d5, d6, q, k0, k1, k2, k3, k4, k5, k6, kr⟩)
    (exact ⟨p :: ps, by simp [hl], PReps.cons.2 ⟨⟨c0, c1, c2, c3, c4, c5, c6, by simpa using h0, by simpa using h1, by simpa using h2, by simpa using h3, by simpa using h4, by simpa using h5, by simpa using h6, hr⟩, hrs⟩⟩)

set_option maxRecDepth 100000 in
theorem prep_of_trod : ∀ (fuel : Nat) (cs : List Value) (x : DataW H × List MemPlace), DataW.trod enc Try.prog W 0 spare held fuel 29 cs = some x →
    ∃ c0 c1 c2 c3 c4 c5 c6 p, cs = [c0, c1, c2, c3, c4, c5, c6] ∧ PRep W p (.agg #[c0, c1, c2, c3, c4, c5, c6]) := by
  intro fuel
  induction fuel using Nat.strongRecOn with
  | _ fuel ih =>
    intro cs x h; obtain ⟨xs, n, hfu, -, hl, hlen, hf⟩ := DataW.trod_struct Try.underlying29 h; rw [cellsPf] at hl
    match cs, hl with
    | [c0, c1, c2, c3, c4, c5, c6], _ =>
      have h0 := hf 0 _ rfl; have h1 := hf 1 _ rfl; have h2 := hf 2 _ rfl; have h3 := hf 3 _ rfl; simp at hlen
      match xs, hlen with
      | [y0, y1, y2, y3], _ =>
        simp [cells24, cells9, cellsSq, cellsPs] at h0 h1 h2 h3; obtain ⟨s, e0, -, hs⟩ := DataW.trod_string Try.underlying9 h0; simp at e0; subst e0; obtain ⟨f0, f1, f2, f, hfe, hfr⟩ := rep_of_trod _ _ _ h1; simp at hfe; obtain ⟨rfl, rfl, rfl⟩ := hfe; obtain ⟨zs, n2, hfu2, -, hl2, hlen2, hf2⟩ := DataW.trod_struct Try.underlying26 h2; have g0 := hf2 0 _ rfl; have g1 := hf2 1 _ rfl; simp at hlen2
        match zs, hlen2 with
        | [z0, z1], _ =>
          simp [cells22] at g0 g1; obtain ⟨vl, l, hle, hlf⟩ := fl_of_trod _ _ _ g0; obtain ⟨vr, r, hre, hrf⟩ := fl_of_trod _ _ _ g1; simp at hle hre; subst hle hre
          rcases DataW.trod_slice Try.underlying27 h3 with ⟨e2, -⟩ | ⟨a, len, cap, elems, rest, m, hm, e2, -, -, hlc, hcm, hel, hall, -⟩
          · simp at e2
            subst e2; (exact ⟨_, _, _, _, _, _, _, .mk s f l r [], rfl, PRep.def.2 ⟨_, _, _, _, _, none, 0, rfl, hs, hfr, hlf, hrf, Nat.le_refl _, by simp, fun h => absurd rfl h⟩⟩)
          · simp at e2
            subst e2; obtain ⟨b, off, spot⟩ := a; by_cases hz : len = 0
            · subst hz
              (exact ⟨_, _, _, _, _, _, _, .mk s f l r [], rfl, PRep.def.2 ⟨_, _, _, _, _, _, cap, rfl, hs, hfr, hlf, hrf, Nat.zero_le _, hcm, fun h => absurd rfl h⟩⟩)
            · have hsp : spot = none := by
                (have hh := hall 0 (by omega)); (rw [cellsPf, List.getElem?_eq_getElem (by omega)] at hh); obtain ⟨cs', hcs, htr⟩ := Option.bind_eq_some_iff.1 hh; obtain ⟨-, hl3, hcell⟩ := World.cells?_some hcs; (obtain ⟨d0, d1, d2, d3, d4, d5, d6, q, rfl, -⟩ := ih m (by omega) cs' _ htr); (have k0 := hcell 0 (by omega)); simp [Addr.add] at k0; simpa using World.cell?_spot k0
              subst hsp
              obtain ⟨ps, hpl, hps⟩ := preps_of (W := W) (b := b) (off := off) (len := len) (fun i hi => by
                have hh := hall i hi; (rw [cellsPf, List.getElem?_eq_getElem (by omega), add_none] at hh); obtain ⟨cs', hcs, htr⟩ := Option.bind_eq_some_iff.1 hh; obtain ⟨-, hl3, hcell⟩ := World.cells?_some hcs; (obtain ⟨d0, d1, d2, d3, d4, d5, d6, q, rfl, hr⟩ := ih m (by omega) cs' _ htr); (have k0 := hcell 0 (by omega)); (have k1 := hcell 1 (by omega)); (have k2 := hcell 2 (by omega)); (have k3 := hcell 3 (by omega)); (have k4 := hcell 4 (by omega)); (have k5 := hcell 5 (by omega)); (have k6 := hcell 6 (by omega)); rw [add_none] at k0 k1 k2 k3 k4 k5 k6
                exact ⟨d0, d1, d2, d3, d4, d5, d6, q, k0, k1, k2, k3, k4, k5, k6, hr⟩)
              subst hpl; (exact ⟨_, _, _, _, _, _, _, .mk s f l r ps, rfl, PRep.def.2 ⟨_, _, _, _, _, _, cap, rfl, hs, hfr, hlf, hrf, hlc, hcm, fun _ => ⟨b, off, rfl, hps⟩⟩⟩)
end
end Go.Proofs.Ytlmjnglcdgkomac
