/- Texts of one proof, one behind the other: OpenX. -/
import Derived.Test.YtheiikkeelbjnajGreatB07
import Derived.Test.YtheiikkeelbjnajGreatB09
import Derived.OpenShut
/- The arguments opened: expressions and words alone. -/
namespace Go.Proofs.YtheiikkeelbjnajGreat
open Go.RowKit

theorem cellsE4X : Tryz.prog.cellsOf 25 = 4 := by kernel_rfl
theorem cellsE2X : Tryz.prog.cellsOf 27 = 2 := by kernel_rfl
theorem cellsEwX : Tryz.prog.cellsOf 22 = 1 := by kernel_rfl
theorem cellsEeX : Tryz.prog.cellsOf 23 = 1 := by kernel_rfl
theorem cellsEiX : Tryz.prog.cellsOf 3 = 1 := by kernel_rfl
theorem cellsEsX : Tryz.prog.cellsOf 9 = 1 := by kernel_rfl
section
variable {H : Type} {enc : TypeId × Value → H} {W : World} {spare : Nat → Bool} {held : Bool}
/-- A slice that came in: its elements, read. -/
theorem slE_ofX {T E : TypeId} {size : Nat} (hT : Tryz.prog.underlying T = some (.slice E)) (hE : Tryz.prog.cellsOf E = size) (hs : 0 < size) {fuel : Nat} {cs : List Value} {x : DataW H × List MemPlace} (h : DataW.trod enc Tryz.prog W 0 spare held fuel T cs = some x) :
    ∃ ad len cap, cs = [.slice ad len cap] ∧ len ≤ cap ∧ cap ≤ maxLen ∧ (0 < len → ∃ b off, ad = some ⟨b, off, none⟩ ∧ ∀ i, i < len → ∃ cs' m x', m < fuel ∧ DataW.trod enc Tryz.prog W 0 spare held m E cs' = some x' ∧ ∀ j u, cs'[j]? = some u → W.cell? ⟨b, off + i * size + j, none⟩ = some u) := by
  rcases DataW.trod_slice hT h with ⟨rfl, -⟩ | ⟨a, len, cap, elems, rest, m, hm, rfl, -, -, hlc, hcm, hel, hall, -⟩
  · exact ⟨none, 0, 0, rfl, by simp, by simp, fun h => absurd h (by omega)⟩
  · obtain ⟨b, off, spot⟩ := a
    (refine ⟨_, len, cap, rfl, hlc, hcm, fun hz => ?_⟩)
    have hsp : spot = none := by
      (have hh := hall 0 (by omega)); (rw [hE, List.getElem?_eq_getElem (by omega)] at hh); obtain ⟨cs', hcs, htr⟩ := Option.bind_eq_some_iff.1 hh; obtain ⟨-, hl3, hcell⟩ := World.cells?_some hcs; (have g0 := hcell 0 (by omega)); (rw [List.getElem?_eq_getElem (by omega)] at g0); simp [Addr.add] at g0; simpa using World.cell?_spot g0
    subst hsp; (refine ⟨b, off, rfl, fun i hi => ?_⟩); have hh := hall i hi; (rw [hE, List.getElem?_eq_getElem (by omega), add_none] at hh); obtain ⟨cs', hcs, htr⟩ := Option.bind_eq_some_iff.1 hh; obtain ⟨-, hl3, hcell⟩ := World.cells?_some hcs; (refine ⟨cs', m, _, by omega, htr, fun j u hj => ?_⟩)
    have hj2 : j < size := by
      rcases Nat.lt_or_ge j cs'.length with h9 | h9
      · omega
      · rw [List.getElem?_eq_none h9] at hj; cases hj
    (have g := hcell j (by omega)); rw [add_none, hj] at g; exact g
/-- Cells that read as words, one behind the other. -/
theorem wrps_ofX {b : Nat} : ∀ (len off : Nat), (∀ i, i < len → ∃ c0 c1 f, W.cell? ⟨b, off + i * 2, none⟩ = some c0 ∧ W.cell? ⟨b, off + i * 2 + 1, none⟩ = some c1 ∧ WRp W f (.agg #[c0, c1])) → ∃ fs : List Wd, fs.length = len ∧ WRps W b off fs
  | 0, _, _ => ⟨[], rfl, WRps.nil⟩
  | len + 1, off, rd => by
    (obtain ⟨c0, c1, f, h0, h1, hr⟩ := rd 0 (by omega))
    obtain ⟨fs, hl, hrs⟩ := wrps_ofX len (off + 2) (fun i hi => by
      (obtain ⟨d0, d1, g, k0, k1, kr⟩ := rd (i + 1) (by omega)); (have e : off + (i + 1) * 2 = off + 2 + i * 2 := by omega); rw [e] at k0 k1
      exact ⟨d0, d1, g, k0, k1, kr⟩)
    (exact ⟨f :: fs, by simp [hl], WRps.cons.2 ⟨⟨c0, c1, by simpa using h0, by simpa using h1, hr⟩, hrs⟩⟩)
theorem erps_ofX {b : Nat} : ∀ (len off : Nat), (∀ i, i < len → ∃ c0 c1 c2 c3 f, W.cell? ⟨b, off + i * 4, none⟩ = some c0 ∧ W.cell? ⟨b, off + i * 4 + 1, none⟩ = some c1 ∧ W.cell? ⟨b, off + i * 4 + 2, none⟩ = some c2 ∧ W.cell? ⟨b, off + i * 4 + 3, none⟩ = some c3 ∧ ERp W f (.agg #[c0, c1, c2, c3])) → ∃ fs : List Ex, fs.length = len ∧ ERps W b off fs
  | 0, _, _ => ⟨[], rfl, ERps.nil⟩
  | len + 1, off, rd => by
    (obtain ⟨c0, c1, c2, c3, f, h0, h1, h2, h3, hr⟩ := rd 0 (by omega))
    obtain ⟨fs, hl, hrs⟩ := erps_ofX len (off + 4) (fun i hi => by
      (obtain ⟨d0, d1, d2, d3, g, k0, k1, k2, k3, kr⟩ := rd (i + 1) (by omega)); (have e : off + (i + 1) * 4 = off + 4 + i * 4 := by omega); rw [e] at k0 k1 k2 k3
      exact ⟨d0, d1, d2, d3, g, k0, k1, k2, k3, kr⟩)
    (exact ⟨f :: fs, by simp [hl], ERps.cons.2 ⟨⟨c0, c1, c2, c3, by simpa using h0, by simpa using h1, by simpa using h2, by simpa using h3, hr⟩, hrs⟩⟩)
theorem wlE_ofX {fuel : Nat} (ih : ∀ (m : Nat), m < fuel → ∀ (cs : List Value) (x : DataW H × List MemPlace), DataW.trod enc Tryz.prog W 0 spare held m 27 cs = some x → ∃ c0 c1 f, cs = [c0, c1] ∧ WRp W f (.agg #[c0, c1])) (cs : List Value) (x : DataW H × List MemPlace) (h : DataW.trod enc Tryz.prog W 0 spare held fuel 22 cs = some x) : ∃ v l, cs = [v] ∧ WL W v l := by
  (obtain ⟨ad, len, cap, rfl, h1, h2, h3⟩ := slE_ofX Tryz.underlying22 cellsE2X (by omega) h); by_cases hz : 0 < len
  · obtain ⟨b, off, rfl, h4⟩ := h3 hz
    obtain ⟨l, rfl, hp⟩ := wrps_ofX (W := W) (b := b) len off fun i hi => by
      obtain ⟨cs', m, x', hm, h5, h6⟩ := h4 i hi; obtain ⟨c0, c1, f, rfl, h7⟩ := ih m hm _ _ h5; exact ⟨c0, c1, f, h6 0 _ rfl, h6 1 _ rfl, h7⟩
    (exact ⟨_, l, rfl, _, cap, rfl, h1, h2, fun _ => ⟨b, off, rfl, hp⟩⟩)
  · obtain rfl : len = 0 := by omega
    (exact ⟨_, [], rfl, _, cap, rfl, by simp, h2, fun h => absurd rfl h⟩)
set_option maxRecDepth 100000 in
theorem wrp_of_trodX : ∀ (fuel : Nat) (cs : List Value) (x : DataW H × List MemPlace), DataW.trod enc Tryz.prog W 0 spare held fuel 27 cs = some x → ∃ c0 c1 f, cs = [c0, c1] ∧ WRp W f (.agg #[c0, c1]) := by
  intro fuel
  induction fuel using Nat.strongRecOn with
  | _ fuel ih =>
    intro cs x h; obtain ⟨xs, n, hfu, -, hl, hlen, hf⟩ := DataW.trod_struct Tryz.underlying27 h; rw [cellsE2X] at hl
    match cs, hl with
    | [c0, c1], _ =>
      have h0 := hf 0 _ rfl; have h1 := hf 1 _ rfl; simp at hlen
      match xs, hlen with
      | [y0, y1], _ =>
        simp [cellsEsX, cellsEwX] at h0 h1; obtain ⟨s, e0, -, hs⟩ := DataW.trod_string Tryz.underlying9 h0; (obtain ⟨v, l, e1, hl1⟩ := wlE_ofX (fun m hm => ih m (by omega)) _ _ h1); simp at e0 e1; subst e0 e1; obtain ⟨sl, cap, rfl, g1, g2, g3⟩ := hl1; exact ⟨_, _, .mk s l, rfl, WRp.def.2 ⟨sl, cap, rfl, hs, g1, g2, g3⟩⟩
theorem elE_ofX {fuel : Nat} (ih : ∀ (m : Nat), m < fuel → ∀ (cs : List Value) (x : DataW H × List MemPlace), DataW.trod enc Tryz.prog W 0 spare held m 25 cs = some x → ∃ c0 c1 c2 c3 f, cs = [c0, c1, c2, c3] ∧ ERp W f (.agg #[c0, c1, c2, c3])) (cs : List Value) (x : DataW H × List MemPlace) (h : DataW.trod enc Tryz.prog W 0 spare held fuel 23 cs = some x) : ∃ sl cap l, cs = [.slice sl (List.length l) cap] ∧ l.length ≤ cap ∧ cap ≤ maxLen ∧ (l ≠ [] → ∃ b off, sl = some ⟨b, off, none⟩ ∧ ERps W b off l) := by
  (obtain ⟨ad, len, cap, rfl, h1, h2, h3⟩ := slE_ofX Tryz.underlying23 cellsE4X (by omega) h); by_cases hz : 0 < len
  · obtain ⟨b, off, rfl, h4⟩ := h3 hz
    obtain ⟨l, rfl, hp⟩ := erps_ofX (W := W) (b := b) len off fun i hi => by
      obtain ⟨cs', m, x', hm, h5, h6⟩ := h4 i hi; obtain ⟨c0, c1, c2, c3, f, rfl, h7⟩ := ih m hm _ _ h5; exact ⟨c0, c1, c2, c3, f, h6 0 _ rfl, h6 1 _ rfl, h6 2 _ rfl, h6 3 _ rfl, h7⟩
    (exact ⟨_, cap, l, rfl, h1, h2, fun _ => ⟨b, off, rfl, hp⟩⟩)
  · obtain rfl : len = 0 := by omega
    (exact ⟨_, cap, [], rfl, by simp, h2, fun h => absurd rfl h⟩)
set_option maxRecDepth 100000 in
theorem erp_of_trodX : ∀ (fuel : Nat) (cs : List Value) (x : DataW H × List MemPlace), DataW.trod enc Tryz.prog W 0 spare held fuel 25 cs = some x → ∃ c0 c1 c2 c3 f, cs = [c0, c1, c2, c3] ∧ ERp W f (.agg #[c0, c1, c2, c3]) := by
  intro fuel
  induction fuel using Nat.strongRecOn with
  | _ fuel ih =>
    intro cs x h; obtain ⟨xs, n, hfu, -, hl, hlen, hf⟩ := DataW.trod_struct Tryz.underlying25 h; rw [cellsE4X] at hl
    match cs, hl with
    | [c0, c1, c2, c3], _ =>
      have h0 := hf 0 _ rfl; have h1 := hf 1 _ rfl; have h2 := hf 2 _ rfl; have h3 := hf 3 _ rfl; simp at hlen
      match xs, hlen with
      | [y0, y1, y2, y3], _ =>
        simp [cellsEiX, cellsEsX, cellsEwX, cellsEeX] at h0 h1 h2 h3; obtain ⟨k, e0, -, -⟩ := DataW.trod_int Tryz.underlying3 h0; obtain ⟨s, e1, -, hs⟩ := DataW.trod_string Tryz.underlying9 h1; (obtain ⟨v, ws, e2, hws⟩ := wlE_ofX (fun m _ => wrp_of_trodX m) _ _ h2); (obtain ⟨sk, ck, ks, e3, k1, k2, k3⟩ := elE_ofX (fun m hm => ih m (by omega)) _ _ h3); simp at e0 e1 e2 e3; subst e0 e1 e2 e3; have hws2 := hws; obtain ⟨sw, cw, rfl, -⟩ := hws2; exact ⟨_, _, _, _, .mk k s ws ks, rfl, ERp.def.2 ⟨sw, cw, sk, ck, rfl, hs, hws, k1, k2, k3⟩⟩
end
end Go.Proofs.YtheiikkeelbjnajGreat
