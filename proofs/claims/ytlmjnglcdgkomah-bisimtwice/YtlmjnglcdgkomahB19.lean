/- Texts of one proof, one behind the other: Open7. -/
import Derived.Test.YtlmjnglcdgkomahB15
import Derived.Test.YtlmjnglcdgkomahB13
import Derived.OpenShut
/- An argument of type Model. -/
namespace Go.Proofs.Ytlmjnglcdgkomah
open Go.RowKit

theorem cellsM : Try.prog.cellsOf 30 = 3 := by kernel_rfl
theorem cellsPr : Try.prog.cellsOf 42 = 2 := by kernel_rfl
theorem cellsPrs : Try.prog.cellsOf 27 = 1 := by kernel_rfl
theorem cellsTx : Try.prog.cellsOf 80 = 1 := by kernel_rfl
theorem cellsTs : Try.prog.cellsOf 28 = 1 := by kernel_rfl
theorem cellsN : Try.prog.cellsOf 3 = 1 := by kernel_rfl
theorem list_ofM {α : Type} {P : Nat → α → Prop} : ∀ (len : Nat), (∀ i, i < len → ∃ x, P i x) → ∃ l : List α, l.length = len ∧ ∀ (j : Nat) (x : α), l[j]? = some x → P j x
  | 0, _ => ⟨[], rfl, fun j x h => by simp at h⟩
  | len + 1, h => by
    (obtain ⟨l, hl, hp⟩ := list_ofM len fun i hi => h i (by omega)); (obtain ⟨x, hx⟩ := h len (by omega)); (refine ⟨l ++ [x], by simp [hl], fun j y hj => ?_⟩); by_cases e : j < len
    · rw [List.getElem?_append_left (by omega)] at hj
      exact hp j y hj
    · rw [List.getElem?_append_right (by omega)] at hj
      by_cases e2 : j = len
      · subst e2
        rw [hl, Nat.sub_self] at hj; simp at hj; rw [← hj]; exact hx
      · rw [List.getElem?_eq_none (by simp; omega)] at hj
        cases hj
section
variable {H : Type} {enc : TypeId × Value → H} {W : World} {spare : Nat → Bool} {held : Bool}

set_option maxRecDepth 100000 in
theorem pr_of_trod (fuel : Nat) (cs : List Value) (x : DataW H × List MemPlace) (h : DataW.trod enc Try.prog W 0 spare held fuel 42 cs = some x) : ∃ a b : Int, cs = [.int .i64 a, .int .i64 b] := by
  obtain ⟨xs, m, -, -, hl, hlen, hall⟩ := DataW.trod_array Try.underlying42 h; rw [cellsPr] at hl
  match cs, hl with
  | [c0, c1], _ =>
    match xs, hlen with
    | [y0, y1], _ =>
      (have h0 := hall 0 (by omega)); (have h1 := hall 1 (by omega)); simp [cellsN] at h0 h1; obtain ⟨k, e0, -, -⟩ := DataW.trod_int Try.underlying3 h0; obtain ⟨j, e1, -, -⟩ := DataW.trod_int Try.underlying3 h1; simp at e0 e1; subst e0 e1; exact ⟨k, j, rfl⟩
theorem pl_of_trod (fuel : Nat) (cs : List Value) (x : DataW H × List MemPlace) (h : DataW.trod enc Try.prog W 0 spare held fuel 27 cs = some x) :
    ∃ v rs, cs = [v] ∧ PL W v rs := by
  rcases DataW.trod_slice Try.underlying27 h with ⟨rfl, -⟩ | ⟨a, len, cap, elems, rest, m, hm, rfl, -, -, hlc, hcm, hel, hall, -⟩
  · exact ⟨_, [], rfl, none, 0, rfl, by simp, by simp, fun h => absurd rfl h⟩
  · obtain ⟨b, off, spot⟩ := a
    have rd : ∀ i, i < len → ∃ t : Int × Int, W.cell? ((⟨b, off, spot⟩ : Addr).add (i * 2)) = some (.int .i64 t.1) ∧ W.cell? (((⟨b, off, spot⟩ : Addr).add (i * 2)).add 1) = some (.int .i64 t.2) := fun i hi => by
      have hh := hall i hi; (rw [cellsPr, List.getElem?_eq_getElem (by omega)] at hh); obtain ⟨cs', hcs, htr⟩ := Option.bind_eq_some_iff.1 hh; obtain ⟨-, hl3, hcell⟩ := World.cells?_some hcs; obtain ⟨x, y, rfl⟩ := pr_of_trod _ _ _ htr; (have g0 := hcell 0 (by omega)); (have g1 := hcell 1 (by omega)); (exact ⟨(x, y), by simpa [Addr.add] using g0, by simpa [Addr.add] using g1⟩)
    by_cases hz : len = 0
    · subst hz
      (exact ⟨_, [], rfl, _, cap, rfl, by simp, hcm, fun h => absurd rfl h⟩)
    · have hsp : spot = none := by
        (obtain ⟨y, hy, -⟩ := rd 0 (by omega)); simp [Addr.add] at hy; simpa using World.cell?_spot hy
      subst hsp; obtain ⟨l, hl, hp⟩ := list_ofM len rd; subst hl; (refine ⟨_, l, rfl, _, cap, rfl, hlc, hcm, fun _ => ⟨b, off, rfl, fun j x y hj => ?_⟩⟩); have := hp j (x, y) hj; simp only [add_none] at this; exact this
theorem sls_of_trod (fuel : Nat) (cs : List Value) (x : DataW H × List MemPlace) (h : DataW.trod enc Try.prog W 0 spare held fuel 28 cs = some x) :
    ∃ v rs, cs = [v] ∧ SLs W v rs ∧ ∀ l ∈ rs, ∀ t ∈ l, t.length ≤ maxLen := by
  rcases DataW.trod_slice Try.underlying28 h with ⟨rfl, -⟩ | ⟨a, len, cap, elems, rest, m, hm, rfl, -, -, hlc, hcm, hel, hall, -⟩
  · exact ⟨_, [], rfl, ⟨none, 0, rfl, by simp, by simp, fun h => absurd rfl h⟩, fun l hl => by cases hl⟩
  · obtain ⟨b, off, spot⟩ := a
    have rd : ∀ i, i < len → ∃ t : List (List UInt8), ∃ v, W.cell? ((⟨b, off, spot⟩ : Addr).add i) = some v ∧ SL W v t ∧ ∀ q ∈ t, q.length ≤ maxLen := fun i hi => by
      have hh := hall i hi; (rw [cellsTx, List.getElem?_eq_getElem (by omega), Nat.mul_one] at hh); obtain ⟨cs', hcs, htr⟩ := Option.bind_eq_some_iff.1 hh; obtain ⟨-, hl3, hcell⟩ := World.cells?_some hcs; obtain ⟨v, l, rfl, hsl, hmx⟩ := sl_of_trod _ _ _ htr; (have g0 := hcell 0 (by omega)); (exact ⟨l, v, by simpa [Addr.add] using g0, hsl, hmx⟩)
    by_cases hz : len = 0
    · subst hz
      (exact ⟨_, [], rfl, ⟨_, cap, rfl, by simp, hcm, fun h => absurd rfl h⟩, fun l hl => by cases hl⟩)
    · have hsp : spot = none := by
        (obtain ⟨y, v, hy, -⟩ := rd 0 (by omega)); simp [Addr.add] at hy; simpa using World.cell?_spot hy
      subst hsp; obtain ⟨l, hl, hp⟩ := list_ofM len rd; subst hl; (refine ⟨_, l, rfl, ⟨_, cap, rfl, hlc, hcm, fun _ => ⟨b, off, rfl, fun j r hj => ?_⟩⟩, fun r hr => ?_⟩)
      · obtain ⟨v, h1, h2, -⟩ := hp j r hj
        rw [add_none] at h1; exact ⟨v, h1, h2⟩
      · obtain ⟨j, hj⟩ := List.getElem?_of_mem hr
        obtain ⟨v, -, -, h3⟩ := hp j r hj; exact h3
set_option maxRecDepth 100000 in
theorem md_of_trod (fuel : Nat) (cs : List Value) (x : DataW H × List MemPlace) (h : DataW.trod enc Try.prog W 0 spare held fuel 30 cs = some x) :
    ∃ c0 c1 c2 m, cs = [c0, c1, c2] ∧ MR W m (.agg #[c0, c1, c2]) := by
  obtain ⟨xs, n, hfu, -, hl, hlen, hf⟩ := DataW.trod_struct Try.underlying30 h; rw [cellsM] at hl
  match cs, hl with
  | [c0, c1, c2], _ =>
    have h0 := hf 0 _ rfl; have h1 := hf 1 _ rfl; have h2 := hf 2 _ rfl; simp at hlen
    match xs, hlen with
    | [y0, y1, y2], _ =>
      simp [cellsN, cellsPrs, cellsTs] at h0 h1 h2; obtain ⟨k, e0, -, -⟩ := DataW.trod_int Try.underlying3 h0; obtain ⟨vr, rs, e1, hpl⟩ := pl_of_trod _ _ _ h1; obtain ⟨vt, ts, e2, hsl, hmx⟩ := sls_of_trod _ _ _ h2; simp at e0 e1 e2; subst e0 e1 e2; have hpl2 := hpl; have hsl2 := hsl; obtain ⟨ra, rc, rfl, -⟩ := hpl2; obtain ⟨ta, tc, rfl, -⟩ := hsl2; exact ⟨_, _, _, ⟨k, rs, ts⟩, rfl, ra, rc, ta, tc, rfl, hpl, hsl, hmx⟩
end
end Go.Proofs.Ytlmjnglcdgkomah
