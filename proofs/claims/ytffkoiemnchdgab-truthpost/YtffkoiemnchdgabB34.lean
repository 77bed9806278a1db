/- Texts of one proof, one behind the other: Open3. -/
import Derived.Test.YtffkoiemnchdgabB11
import Derived.Test.YtffkoiemnchdgabB32
/- A list of tables that came in, as data. -/
namespace Go.Proofs.Ytffkoiemnchdgab
open Go.RowKit

theorem cellsT : Try.prog.cellsOf 33 = 2 := by kernel_rfl
theorem cellsB : Try.prog.cellsOf 4 = 1 := by kernel_rfl
theorem cellsBs : Try.prog.cellsOf 31 = 1 := by kernel_rfl

section
variable {H : Type} {enc : TypeId × Value → H} {W : World} {spare : Nat → Bool} {held : Bool}

theorem list_of {α : Type} {P : Nat → α → Prop} : ∀ (len : Nat), (∀ i, i < len → ∃ x, P i x) → ∃ l : List α, l.length = len ∧ ∀ (j : Nat) (x : α), l[j]? = some x → P j x
  | 0, _ => ⟨[], rfl, fun j x h => by simp at h⟩
  | len + 1, h => by
    (obtain ⟨l, hl, hp⟩ := list_of len fun i hi => h i (by omega)); (obtain ⟨x, hx⟩ := h len (by omega)); (refine ⟨l ++ [x], by simp [hl], fun j y hj => ?_⟩); by_cases e : j < len
    · rw [List.getElem?_append_left (by omega)] at hj
      exact hp j y hj
    · rw [List.getElem?_append_right (by omega)] at hj
      by_cases e2 : j = len
      · subst e2
        rw [hl, Nat.sub_self] at hj; simp at hj; rw [← hj]; exact hx
      · rw [List.getElem?_eq_none (by simp; omega)] at hj
        cases hj

theorem bl_of_trod (fuel : Nat) (cs : List Value) (x : DataW H × List MemPlace) (h : DataW.trod enc Try.prog W 0 spare held fuel 31 cs = some x) :
    ∃ v l, cs = [v] ∧ BL W v l := by
  rcases DataW.trod_slice Try.underlying31 h with ⟨rfl, -⟩ | ⟨a, len, cap, elems, rest, m, hm, rfl, -, -, hlc, hcm, hel, hall, -⟩
  · exact ⟨_, [], rfl, BL.nil⟩
  · obtain ⟨b, off, spot⟩ := a
    have rd : ∀ i, i < len → ∃ y : Bool, W.cell? ((⟨b, off, spot⟩ : Addr).add i) = some (.bool y) := fun i hi => by
      have hh := hall i hi; (rw [cellsB, List.getElem?_eq_getElem (by omega), Nat.mul_one] at hh); obtain ⟨cs', hcs, htr⟩ := Option.bind_eq_some_iff.1 hh; obtain ⟨-, hl3, hcell⟩ := World.cells?_some hcs; obtain ⟨y, rfl, -⟩ := DataW.trod_bool Try.underlying4 htr; (have g0 := hcell 0 (by omega)); refine ⟨y, ?_⟩; simpa [Addr.add] using g0
    by_cases hz : len = 0
    · subst hz
      (exact ⟨_, [], rfl, _, cap, rfl, by simp, hcm, fun h => absurd rfl h⟩)
    · have hsp : spot = none := by
        (obtain ⟨y, hy⟩ := rd 0 (by omega)); simp [Addr.add] at hy; simpa using World.cell?_spot hy
      subst hsp; obtain ⟨l, hl, hp⟩ := list_of len rd; subst hl; (refine ⟨_, l, rfl, _, cap, rfl, hlc, hcm, fun _ => ⟨b, off, rfl, fun j y hj => ?_⟩⟩); have := hp j y hj
      rwa [add_none] at this

set_option maxRecDepth 100000 in
theorem tb_of_trod (fuel : Nat) (cs : List Value) (x : DataW H × List MemPlace) (h : DataW.trod enc Try.prog W 0 spare held fuel 33 cs = some x) :
    ∃ n v l, cs = [.int .i64 n, v] ∧ BL W v l := by
  obtain ⟨xs, n, hfu, -, hl, hlen, hf⟩ := DataW.trod_struct Try.underlying33 h; rw [cellsT] at hl
  match cs, hl with
  | [c0, c1], _ =>
    have h0 := hf 0 _ rfl; have h1 := hf 1 _ rfl; simp at hlen
    match xs, hlen with
    | [y0, y1], _ =>
      simp [cells3, cellsBs] at h0 h1; obtain ⟨k, e0, -, -⟩ := DataW.trod_int Try.underlying3 h0; obtain ⟨v, l, e1, hb⟩ := bl_of_trod _ _ _ h1; simp at e0 e1; subst e0 e1; exact ⟨k, _, l, rfl, hb⟩

theorem tq_of_trod (fuel : Nat) (cs : List Value) (x : DataW H × List MemPlace) (h : DataW.trod enc Try.prog W 0 spare held fuel 22 cs = some x) :
    ∃ v ts, cs = [v] ∧ TQ W v ts := by
  rcases DataW.trod_slice Try.underlying22 h with ⟨rfl, -⟩ | ⟨a, len, cap, elems, rest, m, hm, rfl, -, -, hlc, hcm, hel, hall, -⟩
  · exact ⟨_, [], rfl, none, 0, rfl, by simp, by simp, fun h => absurd rfl h⟩
  · obtain ⟨b, off, spot⟩ := a
    have rd : ∀ i, i < len → ∃ t : Int × List Bool, ∃ v, BL W v t.2 ∧ W.cell? ((⟨b, off, spot⟩ : Addr).add (i * 2)) = some (.int .i64 t.1) ∧ W.cell? (((⟨b, off, spot⟩ : Addr).add (i * 2)).add 1) = some v := fun i hi => by
      have hh := hall i hi; (rw [cellsT, List.getElem?_eq_getElem (by omega)] at hh); obtain ⟨cs', hcs, htr⟩ := Option.bind_eq_some_iff.1 hh; obtain ⟨-, hl3, hcell⟩ := World.cells?_some hcs; obtain ⟨n, v, l, rfl, hb⟩ := tb_of_trod _ _ _ htr; (have g0 := hcell 0 (by omega)); (have g1 := hcell 1 (by omega)); refine ⟨(n, l), v, hb, ?_, ?_⟩
      · simpa [Addr.add] using g0
      · simpa using g1
    by_cases hz : len = 0
    · subst hz
      (exact ⟨_, [], rfl, _, cap, rfl, by simp, hcm, fun h => absurd rfl h⟩)
    · have hsp : spot = none := by
        (obtain ⟨t, v, -, hy, -⟩ := rd 0 (by omega)); simp [Addr.add] at hy; simpa using World.cell?_spot hy
      subst hsp; obtain ⟨ts, hl, hp⟩ := list_of len rd; subst hl; (refine ⟨_, ts, rfl, _, cap, rfl, hlc, hcm, fun _ => ⟨b, off, rfl, fun j t hj => ?_⟩⟩); obtain ⟨v, hb, g0, g1⟩ := hp j t hj; rw [add_none] at g0 g1; rw [add_none] at g1; obtain ⟨ad, cp, rfl, h1⟩ := hb; exact ⟨ad, cp, g0, g1, ad, cp, rfl, h1⟩
end
end Go.Proofs.Ytffkoiemnchdgab
