/- Texts of one proof, one behind the other: CC1, Free4, Open7, Open8. -/
import Derived.Test.YtclinobfbdljhahB18
import Derived.Test.YtclinobfbdljhahB11
import Derived.Test.YtclinobfbdljhahB12
import Derived.Deep.RegionLaw
import Derived.Deep.DeepCutAuto
import Derived.Test.YtclinobfbdljhahB13
import Derived.Lib.AppendZerosOnto
import Derived.Lib.SliceRun
import Derived.Test.YtclinobfbdljhahB10
import Derived.Test.YtclinobfbdljhahB07
import Derived.Maps.OwnSet
import Derived.Shelf.SlMaps.Copy
import Derived.OpenShut
import Derived.SizedLaws
/- Walks: calculus.CheckSequent, isNoEnd. -/
namespace Go.Proofs.Ytclinobfbdljhah
open Go.RowKit

theorem blk_two (w : World) (o o' : Obj) : ((w.alloc o).alloc o').heap[w.heap.size + 1]? = some o' := by
  have := blk_new (w.alloc o) o'
  rwa [show (w.alloc o).heap.size = w.heap.size + 1 by simp] at this
end Go.Proofs.Ytclinobfbdljhah
/- A frame behind a drawn region whose slots lie in a row. -/
namespace Go.Proofs.Ytclinobfbdljhah
open Go.RowKit

theorem frame_mid2 {ops : Array Oper} {tm : Array Value} {df : List Deferred} {a0 : Act} (lo n : Nat) (hin : (ops.toList.all fun o => match o.dst with | some d => decide (lo ≤ d ∧ lo + n > d) | none => true) = true) (hlen : lo + n ≤ a0.tmps.size) (h : OldSlots ops a0 ⟨tm, df⟩) : ∃ ys : List Value, ys.length = n ∧ tm = ⟨a0.tmps.toList.take lo ++ (ys ++ a0.tmps.toList.drop (lo + n))⟩ ∧ df = a0.defers := by
  obtain ⟨h1, h2, h3⟩ := h; have h1' : tm.toList.length = a0.tmps.toList.length := h1; have hl : lo + n ≤ a0.tmps.toList.length := hlen
  have old : ∀ t, (t < lo ∨ lo + n ≤ t) → tm.toList[t]? = a0.tmps.toList[t]? := fun t ht => by
    have := h3 t (by
      rw [List.all_eq_true] at hin ⊢; intro o ho; have := hin o ho
      cases hd : o.dst with
      | none => rfl
      | some d =>
        rw [hd] at this; have := of_decide_eq_true this; (refine bne_iff_ne.2 fun e => ?_); have e2 : d = t := Option.some.inj e; subst e2
        omega)
    simpa using this
  (refine ⟨(tm.toList.drop lo).take n, by rw [List.length_take, List.length_drop]; omega, ?_, h2⟩); apply Array.ext'; apply List.ext_getElem?; intro t
  rcases Nat.lt_or_ge t lo with ht | ht
  · rw [List.getElem?_append_left (by rw [List.length_take]; omega), List.getElem?_take_of_lt ht]
    exact old t (Or.inl ht)
  · rw [List.getElem?_append_right (by rw [List.length_take]; omega), List.length_take, Nat.min_eq_left (by omega)]
    rcases Nat.lt_or_ge t (lo + n) with ht2 | ht2
    · rw [List.getElem?_append_left (by rw [List.length_take, List.length_drop]; omega), List.getElem?_take_of_lt (by omega), List.getElem?_drop]
      congr 1
      omega
    · rw [List.getElem?_append_right (by rw [List.length_take, List.length_drop]; omega), List.length_take, List.length_drop, Nat.min_eq_left (by omega), List.getElem?_drop, old t (Or.inr ht2)]
      congr 1
      omega
end Go.Proofs.Ytclinobfbdljhah
/- An argument of type Model. -/
namespace Go.Proofs.Ytclinobfbdljhah
open Go.RowKit

theorem cellsM : Try.prog.cellsOf 30 = 3 := by kernel_rfl
theorem cellsPr : Try.prog.cellsOf 42 = 2 := by kernel_rfl
theorem cellsPrs : Try.prog.cellsOf 27 = 1 := by kernel_rfl
theorem cellsTx : Try.prog.cellsOf 80 = 1 := by kernel_rfl
theorem cellsTs : Try.prog.cellsOf 28 = 1 := by kernel_rfl
theorem cellsN : Try.prog.cellsOf 3 = 1 := by kernel_rfl
theorem list_ofM {α : Type} {P : Nat → α → Prop} : ∀ (len : Nat), (∀ i, i < len → ∃ x, P i x) → ∃ l : List α, l.length = len ∧ ∀ (j : Nat) (x : α), l[j]? = some x → P j x
  | 0, _ => ⟨[], rfl, fun j x h => by simp at h⟩
  | len + 1, h => by
    (obtain ⟨l, hl, hp⟩ := list_ofM len fun i hi => h i (by omega)); (obtain ⟨x, hx⟩ := h len (by omega)); (refine ⟨l ++ [x], by simp [hl], fun j y hj => ?_⟩); by_cases e : j < len
    · rw [List.getElem?_append_left (by omega)] at hj
      exact hp j y hj
    · rw [List.getElem?_append_right (by omega)] at hj
      by_cases e2 : j = len
      · subst e2
        rw [hl, Nat.sub_self] at hj; simp at hj; rw [← hj]; exact hx
      · rw [List.getElem?_eq_none (by simp; omega)] at hj
        cases hj
section
variable {H : Type} {enc : TypeId × Value → H} {W : World} {spare : Nat → Bool} {held : Bool}

set_option maxRecDepth 100000 in
theorem pr_of_trod (fuel : Nat) (cs : List Value) (x : DataW H × List MemPlace) (h : DataW.trod enc Try.prog W 0 spare held fuel 42 cs = some x) : ∃ a b : Int, cs = [.int .i64 a, .int .i64 b] := by
  obtain ⟨xs, m, -, -, hl, hlen, hall⟩ := DataW.trod_array Try.underlying42 h; rw [cellsPr] at hl
  match cs, hl with
  | [c0, c1], _ =>
    match xs, hlen with
    | [y0, y1], _ =>
      (have h0 := hall 0 (by omega)); (have h1 := hall 1 (by omega)); simp [cellsN] at h0 h1; obtain ⟨k, e0, -, -⟩ := DataW.trod_int Try.underlying3 h0; obtain ⟨j, e1, -, -⟩ := DataW.trod_int Try.underlying3 h1; simp at e0 e1; subst e0 e1; exact ⟨k, j, rfl⟩
theorem pl_of_trod (fuel : Nat) (cs : List Value) (x : DataW H × List MemPlace) (h : DataW.trod enc Try.prog W 0 spare held fuel 27 cs = some x) :
    ∃ v rs, cs = [v] ∧ PL W v rs := by
  rcases DataW.trod_slice Try.underlying27 h with ⟨rfl, -⟩ | ⟨a, len, cap, elems, rest, m, hm, rfl, -, -, hlc, hcm, hel, hall, -⟩
  · exact ⟨_, [], rfl, none, 0, rfl, by simp, by simp, fun h => absurd rfl h⟩
  · obtain ⟨b, off, spot⟩ := a
    have rd : ∀ i, i < len → ∃ t : Int × Int, W.cell? ((⟨b, off, spot⟩ : Addr).add (i * 2)) = some (.int .i64 t.1) ∧ W.cell? (((⟨b, off, spot⟩ : Addr).add (i * 2)).add 1) = some (.int .i64 t.2) := fun i hi => by
      have hh := hall i hi; (rw [cellsPr, List.getElem?_eq_getElem (by omega)] at hh); obtain ⟨cs', hcs, htr⟩ := Option.bind_eq_some_iff.1 hh; obtain ⟨-, hl3, hcell⟩ := World.cells?_some hcs; obtain ⟨x, y, rfl⟩ := pr_of_trod _ _ _ htr; (have g0 := hcell 0 (by omega)); (have g1 := hcell 1 (by omega)); (exact ⟨(x, y), by simpa [Addr.add] using g0, by simpa [Addr.add] using g1⟩)
    by_cases hz : len = 0
    · subst hz
      (exact ⟨_, [], rfl, _, cap, rfl, by simp, hcm, fun h => absurd rfl h⟩)
    · have hsp : spot = none := by
        (obtain ⟨y, hy, -⟩ := rd 0 (by omega)); simp [Addr.add] at hy; simpa using World.cell?_spot hy
      subst hsp; obtain ⟨l, hl, hp⟩ := list_ofM len rd; subst hl; (refine ⟨_, l, rfl, _, cap, rfl, hlc, hcm, fun _ => ⟨b, off, rfl, fun j x y hj => ?_⟩⟩); have := hp j (x, y) hj; simp only [add_none] at this; exact this
theorem sls_of_trod (fuel : Nat) (cs : List Value) (x : DataW H × List MemPlace) (h : DataW.trod enc Try.prog W 0 spare held fuel 28 cs = some x) :
    ∃ v rs, cs = [v] ∧ SLs W v rs ∧ ∀ l ∈ rs, ∀ t ∈ l, t.length ≤ maxLen := by
  rcases DataW.trod_slice Try.underlying28 h with ⟨rfl, -⟩ | ⟨a, len, cap, elems, rest, m, hm, rfl, -, -, hlc, hcm, hel, hall, -⟩
  · exact ⟨_, [], rfl, ⟨none, 0, rfl, by simp, by simp, fun h => absurd rfl h⟩, fun l hl => by cases hl⟩
  · obtain ⟨b, off, spot⟩ := a
    have rd : ∀ i, i < len → ∃ t : List (List UInt8), ∃ v, W.cell? ((⟨b, off, spot⟩ : Addr).add i) = some v ∧ SL W v t ∧ ∀ q ∈ t, q.length ≤ maxLen := fun i hi => by
      have hh := hall i hi; (rw [cellsTx, List.getElem?_eq_getElem (by omega), Nat.mul_one] at hh); obtain ⟨cs', hcs, htr⟩ := Option.bind_eq_some_iff.1 hh; obtain ⟨-, hl3, hcell⟩ := World.cells?_some hcs; obtain ⟨v, l, rfl, hsl, hmx⟩ := sl_of_trod _ _ _ htr; (have g0 := hcell 0 (by omega)); (exact ⟨l, v, by simpa [Addr.add] using g0, hsl, hmx⟩)
    by_cases hz : len = 0
    · subst hz
      (exact ⟨_, [], rfl, ⟨_, cap, rfl, by simp, hcm, fun h => absurd rfl h⟩, fun l hl => by cases hl⟩)
    · have hsp : spot = none := by
        (obtain ⟨y, v, hy, -⟩ := rd 0 (by omega)); simp [Addr.add] at hy; simpa using World.cell?_spot hy
      subst hsp; obtain ⟨l, hl, hp⟩ := list_ofM len rd; subst hl; (refine ⟨_, l, rfl, ⟨_, cap, rfl, hlc, hcm, fun _ => ⟨b, off, rfl, fun j r hj => ?_⟩⟩, fun r hr => ?_⟩)
      · obtain ⟨v, h1, h2, -⟩ := hp j r hj
        rw [add_none] at h1; exact ⟨v, h1, h2⟩
      · obtain ⟨j, hj⟩ := List.getElem?_of_mem hr
        obtain ⟨v, -, -, h3⟩ := hp j r hj; exact h3
set_option maxRecDepth 100000 in
theorem md_of_trod (fuel : Nat) (cs : List Value) (x : DataW H × List MemPlace) (h : DataW.trod enc Try.prog W 0 spare held fuel 30 cs = some x) :
    ∃ c0 c1 c2 m, cs = [c0, c1, c2] ∧ MR W m (.agg #[c0, c1, c2]) := by
  obtain ⟨xs, n, hfu, -, hl, hlen, hf⟩ := DataW.trod_struct Try.underlying30 h; rw [cellsM] at hl
  match cs, hl with
  | [c0, c1, c2], _ =>
    have h0 := hf 0 _ rfl; have h1 := hf 1 _ rfl; have h2 := hf 2 _ rfl; simp at hlen
    match xs, hlen with
    | [y0, y1, y2], _ =>
      simp [cellsN, cellsPrs, cellsTs] at h0 h1 h2; obtain ⟨k, e0, -, -⟩ := DataW.trod_int Try.underlying3 h0; obtain ⟨vr, rs, e1, hpl⟩ := pl_of_trod _ _ _ h1; obtain ⟨vt, ts, e2, hsl, hmx⟩ := sls_of_trod _ _ _ h2; simp at e0 e1 e2; subst e0 e1 e2; have hpl2 := hpl; have hsl2 := hsl; obtain ⟨ra, rc, rfl, -⟩ := hpl2; obtain ⟨ta, tc, rfl, -⟩ := hsl2; exact ⟨_, _, _, ⟨k, rs, ts⟩, rfl, ra, rc, ta, tc, rfl, hpl, hsl, hmx⟩
end
end Go.Proofs.Ytclinobfbdljhah
/- How large a model is that came in. -/
namespace Go.Proofs.Ytclinobfbdljhah
open Go.RowKit Go.Deep

section
variable {H : Type} {enc : TypeId × Value → H} {W : World} {spare : Nat → Bool} {held : Bool} {R : Nat}
theorem slice_bound {t e : TypeId} (ht : Try.prog.underlying t = some (.slice e)) {fuel len cap : Nat} {a : Option Addr} {x : DataW H × List MemPlace} (h : DataW.trod enc Try.prog W 0 spare held fuel t [.slice a len cap] = some x) (hw : ∀ n ∈ x.1.weights Try.prog t, n ≤ R) : len * Try.prog.bytesOf e ≤ R := by
  rcases DataW.trod_slice ht h with ⟨h1, -⟩ | ⟨a', len', cap', elems, rest, m, -, h1, rfl, -, -, -, hel, -⟩
  · simp only [List.cons.injEq, Value.slice.injEq, and_true] at h1
    rw [h1.2.1]; simp
  · simp only [List.cons.injEq, Value.slice.injEq, and_true] at h1
    (have := hw ((elems.length + rest.length) * Try.prog.bytesOf e) (by simp [DataW.weights, ht])); rw [h1.2.1, ← hel]; exact Nat.le_trans (Nat.mul_le_mul_right _ (Nat.le_add_right _ _)) this
theorem weights_all {e : TypeId} : ∀ {ds : List (DataW H)} {d : DataW H}, d ∈ ds → ∀ n ∈ d.weights Try.prog e, n ∈ DataW.weightsAll Try.prog e ds
  | d0 :: ds, d, hd, n, hn => by
    rw [DataW.weightsAll, List.mem_append]
    rcases List.mem_cons.1 hd with rfl | hd
    · exact Or.inl hn
    · exact Or.inr (weights_all hd n hn)
theorem slice_kid {t e : TypeId} (ht : Try.prog.underlying t = some (.slice e)) {fuel len cap : Nat} {a : Addr} {x : DataW H × List MemPlace} (h : DataW.trod enc Try.prog W 0 spare held fuel t [.slice (some a) len cap] = some x) (hw : ∀ n ∈ x.1.weights Try.prog t, n ≤ R) (i : Nat) (hi : i < len) :
    ∃ n y, (W.cells? 0 (a.add (i * Try.prog.cellsOf e)) (Try.prog.cellsOf e)).bind (DataW.trod enc Try.prog W 0 spare held n e) = some y ∧ ∀ n ∈ y.1.weights Try.prog e, n ≤ R := by
  rcases DataW.trod_slice ht h with ⟨h1, -⟩ | ⟨a', len', cap', elems, rest, m, -, h1, rfl, -, -, -, hel, hall, -⟩
  · simp at h1
  · simp only [List.cons.injEq, Value.slice.injEq, and_true, Option.some.injEq] at h1
    obtain ⟨rfl, rfl, rfl⟩ := h1; have h2 := hall i hi; (rw [List.getElem?_eq_getElem (by omega)] at h2); (refine ⟨m, _, h2, fun n hn => hw n ?_⟩); rw [DataW.weights, ht]; (exact List.mem_cons_of_mem _ (List.mem_append_left _ (weights_all (List.mem_map.2 ⟨_, List.getElem_mem (by omega), rfl⟩) n hn)))
set_option maxRecDepth 100000 in
theorem md_bound (fuel : Nat) (m : Mdl) (c0 c1 c2 : Value) (x : DataW H × List MemPlace) (h : DataW.trod enc Try.prog W 0 spare held fuel 30 [c0, c1, c2] = some x) (hm : MR W m (.agg #[c0, c1, c2])) (hw : ∀ n ∈ x.1.weights Try.prog 30, n ≤ R) :
    m.rel.length * 16 ≤ R ∧ m.tr.length * 24 ≤ R ∧ ∀ l ∈ m.tr, l.length * 16 ≤ R := by
  obtain ⟨ra, rc, ta, tc, e, hpl, hsl, -⟩ := hm; simp only [Value.agg.injEq, Array.mk.injEq, List.cons.injEq, and_true] at e; obtain ⟨rfl, rfl, rfl⟩ := e; obtain ⟨xs, n, hfu, rfl, hl, hlen, hf⟩ := DataW.trod_struct Try.underlying30 h; have h1 := hf 1 _ rfl; have h2 := hf 2 _ rfl; simp at hlen
  match xs, hlen with
  | [y0, y1, y2], _ =>
    simp [cellsPrs, cellsTs] at h1 h2
    have hws : ∀ n ∈ DataW.weightsEach Try.prog [3, 27, 28] [y0.1, y1.1, y2.1], n ≤ R := fun n hn => hw n (by
      rw [DataW.weights, Try.underlying30]
      exact hn)
    (have w1 : ∀ n ∈ y1.1.weights Try.prog 27, n ≤ R := fun n hn => hws n (DataW.weights_mem_each (j := 1) rfl rfl n hn)); (have w2 : ∀ n ∈ y2.1.weights Try.prog 28, n ≤ R := fun n hn => hws n (DataW.weights_mem_each (j := 2) rfl rfl n hn)); have b1 := slice_bound Try.underlying27 h1 w1; have b2 := slice_bound Try.underlying28 h2 w2; (rw [show Try.prog.bytesOf 42 = 16 by kernel_rfl] at b1); (rw [show Try.prog.bytesOf 80 = 24 by kernel_rfl] at b2); (refine ⟨b1, b2, fun l hl => ?_⟩); obtain ⟨j, hj⟩ := List.getElem?_of_mem hl; have hjl := (List.getElem?_eq_some_iff.1 hj).1; obtain ⟨ad, cap, e, -, -, h4⟩ := hsl; simp only [Value.slice.injEq, true_and] at e; obtain ⟨rfl, rfl⟩ := e; obtain ⟨b, off, rfl, h5⟩ := h4 (List.ne_nil_of_mem hl); obtain ⟨v, hv, hsv⟩ := h5 j l hj; obtain ⟨k, y, hy, hyw⟩ := slice_kid Try.underlying28 h2 w2 j hjl; rw [cellsTx, Nat.mul_one, add_none] at hy; obtain ⟨cs', hcs, htr⟩ := Option.bind_eq_some_iff.1 hy; obtain ⟨-, hl3, hcell⟩ := World.cells?_some hcs
    match cs', hl3 with
    | [u], _ =>
      (have g0 := hcell 0 (by omega))
      have e2 : u = v := by
        (have : W.cell? ⟨b, off + j, none⟩ = some u := by simpa [Addr.add] using g0); rw [hv] at this; exact (Option.some.inj this).symm
      subst e2; obtain ⟨ad9, cp9, rfl, -⟩ := hsv; have b3 := slice_bound Try.underlying80 htr hyw
      rwa [show Try.prog.bytesOf 9 = 16 by kernel_rfl] at b3
end
end Go.Proofs.Ytclinobfbdljhah
