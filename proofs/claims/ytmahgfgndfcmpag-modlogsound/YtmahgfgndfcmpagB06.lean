/- Texts of one proof, one behind the other: Open2, Open7, ME3, ME4, MS1. -/
import Derived.Test.YtmahgfgndfcmpagB04
import Derived.OpenShut
import Derived.Test.YtmahgfgndfcmpagB01
import Derived.Deep.QuietTactic
import Derived.BigQuiet
/- A list of texts that came in, as data. -/
namespace Go.Proofs.Ytmahgfgndfcmpag
open Go.RowKit Go.Deep

section
variable {H : Type} {enc : TypeId × Value → H} {W : World} {spare : Nat → Bool} {held : Bool}

theorem sl_of_trod (fuel : Nat) (cs : List Value) (x : DataW H × List MemPlace) (h : DataW.trod enc Try.prog W 0 spare held fuel 48 cs = some x) :
    ∃ v l, cs = [v] ∧ SL W v l ∧ ∀ t ∈ l, t.length ≤ maxLen := by
  rcases open_strs Try.underlying48 Try.underlying9 cells9 h with ⟨rfl, -⟩ | ⟨a, len, cap, m, Sx, rfl, -, hl, hm, hmm, -, hc⟩
  · exact ⟨_, [], rfl, ⟨none, 0, rfl, by simp, by simp, fun h => absurd rfl h⟩, fun t h => by cases h⟩
  · have hlm : len ≤ m := by rw [hmm]; split <;> omega
    obtain ⟨b, off, spot⟩ := a; (refine ⟨_, (List.range len).map fun i => (Sx i).data.toList, rfl, ⟨some ⟨b, off, spot⟩, cap, by simp, by simpa using hl, hm, fun hne => ?_⟩, fun t ht => ?_⟩)
    · have h0 : 0 < len := by
        rcases Nat.eq_zero_or_pos len with h | h
        · subst h; simp at hne
        · exact h
      have hsp : spot = none := by
        (have := (hc 0 (by omega)).1); simp [Addr.add] at this; simpa using World.cell?_spot this
      subst hsp; (refine ⟨b, off, rfl, fun j t ht => ?_⟩)
      have hj : j < len := by
        rcases Nat.lt_or_ge j len with h | h
        · exact h
        · rw [List.getElem?_eq_none (by simpa using h)] at ht; cases ht
      rw [List.getElem?_map, List.getElem?_range hj] at ht; (have := (hc j (by omega)).1); rw [add_none] at this; rw [this]; simp at ht; subst ht; rfl
    · obtain ⟨i, hi, rfl⟩ := List.mem_map.1 ht
      (have := (hc i (by have := List.mem_range.1 hi; omega)).2); have e : (Sx i).data.toList.length = (Sx i).size := Array.length_toList; omega
end
end Go.Proofs.Ytmahgfgndfcmpag
/- An argument of type Model. -/
namespace Go.Proofs.Ytmahgfgndfcmpag
open Go.RowKit

theorem cellsM : Try.prog.cellsOf 25 = 3 := by kernel_rfl
theorem cellsPr : Try.prog.cellsOf 82 = 2 := by kernel_rfl
theorem cellsPrs : Try.prog.cellsOf 22 = 1 := by kernel_rfl
theorem cellsTx : Try.prog.cellsOf 48 = 1 := by kernel_rfl
theorem cellsTs : Try.prog.cellsOf 23 = 1 := by kernel_rfl
theorem cellsN : Try.prog.cellsOf 3 = 1 := by kernel_rfl
theorem list_ofM {α : Type} {P : Nat → α → Prop} : ∀ (len : Nat), (∀ i, i < len → ∃ x, P i x) → ∃ l : List α, l.length = len ∧ ∀ (j : Nat) (x : α), l[j]? = some x → P j x
  | 0, _ => ⟨[], rfl, fun j x h => by simp at h⟩
  | len + 1, h => by
    (obtain ⟨l, hl, hp⟩ := list_ofM len fun i hi => h i (by omega)); (obtain ⟨x, hx⟩ := h len (by omega)); (refine ⟨l ++ [x], by simp [hl], fun j y hj => ?_⟩); by_cases e : j < len
    · rw [List.getElem?_append_left (by omega)] at hj
      exact hp j y hj
    · rw [List.getElem?_append_right (by omega)] at hj
      by_cases e2 : j = len
      · subst e2
        rw [hl, Nat.sub_self] at hj; simp at hj; rw [← hj]; exact hx
      · rw [List.getElem?_eq_none (by simp; omega)] at hj
        cases hj
section
variable {H : Type} {enc : TypeId × Value → H} {W : World} {spare : Nat → Bool} {held : Bool}

set_option maxRecDepth 100000 in
theorem pr_of_trod (fuel : Nat) (cs : List Value) (x : DataW H × List MemPlace) (h : DataW.trod enc Try.prog W 0 spare held fuel 82 cs = some x) : ∃ a b : Int, cs = [.int .i64 a, .int .i64 b] := by
  obtain ⟨xs, m, -, -, hl, hlen, hall⟩ := DataW.trod_array Try.underlying82 h; rw [cellsPr] at hl
  match cs, hl with
  | [c0, c1], _ =>
    match xs, hlen with
    | [y0, y1], _ =>
      (have h0 := hall 0 (by omega)); (have h1 := hall 1 (by omega)); simp [cellsN] at h0 h1; obtain ⟨k, e0, -, -⟩ := DataW.trod_int Try.underlying3 h0; obtain ⟨j, e1, -, -⟩ := DataW.trod_int Try.underlying3 h1; simp at e0 e1; subst e0 e1; exact ⟨k, j, rfl⟩
theorem pl_of_trod (fuel : Nat) (cs : List Value) (x : DataW H × List MemPlace) (h : DataW.trod enc Try.prog W 0 spare held fuel 22 cs = some x) :
    ∃ v rs, cs = [v] ∧ PL W v rs := by
  rcases DataW.trod_slice Try.underlying22 h with ⟨rfl, -⟩ | ⟨a, len, cap, elems, rest, m, hm, rfl, -, -, hlc, hcm, hel, hall, -⟩
  · exact ⟨_, [], rfl, none, 0, rfl, by simp, by simp, fun h => absurd rfl h⟩
  · obtain ⟨b, off, spot⟩ := a
    have rd : ∀ i, i < len → ∃ t : Int × Int, W.cell? ((⟨b, off, spot⟩ : Addr).add (i * 2)) = some (.int .i64 t.1) ∧ W.cell? (((⟨b, off, spot⟩ : Addr).add (i * 2)).add 1) = some (.int .i64 t.2) := fun i hi => by
      have hh := hall i hi; (rw [cellsPr, List.getElem?_eq_getElem (by omega)] at hh); obtain ⟨cs', hcs, htr⟩ := Option.bind_eq_some_iff.1 hh; obtain ⟨-, hl3, hcell⟩ := World.cells?_some hcs; obtain ⟨x, y, rfl⟩ := pr_of_trod _ _ _ htr; (have g0 := hcell 0 (by omega)); (have g1 := hcell 1 (by omega)); (exact ⟨(x, y), by simpa [Addr.add] using g0, by simpa [Addr.add] using g1⟩)
    by_cases hz : len = 0
    · subst hz
      (exact ⟨_, [], rfl, _, cap, rfl, by simp, hcm, fun h => absurd rfl h⟩)
    · have hsp : spot = none := by
        (obtain ⟨y, hy, -⟩ := rd 0 (by omega)); simp [Addr.add] at hy; simpa using World.cell?_spot hy
      subst hsp; obtain ⟨l, hl, hp⟩ := list_ofM len rd; subst hl; (refine ⟨_, l, rfl, _, cap, rfl, hlc, hcm, fun _ => ⟨b, off, rfl, fun j x y hj => ?_⟩⟩); have := hp j (x, y) hj; simp only [add_none] at this; exact this
theorem sls_of_trod (fuel : Nat) (cs : List Value) (x : DataW H × List MemPlace) (h : DataW.trod enc Try.prog W 0 spare held fuel 23 cs = some x) :
    ∃ v rs, cs = [v] ∧ SLs W v rs ∧ ∀ l ∈ rs, ∀ t ∈ l, t.length ≤ maxLen := by
  rcases DataW.trod_slice Try.underlying23 h with ⟨rfl, -⟩ | ⟨a, len, cap, elems, rest, m, hm, rfl, -, -, hlc, hcm, hel, hall, -⟩
  · exact ⟨_, [], rfl, ⟨none, 0, rfl, by simp, by simp, fun h => absurd rfl h⟩, fun l hl => by cases hl⟩
  · obtain ⟨b, off, spot⟩ := a
    have rd : ∀ i, i < len → ∃ t : List (List UInt8), ∃ v, W.cell? ((⟨b, off, spot⟩ : Addr).add i) = some v ∧ SL W v t ∧ ∀ q ∈ t, q.length ≤ maxLen := fun i hi => by
      have hh := hall i hi; (rw [cellsTx, List.getElem?_eq_getElem (by omega), Nat.mul_one] at hh); obtain ⟨cs', hcs, htr⟩ := Option.bind_eq_some_iff.1 hh; obtain ⟨-, hl3, hcell⟩ := World.cells?_some hcs; obtain ⟨v, l, rfl, hsl, hmx⟩ := sl_of_trod _ _ _ htr; (have g0 := hcell 0 (by omega)); (exact ⟨l, v, by simpa [Addr.add] using g0, hsl, hmx⟩)
    by_cases hz : len = 0
    · subst hz
      (exact ⟨_, [], rfl, ⟨_, cap, rfl, by simp, hcm, fun h => absurd rfl h⟩, fun l hl => by cases hl⟩)
    · have hsp : spot = none := by
        (obtain ⟨y, v, hy, -⟩ := rd 0 (by omega)); simp [Addr.add] at hy; simpa using World.cell?_spot hy
      subst hsp; obtain ⟨l, hl, hp⟩ := list_ofM len rd; subst hl; (refine ⟨_, l, rfl, ⟨_, cap, rfl, hlc, hcm, fun _ => ⟨b, off, rfl, fun j r hj => ?_⟩⟩, fun r hr => ?_⟩)
      · obtain ⟨v, h1, h2, -⟩ := hp j r hj
        rw [add_none] at h1; exact ⟨v, h1, h2⟩
      · obtain ⟨j, hj⟩ := List.getElem?_of_mem hr
        obtain ⟨v, -, -, h3⟩ := hp j r hj; exact h3
set_option maxRecDepth 100000 in
theorem md_of_trod (fuel : Nat) (cs : List Value) (x : DataW H × List MemPlace) (h : DataW.trod enc Try.prog W 0 spare held fuel 25 cs = some x) :
    ∃ c0 c1 c2 m, cs = [c0, c1, c2] ∧ MR W m (.agg #[c0, c1, c2]) := by
  obtain ⟨xs, n, hfu, -, hl, hlen, hf⟩ := DataW.trod_struct Try.underlying25 h; rw [cellsM] at hl
  match cs, hl with
  | [c0, c1, c2], _ =>
    have h0 := hf 0 _ rfl; have h1 := hf 1 _ rfl; have h2 := hf 2 _ rfl; simp at hlen
    match xs, hlen with
    | [y0, y1, y2], _ =>
      simp [cellsN, cellsPrs, cellsTs] at h0 h1 h2; obtain ⟨k, e0, -, -⟩ := DataW.trod_int Try.underlying3 h0; obtain ⟨vr, rs, e1, hpl⟩ := pl_of_trod _ _ _ h1; obtain ⟨vt, ts, e2, hsl, hmx⟩ := sls_of_trod _ _ _ h2; simp at e0 e1 e2; subst e0 e1 e2; have hpl2 := hpl; have hsl2 := hsl; obtain ⟨ra, rc, rfl, -⟩ := hpl2; obtain ⟨ta, tc, rfl, -⟩ := hsl2; exact ⟨_, _, _, ⟨k, rs, ts⟩, rfl, ra, rc, ta, tc, rfl, hpl, hsl, hmx⟩
end
end Go.Proofs.Ytmahgfgndfcmpag
/- Walks: frames; which worlds are such, by what they see. -/
namespace Go.Proofs.Ytmahgfgndfcmpag
open Go.RowKit

theorem set_with1x {N : Nat} (hN : N ≤ 40) (P : Nat → Bool) {x : Nat} (hx : x = bm N P) (n b : Nat) (hn : n < N) (w : World) (hc : w.cell? ⟨b, 0, none⟩ = some (.int .i64 (n : Nat))) :
    Calls Try.prog 32 #[.int .u64 (x : Nat), .slice (some ⟨b, 0, none⟩) 1 1] w fun e w' => e = .returned (.int .u64 (bm N (fun i => P i || i == n) : Nat)) ∧ w' = w := by
  rw [hx]; exact set_with1 hN P n b hn w hc
end Go.Proofs.Ytmahgfgndfcmpag
/- Walks: where a formula is true. -/
namespace Go.Proofs.Ytmahgfgndfcmpag
open Go.RowKit

/-- The worlds below N that u sees, as a list. -/
def seeR (N : Nat) (R : Nat → Nat → Bool) (u : Nat) : List Nat := (List.range N).filter (R u)
theorem kid_size {k : Int} {n : ByteArray} {ks : List Fm} {i : Nat} {f : Fm} (h : ks[i]? = some f) : f.size < (Fm.mk k n ks).size := by
  have hs : ∀ l : List Fm, f ∈ l → f.size ≤ Fm.sizes l := by
    intro l
    induction l with
    | nil => intro h; cases h
    | cons a tl ih =>
      intro h; rw [Fm.sizes]
      rcases List.mem_cons.1 h with rfl | h
      · omega
      · have := ih h; omega
  have := hs ks (List.mem_of_getElem? h); rw [Fm.size]; omega
theorem blk_secE (w : World) (o o' : Obj) : ((w.alloc o).alloc o').heap[w.heap.size + 1]? = some o' := by
  have := blk_new (w.alloc o) o'
  rwa [show (w.alloc o).heap.size = w.heap.size + 1 by simp] at this
theorem set_cellE {w : World} {g j : Nat} {C : Array Value} {T : TypeId} (h : w.heap[g]? = some (.cells C T (0, 0))) (u : Value) : (w.setCell ⟨g, j, none⟩ u).heap[g]? = some (.cells (C.setIfInBounds j u) T (0, 0)) := by
  simp [World.setCell, Array.getElem?_modify, h]
end Go.Proofs.Ytmahgfgndfcmpag
/- Six formulas and six shapes, plain. -/
namespace Go.Proofs.Ytmahgfgndfcmpag

/-- All that P has Q has, below N. -/
def subB (N : Nat) (P Q : Nat → Bool) : Bool := decide (∀ i, i < N → P i = true → Q i = true)
def sh0 (N : Nat) (R : Nat → Nat → Bool) : Bool := (List.range N).all fun u => R u u
def sh1 (N : Nat) (R : Nat → Nat → Bool) : Bool := (List.range N).all fun u => (seeR N R u).all fun v => subB N (R v) (R u)
def sh2 (N : Nat) (R : Nat → Nat → Bool) : Bool := (List.range N).all fun u => (seeR N R u).all fun v => R v u
def sh3 (N : Nat) (R : Nat → Nat → Bool) : Bool := (List.range N).all fun u => (seeR N R u).all fun v => subB N (R u) (R v)
def sh4 (N : Nat) (R : Nat → Nat → Bool) : Bool := (List.range N).all fun u => !(seeR N R u).isEmpty
def sh5 (N : Nat) (R : Nat → Nat → Bool) : Bool := sh1 N R && (List.range N).all fun u => !R u u
theorem mem_seeR {N : Nat} {R : Nat → Nat → Bool} {u v : Nat} : v ∈ seeR N R u ↔ v < N ∧ R u v = true := by
  rw [seeR, List.mem_filter, List.mem_range]
section
variable {N : Nat} {R : Nat → Nat → Bool}
theorem sh0_iff : sh0 N R = true ↔ ∀ u, u < N → R u u = true := by
  rw [sh0, List.all_eq_true]; simp only [List.mem_range]
theorem sh1_iff : sh1 N R = true ↔ ∀ u v x, u < N → v < N → x < N → R u v = true → R v x = true → R u x = true := by
  rw [sh1, List.all_eq_true]; simp only [List.mem_range, List.all_eq_true, mem_seeR, subB, decide_eq_true_iff]; (exact ⟨fun h u v x h1 h2 h3 h4 h5 => h u h1 v ⟨h2, h4⟩ x h3 h5, fun h u h1 v h2 x h3 h4 => h u v x h1 h2.1 h3 h2.2 h4⟩)
theorem sh2_iff : sh2 N R = true ↔ ∀ u v, u < N → v < N → R u v = true → R v u = true := by
  rw [sh2, List.all_eq_true]; simp only [List.mem_range, List.all_eq_true, mem_seeR]; (exact ⟨fun h u v h1 h2 h3 => h u h1 v ⟨h2, h3⟩, fun h u h1 v h2 => h u v h1 h2.1 h2.2⟩)
theorem sh3_iff : sh3 N R = true ↔ ∀ u v x, u < N → v < N → x < N → R u v = true → R u x = true → R v x = true := by
  rw [sh3, List.all_eq_true]; simp only [List.mem_range, List.all_eq_true, mem_seeR, subB, decide_eq_true_iff]; (exact ⟨fun h u v x h1 h2 h3 h4 h5 => h u h1 v ⟨h2, h4⟩ x h3 h5, fun h u h1 v h2 x h3 h4 => h u v x h1 h2.1 h3 h2.2 h4⟩)
theorem sh4_iff : sh4 N R = true ↔ ∀ u, u < N → ∃ v, v < N ∧ R u v = true := by
  rw [sh4, List.all_eq_true]; simp only [List.mem_range]; (refine forall_congr' fun u => forall_congr' fun _ => ?_)
  constructor
  · intro h
    cases hs : seeR N R u with
    | nil => rw [hs] at h; simp at h
    | cons v l => exact ⟨v, mem_seeR.1 (by rw [hs]; simp)⟩
  · rintro ⟨v, hv⟩
    have := mem_seeR.2 hv
    cases hs : seeR N R u with
    | nil => rw [hs] at this; cases this
    | cons v l => rfl
theorem sh5_iff : sh5 N R = true ↔ sh1 N R = true ∧ ∀ u, u < N → R u u = false := by
  rw [sh5, Bool.and_eq_true, List.all_eq_true]; simp only [List.mem_range, Bool.not_eq_true']
end
/-- The name p, and the six formulas. -/
def nPm : ByteArray := ⟨#[112]⟩
def fPm : Fm := .mk 1 nPm []
def bx (f : Fm) : Fm := .mk 8 ⟨#[]⟩ [f]
def di (f : Fm) : Fm := .mk 9 ⟨#[]⟩ [f]
def im (f g : Fm) : Fm := .mk 7 ⟨#[]⟩ [f, g]
def six : List Fm := [im (bx fPm) fPm, im (bx fPm) (bx (bx fPm)), im fPm (bx (di fPm)), im (di fPm) (bx (di fPm)), im (bx fPm) (di fPm), im (bx (im (bx fPm) fPm)) (bx fPm)]
theorem mtv_fPm (S : Nat → List Nat) (V : Nat → Bool) : mtv S (fun u _ => V u) fPm = V := by
  funext u
  rw [fPm, mtv, mtvs]; rfl
/-- True at all worlds, whatever p is. -/
def Val (N : Nat) (R : Nat → Nat → Bool) (f : Fm) : Prop := ∀ V : Nat → Bool, ∀ u, u < N → mtv (seeR N R) (fun u _ => V u) f u = true
section
variable {N : Nat} {R : Nat → Nat → Bool}
theorem bx_at {V : Nat → Bool} {f : Fm} {u : Nat} : mtv (seeR N R) (fun u _ => V u) (bx f) u = true ↔ ∀ v, v < N → R u v = true → mtv (seeR N R) (fun u _ => V u) f v = true := by
  rw [bx, mtv_box, List.all_eq_true]; simp only [mem_seeR, and_imp]
theorem di_at {V : Nat → Bool} {f : Fm} {u : Nat} : mtv (seeR N R) (fun u _ => V u) (di f) u = true ↔ ∃ v, v < N ∧ R u v = true ∧ mtv (seeR N R) (fun u _ => V u) f v = true := by
  rw [di, mtv_dia, List.any_eq_true]; simp only [mem_seeR, and_assoc]
theorem im_at {V : Nat → Bool} {f g : Fm} {u : Nat} : mtv (seeR N R) (fun u _ => V u) (im f g) u = true ↔ (mtv (seeR N R) (fun u _ => V u) f u = true → mtv (seeR N R) (fun u _ => V u) g u = true) := by
  rw [im, mtv_then]; (show (!mtv (seeR N R) (fun u _ => V u) f u || mtv (seeR N R) (fun u _ => V u) g u) = true ↔ _); (generalize mtv (seeR N R) (fun u _ => V u) f u = x); (generalize mtv (seeR N R) (fun u _ => V u) g u = y)
  cases x <;> cases y <;> simp
theorem p_at {V : Nat → Bool} {u : Nat} : mtv (seeR N R) (fun u _ => V u) fPm u = true ↔ V u = true := by rw [mtv_fPm]
theorem val0 : Val N R (im (bx fPm) fPm) ↔ sh0 N R = true := by
  rw [sh0_iff]
  constructor
  · intro h u hu
    have := h (R u) u hu; rw [im_at, bx_at, p_at] at this; (exact this fun v _ hv => p_at.2 hv)
  · intro h V u hu
    rw [im_at, bx_at]; (exact fun h1 => h1 u hu (h u hu))
theorem val1 : Val N R (im (bx fPm) (bx (bx fPm))) ↔ sh1 N R = true := by
  rw [sh1_iff]
  constructor
  · intro h u v x hu hv hx h1 h2
    have := h (R u) u hu; rw [im_at, bx_at, bx_at] at this; (have := this (fun v _ hv => p_at.2 hv) v hv h1); rw [bx_at] at this; exact p_at.1 (this x hx h2)
  · intro h V u hu
    rw [im_at, bx_at, bx_at]; intro h1 v hv h2; rw [bx_at]; (exact fun x hx h3 => h1 x hx (h u v x hu hv hx h2 h3))
theorem val2 : Val N R (im fPm (bx (di fPm))) ↔ sh2 N R = true := by
  rw [sh2_iff]
  constructor
  · intro h u v hu hv h1
    (have := h (fun y => y == u) u hu); rw [im_at, bx_at, p_at] at this; (have := this (by simp) v hv h1); rw [di_at] at this; obtain ⟨x, hx, h2, h3⟩ := this; rw [p_at] at h3; (have : x = u := by simpa using h3); rw [← this]; rw [this] at h2 ⊢; exact h2
  · intro h V u hu
    rw [im_at, bx_at]; intro h1 v hv h2; rw [di_at]; exact ⟨u, hu, h u v hu hv h2, h1⟩
theorem val3 : Val N R (im (di fPm) (bx (di fPm))) ↔ sh3 N R = true := by
  rw [sh3_iff]
  constructor
  · intro h u v x hu hv hx h1 h2
    (have := h (fun y => y == x) u hu); rw [im_at, bx_at, di_at] at this; (have := this ⟨x, hx, h2, p_at.2 (by simp)⟩ v hv h1); rw [di_at] at this; obtain ⟨y, hy, h3, h4⟩ := this; rw [p_at] at h4; (have : y = x := by simpa using h4); rw [← this]; exact h3
  · intro h V u hu
    rw [im_at, bx_at, di_at]; rintro ⟨x, hx, h1, h2⟩ v hv h3; rw [di_at]; exact ⟨x, hx, h u v x hu hv hx h3 h1, h2⟩
theorem val4 : Val N R (im (bx fPm) (di fPm)) ↔ sh4 N R = true := by
  rw [sh4_iff]
  constructor
  · intro h u hu
    (have := h (fun _ => true) u hu); rw [im_at, bx_at, di_at] at this; (obtain ⟨v, hv, h1, -⟩ := this fun v _ _ => p_at.2 rfl); exact ⟨v, hv, h1⟩
  · intro h V u hu
    rw [im_at, bx_at, di_at]; intro h1; obtain ⟨v, hv, h2⟩ := h u hu; exact ⟨v, hv, h2, h1 v hv h2⟩
theorem val5 : Val N R (im (bx (im (bx fPm) fPm)) (bx fPm)) ↔ sh5 N R = true := by
  rw [sh5_iff, sh1_iff]
  constructor
  · intro h
    (refine ⟨fun u v x hu hv hx h1 h2 => ?_, fun u hu => ?_⟩)
    · cases hux : R u x with
      | true => rfl
      | false =>
        (have := h (fun y => !(y == v) && !(y == x)) u hu); rw [im_at, bx_at, bx_at] at this
        have := this (fun y hy h3 => by
          rw [im_at, p_at, bx_at]; intro h4; (have e2 : y ≠ x := fun e => by rw [e, hux] at h3; cases h3); by_cases e1 : y = v
          · have := h4 x hx (by rw [e1]; exact h2)
            rw [p_at] at this; simp at this
          · simp [e1, e2]) v hv h1
        rw [p_at] at this; simp at this
    · cases huu : R u u with
      | false => rfl
      | true =>
        (have := h (fun y => !(y == u)) u hu); rw [im_at, bx_at, bx_at] at this
        have := this (fun y hy h3 => by
          rw [im_at, p_at, bx_at]; intro h4; by_cases e1 : y = u
          · have := h4 u hu (by rw [e1]; exact huu)
            rw [p_at] at this; simp at this
          · simp [e1]) u hu huu
        rw [p_at] at this; simp at this
  · rintro ⟨ht, hi⟩ V u hu
    rw [im_at, bx_at, bx_at]; intro h
    have key : ∀ (n v : Nat), (seeR N R v).length < n → v < N → R u v = true → V v = true := by
      intro n
      induction n with
      | zero => intro v h; exact absurd h (Nat.not_lt_zero _)
      | succ n ih =>
        intro v hn hv h1; have h2 := h v hv h1; rw [im_at, p_at, bx_at] at h2; (refine h2 fun x hx h3 => p_at.2 (ih x ?_ hx (ht u v x hu hv hx h1 h3)))
        have hs : (seeR N R x).length < (seeR N R v).length := by
          have e : seeR N R x = (seeR N R v).filter (R x) := by
            rw [seeR, seeR, List.filter_filter]; (refine List.filter_congr fun y hy => ?_); rw [List.mem_range] at hy
            cases hxy : R x y with
            | false => rfl
            | true => rw [ht v x y hv hx hy h3 hxy]; rfl
          rw [e]
          rcases Nat.lt_or_ge ((seeR N R v).filter (R x)).length (seeR N R v).length with h4 | h4
          · exact h4
          · have h5 := List.length_filter_le (R x) (seeR N R v)
            (have h6 : (seeR N R v).filter (R x) = seeR N R v := List.filter_sublist.eq_of_length (by omega)); (have h7 : x ∈ (seeR N R v).filter (R x) := by rw [h6]; exact mem_seeR.2 ⟨hx, h3⟩); have := (List.mem_filter.1 h7).2; rw [hi x hx] at this
            cases this
        omega
    (exact fun v hv h1 => p_at.2 (key _ v (Nat.lt_succ_self _) hv h1))
end
end Go.Proofs.Ytmahgfgndfcmpag
