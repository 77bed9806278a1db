/- Texts of one proof, one behind the other: MD7, MD8. -/
import Derived.Test.YtclinobfbdljhahB23
import Derived.Deep.OwnRows
/- Walks: which worlds each world sees. -/
namespace Go.Proofs.Ytclinobfbdljhah
open Go.RowKit Go.Sort

theorem infoI9 : ∃ i, Try.prog.info? 3 = some i ∧ i.zero = some (.int .i64 0) ∧ i.size = 1 ∧ i.bytes = 8 := by
  (obtain ⟨i, hi, h⟩ := Option.map_eq_some_iff.1 (show (Try.prog.info? 3).map (fun i => (i.zero, i.size, i.bytes)) = some (some (.int .i64 0), 1, 8) by kernel_rfl)); simp only [Prod.mk.injEq] at h; exact ⟨i, hi, h.1, h.2.1, h.2.2⟩
/-- Which pairs stand in a list, as bits by their number. -/
def bitP (N : Nat) (rs : List (Int × Int)) (k : Nat) : Bool := rs.any fun p => p.1 * N + p.2 == (k : Int)
def bitsC (N NN : Nat) (rs : List (Int × Int)) : Array Value := ((List.range NN).map fun k => Value.bool (bitP N rs k)).toArray
theorem bitsC_size (N NN : Nat) (rs : List (Int × Int)) : (bitsC N NN rs).size = NN := by simp [bitsC]
theorem bitsC_get {N NN k : Nat} (rs : List (Int × Int)) (h : k < NN) : (bitsC N NN rs)[k]? = some (.bool (bitP N rs k)) := by
  simp [bitsC, h]
theorem bitsC_zero (N NN : Nat) : madeCells #[Value.bool false] NN = bitsC N NN [] := by
  apply Array.ext'; rw [toList_madeCells_one]; simp [bitsC, bitP, List.map_const']
theorem bitsC_set {N NN : Nat} {rs : List (Int × Int)} {p : Int × Int} {k : Nat} (hp : p.1 * N + p.2 = (k : Int)) : (bitsC N NN rs).setIfInBounds k (.bool true) = bitsC N NN (rs ++ [p]) := by
  apply Array.ext_getElem?; intro j; by_cases hj : j < NN
  · rw [bitsC_get _ hj]
    by_cases e : k = j
    · subst e
      (rw [Array.getElem?_setIfInBounds_self_of_lt (by rw [bitsC_size]; exact hj)]); simp [bitP, hp]
    · rw [Array.getElem?_setIfInBounds_ne e, bitsC_get _ hj]
      (have : ¬ ((k : Int) = (j : Int)) := by omega); simp [bitP, hp, this]
  · rw [Array.getElem?_eq_none (by simp [bitsC_size]; omega), Array.getElem?_eq_none (by simp [bitsC_size]; omega)]
/-- The worlds below v that u sees. -/
def seenTo (N : Nat) (rs : List (Int × Int)) (u v : Nat) : List Nat := (List.range v).filter fun k => bitP N rs (u * N + k)
theorem seenTo_succ (N : Nat) (rs : List (Int × Int)) (u v : Nat) : seenTo N rs u (v + 1) = if bitP N rs (u * N + v) = true then seenTo N rs u v ++ [v] else seenTo N rs u v := by
  rw [seenTo, List.range_succ, List.filter_append, seenTo]; by_cases h : bitP N rs (u * N + v) = true
  · simp [h]
  · simp [h]
theorem seenTo_len (N : Nat) (rs : List (Int × Int)) (u v : Nat) : (seenTo N rs u v).length ≤ v := by
  (have := List.length_filter_le (fun k => bitP N rs (u * N + k)) (List.range v))
  rwa [List.length_range] at this
def encI (k : Nat) : Value := .int .i64 (k : Nat)
/-- Rows of numbers, each of its own. -/
def RowsI (B : Nat) (w : World) (cs : List Value) (ls : List (List Nat)) : Prop := cs.length = ls.length ∧ ∀ (j : Nat) (l : List Nat), ls[j]? = some l → ∃ ad cp, cs[j]? = some (.slice ad l.length cp) ∧ w.ownsRow B 3 1 (.slice ad l.length cp) l.length (l.map encI)
theorem RowsI.move {B : Nat} {w w' : World} {cs : List Value} {ls : List (List Nat)} (h : RowsI B w cs ls) (hk : ∀ (g : Nat) (cur : Array Value), w.heap[g]? = some (.cells cur 3 (0, 0)) → w'.heap[g]? = w.heap[g]?) : RowsI B w' cs ls := by
  (refine ⟨h.1, fun j l hj => ?_⟩); obtain ⟨ad, cp, h1, h2⟩ := h.2 j l hj; (exact ⟨ad, cp, h1, rowM_move h2 fun g cur _ hh => hk g cur hh⟩)
theorem RowsI.snoc {B : Nat} {w : World} {cs : List Value} {ls : List (List Nat)} (h : RowsI B w cs ls) {ad : Option Addr} {cp : Nat} {l : List Nat} (hr : w.ownsRow B 3 1 (.slice ad l.length cp) l.length (l.map encI)) : RowsI B w (cs ++ [.slice ad l.length cp]) (ls ++ [l]) := by
  (refine ⟨by simp [h.1], fun j q hj => ?_⟩); by_cases e : j < ls.length
  · rw [List.getElem?_append_left e] at hj
    (rw [List.getElem?_append_left (by rw [h.1]; exact e)]); exact h.2 j q hj
  · rw [List.getElem?_append_right (by omega)] at hj
    obtain ⟨k, hk⟩ : ∃ k, j - ls.length = k := ⟨_, rfl⟩; rw [hk] at hj
    cases k with
    | zero =>
      simp at hj; subst hj; (rw [List.getElem?_append_right (by rw [h.1]; omega), h.1, hk])
      exact ⟨ad, cp, rfl, hr⟩
    | succ k => simp at hj
/-- Which worlds each world sees, in memory. -/
def SnR (B : Nat) (w : World) (g N : Nat) (rel : List (Int × Int)) : Prop := ∃ cs, w.heap[g]? = some (.cells cs.toArray 45 (0, 0)) ∧ RowsI B w cs ((List.range N).map fun u => seenTo N rel u N)
theorem mid_set (cs rest : List Value) (x y : Value) (u : Nat) (hu : cs.length = u) : (cs ++ x :: rest).toArray.setIfInBounds u y = (cs ++ y :: rest).toArray := by
  subst hu
  simp
theorem mid_get (cs rest : List Value) (x : Value) (u : Nat) (hu : cs.length = u) : (cs ++ x :: rest).toArray[u]? = some x := by
  subst hu
  simp
theorem setC {w : World} {g j : Nat} {C : Array Value} {T : TypeId} (h : w.heap[g]? = some (.cells C T (0, 0))) (u : Value) : (w.setCell ⟨g, j, none⟩ u).heap[g]? = some (.cells (C.setIfInBounds j u) T (0, 0)) := by
  simp [World.setCell, Array.getElem?_modify, h]
theorem blk_threeM (w : World) (o o' o'' : Obj) : (((w.alloc o).alloc o').alloc o'').heap[w.heap.size]? = some o ∧ (((w.alloc o).alloc o').alloc o'').heap[w.heap.size + 1]? = some o' ∧ (((w.alloc o).alloc o').alloc o'').heap[w.heap.size + 2]? = some o'' := by
  refine ⟨alloc_keep (alloc_keep (blk_new w o) _) _, alloc_keep (blk_two w o o') _, ?_⟩; have := blk_two (w.alloc o) o' o''
  rwa [show (w.alloc o).heap.size = w.heap.size + 1 by simp] at this

theorem rowM18 (l : List Value) (h0 : l.length = 18) : ∃ x0 x1 x2 x3 x4 x5 x6 x7 x8 x9 x10 x11 x12 x13 x14 x15 x16 x17, l = [x0, x1, x2, x3, x4, x5, x6, x7, x8, x9, x10, x11, x12, x13, x14, x15, x16, x17] := by
  obtain ⟨x0, l1, e0, h1⟩ := cons_lenM h0; obtain ⟨x1, l2, e1, h2⟩ := cons_lenM h1; obtain ⟨x2, l3, e2, h3⟩ := cons_lenM h2; obtain ⟨x3, l4, e3, h4⟩ := cons_lenM h3; obtain ⟨x4, l5, e4, h5⟩ := cons_lenM h4; obtain ⟨x5, l6, e5, h6⟩ := cons_lenM h5; obtain ⟨x6, l7, e6, h7⟩ := cons_lenM h6; obtain ⟨x7, l8, e7, h8⟩ := cons_lenM h7; obtain ⟨x8, l9, e8, h9⟩ := cons_lenM h8; obtain ⟨x9, l10, e9, h10⟩ := cons_lenM h9; obtain ⟨x10, l11, e10, h11⟩ := cons_lenM h10; obtain ⟨x11, l12, e11, h12⟩ := cons_lenM h11; obtain ⟨x12, l13, e12, h13⟩ := cons_lenM h12; obtain ⟨x13, l14, e13, h14⟩ := cons_lenM h13; obtain ⟨x14, l15, e14, h15⟩ := cons_lenM h14; obtain ⟨x15, l16, e15, h16⟩ := cons_lenM h15; obtain ⟨x16, l17, e16, h17⟩ := cons_lenM h16; obtain ⟨x17, l18, e17, h18⟩ := cons_lenM h17; have e18 : l18 = [] := List.length_eq_zero_iff.1 h18; subst e18 e17 e16 e15 e14 e13 e12 e11 e10 e9 e8 e7 e6 e5 e4 e3 e2 e1 e0; exact ⟨x0, x1, x2, x3, x4, x5, x6, x7, x8, x9, x10, x11, x12, x13, x14, x15, x16, x17, rfl⟩
set_option maxRecDepth 10000 in
set_option maxHeartbeats 8000000 in
theorem seen_any (N : Nat) (hN : N ≤ 40) (rel : List (Int × Int)) (hrl : rel.length ≤ 2000) (hin : ∀ p ∈ rel, 0 ≤ p.1 ∧ p.1 < N ∧ 0 ≤ p.2 ∧ p.2 < N) (ra ta : Option Addr) (rc tl tc : Nat) (w : World) (h : PL w (.slice ra rel.length rc) rel) :
    Calls Try.prog 44 #[.agg #[.int .i64 (N : Nat), .slice ra rel.length rc, .slice ta tl tc]] w fun e w' => ∃ g, e = .returned (.slice (some ⟨g, 0, none⟩) N N) ∧ w.heap.size ≤ g ∧ SnR w.heap.size w' g N rel ∧ Below w.heap.size w w' := by
  obtain ⟨NN, hNN⟩ : ∃ NN, NN = N * N := ⟨_, rfl⟩; (have hNb : NN ≤ 1600 := by rw [hNN]; exact Nat.mul_le_mul hN hN); (have hNI : (N : Int) * (N : Int) = (NN : Int) := by rw [hNN]; simp); have HNN : Hid (NN = N * N) := hNN; have HIn : Hid (∀ p ∈ rel, 0 ≤ p.1 ∧ p.1 < N ∧ 0 ≤ p.2 ∧ p.2 < N) := hin; (have hNi : (N : Int) ≤ 40 := by omega); (have hNNi : (NN : Int) ≤ 1600 := by omega); (have hrI : (rel.length : Int) ≤ 2000 := by omega); (have hmkO := fun w => run_make_row' (P := Try.prog) 91 45 (.slice none 0 0) 24 Try.underlying91 (by kernel_rfl) rfl .i64 .i64 N (by omega) (by omega) w); (have hmkI := fun w => run_make_row' (P := Try.prog) 54 4 (.bool false) 1 Try.underlying54 (by kernel_rfl) rfl .i64 .i64 NN (by omega) (by omega) w); obtain ⟨W, hW⟩ : ∃ W, W = ((w.alloc (.cells #[.int .i64 (N : Nat), .slice ra rel.length rc, .slice ta tl tc] 30 (0, 0))).alloc (.cells (madeCells #[.slice none 0 0] N) 45 (0, 0))).alloc (.cells (madeCells #[.bool false] NN) 4 (0, 0)) := ⟨_, rfl⟩; (have HB0 : Hid (Below w.heap.size w W) := by rw [hW]; exact below_more (below_more (below_more (Below.refl _ w) _) _) _); obtain ⟨b1, b2, b3⟩ := blk_threeM w (.cells #[.int .i64 (N : Nat), .slice ra rel.length rc, .slice ta tl tc] 30 (0, 0)) (.cells (madeCells #[.slice none 0 0] N) 45 (0, 0)) (.cells (madeCells #[.bool false] NN) 4 (0, 0)); rw [← hW] at b1 b2 b3; have HX : Hid (W.heap[w.heap.size]? = some (.cells #[.int .i64 (N : Nat), .slice ra rel.length rc, .slice ta tl tc] 30 (0, 0))) := b1; have HO : Hid (W.heap[w.heap.size + 1]? = some (.cells (madeCells #[.slice none 0 0] N) 45 (0, 0))) := b2; have HI0 : Hid (W.heap[w.heap.size + 2]? = some (.cells (madeCells #[.bool false] NN) 4 (0, 0))) := b3; (have hWs : W.heap.size = w.heap.size + 3 := by rw [hW]; simp); have hP := h.up HB0.out; obtain ⟨ad0, cap0, e0, hc1, hc2, hc3⟩ := hP; simp only [Value.slice.injEq, true_and] at e0; obtain ⟨rfl, rfl⟩ := e0
  have HRl : Hid (rel ≠ [] → ∃ b off, ra = some ⟨b, off, none⟩ ∧ b < w.heap.size ∧ ∀ (j : Nat) (x y : Int), rel[j]? = some (x, y) → W.cell? ⟨b, off + j * 2, none⟩ = some (.int .i64 x) ∧ W.cell? ⟨b, off + j * 2 + 1, none⟩ = some (.int .i64 y)) := fun hne => by
    obtain ⟨b, off, e1, h1⟩ := hc3 hne; refine ⟨b, off, e1, ?_, h1⟩; obtain ⟨ad9, cap9, e9, -, -, h9⟩ := h; obtain ⟨b9, off9, e10, h10⟩ := h9 hne; simp only [Value.slice.injEq, true_and] at e9; (have : b9 = b := by rw [e9.1, e10] at e1; simpa using (congrArg (fun o => o.map Addr.block) e1)); subst this
    cases rel with
    | nil => exact absurd rfl hne
    | cons p ps => exact lt_of_cell (h10 0 p.1 p.2 rfl).1
  (have hcI : (rel.length : Int) ≤ (rc : Int) := by omega); have HWs : Hid (W.heap.size = w.heap.size + 3) := hWs; clear b1 b2 b3 h hc3 hin hrl hNN hNb hc1 hc2 hWs hN
  go_enter Try.func44, Try.ntmps44
  go_wp2_with fail; rw [← hW]; clear hW hmkO hmkI
  go_loopg [5] rel.length (fun gg cc wr => ∃ i, i ≤ rel.length ∧ gg = rel.length - i ∧ cc = .int .i64 (i : Nat) ∧ Hid (wr.heap[w.heap.size + 2]? = some (.cells (bitsC N NN (rel.take i)) 4 (0, 0))) ∧ Hid (Below (w.heap.size + 2) W wr))
  case atStart => exact ⟨0, by omega, by omega, rfl, by rw [List.take_zero, ← bitsC_zero]; exact HI0, Below.refl _ _⟩
  case round =>
    obtain ⟨i, hi, hg, rfl, HIr, HBr⟩ := hrel; have HGk : Hid (gk = rel.length - i) := hg; clear hg; (have HXr : Hid (wr.heap[w.heap.size]? = some (.cells #[.int .i64 (N : Nat), .slice ra rel.length rc, .slice ta tl tc] 30 (0, 0))) := (HBr.out.block _ (by omega)).trans HX.out); obtain ⟨k0, k1, k2, -⟩ := blk3 HXr.out; by_cases hlt : i < rel.length
    · obtain ⟨⟨x', y'⟩, hr⟩ : ∃ r, rel[i]? = some r := ⟨_, List.getElem?_eq_getElem hlt⟩
      obtain ⟨h1, h2, h3, h4⟩ := HIn.out _ (List.mem_of_getElem? hr); (obtain ⟨b, off, rfl, hbw, hc⟩ := HRl.out (fun e => by rw [e] at hlt; simp at hlt)); (obtain ⟨x, hx⟩ : ∃ x : Nat, x' = (x : Int) := ⟨x'.toNat, by simp only at h1; omega⟩); (obtain ⟨y, hy⟩ : ∃ y : Nat, y' = (y : Int) := ⟨y'.toNat, by simp only at h3; omega⟩); subst hx hy; simp only at h2 h4; obtain ⟨xn, hxn⟩ : ∃ xn, xn = x * N := ⟨_, rfl⟩; obtain ⟨k, hk⟩ : ∃ k, k = xn + y := ⟨_, rfl⟩; (have hxI : (x : Int) * (N : Int) = (xn : Int) := by rw [hxn]; simp)
      have hkN : k < NN := by
        rw [hk, hxn, HNN.out]; (have : (x + 1) * N ≤ N * N := Nat.mul_le_mul (by omega) (Nat.le_refl _)); rw [Nat.succ_mul] at this; omega
      have HKn : Hid (k < NN) := hkN
      have HKe : Hid ((((x : Nat) : Int), ((y : Nat) : Int)).1 * (N : Int) + (((x : Nat) : Int), ((y : Nat) : Int)).2 = (k : Int)) := by
        show (x : Int) * (N : Int) + (y : Int) = (k : Int); rw [hxI, hk]; simp
      (have hkI : (k : Int) < (NN : Int) := by omega); (have hxkI : (xn : Int) + (y : Int) = (k : Int) := by rw [hk]; simp); (have hxb : (xn : Int) ≤ 1600 := by omega); (have hx40 : (x : Int) ≤ 40 := by omega); (have hy40 : (y : Int) ≤ 40 := by omega); obtain ⟨c0, c1⟩ := hc i _ _ hr; (have HC0 : Hid (wr.cell? ⟨b, off + i * 2, none⟩ = some (.int .i64 (x : Nat))) := (HBr.out.cell (p := ⟨b, off + i * 2, none⟩) (by simp; omega)).trans c0); (have HC1 : Hid (wr.cell? ⟨b, off + i * 2 + 1, none⟩ = some (.int .i64 (y : Nat))) := (HBr.out.cell (p := ⟨b, off + i * 2 + 1, none⟩) (by simp; omega)).trans c1); (have hltI : (i : Int) < (rel.length : Int) := by omega); (have hltc : (i : Int) < (rc : Int) := by omega); have HI : Hid (i < rel.length) := hlt; have HRi : Hid (rel[i]? = some ((x : Int), (y : Int))) := hr; clear hc hr hlt hi c0 c1 h1 h2 h3 h4 hxn hk hbw hkN; go_wp2_with fail; clear k0 k1 k2; (refine wp_region_last (by kernel_rfl) [fun v _ => v = (.slice (some ⟨w.heap.size + 2, 0, none⟩) NN NN), fun v _ => v = (.pointer (some ⟨w.heap.size, 1, none⟩)), fun v _ => v = (.slice (some ⟨b, off, none⟩) rel.length rc), fun v _ => v = (.int .i64 (i : Nat)), fun v _ => v = (.pointer (some ⟨b, off + i * 2, none⟩)), fun v _ => v = (.pointer (some ⟨b, off + i * 2, none⟩)), fun v _ => v = (.int .i64 (x : Nat)), fun v _ => v = (.pointer (some ⟨w.heap.size, 0, none⟩)), fun v _ => v = (.int .i64 (N : Nat)), fun v _ => v = (.int .i64 (xn : Nat)), fun v _ => v = (.pointer (some ⟨w.heap.size, 1, none⟩)), fun v _ => v = (.slice (some ⟨b, off, none⟩) rel.length rc), fun v _ => v = (.int .i64 (i : Nat)), fun v _ => v = (.pointer (some ⟨b, off + i * 2, none⟩)), fun v _ => v = (.pointer (some ⟨b, off + i * 2 + 1, none⟩)), fun v _ => v = (.int .i64 (y : Nat)), fun v _ => v = (.int .i64 (k : Nat)), fun v _ => v = (.pointer (some ⟨w.heap.size + 2, k, none⟩))] ?_ (by kernel_rfl) (by kernel_rfl) 74 rfl (by kernel_rfl) 18 _ rfl rfl (by kernel_rfl) ?_ ?_)
      · intro p hp
        simp only [List.mem_cons, List.not_mem_nil, or_false] at hp
        rcases hp with rfl | rfl | rfl | rfl | rfl | rfl | rfl | rfl | rfl | rfl | rfl | rfl | rfl | rfl | rfl | rfl | rfl | rfl
        all_goals exact fun _ _ _ h _ => h
      · refine ⟨?_, ?_, ?_, ?_, ?_, ?_, ?_, ?_, ?_, ?_, ?_, ?_, ?_, ?_, ?_, ?_, ?_, ?_, trivial⟩
        · intro a wx hB hold hdep K hK
          have t4 : a.tmps[4]? = some (.slice (some ⟨w.heap.size + 2, 0, none⟩) NN NN) := hold.2.2 4 rfl; clear hold hdep; go_simp; exact hK.out _ _ rfl (Below.refl _ _)
        · intro a wx hB hold hdep K hK
          have t1 : a.tmps[1]? = some (.pointer (some ⟨w.heap.size, 0, none⟩)) := hold.2.2 1 rfl; clear hold hdep; go_simp; exact hK.out _ _ rfl (Below.refl _ _)
        · intro a wx hB hold hdep K hK
          obtain ⟨v25, t25, p25⟩ := hdep 1 rfl _ 25 rfl rfl; have e25 : v25 = (.pointer (some ⟨w.heap.size, 1, none⟩)) := p25; subst e25; obtain ⟨k0, k1, k2, -⟩ := blk3 (below_keep hB HXr.out); clear hold hdep; go_simp; exact hK.out _ _ rfl (Below.refl _ _)
        · intro a wx hB hold hdep K hK
          have t5 : a.tmps[5]? = some (.int .i64 (i : Nat)) := hold.2.2 5 rfl; clear hold hdep; go_simp; exact hK.out _ _ rfl (Below.refl _ _)
        · intro a wx hB hold hdep K hK
          obtain ⟨v26, t26, p26⟩ := hdep 2 rfl _ 26 rfl rfl; have e26 : v26 = (.slice (some ⟨b, off, none⟩) rel.length rc) := p26; subst e26; obtain ⟨v27, t27, p27⟩ := hdep 3 rfl _ 27 rfl rfl; have e27 : v27 = (.int .i64 (i : Nat)) := p27; subst e27; clear hold hdep; go_simp; exact hK.out _ _ rfl (Below.refl _ _)
        · intro a wx hB hold hdep K hK
          obtain ⟨v28, t28, p28⟩ := hdep 4 rfl _ 28 rfl rfl; have e28 : v28 = (.pointer (some ⟨b, off + i * 2, none⟩)) := p28; subst e28; clear hold hdep; go_simp; exact hK.out _ _ rfl (Below.refl _ _)
        · intro a wx hB hold hdep K hK
          obtain ⟨v29, t29, p29⟩ := hdep 5 rfl _ 29 rfl rfl; have e29 : v29 = (.pointer (some ⟨b, off + i * 2, none⟩)) := p29; subst e29; have d0 := (hB.cell (lt_of_cell HC0.out)).trans HC0.out; have d1 := (hB.cell (lt_of_cell HC1.out)).trans HC1.out; clear hold hdep; go_simp; exact hK.out _ _ rfl (Below.refl _ _)
        · intro a wx hB hold hdep K hK
          have t1 : a.tmps[1]? = some (.pointer (some ⟨w.heap.size, 0, none⟩)) := hold.2.2 1 rfl; clear hold hdep; go_simp; exact hK.out _ _ rfl (Below.refl _ _)
        · intro a wx hB hold hdep K hK
          obtain ⟨v31, t31, p31⟩ := hdep 7 rfl _ 31 rfl rfl; have e31 : v31 = (.pointer (some ⟨w.heap.size, 0, none⟩)) := p31; subst e31; obtain ⟨k0, k1, k2, -⟩ := blk3 (below_keep hB HXr.out); clear hold hdep; go_simp; exact hK.out _ _ rfl (Below.refl _ _)
        · intro a wx hB hold hdep K hK
          obtain ⟨v30, t30, p30⟩ := hdep 6 rfl _ 30 rfl rfl; have e30 : v30 = (.int .i64 (x : Nat)) := p30; subst e30; obtain ⟨v32, t32, p32⟩ := hdep 8 rfl _ 32 rfl rfl; have e32 : v32 = (.int .i64 (N : Nat)) := p32; subst e32; clear hold hdep; go_simp; (have hwn : IntKind.i64.wrap ((xn : Nat) : Int) = (xn : Int) := by rw [IntKind.wrap_i64]; omega); exact hK.out _ _ (congrArg (Value.int .i64) hwn) (Below.refl _ _)
        · intro a wx hB hold hdep K hK
          have t1 : a.tmps[1]? = some (.pointer (some ⟨w.heap.size, 0, none⟩)) := hold.2.2 1 rfl; clear hold hdep; go_simp; exact hK.out _ _ rfl (Below.refl _ _)
        · intro a wx hB hold hdep K hK
          obtain ⟨v34, t34, p34⟩ := hdep 10 rfl _ 34 rfl rfl; have e34 : v34 = (.pointer (some ⟨w.heap.size, 1, none⟩)) := p34; subst e34; obtain ⟨k0, k1, k2, -⟩ := blk3 (below_keep hB HXr.out); clear hold hdep; go_simp; exact hK.out _ _ rfl (Below.refl _ _)
        · intro a wx hB hold hdep K hK
          have t5 : a.tmps[5]? = some (.int .i64 (i : Nat)) := hold.2.2 5 rfl; clear hold hdep; go_simp; exact hK.out _ _ rfl (Below.refl _ _)
        · intro a wx hB hold hdep K hK
          obtain ⟨v35, t35, p35⟩ := hdep 11 rfl _ 35 rfl rfl; have e35 : v35 = (.slice (some ⟨b, off, none⟩) rel.length rc) := p35; subst e35; obtain ⟨v36, t36, p36⟩ := hdep 12 rfl _ 36 rfl rfl; have e36 : v36 = (.int .i64 (i : Nat)) := p36; subst e36; clear hold hdep; go_simp; exact hK.out _ _ rfl (Below.refl _ _)
        · intro a wx hB hold hdep K hK
          obtain ⟨v37, t37, p37⟩ := hdep 13 rfl _ 37 rfl rfl; have e37 : v37 = (.pointer (some ⟨b, off + i * 2, none⟩)) := p37; subst e37; clear hold hdep; go_simp; exact hK.out _ _ rfl (Below.refl _ _)
        · intro a wx hB hold hdep K hK
          obtain ⟨v38, t38, p38⟩ := hdep 14 rfl _ 38 rfl rfl; have e38 : v38 = (.pointer (some ⟨b, off + i * 2 + 1, none⟩)) := p38; subst e38; have d0 := (hB.cell (lt_of_cell HC0.out)).trans HC0.out; have d1 := (hB.cell (lt_of_cell HC1.out)).trans HC1.out; clear hold hdep; go_simp; exact hK.out _ _ rfl (Below.refl _ _)
        · intro a wx hB hold hdep K hK
          obtain ⟨v33, t33, p33⟩ := hdep 9 rfl _ 33 rfl rfl; have e33 : v33 = (.int .i64 (xn : Nat)) := p33; subst e33; obtain ⟨v39, t39, p39⟩ := hdep 15 rfl _ 39 rfl rfl; have e39 : v39 = (.int .i64 (y : Nat)) := p39; subst e39; clear hold hdep; go_simp; (have hwn : IntKind.i64.wrap ((k : Nat) : Int) = (k : Int) := by rw [IntKind.wrap_i64]; omega); exact hK.out _ _ (congrArg (Value.int .i64) hwn) (Below.refl _ _)
        · intro a wx hB hold hdep K hK
          obtain ⟨v24, t24, p24⟩ := hdep 0 rfl _ 24 rfl rfl; have e24 : v24 = (.slice (some ⟨w.heap.size + 2, 0, none⟩) NN NN) := p24; subst e24; obtain ⟨v40, t40, p40⟩ := hdep 16 rfl _ 40 rfl rfl; have e40 : v40 = (.int .i64 (k : Nat)) := p40; subst e40; clear hold hdep; go_simp; exact hK.out _ _ rfl (Below.refl _ _)
      · intro a wx hB hold hgot K hK
        (obtain ⟨vA, tA, pA⟩ := hgot 17 _ 41 (by omega) rfl rfl); have eA : vA = (.pointer (some ⟨w.heap.size + 2, k, none⟩)) := pA; subst eA; have HBx : Hid (Below wr.heap.size wr wx) := hB; have HIx : Hid (wx.heap[w.heap.size + 2]? = some (.cells (bitsC N NN (rel.take i)) 4 (0, 0))) := below_keep hB HIr.out; have c0 := blk_cell HIx.out k; rw [bitsC_get _ HKn.out] at c0; have c1 := blk_fz HIx.out k; obtain ⟨tm, df⟩ := a; (obtain ⟨ys, hys, htm, rfl⟩ := frame_mid2 24 18 (by kernel_rfl) (Nat.le_of_ble_eq_true rfl) hold); obtain ⟨x24, x25, x26, x27, x28, x29, x30, x31, x32, x33, x34, x35, x36, x37, x38, x39, x40, x41, rfl⟩ := rowM18 ys hys; simp only [List.take_succ_cons, List.take_zero, List.drop_succ_cons, List.drop_zero, List.cons_append, List.nil_append] at htm; subst htm; obtain rfl : x41 = _ := someInjM tA; clear hys hold hgot tA pA hB; go_simp; refine hK.out _ _ ?_; clear hK c0 c1; obtain ⟨F, hF⟩ : ∃ F, F = wx.setCell ⟨w.heap.size + 2, k, none⟩ (.bool true) := ⟨_, rfl⟩
        have HF1 : Hid (F.heap[w.heap.size + 2]? = some (.cells (bitsC N NN (rel.take (i + 1))) 4 (0, 0))) := by
          rw [hF, setC HIx.out, bitsC_set (p := ((x : Int), (y : Int))) HKe.out, List.take_add_one, HRi.out]; rfl
        have HF2 : Hid (Below (w.heap.size + 2) W F) := by
          rw [hF]; (exact (HBr.out.trans (HBx.out.mono (by have := lt_of_block HIr.out; omega))).setCell (p := ⟨w.heap.size + 2, k, none⟩) (Nat.le_refl _) _)
        rw [← hF]; clear hF; go_wp2_with fail
        go_roundg (rel.length - (i + 1))
        case measure => have := HGk.out; have := HI.out; omega
        case rel => exact ⟨i + 1, HI.out, rfl, by go_num, HF1, HF2⟩
    · have hii : i = rel.length := by omega
      subst hii; (have hge : ¬ (rel.length : Int) < (rel.length : Int) := by omega); rw [List.take_length] at HIr; clear hlt hi; go_wp2_with fail; clear k0 k1 k2 hge; obtain ⟨U, hU⟩ : ∃ U, U = wr := ⟨_, rfl⟩; subst hU
      go_loopg [6] N (fun gg cc wr => ∃ u cs, u ≤ N ∧ gg = N - u ∧ cc = .int .i64 (u : Nat) ∧ Hid (wr.heap[w.heap.size + 1]? = some (.cells (cs ++ List.replicate (N - u) (Value.slice none 0 0)).toArray 45 (0, 0))) ∧ Hid (wr.heap[w.heap.size + 2]? = some (.cells (bitsC N NN rel) 4 (0, 0))) ∧ Hid (RowsI w.heap.size wr cs ((List.range u).map fun u => seenTo N rel u N)) ∧ Hid (Below (w.heap.size + 1) W wr))
      case atStart =>
        (refine ⟨0, [], by omega, by omega, rfl, ?_, HIr, ⟨rfl, fun j l h => by simp at h⟩, HBr.out.mono (by omega)⟩); (refine ((HBr.out.block _ (by omega)).trans HO.out).trans ?_)
        congr 2
        apply Array.ext'; rw [toList_madeCells_one]
        simp
      case round =>
        obtain ⟨u, cs, hu, hg, rfl, HOr, HIr2, HRw, HBu⟩ := hrel; have HGu : Hid (gk = N - u) := hg; clear hg; (have HXu : Hid (wr.heap[w.heap.size]? = some (.cells #[.int .i64 (N : Nat), .slice ra rel.length rc, .slice ta tl tc] 30 (0, 0))) := (HBu.out.block _ (by omega)).trans HX.out); obtain ⟨k0, k1, k2, -⟩ := blk3 HXu.out; by_cases hlt : u < N
        · have hltI : (u : Int) < (N : Int) := by omega
          have HUl : Hid (u < N) := hlt
          have HCl : Hid (cs.length = u) := by
            have h9 := HRw.out.1; rw [List.length_map, List.length_range] at h9; exact h9
          have hrep : List.replicate (N - u) (Value.slice none 0 0) = .slice none 0 0 :: List.replicate (N - u - 1) (Value.slice none 0 0) := by
            rw [← List.replicate_succ]; congr 1; omega
          rw [hrep] at HOr; obtain ⟨un, hun⟩ : ∃ un, un = u * N := ⟨_, rfl⟩; (have huI : (u : Int) * (N : Int) = (un : Int) := by rw [hun]; simp)
          have hunb : un + N ≤ NN := by
            rw [hun, HNN.out]; (have : (u + 1) * N ≤ N * N := Nat.mul_le_mul (by omega) (Nat.le_refl _)); rw [Nat.succ_mul] at this; omega
          (have hunI : (un : Int) + (N : Int) ≤ (NN : Int) := by omega); have HUn : Hid (un = u * N) := hun; obtain ⟨R, hR⟩ : ∃ R, R = wr := ⟨_, rfl⟩; subst hR; clear hrep hun hlt hu; go_wp2_with fail; clear k0 k1 k2
          go_loopg [7] N (fun gg cc wr => ∃ v ad cp, v ≤ N ∧ gg = N - v ∧ cc = .int .i64 (v : Nat) ∧ Hid (wr.heap[w.heap.size + 1]? = some (.cells (cs ++ Value.slice ad (seenTo N rel u v).length cp :: List.replicate (N - u - 1) (Value.slice none 0 0)).toArray 45 (0, 0))) ∧ Hid (wr.ownsRow R.heap.size 3 1 (.slice ad (seenTo N rel u v).length cp) (seenTo N rel u v).length ((seenTo N rel u v).map encI)) ∧ Hid (R.heap.size ≤ wr.heap.size) ∧ Hid (∀ b, b < R.heap.size → b ≠ w.heap.size + 1 → wr.heap[b]? = R.heap[b]?) ∧ Hid (Below (w.heap.size + 1) W wr))
          case atStart => exact ⟨0, none, 0, by omega, by omega, rfl, HOr, ⟨rfl, Or.inl ⟨rfl, rfl⟩⟩, Nat.le_refl _, fun _ _ _ => rfl, HBu⟩
          case round =>
            obtain ⟨v, ad, cp, hv, hg, rfl, HOv, HOw, HSz, HKp, HBv⟩ := hrel; have HGv : Hid (gk = N - v) := hg; clear hg; (have HXv : Hid (wr.heap[w.heap.size]? = some (.cells #[.int .i64 (N : Nat), .slice ra rel.length rc, .slice ta tl tc] 30 (0, 0))) := (HBv.out.block _ (by omega)).trans HX.out); obtain ⟨k0, k1, k2, -⟩ := blk3 HXv.out; by_cases hlt : v < N
            · have hltI : (v : Int) < (N : Int) := by omega
              have HVl : Hid (v < N) := hlt; obtain ⟨k, hk⟩ : ∃ k, k = un + v := ⟨_, rfl⟩; (have hkI : (un : Int) + (v : Int) = (k : Int) := by rw [hk]; simp); (have hkN : (k : Int) < (NN : Int) := by omega); (have HIv : Hid (wr.heap[w.heap.size + 2]? = some (.cells (bitsC N NN rel) 4 (0, 0))) := (HKp.out _ (lt_of_block HIr2.out) (by omega)).trans HIr2.out); have c0 := blk_cell HIv.out k; (rw [bitsC_get _ (by omega)] at c0); have hsc := seenTo_succ N rel u v; rw [← HUn.out, ← hk] at hsc; have hln := seenTo_len N rel u v; (have HSc : Hid (seenTo N rel u (v + 1) = if bitP N rel k = true then seenTo N rel u v ++ [v] else seenTo N rel u v) := hsc); generalize seenTo N rel u v = LL at *; have HLn : Hid (LL.length ≤ v) := hln; (have hlnI : (LL.length : Int) ≤ (v : Int) := by omega); clear hsc hln hlt hv hk; by_cases hbit : bitP N rel k = true
              · rw [hbit] at c0 HSc
                obtain ⟨i0, hi0, hz0, hz1, hz2⟩ := infoI9; have g0 := blk_cell HOv.out u; rw [mid_get _ _ _ _ HCl.out] at g0; have g1 := blk_fz HOv.out u; clear hbit
                go_wp2_with (first
                  | (at_builtin
                     have hsz := HSz.out; have hwz := lt_of_block HOr.out; have hown := rowM_up HOw.out ((Below.refl _ wr).alloc (Nat.le_refl _) (.cells #[.int .i64 (v : Nat)] 3 (0, 0))); (refine wpList_append_lies _ rfl _ _ 45 rfl R.heap.size 3 i0 (.int .i64 0) 1 8 Try.underlying45 hi0 hz0 hz1 hz2 rfl (by decide) (.slice ad LL.length cp) LL.length (LL.map encI) rfl hown ⟨wr.heap.size, 0, none⟩ 1 1 [.int .i64 (v : Nat)] rfl rfl ?_ ?_ (by omega) (by unfold maxLen; omega) (by omega) (by simp; omega) _ rfl ?_)
                     · intro j u hu
                       rw [add_none, Nat.zero_add, blk_cell (blk_new wr _)]; simpa using hu
                     · intro u hu
                       simp at hu; subst hu; rfl
                     intro g3 cp3 w3 hown3 hgrow hat hlt3; have hgrow' : (wr.alloc (.cells #[.int .i64 (v : Nat)] 3 (0, 0))).grownBy w3 (Value.slice ad LL.length cp).ownBlock := hgrow; have hlt' := HOw.out.lt; (have hO3 : w3.heap[w.heap.size + 1]? = some (.cells (cs ++ Value.slice ad LL.length cp :: List.replicate (N - u - 1) (Value.slice none 0 0)).toArray 45 (0, 0)) := (hgrow'.block _ (by simp; have := lt_of_block HOv.out; omega) fun e => by have := (hlt' _ e.symm).1; omega).trans (alloc_keep HOv.out _)); have HO3 : Hid (w3.heap[w.heap.size + 1]? = some _) := hO3; (have HKp3 : Hid (∀ b, b < R.heap.size → w3.heap[b]? = wr.heap[b]?) := fun b hb => (hgrow'.block b (by simp; omega) fun e => by have := (hlt' _ e.symm).1; omega).trans ((below_more (Below.refl _ wr) _).block b (by omega))); (have HB3 : Hid (Below (w.heap.size + 1) W w3) := ((HBv.out.alloc (by omega) _).grown hgrow' (by simp; omega) fun k hk => by have := (hlt' k hk).1; omega)); (have HSz3 : Hid (R.heap.size ≤ w3.heap.size) := by have := hgrow'.size; simp only [World.size_alloc] at this; show _ ≤ _; omega); have HOw3 : Hid (w3.ownsRow R.heap.size 3 1 (.slice (some ⟨g3, 0, none⟩) (LL.length + 1) cp3) (LL.length + 1) (LL.map encI ++ [.int .i64 (v : Nat)])) := hown3; have HWz : Hid (w.heap.size + 1 < R.heap.size) := hwz; have f0 := blk_cell hO3 u; rw [mid_get _ _ _ _ HCl.out] at f0; have f1 := blk_fz hO3 u
                     clear hgrow hgrow' hat hown3 hown hlt' hO3 hsz hwz hlt3 g0 g1 c0 hi0 hz0 hz1 hz2)
                  | fail)
                (have HSc9 : seenTo N rel u (v + 1) = LL ++ [v] := by rw [HSc.out]; rfl); obtain ⟨F, hF⟩ : ∃ F, F = w3.setCell ⟨w.heap.size + 1, u, none⟩ (.slice (some ⟨g3, 0, none⟩) (LL.length + 1) cp3) := ⟨_, rfl⟩; rw [← hF]; (have hl9 : (seenTo N rel u (v + 1)).length = LL.length + 1 := by rw [HSc9]; simp)
                have HF1 : Hid (F.heap[w.heap.size + 1]? = some (.cells (cs ++ Value.slice (some ⟨g3, 0, none⟩) (seenTo N rel u (v + 1)).length cp3 :: List.replicate (N - u - 1) (Value.slice none 0 0)).toArray 45 (0, 0))) := by
                  show _ = _; rw [hF, setC HO3.out, mid_set _ _ _ _ _ HCl.out, hl9]
                have HF2 : Hid (F.ownsRow R.heap.size 3 1 (.slice (some ⟨g3, 0, none⟩) (seenTo N rel u (v + 1)).length cp3) (seenTo N rel u (v + 1)).length ((seenTo N rel u (v + 1)).map encI)) := by
                  rw [hl9, HSc9, List.map_append]
                  exact rowM_move HOw3.out fun g cur hg _ => by
                    rw [hF]; (exact farM (by have := (HOw3.out.lt g hg).1; have := HWz.out; omega) _)
                (have HF3 : Hid (R.heap.size ≤ F.heap.size) := by rw [hF]; simp only [World.setCell, Array.size_modify]; exact HSz3.out)
                have HF4 : Hid (∀ b, b < R.heap.size → b ≠ w.heap.size + 1 → F.heap[b]? = R.heap[b]?) := fun b hb hne => by
                  rw [hF, farM hne, HKp3.out b hb]; exact HKp.out b hb hne
                have HF5 : Hid (Below (w.heap.size + 1) W F) := by
                  rw [hF]; exact HB3.out.setCell (p := ⟨w.heap.size + 1, u, none⟩) (Nat.le_refl _) _
                clear hF hl9 HSc9; go_wp2_with fail
                go_roundg (N - (v + 1))
                case measure => have := HGv.out; have := HVl.out; omega
                case rel => exact ⟨v + 1, some ⟨g3, 0, none⟩, cp3, HVl.out, rfl, by go_num, HF1, HF2, HF3, HF4, HF5⟩
              · have hb9 : bitP N rel k = false := by simpa using hbit
                rw [hb9] at c0 HSc; (have HSc9 : seenTo N rel u (v + 1) = LL := by rw [HSc.out]; rfl); clear hbit hb9; go_wp2_with fail
                go_roundg (N - (v + 1))
                case measure => have := HGv.out; have := HVl.out; omega
                case rel => exact ⟨v + 1, ad, cp, HVl.out, rfl, by go_num, by rw [HSc9]; exact HOv, by rw [HSc9]; exact HOw, HSz, HKp, HBv⟩
            · have hvv : v = N := by omega
              subst hvv; (have hge : ¬ (v : Int) < (v : Int) := by omega); clear hlt hv; go_wp2_with fail
              go_roundg (v - (u + 1))
              case measure => have := HGu.out; have := HUl.out; omega
              case rel =>
                (refine ⟨u + 1, cs ++ [.slice ad (seenTo v rel u v).length cp], HUl.out, rfl, by go_num, ?_, (HKp.out _ (lt_of_block HIr2.out) (by omega)).trans HIr2.out, ?_, HBv⟩)
                · have := HOv.out
                  show _ = _; rw [this, List.append_assoc, Nat.sub_sub]; rfl
                · show RowsI _ _ _ _
                  rw [List.range_succ, List.map_append]; (refine RowsI.snoc (HRw.out.move fun g cur hh => HKp.out g (lt_of_block hh) fun e => ?_) (rowM_low HOw.out (by have := lt_of_block HOr.out; omega))); rw [e, HOr.out] at hh; simp only [Option.some.injEq, Obj.cells.injEq] at hh; (exact absurd hh.2.1 (by decide))
        · have huu : u = N := by omega
          subst huu; (have hge : ¬ (u : Int) < (u : Int) := by omega); clear hlt hu; go_wp2_with fail; go_ret; (refine ⟨w.heap.size + 1, rfl, by omega, ⟨cs, ?_, HRw.out⟩, HB0.out.trans (HBu.out.mono (by omega))⟩); have := HOr.out; rw [Nat.sub_self, List.replicate_zero, List.append_nil] at this; exact this
end Go.Proofs.Ytclinobfbdljhah
/- Which worlds each world sees: what it says, and its rows as they are read. -/
namespace Go.Proofs.Ytclinobfbdljhah
open Go.RowKit Go.Sort

/-- The pairs lie among so many worlds. -/
def InR (N : Nat) (rs : List (Int × Int)) : Prop := ∀ p ∈ rs, 0 ≤ p.1 ∧ p.1 < N ∧ 0 ≤ p.2 ∧ p.2 < N
theorem num_inj {N a b u v : Nat} (hb : b < N) (hv : v < N) (h : a * N + b = u * N + v) : a = u ∧ b = v := by
  rcases Nat.lt_trichotomy a u with h1 | h1 | h1
  · have : (a + 1) * N ≤ u * N := Nat.mul_le_mul h1 (Nat.le_refl _)
    rw [Nat.succ_mul] at this; omega
  · subst h1
    (exact ⟨rfl, by omega⟩)
  · have : (u + 1) * N ≤ a * N := Nat.mul_le_mul h1 (Nat.le_refl _)
    rw [Nat.succ_mul] at this; omega
theorem bitP_mem {N : Nat} {rs : List (Int × Int)} (hin : InR N rs) {u v : Nat} (hv : v < N) : bitP N rs (u * N + v) = true ↔ ((u : Int), (v : Int)) ∈ rs := by
  rw [bitP, List.any_eq_true]
  constructor
  · rintro ⟨⟨x, y⟩, hm, he⟩
    obtain ⟨h1, h2, h3, h4⟩ := hin _ hm; simp only at h1 h2 h3 h4; (obtain ⟨a, rfl⟩ : ∃ a : Nat, x = (a : Int) := ⟨x.toNat, by omega⟩); (obtain ⟨b, rfl⟩ : ∃ b : Nat, y = (b : Int) := ⟨y.toNat, by omega⟩); (have he2 : (a : Int) * (N : Int) + (b : Int) = ((u * N + v : Nat) : Int) := by simpa using he); (have he3 : ((a * N + b : Nat) : Int) = ((u * N + v : Nat) : Int) := by rw [← he2]; simp); (obtain ⟨rfl, rfl⟩ := num_inj (by omega) hv (Int.ofNat.inj he3)); exact hm
  · intro hm
    (exact ⟨_, hm, by simp⟩)
theorem seenTo_mem {N : Nat} {rs : List (Int × Int)} (hin : InR N rs) {u v : Nat} : v ∈ seenTo N rs u N ↔ v < N ∧ ((u : Int), (v : Int)) ∈ rs := by
  rw [seenTo, List.mem_filter, List.mem_range]
  constructor
  · rintro ⟨h1, h2⟩
    exact ⟨h1, (bitP_mem hin h1).1 h2⟩
  · rintro ⟨h1, h2⟩
    exact ⟨h1, (bitP_mem hin h1).2 h2⟩
/-- The pairs of a model that is fine lie among its worlds. -/
theorem mdcode_in {W P : Int} {m : Mdl} (h : (mdcode W P m).1 = 0) : ∃ N : Nat, m.n = (N : Int) ∧ 1 ≤ N ∧ (N : Int) ≤ W ∧ (m.rel.length : Int) ≤ P ∧ m.tr.length = N ∧ InR N m.rel := by
  unfold mdcode at h
  split at h
  · cases h
  rename_i h1
  split at h
  · cases h
  rename_i h2
  split at h
  · cases h
  rename_i h3
  (refine ⟨m.n.toNat, by omega, by omega, by omega, by omega, by omega, fun p hp => ?_⟩)
  have h4 : pairBad m.n p = false := by
    (have := List.any_eq_false.1 (by simpa using h3 : m.rel.any (pairBad m.n) = false) p hp); simpa using this
  simp [pairBad] at h4; omega
/-- A row as it is read. -/
theorem SnR.row {B : Nat} {w : World} {g N : Nat} {rel : List (Int × Int)} (h : SnR B w g N rel) {u : Nat} (hu : u < N) : ∃ ad cp, w.cell? ⟨g, u, none⟩ = some (.slice ad (seenTo N rel u N).length cp) ∧ (seenTo N rel u N).length ≤ cp ∧ cp ≤ maxLen ∧ (0 < (seenTo N rel u N).length → ∃ b, ad = some ⟨b, 0, none⟩ ∧ ∀ (j k : Nat), (seenTo N rel u N)[j]? = some k → w.cell? ⟨b, j, none⟩ = some (.int .i64 (k : Nat))) := by
  obtain ⟨cs, h1, -, h3⟩ := h; (obtain ⟨ad, cp, e1, e2⟩ := h3 u (seenTo N rel u N) (by rw [List.getElem?_map, List.getElem?_range hu]; rfl)); obtain ⟨c1, c2⟩ := rowM_caps e2; (refine ⟨ad, cp, by rw [blk_cell h1, List.getElem?_toArray]; exact e1, c1, c2, fun hp => ?_⟩); obtain ⟨b, rfl, hc⟩ := rowM_cells e2 hp; (refine ⟨b, rfl, fun j k hj => ?_⟩); (have := hc j (encI k) (by rw [List.getElem?_map, hj]; rfl))
  rwa [Nat.zero_add] at this
theorem SnR.up {B : Nat} {w w' : World} {g N : Nat} {rel : List (Int × Int)} (h : SnR B w g N rel) (hb : Below w.heap.size w w') : SnR B w' g N rel := by
  obtain ⟨cs, h1, h2⟩ := h; (exact ⟨cs, below_keep hb h1, h2.move fun g cur hh => hb.block g (lt_of_block hh)⟩)
end Go.Proofs.Ytclinobfbdljhah
