/- Texts of one proof, one behind the other: NT7. -/
import Derived.Test.YtealalhgkdlmkaiB15
/- Walks: a plan as it is read: isPar, isTensor, isPair. -/
namespace Go.Proofs.Ytealalhgkdlmkai
open Go.RowKit Go.Sort

/-- A node as it is read. -/
theorem PlanA.node {w : World} {T : Nat → Prop} {bp : Nat} {rv : Value} {nds : List Nd} {lvs : List Nat} (h : PlanA w T bp rv nds lvs) {i : Nat} {x : Nd} (hx : nds[i]? = some x) : ∃ gn cn, w.cell? ⟨bp, 0, none⟩ = some (.slice (some ⟨gn, 0, none⟩) nds.length cn) ∧ nds.length ≤ cn ∧ w.cell? ⟨gn, i * 5, none⟩ = some (.int .i64 x.k) ∧ w.cell? ⟨gn, i * 5 + 1, none⟩ = some (.string x.n) ∧ w.cell? ⟨gn, i * 5 + 2, none⟩ = some (.bool x.g) ∧ w.cell? ⟨gn, i * 5 + 3, none⟩ = some (.int .i64 (x.a : Nat)) ∧ w.cell? ⟨gn, i * 5 + 4, none⟩ = some (.int .i64 (x.b : Nat)) := by
  obtain ⟨an, cn, al, cl, h1, h2, h3, -⟩ := h; have hlt := (List.getElem?_eq_some_iff.1 hx).1; (obtain ⟨g, rfl, hc⟩ := rowM_cells h2 (by omega))
  have cc : ∀ j u, j < 5 → x.cells[j]? = some u → w.cell? ⟨g, i * 5 + j, none⟩ = some u := fun j u hj hu => by
    (have := hc (i * 5 + j) u (by rw [encNd_get hx j hj]; exact hu))
    rwa [Nat.zero_add] at this
  (exact ⟨g, cn, blk_cell h1 0, (rowM_caps h2).1, cc 0 _ (by omega) rfl, cc 1 _ (by omega) rfl, cc 2 _ (by omega) rfl, cc 3 _ (by omega) rfl, cc 4 _ (by omega) rfl⟩)
/-- Nodes and leaves together, as they are read. -/
theorem PlanA.read {w : World} {T : Nat → Prop} {bp : Nat} {rv : Value} {nds : List Nd} {lvs : List Nat} (h : PlanA w T bp rv nds lvs) : ∃ an cn al cl, w.cell? ⟨bp, 0, none⟩ = some (.slice an nds.length cn) ∧ w.cell? ⟨bp, 1, none⟩ = some rv ∧ w.cell? ⟨bp, 2, none⟩ = some (.slice al lvs.length cl) ∧ nds.length ≤ cn ∧ lvs.length ≤ cl ∧ (∀ i x, nds[i]? = some x → ∃ gn, an = some ⟨gn, 0, none⟩ ∧ ∀ j u, j < 5 → x.cells[j]? = some u → w.cell? ⟨gn, i * 5 + j, none⟩ = some u) ∧ (∀ i n : Nat, lvs[i]? = some n → ∃ gl, al = some ⟨gl, 0, none⟩ ∧ w.cell? ⟨gl, i, none⟩ = some (.int .i64 (n : Nat))) := by
  obtain ⟨an, cn, al, cl, h1, h2, h3, -⟩ := h; (refine ⟨an, cn, al, cl, blk_cell h1 0, blk_cell h1 1, blk_cell h1 2, (rowM_caps h2).1, (rowM_caps h3).1, fun i x hx => ?_, fun i n hn => ?_⟩)
  · have hlt := (List.getElem?_eq_some_iff.1 hx).1
    (obtain ⟨g, rfl, hc⟩ := rowM_cells h2 (by omega)); (refine ⟨g, rfl, fun j u hj hu => ?_⟩); (have := hc (i * 5 + j) u (by rw [encNd_get hx j hj]; exact hu))
    rwa [Nat.zero_add] at this
  · have hlt := (List.getElem?_eq_some_iff.1 hn).1
    (obtain ⟨g, rfl, hc⟩ := rowM_cells h3 (by omega)); refine ⟨g, rfl, ?_⟩; (have := hc i (.int .i64 (n : Nat)) (by rw [List.getElem?_map, hn]; rfl))
    rwa [Nat.zero_add] at this
set_option maxHeartbeats 1000000 in
theorem isPar_any {T : Nat → Prop} {bp : Nat} {rv : Value} {nds : List Nd} {lvs : List Nat} {i : Nat} {x : Nd} (hx : nds[i]? = some x) (w : World) (h : PlanA w T bp rv nds lvs) :
    Calls Try.prog 64 #[.pointer (some ⟨bp, 0, none⟩), .int .i64 (i : Nat)] w fun e w' => e = .returned (.bool (x.k == 3)) ∧ w' = w := by
  obtain ⟨gn, cn, h0, hcn, h1, -⟩ := h.node hx; have hlt := (List.getElem?_eq_some_iff.1 hx).1; (have hI : (i : Int) < (nds.length : Int) := by omega); (have hcI : (nds.length : Int) ≤ (cn : Int) := by omega); clear hx h hlt
  go_enter Try.func64, Try.ntmps64
  go_wp2_with fail; go_ret; exact ⟨rfl, rfl⟩
set_option maxHeartbeats 1000000 in
theorem isTensor_any {T : Nat → Prop} {bp : Nat} {rv : Value} {nds : List Nd} {lvs : List Nat} {i : Nat} {x : Nd} (hx : nds[i]? = some x) (w : World) (h : PlanA w T bp rv nds lvs) :
    Calls Try.prog 69 #[.pointer (some ⟨bp, 0, none⟩), .int .i64 (i : Nat)] w fun e w' => e = .returned (.bool (x.k == 2)) ∧ w' = w := by
  obtain ⟨gn, cn, h0, hcn, h1, -⟩ := h.node hx; have hlt := (List.getElem?_eq_some_iff.1 hx).1; (have hI : (i : Int) < (nds.length : Int) := by omega); (have hcI : (nds.length : Int) ≤ (cn : Int) := by omega); clear hx h hlt
  go_enter Try.func69, Try.ntmps69
  go_wp2_with fail; go_ret; exact ⟨rfl, rfl⟩
theorem blk5N {w : World} {b : Nat} {c0 c1 c2 c3 c4 : Value} {T : TypeId} (h : w.heap[b]? = some (.cells #[c0, c1, c2, c3, c4] T (0, 0))) : w.cell? ⟨b, 0, none⟩ = some c0 ∧ w.cell? ⟨b, 1, none⟩ = some c1 ∧ w.cell? ⟨b, 2, none⟩ = some c2 ∧ w.cell? ⟨b, 3, none⟩ = some c3 ∧ w.cell? ⟨b, 4, none⟩ = some c4 ∧ w.frozen? ⟨b, 0, none⟩ = false ∧ w.frozen? ⟨b, 1, none⟩ = false ∧ w.frozen? ⟨b, 2, none⟩ = false ∧ w.frozen? ⟨b, 3, none⟩ = false ∧ w.frozen? ⟨b, 4, none⟩ = false :=
  ⟨blk_cell h 0, blk_cell h 1, blk_cell h 2, blk_cell h 3, blk_cell h 4, blk_fz h 0, blk_fz h 1, blk_fz h 2, blk_fz h 3, blk_fz h 4⟩
theorem set5N {w : World} {b : Nat} {c0 c1 c2 c3 c4 : Value} {T : TypeId} (h : w.heap[b]? = some (.cells #[c0, c1, c2, c3, c4] T (0, 0))) (v0 v1 v2 v3 v4 : Value) : (((((w.setCell ⟨b, 0, none⟩ v0).setCell ⟨b, 1, none⟩ v1).setCell ⟨b, 2, none⟩ v2).setCell ⟨b, 3, none⟩ v3).setCell ⟨b, 4, none⟩ v4).heap[b]? = some (.cells #[v0, v1, v2, v3, v4] T (0, 0)) := by
  simp [World.setCell, Array.getElem?_modify, h]
theorem below5N {A : Nat} {W w : World} {b : Nat} (h : Below A W w) (hb : A ≤ b) (v0 v1 v2 v3 v4 : Value) : Below A W (((((w.setCell ⟨b, 0, none⟩ v0).setCell ⟨b, 1, none⟩ v1).setCell ⟨b, 2, none⟩ v2).setCell ⟨b, 3, none⟩ v3).setCell ⟨b, 4, none⟩ v4) :=
  ((((h.setCell (p := ⟨b, 0, none⟩) hb _).setCell (p := ⟨b, 1, none⟩) hb _).setCell (p := ⟨b, 2, none⟩) hb _).setCell (p := ⟨b, 3, none⟩) hb _).setCell (p := ⟨b, 4, none⟩) hb _
theorem far5N {w : World} {b q : Nat} (h : q ≠ b) (v0 v1 v2 v3 v4 : Value) : (((((w.setCell ⟨b, 0, none⟩ v0).setCell ⟨b, 1, none⟩ v1).setCell ⟨b, 2, none⟩ v2).setCell ⟨b, 3, none⟩ v3).setCell ⟨b, 4, none⟩ v4).heap[q]? = w.heap[q]? := by
  rw [farM h, farM h, farM h, farM h, farM h]
/-- May two nodes be linked? -/
def fitB (x y : Nd) : Bool := (x.n.toList == y.n.toList) && (x.g != y.g)
theorem rowQ28 (l : List Value) (h0 : l.length = 28) : ∃ x0 x1 x2 x3 x4 x5 x6 x7 x8 x9 x10 x11 x12 x13 x14 x15 x16 x17 x18 x19 x20 x21 x22 x23 x24 x25 x26 x27, l = [x0, x1, x2, x3, x4, x5, x6, x7, x8, x9, x10, x11, x12, x13, x14, x15, x16, x17, x18, x19, x20, x21, x22, x23, x24, x25, x26, x27] := by
  obtain ⟨x0, l1, e0, h1⟩ := cons_lenM h0; obtain ⟨x1, l2, e1, h2⟩ := cons_lenM h1; obtain ⟨x2, l3, e2, h3⟩ := cons_lenM h2; obtain ⟨x3, l4, e3, h4⟩ := cons_lenM h3; obtain ⟨x4, l5, e4, h5⟩ := cons_lenM h4; obtain ⟨x5, l6, e5, h6⟩ := cons_lenM h5; obtain ⟨x6, l7, e6, h7⟩ := cons_lenM h6; obtain ⟨x7, l8, e7, h8⟩ := cons_lenM h7; obtain ⟨x8, l9, e8, h9⟩ := cons_lenM h8; obtain ⟨x9, l10, e9, h10⟩ := cons_lenM h9; obtain ⟨x10, l11, e10, h11⟩ := cons_lenM h10; obtain ⟨x11, l12, e11, h12⟩ := cons_lenM h11; obtain ⟨x12, l13, e12, h13⟩ := cons_lenM h12; obtain ⟨x13, l14, e13, h14⟩ := cons_lenM h13; obtain ⟨x14, l15, e14, h15⟩ := cons_lenM h14; obtain ⟨x15, l16, e15, h16⟩ := cons_lenM h15; obtain ⟨x16, l17, e16, h17⟩ := cons_lenM h16; obtain ⟨x17, l18, e17, h18⟩ := cons_lenM h17; obtain ⟨x18, l19, e18, h19⟩ := cons_lenM h18; obtain ⟨x19, l20, e19, h20⟩ := cons_lenM h19; obtain ⟨x20, l21, e20, h21⟩ := cons_lenM h20; obtain ⟨x21, l22, e21, h22⟩ := cons_lenM h21; obtain ⟨x22, l23, e22, h23⟩ := cons_lenM h22; obtain ⟨x23, l24, e23, h24⟩ := cons_lenM h23; obtain ⟨x24, l25, e24, h25⟩ := cons_lenM h24; obtain ⟨x25, l26, e25, h26⟩ := cons_lenM h25; obtain ⟨x26, l27, e26, h27⟩ := cons_lenM h26; obtain ⟨x27, l28, e27, h28⟩ := cons_lenM h27; have e28 : l28 = [] := List.length_eq_zero_iff.1 h28; subst e28 e27 e26 e25 e24 e23 e22 e21 e20 e19 e18 e17 e16 e15 e14 e13 e12 e11 e10 e9 e8 e7 e6 e5 e4 e3 e2 e1 e0; exact ⟨x0, x1, x2, x3, x4, x5, x6, x7, x8, x9, x10, x11, x12, x13, x14, x15, x16, x17, x18, x19, x20, x21, x22, x23, x24, x25, x26, x27, rfl⟩
structure GQn where
  g7 : Nat
  g8 : Nat
structure StQn (w : World) (X Y : Obj) (l26 l27 l28 l29 : Bool) (y : GQn) (wx : World) : Prop where
  below : Below w.heap.size w wx
  b7 : l26 = true → w.heap.size ≤ y.g7 ∧ wx.heap[y.g7]? = some (cond l28 X (.cells #[.int .i64 0, .string ⟨#[]⟩, .bool false, .int .i64 0, .int .i64 0] 119 (0, 0)))
  b8 : l27 = true → w.heap.size ≤ y.g8 ∧ wx.heap[y.g8]? = some (cond l29 Y (.cells #[.int .i64 0, .string ⟨#[]⟩, .bool false, .int .i64 0, .int .i64 0] 119 (0, 0)))
  ne : l26 = true → l27 = true → y.g7 ≠ y.g8
theorem StQn.al7 {w wx : World} {X Y : Obj} {l27 l29 : Bool} {y : GQn} (h : StQn w X Y false l27 false l29 y wx) : StQn w X Y true l27 false l29 { y with g7 := wx.heap.size } (wx.alloc (.cells #[.int .i64 0, .string ⟨#[]⟩, .bool false, .int .i64 0, .int .i64 0] 119 (0, 0))) :=
  ⟨below_more h.below _, fun _ => ⟨h.below.size, blk_new _ _⟩, fun e => ⟨(h.b8 e).1, alloc_keep (h.b8 e).2 _⟩, fun _ e => by have := lt_of_block (h.b8 e).2; show wx.heap.size ≠ y.g8; omega⟩
theorem StQn.al8 {w wx : World} {X Y : Obj} {l26 l28 : Bool} {y : GQn} (h : StQn w X Y l26 false l28 false y wx) : StQn w X Y l26 true l28 false { y with g8 := wx.heap.size } (wx.alloc (.cells #[.int .i64 0, .string ⟨#[]⟩, .bool false, .int .i64 0, .int .i64 0] 119 (0, 0))) :=
  ⟨below_more h.below _, fun e => ⟨(h.b7 e).1, alloc_keep (h.b7 e).2 _⟩, fun _ => ⟨h.below.size, blk_new _ _⟩, fun e _ => by have := lt_of_block (h.b7 e).2; show y.g7 ≠ wx.heap.size; omega⟩
theorem StQn.st7 {w wx : World} {Y : Obj} {l27 l29 : Bool} {y : GQn} {v0 v1 v2 v3 v4 : Value} (h : StQn w (.cells #[v0, v1, v2, v3, v4] 119 (0, 0)) Y true l27 false l29 y wx) : StQn w (.cells #[v0, v1, v2, v3, v4] 119 (0, 0)) Y true l27 true l29 y (((((wx.setCell ⟨y.g7, 0, none⟩ v0).setCell ⟨y.g7, 1, none⟩ v1).setCell ⟨y.g7, 2, none⟩ v2).setCell ⟨y.g7, 3, none⟩ v3).setCell ⟨y.g7, 4, none⟩ v4) :=
  ⟨below5N h.below (h.b7 rfl).1 _ _ _ _ _, fun _ => ⟨(h.b7 rfl).1, set5N (h.b7 rfl).2 _ _ _ _ _⟩, fun e => ⟨(h.b8 e).1, (far5N (fun e2 => h.ne rfl e e2.symm) _ _ _ _ _).trans (h.b8 e).2⟩, h.ne⟩
theorem StQn.st8 {w wx : World} {X : Obj} {l26 l28 : Bool} {y : GQn} {v0 v1 v2 v3 v4 : Value} (h : StQn w X (.cells #[v0, v1, v2, v3, v4] 119 (0, 0)) l26 true l28 false y wx) : StQn w X (.cells #[v0, v1, v2, v3, v4] 119 (0, 0)) l26 true l28 true y (((((wx.setCell ⟨y.g8, 0, none⟩ v0).setCell ⟨y.g8, 1, none⟩ v1).setCell ⟨y.g8, 2, none⟩ v2).setCell ⟨y.g8, 3, none⟩ v3).setCell ⟨y.g8, 4, none⟩ v4) :=
  ⟨below5N h.below (h.b8 rfl).1 _ _ _ _ _, fun e => ⟨(h.b7 e).1, (far5N (h.ne e rfl) _ _ _ _ _).trans (h.b7 e).2⟩, fun _ => ⟨(h.b8 rfl).1, set5N (h.b8 rfl).2 _ _ _ _ _⟩, h.ne⟩
set_option maxRecDepth 10000 in
set_option maxHeartbeats 8000000 in
theorem isPair_any {T : Nat → Prop} {bp : Nat} {rv : Value} {nds : List Nd} {lvs : List Nat} {i j na nb : Nat} {x y : Nd} (hi : lvs[i]? = some na) (hj : lvs[j]? = some nb) (hx : nds[na]? = some x) (hy : nds[nb]? = some y) (w : World) (h : PlanA w T bp rv nds lvs) :
    Calls Try.prog 79 #[.pointer (some ⟨bp, 0, none⟩), .int .i64 (i : Nat), .int .i64 (j : Nat)] w fun e w' => e = .returned (.bool (fitB x y)) ∧ Below w.heap.size w w' := by
  obtain ⟨an, cn, al, cl, h0, -, h2, hcn, hcl, hN, hL⟩ := h.read; obtain ⟨gl, rfl, d1⟩ := hL i na hi; obtain ⟨gl', e, d2⟩ := hL j nb hj
  cases e
  obtain ⟨gn, rfl, c1⟩ := hN na x hx; obtain ⟨gn', e, c2⟩ := hN nb y hy
  cases e
  (have ltI : (i : Int) < (lvs.length : Int) := by have := (List.getElem?_eq_some_iff.1 hi).1; omega); (have ltJ : (j : Int) < (lvs.length : Int) := by have := (List.getElem?_eq_some_iff.1 hj).1; omega); (have ltA : (na : Int) < (nds.length : Int) := by have := (List.getElem?_eq_some_iff.1 hx).1; omega); (have ltB : (nb : Int) < (nds.length : Int) := by have := (List.getElem?_eq_some_iff.1 hy).1; omega); obtain ⟨xk, xn, xg, xa, xb⟩ := x; obtain ⟨yk, yn, yg, ya, yb⟩ := y; have HC0 : Hid (w.cell? ⟨bp, 0, none⟩ = some (.slice (some ⟨gn, 0, none⟩) nds.length cn)) := h0; have HC2 : Hid (w.cell? ⟨bp, 2, none⟩ = some (.slice (some ⟨gl, 0, none⟩) lvs.length cl)) := h2; have HD1 : Hid (w.cell? ⟨gl, i, none⟩ = some (.int .i64 (na : Nat))) := d1; have HD2 : Hid (w.cell? ⟨gl, j, none⟩ = some (.int .i64 (nb : Nat))) := d2; (have HP : Hid (w.cell? ⟨gn, na * 5, none⟩ = some (.int .i64 xk) ∧ w.cell? ⟨gn, na * 5 + 1, none⟩ = some (.string xn) ∧ w.cell? ⟨gn, na * 5 + 2, none⟩ = some (.bool xg) ∧ w.cell? ⟨gn, na * 5 + 3, none⟩ = some (.int .i64 (xa : Nat)) ∧ w.cell? ⟨gn, na * 5 + 4, none⟩ = some (.int .i64 (xb : Nat))) := ⟨c1 0 _ (by omega) rfl, c1 1 _ (by omega) rfl, c1 2 _ (by omega) rfl, c1 3 _ (by omega) rfl, c1 4 _ (by omega) rfl⟩); (have HQ : Hid (w.cell? ⟨gn, nb * 5, none⟩ = some (.int .i64 yk) ∧ w.cell? ⟨gn, nb * 5 + 1, none⟩ = some (.string yn) ∧ w.cell? ⟨gn, nb * 5 + 2, none⟩ = some (.bool yg) ∧ w.cell? ⟨gn, nb * 5 + 3, none⟩ = some (.int .i64 (ya : Nat)) ∧ w.cell? ⟨gn, nb * 5 + 4, none⟩ = some (.int .i64 (yb : Nat))) := ⟨c2 0 _ (by omega) rfl, c2 1 _ (by omega) rfl, c2 2 _ (by omega) rfl, c2 3 _ (by omega) rfl, c2 4 _ (by omega) rfl⟩); (have hcI : (nds.length : Int) ≤ (cn : Int) := by omega); (have hdI : (lvs.length : Int) ≤ (cl : Int) := by omega); clear hi hj hx hy h hN hL c1 c2 h0 h2 d1 d2
  go_enter Try.func79, Try.ntmps79
  go_wp2_with fail; (refine wp_region_gh (by kernel_rfl) (by kernel_rfl) (by kernel_rfl) 47 rfl (by kernel_rfl) [fun _ v _ => v = (.pointer (some ⟨bp, 0, none⟩)), fun _ v _ => v = (.pointer (some ⟨bp, 0, none⟩)), fun _ v _ => v = (.pointer (some ⟨bp, 0, none⟩)), fun _ v _ => v = (.slice (some ⟨gn, 0, none⟩) nds.length cn), fun _ v _ => v = (.pointer (some ⟨bp, 0, none⟩)), fun _ v _ => v = (.pointer (some ⟨bp, 0, none⟩)), fun _ v _ => v = (.pointer (some ⟨bp, 2, none⟩)), fun _ v _ => v = (.slice (some ⟨gl, 0, none⟩) lvs.length cl), fun _ v _ => v = (.int .i64 (i : Nat)), fun _ v _ => v = (.pointer (some ⟨gl, i, none⟩)), fun _ v _ => v = (.int .i64 (na : Nat)), fun _ v _ => v = (.pointer (some ⟨gn, na * 5, none⟩)), fun _ v _ => v = (.agg #[.int .i64 xk, .string xn, .bool xg, .int .i64 (xa : Nat), .int .i64 (xb : Nat)]), fun _ v _ => v = (.pointer (some ⟨bp, 0, none⟩)), fun _ v _ => v = (.pointer (some ⟨bp, 0, none⟩)), fun _ v _ => v = (.pointer (some ⟨bp, 0, none⟩)), fun _ v _ => v = (.slice (some ⟨gn, 0, none⟩) nds.length cn), fun _ v _ => v = (.pointer (some ⟨bp, 0, none⟩)), fun _ v _ => v = (.pointer (some ⟨bp, 0, none⟩)), fun _ v _ => v = (.pointer (some ⟨bp, 2, none⟩)), fun _ v _ => v = (.slice (some ⟨gl, 0, none⟩) lvs.length cl), fun _ v _ => v = (.int .i64 (j : Nat)), fun _ v _ => v = (.pointer (some ⟨gl, j, none⟩)), fun _ v _ => v = (.int .i64 (nb : Nat)), fun _ v _ => v = (.pointer (some ⟨gn, nb * 5, none⟩)), fun _ v _ => v = (.agg #[.int .i64 yk, .string yn, .bool yg, .int .i64 (ya : Nat), .int .i64 (yb : Nat)]), fun y v _ => v = (.pointer (some ⟨y.g7, 0, none⟩)), fun y v _ => v = (.pointer (some ⟨y.g8, 0, none⟩)), fun _ _ _ => True, fun _ _ _ => True] (fun _ _ => true) (fun L => StQn w (.cells #[.int .i64 xk, .string xn, .bool xg, .int .i64 (xa : Nat), .int .i64 (xb : Nat)] 119 (0, 0)) (.cells #[.int .i64 yk, .string yn, .bool yg, .int .i64 (ya : Nat), .int .i64 (yb : Nat)] 119 (0, 0)) (L 26) (L 27) (L 28) (L 29)) (⟨0, 0⟩) ?_ ?_ ?_)
  · exact fun wx h1 h2 => ⟨h1, fun e => (by cases e), fun e => (by cases e), fun e => (by cases e)⟩
  · refine ⟨?_, ?_, ?_, ?_, ?_, ?_, ?_, ?_, ?_, ?_, ?_, ?_, ?_, ?_, ?_, ?_, ?_, ?_, ?_, ?_, ?_, ?_, ?_, ?_, ?_, ?_, ?_, ?_, ?_, ?_, trivial⟩
    · intro L y a wx hSt hLi hdl hcl hold hdep K hK
      have HSt : Hid (StQn w (.cells #[.int .i64 xk, .string xn, .bool xg, .int .i64 (xa : Nat), .int .i64 (xb : Nat)] 119 (0, 0)) (.cells #[.int .i64 yk, .string yn, .bool yg, .int .i64 (ya : Nat), .int .i64 (yb : Nat)] 119 (0, 0)) (L 26) (L 27) (L 28) (L 29) y wx) := hSt; clear hSt; have t0 : a.tmps[0]? = some (.pointer (some ⟨bp, 0, none⟩)) := hold 0 rfl; clear hold hdep hdl hcl hLi; go_simp; (exact hK.out _ _ y HSt.out rfl (fun j hj hl => ⟨rfl, fun u h => h⟩))
    · intro L y a wx hSt hLi hdl hcl hold hdep K hK
      have HSt : Hid (StQn w (.cells #[.int .i64 xk, .string xn, .bool xg, .int .i64 (xa : Nat), .int .i64 (xb : Nat)] 119 (0, 0)) (.cells #[.int .i64 yk, .string yn, .bool yg, .int .i64 (ya : Nat), .int .i64 (yb : Nat)] 119 (0, 0)) (L 26) (L 27) (L 28) (L 29) y wx) := hSt; clear hSt; obtain ⟨v9, t9, q9⟩ := hdep 0 rfl _ 9 rfl rfl; have e9 : v9 = (.pointer (some ⟨bp, 0, none⟩)) := q9 rfl; subst e9; clear hold hdep hdl hcl hLi; go_simp; (exact hK.out _ _ y HSt.out rfl (fun j hj hl => ⟨rfl, fun u h => h⟩))
    · intro L y a wx hSt hLi hdl hcl hold hdep K hK
      have HSt : Hid (StQn w (.cells #[.int .i64 xk, .string xn, .bool xg, .int .i64 (xa : Nat), .int .i64 (xb : Nat)] 119 (0, 0)) (.cells #[.int .i64 yk, .string yn, .bool yg, .int .i64 (ya : Nat), .int .i64 (yb : Nat)] 119 (0, 0)) (L 26) (L 27) (L 28) (L 29) y wx) := hSt; clear hSt; obtain ⟨v10, t10, q10⟩ := hdep 1 rfl _ 10 rfl rfl; have e10 : v10 = (.pointer (some ⟨bp, 0, none⟩)) := q10 rfl; subst e10; clear hold hdep hdl hcl hLi; go_simp; (exact hK.out _ _ y HSt.out rfl (fun j hj hl => ⟨rfl, fun u h => h⟩))
    · intro L y a wx hSt hLi hdl hcl hold hdep K hK
      have HSt : Hid (StQn w (.cells #[.int .i64 xk, .string xn, .bool xg, .int .i64 (xa : Nat), .int .i64 (xb : Nat)] 119 (0, 0)) (.cells #[.int .i64 yk, .string yn, .bool yg, .int .i64 (ya : Nat), .int .i64 (yb : Nat)] 119 (0, 0)) (L 26) (L 27) (L 28) (L 29) y wx) := hSt; clear hSt; obtain ⟨v11, t11, q11⟩ := hdep 2 rfl _ 11 rfl rfl; have e11 : v11 = (.pointer (some ⟨bp, 0, none⟩)) := q11 rfl; subst e11; have c0 := (HSt.out.below.cell (lt_of_cell HC0.out)).trans HC0.out; clear hold hdep hdl hcl hLi; go_simp; (exact hK.out _ _ y HSt.out rfl (fun j hj hl => ⟨rfl, fun u h => h⟩))
    · intro L y a wx hSt hLi hdl hcl hold hdep K hK
      have HSt : Hid (StQn w (.cells #[.int .i64 xk, .string xn, .bool xg, .int .i64 (xa : Nat), .int .i64 (xb : Nat)] 119 (0, 0)) (.cells #[.int .i64 yk, .string yn, .bool yg, .int .i64 (ya : Nat), .int .i64 (yb : Nat)] 119 (0, 0)) (L 26) (L 27) (L 28) (L 29) y wx) := hSt; clear hSt; have t0 : a.tmps[0]? = some (.pointer (some ⟨bp, 0, none⟩)) := hold 0 rfl; clear hold hdep hdl hcl hLi; go_simp; (exact hK.out _ _ y HSt.out rfl (fun j hj hl => ⟨rfl, fun u h => h⟩))
    · intro L y a wx hSt hLi hdl hcl hold hdep K hK
      have HSt : Hid (StQn w (.cells #[.int .i64 xk, .string xn, .bool xg, .int .i64 (xa : Nat), .int .i64 (xb : Nat)] 119 (0, 0)) (.cells #[.int .i64 yk, .string yn, .bool yg, .int .i64 (ya : Nat), .int .i64 (yb : Nat)] 119 (0, 0)) (L 26) (L 27) (L 28) (L 29) y wx) := hSt; clear hSt; obtain ⟨v13, t13, q13⟩ := hdep 4 rfl _ 13 rfl rfl; have e13 : v13 = (.pointer (some ⟨bp, 0, none⟩)) := q13 rfl; subst e13; clear hold hdep hdl hcl hLi; go_simp; (exact hK.out _ _ y HSt.out rfl (fun j hj hl => ⟨rfl, fun u h => h⟩))
    · intro L y a wx hSt hLi hdl hcl hold hdep K hK
      have HSt : Hid (StQn w (.cells #[.int .i64 xk, .string xn, .bool xg, .int .i64 (xa : Nat), .int .i64 (xb : Nat)] 119 (0, 0)) (.cells #[.int .i64 yk, .string yn, .bool yg, .int .i64 (ya : Nat), .int .i64 (yb : Nat)] 119 (0, 0)) (L 26) (L 27) (L 28) (L 29) y wx) := hSt; clear hSt; obtain ⟨v14, t14, q14⟩ := hdep 5 rfl _ 14 rfl rfl; have e14 : v14 = (.pointer (some ⟨bp, 0, none⟩)) := q14 rfl; subst e14; clear hold hdep hdl hcl hLi; go_simp; (exact hK.out _ _ y HSt.out rfl (fun j hj hl => ⟨rfl, fun u h => h⟩))
    · intro L y a wx hSt hLi hdl hcl hold hdep K hK
      have HSt : Hid (StQn w (.cells #[.int .i64 xk, .string xn, .bool xg, .int .i64 (xa : Nat), .int .i64 (xb : Nat)] 119 (0, 0)) (.cells #[.int .i64 yk, .string yn, .bool yg, .int .i64 (ya : Nat), .int .i64 (yb : Nat)] 119 (0, 0)) (L 26) (L 27) (L 28) (L 29) y wx) := hSt; clear hSt; obtain ⟨v15, t15, q15⟩ := hdep 6 rfl _ 15 rfl rfl; have e15 : v15 = (.pointer (some ⟨bp, 2, none⟩)) := q15 rfl; subst e15; have c0 := (HSt.out.below.cell (lt_of_cell HC2.out)).trans HC2.out; clear hold hdep hdl hcl hLi; go_simp; (exact hK.out _ _ y HSt.out rfl (fun j hj hl => ⟨rfl, fun u h => h⟩))
    · intro L y a wx hSt hLi hdl hcl hold hdep K hK
      have HSt : Hid (StQn w (.cells #[.int .i64 xk, .string xn, .bool xg, .int .i64 (xa : Nat), .int .i64 (xb : Nat)] 119 (0, 0)) (.cells #[.int .i64 yk, .string yn, .bool yg, .int .i64 (ya : Nat), .int .i64 (yb : Nat)] 119 (0, 0)) (L 26) (L 27) (L 28) (L 29) y wx) := hSt; clear hSt; have t1 : a.tmps[1]? = some (.int .i64 (i : Nat)) := hold 1 rfl; clear hold hdep hdl hcl hLi; go_simp; (exact hK.out _ _ y HSt.out rfl (fun j hj hl => ⟨rfl, fun u h => h⟩))
    · intro L y a wx hSt hLi hdl hcl hold hdep K hK
      have HSt : Hid (StQn w (.cells #[.int .i64 xk, .string xn, .bool xg, .int .i64 (xa : Nat), .int .i64 (xb : Nat)] 119 (0, 0)) (.cells #[.int .i64 yk, .string yn, .bool yg, .int .i64 (ya : Nat), .int .i64 (yb : Nat)] 119 (0, 0)) (L 26) (L 27) (L 28) (L 29) y wx) := hSt; clear hSt; obtain ⟨v16, t16, q16⟩ := hdep 7 rfl _ 16 rfl rfl; have e16 : v16 = (.slice (some ⟨gl, 0, none⟩) lvs.length cl) := q16 rfl; subst e16; obtain ⟨v17, t17, q17⟩ := hdep 8 rfl _ 17 rfl rfl; have e17 : v17 = (.int .i64 (i : Nat)) := q17 rfl; subst e17; clear hold hdep hdl hcl hLi; go_simp; (exact hK.out _ _ y HSt.out rfl (fun j hj hl => ⟨rfl, fun u h => h⟩))
    · intro L y a wx hSt hLi hdl hcl hold hdep K hK
      have HSt : Hid (StQn w (.cells #[.int .i64 xk, .string xn, .bool xg, .int .i64 (xa : Nat), .int .i64 (xb : Nat)] 119 (0, 0)) (.cells #[.int .i64 yk, .string yn, .bool yg, .int .i64 (ya : Nat), .int .i64 (yb : Nat)] 119 (0, 0)) (L 26) (L 27) (L 28) (L 29) y wx) := hSt; clear hSt; obtain ⟨v18, t18, q18⟩ := hdep 9 rfl _ 18 rfl rfl; have e18 : v18 = (.pointer (some ⟨gl, i, none⟩)) := q18 rfl; subst e18; have c0 := (HSt.out.below.cell (lt_of_cell HD1.out)).trans HD1.out; clear hold hdep hdl hcl hLi; go_simp; (exact hK.out _ _ y HSt.out rfl (fun j hj hl => ⟨rfl, fun u h => h⟩))
    · intro L y a wx hSt hLi hdl hcl hold hdep K hK
      have HSt : Hid (StQn w (.cells #[.int .i64 xk, .string xn, .bool xg, .int .i64 (xa : Nat), .int .i64 (xb : Nat)] 119 (0, 0)) (.cells #[.int .i64 yk, .string yn, .bool yg, .int .i64 (ya : Nat), .int .i64 (yb : Nat)] 119 (0, 0)) (L 26) (L 27) (L 28) (L 29) y wx) := hSt; clear hSt; obtain ⟨v12, t12, q12⟩ := hdep 3 rfl _ 12 rfl rfl; have e12 : v12 = (.slice (some ⟨gn, 0, none⟩) nds.length cn) := q12 rfl; subst e12; obtain ⟨v19, t19, q19⟩ := hdep 10 rfl _ 19 rfl rfl; have e19 : v19 = (.int .i64 (na : Nat)) := q19 rfl; subst e19; clear hold hdep hdl hcl hLi; go_simp; (exact hK.out _ _ y HSt.out rfl (fun j hj hl => ⟨rfl, fun u h => h⟩))
    · intro L y a wx hSt hLi hdl hcl hold hdep K hK
      have HSt : Hid (StQn w (.cells #[.int .i64 xk, .string xn, .bool xg, .int .i64 (xa : Nat), .int .i64 (xb : Nat)] 119 (0, 0)) (.cells #[.int .i64 yk, .string yn, .bool yg, .int .i64 (ya : Nat), .int .i64 (yb : Nat)] 119 (0, 0)) (L 26) (L 27) (L 28) (L 29) y wx) := hSt; clear hSt; obtain ⟨v20, t20, q20⟩ := hdep 11 rfl _ 20 rfl rfl; have e20 : v20 = (.pointer (some ⟨gn, na * 5, none⟩)) := q20 rfl; subst e20; obtain ⟨m0, m1, m2, m3, m4⟩ := HP.out; have c0 := (HSt.out.below.cell (lt_of_cell m0)).trans m0; have c1 := (HSt.out.below.cell (lt_of_cell m1)).trans m1; have c2 := (HSt.out.below.cell (lt_of_cell m2)).trans m2; have c3 := (HSt.out.below.cell (lt_of_cell m3)).trans m3; have c4 := (HSt.out.below.cell (lt_of_cell m4)).trans m4; clear hold hdep hdl hcl hLi; go_simp; (exact hK.out _ _ y HSt.out rfl (fun j hj hl => ⟨rfl, fun u h => h⟩))
    · intro L y a wx hSt hLi hdl hcl hold hdep K hK
      have HSt : Hid (StQn w (.cells #[.int .i64 xk, .string xn, .bool xg, .int .i64 (xa : Nat), .int .i64 (xb : Nat)] 119 (0, 0)) (.cells #[.int .i64 yk, .string yn, .bool yg, .int .i64 (ya : Nat), .int .i64 (yb : Nat)] 119 (0, 0)) (L 26) (L 27) (L 28) (L 29) y wx) := hSt; clear hSt; have t0 : a.tmps[0]? = some (.pointer (some ⟨bp, 0, none⟩)) := hold 0 rfl; clear hold hdep hdl hcl hLi; go_simp; (exact hK.out _ _ y HSt.out rfl (fun j hj hl => ⟨rfl, fun u h => h⟩))
    · intro L y a wx hSt hLi hdl hcl hold hdep K hK
      have HSt : Hid (StQn w (.cells #[.int .i64 xk, .string xn, .bool xg, .int .i64 (xa : Nat), .int .i64 (xb : Nat)] 119 (0, 0)) (.cells #[.int .i64 yk, .string yn, .bool yg, .int .i64 (ya : Nat), .int .i64 (yb : Nat)] 119 (0, 0)) (L 26) (L 27) (L 28) (L 29) y wx) := hSt; clear hSt; obtain ⟨v22, t22, q22⟩ := hdep 13 rfl _ 22 rfl rfl; have e22 : v22 = (.pointer (some ⟨bp, 0, none⟩)) := q22 rfl; subst e22; clear hold hdep hdl hcl hLi; go_simp; (exact hK.out _ _ y HSt.out rfl (fun j hj hl => ⟨rfl, fun u h => h⟩))
    · intro L y a wx hSt hLi hdl hcl hold hdep K hK
      have HSt : Hid (StQn w (.cells #[.int .i64 xk, .string xn, .bool xg, .int .i64 (xa : Nat), .int .i64 (xb : Nat)] 119 (0, 0)) (.cells #[.int .i64 yk, .string yn, .bool yg, .int .i64 (ya : Nat), .int .i64 (yb : Nat)] 119 (0, 0)) (L 26) (L 27) (L 28) (L 29) y wx) := hSt; clear hSt; obtain ⟨v23, t23, q23⟩ := hdep 14 rfl _ 23 rfl rfl; have e23 : v23 = (.pointer (some ⟨bp, 0, none⟩)) := q23 rfl; subst e23; clear hold hdep hdl hcl hLi; go_simp; (exact hK.out _ _ y HSt.out rfl (fun j hj hl => ⟨rfl, fun u h => h⟩))
    · intro L y a wx hSt hLi hdl hcl hold hdep K hK
      have HSt : Hid (StQn w (.cells #[.int .i64 xk, .string xn, .bool xg, .int .i64 (xa : Nat), .int .i64 (xb : Nat)] 119 (0, 0)) (.cells #[.int .i64 yk, .string yn, .bool yg, .int .i64 (ya : Nat), .int .i64 (yb : Nat)] 119 (0, 0)) (L 26) (L 27) (L 28) (L 29) y wx) := hSt; clear hSt; obtain ⟨v24, t24, q24⟩ := hdep 15 rfl _ 24 rfl rfl; have e24 : v24 = (.pointer (some ⟨bp, 0, none⟩)) := q24 rfl; subst e24; have c0 := (HSt.out.below.cell (lt_of_cell HC0.out)).trans HC0.out; clear hold hdep hdl hcl hLi; go_simp; (exact hK.out _ _ y HSt.out rfl (fun j hj hl => ⟨rfl, fun u h => h⟩))
    · intro L y a wx hSt hLi hdl hcl hold hdep K hK
      have HSt : Hid (StQn w (.cells #[.int .i64 xk, .string xn, .bool xg, .int .i64 (xa : Nat), .int .i64 (xb : Nat)] 119 (0, 0)) (.cells #[.int .i64 yk, .string yn, .bool yg, .int .i64 (ya : Nat), .int .i64 (yb : Nat)] 119 (0, 0)) (L 26) (L 27) (L 28) (L 29) y wx) := hSt; clear hSt; have t0 : a.tmps[0]? = some (.pointer (some ⟨bp, 0, none⟩)) := hold 0 rfl; clear hold hdep hdl hcl hLi; go_simp; (exact hK.out _ _ y HSt.out rfl (fun j hj hl => ⟨rfl, fun u h => h⟩))
    · intro L y a wx hSt hLi hdl hcl hold hdep K hK
      have HSt : Hid (StQn w (.cells #[.int .i64 xk, .string xn, .bool xg, .int .i64 (xa : Nat), .int .i64 (xb : Nat)] 119 (0, 0)) (.cells #[.int .i64 yk, .string yn, .bool yg, .int .i64 (ya : Nat), .int .i64 (yb : Nat)] 119 (0, 0)) (L 26) (L 27) (L 28) (L 29) y wx) := hSt; clear hSt; obtain ⟨v26, t26, q26⟩ := hdep 17 rfl _ 26 rfl rfl; have e26 : v26 = (.pointer (some ⟨bp, 0, none⟩)) := q26 rfl; subst e26; clear hold hdep hdl hcl hLi; go_simp; (exact hK.out _ _ y HSt.out rfl (fun j hj hl => ⟨rfl, fun u h => h⟩))
    · intro L y a wx hSt hLi hdl hcl hold hdep K hK
      have HSt : Hid (StQn w (.cells #[.int .i64 xk, .string xn, .bool xg, .int .i64 (xa : Nat), .int .i64 (xb : Nat)] 119 (0, 0)) (.cells #[.int .i64 yk, .string yn, .bool yg, .int .i64 (ya : Nat), .int .i64 (yb : Nat)] 119 (0, 0)) (L 26) (L 27) (L 28) (L 29) y wx) := hSt; clear hSt; obtain ⟨v27, t27, q27⟩ := hdep 18 rfl _ 27 rfl rfl; have e27 : v27 = (.pointer (some ⟨bp, 0, none⟩)) := q27 rfl; subst e27; clear hold hdep hdl hcl hLi; go_simp; (exact hK.out _ _ y HSt.out rfl (fun j hj hl => ⟨rfl, fun u h => h⟩))
    · intro L y a wx hSt hLi hdl hcl hold hdep K hK
      have HSt : Hid (StQn w (.cells #[.int .i64 xk, .string xn, .bool xg, .int .i64 (xa : Nat), .int .i64 (xb : Nat)] 119 (0, 0)) (.cells #[.int .i64 yk, .string yn, .bool yg, .int .i64 (ya : Nat), .int .i64 (yb : Nat)] 119 (0, 0)) (L 26) (L 27) (L 28) (L 29) y wx) := hSt; clear hSt; obtain ⟨v28, t28, q28⟩ := hdep 19 rfl _ 28 rfl rfl; have e28 : v28 = (.pointer (some ⟨bp, 2, none⟩)) := q28 rfl; subst e28; have c0 := (HSt.out.below.cell (lt_of_cell HC2.out)).trans HC2.out; clear hold hdep hdl hcl hLi; go_simp; (exact hK.out _ _ y HSt.out rfl (fun j hj hl => ⟨rfl, fun u h => h⟩))
    · intro L y a wx hSt hLi hdl hcl hold hdep K hK
      have HSt : Hid (StQn w (.cells #[.int .i64 xk, .string xn, .bool xg, .int .i64 (xa : Nat), .int .i64 (xb : Nat)] 119 (0, 0)) (.cells #[.int .i64 yk, .string yn, .bool yg, .int .i64 (ya : Nat), .int .i64 (yb : Nat)] 119 (0, 0)) (L 26) (L 27) (L 28) (L 29) y wx) := hSt; clear hSt; have t2 : a.tmps[2]? = some (.int .i64 (j : Nat)) := hold 2 rfl; clear hold hdep hdl hcl hLi; go_simp; (exact hK.out _ _ y HSt.out rfl (fun j hj hl => ⟨rfl, fun u h => h⟩))
    · intro L y a wx hSt hLi hdl hcl hold hdep K hK
      have HSt : Hid (StQn w (.cells #[.int .i64 xk, .string xn, .bool xg, .int .i64 (xa : Nat), .int .i64 (xb : Nat)] 119 (0, 0)) (.cells #[.int .i64 yk, .string yn, .bool yg, .int .i64 (ya : Nat), .int .i64 (yb : Nat)] 119 (0, 0)) (L 26) (L 27) (L 28) (L 29) y wx) := hSt; clear hSt; obtain ⟨v29, t29, q29⟩ := hdep 20 rfl _ 29 rfl rfl; have e29 : v29 = (.slice (some ⟨gl, 0, none⟩) lvs.length cl) := q29 rfl; subst e29; obtain ⟨v30, t30, q30⟩ := hdep 21 rfl _ 30 rfl rfl; have e30 : v30 = (.int .i64 (j : Nat)) := q30 rfl; subst e30; clear hold hdep hdl hcl hLi; go_simp; (exact hK.out _ _ y HSt.out rfl (fun j hj hl => ⟨rfl, fun u h => h⟩))
    · intro L y a wx hSt hLi hdl hcl hold hdep K hK
      have HSt : Hid (StQn w (.cells #[.int .i64 xk, .string xn, .bool xg, .int .i64 (xa : Nat), .int .i64 (xb : Nat)] 119 (0, 0)) (.cells #[.int .i64 yk, .string yn, .bool yg, .int .i64 (ya : Nat), .int .i64 (yb : Nat)] 119 (0, 0)) (L 26) (L 27) (L 28) (L 29) y wx) := hSt; clear hSt; obtain ⟨v31, t31, q31⟩ := hdep 22 rfl _ 31 rfl rfl; have e31 : v31 = (.pointer (some ⟨gl, j, none⟩)) := q31 rfl; subst e31; have c0 := (HSt.out.below.cell (lt_of_cell HD2.out)).trans HD2.out; clear hold hdep hdl hcl hLi; go_simp; (exact hK.out _ _ y HSt.out rfl (fun j hj hl => ⟨rfl, fun u h => h⟩))
    · intro L y a wx hSt hLi hdl hcl hold hdep K hK
      have HSt : Hid (StQn w (.cells #[.int .i64 xk, .string xn, .bool xg, .int .i64 (xa : Nat), .int .i64 (xb : Nat)] 119 (0, 0)) (.cells #[.int .i64 yk, .string yn, .bool yg, .int .i64 (ya : Nat), .int .i64 (yb : Nat)] 119 (0, 0)) (L 26) (L 27) (L 28) (L 29) y wx) := hSt; clear hSt; obtain ⟨v25, t25, q25⟩ := hdep 16 rfl _ 25 rfl rfl; have e25 : v25 = (.slice (some ⟨gn, 0, none⟩) nds.length cn) := q25 rfl; subst e25; obtain ⟨v32, t32, q32⟩ := hdep 23 rfl _ 32 rfl rfl; have e32 : v32 = (.int .i64 (nb : Nat)) := q32 rfl; subst e32; clear hold hdep hdl hcl hLi; go_simp; (exact hK.out _ _ y HSt.out rfl (fun j hj hl => ⟨rfl, fun u h => h⟩))
    · intro L y a wx hSt hLi hdl hcl hold hdep K hK
      have HSt : Hid (StQn w (.cells #[.int .i64 xk, .string xn, .bool xg, .int .i64 (xa : Nat), .int .i64 (xb : Nat)] 119 (0, 0)) (.cells #[.int .i64 yk, .string yn, .bool yg, .int .i64 (ya : Nat), .int .i64 (yb : Nat)] 119 (0, 0)) (L 26) (L 27) (L 28) (L 29) y wx) := hSt; clear hSt; obtain ⟨v33, t33, q33⟩ := hdep 24 rfl _ 33 rfl rfl; have e33 : v33 = (.pointer (some ⟨gn, nb * 5, none⟩)) := q33 rfl; subst e33; obtain ⟨m0, m1, m2, m3, m4⟩ := HQ.out; have c0 := (HSt.out.below.cell (lt_of_cell m0)).trans m0; have c1 := (HSt.out.below.cell (lt_of_cell m1)).trans m1; have c2 := (HSt.out.below.cell (lt_of_cell m2)).trans m2; have c3 := (HSt.out.below.cell (lt_of_cell m3)).trans m3; have c4 := (HSt.out.below.cell (lt_of_cell m4)).trans m4; clear hold hdep hdl hcl hLi; go_simp; (exact hK.out _ _ y HSt.out rfl (fun j hj hl => ⟨rfl, fun u h => h⟩))
    · intro L y a wx hSt hLi hdl hcl hold hdep K hK
      have HSt : Hid (StQn w (.cells #[.int .i64 xk, .string xn, .bool xg, .int .i64 (xa : Nat), .int .i64 (xb : Nat)] 119 (0, 0)) (.cells #[.int .i64 yk, .string yn, .bool yg, .int .i64 (ya : Nat), .int .i64 (yb : Nat)] 119 (0, 0)) (L 26) (L 27) (L 28) (L 29) y wx) := hSt; clear hSt; (have e9 : L 28 = false := not_yet hLi fun h => hcl 28 _ rfl h 26 rfl); have hS : StQn w (.cells #[.int .i64 xk, .string xn, .bool xg, .int .i64 (xa : Nat), .int .i64 (xb : Nat)] 119 (0, 0)) (.cells #[.int .i64 yk, .string yn, .bool yg, .int .i64 (ya : Nat), .int .i64 (yb : Nat)] 119 (0, 0)) (L 26) (L 27) (L 28) (L 29) y wx := HSt.out; rw [hLi, e9] at hS; have h8 := hS.al7
      have HX : Hid (StQn w (.cells #[.int .i64 xk, .string xn, .bool xg, .int .i64 (xa : Nat), .int .i64 (xb : Nat)] 119 (0, 0)) (.cells #[.int .i64 yk, .string yn, .bool yg, .int .i64 (ya : Nat), .int .i64 (yb : Nat)] 119 (0, 0)) true (L 27) (L 28) (L 29) { y with g7 := wx.heap.size } (wx.alloc (.cells #[.int .i64 0, .string ⟨#[]⟩, .bool false, .int .i64 0, .int .i64 0] 119 (0, 0)))) := by
        rw [e9]; exact h8
      clear hS h8; clear hold hdep hdl; go_simp; refine hK.out _ _ { y with g7 := wx.heap.size } HX.out rfl ?_; intro j hj hl
      rcases j with _ | _ | _ | _ | _ | _ | _ | _ | _ | _ | _ | _ | _ | _ | _ | _ | _ | _ | _ | _ | _ | _ | _ | _ | _ | _ | _ | _ | _ | _ | j
      · exact ⟨rfl, fun u h => h⟩
      · exact ⟨rfl, fun u h => h⟩
      · exact ⟨rfl, fun u h => h⟩
      · exact ⟨rfl, fun u h => h⟩
      · exact ⟨rfl, fun u h => h⟩
      · exact ⟨rfl, fun u h => h⟩
      · exact ⟨rfl, fun u h => h⟩
      · exact ⟨rfl, fun u h => h⟩
      · exact ⟨rfl, fun u h => h⟩
      · exact ⟨rfl, fun u h => h⟩
      · exact ⟨rfl, fun u h => h⟩
      · exact ⟨rfl, fun u h => h⟩
      · exact ⟨rfl, fun u h => h⟩
      · exact ⟨rfl, fun u h => h⟩
      · exact ⟨rfl, fun u h => h⟩
      · exact ⟨rfl, fun u h => h⟩
      · exact ⟨rfl, fun u h => h⟩
      · exact ⟨rfl, fun u h => h⟩
      · exact ⟨rfl, fun u h => h⟩
      · exact ⟨rfl, fun u h => h⟩
      · exact ⟨rfl, fun u h => h⟩
      · exact ⟨rfl, fun u h => h⟩
      · exact ⟨rfl, fun u h => h⟩
      · exact ⟨rfl, fun u h => h⟩
      · exact ⟨rfl, fun u h => h⟩
      · exact ⟨rfl, fun u h => h⟩
      · exact Bool.noConfusion (hLi.symm.trans hj)
      · exact ⟨rfl, fun u h => h⟩
      · exact ⟨rfl, fun u h => h⟩
      · exact ⟨rfl, fun u h => h⟩
      · exact ⟨rfl, fun u h => h⟩
    · intro L y a wx hSt hLi hdl hcl hold hdep K hK
      have HSt : Hid (StQn w (.cells #[.int .i64 xk, .string xn, .bool xg, .int .i64 (xa : Nat), .int .i64 (xb : Nat)] 119 (0, 0)) (.cells #[.int .i64 yk, .string yn, .bool yg, .int .i64 (ya : Nat), .int .i64 (yb : Nat)] 119 (0, 0)) (L 26) (L 27) (L 28) (L 29) y wx) := hSt; clear hSt; (have e9 : L 29 = false := not_yet hLi fun h => hcl 29 _ rfl h 27 rfl); have hS : StQn w (.cells #[.int .i64 xk, .string xn, .bool xg, .int .i64 (xa : Nat), .int .i64 (xb : Nat)] 119 (0, 0)) (.cells #[.int .i64 yk, .string yn, .bool yg, .int .i64 (ya : Nat), .int .i64 (yb : Nat)] 119 (0, 0)) (L 26) (L 27) (L 28) (L 29) y wx := HSt.out; rw [hLi, e9] at hS; have h8 := hS.al8
      have HX : Hid (StQn w (.cells #[.int .i64 xk, .string xn, .bool xg, .int .i64 (xa : Nat), .int .i64 (xb : Nat)] 119 (0, 0)) (.cells #[.int .i64 yk, .string yn, .bool yg, .int .i64 (ya : Nat), .int .i64 (yb : Nat)] 119 (0, 0)) (L 26) true (L 28) (L 29) { y with g8 := wx.heap.size } (wx.alloc (.cells #[.int .i64 0, .string ⟨#[]⟩, .bool false, .int .i64 0, .int .i64 0] 119 (0, 0)))) := by
        rw [e9]; exact h8
      clear hS h8; clear hold hdep hdl; go_simp; refine hK.out _ _ { y with g8 := wx.heap.size } HX.out rfl ?_; intro j hj hl
      rcases j with _ | _ | _ | _ | _ | _ | _ | _ | _ | _ | _ | _ | _ | _ | _ | _ | _ | _ | _ | _ | _ | _ | _ | _ | _ | _ | _ | _ | _ | _ | j
      · exact ⟨rfl, fun u h => h⟩
      · exact ⟨rfl, fun u h => h⟩
      · exact ⟨rfl, fun u h => h⟩
      · exact ⟨rfl, fun u h => h⟩
      · exact ⟨rfl, fun u h => h⟩
      · exact ⟨rfl, fun u h => h⟩
      · exact ⟨rfl, fun u h => h⟩
      · exact ⟨rfl, fun u h => h⟩
      · exact ⟨rfl, fun u h => h⟩
      · exact ⟨rfl, fun u h => h⟩
      · exact ⟨rfl, fun u h => h⟩
      · exact ⟨rfl, fun u h => h⟩
      · exact ⟨rfl, fun u h => h⟩
      · exact ⟨rfl, fun u h => h⟩
      · exact ⟨rfl, fun u h => h⟩
      · exact ⟨rfl, fun u h => h⟩
      · exact ⟨rfl, fun u h => h⟩
      · exact ⟨rfl, fun u h => h⟩
      · exact ⟨rfl, fun u h => h⟩
      · exact ⟨rfl, fun u h => h⟩
      · exact ⟨rfl, fun u h => h⟩
      · exact ⟨rfl, fun u h => h⟩
      · exact ⟨rfl, fun u h => h⟩
      · exact ⟨rfl, fun u h => h⟩
      · exact ⟨rfl, fun u h => h⟩
      · exact ⟨rfl, fun u h => h⟩
      · exact ⟨rfl, fun u h => h⟩
      · exact Bool.noConfusion (hLi.symm.trans hj)
      · exact ⟨rfl, fun u h => h⟩
      · exact ⟨rfl, fun u h => h⟩
      · exact ⟨rfl, fun u h => h⟩
    · intro L y a wx hSt hLi hdl hcl hold hdep K hK
      have HSt : Hid (StQn w (.cells #[.int .i64 xk, .string xn, .bool xg, .int .i64 (xa : Nat), .int .i64 (xb : Nat)] 119 (0, 0)) (.cells #[.int .i64 yk, .string yn, .bool yg, .int .i64 (ya : Nat), .int .i64 (yb : Nat)] 119 (0, 0)) (L 26) (L 27) (L 28) (L 29) y wx) := hSt; clear hSt; obtain ⟨v7, t7, q7⟩ := hdep 26 rfl _ 7 rfl rfl; have e7 : v7 = (.pointer (some ⟨y.g7, 0, none⟩)) := q7 rfl; subst e7; obtain ⟨v21, t21, q21⟩ := hdep 12 rfl _ 21 rfl rfl; have e21 : v21 = (.agg #[.int .i64 xk, .string xn, .bool xg, .int .i64 (xa : Nat), .int .i64 (xb : Nat)]) := q21 rfl; subst e21; have e9 : L 26 = true := hdl 26 rfl; have hS : StQn w (.cells #[.int .i64 xk, .string xn, .bool xg, .int .i64 (xa : Nat), .int .i64 (xb : Nat)] 119 (0, 0)) (.cells #[.int .i64 yk, .string yn, .bool yg, .int .i64 (ya : Nat), .int .i64 (yb : Nat)] 119 (0, 0)) (L 26) (L 27) (L 28) (L 29) y wx := HSt.out; rw [hLi, e9] at hS; obtain ⟨d0, d1, d2, d3, d4, f0, f1, f2, f3, f4⟩ := blk5N (show wx.heap[y.g7]? = some (.cells #[.int .i64 0, .string ⟨#[]⟩, .bool false, .int .i64 0, .int .i64 0] 119 (0, 0)) from (hS.b7 rfl).2); have h8 := hS.st7
      have HX : Hid (StQn w (.cells #[.int .i64 xk, .string xn, .bool xg, .int .i64 (xa : Nat), .int .i64 (xb : Nat)] 119 (0, 0)) (.cells #[.int .i64 yk, .string yn, .bool yg, .int .i64 (ya : Nat), .int .i64 (yb : Nat)] 119 (0, 0)) (L 26) (L 27) true (L 29) y (((((wx.setCell ⟨y.g7, 0, none⟩ (.int .i64 xk)).setCell ⟨y.g7, 1, none⟩ (.string xn)).setCell ⟨y.g7, 2, none⟩ (.bool xg)).setCell ⟨y.g7, 3, none⟩ (.int .i64 (xa : Nat))).setCell ⟨y.g7, 4, none⟩ (.int .i64 (xb : Nat)))) := by
        rw [e9]; exact h8
      clear hS h8; clear hold hdep hdl hcl; go_simp; obtain ⟨Z9, hZ9⟩ : ∃ Z, Z = (((((wx.setCell ⟨y.g7, 0, none⟩ (.int .i64 xk)).setCell ⟨y.g7, 1, none⟩ (.string xn)).setCell ⟨y.g7, 2, none⟩ (.bool xg)).setCell ⟨y.g7, 3, none⟩ (.int .i64 (xa : Nat))).setCell ⟨y.g7, 4, none⟩ (.int .i64 (xb : Nat))) := ⟨_, rfl⟩; rw [← hZ9] at HX ⊢; clear hZ9; refine hK.out (.bool false) _ y HX.out trivial ?_; intro j hj hl
      rcases j with _ | _ | _ | _ | _ | _ | _ | _ | _ | _ | _ | _ | _ | _ | _ | _ | _ | _ | _ | _ | _ | _ | _ | _ | _ | _ | _ | _ | _ | _ | j
      · exact ⟨rfl, fun u h => h⟩
      · exact ⟨rfl, fun u h => h⟩
      · exact ⟨rfl, fun u h => h⟩
      · exact ⟨rfl, fun u h => h⟩
      · exact ⟨rfl, fun u h => h⟩
      · exact ⟨rfl, fun u h => h⟩
      · exact ⟨rfl, fun u h => h⟩
      · exact ⟨rfl, fun u h => h⟩
      · exact ⟨rfl, fun u h => h⟩
      · exact ⟨rfl, fun u h => h⟩
      · exact ⟨rfl, fun u h => h⟩
      · exact ⟨rfl, fun u h => h⟩
      · exact ⟨rfl, fun u h => h⟩
      · exact ⟨rfl, fun u h => h⟩
      · exact ⟨rfl, fun u h => h⟩
      · exact ⟨rfl, fun u h => h⟩
      · exact ⟨rfl, fun u h => h⟩
      · exact ⟨rfl, fun u h => h⟩
      · exact ⟨rfl, fun u h => h⟩
      · exact ⟨rfl, fun u h => h⟩
      · exact ⟨rfl, fun u h => h⟩
      · exact ⟨rfl, fun u h => h⟩
      · exact ⟨rfl, fun u h => h⟩
      · exact ⟨rfl, fun u h => h⟩
      · exact ⟨rfl, fun u h => h⟩
      · exact ⟨rfl, fun u h => h⟩
      · exact ⟨rfl, fun u h => h⟩
      · exact ⟨rfl, fun u h => h⟩
      · exact Bool.noConfusion (hLi.symm.trans hj)
      · exact ⟨rfl, fun u h => h⟩
      · exact ⟨rfl, fun u h => h⟩
    · intro L y a wx hSt hLi hdl hcl hold hdep K hK
      have HSt : Hid (StQn w (.cells #[.int .i64 xk, .string xn, .bool xg, .int .i64 (xa : Nat), .int .i64 (xb : Nat)] 119 (0, 0)) (.cells #[.int .i64 yk, .string yn, .bool yg, .int .i64 (ya : Nat), .int .i64 (yb : Nat)] 119 (0, 0)) (L 26) (L 27) (L 28) (L 29) y wx) := hSt; clear hSt; obtain ⟨v8, t8, q8⟩ := hdep 27 rfl _ 8 rfl rfl; have e8 : v8 = (.pointer (some ⟨y.g8, 0, none⟩)) := q8 rfl; subst e8; obtain ⟨v34, t34, q34⟩ := hdep 25 rfl _ 34 rfl rfl; have e34 : v34 = (.agg #[.int .i64 yk, .string yn, .bool yg, .int .i64 (ya : Nat), .int .i64 (yb : Nat)]) := q34 rfl; subst e34; have e9 : L 27 = true := hdl 27 rfl; have hS : StQn w (.cells #[.int .i64 xk, .string xn, .bool xg, .int .i64 (xa : Nat), .int .i64 (xb : Nat)] 119 (0, 0)) (.cells #[.int .i64 yk, .string yn, .bool yg, .int .i64 (ya : Nat), .int .i64 (yb : Nat)] 119 (0, 0)) (L 26) (L 27) (L 28) (L 29) y wx := HSt.out; rw [hLi, e9] at hS; obtain ⟨d0, d1, d2, d3, d4, f0, f1, f2, f3, f4⟩ := blk5N (show wx.heap[y.g8]? = some (.cells #[.int .i64 0, .string ⟨#[]⟩, .bool false, .int .i64 0, .int .i64 0] 119 (0, 0)) from (hS.b8 rfl).2); have h8 := hS.st8
      have HX : Hid (StQn w (.cells #[.int .i64 xk, .string xn, .bool xg, .int .i64 (xa : Nat), .int .i64 (xb : Nat)] 119 (0, 0)) (.cells #[.int .i64 yk, .string yn, .bool yg, .int .i64 (ya : Nat), .int .i64 (yb : Nat)] 119 (0, 0)) (L 26) (L 27) (L 28) true y (((((wx.setCell ⟨y.g8, 0, none⟩ (.int .i64 yk)).setCell ⟨y.g8, 1, none⟩ (.string yn)).setCell ⟨y.g8, 2, none⟩ (.bool yg)).setCell ⟨y.g8, 3, none⟩ (.int .i64 (ya : Nat))).setCell ⟨y.g8, 4, none⟩ (.int .i64 (yb : Nat)))) := by
        rw [e9]; exact h8
      clear hS h8; clear hold hdep hdl hcl; go_simp; obtain ⟨Z9, hZ9⟩ : ∃ Z, Z = (((((wx.setCell ⟨y.g8, 0, none⟩ (.int .i64 yk)).setCell ⟨y.g8, 1, none⟩ (.string yn)).setCell ⟨y.g8, 2, none⟩ (.bool yg)).setCell ⟨y.g8, 3, none⟩ (.int .i64 (ya : Nat))).setCell ⟨y.g8, 4, none⟩ (.int .i64 (yb : Nat))) := ⟨_, rfl⟩; rw [← hZ9] at HX ⊢; clear hZ9; refine hK.out (.bool false) _ y HX.out trivial ?_; intro j hj hl
      rcases j with _ | _ | _ | _ | _ | _ | _ | _ | _ | _ | _ | _ | _ | _ | _ | _ | _ | _ | _ | _ | _ | _ | _ | _ | _ | _ | _ | _ | _ | _ | j
      · exact ⟨rfl, fun u h => h⟩
      · exact ⟨rfl, fun u h => h⟩
      · exact ⟨rfl, fun u h => h⟩
      · exact ⟨rfl, fun u h => h⟩
      · exact ⟨rfl, fun u h => h⟩
      · exact ⟨rfl, fun u h => h⟩
      · exact ⟨rfl, fun u h => h⟩
      · exact ⟨rfl, fun u h => h⟩
      · exact ⟨rfl, fun u h => h⟩
      · exact ⟨rfl, fun u h => h⟩
      · exact ⟨rfl, fun u h => h⟩
      · exact ⟨rfl, fun u h => h⟩
      · exact ⟨rfl, fun u h => h⟩
      · exact ⟨rfl, fun u h => h⟩
      · exact ⟨rfl, fun u h => h⟩
      · exact ⟨rfl, fun u h => h⟩
      · exact ⟨rfl, fun u h => h⟩
      · exact ⟨rfl, fun u h => h⟩
      · exact ⟨rfl, fun u h => h⟩
      · exact ⟨rfl, fun u h => h⟩
      · exact ⟨rfl, fun u h => h⟩
      · exact ⟨rfl, fun u h => h⟩
      · exact ⟨rfl, fun u h => h⟩
      · exact ⟨rfl, fun u h => h⟩
      · exact ⟨rfl, fun u h => h⟩
      · exact ⟨rfl, fun u h => h⟩
      · exact ⟨rfl, fun u h => h⟩
      · exact ⟨rfl, fun u h => h⟩
      · exact ⟨rfl, fun u h => h⟩
      · exact Bool.noConfusion (hLi.symm.trans hj)
      · exact ⟨rfl, fun u h => h⟩
  · intro L y a wx hall hSt hsz hdf hold hgot
    have e26 : L 26 = true := hall 26 (Nat.le_of_ble_eq_true rfl); have e27 : L 27 = true := hall 27 (Nat.le_of_ble_eq_true rfl); have e28 : L 28 = true := hall 28 (Nat.le_of_ble_eq_true rfl); have e29 : L 29 = true := hall 29 (Nat.le_of_ble_eq_true rfl); have hS : StQn w (.cells #[.int .i64 xk, .string xn, .bool xg, .int .i64 (xa : Nat), .int .i64 (xb : Nat)] 119 (0, 0)) (.cells #[.int .i64 yk, .string yn, .bool yg, .int .i64 (ya : Nat), .int .i64 (yb : Nat)] 119 (0, 0)) (L 26) (L 27) (L 28) (L 29) y wx := hSt; rw [e26, e27, e28, e29] at hS; obtain ⟨v7, t7, q7⟩ := hgot 26 _ 7 rfl rfl; have ev7 : v7 = .pointer (some ⟨y.g7, 0, none⟩) := q7 rfl; subst ev7; obtain ⟨v8, t8, q8⟩ := hgot 27 _ 8 rfl rfl; have ev8 : v8 = .pointer (some ⟨y.g8, 0, none⟩) := q8 rfl; subst ev8; obtain ⟨bX, bY⟩ := y; have HV1 : Hid (wx.heap[bX]? = some (.cells #[.int .i64 xk, .string xn, .bool xg, .int .i64 (xa : Nat), .int .i64 (xb : Nat)] 119 (0, 0))) := (hS.b7 rfl).2; have HV2 : Hid (wx.heap[bY]? = some (.cells #[.int .i64 yk, .string yn, .bool yg, .int .i64 (ya : Nat), .int .i64 (yb : Nat)] 119 (0, 0))) := (hS.b8 rfl).2; have HVb : Hid (Below w.heap.size w wx) := hS.below; obtain ⟨tm, df⟩ := a; (obtain ⟨ys, hys, htm, rfl⟩ := frame_mid2 7 28 (by kernel_rfl) (Nat.le_of_ble_eq_true rfl) ⟨hsz, hdf, hold⟩); obtain ⟨x7, x8, x9, x10, x11, x12, x13, x14, x15, x16, x17, x18, x19, x20, x21, x22, x23, x24, x25, x26, x27, x28, x29, x30, x31, x32, x33, x34, rfl⟩ := rowQ28 ys hys; simp only [List.take_succ_cons, List.take_zero, List.drop_succ_cons, List.drop_zero, List.cons_append, List.nil_append] at htm; subst htm; obtain rfl : x7 = _ := someInjM t7; obtain rfl : x8 = _ := someInjM t8; clear hS hSt hys hold hgot hall hsz hdf e26 e27 e28 e29 t7 t8 q7 q8; obtain ⟨d0, d1, d2, d3, d4, -⟩ := blk5N HV1.out; obtain ⟨f0, f1, f2, f3, f4, -⟩ := blk5N HV2.out
    rcases hnn : (xn.toList == yn.toList) with _ | _
    · have HF : Hid (fitB ⟨xk, xn, xg, xa, xb⟩ ⟨yk, yn, yg, ya, yb⟩ = false) := by show _ = _; unfold fitB; simp only [hnn, Bool.false_and]
      go_wp2_with fail; go_ret; (exact ⟨by rw [HF.out]; rfl, HVb.out⟩)
    · have HF : Hid (fitB ⟨xk, xn, xg, xa, xb⟩ ⟨yk, yn, yg, ya, yb⟩ = !(xg == yg)) := by show _ = _; unfold fitB; simp only [hnn, Bool.true_and]; rfl
      go_wp2_with fail; go_ret; (exact ⟨by rw [HF.out]; rfl, HVb.out⟩)
end Go.Proofs.Ytealalhgkdlmkai
