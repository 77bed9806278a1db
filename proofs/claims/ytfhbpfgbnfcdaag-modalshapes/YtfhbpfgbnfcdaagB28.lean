/- Texts of one proof, one behind the other: MS5. -/
import Derived.Test.YtfhbpfgbnfcdaagB27
/- Walks: the shape of a frame. -/
namespace Go.Proofs.Ytfhbpfgbnfcdaag
open Go.RowKit

/-- What the closures of shape read. -/
def OkSh (N g fb : Nat) (R : Nat → Nat → Bool) (w : World) : Prop := w.heap[fb]? = some (.cells #[.slice (some ⟨g, 0, none⟩) N N] 68 (0, 0)) ∧ FR w g N R
theorem OkSh.up {N g fb : Nat} {R : Nat → Nat → Bool} {w w' : World} (h : OkSh N g fb R w) (hb : Below w.heap.size w w') : OkSh N g fb R w' := ⟨below_keep hb h.1, h.2.up hb⟩
theorem bm_pos {N : Nat} {P : Nat → Bool} : (((bm N P : Nat) : Int) != 0) = !((List.range N).filter P).isEmpty := by
  rw [Bool.eq_iff_iff, bne_iff_ne, Bool.not_eq_true', List.isEmpty_eq_false_iff, ne_eq, Int.natCast_eq_zero, bm_zero]
  constructor
  · intro h e
    (refine h fun i hi => ?_); (have : ¬ i ∈ (List.range N).filter P := by rw [e]; simp); rw [List.mem_filter, List.mem_range] at this; simpa [hi] using this
  · intro h e
    apply h; rw [List.filter_eq_nil_iff]; intro i hi; rw [e i (List.mem_range.1 hi)]
    simp
set_option maxHeartbeats 1000000 in
theorem shape1_any {N : Nat} (hN : N ≤ 40) (g fb : Nat) (R : Nat → Nat → Bool) (u : Nat) (w : World) (hu : u < N) (hok : OkSh N g fb R w) :
    Calls Try.prog 62 (#[.int .i64 (u : Nat)] ++ #[.pointer (some ⟨fb, 0, none⟩)]) w fun e w' => e = .returned (.bool (R u u)) ∧ Below w.heap.size w w' := by
  obtain ⟨h1, h2⟩ := hok; have c1 := h2 u hu; obtain ⟨c0, -⟩ := blk1 h1; (have huI : (u : Int) < (N : Int) := by omega); (have hNI : (N : Int) ≤ 40 := by omega); have HH : Hid (Calls Try.prog 51 #[.int .u64 (bm N (R u) : Nat), .int .i64 (u : Nat)] w _) := set_has hN (R u) u hu w; generalize bm N (R u) = s at *; generalize R u u = rr at *; clear h1 h2; show Calls Try.prog 62 #[.int .i64 (u : Nat), .pointer (some ⟨fb, 0, none⟩)] w _
  go_enter Try.func62, Try.ntmps62
  go_wp2_with fail; refine (HH.out).mono ?_; rintro _ w9 ⟨rfl, e9⟩
  replace e9 := e9.symm
  subst e9; go_wp2_with fail; go_ret; exact ⟨rfl, Below.refl _ _⟩
set_option maxHeartbeats 1000000 in
theorem shape2_any {N : Nat} (hN : N ≤ 40) (g fb : Nat) (R : Nat → Nat → Bool) (u : Nat) (w : World) (hu : u < N) (hok : OkSh N g fb R w) :
    Calls Try.prog 63 (#[.int .i64 (u : Nat)] ++ #[.pointer (some ⟨fb, 0, none⟩)]) w fun e w' => e = .returned (.bool (!R u u)) ∧ Below w.heap.size w w' := by
  obtain ⟨h1, h2⟩ := hok; have c1 := h2 u hu; obtain ⟨c0, -⟩ := blk1 h1; (have huI : (u : Int) < (N : Int) := by omega); (have hNI : (N : Int) ≤ 40 := by omega); have HH : Hid (Calls Try.prog 51 #[.int .u64 (bm N (R u) : Nat), .int .i64 (u : Nat)] w _) := set_has hN (R u) u hu w; generalize bm N (R u) = s at *; generalize R u u = rr at *; clear h1 h2; show Calls Try.prog 63 #[.int .i64 (u : Nat), .pointer (some ⟨fb, 0, none⟩)] w _
  go_enter Try.func63, Try.ntmps63
  go_wp2_with fail; refine (HH.out).mono ?_; rintro _ w9 ⟨rfl, e9⟩
  replace e9 := e9.symm
  subst e9; go_wp2_with fail; go_ret; exact ⟨rfl, Below.refl _ _⟩
set_option maxHeartbeats 1000000 in
theorem shape3_any {N : Nat} (hN : N ≤ 40) (g fb : Nat) (R : Nat → Nat → Bool) (u : Nat) (w : World) (hu : u < N) (hok : OkSh N g fb R w) :
    Calls Try.prog 64 (#[.int .i64 (u : Nat)] ++ #[.pointer (some ⟨fb, 0, none⟩)]) w fun e w' => e = .returned (.bool (!(seeR N R u).isEmpty)) ∧ Below w.heap.size w w' := by
  obtain ⟨h1, h2⟩ := hok; have c1 := h2 u hu; obtain ⟨c0, -⟩ := blk1 h1; (have huI : (u : Int) < (N : Int) := by omega); (have hNI : (N : Int) ≤ 40 := by omega); have HE : Hid ((((bm N (R u) : Nat) : Int) != 0) = !(seeR N R u).isEmpty) := bm_pos; generalize bm N (R u) = s at *; generalize (!(seeR N R u).isEmpty) = rr at *; clear h1 h2; show Calls Try.prog 64 #[.int .i64 (u : Nat), .pointer (some ⟨fb, 0, none⟩)] w _
  go_enter Try.func64, Try.ntmps64
  go_wp2_with fail; go_ret; (exact ⟨congrArg (fun b => Ending.returned (Value.bool b)) HE.out, Below.refl _ _⟩)
set_option maxHeartbeats 1000000 in
theorem shape4_any {N : Nat} (hN : N ≤ 40) (g fb : Nat) (R : Nat → Nat → Bool) (u v : Nat) (w : World) (hu : u < N) (hv : v < N) (hok : OkSh N g fb R w) :
    Calls Try.prog 65 (#[.int .i64 (u : Nat), .int .i64 (v : Nat)] ++ #[.pointer (some ⟨fb, 0, none⟩)]) w fun e w' => e = .returned (.bool (subB N (R v) (R u))) ∧ Below w.heap.size w w' := by
  obtain ⟨h1, h2⟩ := hok; have c1 := h2 u hu; have c2 := h2 v hv; obtain ⟨c0, -⟩ := blk1 h1; (have huI : (u : Int) < (N : Int) := by omega); (have hvI : (v : Int) < (N : Int) := by omega); (have hNI : (N : Int) ≤ 40 := by omega); (have HH : Hid (∀ w, Calls Try.prog 49 #[.int .u64 (bm N (R v) : Nat), .int .u64 (bm N (R u) : Nat)] w fun e w' => e = .returned (.bool (subB N (R v) (R u))) ∧ w' = w) := fun w => set_within hN (R v) (R u) w); generalize subB N (R v) (R u) = rr at *; generalize bm N (R u) = s at *; generalize bm N (R v) = s' at *; clear h1 h2; show Calls Try.prog 65 #[.int .i64 (u : Nat), .int .i64 (v : Nat), .pointer (some ⟨fb, 0, none⟩)] w _
  go_enter Try.func65, Try.ntmps65
  go_wp2_with fail
  go_quiet (first
    | (go_at_call 49
       refine Calls.quiet_of_same (HH.out _))
    | fail)
  go_wp2_with fail; go_ret; exact ⟨rfl, Below.drewE _ (Below.refl _ _)⟩
set_option maxHeartbeats 1000000 in
theorem shape5_any {N : Nat} (hN : N ≤ 40) (g fb : Nat) (R : Nat → Nat → Bool) (u v : Nat) (w : World) (hu : u < N) (hv : v < N) (hok : OkSh N g fb R w) :
    Calls Try.prog 66 (#[.int .i64 (u : Nat), .int .i64 (v : Nat)] ++ #[.pointer (some ⟨fb, 0, none⟩)]) w fun e w' => e = .returned (.bool (R v u)) ∧ Below w.heap.size w w' := by
  obtain ⟨h1, h2⟩ := hok; have c1 := h2 u hu; have c2 := h2 v hv; obtain ⟨c0, -⟩ := blk1 h1; (have huI : (u : Int) < (N : Int) := by omega); (have hvI : (v : Int) < (N : Int) := by omega); (have hNI : (N : Int) ≤ 40 := by omega); have HH : Hid (Calls Try.prog 51 #[.int .u64 (bm N (R v) : Nat), .int .i64 (u : Nat)] w _) := set_has hN (R v) u hu w; generalize bm N (R u) = s at *; generalize bm N (R v) = s' at *; generalize R v u = rr at *; clear h1 h2; show Calls Try.prog 66 #[.int .i64 (u : Nat), .int .i64 (v : Nat), .pointer (some ⟨fb, 0, none⟩)] w _
  go_enter Try.func66, Try.ntmps66
  go_wp2_with fail; refine (HH.out).mono ?_; rintro _ w9 ⟨rfl, e9⟩
  replace e9 := e9.symm
  subst e9; go_wp2_with fail; go_ret; exact ⟨rfl, Below.refl _ _⟩
set_option maxHeartbeats 1000000 in
theorem shape6_any {N : Nat} (hN : N ≤ 40) (g fb : Nat) (R : Nat → Nat → Bool) (u v : Nat) (w : World) (hu : u < N) (hv : v < N) (hok : OkSh N g fb R w) :
    Calls Try.prog 67 (#[.int .i64 (u : Nat), .int .i64 (v : Nat)] ++ #[.pointer (some ⟨fb, 0, none⟩)]) w fun e w' => e = .returned (.bool (subB N (R u) (R v))) ∧ Below w.heap.size w w' := by
  obtain ⟨h1, h2⟩ := hok; have c1 := h2 u hu; have c2 := h2 v hv; obtain ⟨c0, -⟩ := blk1 h1; (have huI : (u : Int) < (N : Int) := by omega); (have hvI : (v : Int) < (N : Int) := by omega); (have hNI : (N : Int) ≤ 40 := by omega); (have HH : Hid (∀ w, Calls Try.prog 49 #[.int .u64 (bm N (R u) : Nat), .int .u64 (bm N (R v) : Nat)] w fun e w' => e = .returned (.bool (subB N (R u) (R v))) ∧ w' = w) := fun w => set_within hN (R u) (R v) w); generalize subB N (R u) (R v) = rr at *; generalize bm N (R u) = s at *; generalize bm N (R v) = s' at *; clear h1 h2; show Calls Try.prog 67 #[.int .i64 (u : Nat), .int .i64 (v : Nat), .pointer (some ⟨fb, 0, none⟩)] w _
  go_enter Try.func67, Try.ntmps67
  go_wp2_with fail
  go_quiet (first
    | (go_at_call 49
       refine Calls.quiet_of_same (HH.out _))
    | fail)
  go_wp2_with fail; go_ret; exact ⟨rfl, Below.drewE _ (Below.refl _ _)⟩
theorem shape1_in (cap : Array Value) (w : World) : (callFunc 62 cap).run Try.prog w = .ok (.enter 62 cap) w := by simp [go_sem]
theorem askSh1 {N : Nat} (hN : N ≤ 40) (g fb : Nat) (R : Nat → Nat → Bool) : AskN N 62 #[.pointer (some ⟨fb, 0, none⟩)] (fun u => R u u) (OkSh N g fb R) where
  up := fun h hb => OkSh.up h hb
  ent := fun _ w => shape1_in _ w
  call := fun u w hu hok => shape1_any hN g fb R u w hu hok
theorem shape2_in (cap : Array Value) (w : World) : (callFunc 63 cap).run Try.prog w = .ok (.enter 63 cap) w := by simp [go_sem]
theorem askSh2 {N : Nat} (hN : N ≤ 40) (g fb : Nat) (R : Nat → Nat → Bool) : AskN N 63 #[.pointer (some ⟨fb, 0, none⟩)] (fun u => !R u u) (OkSh N g fb R) where
  up := fun h hb => OkSh.up h hb
  ent := fun _ w => shape2_in _ w
  call := fun u w hu hok => shape2_any hN g fb R u w hu hok
theorem shape3_in (cap : Array Value) (w : World) : (callFunc 64 cap).run Try.prog w = .ok (.enter 64 cap) w := by simp [go_sem]
theorem askSh3 {N : Nat} (hN : N ≤ 40) (g fb : Nat) (R : Nat → Nat → Bool) : AskN N 64 #[.pointer (some ⟨fb, 0, none⟩)] (fun u => !(seeR N R u).isEmpty) (OkSh N g fb R) where
  up := fun h hb => OkSh.up h hb
  ent := fun _ w => shape3_in _ w
  call := fun u w hu hok => shape3_any hN g fb R u w hu hok
theorem shape4_in (cap : Array Value) (w : World) : (callFunc 65 cap).run Try.prog w = .ok (.enter 65 cap) w := by simp [go_sem]
theorem askSh4 {N : Nat} (hN : N ≤ 40) (g fb : Nat) (R : Nat → Nat → Bool) : AskP N 65 #[.pointer (some ⟨fb, 0, none⟩)] (fun u v => subB N (R v) (R u)) (OkSh N g fb R) where
  up := fun h hb => OkSh.up h hb
  ent := fun _ _ w => shape4_in _ w
  call := fun u v w hu hv hok => shape4_any hN g fb R u v w hu hv hok
theorem shape5_in (cap : Array Value) (w : World) : (callFunc 66 cap).run Try.prog w = .ok (.enter 66 cap) w := by simp [go_sem]
theorem askSh5 {N : Nat} (hN : N ≤ 40) (g fb : Nat) (R : Nat → Nat → Bool) : AskP N 66 #[.pointer (some ⟨fb, 0, none⟩)] (fun u v => R v u) (OkSh N g fb R) where
  up := fun h hb => OkSh.up h hb
  ent := fun _ _ w => shape5_in _ w
  call := fun u v w hu hv hok => shape5_any hN g fb R u v w hu hv hok
theorem shape6_in (cap : Array Value) (w : World) : (callFunc 67 cap).run Try.prog w = .ok (.enter 67 cap) w := by simp [go_sem]
theorem askSh6 {N : Nat} (hN : N ≤ 40) (g fb : Nat) (R : Nat → Nat → Bool) : AskP N 67 #[.pointer (some ⟨fb, 0, none⟩)] (fun u v => subB N (R u) (R v)) (OkSh N g fb R) where
  up := fun h hb => OkSh.up h hb
  ent := fun _ _ w => shape6_in _ w
  call := fun u v w hu hv hok => shape6_any hN g fb R u v w hu hv hok
theorem rowE24 (l : List Value) (h0 : l.length = 24) : ∃ x0 x1 x2 x3 x4 x5 x6 x7 x8 x9 x10 x11 x12 x13 x14 x15 x16 x17 x18 x19 x20 x21 x22 x23, l = [x0, x1, x2, x3, x4, x5, x6, x7, x8, x9, x10, x11, x12, x13, x14, x15, x16, x17, x18, x19, x20, x21, x22, x23] := by
  obtain ⟨x0, l1, e0, h1⟩ := cons_lenM h0; obtain ⟨x1, l2, e1, h2⟩ := cons_lenM h1; obtain ⟨x2, l3, e2, h3⟩ := cons_lenM h2; obtain ⟨x3, l4, e3, h4⟩ := cons_lenM h3; obtain ⟨x4, l5, e4, h5⟩ := cons_lenM h4; obtain ⟨x5, l6, e5, h6⟩ := cons_lenM h5; obtain ⟨x6, l7, e6, h7⟩ := cons_lenM h6; obtain ⟨x7, l8, e7, h8⟩ := cons_lenM h7; obtain ⟨x8, l9, e8, h9⟩ := cons_lenM h8; obtain ⟨x9, l10, e9, h10⟩ := cons_lenM h9; obtain ⟨x10, l11, e10, h11⟩ := cons_lenM h10; obtain ⟨x11, l12, e11, h12⟩ := cons_lenM h11; obtain ⟨x12, l13, e12, h13⟩ := cons_lenM h12; obtain ⟨x13, l14, e13, h14⟩ := cons_lenM h13; obtain ⟨x14, l15, e14, h15⟩ := cons_lenM h14; obtain ⟨x15, l16, e15, h16⟩ := cons_lenM h15; obtain ⟨x16, l17, e16, h17⟩ := cons_lenM h16; obtain ⟨x17, l18, e17, h18⟩ := cons_lenM h17; obtain ⟨x18, l19, e18, h19⟩ := cons_lenM h18; obtain ⟨x19, l20, e19, h20⟩ := cons_lenM h19; obtain ⟨x20, l21, e20, h21⟩ := cons_lenM h20; obtain ⟨x21, l22, e21, h22⟩ := cons_lenM h21; obtain ⟨x22, l23, e22, h23⟩ := cons_lenM h22; obtain ⟨x23, l24, e23, h24⟩ := cons_lenM h23; have e24 : l24 = [] := List.length_eq_zero_iff.1 h24; subst e24 e23 e22 e21 e20 e19 e18 e17 e16 e15 e14 e13 e12 e11 e10 e9 e8 e7 e6 e5 e4 e3 e2 e1 e0; exact ⟨x0, x1, x2, x3, x4, x5, x6, x7, x8, x9, x10, x11, x12, x13, x14, x15, x16, x17, x18, x19, x20, x21, x22, x23, rfl⟩
/-- Six cells written. -/
def set6 (w : World) (b : Nat) (y0 y1 y2 y3 y4 y5 : Value) : World := (((((w.setCell ⟨b, 0, none⟩ y0).setCell ⟨b, 1, none⟩ y1).setCell ⟨b, 2, none⟩ y2).setCell ⟨b, 3, none⟩ y3).setCell ⟨b, 4, none⟩ y4).setCell ⟨b, 5, none⟩ y5
theorem set6_blk {w : World} {b : Nat} {x0 x1 x2 x3 x4 x5 : Value} {T : TypeId} (h : w.heap[b]? = some (.cells #[x0, x1, x2, x3, x4, x5] T (0, 0))) (y0 y1 y2 y3 y4 y5 : Value) : (set6 w b y0 y1 y2 y3 y4 y5).heap[b]? = some (.cells #[y0, y1, y2, y3, y4, y5] T (0, 0)) := by
  have h0 : (w.setCell ⟨b, 0, none⟩ y0).heap[b]? = some (.cells #[y0, x1, x2, x3, x4, x5] T (0, 0)) := set_cellE h _; have h1 : ((w.setCell ⟨b, 0, none⟩ y0).setCell ⟨b, 1, none⟩ y1).heap[b]? = some (.cells #[y0, y1, x2, x3, x4, x5] T (0, 0)) := set_cellE h0 _; have h2 : (((w.setCell ⟨b, 0, none⟩ y0).setCell ⟨b, 1, none⟩ y1).setCell ⟨b, 2, none⟩ y2).heap[b]? = some (.cells #[y0, y1, y2, x3, x4, x5] T (0, 0)) := set_cellE h1 _; have h3 : ((((w.setCell ⟨b, 0, none⟩ y0).setCell ⟨b, 1, none⟩ y1).setCell ⟨b, 2, none⟩ y2).setCell ⟨b, 3, none⟩ y3).heap[b]? = some (.cells #[y0, y1, y2, y3, x4, x5] T (0, 0)) := set_cellE h2 _; have h4 : (((((w.setCell ⟨b, 0, none⟩ y0).setCell ⟨b, 1, none⟩ y1).setCell ⟨b, 2, none⟩ y2).setCell ⟨b, 3, none⟩ y3).setCell ⟨b, 4, none⟩ y4).heap[b]? = some (.cells #[y0, y1, y2, y3, y4, x5] T (0, 0)) := set_cellE h3 _; exact set_cellE h4 _
theorem set6_below {B : Nat} {a w : World} (h : Below B a w) {b : Nat} (hb : B ≤ b) (y0 y1 y2 y3 y4 y5 : Value) : Below B a (set6 w b y0 y1 y2 y3 y4 y5) := by
  unfold set6; exact (((((h.setCell (p := ⟨b, 0, none⟩) hb _).setCell (p := ⟨b, 1, none⟩) hb _).setCell (p := ⟨b, 2, none⟩) hb _).setCell (p := ⟨b, 3, none⟩) hb _).setCell (p := ⟨b, 4, none⟩) hb _).setCell (p := ⟨b, 5, none⟩) hb _
set_option maxRecDepth 10000 in
set_option maxHeartbeats 8000000 in
theorem shape_any {N : Nat} (hN : N ≤ 40) (g : Nat) (R : Nat → Nat → Bool) (w : World) (hF : FR w g N R) :
    Calls Try.prog 36 #[.slice (some ⟨g, 0, none⟩) N N] w fun e w' => e = .returned (.agg #[.bool (sh0 N R), .bool (sh1 N R), .bool (sh2 N R), .bool (sh3 N R), .bool (sh4 N R), .bool (sh5 N R)]) ∧ Below w.heap.size w w' := by
  obtain ⟨W, hW⟩ : ∃ W, W = (w.alloc (.cells #[.slice (some ⟨g, 0, none⟩) N N] 68 (0, 0))).alloc (.cells #[.bool false, .bool false, .bool false, .bool false, .bool false, .bool false] 39 (0, 0)) := ⟨_, rfl⟩; (have HBW : Hid (Below w.heap.size w W) := by rw [hW]; exact below_more (below_more (Below.refl _ w) _) _); (have HX0 : Hid (W.heap[w.heap.size]? = some (.cells #[.slice (some ⟨g, 0, none⟩) N N] 68 (0, 0))) := by rw [hW]; exact alloc_keep (blk_new _ _) _); (have HX1 : Hid (W.heap[w.heap.size + 1]? = some (.cells #[.bool false, .bool false, .bool false, .bool false, .bool false, .bool false] 39 (0, 0))) := by rw [hW]; exact blk_secE _ _ _); have hok : OkSh N g w.heap.size R W := ⟨HX0.out, hF.up HBW.out⟩; (have H1 : Hid (∀ wx, Below W.heap.size W wx → Calls Try.prog 68 _ wx _) := fun wx hb => ofAll_any hN (askSh1 hN g w.heap.size R) g wx (hok.up hb)); (have H2 : Hid (∀ wx, Below W.heap.size W wx → Calls Try.prog 68 _ wx _) := fun wx hb => ofAll_any hN (askSh2 hN g w.heap.size R) g wx (hok.up hb)); (have H3 : Hid (∀ wx, Below W.heap.size W wx → Calls Try.prog 68 _ wx _) := fun wx hb => ofAll_any hN (askSh3 hN g w.heap.size R) g wx (hok.up hb)); (have H4 : Hid (∀ wx, Below W.heap.size W wx → Calls Try.prog 69 _ wx _) := fun wx hb => ofSeen_any hN (askSh4 hN g w.heap.size R) R g wx ((hF.up HBW.out).up hb) (hok.up hb)); (have H5 : Hid (∀ wx, Below W.heap.size W wx → Calls Try.prog 69 _ wx _) := fun wx hb => ofSeen_any hN (askSh5 hN g w.heap.size R) R g wx ((hF.up HBW.out).up hb) (hok.up hb)); (have H6 : Hid (∀ wx, Below W.heap.size W wx → Calls Try.prog 69 _ wx _) := fun wx hb => ofSeen_any hN (askSh6 hN g w.heap.size R) R g wx ((hF.up HBW.out).up hb) (hok.up hb)); (have HS5' : Hid (sh5 N R = (sh1 N R && (List.range N).all fun u => !R u u)) := rfl); (have e0 : ((List.range N).all fun u => R u u) = sh0 N R := rfl); (have e1 : ((List.range N).all fun u => (seeR N R u).all fun v => subB N (R v) (R u)) = sh1 N R := rfl); (have e2 : ((List.range N).all fun u => (seeR N R u).all fun v => R v u) = sh2 N R := rfl); (have e3 : ((List.range N).all fun u => (seeR N R u).all fun v => subB N (R u) (R v)) = sh3 N R := rfl); (have e4 : ((List.range N).all fun u => !(seeR N R u).isEmpty) = sh4 N R := rfl); rw [e0] at H1; rw [e4] at H3; rw [e1] at H4; rw [e2] at H5; rw [e3] at H6; (generalize ((List.range N).all fun u => !R u u) = b5 at *); generalize sh0 N R = b0 at *; generalize sh1 N R = b1 at *; generalize sh2 N R = b2 at *; generalize sh3 N R = b3 at *; generalize sh4 N R = b4 at *; generalize sh5 N R = b6 at *; (have hmf : ∀ (fn : Fn) (first cap : Array Value) (w : World), (Instr.makeFunc fn first cap).run Try.prog w = .ok (.func fn first cap) w := fun _ _ _ _ => rfl); clear hok hF e0 e1 e2 e3 e4
  go_enter Try.func36, Try.ntmps36
  go_wp2_with fail; rw [← hW]; clear hW hmf
  cases b1
  · have HS5 : Hid (b6 = false) := by show _ = _; have := HS5'.out; simpa using this
    (refine wp_region_last (by kernel_rfl) [fun v _ => v = (.slice (some ⟨g, 0, none⟩) N N), fun v _ => v = (.func (.func 62) #[] #[.pointer (some ⟨w.heap.size, 0, none⟩)]), fun v _ => v = (.bool b0), fun v _ => v = (.slice (some ⟨g, 0, none⟩) N N), fun v _ => v = (.func (.func 65) #[] #[.pointer (some ⟨w.heap.size, 0, none⟩)]), fun v _ => v = (.bool false), fun v _ => v = (.slice (some ⟨g, 0, none⟩) N N), fun v _ => v = (.func (.func 66) #[] #[.pointer (some ⟨w.heap.size, 0, none⟩)]), fun v _ => v = (.bool b2), fun v _ => v = (.slice (some ⟨g, 0, none⟩) N N), fun v _ => v = (.func (.func 67) #[] #[.pointer (some ⟨w.heap.size, 0, none⟩)]), fun v _ => v = (.bool b3), fun v _ => v = (.slice (some ⟨g, 0, none⟩) N N), fun v _ => v = (.func (.func 64) #[] #[.pointer (some ⟨w.heap.size, 0, none⟩)]), fun v _ => v = (.bool b4), fun v _ => v = (.slice (some ⟨g, 0, none⟩) N N), fun v _ => v = (.func (.func 65) #[] #[.pointer (some ⟨w.heap.size, 0, none⟩)]), fun v _ => v = (.bool false), fun v _ => v = (.bool false), fun _ _ => True, fun _ _ => True, fun _ _ => True, fun v _ => v = (.bool false), fun v _ => v = (.agg #[.bool b0, .bool false, .bool b2, .bool b3, .bool b4, .bool false])] ?_ (by kernel_rfl) (by kernel_rfl) 39 rfl (by kernel_rfl) 24 _ rfl rfl (by kernel_rfl) ?_ ?_)
    · intro p hp
      simp only [List.mem_cons, List.not_mem_nil, or_false] at hp
      rcases hp with rfl | rfl | rfl | rfl | rfl | rfl | rfl | rfl | rfl | rfl | rfl | rfl | rfl | rfl | rfl | rfl | rfl | rfl | rfl | rfl | rfl | rfl | rfl | rfl
      · exact fun _ _ _ h _ => h
      · exact fun _ _ _ h _ => h
      · exact fun _ _ _ h _ => h
      · exact fun _ _ _ h _ => h
      · exact fun _ _ _ h _ => h
      · exact fun _ _ _ h _ => h
      · exact fun _ _ _ h _ => h
      · exact fun _ _ _ h _ => h
      · exact fun _ _ _ h _ => h
      · exact fun _ _ _ h _ => h
      · exact fun _ _ _ h _ => h
      · exact fun _ _ _ h _ => h
      · exact fun _ _ _ h _ => h
      · exact fun _ _ _ h _ => h
      · exact fun _ _ _ h _ => h
      · exact fun _ _ _ h _ => h
      · exact fun _ _ _ h _ => h
      · exact fun _ _ _ h _ => h
      · exact fun _ _ _ h _ => h
      · exact fun _ _ _ h _ => h
      · exact fun _ _ _ h _ => h
      · exact fun _ _ _ h _ => h
      · exact fun _ _ _ h _ => h
      · exact fun _ _ _ h _ => h
    · refine ⟨?_, ?_, ?_, ?_, ?_, ?_, ?_, ?_, ?_, ?_, ?_, ?_, ?_, ?_, ?_, ?_, ?_, ?_, ?_, ?_, ?_, ?_, ?_, ?_, trivial⟩
      · intro a wx hB hold hdep K hK
        have t1 : a.tmps[1]? = some (.pointer (some ⟨w.heap.size, 0, none⟩)) := hold.2.2 1 rfl; obtain ⟨k0, -⟩ := blk1 (below_keep hB HX0.out); clear hold hdep; go_simp; exact hK.out _ _ rfl (Below.refl _ _)
      · intro a wx hB hold hdep K hK
        have t3 : a.tmps[3]? = some (.func (.func 62) #[] #[.pointer (some ⟨w.heap.size, 0, none⟩)]) := hold.2.2 3 rfl; clear hold hdep; go_simp; exact hK.out _ _ rfl (Below.refl _ _)
      · intro a wx hB hold hdep K hK
        obtain ⟨v15, t15, p15⟩ := hdep 0 rfl _ 15 rfl rfl; have e15 : v15 = (.slice (some ⟨g, 0, none⟩) N N) := p15; subst e15; obtain ⟨v16, t16, p16⟩ := hdep 1 rfl _ 16 rfl rfl; have e16 : v16 = (.func (.func 62) #[] #[.pointer (some ⟨w.heap.size, 0, none⟩)]) := p16; subst e16; have HW : Hid (Calls Try.prog 68 #[(.slice (some ⟨g, 0, none⟩) N N), (.func (.func 62) #[] #[.pointer (some ⟨w.heap.size, 0, none⟩)])] wx _) := H1.out wx hB; clear hold hdep; go_simp; refine HW.out.mono ?_; rintro _ w9 ⟨rfl, hb9⟩; go_simp; exact hK.out _ _ rfl hb9
      · intro a wx hB hold hdep K hK
        have t1 : a.tmps[1]? = some (.pointer (some ⟨w.heap.size, 0, none⟩)) := hold.2.2 1 rfl; obtain ⟨k0, -⟩ := blk1 (below_keep hB HX0.out); clear hold hdep; go_simp; exact hK.out _ _ rfl (Below.refl _ _)
      · intro a wx hB hold hdep K hK
        have t6 : a.tmps[6]? = some (.func (.func 65) #[] #[.pointer (some ⟨w.heap.size, 0, none⟩)]) := hold.2.2 6 rfl; clear hold hdep; go_simp; exact hK.out _ _ rfl (Below.refl _ _)
      · intro a wx hB hold hdep K hK
        obtain ⟨v18, t18, p18⟩ := hdep 3 rfl _ 18 rfl rfl; have e18 : v18 = (.slice (some ⟨g, 0, none⟩) N N) := p18; subst e18; obtain ⟨v19, t19, p19⟩ := hdep 4 rfl _ 19 rfl rfl; have e19 : v19 = (.func (.func 65) #[] #[.pointer (some ⟨w.heap.size, 0, none⟩)]) := p19; subst e19; have HW : Hid (Calls Try.prog 69 #[(.slice (some ⟨g, 0, none⟩) N N), (.func (.func 65) #[] #[.pointer (some ⟨w.heap.size, 0, none⟩)])] wx _) := H4.out wx hB; clear hold hdep; go_simp; refine HW.out.mono ?_; rintro _ w9 ⟨rfl, hb9⟩; go_simp; exact hK.out _ _ rfl hb9
      · intro a wx hB hold hdep K hK
        have t1 : a.tmps[1]? = some (.pointer (some ⟨w.heap.size, 0, none⟩)) := hold.2.2 1 rfl; obtain ⟨k0, -⟩ := blk1 (below_keep hB HX0.out); clear hold hdep; go_simp; exact hK.out _ _ rfl (Below.refl _ _)
      · intro a wx hB hold hdep K hK
        have t7 : a.tmps[7]? = some (.func (.func 66) #[] #[.pointer (some ⟨w.heap.size, 0, none⟩)]) := hold.2.2 7 rfl; clear hold hdep; go_simp; exact hK.out _ _ rfl (Below.refl _ _)
      · intro a wx hB hold hdep K hK
        obtain ⟨v21, t21, p21⟩ := hdep 6 rfl _ 21 rfl rfl; have e21 : v21 = (.slice (some ⟨g, 0, none⟩) N N) := p21; subst e21; obtain ⟨v22, t22, p22⟩ := hdep 7 rfl _ 22 rfl rfl; have e22 : v22 = (.func (.func 66) #[] #[.pointer (some ⟨w.heap.size, 0, none⟩)]) := p22; subst e22; have HW : Hid (Calls Try.prog 69 #[(.slice (some ⟨g, 0, none⟩) N N), (.func (.func 66) #[] #[.pointer (some ⟨w.heap.size, 0, none⟩)])] wx _) := H5.out wx hB; clear hold hdep; go_simp; refine HW.out.mono ?_; rintro _ w9 ⟨rfl, hb9⟩; go_simp; exact hK.out _ _ rfl hb9
      · intro a wx hB hold hdep K hK
        have t1 : a.tmps[1]? = some (.pointer (some ⟨w.heap.size, 0, none⟩)) := hold.2.2 1 rfl; obtain ⟨k0, -⟩ := blk1 (below_keep hB HX0.out); clear hold hdep; go_simp; exact hK.out _ _ rfl (Below.refl _ _)
      · intro a wx hB hold hdep K hK
        have t8 : a.tmps[8]? = some (.func (.func 67) #[] #[.pointer (some ⟨w.heap.size, 0, none⟩)]) := hold.2.2 8 rfl; clear hold hdep; go_simp; exact hK.out _ _ rfl (Below.refl _ _)
      · intro a wx hB hold hdep K hK
        obtain ⟨v24, t24, p24⟩ := hdep 9 rfl _ 24 rfl rfl; have e24 : v24 = (.slice (some ⟨g, 0, none⟩) N N) := p24; subst e24; obtain ⟨v25, t25, p25⟩ := hdep 10 rfl _ 25 rfl rfl; have e25 : v25 = (.func (.func 67) #[] #[.pointer (some ⟨w.heap.size, 0, none⟩)]) := p25; subst e25; have HW : Hid (Calls Try.prog 69 #[(.slice (some ⟨g, 0, none⟩) N N), (.func (.func 67) #[] #[.pointer (some ⟨w.heap.size, 0, none⟩)])] wx _) := H6.out wx hB; clear hold hdep; go_simp; refine HW.out.mono ?_; rintro _ w9 ⟨rfl, hb9⟩; go_simp; exact hK.out _ _ rfl hb9
      · intro a wx hB hold hdep K hK
        have t1 : a.tmps[1]? = some (.pointer (some ⟨w.heap.size, 0, none⟩)) := hold.2.2 1 rfl; obtain ⟨k0, -⟩ := blk1 (below_keep hB HX0.out); clear hold hdep; go_simp; exact hK.out _ _ rfl (Below.refl _ _)
      · intro a wx hB hold hdep K hK
        have t5 : a.tmps[5]? = some (.func (.func 64) #[] #[.pointer (some ⟨w.heap.size, 0, none⟩)]) := hold.2.2 5 rfl; clear hold hdep; go_simp; exact hK.out _ _ rfl (Below.refl _ _)
      · intro a wx hB hold hdep K hK
        obtain ⟨v27, t27, p27⟩ := hdep 12 rfl _ 27 rfl rfl; have e27 : v27 = (.slice (some ⟨g, 0, none⟩) N N) := p27; subst e27; obtain ⟨v28, t28, p28⟩ := hdep 13 rfl _ 28 rfl rfl; have e28 : v28 = (.func (.func 64) #[] #[.pointer (some ⟨w.heap.size, 0, none⟩)]) := p28; subst e28; have HW : Hid (Calls Try.prog 68 #[(.slice (some ⟨g, 0, none⟩) N N), (.func (.func 64) #[] #[.pointer (some ⟨w.heap.size, 0, none⟩)])] wx _) := H3.out wx hB; clear hold hdep; go_simp; refine HW.out.mono ?_; rintro _ w9 ⟨rfl, hb9⟩; go_simp; exact hK.out _ _ rfl hb9
      · intro a wx hB hold hdep K hK
        have t1 : a.tmps[1]? = some (.pointer (some ⟨w.heap.size, 0, none⟩)) := hold.2.2 1 rfl; obtain ⟨k0, -⟩ := blk1 (below_keep hB HX0.out); clear hold hdep; go_simp; exact hK.out _ _ rfl (Below.refl _ _)
      · intro a wx hB hold hdep K hK
        have t6 : a.tmps[6]? = some (.func (.func 65) #[] #[.pointer (some ⟨w.heap.size, 0, none⟩)]) := hold.2.2 6 rfl; clear hold hdep; go_simp; exact hK.out _ _ rfl (Below.refl _ _)
      · intro a wx hB hold hdep K hK
        obtain ⟨v30, t30, p30⟩ := hdep 15 rfl _ 30 rfl rfl; have e30 : v30 = (.slice (some ⟨g, 0, none⟩) N N) := p30; subst e30; obtain ⟨v31, t31, p31⟩ := hdep 16 rfl _ 31 rfl rfl; have e31 : v31 = (.func (.func 65) #[] #[.pointer (some ⟨w.heap.size, 0, none⟩)]) := p31; subst e31; have HW : Hid (Calls Try.prog 69 #[(.slice (some ⟨g, 0, none⟩) N N), (.func (.func 65) #[] #[.pointer (some ⟨w.heap.size, 0, none⟩)])] wx _) := H4.out wx hB; clear hold hdep; go_simp; refine HW.out.mono ?_; rintro _ w9 ⟨rfl, hb9⟩; go_simp; exact hK.out _ _ rfl hb9
      · intro a wx hB hold hdep K hK
        obtain ⟨v32, t32, p32⟩ := hdep 17 rfl _ 32 rfl rfl; have e32 : v32 = (.bool false) := p32; subst e32; clear hold hdep; go_simp; exact hK.out _ _ rfl (Below.refl _ _)
      · intro a wx hB hold hdep K hK
        obtain ⟨v33, t33, p33⟩ := hdep 18 rfl _ 33 rfl rfl; have e33 : v33 = (.bool false) := p33; subst e33; clear hold hdep; go_simp; exact hK.out _ _ trivial (Below.refl _ _)
      · intro a wx hB hold hdep K hK
        obtain ⟨v33, t33, p33⟩ := hdep 18 rfl _ 33 rfl rfl; have e33 : v33 = (.bool false) := p33; subst e33; clear hold hdep; go_simp; exact hK.out _ _ trivial (Below.refl _ _)
      · intro a wx hB hold hdep K hK
        obtain ⟨v33, t33, p33⟩ := hdep 18 rfl _ 33 rfl rfl; have e33 : v33 = (.bool false) := p33; subst e33; clear hold hdep; go_simp; exact hK.out _ _ trivial (Below.refl _ _)
      · intro a wx hB hold hdep K hK
        obtain ⟨v33, t33, p33⟩ := hdep 18 rfl _ 33 rfl rfl; have e33 : v33 = (.bool false) := p33; subst e33; clear hold hdep; go_simp; exact hK.out _ _ rfl (Below.refl _ _)
      · intro a wx hB hold hdep K hK
        obtain ⟨v17, t17, p17⟩ := hdep 2 rfl _ 17 rfl rfl; have e17 : v17 = (.bool b0) := p17; subst e17; obtain ⟨v20, t20, p20⟩ := hdep 5 rfl _ 20 rfl rfl; have e20 : v20 = (.bool false) := p20; subst e20; obtain ⟨v23, t23, p23⟩ := hdep 8 rfl _ 23 rfl rfl; have e23 : v23 = (.bool b2) := p23; subst e23; obtain ⟨v26, t26, p26⟩ := hdep 11 rfl _ 26 rfl rfl; have e26 : v26 = (.bool b3) := p26; subst e26; obtain ⟨v29, t29, p29⟩ := hdep 14 rfl _ 29 rfl rfl; have e29 : v29 = (.bool b4) := p29; subst e29; obtain ⟨v37, t37, p37⟩ := hdep 22 rfl _ 37 rfl rfl; have e37 : v37 = (.bool false) := p37; subst e37; clear hold hdep; go_simp; exact hK.out _ _ rfl (Below.refl _ _)
    · intro a wx hB hold hgot K hK
      (obtain ⟨vA, tvA, pvA⟩ := hgot 23 _ 38 (by omega) rfl rfl); have evA : vA = (.agg #[.bool b0, .bool false, .bool b2, .bool b3, .bool b4, .bool false]) := pvA; subst evA; have HBx : Hid (Below W.heap.size W wx) := hB; have HZx : Hid (wx.heap[w.heap.size + 1]? = some (.cells #[.bool false, .bool false, .bool false, .bool false, .bool false, .bool false] 39 (0, 0))) := below_keep hB HX1.out; have d0 := blk_cell HZx.out 0; have d1 := blk_cell HZx.out 1; have d2 := blk_cell HZx.out 2; have d3 := blk_cell HZx.out 3; have d4 := blk_cell HZx.out 4; have d5 := blk_cell HZx.out 5; have f0 := blk_fz HZx.out 0; have f1 := blk_fz HZx.out 1; have f2 := blk_fz HZx.out 2; have f3 := blk_fz HZx.out 3; have f4 := blk_fz HZx.out 4; have f5 := blk_fz HZx.out 5; simp only [List.getElem?_toArray, List.getElem?_cons_zero, List.getElem?_cons_succ] at d0 d1 d2 d3 d4 d5; obtain ⟨tm, df⟩ := a; (obtain ⟨ys, hys, htm, rfl⟩ := frame_mid2 15 24 (by kernel_rfl) (Nat.le_of_ble_eq_true rfl) hold); obtain ⟨x15, x16, x17, x18, x19, x20, x21, x22, x23, x24, x25, x26, x27, x28, x29, x30, x31, x32, x33, x34, x35, x36, x37, x38, rfl⟩ := rowE24 ys hys; simp only [List.take_succ_cons, List.take_zero, List.drop_succ_cons, List.drop_zero, List.cons_append, List.nil_append] at htm; subst htm; obtain rfl : x38 = _ := someInjM tvA; clear hys hold hgot tvA pvA hB; go_simp; refine hK.out _ _ ?_; clear hK d0 d1 d2 d3 d4 d5 f0 f1 f2 f3 f4 f5; obtain ⟨F, hF⟩ : ∃ F, F = set6 wx (w.heap.size + 1) (.bool b0) (.bool false) (.bool b2) (.bool b3) (.bool b4) (.bool false) := ⟨_, rfl⟩; (have HF1 : Hid (F.heap[w.heap.size + 1]? = some (.cells #[.bool b0, .bool false, .bool b2, .bool b3, .bool b4, .bool false] 39 (0, 0))) := by rw [hF]; exact set6_blk HZx.out _ _ _ _ _ _); (have HF2 : Hid (Below w.heap.size w F) := by rw [hF]; exact set6_below (below_join HBW.out HBx.out) (by omega) _ _ _ _ _ _); unfold set6 at hF; rw [← hF]; clear hF; go_wp2_with fail; have o0 := blk_cell HF1.out 0; have o1 := blk_cell HF1.out 1; have o2 := blk_cell HF1.out 2; have o3 := blk_cell HF1.out 3; have o4 := blk_cell HF1.out 4; have o5 := blk_cell HF1.out 5; simp only [List.getElem?_toArray, List.getElem?_cons_zero, List.getElem?_cons_succ] at o0 o1 o2 o3 o4 o5; (exact bodyPost_ret (v := .agg #[.bool b0, .bool false, .bool b2, .bool b3, .bool b4, .bool false]) (by simp [results, Try.results36, go_sem, o0, o1, o2, o3, o4, o5]) rfl ⟨by rw [HS5.out], HF2.out⟩)
  · have HS5 : Hid (b6 = b5) := by show _ = _; have := HS5'.out; simpa using this
    (refine wp_region_last (by kernel_rfl) [fun v _ => v = (.slice (some ⟨g, 0, none⟩) N N), fun v _ => v = (.func (.func 62) #[] #[.pointer (some ⟨w.heap.size, 0, none⟩)]), fun v _ => v = (.bool b0), fun v _ => v = (.slice (some ⟨g, 0, none⟩) N N), fun v _ => v = (.func (.func 65) #[] #[.pointer (some ⟨w.heap.size, 0, none⟩)]), fun v _ => v = (.bool true), fun v _ => v = (.slice (some ⟨g, 0, none⟩) N N), fun v _ => v = (.func (.func 66) #[] #[.pointer (some ⟨w.heap.size, 0, none⟩)]), fun v _ => v = (.bool b2), fun v _ => v = (.slice (some ⟨g, 0, none⟩) N N), fun v _ => v = (.func (.func 67) #[] #[.pointer (some ⟨w.heap.size, 0, none⟩)]), fun v _ => v = (.bool b3), fun v _ => v = (.slice (some ⟨g, 0, none⟩) N N), fun v _ => v = (.func (.func 64) #[] #[.pointer (some ⟨w.heap.size, 0, none⟩)]), fun v _ => v = (.bool b4), fun v _ => v = (.slice (some ⟨g, 0, none⟩) N N), fun v _ => v = (.func (.func 65) #[] #[.pointer (some ⟨w.heap.size, 0, none⟩)]), fun v _ => v = (.bool true), fun v _ => v = (.bool true), fun v _ => v = (.slice (some ⟨g, 0, none⟩) N N), fun v _ => v = (.func (.func 63) #[] #[.pointer (some ⟨w.heap.size, 0, none⟩)]), fun v _ => v = (.bool b5), fun v _ => v = (.bool b5), fun v _ => v = (.agg #[.bool b0, .bool true, .bool b2, .bool b3, .bool b4, .bool b5])] ?_ (by kernel_rfl) (by kernel_rfl) 39 rfl (by kernel_rfl) 24 _ rfl rfl (by kernel_rfl) ?_ ?_)
    · intro p hp
      simp only [List.mem_cons, List.not_mem_nil, or_false] at hp
      rcases hp with rfl | rfl | rfl | rfl | rfl | rfl | rfl | rfl | rfl | rfl | rfl | rfl | rfl | rfl | rfl | rfl | rfl | rfl | rfl | rfl | rfl | rfl | rfl | rfl
      · exact fun _ _ _ h _ => h
      · exact fun _ _ _ h _ => h
      · exact fun _ _ _ h _ => h
      · exact fun _ _ _ h _ => h
      · exact fun _ _ _ h _ => h
      · exact fun _ _ _ h _ => h
      · exact fun _ _ _ h _ => h
      · exact fun _ _ _ h _ => h
      · exact fun _ _ _ h _ => h
      · exact fun _ _ _ h _ => h
      · exact fun _ _ _ h _ => h
      · exact fun _ _ _ h _ => h
      · exact fun _ _ _ h _ => h
      · exact fun _ _ _ h _ => h
      · exact fun _ _ _ h _ => h
      · exact fun _ _ _ h _ => h
      · exact fun _ _ _ h _ => h
      · exact fun _ _ _ h _ => h
      · exact fun _ _ _ h _ => h
      · exact fun _ _ _ h _ => h
      · exact fun _ _ _ h _ => h
      · exact fun _ _ _ h _ => h
      · exact fun _ _ _ h _ => h
      · exact fun _ _ _ h _ => h
    · refine ⟨?_, ?_, ?_, ?_, ?_, ?_, ?_, ?_, ?_, ?_, ?_, ?_, ?_, ?_, ?_, ?_, ?_, ?_, ?_, ?_, ?_, ?_, ?_, ?_, trivial⟩
      · intro a wx hB hold hdep K hK
        have t1 : a.tmps[1]? = some (.pointer (some ⟨w.heap.size, 0, none⟩)) := hold.2.2 1 rfl; obtain ⟨k0, -⟩ := blk1 (below_keep hB HX0.out); clear hold hdep; go_simp; exact hK.out _ _ rfl (Below.refl _ _)
      · intro a wx hB hold hdep K hK
        have t3 : a.tmps[3]? = some (.func (.func 62) #[] #[.pointer (some ⟨w.heap.size, 0, none⟩)]) := hold.2.2 3 rfl; clear hold hdep; go_simp; exact hK.out _ _ rfl (Below.refl _ _)
      · intro a wx hB hold hdep K hK
        obtain ⟨v15, t15, p15⟩ := hdep 0 rfl _ 15 rfl rfl; have e15 : v15 = (.slice (some ⟨g, 0, none⟩) N N) := p15; subst e15; obtain ⟨v16, t16, p16⟩ := hdep 1 rfl _ 16 rfl rfl; have e16 : v16 = (.func (.func 62) #[] #[.pointer (some ⟨w.heap.size, 0, none⟩)]) := p16; subst e16; have HW : Hid (Calls Try.prog 68 #[(.slice (some ⟨g, 0, none⟩) N N), (.func (.func 62) #[] #[.pointer (some ⟨w.heap.size, 0, none⟩)])] wx _) := H1.out wx hB; clear hold hdep; go_simp; refine HW.out.mono ?_; rintro _ w9 ⟨rfl, hb9⟩; go_simp; exact hK.out _ _ rfl hb9
      · intro a wx hB hold hdep K hK
        have t1 : a.tmps[1]? = some (.pointer (some ⟨w.heap.size, 0, none⟩)) := hold.2.2 1 rfl; obtain ⟨k0, -⟩ := blk1 (below_keep hB HX0.out); clear hold hdep; go_simp; exact hK.out _ _ rfl (Below.refl _ _)
      · intro a wx hB hold hdep K hK
        have t6 : a.tmps[6]? = some (.func (.func 65) #[] #[.pointer (some ⟨w.heap.size, 0, none⟩)]) := hold.2.2 6 rfl; clear hold hdep; go_simp; exact hK.out _ _ rfl (Below.refl _ _)
      · intro a wx hB hold hdep K hK
        obtain ⟨v18, t18, p18⟩ := hdep 3 rfl _ 18 rfl rfl; have e18 : v18 = (.slice (some ⟨g, 0, none⟩) N N) := p18; subst e18; obtain ⟨v19, t19, p19⟩ := hdep 4 rfl _ 19 rfl rfl; have e19 : v19 = (.func (.func 65) #[] #[.pointer (some ⟨w.heap.size, 0, none⟩)]) := p19; subst e19; have HW : Hid (Calls Try.prog 69 #[(.slice (some ⟨g, 0, none⟩) N N), (.func (.func 65) #[] #[.pointer (some ⟨w.heap.size, 0, none⟩)])] wx _) := H4.out wx hB; clear hold hdep; go_simp; refine HW.out.mono ?_; rintro _ w9 ⟨rfl, hb9⟩; go_simp; exact hK.out _ _ rfl hb9
      · intro a wx hB hold hdep K hK
        have t1 : a.tmps[1]? = some (.pointer (some ⟨w.heap.size, 0, none⟩)) := hold.2.2 1 rfl; obtain ⟨k0, -⟩ := blk1 (below_keep hB HX0.out); clear hold hdep; go_simp; exact hK.out _ _ rfl (Below.refl _ _)
      · intro a wx hB hold hdep K hK
        have t7 : a.tmps[7]? = some (.func (.func 66) #[] #[.pointer (some ⟨w.heap.size, 0, none⟩)]) := hold.2.2 7 rfl; clear hold hdep; go_simp; exact hK.out _ _ rfl (Below.refl _ _)
      · intro a wx hB hold hdep K hK
        obtain ⟨v21, t21, p21⟩ := hdep 6 rfl _ 21 rfl rfl; have e21 : v21 = (.slice (some ⟨g, 0, none⟩) N N) := p21; subst e21; obtain ⟨v22, t22, p22⟩ := hdep 7 rfl _ 22 rfl rfl; have e22 : v22 = (.func (.func 66) #[] #[.pointer (some ⟨w.heap.size, 0, none⟩)]) := p22; subst e22; have HW : Hid (Calls Try.prog 69 #[(.slice (some ⟨g, 0, none⟩) N N), (.func (.func 66) #[] #[.pointer (some ⟨w.heap.size, 0, none⟩)])] wx _) := H5.out wx hB; clear hold hdep; go_simp; refine HW.out.mono ?_; rintro _ w9 ⟨rfl, hb9⟩; go_simp; exact hK.out _ _ rfl hb9
      · intro a wx hB hold hdep K hK
        have t1 : a.tmps[1]? = some (.pointer (some ⟨w.heap.size, 0, none⟩)) := hold.2.2 1 rfl; obtain ⟨k0, -⟩ := blk1 (below_keep hB HX0.out); clear hold hdep; go_simp; exact hK.out _ _ rfl (Below.refl _ _)
      · intro a wx hB hold hdep K hK
        have t8 : a.tmps[8]? = some (.func (.func 67) #[] #[.pointer (some ⟨w.heap.size, 0, none⟩)]) := hold.2.2 8 rfl; clear hold hdep; go_simp; exact hK.out _ _ rfl (Below.refl _ _)
      · intro a wx hB hold hdep K hK
        obtain ⟨v24, t24, p24⟩ := hdep 9 rfl _ 24 rfl rfl; have e24 : v24 = (.slice (some ⟨g, 0, none⟩) N N) := p24; subst e24; obtain ⟨v25, t25, p25⟩ := hdep 10 rfl _ 25 rfl rfl; have e25 : v25 = (.func (.func 67) #[] #[.pointer (some ⟨w.heap.size, 0, none⟩)]) := p25; subst e25; have HW : Hid (Calls Try.prog 69 #[(.slice (some ⟨g, 0, none⟩) N N), (.func (.func 67) #[] #[.pointer (some ⟨w.heap.size, 0, none⟩)])] wx _) := H6.out wx hB; clear hold hdep; go_simp; refine HW.out.mono ?_; rintro _ w9 ⟨rfl, hb9⟩; go_simp; exact hK.out _ _ rfl hb9
      · intro a wx hB hold hdep K hK
        have t1 : a.tmps[1]? = some (.pointer (some ⟨w.heap.size, 0, none⟩)) := hold.2.2 1 rfl; obtain ⟨k0, -⟩ := blk1 (below_keep hB HX0.out); clear hold hdep; go_simp; exact hK.out _ _ rfl (Below.refl _ _)
      · intro a wx hB hold hdep K hK
        have t5 : a.tmps[5]? = some (.func (.func 64) #[] #[.pointer (some ⟨w.heap.size, 0, none⟩)]) := hold.2.2 5 rfl; clear hold hdep; go_simp; exact hK.out _ _ rfl (Below.refl _ _)
      · intro a wx hB hold hdep K hK
        obtain ⟨v27, t27, p27⟩ := hdep 12 rfl _ 27 rfl rfl; have e27 : v27 = (.slice (some ⟨g, 0, none⟩) N N) := p27; subst e27; obtain ⟨v28, t28, p28⟩ := hdep 13 rfl _ 28 rfl rfl; have e28 : v28 = (.func (.func 64) #[] #[.pointer (some ⟨w.heap.size, 0, none⟩)]) := p28; subst e28; have HW : Hid (Calls Try.prog 68 #[(.slice (some ⟨g, 0, none⟩) N N), (.func (.func 64) #[] #[.pointer (some ⟨w.heap.size, 0, none⟩)])] wx _) := H3.out wx hB; clear hold hdep; go_simp; refine HW.out.mono ?_; rintro _ w9 ⟨rfl, hb9⟩; go_simp; exact hK.out _ _ rfl hb9
      · intro a wx hB hold hdep K hK
        have t1 : a.tmps[1]? = some (.pointer (some ⟨w.heap.size, 0, none⟩)) := hold.2.2 1 rfl; obtain ⟨k0, -⟩ := blk1 (below_keep hB HX0.out); clear hold hdep; go_simp; exact hK.out _ _ rfl (Below.refl _ _)
      · intro a wx hB hold hdep K hK
        have t6 : a.tmps[6]? = some (.func (.func 65) #[] #[.pointer (some ⟨w.heap.size, 0, none⟩)]) := hold.2.2 6 rfl; clear hold hdep; go_simp; exact hK.out _ _ rfl (Below.refl _ _)
      · intro a wx hB hold hdep K hK
        obtain ⟨v30, t30, p30⟩ := hdep 15 rfl _ 30 rfl rfl; have e30 : v30 = (.slice (some ⟨g, 0, none⟩) N N) := p30; subst e30; obtain ⟨v31, t31, p31⟩ := hdep 16 rfl _ 31 rfl rfl; have e31 : v31 = (.func (.func 65) #[] #[.pointer (some ⟨w.heap.size, 0, none⟩)]) := p31; subst e31; have HW : Hid (Calls Try.prog 69 #[(.slice (some ⟨g, 0, none⟩) N N), (.func (.func 65) #[] #[.pointer (some ⟨w.heap.size, 0, none⟩)])] wx _) := H4.out wx hB; clear hold hdep; go_simp; refine HW.out.mono ?_; rintro _ w9 ⟨rfl, hb9⟩; go_simp; exact hK.out _ _ rfl hb9
      · intro a wx hB hold hdep K hK
        obtain ⟨v32, t32, p32⟩ := hdep 17 rfl _ 32 rfl rfl; have e32 : v32 = (.bool true) := p32; subst e32; clear hold hdep; go_simp; exact hK.out _ _ rfl (Below.refl _ _)
      · intro a wx hB hold hdep K hK
        obtain ⟨v33, t33, p33⟩ := hdep 18 rfl _ 33 rfl rfl; have e33 : v33 = (.bool true) := p33; subst e33; have t1 : a.tmps[1]? = some (.pointer (some ⟨w.heap.size, 0, none⟩)) := hold.2.2 1 rfl; obtain ⟨k0, -⟩ := blk1 (below_keep hB HX0.out); clear hold hdep; go_simp; exact hK.out _ _ rfl (Below.refl _ _)
      · intro a wx hB hold hdep K hK
        obtain ⟨v33, t33, p33⟩ := hdep 18 rfl _ 33 rfl rfl; have e33 : v33 = (.bool true) := p33; subst e33; have t4 : a.tmps[4]? = some (.func (.func 63) #[] #[.pointer (some ⟨w.heap.size, 0, none⟩)]) := hold.2.2 4 rfl; clear hold hdep; go_simp; exact hK.out _ _ rfl (Below.refl _ _)
      · intro a wx hB hold hdep K hK
        obtain ⟨v33, t33, p33⟩ := hdep 18 rfl _ 33 rfl rfl; have e33 : v33 = (.bool true) := p33; subst e33; obtain ⟨v34, t34, p34⟩ := hdep 19 rfl _ 34 rfl rfl; have e34 : v34 = (.slice (some ⟨g, 0, none⟩) N N) := p34; subst e34; obtain ⟨v35, t35, p35⟩ := hdep 20 rfl _ 35 rfl rfl; have e35 : v35 = (.func (.func 63) #[] #[.pointer (some ⟨w.heap.size, 0, none⟩)]) := p35; subst e35; have HW : Hid (Calls Try.prog 68 #[(.slice (some ⟨g, 0, none⟩) N N), (.func (.func 63) #[] #[.pointer (some ⟨w.heap.size, 0, none⟩)])] wx _) := H2.out wx hB; clear hold hdep; go_simp; refine HW.out.mono ?_; rintro _ w9 ⟨rfl, hb9⟩; go_simp; exact hK.out _ _ rfl hb9
      · intro a wx hB hold hdep K hK
        obtain ⟨v33, t33, p33⟩ := hdep 18 rfl _ 33 rfl rfl; have e33 : v33 = (.bool true) := p33; subst e33; obtain ⟨v36, t36, p36⟩ := hdep 21 rfl _ 36 rfl rfl; have e36 : v36 = (.bool b5) := p36; subst e36; clear hold hdep; go_simp; exact hK.out _ _ rfl (Below.refl _ _)
      · intro a wx hB hold hdep K hK
        obtain ⟨v17, t17, p17⟩ := hdep 2 rfl _ 17 rfl rfl; have e17 : v17 = (.bool b0) := p17; subst e17; obtain ⟨v20, t20, p20⟩ := hdep 5 rfl _ 20 rfl rfl; have e20 : v20 = (.bool true) := p20; subst e20; obtain ⟨v23, t23, p23⟩ := hdep 8 rfl _ 23 rfl rfl; have e23 : v23 = (.bool b2) := p23; subst e23; obtain ⟨v26, t26, p26⟩ := hdep 11 rfl _ 26 rfl rfl; have e26 : v26 = (.bool b3) := p26; subst e26; obtain ⟨v29, t29, p29⟩ := hdep 14 rfl _ 29 rfl rfl; have e29 : v29 = (.bool b4) := p29; subst e29; obtain ⟨v37, t37, p37⟩ := hdep 22 rfl _ 37 rfl rfl; have e37 : v37 = (.bool b5) := p37; subst e37; clear hold hdep; go_simp; exact hK.out _ _ rfl (Below.refl _ _)
    · intro a wx hB hold hgot K hK
      (obtain ⟨vA, tvA, pvA⟩ := hgot 23 _ 38 (by omega) rfl rfl); have evA : vA = (.agg #[.bool b0, .bool true, .bool b2, .bool b3, .bool b4, .bool b5]) := pvA; subst evA; have HBx : Hid (Below W.heap.size W wx) := hB; have HZx : Hid (wx.heap[w.heap.size + 1]? = some (.cells #[.bool false, .bool false, .bool false, .bool false, .bool false, .bool false] 39 (0, 0))) := below_keep hB HX1.out; have d0 := blk_cell HZx.out 0; have d1 := blk_cell HZx.out 1; have d2 := blk_cell HZx.out 2; have d3 := blk_cell HZx.out 3; have d4 := blk_cell HZx.out 4; have d5 := blk_cell HZx.out 5; have f0 := blk_fz HZx.out 0; have f1 := blk_fz HZx.out 1; have f2 := blk_fz HZx.out 2; have f3 := blk_fz HZx.out 3; have f4 := blk_fz HZx.out 4; have f5 := blk_fz HZx.out 5; simp only [List.getElem?_toArray, List.getElem?_cons_zero, List.getElem?_cons_succ] at d0 d1 d2 d3 d4 d5; obtain ⟨tm, df⟩ := a; (obtain ⟨ys, hys, htm, rfl⟩ := frame_mid2 15 24 (by kernel_rfl) (Nat.le_of_ble_eq_true rfl) hold); obtain ⟨x15, x16, x17, x18, x19, x20, x21, x22, x23, x24, x25, x26, x27, x28, x29, x30, x31, x32, x33, x34, x35, x36, x37, x38, rfl⟩ := rowE24 ys hys; simp only [List.take_succ_cons, List.take_zero, List.drop_succ_cons, List.drop_zero, List.cons_append, List.nil_append] at htm; subst htm; obtain rfl : x38 = _ := someInjM tvA; clear hys hold hgot tvA pvA hB; go_simp; refine hK.out _ _ ?_; clear hK d0 d1 d2 d3 d4 d5 f0 f1 f2 f3 f4 f5; obtain ⟨F, hF⟩ : ∃ F, F = set6 wx (w.heap.size + 1) (.bool b0) (.bool true) (.bool b2) (.bool b3) (.bool b4) (.bool b5) := ⟨_, rfl⟩; (have HF1 : Hid (F.heap[w.heap.size + 1]? = some (.cells #[.bool b0, .bool true, .bool b2, .bool b3, .bool b4, .bool b5] 39 (0, 0))) := by rw [hF]; exact set6_blk HZx.out _ _ _ _ _ _); (have HF2 : Hid (Below w.heap.size w F) := by rw [hF]; exact set6_below (below_join HBW.out HBx.out) (by omega) _ _ _ _ _ _); unfold set6 at hF; rw [← hF]; clear hF; go_wp2_with fail; have o0 := blk_cell HF1.out 0; have o1 := blk_cell HF1.out 1; have o2 := blk_cell HF1.out 2; have o3 := blk_cell HF1.out 3; have o4 := blk_cell HF1.out 4; have o5 := blk_cell HF1.out 5; simp only [List.getElem?_toArray, List.getElem?_cons_zero, List.getElem?_cons_succ] at o0 o1 o2 o3 o4 o5; (exact bodyPost_ret (v := .agg #[.bool b0, .bool true, .bool b2, .bool b3, .bool b4, .bool b5]) (by simp [results, Try.results36, go_sem, o0, o1, o2, o3, o4, o5]) rfl ⟨by rw [HS5.out], HF2.out⟩)
end Go.Proofs.Ytfhbpfgbnfcdaag
