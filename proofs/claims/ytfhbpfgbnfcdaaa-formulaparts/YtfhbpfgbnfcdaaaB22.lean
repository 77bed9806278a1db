/- Texts of one proof, one behind the other: Put3. -/
import Derived.Test.YtfhbpfgbnfcdaaaB18
import Derived.Test.YtfhbpfgbnfcdaaaB13
/- Walks: Put. -/
namespace Go.Proofs.Ytfhbpfgbnfcdaaa
open Go.RowKit

/-- A result that is two blocks, written last. -/
theorem outRep {W w F : World} {a b : Nat} {f : Fm} {v : Value} {m : Nat} (hW : W.heap.size ≤ m) (ha : a < m) (hb : b < m) (hrep : Rep w (m ≤ ·) f v) (x4 : ∀ k, k ≠ a → k ≠ b → F.heap[k]? = w.heap[k]?) : Rep F (W.heap.size ≤ ·) f v :=
  hrep.move fun c _ hc => ⟨x4 c (by have : m ≤ c := hc; omega) (by have : m ≤ c := hc; omega), by have : m ≤ c := hc; show W.heap.size ≤ c; omega⟩

set_option maxHeartbeats 2000000 in
theorem put_bad1 (f g : Fm) (c a : Int) (hc : c ≠ 0) (hcf : f.code = (c, a)) (v u : Value) (nm : ByteArray) (w : World) (hrep : Rep w (fun _ => True) f v) (hu : Rep w (fun _ => True) g u) :
    Calls Try.prog 22 #[v, .string nm, u] w fun e w' => e = .returned (.tuple #[.agg #[.int .i64 0, .string ⟨#[]⟩, .slice none 0 0], .agg #[.int .i64 c, .int .i64 a]]) ∧ Below w.heap.size w w' := by
  (have hck := fun v (w : World) h => check_any f v w h); rw [hcf] at hck; obtain ⟨k, n, ks⟩ := f; obtain ⟨kg, ng, ksg⟩ := g; obtain ⟨sl, cap, rfl⟩ := slice_shape hrep; obtain ⟨slg, capg, rfl⟩ := slice_shape hu; have N0 := (three (w := w) (o0 := .cells #[.int .i64 k, .string n, .slice sl ks.length cap] 24 (0, 0)) (o1 := .cells #[.int .i64 kg, .string ng, .slice slg ksg.length capg] 24 (0, 0)) (o2 := .cells #[.int .i64 0, .string ⟨#[]⟩, .slice none 0 0] 24 (0, 0)) (o3 := .cells #[.int .i64 0, .int .i64 0] 29 (0, 0))); have BN : Below w.heap.size w ((((w.alloc (.cells #[.int .i64 k, .string n, .slice sl ks.length cap] 24 (0, 0))).alloc (.cells #[.int .i64 kg, .string ng, .slice slg ksg.length capg] 24 (0, 0))).alloc (.cells #[.int .i64 0, .string ⟨#[]⟩, .slice none 0 0] 24 (0, 0))).alloc (.cells #[.int .i64 0, .int .i64 0] 29 (0, 0))) := below_more (below_more (below_more (below_more (Below.refl _ w) _) _) _) _; (have SN : w.heap.size + 4 ≤ ((((w.alloc (.cells #[.int .i64 k, .string n, .slice sl ks.length cap] 24 (0, 0))).alloc (.cells #[.int .i64 kg, .string ng, .slice slg ksg.length capg] 24 (0, 0))).alloc (.cells #[.int .i64 0, .string ⟨#[]⟩, .slice none 0 0] 24 (0, 0))).alloc (.cells #[.int .i64 0, .int .i64 0] 29 (0, 0))).heap.size := by simp); have H1 : Hid (∀ v w, _ → Calls Try.prog 12 #[v] w _) := hck; (have hne : (c != 0) = true := by simpa using hc); clear hck hcf hc
  go_enter Try.func22, Try.ntmps22
  go_wp2_with (first
    | (go_at_call 12
       refine (H1.out _ _ (hrep.up BN)).mono ?_; rintro e w1 ⟨rfl, hb1⟩; have B1 := below_join BN hb1; have q0 := below_keep hb1 N0.1; have q1 := below_keep hb1 N0.2.1; have q2 := below_keep hb1 N0.2.2.1; have q3 := below_keep hb1 N0.2.2.2; have z1 := hb1.size; obtain ⟨o0, o1, o2, o3, o4, o5⟩ := blk3 q2; obtain ⟨p0, p1, p2, p3⟩ := blk2 q3; (have d1 : ¬ w1.heap.size = w.heap.size + 1 + 1 := by omega); (have d2 : ¬ w1.heap.size = w.heap.size + 1 + 1 + 1 := by omega); (have d3 : w.heap.size + 1 + 1 < w1.heap.size := by omega)
       have d4 : w.heap.size + 1 + 1 + 1 < w1.heap.size := by omega)
    | fail)
  go_region
  all_goals go_wp2
  (obtain ⟨x1, x2, x3, x4⟩ := two_set (W := w) (w := w1) (a := w.heap.size + 1 + 1) (b := w.heap.size + 1 + 1 + 1) (by omega) (by omega) (by omega) q2 q3 B1 (.int .i64 0) (.string ⟨#[]⟩) (.slice none 0 0) (.int .i64 c) (.int .i64 a)); generalize World.setCell _ _ _ = F at x1 x2 x3 x4 ⊢; clear o0 o1 o2 o3 o4 o5 p0 p1 p2 p3; obtain ⟨k1, k2, k3, -⟩ := blk3 x1; obtain ⟨g1, g2, -⟩ := blk2 x2; have e1 := lt_of_block x1; have e2 := lt_of_block x2; (exact bodyPost_ret (v := .tuple #[.agg #[.int .i64 0, .string ⟨#[]⟩, .slice none 0 0], .agg #[.int .i64 c, .int .i64 a]]) (by simp [results, Try.results22, go_sem, k1, k2, k3, g1, g2, e1, e2]) rfl ⟨rfl, (below_more x3 _).drew⟩)

set_option maxHeartbeats 2000000 in
theorem put_bad2 (f g : Fm) (c a : Int) (hc : c ≠ 0) (hcf : f.code = (0, 0)) (hcg : g.code = (c, a)) (v u : Value) (nm : ByteArray) (w : World) (hrep : Rep w (fun _ => True) f v) (hu : Rep w (fun _ => True) g u) :
    Calls Try.prog 22 #[v, .string nm, u] w fun e w' => e = .returned (.tuple #[.agg #[.int .i64 0, .string ⟨#[]⟩, .slice none 0 0], .agg #[.int .i64 c, .int .i64 a]]) ∧ Below w.heap.size w w' := by
  (have hck := fun v (w : World) h => check_any f v w h); (have hcg2 := fun v (w : World) h => check_any g v w h); rw [hcf] at hck; rw [hcg] at hcg2; obtain ⟨k, n, ks⟩ := f; obtain ⟨kg, ng, ksg⟩ := g; obtain ⟨sl, cap, rfl⟩ := slice_shape hrep; obtain ⟨slg, capg, rfl⟩ := slice_shape hu; have N0 := (three (w := w) (o0 := .cells #[.int .i64 k, .string n, .slice sl ks.length cap] 24 (0, 0)) (o1 := .cells #[.int .i64 kg, .string ng, .slice slg ksg.length capg] 24 (0, 0)) (o2 := .cells #[.int .i64 0, .string ⟨#[]⟩, .slice none 0 0] 24 (0, 0)) (o3 := .cells #[.int .i64 0, .int .i64 0] 29 (0, 0))); have BN : Below w.heap.size w ((((w.alloc (.cells #[.int .i64 k, .string n, .slice sl ks.length cap] 24 (0, 0))).alloc (.cells #[.int .i64 kg, .string ng, .slice slg ksg.length capg] 24 (0, 0))).alloc (.cells #[.int .i64 0, .string ⟨#[]⟩, .slice none 0 0] 24 (0, 0))).alloc (.cells #[.int .i64 0, .int .i64 0] 29 (0, 0))) := below_more (below_more (below_more (below_more (Below.refl _ w) _) _) _) _; (have SN : w.heap.size + 4 ≤ ((((w.alloc (.cells #[.int .i64 k, .string n, .slice sl ks.length cap] 24 (0, 0))).alloc (.cells #[.int .i64 kg, .string ng, .slice slg ksg.length capg] 24 (0, 0))).alloc (.cells #[.int .i64 0, .string ⟨#[]⟩, .slice none 0 0] 24 (0, 0))).alloc (.cells #[.int .i64 0, .int .i64 0] 29 (0, 0))).heap.size := by simp); have H1 : Hid (∀ v w, _ → Calls Try.prog 12 #[v] w _) := hck; have H2 : Hid (∀ v w, _ → Calls Try.prog 12 #[v] w _) := hcg2; (have hne : (c != 0) = true := by simpa using hc); clear hck hcf hc hcg hcg2
  go_enter Try.func22, Try.ntmps22
  go_wp2_with (first
    | (go_at_call 12
       have U2 := U1.more (.cells #[.int .i64 0, .int .i64 0] 29 (0, 0)); refine (H2.out _ _ U2).mono ?_; rintro e w2 ⟨rfl, hb2⟩; have B2 := below_join (below_more B1 _) hb2; have s0 := below_keep hb2 (alloc_keep q0 _); have s1 := below_keep hb2 (alloc_keep q1 _); have s2 := below_keep hb2 (alloc_keep q2 _); have s3 := below_keep hb2 (alloc_keep q3 _); have z2 := hb2.size; have R2 := (R1.more _).up hb2; have V2 := U2.up hb2; have y2 : w.heap.size + 1 + 1 + 1 < w2.heap.size := lt_of_block s3; clear i0 i1 i2; obtain ⟨i0, i1, i2, -⟩ := blk3 s1; obtain ⟨j0, j1, j2, -⟩ := blk3 s0; obtain ⟨o0, o1, o2, o3, o4, o5⟩ := blk3 s2; obtain ⟨p0, p1, p2, p3⟩ := blk2 s3; (have d1 : ¬ w2.heap.size = w.heap.size + 1 + 1 := by omega); (have d2 : ¬ w2.heap.size = w.heap.size + 1 + 1 + 1 := by omega); (have d3 : w.heap.size + 1 + 1 < w2.heap.size := by omega)
       have d4 : w.heap.size + 1 + 1 + 1 < w2.heap.size := by omega)
    | (go_at_call 12
       refine (H1.out _ _ (hrep.up BN)).mono ?_; rintro e w1 ⟨rfl, hb1⟩; have B1 := below_join BN hb1; have q0 := below_keep hb1 N0.1; have q1 := below_keep hb1 N0.2.1; have q2 := below_keep hb1 N0.2.2.1; have q3 := below_keep hb1 N0.2.2.2; have z1 := hb1.size; have R1 := hrep.up B1; have U1 := hu.up B1; have y1 : w.heap.size + 1 < w1.heap.size := lt_of_block q1
       obtain ⟨i0, i1, i2, -⟩ := blk3 q1)
    | fail)
  go_region
  all_goals go_wp2
  (obtain ⟨x1, x2, x3, x4⟩ := two_set (W := w) (w := w2) (a := w.heap.size + 1 + 1) (b := w.heap.size + 1 + 1 + 1) (by omega) (by omega) (by omega) s2 s3 B2 (.int .i64 0) (.string ⟨#[]⟩) (.slice none 0 0) (.int .i64 c) (.int .i64 a)); generalize World.setCell _ _ _ = F at x1 x2 x3 x4 ⊢; clear o0 o1 o2 o3 o4 o5 p0 p1 p2 p3; obtain ⟨k1, k2, k3, -⟩ := blk3 x1; obtain ⟨g1, g2, -⟩ := blk2 x2; have e1 := lt_of_block x1; have e2 := lt_of_block x2; (exact bodyPost_ret (v := .tuple #[.agg #[.int .i64 0, .string ⟨#[]⟩, .slice none 0 0], .agg #[.int .i64 c, .int .i64 a]]) (by simp [results, Try.results22, go_sem, k1, k2, k3, g1, g2, e1, e2]) rfl ⟨rfl, (below_more x3 _).drew⟩)

set_option maxHeartbeats 2000000 in
theorem put_bad3 (f g : Fm) (hcf : f.code = (0, 0)) (hcg : g.code = (0, 0)) (v u : Value) (nm : ByteArray) (w : World) (hrep : Rep w (fun _ => True) f v) (hu : Rep w (fun _ => True) g u) (hnm : nm.size ≤ maxLen) (hno : isNm nm.data.toList = false) :
    Calls Try.prog 22 #[v, .string nm, u] w fun e w' => e = .returned (.tuple #[.agg #[.int .i64 0, .string ⟨#[]⟩, .slice none 0 0], .agg #[.int .i64 8, .int .i64 0]]) ∧ Below w.heap.size w w' := by
  (have hck := fun v (w : World) h => check_any f v w h); (have hcg2 := fun v (w : World) h => check_any g v w h); rw [hcf] at hck; rw [hcg] at hcg2; (have hin := fun w => isName_any nm hnm w); rw [hno] at hin; obtain ⟨k, n, ks⟩ := f; obtain ⟨kg, ng, ksg⟩ := g; obtain ⟨sl, cap, rfl⟩ := slice_shape hrep; obtain ⟨slg, capg, rfl⟩ := slice_shape hu; have N0 := (three (w := w) (o0 := .cells #[.int .i64 k, .string n, .slice sl ks.length cap] 24 (0, 0)) (o1 := .cells #[.int .i64 kg, .string ng, .slice slg ksg.length capg] 24 (0, 0)) (o2 := .cells #[.int .i64 0, .string ⟨#[]⟩, .slice none 0 0] 24 (0, 0)) (o3 := .cells #[.int .i64 0, .int .i64 0] 29 (0, 0))); have BN : Below w.heap.size w ((((w.alloc (.cells #[.int .i64 k, .string n, .slice sl ks.length cap] 24 (0, 0))).alloc (.cells #[.int .i64 kg, .string ng, .slice slg ksg.length capg] 24 (0, 0))).alloc (.cells #[.int .i64 0, .string ⟨#[]⟩, .slice none 0 0] 24 (0, 0))).alloc (.cells #[.int .i64 0, .int .i64 0] 29 (0, 0))) := below_more (below_more (below_more (below_more (Below.refl _ w) _) _) _) _; (have SN : w.heap.size + 4 ≤ ((((w.alloc (.cells #[.int .i64 k, .string n, .slice sl ks.length cap] 24 (0, 0))).alloc (.cells #[.int .i64 kg, .string ng, .slice slg ksg.length capg] 24 (0, 0))).alloc (.cells #[.int .i64 0, .string ⟨#[]⟩, .slice none 0 0] 24 (0, 0))).alloc (.cells #[.int .i64 0, .int .i64 0] 29 (0, 0))).heap.size := by simp); have H1 : Hid (∀ v w, _ → Calls Try.prog 12 #[v] w _) := hck; have H2 : Hid (∀ v w, _ → Calls Try.prog 12 #[v] w _) := hcg2; have H3 : Hid (∀ w, Calls Try.prog 60 _ w _) := hin; clear hck hcf hcg hcg2 hin hno
  go_enter Try.func22, Try.ntmps22
  go_wp2_with (first
    | (go_at_call 60
       refine (H3.out _).mono ?_
       rintro e w3 ⟨rfl, rfl⟩)
    | (go_at_call 12
       have U2 := U1.more (.cells #[.int .i64 0, .int .i64 0] 29 (0, 0)); refine (H2.out _ _ U2).mono ?_; rintro e w2 ⟨rfl, hb2⟩; have B2 := below_join (below_more B1 _) hb2; have s0 := below_keep hb2 (alloc_keep q0 _); have s1 := below_keep hb2 (alloc_keep q1 _); have s2 := below_keep hb2 (alloc_keep q2 _); have s3 := below_keep hb2 (alloc_keep q3 _); have z2 := hb2.size; have R2 := (R1.more _).up hb2; have V2 := U2.up hb2; have y2 : w.heap.size + 1 + 1 + 1 < w2.heap.size := lt_of_block s3; clear i0 i1 i2; obtain ⟨i0, i1, i2, -⟩ := blk3 s1; obtain ⟨j0, j1, j2, -⟩ := blk3 s0; obtain ⟨o0, o1, o2, o3, o4, o5⟩ := blk3 s2; obtain ⟨p0, p1, p2, p3⟩ := blk2 s3; (have d1 : ¬ w2.heap.size = w.heap.size + 1 + 1 := by omega); (have d2 : ¬ w2.heap.size = w.heap.size + 1 + 1 + 1 := by omega); (have d3 : w.heap.size + 1 + 1 < w2.heap.size := by omega)
       have d4 : w.heap.size + 1 + 1 + 1 < w2.heap.size := by omega)
    | (go_at_call 12
       refine (H1.out _ _ (hrep.up BN)).mono ?_; rintro e w1 ⟨rfl, hb1⟩; have B1 := below_join BN hb1; have q0 := below_keep hb1 N0.1; have q1 := below_keep hb1 N0.2.1; have q2 := below_keep hb1 N0.2.2.1; have q3 := below_keep hb1 N0.2.2.2; have z1 := hb1.size; have R1 := hrep.up B1; have U1 := hu.up B1; have y1 : w.heap.size + 1 < w1.heap.size := lt_of_block q1
       obtain ⟨i0, i1, i2, -⟩ := blk3 q1)
    | fail)
  (obtain ⟨x1, x2, x3, x4⟩ := two_set (W := w) (w := w2) (a := w.heap.size + 1 + 1) (b := w.heap.size + 1 + 1 + 1) (by omega) (by omega) (by omega) s2 s3 B2 (.int .i64 0) (.string ⟨#[]⟩) (.slice none 0 0) (.int .i64 8) (.int .i64 0)); generalize World.setCell _ _ _ = F at x1 x2 x3 x4 ⊢; clear o0 o1 o2 o3 o4 o5 p0 p1 p2 p3; obtain ⟨k1, k2, k3, -⟩ := blk3 x1; obtain ⟨g1, g2, -⟩ := blk2 x2; have e1 := lt_of_block x1; have e2 := lt_of_block x2; (exact bodyPost_ret (v := .tuple #[.agg #[.int .i64 0, .string ⟨#[]⟩, .slice none 0 0], .agg #[.int .i64 8, .int .i64 0]]) (by simp [results, Try.results22, go_sem, k1, k2, k3, g1, g2, e1, e2]) rfl ⟨rfl, below_more x3 _⟩)

set_option maxHeartbeats 2000000 in
theorem put_bad4 (f g : Fm) (hcf : f.code = (0, 0)) (hcg : g.code = (0, 0)) (v u : Value) (nm : ByteArray) (w : World) (hrep : Rep w (fun _ => True) f v) (hu : Rep w (fun _ => True) g u) (hnm : nm.size ≤ maxLen) (hno : isNm nm.data.toList = true) (hcn : 200 < cntW nm g.size (allN f)) :
    Calls Try.prog 22 #[v, .string nm, u] w fun e w' => e = .returned (.tuple #[.agg #[.int .i64 0, .string ⟨#[]⟩, .slice none 0 0], .agg #[.int .i64 10, .int .i64 0]]) ∧ Below w.heap.size w w' := by
  (have hck := fun v (w : World) h => check_any f v w h); (have hcg2 := fun v (w : World) h => check_any g v w h); rw [hcf] at hck; rw [hcg] at hcg2; (have hin := fun w => isName_any nm hnm w)
  have hsf : f.size ≤ 200 := by
    rcases hx : chk f 0 with s | ⟨c, a⟩
    · exact chk_size hx
    · have := chk_code f 0 c a hx
      simp [Fm.code, hx] at hcf; exact absurd hcf.1 this
  have hsg : g.size ≤ 200 := by
    rcases hx : chk g 0 with s | ⟨c, a⟩
    · exact chk_size hx
    · have := chk_code g 0 c a hx
      simp [Fm.code, hx] at hcg; exact absurd hcg.1 this
  have hff : Fine f := by
    rcases hx : chk f 0 with s | ⟨c, a⟩
    · exact fine_of_chk f 0 s hx
    · have := chk_code f 0 c a hx
      simp [Fm.code, hx] at hcf; exact absurd hcf.1 this
  have hgg : Fine g := by
    rcases hx : chk g 0 with s | ⟨c, a⟩
    · exact fine_of_chk g 0 s hx
    · have := chk_code g 0 c a hx
      simp [Fm.code, hx] at hcg; exact absurd hcg.1 this
  (have hsz := fun v w h => size_any g v w hsg hgg h); (have hsw := fun v w h => sizeW_any f v nm g.size hsg w hsf hff h); rw [hno] at hin; generalize cntW nm g.size (allN f) = cn at *; generalize g.size = gs at *; obtain ⟨k, n, ks⟩ := f; obtain ⟨kg, ng, ksg⟩ := g; obtain ⟨sl, cap, rfl⟩ := slice_shape hrep; obtain ⟨slg, capg, rfl⟩ := slice_shape hu; have N0 := (three (w := w) (o0 := .cells #[.int .i64 k, .string n, .slice sl ks.length cap] 24 (0, 0)) (o1 := .cells #[.int .i64 kg, .string ng, .slice slg ksg.length capg] 24 (0, 0)) (o2 := .cells #[.int .i64 0, .string ⟨#[]⟩, .slice none 0 0] 24 (0, 0)) (o3 := .cells #[.int .i64 0, .int .i64 0] 29 (0, 0))); have BN : Below w.heap.size w ((((w.alloc (.cells #[.int .i64 k, .string n, .slice sl ks.length cap] 24 (0, 0))).alloc (.cells #[.int .i64 kg, .string ng, .slice slg ksg.length capg] 24 (0, 0))).alloc (.cells #[.int .i64 0, .string ⟨#[]⟩, .slice none 0 0] 24 (0, 0))).alloc (.cells #[.int .i64 0, .int .i64 0] 29 (0, 0))) := below_more (below_more (below_more (below_more (Below.refl _ w) _) _) _) _; (have SN : w.heap.size + 4 ≤ ((((w.alloc (.cells #[.int .i64 k, .string n, .slice sl ks.length cap] 24 (0, 0))).alloc (.cells #[.int .i64 kg, .string ng, .slice slg ksg.length capg] 24 (0, 0))).alloc (.cells #[.int .i64 0, .string ⟨#[]⟩, .slice none 0 0] 24 (0, 0))).alloc (.cells #[.int .i64 0, .int .i64 0] 29 (0, 0))).heap.size := by simp); have H1 : Hid (∀ v w, _ → Calls Try.prog 12 #[v] w _) := hck; have H2 : Hid (∀ v w, _ → Calls Try.prog 12 #[v] w _) := hcg2; have H3 : Hid (∀ w, Calls Try.prog 60 _ w _) := hin; have H4 : Hid (∀ v w, _ → Calls Try.prog 62 #[v] w _) := hsz; have H5 : Hid (∀ v w, _ → Calls Try.prog 61 _ w _) := hsw; (have hcI : (200 : Int) < (cn : Int) := by omega); clear hck hcf hcg hcg2 hin hno hsz hsw hff hgg
  go_enter Try.func22, Try.ntmps22
  go_wp2_with (first
    | (go_at_call 60
       refine (H3.out _).mono ?_
       rintro e w3 ⟨rfl, rfl⟩)
    | (go_at_call 12
       have U2 := U1.more (.cells #[.int .i64 0, .int .i64 0] 29 (0, 0)); refine (H2.out _ _ U2).mono ?_; rintro e w2 ⟨rfl, hb2⟩; have B2 := below_join (below_more B1 _) hb2; have s0 := below_keep hb2 (alloc_keep q0 _); have s1 := below_keep hb2 (alloc_keep q1 _); have s2 := below_keep hb2 (alloc_keep q2 _); have s3 := below_keep hb2 (alloc_keep q3 _); have z2 := hb2.size; have R2 := (R1.more _).up hb2; have V2 := U2.up hb2; have y2 : w.heap.size + 1 + 1 + 1 < w2.heap.size := lt_of_block s3; clear i0 i1 i2; obtain ⟨i0, i1, i2, -⟩ := blk3 s1; obtain ⟨j0, j1, j2, -⟩ := blk3 s0; obtain ⟨o0, o1, o2, o3, o4, o5⟩ := blk3 s2
       obtain ⟨p0, p1, p2, p3⟩ := blk2 s3)
    | (go_at_call 12
       refine (H1.out _ _ (hrep.up BN)).mono ?_; rintro e w1 ⟨rfl, hb1⟩; have B1 := below_join BN hb1; have q0 := below_keep hb1 N0.1; have q1 := below_keep hb1 N0.2.1; have q2 := below_keep hb1 N0.2.2.1; have q3 := below_keep hb1 N0.2.2.2; have z1 := hb1.size; have R1 := hrep.up B1; have U1 := hu.up B1; have y1 : w.heap.size + 1 < w1.heap.size := lt_of_block q1
       obtain ⟨i0, i1, i2, -⟩ := blk3 q1)
    | fail)
  have t0 := alloc_keep s0 (.cells #[.int .i64 0, .int .i64 0] 29 (0, 0)); have t1 := alloc_keep s1 (.cells #[.int .i64 0, .int .i64 0] 29 (0, 0)); have t2 := alloc_keep s2 (.cells #[.int .i64 0, .int .i64 0] 29 (0, 0)); have t3 := alloc_keep s3 (.cells #[.int .i64 0, .int .i64 0] 29 (0, 0)); have B4 := below_more B2 (.cells #[.int .i64 0, .int .i64 0] 29 (0, 0)); have R4 := R2.more (.cells #[.int .i64 0, .int .i64 0] 29 (0, 0)); have V4 := V2.more (.cells #[.int .i64 0, .int .i64 0] 29 (0, 0)); generalize w2.alloc (.cells #[.int .i64 0, .int .i64 0] 29 (0, 0)) = w4 at t0 t1 t2 t3 B4 R4 V4 ⊢; clear i0 i1 i2 j0 j1 j2 o0 o1 o2 o3 o4 o5 p0 p1 p2 p3 s0 s1 s2 s3 R2 V2 hb2 z2 y2; obtain ⟨i0, i1, i2, -⟩ := blk3 t1; obtain ⟨j0, j1, j2, -⟩ := blk3 t0; have y0 := lt_of_block t0; have y2 := lt_of_block t1
  go_region_held3 (fun w' => w'.cell? ⟨w.heap.size, 0, none⟩ = some (.int .i64 k) ∧ w'.cell? ⟨w.heap.size, 1, none⟩ = some (.string n) ∧ w'.cell? ⟨w.heap.size, 2, none⟩ = some (.slice sl ks.length cap) ∧ w'.cell? ⟨w.heap.size + 1, 0, none⟩ = some (.int .i64 kg) ∧ w'.cell? ⟨w.heap.size + 1, 1, none⟩ = some (.string ng) ∧ w'.cell? ⟨w.heap.size + 1, 2, none⟩ = some (.slice slg ksg.length capg)) (go_keep)
    (first
     | (go_at_call 62
        refine (H4.out _ _ (V4.up (Below.refl _ _).drew)).mono ?_; rintro e w5 ⟨rfl, hb5⟩; have hb5' : Below w4.heap.size w4 w5 := (Below.refl _ w4).drew.trans hb5; clear hb5; have u0 := below_keep hb5' t0; have u1 := below_keep hb5' t1; have u2 := below_keep hb5' t2; have u3 := below_keep hb5' t3; have B5 := below_join B4 hb5'; have R5 := R4.up hb5'; have V5 := V4.up hb5'; obtain ⟨a0, a1, a2, -⟩ := blk3 u0
        obtain ⟨b0, b1, b2, -⟩ := blk3 u1)
     | (go_at_call 61
        refine (H5.out _ _ R5).mono ?_; rintro e w6 ⟨rfl, hb6⟩; have x0 := below_keep hb6 u0; have x1 := below_keep hb6 u1; have x2 := below_keep hb6 u2; have x3 := below_keep hb6 u3; have B6 := below_join B5 hb6; have R6 := R5.up hb6; have V6 := V5.up hb6; obtain ⟨c0, c1, c2, -⟩ := blk3 x0
        obtain ⟨d0, d1, d2, -⟩ := blk3 x1)
     | fail)
  clear a0 a1 a2 b0 b1 b2 i0 i1 i2 j0 j1 j2; obtain ⟨o0, o1, o2, o3, o4, o5⟩ := blk3 x2; obtain ⟨p0, p1, p2, p3⟩ := blk2 x3; have r2 := x2; have r3 := x3; have e6 := lt_of_block r3; clear x2 x3; go_wp2_with fail; (obtain ⟨x1, x2, x3, x4⟩ := two_set (W := w) (w := w6) (a := w.heap.size + 1 + 1) (b := w.heap.size + 1 + 1 + 1) (by omega) (by omega) (by omega) r2 r3 B6 (.int .i64 0) (.string ⟨#[]⟩) (.slice none 0 0) (.int .i64 10) (.int .i64 0)); generalize World.setCell _ _ _ = F at x1 x2 x3 x4 ⊢; clear o0 o1 o2 o3 o4 o5 p0 p1 p2 p3; obtain ⟨k1, k2, k3, -⟩ := blk3 x1; obtain ⟨g1, g2, -⟩ := blk2 x2; have e1 := lt_of_block x1; have e2 := lt_of_block x2; (exact bodyPost_ret (v := .tuple #[.agg #[.int .i64 0, .string ⟨#[]⟩, .slice none 0 0], .agg #[.int .i64 10, .int .i64 0]]) (by simp [results, Try.results22, go_sem, k1, k2, k3, g1, g2]) rfl ⟨rfl, x3⟩)

set_option maxHeartbeats 2000000 in
theorem put_ok (f g : Fm) (hcf : f.code = (0, 0)) (hcg : g.code = (0, 0)) (v u : Value) (nm : ByteArray) (w : World) (hrep : Rep w (fun _ => True) f v) (hu : Rep w (fun _ => True) g u) (hnm : nm.size ≤ maxLen) (hno : isNm nm.data.toList = true) (hcn : ¬ 200 < cntW nm g.size (allN f)) :
    Calls Try.prog 22 #[v, .string nm, u] w fun e w' => ∃ x, e = .returned (.tuple #[x, .agg #[.int .i64 0, .int .i64 0]]) ∧ Rep w' (w.heap.size ≤ ·) (putF nm g f) x ∧ Below w.heap.size w w' := by
  (have hck := fun v (w : World) h => check_any f v w h); (have hcg2 := fun v (w : World) h => check_any g v w h); rw [hcf] at hck; rw [hcg] at hcg2; (have hin := fun w => isName_any nm hnm w)
  have hsf : f.size ≤ 200 := by
    rcases hx : chk f 0 with s | ⟨c, a⟩
    · exact chk_size hx
    · have := chk_code f 0 c a hx
      simp [Fm.code, hx] at hcf; exact absurd hcf.1 this
  have hsg : g.size ≤ 200 := by
    rcases hx : chk g 0 with s | ⟨c, a⟩
    · exact chk_size hx
    · have := chk_code g 0 c a hx
      simp [Fm.code, hx] at hcg; exact absurd hcg.1 this
  have hff : Fine f := by
    rcases hx : chk f 0 with s | ⟨c, a⟩
    · exact fine_of_chk f 0 s hx
    · have := chk_code f 0 c a hx
      simp [Fm.code, hx] at hcf; exact absurd hcf.1 this
  have hgg : Fine g := by
    rcases hx : chk g 0 with s | ⟨c, a⟩
    · exact fine_of_chk g 0 s hx
    · have := chk_code g 0 c a hx
      simp [Fm.code, hx] at hcg; exact absurd hcg.1 this
  (have hsz := fun v w h => size_any g v w hsg hgg h); (have hsw := fun v w h => sizeW_any f v nm g.size hsg w hsf hff h); (have hrp := fun v u w h1 h2 => repl_any f g v u nm w hff hgg h1 h2); rw [hno] at hin; generalize cntW nm g.size (allN f) = cn at *; generalize g.size = gs at *; generalize putF nm g f = fp at *; obtain ⟨kp, np, ksp⟩ := fp; obtain ⟨k, n, ks⟩ := f; obtain ⟨kg, ng, ksg⟩ := g; obtain ⟨sl, cap, rfl⟩ := slice_shape hrep; obtain ⟨slg, capg, rfl⟩ := slice_shape hu; have N0 := (three (w := w) (o0 := .cells #[.int .i64 k, .string n, .slice sl ks.length cap] 24 (0, 0)) (o1 := .cells #[.int .i64 kg, .string ng, .slice slg ksg.length capg] 24 (0, 0)) (o2 := .cells #[.int .i64 0, .string ⟨#[]⟩, .slice none 0 0] 24 (0, 0)) (o3 := .cells #[.int .i64 0, .int .i64 0] 29 (0, 0))); have BN : Below w.heap.size w ((((w.alloc (.cells #[.int .i64 k, .string n, .slice sl ks.length cap] 24 (0, 0))).alloc (.cells #[.int .i64 kg, .string ng, .slice slg ksg.length capg] 24 (0, 0))).alloc (.cells #[.int .i64 0, .string ⟨#[]⟩, .slice none 0 0] 24 (0, 0))).alloc (.cells #[.int .i64 0, .int .i64 0] 29 (0, 0))) := below_more (below_more (below_more (below_more (Below.refl _ w) _) _) _) _; (have SN : w.heap.size + 4 ≤ ((((w.alloc (.cells #[.int .i64 k, .string n, .slice sl ks.length cap] 24 (0, 0))).alloc (.cells #[.int .i64 kg, .string ng, .slice slg ksg.length capg] 24 (0, 0))).alloc (.cells #[.int .i64 0, .string ⟨#[]⟩, .slice none 0 0] 24 (0, 0))).alloc (.cells #[.int .i64 0, .int .i64 0] 29 (0, 0))).heap.size := by simp); have H1 : Hid (∀ v w, _ → Calls Try.prog 12 #[v] w _) := hck; have H2 : Hid (∀ v w, _ → Calls Try.prog 12 #[v] w _) := hcg2; have H3 : Hid (∀ w, Calls Try.prog 60 _ w _) := hin; have H4 : Hid (∀ v w, _ → Calls Try.prog 62 #[v] w _) := hsz; have H5 : Hid (∀ v w, _ → Calls Try.prog 61 _ w _) := hsw; have H6 : Hid (∀ v u w, _ → _ → Calls Try.prog 63 _ w _) := hrp; (have hcI : ¬ (200 : Int) < (cn : Int) := by omega); clear hck hcf hcg hcg2 hin hno hsz hsw hrp hff hgg
  go_enter Try.func22, Try.ntmps22
  go_wp2_with (first
    | (go_at_call 60
       refine (H3.out _).mono ?_
       rintro e w3 ⟨rfl, rfl⟩)
    | (go_at_call 12
       have U2 := U1.more (.cells #[.int .i64 0, .int .i64 0] 29 (0, 0)); refine (H2.out _ _ U2).mono ?_; rintro e w2 ⟨rfl, hb2⟩; have B2 := below_join (below_more B1 _) hb2; have s0 := below_keep hb2 (alloc_keep q0 _); have s1 := below_keep hb2 (alloc_keep q1 _); have s2 := below_keep hb2 (alloc_keep q2 _); have s3 := below_keep hb2 (alloc_keep q3 _); have z2 := hb2.size; have R2 := (R1.more _).up hb2; have V2 := U2.up hb2; have y2 : w.heap.size + 1 + 1 + 1 < w2.heap.size := lt_of_block s3; clear i0 i1 i2; obtain ⟨i0, i1, i2, -⟩ := blk3 s1; obtain ⟨j0, j1, j2, -⟩ := blk3 s0; obtain ⟨o0, o1, o2, o3, o4, o5⟩ := blk3 s2
       obtain ⟨p0, p1, p2, p3⟩ := blk2 s3)
    | (go_at_call 12
       refine (H1.out _ _ (hrep.up BN)).mono ?_; rintro e w1 ⟨rfl, hb1⟩; have B1 := below_join BN hb1; have q0 := below_keep hb1 N0.1; have q1 := below_keep hb1 N0.2.1; have q2 := below_keep hb1 N0.2.2.1; have q3 := below_keep hb1 N0.2.2.2; have z1 := hb1.size; have R1 := hrep.up B1; have U1 := hu.up B1; have y1 : w.heap.size + 1 < w1.heap.size := lt_of_block q1
       obtain ⟨i0, i1, i2, -⟩ := blk3 q1)
    | fail)
  have t0 := alloc_keep s0 (.cells #[.int .i64 0, .int .i64 0] 29 (0, 0)); have t1 := alloc_keep s1 (.cells #[.int .i64 0, .int .i64 0] 29 (0, 0)); have t2 := alloc_keep s2 (.cells #[.int .i64 0, .int .i64 0] 29 (0, 0)); have t3 := alloc_keep s3 (.cells #[.int .i64 0, .int .i64 0] 29 (0, 0)); have B4 := below_more B2 (.cells #[.int .i64 0, .int .i64 0] 29 (0, 0)); have R4 := R2.more (.cells #[.int .i64 0, .int .i64 0] 29 (0, 0)); have V4 := V2.more (.cells #[.int .i64 0, .int .i64 0] 29 (0, 0)); generalize w2.alloc (.cells #[.int .i64 0, .int .i64 0] 29 (0, 0)) = w4 at t0 t1 t2 t3 B4 R4 V4 ⊢; clear i0 i1 i2 j0 j1 j2 o0 o1 o2 o3 o4 o5 p0 p1 p2 p3 s0 s1 s2 s3 R2 V2 hb2 z2 y2; obtain ⟨i0, i1, i2, -⟩ := blk3 t1; obtain ⟨j0, j1, j2, -⟩ := blk3 t0; have y0 := lt_of_block t0; have y2 := lt_of_block t1
  go_region_held3 (fun w' => w'.cell? ⟨w.heap.size, 0, none⟩ = some (.int .i64 k) ∧ w'.cell? ⟨w.heap.size, 1, none⟩ = some (.string n) ∧ w'.cell? ⟨w.heap.size, 2, none⟩ = some (.slice sl ks.length cap) ∧ w'.cell? ⟨w.heap.size + 1, 0, none⟩ = some (.int .i64 kg) ∧ w'.cell? ⟨w.heap.size + 1, 1, none⟩ = some (.string ng) ∧ w'.cell? ⟨w.heap.size + 1, 2, none⟩ = some (.slice slg ksg.length capg)) (go_keep)
    (first
     | (go_at_call 62
        refine (H4.out _ _ (V4.up (Below.refl _ _).drew)).mono ?_; rintro e w5 ⟨rfl, hb5⟩; have hb5' : Below w4.heap.size w4 w5 := (Below.refl _ w4).drew.trans hb5; clear hb5; have u0 := below_keep hb5' t0; have u1 := below_keep hb5' t1; have u2 := below_keep hb5' t2; have u3 := below_keep hb5' t3; have B5 := below_join B4 hb5'; have R5 := R4.up hb5'; have V5 := V4.up hb5'; obtain ⟨a0, a1, a2, -⟩ := blk3 u0
        obtain ⟨b0, b1, b2, -⟩ := blk3 u1)
     | (go_at_call 61
        refine (H5.out _ _ R5).mono ?_; rintro e w6 ⟨rfl, hb6⟩; have x0 := below_keep hb6 u0; have x1 := below_keep hb6 u1; have x2 := below_keep hb6 u2; have x3 := below_keep hb6 u3; have B6 := below_join B5 hb6; have R6 := R5.up hb6; have V6 := V5.up hb6; obtain ⟨c0, c1, c2, -⟩ := blk3 x0
        obtain ⟨d0, d1, d2, -⟩ := blk3 x1)
     | fail)
  clear a0 a1 a2 b0 b1 b2 i0 i1 i2 j0 j1 j2; obtain ⟨o0, o1, o2, o3, o4, o5⟩ := blk3 x2; obtain ⟨p0, p1, p2, p3⟩ := blk2 x3; have r2 := x2; have r3 := x3; have e6 := lt_of_block r3; clear x2 x3
  go_wp2_with (first
    | (go_at_call 63
       refine (H6.out _ _ _ R6 V6).mono ?_; rintro e w7 ⟨x, rfl, hrep7, hb7⟩; obtain ⟨sl7, cap7, rfl⟩ := slice_shape hrep7; have n2 := below_keep hb7 r2; have n3 := below_keep hb7 r3; have B7 := below_join B6 hb7; clear o0 o1 o2 o3 o4 o5 p0 p1 p2 p3; obtain ⟨o0, o1, o2, o3, o4, o5⟩ := blk3 n2
       obtain ⟨p0, p1, p2, p3⟩ := blk2 n3)
    | fail)
  (obtain ⟨x1, x2, x3, x4⟩ := two_set (W := w) (w := w7) (a := w.heap.size + 1 + 1) (b := w.heap.size + 1 + 1 + 1) (by omega) (by omega) (by omega) n2 n3 B7 (.int .i64 kp) (.string np) (.slice sl7 ksp.length cap7) (.int .i64 0) (.int .i64 0)); (have RF := outRep (W := w) (a := w.heap.size + 1 + 1) (b := w.heap.size + 1 + 1 + 1) (by have := B6.size; omega) (by omega) (by omega) hrep7 x4); generalize World.setCell _ _ _ = F at x1 x2 x3 RF ⊢; clear o0 o1 o2 o3 o4 o5 p0 p1 p2 p3; obtain ⟨k1, k2, k3, -⟩ := blk3 x1; obtain ⟨g1, g2, -⟩ := blk2 x2; have e1 := lt_of_block x1; have e2 := lt_of_block x2; (exact bodyPost_ret (v := .tuple #[.agg #[.int .i64 kp, .string np, .slice sl7 ksp.length cap7], .agg #[.int .i64 0, .int .i64 0]]) (by simp [results, Try.results22, go_sem, k1, k2, k3, g1, g2]) rfl ⟨_, rfl, RF, x3⟩)
end Go.Proofs.Ytfhbpfgbnfcdaaa
