/- Texts of one proof, one behind the other: Put3, Names1. -/
import Derived.Test.YtknngeojhiejnaaB11
/- Walks: Put. -/
namespace Go.Proofs.Ytknngeojhiejnaa
open Go.RowKit

/-- A result that is two blocks, written last. -/
theorem outRep {W w F : World} {a b : Nat} {f : Fm} {v : Value} {m : Nat} (hW : W.heap.size ≤ m) (ha : a < m) (hb : b < m) (hrep : Rep w (m ≤ ·) f v) (x4 : ∀ k, k ≠ a → k ≠ b → F.heap[k]? = w.heap[k]?) : Rep F (W.heap.size ≤ ·) f v :=
  hrep.move fun c _ hc => ⟨x4 c (by have : m ≤ c := hc; omega) (by have : m ≤ c := hc; omega), by have : m ≤ c := hc; show W.heap.size ≤ c; omega⟩

set_option maxHeartbeats 2000000 in
theorem put_bad1 (f g : Fm) (c a : Int) (hc : c ≠ 0) (hcf : f.code = (c, a)) (v u : Value) (nm : ByteArray) (w : World) (hrep : Rep w (fun _ => True) f v) (hu : Rep w (fun _ => True) g u) :
    Calls Try.prog 22 #[v, .string nm, u] w fun e w' => e = .returned (.tuple #[.agg #[.int .i64 0, .string ⟨#[]⟩, .slice none 0 0], .agg #[.int .i64 c, .int .i64 a]]) ∧ Below w.heap.size w w' := by
  have hck := fun v (w : World) h => check_any f v w h
  rw [hcf] at hck
  obtain ⟨k, n, ks⟩ := f
  obtain ⟨kg, ng, ksg⟩ := g
  obtain ⟨sl, cap, rfl⟩ := slice_shape hrep
  obtain ⟨slg, capg, rfl⟩ := slice_shape hu
  have N0 := (three (w := w) (o0 := .cells #[.int .i64 k, .string n, .slice sl ks.length cap] 24 (0, 0)) (o1 := .cells #[.int .i64 kg, .string ng, .slice slg ksg.length capg] 24 (0, 0)) (o2 := .cells #[.int .i64 0, .string ⟨#[]⟩, .slice none 0 0] 24 (0, 0)) (o3 := .cells #[.int .i64 0, .int .i64 0] 29 (0, 0)))
  have BN : Below w.heap.size w ((((w.alloc (.cells #[.int .i64 k, .string n, .slice sl ks.length cap] 24 (0, 0))).alloc (.cells #[.int .i64 kg, .string ng, .slice slg ksg.length capg] 24 (0, 0))).alloc (.cells #[.int .i64 0, .string ⟨#[]⟩, .slice none 0 0] 24 (0, 0))).alloc (.cells #[.int .i64 0, .int .i64 0] 29 (0, 0))) := below_more (below_more (below_more (below_more (Below.refl _ w) _) _) _) _
  have SN : w.heap.size + 4 ≤ ((((w.alloc (.cells #[.int .i64 k, .string n, .slice sl ks.length cap] 24 (0, 0))).alloc (.cells #[.int .i64 kg, .string ng, .slice slg ksg.length capg] 24 (0, 0))).alloc (.cells #[.int .i64 0, .string ⟨#[]⟩, .slice none 0 0] 24 (0, 0))).alloc (.cells #[.int .i64 0, .int .i64 0] 29 (0, 0))).heap.size := by simp
  have H1 : Hid (∀ v w, _ → Calls Try.prog 12 #[v] w _) := hck
  have hne : (c != 0) = true := by simpa using hc
  clear hck hcf hc
  go_enter Try.func22, Try.ntmps22
  go_wp2_with (first
    | (go_at_call 12
       refine (H1.out _ _ (hrep.up BN)).mono ?_
       rintro e w1 ⟨rfl, hb1⟩
       have B1 := below_join BN hb1
       have q0 := below_keep hb1 N0.1
       have q1 := below_keep hb1 N0.2.1
       have q2 := below_keep hb1 N0.2.2.1
       have q3 := below_keep hb1 N0.2.2.2
       have z1 := hb1.size
       obtain ⟨o0, o1, o2, o3, o4, o5⟩ := blk3 q2
       obtain ⟨p0, p1, p2, p3⟩ := blk2 q3
       have d1 : ¬ w1.heap.size = w.heap.size + 1 + 1 := by omega
       have d2 : ¬ w1.heap.size = w.heap.size + 1 + 1 + 1 := by omega
       have d3 : w.heap.size + 1 + 1 < w1.heap.size := by omega
       have d4 : w.heap.size + 1 + 1 + 1 < w1.heap.size := by omega)
    | fail)
  go_region
  all_goals go_wp2
  obtain ⟨x1, x2, x3, x4⟩ := two_set (W := w) (w := w1) (a := w.heap.size + 1 + 1) (b := w.heap.size + 1 + 1 + 1) (by omega) (by omega) (by omega) q2 q3 B1 (.int .i64 0) (.string ⟨#[]⟩) (.slice none 0 0) (.int .i64 c) (.int .i64 a)
  generalize World.setCell _ _ _ = F at x1 x2 x3 x4 ⊢
  clear o0 o1 o2 o3 o4 o5 p0 p1 p2 p3
  obtain ⟨k1, k2, k3, -⟩ := blk3 x1
  obtain ⟨g1, g2, -⟩ := blk2 x2
  have e1 := lt_of_block x1
  have e2 := lt_of_block x2
  exact bodyPost_ret (v := .tuple #[.agg #[.int .i64 0, .string ⟨#[]⟩, .slice none 0 0], .agg #[.int .i64 c, .int .i64 a]]) (by simp [results, Try.results22, go_sem, k1, k2, k3, g1, g2, e1, e2]) rfl ⟨rfl, (below_more x3 _).drew⟩

set_option maxHeartbeats 2000000 in
theorem put_bad2 (f g : Fm) (c a : Int) (hc : c ≠ 0) (hcf : f.code = (0, 0)) (hcg : g.code = (c, a)) (v u : Value) (nm : ByteArray) (w : World) (hrep : Rep w (fun _ => True) f v) (hu : Rep w (fun _ => True) g u) :
    Calls Try.prog 22 #[v, .string nm, u] w fun e w' => e = .returned (.tuple #[.agg #[.int .i64 0, .string ⟨#[]⟩, .slice none 0 0], .agg #[.int .i64 c, .int .i64 a]]) ∧ Below w.heap.size w w' := by
  have hck := fun v (w : World) h => check_any f v w h
  have hcg2 := fun v (w : World) h => check_any g v w h
  rw [hcf] at hck
  rw [hcg] at hcg2
  obtain ⟨k, n, ks⟩ := f
  obtain ⟨kg, ng, ksg⟩ := g
  obtain ⟨sl, cap, rfl⟩ := slice_shape hrep
  obtain ⟨slg, capg, rfl⟩ := slice_shape hu
  have N0 := (three (w := w) (o0 := .cells #[.int .i64 k, .string n, .slice sl ks.length cap] 24 (0, 0)) (o1 := .cells #[.int .i64 kg, .string ng, .slice slg ksg.length capg] 24 (0, 0)) (o2 := .cells #[.int .i64 0, .string ⟨#[]⟩, .slice none 0 0] 24 (0, 0)) (o3 := .cells #[.int .i64 0, .int .i64 0] 29 (0, 0)))
  have BN : Below w.heap.size w ((((w.alloc (.cells #[.int .i64 k, .string n, .slice sl ks.length cap] 24 (0, 0))).alloc (.cells #[.int .i64 kg, .string ng, .slice slg ksg.length capg] 24 (0, 0))).alloc (.cells #[.int .i64 0, .string ⟨#[]⟩, .slice none 0 0] 24 (0, 0))).alloc (.cells #[.int .i64 0, .int .i64 0] 29 (0, 0))) := below_more (below_more (below_more (below_more (Below.refl _ w) _) _) _) _
  have SN : w.heap.size + 4 ≤ ((((w.alloc (.cells #[.int .i64 k, .string n, .slice sl ks.length cap] 24 (0, 0))).alloc (.cells #[.int .i64 kg, .string ng, .slice slg ksg.length capg] 24 (0, 0))).alloc (.cells #[.int .i64 0, .string ⟨#[]⟩, .slice none 0 0] 24 (0, 0))).alloc (.cells #[.int .i64 0, .int .i64 0] 29 (0, 0))).heap.size := by simp
  have H1 : Hid (∀ v w, _ → Calls Try.prog 12 #[v] w _) := hck
  have H2 : Hid (∀ v w, _ → Calls Try.prog 12 #[v] w _) := hcg2
  have hne : (c != 0) = true := by simpa using hc
  clear hck hcf hc hcg hcg2
  go_enter Try.func22, Try.ntmps22
  go_wp2_with (first
    | (go_at_call 12
       have U2 := U1.more (.cells #[.int .i64 0, .int .i64 0] 29 (0, 0))
       refine (H2.out _ _ U2).mono ?_
       rintro e w2 ⟨rfl, hb2⟩
       have B2 := below_join (below_more B1 _) hb2
       have s0 := below_keep hb2 (alloc_keep q0 _)
       have s1 := below_keep hb2 (alloc_keep q1 _)
       have s2 := below_keep hb2 (alloc_keep q2 _)
       have s3 := below_keep hb2 (alloc_keep q3 _)
       have z2 := hb2.size
       have R2 := (R1.more _).up hb2
       have V2 := U2.up hb2
       have y2 : w.heap.size + 1 + 1 + 1 < w2.heap.size := lt_of_block s3
       clear i0 i1 i2
       obtain ⟨i0, i1, i2, -⟩ := blk3 s1
       obtain ⟨j0, j1, j2, -⟩ := blk3 s0
       obtain ⟨o0, o1, o2, o3, o4, o5⟩ := blk3 s2
       obtain ⟨p0, p1, p2, p3⟩ := blk2 s3
       have d1 : ¬ w2.heap.size = w.heap.size + 1 + 1 := by omega
       have d2 : ¬ w2.heap.size = w.heap.size + 1 + 1 + 1 := by omega
       have d3 : w.heap.size + 1 + 1 < w2.heap.size := by omega
       have d4 : w.heap.size + 1 + 1 + 1 < w2.heap.size := by omega)
    | (go_at_call 12
       refine (H1.out _ _ (hrep.up BN)).mono ?_
       rintro e w1 ⟨rfl, hb1⟩
       have B1 := below_join BN hb1
       have q0 := below_keep hb1 N0.1
       have q1 := below_keep hb1 N0.2.1
       have q2 := below_keep hb1 N0.2.2.1
       have q3 := below_keep hb1 N0.2.2.2
       have z1 := hb1.size
       have R1 := hrep.up B1
       have U1 := hu.up B1
       have y1 : w.heap.size + 1 < w1.heap.size := lt_of_block q1
       obtain ⟨i0, i1, i2, -⟩ := blk3 q1)
    | fail)
  go_region
  all_goals go_wp2
  obtain ⟨x1, x2, x3, x4⟩ := two_set (W := w) (w := w2) (a := w.heap.size + 1 + 1) (b := w.heap.size + 1 + 1 + 1) (by omega) (by omega) (by omega) s2 s3 B2 (.int .i64 0) (.string ⟨#[]⟩) (.slice none 0 0) (.int .i64 c) (.int .i64 a)
  generalize World.setCell _ _ _ = F at x1 x2 x3 x4 ⊢
  clear o0 o1 o2 o3 o4 o5 p0 p1 p2 p3
  obtain ⟨k1, k2, k3, -⟩ := blk3 x1
  obtain ⟨g1, g2, -⟩ := blk2 x2
  have e1 := lt_of_block x1
  have e2 := lt_of_block x2
  exact bodyPost_ret (v := .tuple #[.agg #[.int .i64 0, .string ⟨#[]⟩, .slice none 0 0], .agg #[.int .i64 c, .int .i64 a]]) (by simp [results, Try.results22, go_sem, k1, k2, k3, g1, g2, e1, e2]) rfl ⟨rfl, (below_more x3 _).drew⟩

set_option maxHeartbeats 2000000 in
theorem put_bad3 (f g : Fm) (hcf : f.code = (0, 0)) (hcg : g.code = (0, 0)) (v u : Value) (nm : ByteArray) (w : World) (hrep : Rep w (fun _ => True) f v) (hu : Rep w (fun _ => True) g u) (hnm : nm.size ≤ maxLen) (hno : isNm nm.data.toList = false) :
    Calls Try.prog 22 #[v, .string nm, u] w fun e w' => e = .returned (.tuple #[.agg #[.int .i64 0, .string ⟨#[]⟩, .slice none 0 0], .agg #[.int .i64 8, .int .i64 0]]) ∧ Below w.heap.size w w' := by
  have hck := fun v (w : World) h => check_any f v w h
  have hcg2 := fun v (w : World) h => check_any g v w h
  rw [hcf] at hck
  rw [hcg] at hcg2
  have hin := fun w => isName_any nm hnm w
  rw [hno] at hin
  obtain ⟨k, n, ks⟩ := f
  obtain ⟨kg, ng, ksg⟩ := g
  obtain ⟨sl, cap, rfl⟩ := slice_shape hrep
  obtain ⟨slg, capg, rfl⟩ := slice_shape hu
  have N0 := (three (w := w) (o0 := .cells #[.int .i64 k, .string n, .slice sl ks.length cap] 24 (0, 0)) (o1 := .cells #[.int .i64 kg, .string ng, .slice slg ksg.length capg] 24 (0, 0)) (o2 := .cells #[.int .i64 0, .string ⟨#[]⟩, .slice none 0 0] 24 (0, 0)) (o3 := .cells #[.int .i64 0, .int .i64 0] 29 (0, 0)))
  have BN : Below w.heap.size w ((((w.alloc (.cells #[.int .i64 k, .string n, .slice sl ks.length cap] 24 (0, 0))).alloc (.cells #[.int .i64 kg, .string ng, .slice slg ksg.length capg] 24 (0, 0))).alloc (.cells #[.int .i64 0, .string ⟨#[]⟩, .slice none 0 0] 24 (0, 0))).alloc (.cells #[.int .i64 0, .int .i64 0] 29 (0, 0))) := below_more (below_more (below_more (below_more (Below.refl _ w) _) _) _) _
  have SN : w.heap.size + 4 ≤ ((((w.alloc (.cells #[.int .i64 k, .string n, .slice sl ks.length cap] 24 (0, 0))).alloc (.cells #[.int .i64 kg, .string ng, .slice slg ksg.length capg] 24 (0, 0))).alloc (.cells #[.int .i64 0, .string ⟨#[]⟩, .slice none 0 0] 24 (0, 0))).alloc (.cells #[.int .i64 0, .int .i64 0] 29 (0, 0))).heap.size := by simp
  have H1 : Hid (∀ v w, _ → Calls Try.prog 12 #[v] w _) := hck
  have H2 : Hid (∀ v w, _ → Calls Try.prog 12 #[v] w _) := hcg2
  have H3 : Hid (∀ w, Calls Try.prog 60 _ w _) := hin
  clear hck hcf hcg hcg2 hin hno
  go_enter Try.func22, Try.ntmps22
  go_wp2_with (first
    | (go_at_call 60
       refine (H3.out _).mono ?_
       rintro e w3 ⟨rfl, rfl⟩)
    | (go_at_call 12
       have U2 := U1.more (.cells #[.int .i64 0, .int .i64 0] 29 (0, 0))
       refine (H2.out _ _ U2).mono ?_
       rintro e w2 ⟨rfl, hb2⟩
       have B2 := below_join (below_more B1 _) hb2
       have s0 := below_keep hb2 (alloc_keep q0 _)
       have s1 := below_keep hb2 (alloc_keep q1 _)
       have s2 := below_keep hb2 (alloc_keep q2 _)
       have s3 := below_keep hb2 (alloc_keep q3 _)
       have z2 := hb2.size
       have R2 := (R1.more _).up hb2
       have V2 := U2.up hb2
       have y2 : w.heap.size + 1 + 1 + 1 < w2.heap.size := lt_of_block s3
       clear i0 i1 i2
       obtain ⟨i0, i1, i2, -⟩ := blk3 s1
       obtain ⟨j0, j1, j2, -⟩ := blk3 s0
       obtain ⟨o0, o1, o2, o3, o4, o5⟩ := blk3 s2
       obtain ⟨p0, p1, p2, p3⟩ := blk2 s3
       have d1 : ¬ w2.heap.size = w.heap.size + 1 + 1 := by omega
       have d2 : ¬ w2.heap.size = w.heap.size + 1 + 1 + 1 := by omega
       have d3 : w.heap.size + 1 + 1 < w2.heap.size := by omega
       have d4 : w.heap.size + 1 + 1 + 1 < w2.heap.size := by omega)
    | (go_at_call 12
       refine (H1.out _ _ (hrep.up BN)).mono ?_
       rintro e w1 ⟨rfl, hb1⟩
       have B1 := below_join BN hb1
       have q0 := below_keep hb1 N0.1
       have q1 := below_keep hb1 N0.2.1
       have q2 := below_keep hb1 N0.2.2.1
       have q3 := below_keep hb1 N0.2.2.2
       have z1 := hb1.size
       have R1 := hrep.up B1
       have U1 := hu.up B1
       have y1 : w.heap.size + 1 < w1.heap.size := lt_of_block q1
       obtain ⟨i0, i1, i2, -⟩ := blk3 q1)
    | fail)
  obtain ⟨x1, x2, x3, x4⟩ := two_set (W := w) (w := w2) (a := w.heap.size + 1 + 1) (b := w.heap.size + 1 + 1 + 1) (by omega) (by omega) (by omega) s2 s3 B2 (.int .i64 0) (.string ⟨#[]⟩) (.slice none 0 0) (.int .i64 8) (.int .i64 0)
  generalize World.setCell _ _ _ = F at x1 x2 x3 x4 ⊢
  clear o0 o1 o2 o3 o4 o5 p0 p1 p2 p3
  obtain ⟨k1, k2, k3, -⟩ := blk3 x1
  obtain ⟨g1, g2, -⟩ := blk2 x2
  have e1 := lt_of_block x1
  have e2 := lt_of_block x2
  exact bodyPost_ret (v := .tuple #[.agg #[.int .i64 0, .string ⟨#[]⟩, .slice none 0 0], .agg #[.int .i64 8, .int .i64 0]]) (by simp [results, Try.results22, go_sem, k1, k2, k3, g1, g2, e1, e2]) rfl ⟨rfl, below_more x3 _⟩

set_option maxHeartbeats 2000000 in
theorem put_bad4 (f g : Fm) (hcf : f.code = (0, 0)) (hcg : g.code = (0, 0)) (v u : Value) (nm : ByteArray) (w : World) (hrep : Rep w (fun _ => True) f v) (hu : Rep w (fun _ => True) g u) (hnm : nm.size ≤ maxLen) (hno : isNm nm.data.toList = true) (hcn : 200 < cntW nm g.size (allN f)) :
    Calls Try.prog 22 #[v, .string nm, u] w fun e w' => e = .returned (.tuple #[.agg #[.int .i64 0, .string ⟨#[]⟩, .slice none 0 0], .agg #[.int .i64 10, .int .i64 0]]) ∧ Below w.heap.size w w' := by
  have hck := fun v (w : World) h => check_any f v w h
  have hcg2 := fun v (w : World) h => check_any g v w h
  rw [hcf] at hck
  rw [hcg] at hcg2
  have hin := fun w => isName_any nm hnm w
  have hsf : f.size ≤ 200 := by
    rcases hx : chk f 0 with s | ⟨c, a⟩
    · exact chk_size hx
    · have := chk_code f 0 c a hx
      simp [Fm.code, hx] at hcf
      exact absurd hcf.1 this
  have hsg : g.size ≤ 200 := by
    rcases hx : chk g 0 with s | ⟨c, a⟩
    · exact chk_size hx
    · have := chk_code g 0 c a hx
      simp [Fm.code, hx] at hcg
      exact absurd hcg.1 this
  have hff : Fine f := by
    rcases hx : chk f 0 with s | ⟨c, a⟩
    · exact fine_of_chk f 0 s hx
    · have := chk_code f 0 c a hx
      simp [Fm.code, hx] at hcf
      exact absurd hcf.1 this
  have hgg : Fine g := by
    rcases hx : chk g 0 with s | ⟨c, a⟩
    · exact fine_of_chk g 0 s hx
    · have := chk_code g 0 c a hx
      simp [Fm.code, hx] at hcg
      exact absurd hcg.1 this
  have hsz := fun v w h => size_any g v w hsg hgg h
  have hsw := fun v w h => sizeW_any f v nm g.size hsg w hsf hff h
  rw [hno] at hin
  generalize cntW nm g.size (allN f) = cn at *
  generalize g.size = gs at *
  obtain ⟨k, n, ks⟩ := f
  obtain ⟨kg, ng, ksg⟩ := g
  obtain ⟨sl, cap, rfl⟩ := slice_shape hrep
  obtain ⟨slg, capg, rfl⟩ := slice_shape hu
  have N0 := (three (w := w) (o0 := .cells #[.int .i64 k, .string n, .slice sl ks.length cap] 24 (0, 0)) (o1 := .cells #[.int .i64 kg, .string ng, .slice slg ksg.length capg] 24 (0, 0)) (o2 := .cells #[.int .i64 0, .string ⟨#[]⟩, .slice none 0 0] 24 (0, 0)) (o3 := .cells #[.int .i64 0, .int .i64 0] 29 (0, 0)))
  have BN : Below w.heap.size w ((((w.alloc (.cells #[.int .i64 k, .string n, .slice sl ks.length cap] 24 (0, 0))).alloc (.cells #[.int .i64 kg, .string ng, .slice slg ksg.length capg] 24 (0, 0))).alloc (.cells #[.int .i64 0, .string ⟨#[]⟩, .slice none 0 0] 24 (0, 0))).alloc (.cells #[.int .i64 0, .int .i64 0] 29 (0, 0))) := below_more (below_more (below_more (below_more (Below.refl _ w) _) _) _) _
  have SN : w.heap.size + 4 ≤ ((((w.alloc (.cells #[.int .i64 k, .string n, .slice sl ks.length cap] 24 (0, 0))).alloc (.cells #[.int .i64 kg, .string ng, .slice slg ksg.length capg] 24 (0, 0))).alloc (.cells #[.int .i64 0, .string ⟨#[]⟩, .slice none 0 0] 24 (0, 0))).alloc (.cells #[.int .i64 0, .int .i64 0] 29 (0, 0))).heap.size := by simp
  have H1 : Hid (∀ v w, _ → Calls Try.prog 12 #[v] w _) := hck
  have H2 : Hid (∀ v w, _ → Calls Try.prog 12 #[v] w _) := hcg2
  have H3 : Hid (∀ w, Calls Try.prog 60 _ w _) := hin
  have H4 : Hid (∀ v w, _ → Calls Try.prog 62 #[v] w _) := hsz
  have H5 : Hid (∀ v w, _ → Calls Try.prog 61 _ w _) := hsw
  have hcI : (200 : Int) < (cn : Int) := by omega
  clear hck hcf hcg hcg2 hin hno hsz hsw hff hgg
  go_enter Try.func22, Try.ntmps22
  go_wp2_with (first
    | (go_at_call 60
       refine (H3.out _).mono ?_
       rintro e w3 ⟨rfl, rfl⟩)
    | (go_at_call 12
       have U2 := U1.more (.cells #[.int .i64 0, .int .i64 0] 29 (0, 0))
       refine (H2.out _ _ U2).mono ?_
       rintro e w2 ⟨rfl, hb2⟩
       have B2 := below_join (below_more B1 _) hb2
       have s0 := below_keep hb2 (alloc_keep q0 _)
       have s1 := below_keep hb2 (alloc_keep q1 _)
       have s2 := below_keep hb2 (alloc_keep q2 _)
       have s3 := below_keep hb2 (alloc_keep q3 _)
       have z2 := hb2.size
       have R2 := (R1.more _).up hb2
       have V2 := U2.up hb2
       have y2 : w.heap.size + 1 + 1 + 1 < w2.heap.size := lt_of_block s3
       clear i0 i1 i2
       obtain ⟨i0, i1, i2, -⟩ := blk3 s1
       obtain ⟨j0, j1, j2, -⟩ := blk3 s0
       obtain ⟨o0, o1, o2, o3, o4, o5⟩ := blk3 s2
       obtain ⟨p0, p1, p2, p3⟩ := blk2 s3)
    | (go_at_call 12
       refine (H1.out _ _ (hrep.up BN)).mono ?_
       rintro e w1 ⟨rfl, hb1⟩
       have B1 := below_join BN hb1
       have q0 := below_keep hb1 N0.1
       have q1 := below_keep hb1 N0.2.1
       have q2 := below_keep hb1 N0.2.2.1
       have q3 := below_keep hb1 N0.2.2.2
       have z1 := hb1.size
       have R1 := hrep.up B1
       have U1 := hu.up B1
       have y1 : w.heap.size + 1 < w1.heap.size := lt_of_block q1
       obtain ⟨i0, i1, i2, -⟩ := blk3 q1)
    | fail)
  have t0 := alloc_keep s0 (.cells #[.int .i64 0, .int .i64 0] 29 (0, 0))
  have t1 := alloc_keep s1 (.cells #[.int .i64 0, .int .i64 0] 29 (0, 0))
  have t2 := alloc_keep s2 (.cells #[.int .i64 0, .int .i64 0] 29 (0, 0))
  have t3 := alloc_keep s3 (.cells #[.int .i64 0, .int .i64 0] 29 (0, 0))
  have B4 := below_more B2 (.cells #[.int .i64 0, .int .i64 0] 29 (0, 0))
  have R4 := R2.more (.cells #[.int .i64 0, .int .i64 0] 29 (0, 0))
  have V4 := V2.more (.cells #[.int .i64 0, .int .i64 0] 29 (0, 0))
  generalize w2.alloc (.cells #[.int .i64 0, .int .i64 0] 29 (0, 0)) = w4 at t0 t1 t2 t3 B4 R4 V4 ⊢
  clear i0 i1 i2 j0 j1 j2 o0 o1 o2 o3 o4 o5 p0 p1 p2 p3 s0 s1 s2 s3 R2 V2 hb2 z2 y2
  obtain ⟨i0, i1, i2, -⟩ := blk3 t1
  obtain ⟨j0, j1, j2, -⟩ := blk3 t0
  have y0 := lt_of_block t0
  have y2 := lt_of_block t1
  go_region_held3 (fun w' => w'.cell? ⟨w.heap.size, 0, none⟩ = some (.int .i64 k) ∧ w'.cell? ⟨w.heap.size, 1, none⟩ = some (.string n) ∧ w'.cell? ⟨w.heap.size, 2, none⟩ = some (.slice sl ks.length cap) ∧ w'.cell? ⟨w.heap.size + 1, 0, none⟩ = some (.int .i64 kg) ∧ w'.cell? ⟨w.heap.size + 1, 1, none⟩ = some (.string ng) ∧ w'.cell? ⟨w.heap.size + 1, 2, none⟩ = some (.slice slg ksg.length capg)) (go_keep)
    (first
     | (go_at_call 62
        refine (H4.out _ _ (V4.up (Below.refl _ _).drew)).mono ?_
        rintro e w5 ⟨rfl, hb5⟩
        have hb5' : Below w4.heap.size w4 w5 := (Below.refl _ w4).drew.trans hb5
        clear hb5
        have u0 := below_keep hb5' t0
        have u1 := below_keep hb5' t1
        have u2 := below_keep hb5' t2
        have u3 := below_keep hb5' t3
        have B5 := below_join B4 hb5'
        have R5 := R4.up hb5'
        have V5 := V4.up hb5'
        obtain ⟨a0, a1, a2, -⟩ := blk3 u0
        obtain ⟨b0, b1, b2, -⟩ := blk3 u1)
     | (go_at_call 61
        refine (H5.out _ _ R5).mono ?_
        rintro e w6 ⟨rfl, hb6⟩
        have x0 := below_keep hb6 u0
        have x1 := below_keep hb6 u1
        have x2 := below_keep hb6 u2
        have x3 := below_keep hb6 u3
        have B6 := below_join B5 hb6
        have R6 := R5.up hb6
        have V6 := V5.up hb6
        obtain ⟨c0, c1, c2, -⟩ := blk3 x0
        obtain ⟨d0, d1, d2, -⟩ := blk3 x1)
     | fail)
  clear a0 a1 a2 b0 b1 b2 i0 i1 i2 j0 j1 j2
  obtain ⟨o0, o1, o2, o3, o4, o5⟩ := blk3 x2
  obtain ⟨p0, p1, p2, p3⟩ := blk2 x3
  have r2 := x2
  have r3 := x3
  have e6 := lt_of_block r3
  clear x2 x3
  go_wp2_with fail
  obtain ⟨x1, x2, x3, x4⟩ := two_set (W := w) (w := w6) (a := w.heap.size + 1 + 1) (b := w.heap.size + 1 + 1 + 1) (by omega) (by omega) (by omega) r2 r3 B6 (.int .i64 0) (.string ⟨#[]⟩) (.slice none 0 0) (.int .i64 10) (.int .i64 0)
  generalize World.setCell _ _ _ = F at x1 x2 x3 x4 ⊢
  clear o0 o1 o2 o3 o4 o5 p0 p1 p2 p3
  obtain ⟨k1, k2, k3, -⟩ := blk3 x1
  obtain ⟨g1, g2, -⟩ := blk2 x2
  have e1 := lt_of_block x1
  have e2 := lt_of_block x2
  exact bodyPost_ret (v := .tuple #[.agg #[.int .i64 0, .string ⟨#[]⟩, .slice none 0 0], .agg #[.int .i64 10, .int .i64 0]]) (by simp [results, Try.results22, go_sem, k1, k2, k3, g1, g2]) rfl ⟨rfl, x3⟩

set_option maxHeartbeats 2000000 in
theorem put_ok (f g : Fm) (hcf : f.code = (0, 0)) (hcg : g.code = (0, 0)) (v u : Value) (nm : ByteArray) (w : World) (hrep : Rep w (fun _ => True) f v) (hu : Rep w (fun _ => True) g u) (hnm : nm.size ≤ maxLen) (hno : isNm nm.data.toList = true) (hcn : ¬ 200 < cntW nm g.size (allN f)) :
    Calls Try.prog 22 #[v, .string nm, u] w fun e w' => ∃ x, e = .returned (.tuple #[x, .agg #[.int .i64 0, .int .i64 0]]) ∧ Rep w' (w.heap.size ≤ ·) (putF nm g f) x ∧ Below w.heap.size w w' := by
  have hck := fun v (w : World) h => check_any f v w h
  have hcg2 := fun v (w : World) h => check_any g v w h
  rw [hcf] at hck
  rw [hcg] at hcg2
  have hin := fun w => isName_any nm hnm w
  have hsf : f.size ≤ 200 := by
    rcases hx : chk f 0 with s | ⟨c, a⟩
    · exact chk_size hx
    · have := chk_code f 0 c a hx
      simp [Fm.code, hx] at hcf
      exact absurd hcf.1 this
  have hsg : g.size ≤ 200 := by
    rcases hx : chk g 0 with s | ⟨c, a⟩
    · exact chk_size hx
    · have := chk_code g 0 c a hx
      simp [Fm.code, hx] at hcg
      exact absurd hcg.1 this
  have hff : Fine f := by
    rcases hx : chk f 0 with s | ⟨c, a⟩
    · exact fine_of_chk f 0 s hx
    · have := chk_code f 0 c a hx
      simp [Fm.code, hx] at hcf
      exact absurd hcf.1 this
  have hgg : Fine g := by
    rcases hx : chk g 0 with s | ⟨c, a⟩
    · exact fine_of_chk g 0 s hx
    · have := chk_code g 0 c a hx
      simp [Fm.code, hx] at hcg
      exact absurd hcg.1 this
  have hsz := fun v w h => size_any g v w hsg hgg h
  have hsw := fun v w h => sizeW_any f v nm g.size hsg w hsf hff h
  have hrp := fun v u w h1 h2 => repl_any f g v u nm w hff hgg h1 h2
  rw [hno] at hin
  generalize cntW nm g.size (allN f) = cn at *
  generalize g.size = gs at *
  generalize putF nm g f = fp at *
  obtain ⟨kp, np, ksp⟩ := fp
  obtain ⟨k, n, ks⟩ := f
  obtain ⟨kg, ng, ksg⟩ := g
  obtain ⟨sl, cap, rfl⟩ := slice_shape hrep
  obtain ⟨slg, capg, rfl⟩ := slice_shape hu
  have N0 := (three (w := w) (o0 := .cells #[.int .i64 k, .string n, .slice sl ks.length cap] 24 (0, 0)) (o1 := .cells #[.int .i64 kg, .string ng, .slice slg ksg.length capg] 24 (0, 0)) (o2 := .cells #[.int .i64 0, .string ⟨#[]⟩, .slice none 0 0] 24 (0, 0)) (o3 := .cells #[.int .i64 0, .int .i64 0] 29 (0, 0)))
  have BN : Below w.heap.size w ((((w.alloc (.cells #[.int .i64 k, .string n, .slice sl ks.length cap] 24 (0, 0))).alloc (.cells #[.int .i64 kg, .string ng, .slice slg ksg.length capg] 24 (0, 0))).alloc (.cells #[.int .i64 0, .string ⟨#[]⟩, .slice none 0 0] 24 (0, 0))).alloc (.cells #[.int .i64 0, .int .i64 0] 29 (0, 0))) := below_more (below_more (below_more (below_more (Below.refl _ w) _) _) _) _
  have SN : w.heap.size + 4 ≤ ((((w.alloc (.cells #[.int .i64 k, .string n, .slice sl ks.length cap] 24 (0, 0))).alloc (.cells #[.int .i64 kg, .string ng, .slice slg ksg.length capg] 24 (0, 0))).alloc (.cells #[.int .i64 0, .string ⟨#[]⟩, .slice none 0 0] 24 (0, 0))).alloc (.cells #[.int .i64 0, .int .i64 0] 29 (0, 0))).heap.size := by simp
  have H1 : Hid (∀ v w, _ → Calls Try.prog 12 #[v] w _) := hck
  have H2 : Hid (∀ v w, _ → Calls Try.prog 12 #[v] w _) := hcg2
  have H3 : Hid (∀ w, Calls Try.prog 60 _ w _) := hin
  have H4 : Hid (∀ v w, _ → Calls Try.prog 62 #[v] w _) := hsz
  have H5 : Hid (∀ v w, _ → Calls Try.prog 61 _ w _) := hsw
  have H6 : Hid (∀ v u w, _ → _ → Calls Try.prog 63 _ w _) := hrp
  have hcI : ¬ (200 : Int) < (cn : Int) := by omega
  clear hck hcf hcg hcg2 hin hno hsz hsw hrp hff hgg
  go_enter Try.func22, Try.ntmps22
  go_wp2_with (first
    | (go_at_call 60
       refine (H3.out _).mono ?_
       rintro e w3 ⟨rfl, rfl⟩)
    | (go_at_call 12
       have U2 := U1.more (.cells #[.int .i64 0, .int .i64 0] 29 (0, 0))
       refine (H2.out _ _ U2).mono ?_
       rintro e w2 ⟨rfl, hb2⟩
       have B2 := below_join (below_more B1 _) hb2
       have s0 := below_keep hb2 (alloc_keep q0 _)
       have s1 := below_keep hb2 (alloc_keep q1 _)
       have s2 := below_keep hb2 (alloc_keep q2 _)
       have s3 := below_keep hb2 (alloc_keep q3 _)
       have z2 := hb2.size
       have R2 := (R1.more _).up hb2
       have V2 := U2.up hb2
       have y2 : w.heap.size + 1 + 1 + 1 < w2.heap.size := lt_of_block s3
       clear i0 i1 i2
       obtain ⟨i0, i1, i2, -⟩ := blk3 s1
       obtain ⟨j0, j1, j2, -⟩ := blk3 s0
       obtain ⟨o0, o1, o2, o3, o4, o5⟩ := blk3 s2
       obtain ⟨p0, p1, p2, p3⟩ := blk2 s3)
    | (go_at_call 12
       refine (H1.out _ _ (hrep.up BN)).mono ?_
       rintro e w1 ⟨rfl, hb1⟩
       have B1 := below_join BN hb1
       have q0 := below_keep hb1 N0.1
       have q1 := below_keep hb1 N0.2.1
       have q2 := below_keep hb1 N0.2.2.1
       have q3 := below_keep hb1 N0.2.2.2
       have z1 := hb1.size
       have R1 := hrep.up B1
       have U1 := hu.up B1
       have y1 : w.heap.size + 1 < w1.heap.size := lt_of_block q1
       obtain ⟨i0, i1, i2, -⟩ := blk3 q1)
    | fail)
  have t0 := alloc_keep s0 (.cells #[.int .i64 0, .int .i64 0] 29 (0, 0))
  have t1 := alloc_keep s1 (.cells #[.int .i64 0, .int .i64 0] 29 (0, 0))
  have t2 := alloc_keep s2 (.cells #[.int .i64 0, .int .i64 0] 29 (0, 0))
  have t3 := alloc_keep s3 (.cells #[.int .i64 0, .int .i64 0] 29 (0, 0))
  have B4 := below_more B2 (.cells #[.int .i64 0, .int .i64 0] 29 (0, 0))
  have R4 := R2.more (.cells #[.int .i64 0, .int .i64 0] 29 (0, 0))
  have V4 := V2.more (.cells #[.int .i64 0, .int .i64 0] 29 (0, 0))
  generalize w2.alloc (.cells #[.int .i64 0, .int .i64 0] 29 (0, 0)) = w4 at t0 t1 t2 t3 B4 R4 V4 ⊢
  clear i0 i1 i2 j0 j1 j2 o0 o1 o2 o3 o4 o5 p0 p1 p2 p3 s0 s1 s2 s3 R2 V2 hb2 z2 y2
  obtain ⟨i0, i1, i2, -⟩ := blk3 t1
  obtain ⟨j0, j1, j2, -⟩ := blk3 t0
  have y0 := lt_of_block t0
  have y2 := lt_of_block t1
  go_region_held3 (fun w' => w'.cell? ⟨w.heap.size, 0, none⟩ = some (.int .i64 k) ∧ w'.cell? ⟨w.heap.size, 1, none⟩ = some (.string n) ∧ w'.cell? ⟨w.heap.size, 2, none⟩ = some (.slice sl ks.length cap) ∧ w'.cell? ⟨w.heap.size + 1, 0, none⟩ = some (.int .i64 kg) ∧ w'.cell? ⟨w.heap.size + 1, 1, none⟩ = some (.string ng) ∧ w'.cell? ⟨w.heap.size + 1, 2, none⟩ = some (.slice slg ksg.length capg)) (go_keep)
    (first
     | (go_at_call 62
        refine (H4.out _ _ (V4.up (Below.refl _ _).drew)).mono ?_
        rintro e w5 ⟨rfl, hb5⟩
        have hb5' : Below w4.heap.size w4 w5 := (Below.refl _ w4).drew.trans hb5
        clear hb5
        have u0 := below_keep hb5' t0
        have u1 := below_keep hb5' t1
        have u2 := below_keep hb5' t2
        have u3 := below_keep hb5' t3
        have B5 := below_join B4 hb5'
        have R5 := R4.up hb5'
        have V5 := V4.up hb5'
        obtain ⟨a0, a1, a2, -⟩ := blk3 u0
        obtain ⟨b0, b1, b2, -⟩ := blk3 u1)
     | (go_at_call 61
        refine (H5.out _ _ R5).mono ?_
        rintro e w6 ⟨rfl, hb6⟩
        have x0 := below_keep hb6 u0
        have x1 := below_keep hb6 u1
        have x2 := below_keep hb6 u2
        have x3 := below_keep hb6 u3
        have B6 := below_join B5 hb6
        have R6 := R5.up hb6
        have V6 := V5.up hb6
        obtain ⟨c0, c1, c2, -⟩ := blk3 x0
        obtain ⟨d0, d1, d2, -⟩ := blk3 x1)
     | fail)
  clear a0 a1 a2 b0 b1 b2 i0 i1 i2 j0 j1 j2
  obtain ⟨o0, o1, o2, o3, o4, o5⟩ := blk3 x2
  obtain ⟨p0, p1, p2, p3⟩ := blk2 x3
  have r2 := x2
  have r3 := x3
  have e6 := lt_of_block r3
  clear x2 x3
  go_wp2_with (first
    | (go_at_call 63
       refine (H6.out _ _ _ R6 V6).mono ?_
       rintro e w7 ⟨x, rfl, hrep7, hb7⟩
       obtain ⟨sl7, cap7, rfl⟩ := slice_shape hrep7
       have n2 := below_keep hb7 r2
       have n3 := below_keep hb7 r3
       have B7 := below_join B6 hb7
       clear o0 o1 o2 o3 o4 o5 p0 p1 p2 p3
       obtain ⟨o0, o1, o2, o3, o4, o5⟩ := blk3 n2
       obtain ⟨p0, p1, p2, p3⟩ := blk2 n3)
    | fail)
  obtain ⟨x1, x2, x3, x4⟩ := two_set (W := w) (w := w7) (a := w.heap.size + 1 + 1) (b := w.heap.size + 1 + 1 + 1) (by omega) (by omega) (by omega) n2 n3 B7 (.int .i64 kp) (.string np) (.slice sl7 ksp.length cap7) (.int .i64 0) (.int .i64 0)
  have RF := outRep (W := w) (a := w.heap.size + 1 + 1) (b := w.heap.size + 1 + 1 + 1) (by have := B6.size; omega) (by omega) (by omega) hrep7 x4
  generalize World.setCell _ _ _ = F at x1 x2 x3 RF ⊢
  clear o0 o1 o2 o3 o4 o5 p0 p1 p2 p3
  obtain ⟨k1, k2, k3, -⟩ := blk3 x1
  obtain ⟨g1, g2, -⟩ := blk2 x2
  have e1 := lt_of_block x1
  have e2 := lt_of_block x2
  exact bodyPost_ret (v := .tuple #[.agg #[.int .i64 kp, .string np, .slice sl7 ksp.length cap7], .agg #[.int .i64 0, .int .i64 0]]) (by simp [results, Try.results22, go_sem, k1, k2, k3, g1, g2]) rfl ⟨_, rfl, RF, x3⟩
end Go.Proofs.Ytknngeojhiejnaa
/- Walks: the names in a formula, as they come. -/
namespace Go.Proofs.Ytknngeojhiejnaa
open Go.RowKit

theorem infoText : ∃ i, Try.prog.info? 9 = some i ∧ i.zero = some (.string ⟨#[]⟩) ∧ i.size = 1 ∧ i.bytes = 16 := by
  obtain ⟨i, hi, h⟩ := Option.map_eq_some_iff.1 (show (Try.prog.info? 9).map (fun i => (i.zero, i.size, i.bytes)) = some (some (.string ⟨#[]⟩), 1, 16) by kernel_rfl)
  simp only [Prod.mk.injEq] at h
  exact ⟨i, hi, h.1, h.2.1, h.2.2⟩

def nmsOf : List Fm → List ByteArray
  | [] => []
  | .mk k n _ :: fs => if k = 1 then n :: nmsOf fs else nmsOf fs
theorem nmsOf_append : ∀ a b : List Fm, nmsOf (a ++ b) = nmsOf a ++ nmsOf b
  | [], b => rfl
  | .mk k n ks :: a, b => by
    rw [List.cons_append, nmsOf, nmsOf, nmsOf_append a b]
    split <;> rfl
theorem nmsOf_len : ∀ a : List Fm, (nmsOf a).length ≤ a.length
  | [] => Nat.le_refl _
  | .mk k n ks :: a => by
    have := nmsOf_len a
    rw [nmsOf]
    split <;> simp <;> omega

/-- The list of names that have come so far. -/
def InvN (cb : Nat) (done : List Fm) (ob : Option Nat) (w : World) : Prop := ∃ ad cp, w.heap[cb]? = some (.cells #[.slice ad (nmsOf done).length cp] 39 (0, 0)) ∧ ob = (Value.slice ad (nmsOf done).length cp).ownBlock ∧ w.ownsRow (cb + 1) 9 1 (.slice ad (nmsOf done).length cp) (nmsOf done).length ((nmsOf done).map Value.string)

set_option maxHeartbeats 2000000 in
theorem names1_no (cb : Nat) (k : Int) (hk : k ≠ 1) (n : ByteArray) (ks : List Fm) (v : Value) (w : World) (hrep : Rep w (fun _ => True) (.mk k n ks) v) :
    Calls Try.prog 53 #[v, .pointer (some ⟨cb, 0, none⟩)] w fun e w' => e = .returned (.tuple #[]) ∧ Below w.heap.size w w' := by
  obtain ⟨sl, cap, rfl⟩ := slice_shape hrep
  have hkJ : (k == 1) = false := by simpa using hk
  have B := (Below.refl w.heap.size w).alloc (Nat.le_refl _)
  clear hrep
  go_enter Try.func53, Try.ntmps53
  go_wp2_with fail
  go_end0
  exact ⟨rfl, B _⟩

theorem owns_set {w : World} {cb : Nat} {T : TypeId} {sz : Nat} {v : Value} {n : Nat} {xs : List Value} (h : w.ownsRow (cb + 1) T sz v n xs) (u : Value) : (w.setCell ⟨cb, 0, none⟩ u).ownsRow (cb + 1) T sz v n xs := by
  obtain ⟨h1, h2⟩ := h
  refine ⟨h1, ?_⟩
  rcases h2 with h2 | ⟨g, cap, cur, hv, hg, hh, r⟩
  · exact Or.inl h2
  · exact Or.inr ⟨g, cap, cur, hv, hg, (Below.heap_setCell _ _ _ _ (by simp; omega)).trans hh, r⟩
theorem kept_grown {ok : Nat → Prop} {w w' : World} {ob : Option Nat} (h : w.grownBy w' ob) (hi : ∀ k, ok k → ob ≠ some k) : Kept ok w w' :=
  ⟨h.os, h.tape, h.output, h.size, fun k hk ho => h.block k hk (fun e => hi k ho e.symm)⟩

set_option maxHeartbeats 4000000 in
theorem names1_yes (cb : Nat) (n : ByteArray) (hn : n.size ≤ 8) (ks : List Fm) (v : Value) (w : World) (hrep : Rep w (fun _ => True) (.mk 1 n ks) v) (L : Nat) (hL : L ≤ 200) (ad : Option Addr) (cp : Nat) (xs : List Value) (h1 : w.heap[cb]? = some (.cells #[.slice ad L cp] 39 (0, 0))) (h2 : w.ownsRow (cb + 1) 9 1 (.slice ad L cp) L xs) :
    Calls Try.prog 53 #[v, .pointer (some ⟨cb, 0, none⟩)] w fun e w' => e = .returned (.tuple #[]) ∧ ∃ g cp', w'.heap[cb]? = some (.cells #[.slice (some ⟨g, 0, none⟩) (L + 1) cp'] 39 (0, 0)) ∧ w'.ownsRow (cb + 1) 9 1 (.slice (some ⟨g, 0, none⟩) (L + 1) cp') (L + 1) (xs ++ [.string n]) ∧ Kept (fun b => b ≠ cb ∧ (Value.slice ad L cp).ownBlock ≠ some b) w w' ∧ ((Value.slice ad L cp).ownBlock = some g ∨ w.heap.size ≤ g) := by
  obtain ⟨sl, cap, rfl⟩ := slice_shape hrep
  clear hrep
  obtain ⟨i0, hi, hz0, hz1, hz2⟩ := infoText
  have hcl : ∀ w, Calls Try.prog 54 #[.string n] w fun e w' => e = .returned (.string n) ∧ Below w.heap.size w w' := fun w => clone_any n w (by omega)
  have HCl : Hid (∀ w, Calls Try.prog 54 #[.string n] w _) := hcl
  have HO : Hid (w.ownsRow (cb + 1) 9 1 (.slice ad L cp) L xs) := h2
  have zc := lt_of_block h1
  clear hcl h2
  go_enter Try.func53, Try.ntmps53
  go_wp2_with fail
  have p0 := blk_new w (.cells #[.int .i64 1, .string n, .slice sl ks.length cap] 24 (0, 0))
  have p1 := alloc_keep h1 (.cells #[.int .i64 1, .string n, .slice sl ks.length cap] 24 (0, 0))
  have HO0 : Hid ((w.alloc (.cells #[.int .i64 1, .string n, .slice sl ks.length cap] 24 (0, 0))).ownsRow (cb + 1) 9 1 (.slice ad L cp) L xs) := owns_up HO.out ((Below.refl _ w).alloc (Nat.le_refl _) _)
  have HK0 : Hid (Kept (fun b => b ≠ cb ∧ (Value.slice ad L cp).ownBlock ≠ some b) w (w.alloc (.cells #[.int .i64 1, .string n, .slice sl ks.length cap] 24 (0, 0)))) := (Kept.refl _ w).alloc _
  have hs0 : w.heap.size ≤ (w.alloc (.cells #[.int .i64 1, .string n, .slice sl ks.length cap] 24 (0, 0))).heap.size := by simp
  generalize w.alloc (.cells #[.int .i64 1, .string n, .slice sl ks.length cap] 24 (0, 0)) = w0 at *
  obtain ⟨a0, a1, a2, -⟩ := blk3 p0
  obtain ⟨c0, c1⟩ := blk1 p1
  have z0 := lt_of_block p0
  have z1 := lt_of_block p1
  go_region_law
    (first
     | (have hown := owns_up (owns_up HO0.out hb1') ((Below.refl _ w1).alloc (Nat.le_refl _) (.cells #[.string n] 9 (0, 0)))
        refine step_append_lies _ rfl _ _ 39 rfl (cb + 1) 9 i0 (.string ⟨#[]⟩) 1 16 Try.underlying39 hi hz0 hz1 hz2 rfl (by decide) _ _ _ rfl hown ⟨w1.heap.size, 0, none⟩ 1 1 [.string n] rfl rfl ?_ ?_ (by omega) (by unfold maxLen; omega) (by omega) (by simp; omega) _ rfl ?_
        · intro j u hu
          rw [add_none, Nat.zero_add, blk_cell (blk_new w1 _)]
          simpa using hu
        · intro u hu
          simp at hu
          rcases hu with rfl; rfl
        intro g3 cp3 w3 hown3 hgrow hat hlt3
        have hgrow' : (w1.alloc (.cells #[.string n] 9 (0, 0))).grownBy w3 (Value.slice ad L cp).ownBlock := hgrow
        have hat' : (Value.slice ad L cp).ownBlock = some g3 ∨ g3 = (w1.alloc (.cells #[.string n] 9 (0, 0))).heap.size := hat
        clear hgrow hat
        have HG3 : Hid ((w1.alloc (.cells #[.string n] 9 (0, 0))).grownBy w3 (Value.slice ad L cp).ownBlock) := hgrow'
        have HA3 : Hid ((Value.slice ad L cp).ownBlock = some g3 ∨ g3 = (w1.alloc (.cells #[.string n] 9 (0, 0))).heap.size) := hat'
        have HW3 : Hid (w3.ownsRow (cb + 1) 9 1 (.slice (some ⟨g3, 0, none⟩) (L + 1) cp3) (L + 1) (xs ++ [.string n])) := hown3
        have r3 := (hgrow'.block cb (by simp; omega) (fun e => by have := (hown.lt cb e.symm).1; omega)).trans (alloc_keep r2 _)
        clear hgrow' hat' hown3 hown
        clear c0 c1
        obtain ⟨c0, c1⟩ := blk1 r3
        have y5 := HG3.out.size)
     | (go_simp
        refine (HCl.out _).mono ?_
        rintro e w1 ⟨rfl, hb1⟩
        have hb1' : Below w0.heap.size w0 w1 := (Below.refl _ w0).drew.trans hb1
        clear hb1
        have r2 := below_keep hb1' p1
        clear c0 c1
        obtain ⟨c0, c1⟩ := blk1 r2
        have y4 : cb < w1.heap.size := lt_of_block r2
        have y6 := hb1'.size
        dsimp only)
     | fail)
  all_goals
    go_end0
    refine ⟨rfl, g3, cp3, set1 r3 _, owns_set HW3.out _, ?_, ?_⟩
    · exact ((((HK0.out.trans (kept_of_below hb1' fun _ h _ => h)).alloc _).trans (kept_grown HG3.out fun k h => h.2))).setCell (fun _ h => h.1 rfl) _
    · rcases HA3.out with h | h
      · exact Or.inl h
      · refine Or.inr ?_
        simp at h
        omega

theorem names1_in (cap : Array Value) (w : World) : (callFunc 53 cap).run Try.prog w = .ok (.enter 53 cap) w := by
  simp [go_sem]

theorem names_visit (B cb : Nat) (h : B ≤ cb) : Visit 53 #[.pointer (some ⟨cb, 0, none⟩)] B cb (InvN cb) where
  hB := h
  lt := fun hi => by
    obtain ⟨ad, cp, h1, h2, h3⟩ := hi
    refine ⟨lt_of_block h1, fun g e => ?_⟩
    rw [h2] at e
    have := h3.lt g e
    omega
  alloc := fun o hi => by
    obtain ⟨ad, cp, h1, h2, h3⟩ := hi
    exact ⟨ad, cp, alloc_keep h1 o, h2, owns_up h3 ((Below.refl _ _).alloc (Nat.le_refl _) _)⟩
  ent := fun v w => names1_in _ w
  call := fun done ob f v w hl hf hrep hi => by
    obtain ⟨ad, cp, h1, h2, h3⟩ := hi
    have hL := nmsOf_len done
    obtain ⟨k, n, ks⟩ := f
    by_cases hk : k = 1
    · subst hk
      refine (names1_yes cb n hf.small.1 ks v w hrep.all (nmsOf done).length (by omega) ad cp _ h1 h3).mono ?_
      rintro e w' ⟨rfl, g, cp', q1, q2, q3, q4⟩
      have e1 : nmsOf (done ++ [Fm.mk 1 n ks]) = nmsOf done ++ [n] := by rw [nmsOf_append]; rfl
      refine ⟨rfl, some g, ⟨some ⟨g, 0, none⟩, cp', ?_⟩, by rw [h2]; exact q3, ?_⟩
      · rw [e1, List.length_append, List.map_append]
        exact ⟨q1, rfl, q2⟩
      · rcases q4 with h | h
        · exact Or.inl (by rw [h2, h])
        · exact Or.inr ⟨g, rfl, h⟩
    · refine (names1_no cb k hk n ks v w hrep.all).mono ?_
      rintro e w' ⟨rfl, hb⟩
      have e1 : nmsOf (done ++ [Fm.mk k n ks]) = nmsOf done := by
        rw [nmsOf_append, nmsOf, if_neg hk, nmsOf, List.append_nil]
      refine ⟨rfl, ob, ⟨ad, cp, ?_⟩, kept_of_below hb (fun _ h _ => h), Or.inl rfl⟩
      rw [e1]
      exact ⟨below_keep hb h1, h2, owns_up h3 hb⟩
end Go.Proofs.Ytknngeojhiejnaa
