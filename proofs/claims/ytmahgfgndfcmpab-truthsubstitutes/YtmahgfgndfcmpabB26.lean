/- Texts of one proof, one behind the other: TS2. -/
import Derived.Test.YtmahgfgndfcmpabB24
import Derived.Test.YtmahgfgndfcmpabB22
import Derived.Test.YtmahgfgndfcmpabB25
import Derived.Test.YtmahgfgndfcmpabB16
import Derived.Test.YtmahgfgndfcmpabB10
import Derived.Test.YtmahgfgndfcmpabB09
import Derived.Test.YtmahgfgndfcmpabB23
import Derived.Deep.DeepCutAuto
/- Walks: TruthSubstitutes. -/
namespace Go.Proofs.Ytmahgfgndfcmpab
open Go.RowKit Go.Sort

theorem Fine.slimT {f : Fm} (h : Fine f) : Slim f := by
  induction h with
  | mk k n ks h hk ih => exact Slim.mk k n ks (by have := (Fine.mk k n ks h hk).small; omega) ih

/-- What lies in memory behind the two formulas that are made. -/
def Ps (w : World) (O0 O1 O2 : Obj) (kx : Int) (nx : ByteArray) (ksx : List Fm) (ky : Int) (ny : ByteArray) (ksy : List Fm) (b7 b8 : Nat) (sx : Option Addr) (cx : Nat) (sy : Option Addr) (cy : Nat) (wc : World) : Prop :=
  b7 ≠ b8 ∧ w.heap.size + 3 ≤ b7 ∧ w.heap.size + 3 ≤ b8 ∧ Below w.heap.size w wc ∧ wc.heap[w.heap.size]? = some O0 ∧ wc.heap[w.heap.size + 1]? = some O1 ∧ wc.heap[w.heap.size + 1 + 1]? = some O2 ∧ wc.heap[b7]? = some (.cells #[.int .i64 kx, .string nx, .slice sx ksx.length cx] 37 (0, 0)) ∧ wc.heap[b8]? = some (.cells #[.int .i64 ky, .string ny, .slice sy ksy.length cy] 37 (0, 0)) ∧ Rep wc (fun _ => True) (.mk kx nx ksx) (.agg #[.int .i64 kx, .string nx, .slice sx ksx.length cx]) ∧ Rep wc (fun _ => True) (.mk ky ny ksy) (.agg #[.int .i64 ky, .string ny, .slice sy ksy.length cy])

section
variable {w w6 : World} {O0 O1 O2 : Obj} {kx ky : Int} {nx ny : ByteArray} {ksx ksy : List Fm} {b7 b8 : Nat} {sx sy : Option Addr} {cx cy : Nat}

theorem ps_mk {wF : World} (hne : b7 ≠ b8) (h7 : w.heap.size + 3 ≤ b7) (h8 : w.heap.size + 3 ≤ b8) (hz : w.heap.size + 3 ≤ w6.heap.size) (p0 : w6.heap[w.heap.size]? = some O0) (p1 : w6.heap[w.heap.size + 1]? = some O1) (p2 : w6.heap[w.heap.size + 1 + 1]? = some O2)
    (X : Rep w6 (fun b => b ≠ b7 ∧ b ≠ b8) (.mk kx nx ksx) (.agg #[.int .i64 kx, .string nx, .slice sx ksx.length cx])) (Y : Rep w6 (fun b => b ≠ b7 ∧ b ≠ b8) (.mk ky ny ksy) (.agg #[.int .i64 ky, .string ny, .slice sy ksy.length cy]))
    (hF : Below w.heap.size w wF) (hk : ∀ b, b < w6.heap.size → b ≠ b7 → b ≠ b8 → wF.heap[b]? = w6.heap[b]?) (c7 : wF.heap[b7]? = some (.cells #[.int .i64 kx, .string nx, .slice sx ksx.length cx] 37 (0, 0))) (c8 : wF.heap[b8]? = some (.cells #[.int .i64 ky, .string ny, .slice sy ksy.length cy] 37 (0, 0))) :
    Ps w O0 O1 O2 kx nx ksx ky ny ksy b7 b8 sx cx sy cy wF :=
  ⟨hne, h7, h8, hF, (hk _ (by omega) (by omega) (by omega)).trans p0, (hk _ (by omega) (by omega) (by omega)).trans p1, (hk _ (by omega) (by omega) (by omega)).trans p2, c7, c8, X.move fun b hb hx => ⟨hk b hb hx.1 hx.2, trivial⟩, Y.move fun b hb hx => ⟨hk b hb hx.1 hx.2, trivial⟩⟩

variable (hz : w.heap.size + 3 ≤ w6.heap.size) (B : Below w.heap.size w w6) (p0 : w6.heap[w.heap.size]? = some O0) (p1 : w6.heap[w.heap.size + 1]? = some O1) (p2 : w6.heap[w.heap.size + 1 + 1]? = some O2)
include hz B p0 p1 p2

theorem ps_nn1 (X : Rep w6 (fun b => b ≠ w6.heap.size ∧ b ≠ w6.heap.size + 1) (.mk kx nx ksx) (.agg #[.int .i64 kx, .string nx, .slice sx ksx.length cx])) (Y : Rep w6 (fun b => b ≠ w6.heap.size ∧ b ≠ w6.heap.size + 1) (.mk ky ny ksy) (.agg #[.int .i64 ky, .string ny, .slice sy ksy.length cy])) :
    Ps w O0 O1 O2 kx nx ksx ky ny ksy w6.heap.size (w6.heap.size + 1) sx cx sy cy ((w6.alloc (.cells #[.int .i64 kx, .string nx, .slice sx ksx.length cx] 37 (0, 0))).alloc (.cells #[.int .i64 ky, .string ny, .slice sy ksy.length cy] 37 (0, 0))) :=
  ps_mk (by omega) hz (by omega) hz p0 p1 p2 X Y (below_more (below_more B _) _) (fun b hb _ _ => by rw [Below.heap_alloc _ _ _ (by simp; omega), Below.heap_alloc _ _ _ hb]) (alloc_keep (blk_new _ _) _) (blk_new2 _ _ _)
theorem ps_nn2 (X : Rep w6 (fun b => b ≠ w6.heap.size + 1 ∧ b ≠ w6.heap.size) (.mk kx nx ksx) (.agg #[.int .i64 kx, .string nx, .slice sx ksx.length cx])) (Y : Rep w6 (fun b => b ≠ w6.heap.size + 1 ∧ b ≠ w6.heap.size) (.mk ky ny ksy) (.agg #[.int .i64 ky, .string ny, .slice sy ksy.length cy])) :
    Ps w O0 O1 O2 kx nx ksx ky ny ksy (w6.heap.size + 1) w6.heap.size sx cx sy cy ((w6.alloc (.cells #[.int .i64 ky, .string ny, .slice sy ksy.length cy] 37 (0, 0))).alloc (.cells #[.int .i64 kx, .string nx, .slice sx ksx.length cx] 37 (0, 0))) :=
  ps_mk (by omega) (by omega) hz hz p0 p1 p2 X Y (below_more (below_more B _) _) (fun b hb _ _ => by rw [Below.heap_alloc _ _ _ (by simp; omega), Below.heap_alloc _ _ _ hb]) (blk_new2 _ _ _) (alloc_keep (blk_new _ _) _)
theorem ps_on (h7 : w.heap.size + 3 ≤ b7) (n7 : w6.heap[b7]? = some (.cells #[.int .i64 0, .string ⟨#[]⟩, .slice none 0 0] 37 (0, 0))) (X : Rep w6 (fun b => b ≠ b7 ∧ b ≠ w6.heap.size) (.mk kx nx ksx) (.agg #[.int .i64 kx, .string nx, .slice sx ksx.length cx])) (Y : Rep w6 (fun b => b ≠ b7 ∧ b ≠ w6.heap.size) (.mk ky ny ksy) (.agg #[.int .i64 ky, .string ny, .slice sy ksy.length cy])) :
    Ps w O0 O1 O2 kx nx ksx ky ny ksy b7 w6.heap.size sx cx sy cy ((((w6.setCell ⟨b7, 0, none⟩ (.int .i64 kx)).setCell ⟨b7, 1, none⟩ (.string nx)).setCell ⟨b7, 2, none⟩ (.slice sx ksx.length cx)).alloc (.cells #[.int .i64 ky, .string ny, .slice sy ksy.length cy] 37 (0, 0))) := by
  have z := lt_of_block n7; (refine ps_mk (by omega) h7 (by omega) hz p0 p1 p2 X Y (below_more (set3_below (by omega) B _ _ _) _) (fun b hb h1 h2 => by rw [Below.heap_alloc _ _ _ (by rw [set3_size]; exact hb), set3_far h1]) (alloc_keep (set3 n7 _ _ _) _) ?_); have := blk_new (((w6.setCell ⟨b7, 0, none⟩ (.int .i64 kx)).setCell ⟨b7, 1, none⟩ (.string nx)).setCell ⟨b7, 2, none⟩ (.slice sx ksx.length cx)) (.cells #[.int .i64 ky, .string ny, .slice sy ksy.length cy] 37 (0, 0))
  rwa [set3_size] at this
theorem ps_no (h8 : w.heap.size + 3 ≤ b8) (n8 : w6.heap[b8]? = some (.cells #[.int .i64 0, .string ⟨#[]⟩, .slice none 0 0] 37 (0, 0))) (X : Rep w6 (fun b => b ≠ w6.heap.size ∧ b ≠ b8) (.mk kx nx ksx) (.agg #[.int .i64 kx, .string nx, .slice sx ksx.length cx])) (Y : Rep w6 (fun b => b ≠ w6.heap.size ∧ b ≠ b8) (.mk ky ny ksy) (.agg #[.int .i64 ky, .string ny, .slice sy ksy.length cy])) :
    Ps w O0 O1 O2 kx nx ksx ky ny ksy w6.heap.size b8 sx cx sy cy ((((w6.setCell ⟨b8, 0, none⟩ (.int .i64 ky)).setCell ⟨b8, 1, none⟩ (.string ny)).setCell ⟨b8, 2, none⟩ (.slice sy ksy.length cy)).alloc (.cells #[.int .i64 kx, .string nx, .slice sx ksx.length cx] 37 (0, 0))) := by
  have z := lt_of_block n8; (refine ps_mk (by omega) (by omega) h8 hz p0 p1 p2 X Y (below_more (set3_below (by omega) B _ _ _) _) (fun b hb h1 h2 => by rw [Below.heap_alloc _ _ _ (by rw [set3_size]; exact hb), set3_far h2]) ?_ (alloc_keep (set3 n8 _ _ _) _)); have := blk_new (((w6.setCell ⟨b8, 0, none⟩ (.int .i64 ky)).setCell ⟨b8, 1, none⟩ (.string ny)).setCell ⟨b8, 2, none⟩ (.slice sy ksy.length cy)) (.cells #[.int .i64 kx, .string nx, .slice sx ksx.length cx] 37 (0, 0))
  rwa [set3_size] at this
theorem ps_oo (hne : b7 ≠ b8) (h7 : w.heap.size + 3 ≤ b7) (n7 : w6.heap[b7]? = some (.cells #[.int .i64 0, .string ⟨#[]⟩, .slice none 0 0] 37 (0, 0))) (h8 : w.heap.size + 3 ≤ b8) (n8 : w6.heap[b8]? = some (.cells #[.int .i64 0, .string ⟨#[]⟩, .slice none 0 0] 37 (0, 0))) (X : Rep w6 (fun b => b ≠ b7 ∧ b ≠ b8) (.mk kx nx ksx) (.agg #[.int .i64 kx, .string nx, .slice sx ksx.length cx])) (Y : Rep w6 (fun b => b ≠ b7 ∧ b ≠ b8) (.mk ky ny ksy) (.agg #[.int .i64 ky, .string ny, .slice sy ksy.length cy])) :
    Ps w O0 O1 O2 kx nx ksx ky ny ksy b7 b8 sx cx sy cy ((((((w6.setCell ⟨b7, 0, none⟩ (.int .i64 kx)).setCell ⟨b7, 1, none⟩ (.string nx)).setCell ⟨b7, 2, none⟩ (.slice sx ksx.length cx)).setCell ⟨b8, 0, none⟩ (.int .i64 ky)).setCell ⟨b8, 1, none⟩ (.string ny)).setCell ⟨b8, 2, none⟩ (.slice sy ksy.length cy)) := by
  (refine ps_mk hne h7 h8 hz p0 p1 p2 X Y (set3_below (by omega) (set3_below (by omega) B _ _ _) _ _ _) (fun b hb h1 h2 => by rw [set3_far h2, set3_far h1]) ?_ ?_)
  · rw [set3_far hne]; exact set3 n7 _ _ _
  · refine set3 (x0 := .int .i64 0) (x1 := .string ⟨#[]⟩) (x2 := .slice none 0 0) ?_ _ _ _
    rw [set3_far (Ne.symm hne)]; exact n8
end

/-- Three formulas in a list. -/
theorem FL.triple {w : World} {b : Nat} {f g h : Fm} {c0 c1 c2 c3 c4 c5 c6 c7 c8 : Value} {T : TypeId} (hb : w.heap[b]? = some (.cells #[c0, c1, c2, c3, c4, c5, c6, c7, c8] T (0, 0))) (h1 : Rep w (fun _ => True) f (.agg #[c0, c1, c2])) (h2 : Rep w (fun _ => True) g (.agg #[c3, c4, c5])) (h3 : Rep w (fun _ => True) h (.agg #[c6, c7, c8])) : FL w (.slice (some ⟨b, 0, none⟩) 3 3) [f, g, h] :=
  ⟨some ⟨b, 0, none⟩, 3, rfl, by simp, by simp [maxLen], fun _ => ⟨b, 0, rfl, Reps.cons.2 ⟨⟨c0, c1, c2, blk_cell hb 0, blk_cell hb 1, blk_cell hb 2, h1⟩, Reps.cons.2 ⟨⟨c3, c4, c5, blk_cell hb 3, blk_cell hb 4, blk_cell hb 5, h2⟩, Reps.cons.2 ⟨⟨c6, c7, c8, blk_cell hb 6, blk_cell hb 7, blk_cell hb 8, h3⟩, Reps.nil⟩⟩⟩⟩⟩

theorem pfirst_three {f a b : Fm} (h : (pfirst [f, a, b]).1 = 0) : f.pcode.1 = 0 ∧ a.pcode.1 = 0 ∧ b.pcode.1 = 0 ∧ pfirst [f, a, b] = (0, 0) := by
  rw [pfirst] at h ⊢; by_cases h1 : f.pcode.1 = 0
  · rw [if_pos h1, pfirst] at h ⊢
    by_cases h2 : a.pcode.1 = 0
    · rw [if_pos h2, pfirst] at h ⊢
      by_cases h3 : b.pcode.1 = 0
      · rw [if_pos h3, pfirst]
        exact ⟨h1, h2, h3, rfl⟩
      · rw [if_neg h3] at h
        exact absurd h h3
    · rw [if_neg h2] at h
      exact absurd h h2
  · rw [if_neg h1] at h
    exact absurd h h1
theorem fine_pc {f : Fm} (h : f.pcode.1 = 0) : Fine f := by
  obtain ⟨⟨s, hs⟩, -⟩ := pcode_ok h; exact fine_of_chk f 0 s hs

set_option maxHeartbeats 4000000 in
theorem subst_bad (f a b : Fm) (nm : ByteArray) (v u t : Value) (w : World) (hrep : Rep w (fun _ => True) f v) (hu : Rep w (fun _ => True) a u) (ht : Rep w (fun _ => True) b t) (hp : (pfirst [f, a, b]).1 ≠ 0) :
    Calls Try.prog 5 #[v, u, t, .string nm] w fun e w' => e = .returned (.bool true) ∧ Below w.heap.size w w' := by
  (have hva := fun v w h => vast2_any f v w h); (have hvb := fun v w h => vast2_any a v w h); (have hvc := fun v w h => vast2_any b v w h); (have hpf := fun v (w : World) h => plainR_any [f, a, b] (by simp) v w h); (have hne' : ((pfirst [f, a, b]).1 != 0) = true := by simpa using hp); generalize pfirst [f, a, b] = pc at hpf hne'; obtain ⟨c, at'⟩ := pc; (have hfc := fun a b w => fault_code a b w); clear hp; obtain ⟨k, n, ks⟩ := f; obtain ⟨ka, na, ksa⟩ := a; obtain ⟨kb, nb, ksb⟩ := b; obtain ⟨sl, cap, rfl⟩ := slice_shape hrep; obtain ⟨sla, capa, rfl⟩ := slice_shape hu; obtain ⟨slb, capb, rfl⟩ := slice_shape ht; (have HV1 : Hid (∀ v w, Rep w (fun _ => True) (.mk k n ks) v → Calls Try.prog 13 _ w _) := hva); (have HV2 : Hid (∀ v w, Rep w (fun _ => True) (.mk ka na ksa) v → Calls Try.prog 13 _ w _) := hvb); (have HV3 : Hid (∀ v w, Rep w (fun _ => True) (.mk kb nb ksb) v → Calls Try.prog 13 _ w _) := hvc); have HPF : Hid (∀ v w, FL w v [.mk k n ks, .mk ka na ksa, .mk kb nb ksb] → Calls Try.prog 15 _ w _) := hpf; (have HB : Hid (∀ w, Calls Try.prog 10 #[] w _) := fun w => truthBegun_any w); have R0 : Hid (Rep _ _ _ _) := hrep; have R1 : Hid (Rep _ _ _ _) := hu; have R2 : Hid (Rep _ _ _ _) := ht; clear hva hvb hvc hpf hrep hu ht
  go_enter Try.func5, Try.ntmps5
  go_wp2_with fail; refine (HB.out _).mono ?_; rintro e w1 ⟨rfl, hb1⟩; have q0 : Hid (w1.heap[w.heap.size]? = some (.cells #[.int .i64 k, .string n, .slice sl ks.length cap] 37 (0, 0))) := below_keep hb1 (alloc_keep (alloc_keep (blk_new w _) _) _); have q1 : Hid (w1.heap[w.heap.size + 1]? = some (.cells #[.int .i64 ka, .string na, .slice sla ksa.length capa] 37 (0, 0))) := below_keep hb1 (alloc_keep (blk_new2 w _ _) _)
  have q2 : Hid (w1.heap[w.heap.size + 1 + 1]? = some (.cells #[.int .i64 kb, .string nb, .slice slb ksb.length capb] 37 (0, 0))) := below_keep hb1 (by
    have := blk_new2 (w.alloc (.cells #[.int .i64 k, .string n, .slice sl ks.length cap] 37 (0, 0))) (.cells #[.int .i64 ka, .string na, .slice sla ksa.length capa] 37 (0, 0)) (.cells #[.int .i64 kb, .string nb, .slice slb ksb.length capb] 37 (0, 0))
    rwa [show (w.alloc (.cells #[.int .i64 k, .string n, .slice sl ks.length cap] 37 (0, 0))).heap.size = w.heap.size + 1 by simp] at this)
  have B1 := below_join (below_more (below_more (below_more (Below.refl _ w) _) _) _) hb1; obtain ⟨a0, a1, a2, -⟩ := blk3 q0.out; go_wp2_with fail; refine (HV1.out _ _ (R0.out.up B1)).mono ?_; rintro e w2 ⟨⟨b1, rfl, -⟩, hb2⟩; have B2 := below_join B1 hb2; have q0' : Hid _ := below_keep hb2 q0.out; clear q0; have q0 : Hid _ := q0'.out; clear q0'; have q1' : Hid _ := below_keep hb2 q1.out; clear q1; have q1 : Hid _ := q1'.out; clear q1'; have q2' : Hid _ := below_keep hb2 q2.out; clear q2; have q2 : Hid _ := q2'.out; clear q2'; clear a0 a1 a2; obtain ⟨a0, a1, a2, -⟩ := blk3 q1.out
  cases b1
  case true =>
    go_wp2_with fail; go_ret; exact ⟨rfl, B2⟩
  case false =>
  clear hb2; go_wp2_with fail; refine (HV2.out _ _ (R1.out.up B2)).mono ?_; rintro e w3 ⟨⟨b1, rfl, -⟩, hb2⟩; have B3 := below_join B2 hb2; have q0' : Hid _ := below_keep hb2 q0.out; clear q0; have q0 : Hid _ := q0'.out; clear q0'; have q1' : Hid _ := below_keep hb2 q1.out; clear q1; have q1 : Hid _ := q1'.out; clear q1'; have q2' : Hid _ := below_keep hb2 q2.out; clear q2; have q2 : Hid _ := q2'.out; clear q2'; clear a0 a1 a2; obtain ⟨a0, a1, a2, -⟩ := blk3 q2.out
  cases b1
  case true =>
    go_wp2_with fail; go_ret; exact ⟨rfl, B3⟩
  case false =>
  clear hb2; go_wp2_with fail; refine (HV3.out _ _ (R2.out.up B3)).mono ?_; rintro e w4 ⟨⟨b1, rfl, -⟩, hb2⟩; have B4 := below_join B3 hb2; have q0' : Hid _ := below_keep hb2 q0.out; clear q0; have q0 : Hid _ := q0'.out; clear q0'; have q1' : Hid _ := below_keep hb2 q1.out; clear q1; have q1 : Hid _ := q1'.out; clear q1'; have q2' : Hid _ := below_keep hb2 q2.out; clear q2; have q2 : Hid _ := q2'.out; clear q2'; clear a0 a1 a2; obtain ⟨a0, a1, a2, -⟩ := blk3 q0.out; obtain ⟨d0, d1, d2, -⟩ := blk3 q1.out; obtain ⟨f0, f1, f2, -⟩ := blk3 q2.out
  cases b1
  case true =>
    go_wp2_with fail; go_ret; exact ⟨rfl, B4⟩
  case false =>
  clear hb2; go_wp2_with fail; refine (HPF.out _ _ (FL.triple (blk_new w4 _) ((R0.out.up B4).more _) ((R1.out.up B4).more _) ((R2.out.up B4).more _))).mono ?_; rintro e w5 ⟨rfl, hb5⟩; have B5 := below_join (below_more B4 _) hb5; go_wp2_with fail; go_ret; exact ⟨rfl, B5⟩

set_option maxHeartbeats 4000000 in
theorem subst_noname (f a b : Fm) (nm : ByteArray) (v u t : Value) (w : World) (hrep : Rep w (fun _ => True) f v) (hu : Rep w (fun _ => True) a u) (ht : Rep w (fun _ => True) b t) (hnm : nm.size ≤ maxLen) (hp : pfirst [f, a, b] = (0, 0)) (hn : isNm nm.data.toList = false) :
    Calls Try.prog 5 #[v, u, t, .string nm] w fun e w' => e = .returned (.bool true) ∧ Below w.heap.size w w' := by
  (have hva := fun v w h => vast2_any f v w h); (have hvb := fun v w h => vast2_any a v w h); (have hvc := fun v w h => vast2_any b v w h); (have hpf := fun v (w : World) h => plainR_any [f, a, b] (by simp) v w h); rw [hp] at hpf; (have hfc := fun a b w => fault_code a b w); (have hnc := fun w => refName_any nm hnm w); rw [hn] at hnc; have HN : Hid (∀ w, Calls Try.prog 17 #[.string nm] w _) := hnc; clear hp hn hnc hnm; obtain ⟨k, n, ks⟩ := f; obtain ⟨ka, na, ksa⟩ := a; obtain ⟨kb, nb, ksb⟩ := b; obtain ⟨sl, cap, rfl⟩ := slice_shape hrep; obtain ⟨sla, capa, rfl⟩ := slice_shape hu; obtain ⟨slb, capb, rfl⟩ := slice_shape ht; (have HV1 : Hid (∀ v w, Rep w (fun _ => True) (.mk k n ks) v → Calls Try.prog 13 _ w _) := hva); (have HV2 : Hid (∀ v w, Rep w (fun _ => True) (.mk ka na ksa) v → Calls Try.prog 13 _ w _) := hvb); (have HV3 : Hid (∀ v w, Rep w (fun _ => True) (.mk kb nb ksb) v → Calls Try.prog 13 _ w _) := hvc); have HPF : Hid (∀ v w, FL w v [.mk k n ks, .mk ka na ksa, .mk kb nb ksb] → Calls Try.prog 15 _ w _) := hpf; (have HB : Hid (∀ w, Calls Try.prog 10 #[] w _) := fun w => truthBegun_any w); have R0 : Hid (Rep _ _ _ _) := hrep; have R1 : Hid (Rep _ _ _ _) := hu; have R2 : Hid (Rep _ _ _ _) := ht; clear hva hvb hvc hpf hrep hu ht
  go_enter Try.func5, Try.ntmps5
  go_wp2_with fail; refine (HB.out _).mono ?_; rintro e w1 ⟨rfl, hb1⟩; have q0 : Hid (w1.heap[w.heap.size]? = some (.cells #[.int .i64 k, .string n, .slice sl ks.length cap] 37 (0, 0))) := below_keep hb1 (alloc_keep (alloc_keep (blk_new w _) _) _); have q1 : Hid (w1.heap[w.heap.size + 1]? = some (.cells #[.int .i64 ka, .string na, .slice sla ksa.length capa] 37 (0, 0))) := below_keep hb1 (alloc_keep (blk_new2 w _ _) _)
  have q2 : Hid (w1.heap[w.heap.size + 1 + 1]? = some (.cells #[.int .i64 kb, .string nb, .slice slb ksb.length capb] 37 (0, 0))) := below_keep hb1 (by
    have := blk_new2 (w.alloc (.cells #[.int .i64 k, .string n, .slice sl ks.length cap] 37 (0, 0))) (.cells #[.int .i64 ka, .string na, .slice sla ksa.length capa] 37 (0, 0)) (.cells #[.int .i64 kb, .string nb, .slice slb ksb.length capb] 37 (0, 0))
    rwa [show (w.alloc (.cells #[.int .i64 k, .string n, .slice sl ks.length cap] 37 (0, 0))).heap.size = w.heap.size + 1 by simp] at this)
  have B1 := below_join (below_more (below_more (below_more (Below.refl _ w) _) _) _) hb1; obtain ⟨a0, a1, a2, -⟩ := blk3 q0.out; go_wp2_with fail; refine (HV1.out _ _ (R0.out.up B1)).mono ?_; rintro e w2 ⟨⟨b1, rfl, -⟩, hb2⟩; have B2 := below_join B1 hb2; have q0' : Hid _ := below_keep hb2 q0.out; clear q0; have q0 : Hid _ := q0'.out; clear q0'; have q1' : Hid _ := below_keep hb2 q1.out; clear q1; have q1 : Hid _ := q1'.out; clear q1'; have q2' : Hid _ := below_keep hb2 q2.out; clear q2; have q2 : Hid _ := q2'.out; clear q2'; clear a0 a1 a2; obtain ⟨a0, a1, a2, -⟩ := blk3 q1.out
  cases b1
  case true =>
    go_wp2_with fail; go_ret; exact ⟨rfl, B2⟩
  case false =>
  clear hb2; go_wp2_with fail; refine (HV2.out _ _ (R1.out.up B2)).mono ?_; rintro e w3 ⟨⟨b1, rfl, -⟩, hb2⟩; have B3 := below_join B2 hb2; have q0' : Hid _ := below_keep hb2 q0.out; clear q0; have q0 : Hid _ := q0'.out; clear q0'; have q1' : Hid _ := below_keep hb2 q1.out; clear q1; have q1 : Hid _ := q1'.out; clear q1'; have q2' : Hid _ := below_keep hb2 q2.out; clear q2; have q2 : Hid _ := q2'.out; clear q2'; clear a0 a1 a2; obtain ⟨a0, a1, a2, -⟩ := blk3 q2.out
  cases b1
  case true =>
    go_wp2_with fail; go_ret; exact ⟨rfl, B3⟩
  case false =>
  clear hb2; go_wp2_with fail; refine (HV3.out _ _ (R2.out.up B3)).mono ?_; rintro e w4 ⟨⟨b1, rfl, -⟩, hb2⟩; have B4 := below_join B3 hb2; have q0' : Hid _ := below_keep hb2 q0.out; clear q0; have q0 : Hid _ := q0'.out; clear q0'; have q1' : Hid _ := below_keep hb2 q1.out; clear q1; have q1 : Hid _ := q1'.out; clear q1'; have q2' : Hid _ := below_keep hb2 q2.out; clear q2; have q2 : Hid _ := q2'.out; clear q2'; clear a0 a1 a2; obtain ⟨a0, a1, a2, -⟩ := blk3 q0.out; obtain ⟨d0, d1, d2, -⟩ := blk3 q1.out; obtain ⟨f0, f1, f2, -⟩ := blk3 q2.out
  cases b1
  case true =>
    go_wp2_with fail; go_ret; exact ⟨rfl, B4⟩
  case false =>
  clear hb2; go_wp2_with fail; refine (HPF.out _ _ (FL.triple (blk_new w4 _) ((R0.out.up B4).more _) ((R1.out.up B4).more _) ((R2.out.up B4).more _))).mono ?_; rintro e w5 ⟨rfl, hb5⟩; have B5 := below_join (below_more B4 _) hb5; go_wp2_with fail; refine (HN.out _).mono ?_; rintro e w6 ⟨rfl, rfl⟩; go_wp2_with fail; go_ret; exact ⟨rfl, B5⟩

set_option maxRecDepth 30000 in
set_option maxHeartbeats 16000000 in
theorem subst_fine (f a b : Fm) (nm : ByteArray) (v u t : Value) (w : World) (hrep : Rep w (fun _ => True) f v) (hu : Rep w (fun _ => True) a u) (ht : Rep w (fun _ => True) b t) (hnm : nm.size ≤ maxLen) (hp : (pfirst [f, a, b]).1 = 0) (hn : isNm nm.data.toList = true) :
    Calls Try.prog 5 #[v, u, t, .string nm] w fun e w' => e = .returned (.bool true) ∧ Below w.heap.size w w' := by
  (have hva := fun v w h => vast2_any f v w h); (have hvb := fun v w h => vast2_any a v w h); (have hvc := fun v w h => vast2_any b v w h); (have hpf := fun v (w : World) h => plainR_any [f, a, b] (by simp) v w h); obtain ⟨hp1, hp2, hp3, hp0⟩ := pfirst_three hp; rw [hp0] at hpf; (have hfc := fun a b w => fault_code a b w); (have hnc := fun w => refName_any nm hnm w); rw [hn] at hnc; have HN : Hid (∀ w, Calls Try.prog 17 #[.string nm] w _) := hnc; have hfF := fine_pc hp1; have hfA := fine_pc hp2; have hfB := fine_pc hp3; (have hSV := fun h1 h2 => subst_valid (f := f) (a := a) nm hfF h1 h2); (have hSA := fun h1 h2 => subst_alike (f := f) (a := a) (b := b) nm hfF hfA hfB h1 h2); (have hwx := fun v u (wx : World) h0 h1 h2 => withs_all nm a w.heap.size (f.size + 1) f v u wx (Nat.lt_succ_self _) hfF.slimT h0 h1 h2); (have hwy := fun v u (wx : World) h0 h1 h2 => withs_all nm b w.heap.size (f.size + 1) f v u wx (Nat.lt_succ_self _) hfF.slimT h0 h1 h2); (have hval := fun v w h => valid_any f v w h); (have hvab := fun v w h => valid_any (a.iff b) v w h); (have hb1x := fun v u w h1 h2 => both_any 7 a b v u w h1 h2); (have hb2x := fun v u w h1 h2 => both_any 7 b a v u w h1 h2); (have hb3x := fun v u w h1 h2 => both_any 5 (.mk 7 ⟨#[]⟩ [a, b]) (.mk 7 ⟨#[]⟩ [b, a]) v u w h1 h2); (have R1L : Hid (Rep w (· < w.heap.size) a u) := hu.move fun b hb _ => ⟨rfl, hb⟩); (have R2L : Hid (Rep w (· < w.heap.size) b t) := ht.move fun b hb _ => ⟨rfl, hb⟩); obtain ⟨X, hX⟩ : ∃ X, putF nm a f = X := ⟨_, rfl⟩; obtain ⟨Y, hY⟩ : ∃ Y, putF nm b f = Y := ⟨_, rfl⟩; rw [hX] at hSV hSA hwx; rw [hY] at hSA hwy; (have hvx := fun v w h => valid_any X v w h); (have hvxy := fun v w h => valid_any (X.iff Y) v w h); (have hwkx := fun v w h => walk_any X v 80 w (by omega) h); (have hwky := fun v w h => walk_any Y v 80 w (by omega) h); (have hb4x := fun v u w h1 h2 => both_any 7 X Y v u w h1 h2); (have hb5x := fun v u w h1 h2 => both_any 7 Y X v u w h1 h2); (have hb6x := fun v u w h1 h2 => both_any 5 (.mk 7 ⟨#[]⟩ [X, Y]) (.mk 7 ⟨#[]⟩ [Y, X]) v u w h1 h2); clear hX hY hp hp0 hp1 hp2 hp3 hn hnc hnm hfF hfA hfB; have HSV : Hid (X.ncode.1 = 0 → f.isV = true → X.isV = true) := hSV; have HSA : Hid ((X.iff Y).ncode.1 = 0 → (a.iff b).isV = true → (X.iff Y).isV = true) := hSA; (have HVF : Hid (∀ v w, Rep w (fun _ => True) f v → Calls Try.prog 24 #[v] w _) := hval); (have HVX : Hid (∀ v w, Rep w (fun _ => True) X v → Calls Try.prog 24 #[v] w _) := hvx); (have HVAB : Hid (∀ v w, Rep w (fun _ => True) (a.iff b) v → Calls Try.prog 24 #[v] w _) := hvab); (have HVXY : Hid (∀ v w, Rep w (fun _ => True) (X.iff Y) v → Calls Try.prog 24 #[v] w _) := hvxy); (have HWX : Hid (∀ v u (wx : World), w.heap.size ≤ wx.heap.size → Rep wx (fun _ => True) f v → Rep wx (· < w.heap.size) a u → Calls Try.prog 22 #[v, .string nm, u] wx _) := hwx); (have HWY : Hid (∀ v u (wx : World), w.heap.size ≤ wx.heap.size → Rep wx (fun _ => True) f v → Rep wx (· < w.heap.size) b u → Calls Try.prog 22 #[v, .string nm, u] wx _) := hwy); (have HKX : Hid (∀ v w, Rep w (fun _ => True) X v → Calls Try.prog 23 #[v, .int .i64 80] w _) := hwkx); (have HKY : Hid (∀ v w, Rep w (fun _ => True) Y v → Calls Try.prog 23 #[v, .int .i64 80] w _) := hwky); (have HB1 : Hid (∀ v u w, Rep w (fun _ => True) a v → Rep w (fun _ => True) b u → Calls Try.prog 25 #[.int .i64 7, v, u] w _) := hb1x); (have HB2 : Hid (∀ v u w, Rep w (fun _ => True) b v → Rep w (fun _ => True) a u → Calls Try.prog 25 #[.int .i64 7, v, u] w _) := hb2x); (have HB3 : Hid (∀ v u w, Rep w (fun _ => True) (.mk 7 ⟨#[]⟩ [a, b]) v → Rep w (fun _ => True) (.mk 7 ⟨#[]⟩ [b, a]) u → Calls Try.prog 25 #[.int .i64 5, v, u] w fun e w' => ∃ x, e = .returned x ∧ Rep w' (fun _ => True) (a.iff b) x ∧ Below w.heap.size w w') := hb3x); (have HB4 : Hid (∀ v u w, Rep w (fun _ => True) X v → Rep w (fun _ => True) Y u → Calls Try.prog 25 #[.int .i64 7, v, u] w _) := hb4x); (have HB5 : Hid (∀ v u w, Rep w (fun _ => True) Y v → Rep w (fun _ => True) X u → Calls Try.prog 25 #[.int .i64 7, v, u] w _) := hb5x); (have HB6 : Hid (∀ v u w, Rep w (fun _ => True) (.mk 7 ⟨#[]⟩ [X, Y]) v → Rep w (fun _ => True) (.mk 7 ⟨#[]⟩ [Y, X]) u → Calls Try.prog 25 #[.int .i64 5, v, u] w fun e w' => ∃ x, e = .returned x ∧ Rep w' (fun _ => True) (X.iff Y) x ∧ Below w.heap.size w w') := hb6x)
  clear hSV hSA hval hvx hvab hvxy hwx hwy hwkx hwky hb1x hb2x hb3x hb4x hb5x hb6x; generalize walkL X 80 = lx at *; generalize walkL Y 80 = ly at *; generalize f.isV = bf at *; generalize X.isV = bx at *; generalize (a.iff b).isV = bab at *; generalize (X.iff Y).isV = bxy at *; generalize f.ncode = cf at *; generalize X.ncode = cX at *; generalize (a.iff b).ncode = cab at *; generalize (X.iff Y).ncode = cxy at *; obtain ⟨cf1, cf2⟩ := cf; obtain ⟨cX1, cX2⟩ := cX; obtain ⟨cab1, cab2⟩ := cab; obtain ⟨cxy1, cxy2⟩ := cxy; generalize a.iff b = ab at *; generalize X.iff Y = xy at *; obtain ⟨kx, nx, ksx⟩ := X; obtain ⟨ky, ny, ksy⟩ := Y; obtain ⟨k, n, ks⟩ := f; obtain ⟨ka, na, ksa⟩ := a; obtain ⟨kb, nb, ksb⟩ := b; obtain ⟨sl, cap, rfl⟩ := slice_shape hrep; obtain ⟨sla, capa, rfl⟩ := slice_shape hu; obtain ⟨slb, capb, rfl⟩ := slice_shape ht; (have HV1 : Hid (∀ v w, Rep w (fun _ => True) (.mk k n ks) v → Calls Try.prog 13 _ w _) := hva); (have HV2 : Hid (∀ v w, Rep w (fun _ => True) (.mk ka na ksa) v → Calls Try.prog 13 _ w _) := hvb); (have HV3 : Hid (∀ v w, Rep w (fun _ => True) (.mk kb nb ksb) v → Calls Try.prog 13 _ w _) := hvc); have HPF : Hid (∀ v w, FL w v [.mk k n ks, .mk ka na ksa, .mk kb nb ksb] → Calls Try.prog 15 _ w _) := hpf; (have HB : Hid (∀ w, Calls Try.prog 10 #[] w _) := fun w => truthBegun_any w); have R0 : Hid (Rep _ _ _ _) := hrep; have R1 : Hid (Rep _ _ _ _) := hu; have R2 : Hid (Rep _ _ _ _) := ht; clear hva hvb hvc hpf hrep hu ht
  go_enter Try.func5, Try.ntmps5
  go_wp2_with fail; refine (HB.out _).mono ?_; rintro e w1 ⟨rfl, hb1⟩; have q0 : Hid (w1.heap[w.heap.size]? = some (.cells #[.int .i64 k, .string n, .slice sl ks.length cap] 37 (0, 0))) := below_keep hb1 (alloc_keep (alloc_keep (blk_new w _) _) _); have q1 : Hid (w1.heap[w.heap.size + 1]? = some (.cells #[.int .i64 ka, .string na, .slice sla ksa.length capa] 37 (0, 0))) := below_keep hb1 (alloc_keep (blk_new2 w _ _) _)
  have q2 : Hid (w1.heap[w.heap.size + 1 + 1]? = some (.cells #[.int .i64 kb, .string nb, .slice slb ksb.length capb] 37 (0, 0))) := below_keep hb1 (by
    have := blk_new2 (w.alloc (.cells #[.int .i64 k, .string n, .slice sl ks.length cap] 37 (0, 0))) (.cells #[.int .i64 ka, .string na, .slice sla ksa.length capa] 37 (0, 0)) (.cells #[.int .i64 kb, .string nb, .slice slb ksb.length capb] 37 (0, 0))
    rwa [show (w.alloc (.cells #[.int .i64 k, .string n, .slice sl ks.length cap] 37 (0, 0))).heap.size = w.heap.size + 1 by simp] at this)
  have B1 := below_join (below_more (below_more (below_more (Below.refl _ w) _) _) _) hb1; obtain ⟨a0, a1, a2, -⟩ := blk3 q0.out; go_wp2_with fail; refine (HV1.out _ _ (R0.out.up B1)).mono ?_; rintro e w2 ⟨⟨b1, rfl, -⟩, hb2⟩; have B2 := below_join B1 hb2; have q0' : Hid _ := below_keep hb2 q0.out; clear q0; have q0 : Hid _ := q0'.out; clear q0'; have q1' : Hid _ := below_keep hb2 q1.out; clear q1; have q1 : Hid _ := q1'.out; clear q1'; have q2' : Hid _ := below_keep hb2 q2.out; clear q2; have q2 : Hid _ := q2'.out; clear q2'; clear a0 a1 a2; obtain ⟨a0, a1, a2, -⟩ := blk3 q1.out
  cases b1
  case true =>
    go_wp2_with fail; go_ret; exact ⟨rfl, B2⟩
  case false =>
  clear hb2; go_wp2_with fail; refine (HV2.out _ _ (R1.out.up B2)).mono ?_; rintro e w3 ⟨⟨b1, rfl, -⟩, hb2⟩; have B3 := below_join B2 hb2; have q0' : Hid _ := below_keep hb2 q0.out; clear q0; have q0 : Hid _ := q0'.out; clear q0'; have q1' : Hid _ := below_keep hb2 q1.out; clear q1; have q1 : Hid _ := q1'.out; clear q1'; have q2' : Hid _ := below_keep hb2 q2.out; clear q2; have q2 : Hid _ := q2'.out; clear q2'; clear a0 a1 a2; obtain ⟨a0, a1, a2, -⟩ := blk3 q2.out
  cases b1
  case true =>
    go_wp2_with fail; go_ret; exact ⟨rfl, B3⟩
  case false =>
  clear hb2; go_wp2_with fail; refine (HV3.out _ _ (R2.out.up B3)).mono ?_; rintro e w4 ⟨⟨b1, rfl, -⟩, hb2⟩; have B4 := below_join B3 hb2; have q0' : Hid _ := below_keep hb2 q0.out; clear q0; have q0 : Hid _ := q0'.out; clear q0'; have q1' : Hid _ := below_keep hb2 q1.out; clear q1; have q1 : Hid _ := q1'.out; clear q1'; have q2' : Hid _ := below_keep hb2 q2.out; clear q2; have q2 : Hid _ := q2'.out; clear q2'; clear a0 a1 a2; obtain ⟨a0, a1, a2, -⟩ := blk3 q0.out; obtain ⟨d0, d1, d2, -⟩ := blk3 q1.out; obtain ⟨f0, f1, f2, -⟩ := blk3 q2.out
  cases b1
  case true =>
    go_wp2_with fail; go_ret; exact ⟨rfl, B4⟩
  case false =>
  clear hb2; go_wp2_with fail; refine (HPF.out _ _ (FL.triple (blk_new w4 _) ((R0.out.up B4).more _) ((R1.out.up B4).more _) ((R2.out.up B4).more _))).mono ?_; rintro e w5 ⟨rfl, hb5⟩; have B5 := below_join (below_more B4 _) hb5; have p0 : Hid _ := below_keep hb5 (alloc_keep q0.out _); have p1 : Hid _ := below_keep hb5 (alloc_keep q1.out _); have p2 : Hid _ := below_keep hb5 (alloc_keep q2.out _); clear a0 a1 a2 d0 d1 d2 f0 f1 f2 q0 q1 q2 hb1 hb5 B1 B2 B3 B4; go_wp2_with fail; refine (HN.out _).mono ?_; rintro e w6 ⟨rfl, rfl⟩; go_wp2_with fail; obtain ⟨a0, a1, a2, -⟩ := blk3 p0.out; obtain ⟨d0, d1, d2, -⟩ := blk3 p1.out; obtain ⟨f0, f1, f2, -⟩ := blk3 p2.out; have y2 := lt_of_block p2.out
  go_cut [9, 10] from 47 (fun v9 v10 wc => (∃ (b7 b8 : Nat) (sx : Option Addr) (cx : Nat) (sy : Option Addr) (cy : Nat), v9 = .pointer (some ⟨b7, 0, none⟩) ∧ v10 = .pointer (some ⟨b8, 0, none⟩) ∧ Ps w (.cells #[.int .i64 k, .string n, .slice sl ks.length cap] 37 (0, 0)) (.cells #[.int .i64 ka, .string na, .slice sla ksa.length capa] 37 (0, 0)) (.cells #[.int .i64 kb, .string nb, .slice slb ksb.length capb] 37 (0, 0)) kx nx ksx ky ny ksy b7 b8 sx cx sy cy wc))
  case first =>
    (have e1 : ¬ w6.heap.size = w.heap.size := by omega); (have e2 : ¬ w6.heap.size + 1 = w.heap.size := by omega); (have e3 : ¬ w6.heap.size = w.heap.size + 1 := by omega); (have e4 : ¬ w6.heap.size = w.heap.size + 1 + 1 := by omega); (have e5 : ¬ w6.heap.size + 1 = w.heap.size + 1 + 1 := by omega)
    go_region_held3 (fun w' => w'.cell? ⟨w.heap.size, 0, none⟩ = some (.int .i64 k) ∧ w'.cell? ⟨w.heap.size, 1, none⟩ = some (.string n) ∧ w'.cell? ⟨w.heap.size, 2, none⟩ = some (.slice sl ks.length cap) ∧ w'.cell? ⟨w.heap.size + 1, 0, none⟩ = some (.int .i64 ka) ∧ w'.cell? ⟨w.heap.size + 1, 1, none⟩ = some (.string na) ∧ w'.cell? ⟨w.heap.size + 1, 2, none⟩ = some (.slice sla ksa.length capa) ∧ w'.cell? ⟨w.heap.size + 1 + 1, 0, none⟩ = some (.int .i64 kb) ∧ w'.cell? ⟨w.heap.size + 1 + 1, 1, none⟩ = some (.string nb) ∧ w'.cell? ⟨w.heap.size + 1 + 1, 2, none⟩ = some (.slice slb ksb.length capb)) (go_keep)
      (first
       | (go_at_call 22
          have x5 := HX5.out
          go_loud (
          (refine (HWY.out _ _ _ (by have := z5; first | omega | (simp; omega)) (by first | exact R0.out.up B7 | exact (R0.out.up B7).more _ | exact ((R0.out.up B7).more _).more _) (by first | exact R2L.out.low B7 | exact (R2L.out.low B7).more' _ | exact ((R2L.out.low B7).more' _).more' _)).mono ?_); rintro e w8 ⟨y, rfl, hrep8, hb8⟩; obtain ⟨sy, cy, rfl⟩ := slice_shape hrep8; have z8 := hb8.size; have hlt8 := hb8.size
          try simp at hlt8
          (have t0 := below_keep hb8 (by first | exact p7 | exact alloc_keep p7 _ | exact alloc_keep (alloc_keep p7 _) _)); (have t1 := below_keep hb8 (by first | exact p8 | exact alloc_keep p8 _ | exact alloc_keep (alloc_keep p8 _) _)); (have t2 := below_keep hb8 (by first | exact p9 | exact alloc_keep p9 _ | exact alloc_keep (alloc_keep p9 _) _)); (have B8 := below_join (by first | exact B7 | exact below_more B7 _ | exact below_more (below_more B7 _) _) hb8); (have X8 : Hid (Rep w8 _ _ _) := Rep.up' (by first | exact x5 | exact x5.more' _ | exact (x5.more' _).more' _) hb8); (have HY8 : Hid (Rep w8 (fun b => (b < w.heap.size ∨ _ ≤ b) ∧ b < w8.heap.size) _ _) := hrep8.move fun b hb hm => ⟨rfl, hm, hb⟩)
          try (have n30 := below_keep hb8 m30)
          try (have n30 := below_keep hb8 (alloc_keep m30 (.cells #[.int .i64 0, .string ⟨#[]⟩, .slice none 0 0] 37 (0, 0))))
          try (have n31 := below_keep hb8 m31)
          try (have n50 := below_keep hb8 (blk_new w7 (.cells #[.int .i64 0, .string ⟨#[]⟩, .slice none 0 0] 37 (0, 0))))
          try (have n50 := below_keep hb8 (alloc_keep (blk_new w7 (.cells #[.int .i64 0, .string ⟨#[]⟩, .slice none 0 0] 37 (0, 0))) (.cells #[.int .i64 0, .string ⟨#[]⟩, .slice none 0 0] 37 (0, 0))))
          try (have n51 := below_keep hb8 (blk_new2 w7 (.cells #[.int .i64 0, .string ⟨#[]⟩, .slice none 0 0] 37 (0, 0)) (.cells #[.int .i64 0, .string ⟨#[]⟩, .slice none 0 0] 37 (0, 0))))
          try (have n' := n30
               obtain ⟨x0, x1, x2, x3, x4, x5'⟩ := blk3 n'; have y7 := lt_of_block n'; have yy7 := Nat.ne_of_gt y7
               clear n')
          try (have n' := n31
               obtain ⟨xa0, xa1, xa2, xa3, xa4, xa5⟩ := blk3 n'; have ya7 := lt_of_block n'; have yya7 := Nat.ne_of_gt ya7
               clear n')
          try (have n' := n50
               obtain ⟨xb0, xb1, xb2, xb3, xb4, xb5⟩ := blk3 n'; have yb7 := lt_of_block n'; have yyb7 := Nat.ne_of_gt yb7
               clear n')
          try (have n' := n51
               obtain ⟨xc0, xc1, xc2, xc3, xc4, xc5⟩ := blk3 n'; have yc7 := lt_of_block n'; have yyc7 := Nat.ne_of_gt yc7
               clear n')
          try (have n' := n50
               have n'' := n30; (have nea : ¬ w6.heap.size = w7.heap.size := by omega); (have neb : ¬ w7.heap.size = w6.heap.size := by omega)
               clear n' n'')
          clear g0 g1 g2 i0 i1 i2 j0 j1 j2 hrep8; obtain ⟨g0, g1, g2, -⟩ := blk3 t0; obtain ⟨i0, i1, i2, -⟩ := blk3 t1; obtain ⟨j0, j1, j2, -⟩ := blk3 t2; (have e1'' : ¬ w8.heap.size = w.heap.size := by have := lt_of_block t2; omega); (have e2'' : ¬ w8.heap.size + 1 = w.heap.size := by have := lt_of_block t2; omega); (have e3'' : ¬ w8.heap.size = w.heap.size + 1 := by have := lt_of_block t2; omega); (have e4'' : ¬ w8.heap.size = w.heap.size + 1 + 1 := by have := lt_of_block t2; omega)
          have e5'' : ¬ w8.heap.size + 1 = w.heap.size + 1 + 1 := by have := lt_of_block t2; omega))
       | (go_at_call 22
          (refine (HWX.out _ _ _ (by first | omega | (simp; omega)) (by first | exact (R0.out.up B5).up (Below.refl _ _).drew | exact ((R0.out.up B5).more _).up (Below.refl _ _).drew | exact (((R0.out.up B5).more _).more _).up (Below.refl _ _).drew) (by first | exact (R1L.out.low B5).up' (Below.refl _ _).drew | exact ((R1L.out.low B5).more' _).up' (Below.refl _ _).drew | exact (((R1L.out.low B5).more' _).more' _).up' (Below.refl _ _).drew)).mono ?_); rintro e w7 ⟨x, rfl, hrep7, hb7⟩; obtain ⟨sx, cx, rfl⟩ := slice_shape hrep7; have z5 := hb7.size; have hlt5 := hb7.size
          try simp at hlt5
          (have p7 := below_keep hb7 (keep_drew (by first | exact p0.out | exact alloc_keep p0.out _ | exact alloc_keep (alloc_keep p0.out _) _))); (have p8 := below_keep hb7 (keep_drew (by first | exact p1.out | exact alloc_keep p1.out _ | exact alloc_keep (alloc_keep p1.out _) _))); (have p9 := below_keep hb7 (keep_drew (by first | exact p2.out | exact alloc_keep p2.out _ | exact alloc_keep (alloc_keep p2.out _) _))); (have B7 := below_join (by first | exact B5.drew | exact (below_more B5 _).drew | exact (below_more (below_more B5 _) _).drew) hb7); (have HX5 : Hid (Rep w7 (fun b => (b < w.heap.size ∨ _ ≤ b) ∧ b < w7.heap.size) _ _) := hrep7.move fun b hb hm => ⟨rfl, hm, hb⟩)
          try (have m30 := below_keep hb7 (keep_drew (blk_new w6 (.cells #[.int .i64 0, .string ⟨#[]⟩, .slice none 0 0] 37 (0, 0)))))
          try (have m30 := below_keep hb7 (keep_drew (alloc_keep (blk_new w6 (.cells #[.int .i64 0, .string ⟨#[]⟩, .slice none 0 0] 37 (0, 0))) (.cells #[.int .i64 0, .string ⟨#[]⟩, .slice none 0 0] 37 (0, 0)))))
          try (have m31 := below_keep hb7 (keep_drew (blk_new2 w6 (.cells #[.int .i64 0, .string ⟨#[]⟩, .slice none 0 0] 37 (0, 0)) (.cells #[.int .i64 0, .string ⟨#[]⟩, .slice none 0 0] 37 (0, 0)))))
          obtain ⟨g0, g1, g2, -⟩ := blk3 p7; obtain ⟨i0, i1, i2, -⟩ := blk3 p8; obtain ⟨j0, j1, j2, -⟩ := blk3 p9; clear hrep7; (have e1' : ¬ w7.heap.size = w.heap.size := by have := lt_of_block p9; omega); (have e2' : ¬ w7.heap.size + 1 = w.heap.size := by have := lt_of_block p9; omega); (have e3' : ¬ w7.heap.size = w.heap.size + 1 := by have := lt_of_block p9; omega); (have e4' : ¬ w7.heap.size = w.heap.size + 1 + 1 := by have := lt_of_block p9; omega)
          have e5' : ¬ w7.heap.size + 1 = w.heap.size + 1 + 1 := by have := lt_of_block p9; omega)
       | fail)
    all_goals
      have hs5 : w.heap.size + 3 ≤ w7.heap.size := lt_of_block p9; have hs6 : w.heap.size + 3 ≤ w8.heap.size := lt_of_block t2; go_wp2_with fail; go_meet; refine ⟨_, _, sx, cx, sy, cy, rfl, rfl, ?_⟩
      first
        | (with_reducible refine ps_nn1 hs6 B8 t0 t1 t2 ?_ ?_
           · exact X8.out.move fun b hb hm => ⟨rfl, by omega, by omega⟩
           · exact HY8.out.move fun b hb hm => ⟨rfl, by omega, by omega⟩)
        | (with_reducible refine ps_nn2 hs6 B8 t0 t1 t2 ?_ ?_
           · exact X8.out.move fun b hb hm => ⟨rfl, by omega, by omega⟩
           · exact HY8.out.move fun b hb hm => ⟨rfl, by omega, by omega⟩)
        | (with_reducible refine ps_oo hs6 B8 t0 t1 t2 ?_ ?_ ?_ ?_ ?_ ?_ ?_
           · omega
           · omega
           · first | exact n30 | exact n31 | exact n50 | exact n51
           · omega
           · first | exact n30 | exact n31 | exact n50 | exact n51
           · exact X8.out.move fun b hb hm => ⟨rfl, by (try simp at hm); omega, by (try simp at hm); omega⟩
           · exact HY8.out.move fun b hb hm => ⟨rfl, by (try simp at hm); omega, by (try simp at hm); omega⟩)
        | (with_reducible refine ps_on hs6 B8 t0 t1 t2 ?_ ?_ ?_ ?_
           · omega
           · first | exact n30 | exact n31 | exact n50 | exact n51
           · exact X8.out.move fun b hb hm => ⟨rfl, by (try simp at hm); omega, by (try simp at hm); omega⟩
           · exact HY8.out.move fun b hb hm => ⟨rfl, by (try simp at hm); omega, by (try simp at hm); omega⟩)
        | (with_reducible refine ps_no hs6 B8 t0 t1 t2 ?_ ?_ ?_ ?_
           · omega
           · first | exact n30 | exact n31 | exact n50 | exact n51
           · exact X8.out.move fun b hb hm => ⟨rfl, by (try simp at hm); omega, by (try simp at hm); omega⟩
           · exact HY8.out.move fun b hb hm => ⟨rfl, by (try simp at hm); omega, by (try simp at hm); omega⟩)
  case rest =>
    obtain ⟨b7, b8, sx, cx, sy, cy, rfl, rfl, hne, hb7, hb8, BC, v0', v1', v2', v7', v8', RX', RY'⟩ := hcut; clear a0 a1 a2 d0 d1 d2 f0 f1 f2 y2 p0 p1 p2 B5 HWX HWY R1L R2L; have v0 : Hid _ := v0'; have v1 : Hid _ := v1'; have v2 : Hid _ := v2'; have v7 : Hid _ := v7'; have v8 : Hid _ := v8'; have RX : Hid (Rep _ _ _ _) := RX'; have RY : Hid (Rep _ _ _ _) := RY'; clear v0' v1' v2' v7' v8' RX' RY'; obtain ⟨m0, m1, m2, -⟩ := blk3 v7.out; go_wp2_with fail; refine (HKX.out _ _ RX.out).mono ?_; rintro e w7 ⟨x, rfl, hlo, hbk⟩; obtain ⟨g, cp, cs, rfl, -⟩ := hlo; have B7 := below_join BC hbk; have z0 : Hid _ := below_keep hbk v0.out; have z1 : Hid _ := below_keep hbk v1.out; have z2 : Hid _ := below_keep hbk v2.out; have z7 : Hid _ := below_keep hbk v7.out; have z8 : Hid _ := below_keep hbk v8.out; have ZX : Hid (Rep _ _ _ _) := RX.out.up hbk; have ZY : Hid (Rep _ _ _ _) := RY.out.up hbk; clear m0 m1 m2 v0 v1 v2 v7 v8 RX RY hbk; obtain ⟨m0, m1, m2, -⟩ := blk3 z8.out; by_cases hlx : 60 < lx.length
    · have hlxI : (60 : Int) < (lx.length : Int) := by omega
      go_wp2_with fail; go_ret; exact ⟨rfl, B7⟩
    (have hlxI : ¬ (60 : Int) < (lx.length : Int) := by omega); go_wp2_with fail; refine (HKY.out _ _ ZY.out).mono ?_; rintro e w8 ⟨x, rfl, hlo, hbk⟩; obtain ⟨g', cp', cs', rfl, -⟩ := hlo; have B8 := below_join B7 hbk; have v0 : Hid _ := below_keep hbk z0.out; have v1 : Hid _ := below_keep hbk z1.out; have v2 : Hid _ := below_keep hbk z2.out; have v7 : Hid _ := below_keep hbk z7.out; have v8 : Hid _ := below_keep hbk z8.out; have RX : Hid (Rep _ _ _ _) := ZX.out.up hbk; have RY : Hid (Rep _ _ _ _) := ZY.out.up hbk; clear m0 m1 m2 z0 z1 z2 z7 z8 ZX ZY hbk; obtain ⟨m0, m1, m2, -⟩ := blk3 v0.out; by_cases hly : 60 < ly.length
    · have hlyI : (60 : Int) < (ly.length : Int) := by omega
      go_wp2_with fail; go_ret; exact ⟨rfl, B8⟩
    (have hlyI : ¬ (60 : Int) < (ly.length : Int) := by omega); go_wp2_with fail; refine (HVF.out _ _ (R0.out.up B8)).mono ?_; rintro e w9 ⟨x, rfl, htl, hbk⟩; obtain ⟨adf, cpf, rfl, -⟩ := htl; have B9 := below_join B8 hbk; have z0 : Hid _ := below_keep hbk v0.out; have z1 : Hid _ := below_keep hbk v1.out; have z2 : Hid _ := below_keep hbk v2.out; have z7 : Hid _ := below_keep hbk v7.out; have z8 : Hid _ := below_keep hbk v8.out; (have ZX : Hid (Rep w9 (· < w9.heap.size) _ _) := (RX.out.up hbk).move fun b hb _ => ⟨rfl, hb⟩); (have ZY : Hid (Rep w9 (· < w9.heap.size) _ _) := (RY.out.up hbk).move fun b hb _ => ⟨rfl, hb⟩); clear m0 m1 m2 v0 v1 v2 v7 v8 RX RY hbk hlx hlxI hly hlyI; have l7 := lt_of_block z7.out; have l8 := lt_of_block z8.out; have l2 := lt_of_block z2.out; obtain ⟨m0, m1, m2, -⟩ := blk3 z7.out; go_wp2_with fail; refine (HVX.out _ _ (ZX.out.all.more _)).mono ?_; rintro e w10 ⟨x, rfl, htl, hbk⟩; obtain ⟨adx, cpx, rfl, -⟩ := htl; have B10 := below_join (below_more B9 _) hbk; have v0 : Hid _ := below_keep hbk (alloc_keep z0.out _); have v1 : Hid _ := below_keep hbk (alloc_keep z1.out _); have v2 : Hid _ := below_keep hbk (alloc_keep z2.out _); have v7 : Hid _ := below_keep hbk (alloc_keep z7.out _); have v8 : Hid _ := below_keep hbk (alloc_keep z8.out _); have v13 : Hid _ := below_keep hbk (blk_new w9 _); have RX : Hid (Rep _ _ _ _) := (ZX.out.more' _).up' hbk; have RY : Hid (Rep _ _ _ _) := (ZY.out.more' _).up' hbk; clear m0 m1 m2 z0 z1 z2 z7 z8 ZX ZY hbk; have l13 := lt_of_block v13.out; obtain ⟨c0, c1, -⟩ := blk2 v13.out
    have hcase : cf1 ≠ 0 ∨ (cf1 = 0 ∧ cX1 ≠ 0) ∨ (cf1 = 0 ∧ cX1 = 0 ∧ bf = false) ∨ (cf1 = 0 ∧ cX1 = 0 ∧ bf = true ∧ bx = true) := by
      by_cases h1 : cf1 = 0
      · by_cases h2 : cX1 = 0
        · cases hbf : bf
          · exact Or.inr (Or.inr (Or.inl ⟨h1, h2, rfl⟩))
          · exact Or.inr (Or.inr (Or.inr ⟨h1, h2, rfl, HSV.out h2 hbf⟩))
        · exact Or.inr (Or.inl ⟨h1, h2⟩)
      · exact Or.inl h1
    have BW := below_more B10 (.cells #[.int .i64 cX1, .int .i64 cX2] 25 (0, 0)); have u1 : Hid _ := alloc_keep v1.out (.cells #[.int .i64 cX1, .int .i64 cX2] 25 (0, 0)); have u2 : Hid _ := alloc_keep v2.out (.cells #[.int .i64 cX1, .int .i64 cX2] 25 (0, 0)); have u7 : Hid _ := alloc_keep v7.out (.cells #[.int .i64 cX1, .int .i64 cX2] 25 (0, 0)); have u8 : Hid _ := alloc_keep v8.out (.cells #[.int .i64 cX1, .int .i64 cX2] 25 (0, 0)); have u13 : Hid _ := alloc_keep v13.out (.cells #[.int .i64 cX1, .int .i64 cX2] 25 (0, 0)); have u16 : Hid _ := blk_new w10 (.cells #[.int .i64 cX1, .int .i64 cX2] 25 (0, 0)); have WX : Hid (Rep _ _ _ _) := RX.out.more' (.cells #[.int .i64 cX1, .int .i64 cX2] 25 (0, 0)); have WY : Hid (Rep _ _ _ _) := RY.out.more' (.cells #[.int .i64 cX1, .int .i64 cX2] 25 (0, 0)); obtain ⟨c0, c1, -⟩ := blk2 u13.out; obtain ⟨c2, c3, -⟩ := blk2 u16.out; (have n1 : ¬ w9.heap.size = w.heap.size + 1 := by omega); (have n2 : ¬ w9.heap.size = w.heap.size + 1 + 1 := by omega); (have n3 : ¬ w10.heap.size = b7 := by omega); (have n4 : ¬ w10.heap.size = b8 := by omega); (have n5 : ¬ w10.heap.size = w9.heap.size := by omega); clear v0 v1 v2 v7 v8 v13 RX RY BC B7 B8 B9 B10 HSV HVF HVX HKX HKY
    rcases hcase with h | ⟨rfl, h⟩ | ⟨rfl, rfl, rfl⟩ | ⟨rfl, rfl, rfl, rfl⟩
    case' inl => have h' : (cf1 == 0) = false := by simpa using h
    case' inr.inl => have h' : (cX1 == 0) = false := by simpa using h
    all_goals
      go_wp2_with fail; clear c0 c1 c2 c3; generalize w10.alloc _ = W0 at *; obtain ⟨k0, k1, k2, -⟩ := blk3 u1.out; obtain ⟨k3, k4, k5, -⟩ := blk3 u2.out
      go_cut [17, 18] from 92 (fun v17 v18 wc => v17 = .bool bab ∧ Below w.heap.size w wc ∧ wc.heap[w9.heap.size]? = some (.cells #[.int .i64 cab1, .int .i64 cab2] 25 (0, 0)) ∧ (∃ z0 z1, wc.heap[w10.heap.size]? = some (.cells #[z0, z1] 25 (0, 0))) ∧ wc.heap[b7]? = some (.cells #[.int .i64 kx, .string nx, .slice sx ksx.length cx] 37 (0, 0)) ∧ wc.heap[b8]? = some (.cells #[.int .i64 ky, .string ny, .slice sy ksy.length cy] 37 (0, 0)) ∧ Rep wc (fun _ => True) (.mk kx nx ksx) (.agg #[.int .i64 kx, .string nx, .slice sx ksx.length cx]) ∧ Rep wc (fun _ => True) (.mk ky ny ksy) (.agg #[.int .i64 ky, .string ny, .slice sy ksy.length cy]))
      case first =>
        go_region_held3 (fun w' => w'.cell? ⟨w.heap.size + 1, 0, none⟩ = some (.int .i64 ka) ∧ w'.cell? ⟨w.heap.size + 1, 1, none⟩ = some (.string na) ∧ w'.cell? ⟨w.heap.size + 1, 2, none⟩ = some (.slice sla ksa.length capa) ∧ w'.cell? ⟨w.heap.size + 1 + 1, 0, none⟩ = some (.int .i64 kb) ∧ w'.cell? ⟨w.heap.size + 1 + 1, 1, none⟩ = some (.string nb) ∧ w'.cell? ⟨w.heap.size + 1 + 1, 2, none⟩ = some (.slice slb ksb.length capb)) (go_keep)
          (first
           | (go_at_call 24
              refine (HVAB.out _ _ hr3).mono ?_; rintro e wD ⟨x, rfl, htl, hbd⟩; obtain ⟨adv, cpv, rfl, -⟩ := htl; have BD := below_join BC' hbd; (have hkD : Hid (∀ b, b < W0.heap.size → wD.heap[b]? = W0.heap[b]?) := fun b hb => (hbd.block b (by have h1 := hba.size; have h2 := hbb.size; have h3 := hbc.size; simp at h1; omega)).trans (hkC.out b hb)); have u1D : Hid _ := below_keep hbd u1C.out; have u2D : Hid _ := below_keep hbd u2C.out; have u7D : Hid _ := below_keep hbd u7C.out; have u8D : Hid _ := below_keep hbd u8C.out; have u13D : Hid _ := below_keep hbd u13C.out; have u16D : Hid _ := below_keep hbd u16C.out; clear k0 k1 k2 k3 k4 k5; obtain ⟨k0, k1, k2, -⟩ := blk3 u1D.out; obtain ⟨k3, k4, k5, -⟩ := blk3 u2D.out
              obtain ⟨o0, o1, o2, o3⟩ := blk2 u13D.out)
           | (go_at_call 25
              have hx := HA2.out; refine (HB3.out _ _ _ hr1 hr2).mono ?_; rintro e wC ⟨x, rfl, hr3, hbc⟩; have BC' := below_join BB' hbc; (have hkC : Hid (∀ b, b < W0.heap.size → wC.heap[b]? = W0.heap[b]?) := fun b hb => (hbc.block b (by have h1 := hba.size; have h2 := hbb.size; simp at h1; omega)).trans (hkB.out b hb)); have u1C : Hid _ := below_keep hbc u1B.out; have u2C : Hid _ := below_keep hbc u2B.out; have u7C : Hid _ := below_keep hbc u7B.out; have u8C : Hid _ := below_keep hbc u8B.out; have u13C : Hid _ := below_keep hbc u13B.out; have u16C : Hid _ := below_keep hbc u16B.out; clear k0 k1 k2 k3 k4 k5; obtain ⟨k0, k1, k2, -⟩ := blk3 u1C.out
              obtain ⟨k3, k4, k5, -⟩ := blk3 u2C.out)
           | (go_at_call 25
              have hx := HA1.out; refine (HB2.out _ _ _ (R2.out.up BA) (R1.out.up BA)).mono ?_; rintro e wB ⟨x, rfl, hr2, hbb⟩; have hr1' := hr1.up hbb; clear hr1; have hr1 := hr1'; clear hr1'; have BB' := below_join BA hbb; (have hkB : Hid (∀ b, b < W0.heap.size → wB.heap[b]? = W0.heap[b]?) := fun b hb => (hbb.block b (by have h1 := hba.size; simp at h1; omega)).trans (hkA.out b hb)); have HA2 : Hid True := trivial; have u1B : Hid _ := below_keep hbb u1A.out; have u2B : Hid _ := below_keep hbb u2A.out; have u7B : Hid _ := below_keep hbb u7A.out; have u8B : Hid _ := below_keep hbb u8A.out; have u13B : Hid _ := below_keep hbb u13A.out; have u16B : Hid _ := below_keep hbb u16A.out; clear k0 k1 k2 k3 k4 k5; obtain ⟨k0, k1, k2, -⟩ := blk3 u1B.out
              obtain ⟨k3, k4, k5, -⟩ := blk3 u2B.out)
           | (go_at_call 25
              refine (HB1.out _ _ _ (R1.out.up BW.drew) (R2.out.up BW.drew)).mono ?_; rintro e wA ⟨x, rfl, hr1, hba⟩; have BA := below_join BW.drew hba; (have hkA : Hid (∀ b, b < W0.heap.size → wA.heap[b]? = W0.heap[b]?) := fun b hb => hba.block b hb); have HA1 : Hid True := trivial; have u1A : Hid _ := below_keep hba (keep_drew u1.out); have u2A : Hid _ := below_keep hba (keep_drew u2.out); have u7A : Hid _ := below_keep hba (keep_drew u7.out); have u8A : Hid _ := below_keep hba (keep_drew u8.out); have u13A : Hid _ := below_keep hba (keep_drew u13.out); have u16A : Hid _ := below_keep hba (keep_drew u16.out); obtain ⟨k0, k1, k2, -⟩ := blk3 u1A.out
              obtain ⟨k3, k4, k5, -⟩ := blk3 u2A.out)
           | fail)
        all_goals
          go_wp2_with fail; go_meet; (obtain ⟨s1, s2, s3⟩ := flt_set (R := w9.heap.size) (by omega) BD u13D.out cab1 cab2); (refine ⟨rfl, s2, s1, ⟨_, _, (s3 _ (by omega)).trans u16D.out⟩, (s3 _ (by omega)).trans u7D.out, (s3 _ (by omega)).trans u8D.out, ?_, ?_⟩)
          · exact (WX.out.move fun b hb hx => ⟨(s3 b (by omega)).trans (hkD.out b hb), trivial⟩)
          · exact (WY.out.move fun b hb hx => ⟨(s3 b (by omega)).trans (hkD.out b hb), trivial⟩)
      case rest =>
        obtain ⟨rfl, BZ, e13', ⟨z0, z1, e16'⟩, e7', e8', RX', RY'⟩ := hcut; have e13 : Hid _ := e13'; have e16 : Hid _ := e16'; have e7 : Hid _ := e7'; have e8 : Hid _ := e8'; have RX : Hid (Rep _ _ _ _) := RX'; have RY : Hid (Rep _ _ _ _) := RY'; clear e13' e16' e7' e8' RX' RY' u1 u2 u7 u8 u13 u16 WX WY BW k0 k1 k2 k3 k4 k5; obtain ⟨k0, k1, k2, -⟩ := blk3 e7.out; obtain ⟨k3, k4, k5, -⟩ := blk3 e8.out
        have hfin : cab1 ≠ 0 ∨ (cab1 = 0 ∧ cxy1 ≠ 0) ∨ (cab1 = 0 ∧ cxy1 = 0 ∧ bab = false) ∨ (cab1 = 0 ∧ cxy1 = 0 ∧ bab = true ∧ bxy = true) := by
          by_cases h1 : cab1 = 0
          · by_cases h2 : cxy1 = 0
            · cases hbb : bab
              · exact Or.inr (Or.inr (Or.inl ⟨h1, h2, rfl⟩))
              · exact Or.inr (Or.inr (Or.inr ⟨h1, h2, rfl, HSA.out h2 hbb⟩))
            · exact Or.inr (Or.inl ⟨h1, h2⟩)
          · exact Or.inl h1
        have HFin : Hid (_ ∨ _) := hfin; clear hfin; go_wp2_with fail
        go_region_held3 (fun w' => w'.cell? ⟨b7, 0, none⟩ = some (.int .i64 kx) ∧ w'.cell? ⟨b7, 1, none⟩ = some (.string nx) ∧ w'.cell? ⟨b7, 2, none⟩ = some (.slice sx ksx.length cx) ∧ w'.cell? ⟨b8, 0, none⟩ = some (.int .i64 ky) ∧ w'.cell? ⟨b8, 1, none⟩ = some (.string ny) ∧ w'.cell? ⟨b8, 2, none⟩ = some (.slice sy ksy.length cy)) (go_keep)
          (first
           | (go_at_call 24
              refine (HVXY.out _ _ hr3).mono ?_; rintro e wD ⟨x, rfl, htl, hbd⟩; obtain ⟨adv, cpv, rfl, -⟩ := htl; have BD := below_join BC' hbd; have e7D : Hid _ := below_keep hbd e7C.out; have e8D : Hid _ := below_keep hbd e8C.out; have e13D : Hid _ := below_keep hbd e13C.out; have e16D : Hid _ := below_keep hbd e16C.out; clear k0 k1 k2 k3 k4 k5; obtain ⟨k0, k1, k2, -⟩ := blk3 e7D.out; obtain ⟨k3, k4, k5, -⟩ := blk3 e8D.out
              obtain ⟨o0, o1, o2, o3⟩ := blk2 e16D.out)
           | (go_at_call 25
              have hx := HA2.out; refine (HB6.out _ _ _ hr1 hr2).mono ?_; rintro e wC ⟨x, rfl, hr3, hbc⟩; have BC' := below_join BB' hbc; have e7C : Hid _ := below_keep hbc e7B.out; have e8C : Hid _ := below_keep hbc e8B.out; have e13C : Hid _ := below_keep hbc e13B.out; have e16C : Hid _ := below_keep hbc e16B.out; clear k0 k1 k2 k3 k4 k5; obtain ⟨k0, k1, k2, -⟩ := blk3 e7C.out
              obtain ⟨k3, k4, k5, -⟩ := blk3 e8C.out)
           | (go_at_call 25
              have hx := HA1.out; refine (HB5.out _ _ _ (RY.out.up hba2.out) (RX.out.up hba2.out)).mono ?_; rintro e wB ⟨x, rfl, hr2, hbb⟩; have hr1' := hr1.up hbb; clear hr1; have hr1 := hr1'; clear hr1'; have BB' := below_join BA hbb; have HA2 : Hid True := trivial; have e7B : Hid _ := below_keep hbb e7A.out; have e8B : Hid _ := below_keep hbb e8A.out; have e13B : Hid _ := below_keep hbb e13A.out; have e16B : Hid _ := below_keep hbb e16A.out; clear k0 k1 k2 k3 k4 k5; obtain ⟨k0, k1, k2, -⟩ := blk3 e7B.out
              obtain ⟨k3, k4, k5, -⟩ := blk3 e8B.out)
           | (go_at_call 25
              refine (HB4.out _ _ _ (RX.out.up (Below.refl _ _).drew) (RY.out.up (Below.refl _ _).drew)).mono ?_; rintro e wA ⟨x, rfl, hr1, hba⟩; have BA := below_join BZ.drew hba; have hba2 : Hid (Below wc.heap.size wc wA) := (Below.refl _ wc).drew.trans hba; have HA1 : Hid True := trivial; have e7A : Hid _ := below_keep hba (keep_drew e7.out); have e8A : Hid _ := below_keep hba (keep_drew e8.out); have e13A : Hid _ := below_keep hba (keep_drew e13.out); have e16A : Hid _ := below_keep hba (keep_drew e16.out); obtain ⟨k0, k1, k2, -⟩ := blk3 e7A.out
              obtain ⟨k3, k4, k5, -⟩ := blk3 e8A.out)
           | fail)
        all_goals
          (obtain ⟨s1, s2, s3⟩ := flt_set (R := w10.heap.size) (by omega) BD e16D.out cxy1 cxy2); (have t13 := (s3 _ (fun e => n5 e.symm)).trans e13D.out); generalize World.setCell _ _ _ = F at s1 s2 s3 t13 ⊢; clear k0 k1 k2 k3 k4 k5 o0 o1 o2 o3 s3; obtain ⟨k0, k1, -⟩ := blk2 t13; obtain ⟨k2, k3, -⟩ := blk2 s1
          rcases HFin.out with g | ⟨rfl, g⟩ | ⟨rfl, rfl, rfl⟩ | ⟨rfl, rfl, rfl, rfl⟩
          case' inl => have g' : (cab1 != 0) = true := by simpa using g
          case' inr.inl => have g' : (cxy1 != 0) = true := by simpa using g
          all_goals
            go_wp2_with fail; go_ret; exact ⟨rfl, s2⟩
end Go.Proofs.Ytmahgfgndfcmpab
