/- Texts of one proof, one behind the other: TM3. -/
import Derived.Test.YtffkoiemnchdgabB38
import Derived.Test.YtffkoiemnchdgabB37
import Derived.Test.YtffkoiemnchdgabB31
import Derived.Test.YtffkoiemnchdgabB35
import Derived.Test.YtffkoiemnchdgabB32
import Derived.Test.YtffkoiemnchdgabB10
import Derived.Test.YtffkoiemnchdgabB09
import Derived.Test.YtffkoiemnchdgabB22
import Derived.Test.YtffkoiemnchdgabB26
/- Walks: TruthMade. -/
namespace Go.Proofs.Ytffkoiemnchdgab
open Go.RowKit Go.Sort

set_option maxRecDepth 10000 in
set_option maxHeartbeats 8000000 in
theorem tm_bad (f : Fm) (l : List (List UInt8)) (_ : ∀ t ∈ l, t.length ≤ maxLen) (v u : Value) (w : World) (hrep : Rep w (fun _ => True) f v) (hu : SL w u l) (c a : Int) (hc : c ≠ 0) (hpc : f.pcode = (c, a)) :
    Calls Try.prog 4 #[v, u] w fun e w' => e = .returned (.bool true) ∧ Below w.heap.size w w' := by
  (have hva := fun v w h => vast2_any f v w h); (have hpf := fun v (w : World) h => plainR_any [f] (by simp) v w h); rw [pfirst_one, hpc] at hpf; (have hma := fun v u (w : World) h h' => made_bad f l v u w h h' c a hc hpc); obtain ⟨k, n, ks⟩ := f; obtain ⟨sl, cap, rfl⟩ := slice_shape hrep; have HU : Hid (SL w u l) := hu; obtain ⟨adU, cpU, rfl, hl1, hl2, hl3⟩ := hu; have HL3 : Hid (l ≠ [] → ∃ g off, adU = some ⟨g, off, none⟩ ∧ ∀ (j : Nat) (t : List UInt8), l[j]? = some t → w.cell? ⟨g, off + j, none⟩ = some (.string ⟨t.toArray⟩)) := hl3; (have hlI : (l.length : Int) ≤ 9223372036854775807 := by unfold maxLen at hl2; omega); (have H1 : Hid (∀ v w, Rep w (fun _ => True) (.mk k n ks) v → Calls Try.prog 13 _ w _) := hva); have H2 : Hid (∀ v w, FL w v [.mk k n ks] → Calls Try.prog 15 _ w _) := hpf; (have HM : Hid (∀ v u w, Rep w (fun _ => True) (.mk k n ks) v → SL w u l → Calls Try.prog 14 #[v, u] w _) := hma); (have HB : Hid (∀ w, Calls Try.prog 10 #[] w _) := fun w => truthBegun_any w); (have HRep : Hid (Rep w (fun _ => True) (.mk k n ks) (.agg #[.int .i64 k, .string n, .slice sl ks.length cap])) := hrep); clear hva hpf hma hl3 hrep hpc HL3; (have hcJ : (c == 0) = false := by simpa using hc); (have hcN : (c != 0) = true := by simpa using hc)
  go_enter Try.func4, Try.ntmps4
  go_wp2_with fail; refine (HB.out _).mono ?_; rintro e w1 ⟨rfl, hb1⟩; have q1 : Hid _ := below_keep hb1 (blk_new w _); have B1 := below_join (below_more (Below.refl _ w) _) hb1; obtain ⟨a0, a1, a2, -⟩ := blk3 q1.out; go_wp2_with fail; refine (H1.out _ _ (HRep.out.up B1)).mono ?_; rintro e w2 ⟨⟨b1, rfl, -⟩, hb2⟩; have q2 : Hid _ := below_keep hb2 q1.out; have B2 := below_join B1 hb2; clear a0 a1 a2
  cases b1
  case true =>
    go_wp2_with fail; go_ret; exact ⟨rfl, B2⟩
  case false =>
  obtain ⟨a0, a1, a2, -⟩ := blk3 q2.out; go_wp2_with fail; refine (HM.out _ _ _ (HRep.out.up B2) (HU.out.up B2)).mono ?_; rintro e w3 ⟨rfl, hb3⟩; have q3 : Hid _ := below_keep hb3 q2.out; have B3 := below_join B2 hb3; clear a0 a1 a2; obtain ⟨a0, a1, a2, -⟩ := blk3 q3.out; have l3 := lt_of_block q3.out; go_wp2_with fail; have nb := blk_sec (w3.alloc (.cells #[.int .i64 0, .slice none 0 0] 33 (0, 0))) (.cells #[.int .i64 c, .int .i64 a] 25 (0, 0)) (.cells #[.int .i64 k, .string n, .slice sl ks.length cap] 37 (0, 0)); (rw [show (w3.alloc (.cells #[.int .i64 0, .slice none 0 0] 33 (0, 0))).heap.size = w3.heap.size + 1 by simp] at nb); refine (H2.out _ _ (FL.alone nb (HRep.out.up (below_more (below_more (below_more B3 _) _) _)))).mono ?_; rintro e w4 ⟨rfl, hb4⟩; have q4 : Hid _ := below_keep hb4 (alloc_keep (alloc_keep (alloc_keep q3.out _) _) _); have r4 : Hid _ := below_keep hb4 (alloc_keep (alloc_keep (blk_new w3 _) _) _); have s4 : Hid _ := below_keep hb4 (alloc_keep (blk_sec w3 _ _) _); have B4 := below_join (below_more (below_more (below_more B3 _) _) _) hb4; clear a0 a1 a2 nb; have BW := below_more B4 (.cells #[.int .i64 c, .int .i64 a] 25 (0, 0)); have Q0 : Hid _ := alloc_keep q4.out (.cells #[.int .i64 c, .int .i64 a] 25 (0, 0)); have QT : Hid _ := alloc_keep r4.out (.cells #[.int .i64 c, .int .i64 a] 25 (0, 0)); have QE : Hid _ := alloc_keep s4.out (.cells #[.int .i64 c, .int .i64 a] 25 (0, 0)); have QW : Hid _ := blk_new w4 (.cells #[.int .i64 c, .int .i64 a] 25 (0, 0)); have o1 := lt_of_block s4.out; obtain ⟨k1, k2, -⟩ := blk2 QT.out; obtain ⟨k3, k4, -⟩ := blk2 QE.out; obtain ⟨m1, m2, m3, m4⟩ := blk2 QW.out; (have n1 : ¬ w4.heap.size = w3.heap.size := by omega); (have n2 : ¬ w4.heap.size = w3.heap.size + 1 := by omega); (have n3 : ¬ w4.heap.size = w.heap.size := by omega); go_wp2_with fail; generalize w4.alloc _ = W at *
  go_loopg [8] 1 (fun g c wr => g = 1 ∧ c = .int .i64 0 ∧ wr = W)
  case atStart => exact ⟨rfl, rfl, rfl⟩
  case round =>
    obtain ⟨hg, rfl, hw⟩ := hrel; have hw' := hw.symm; subst hw'; clear hg; by_cases h0 : 0 < l.length
    · have h0I : (0 : Int) < (l.length : Int) := by omega
      go_wp2_with fail; go_ret; exact ⟨rfl, BW⟩
    · have h0I : decide ((0 : Int) < (l.length : Int)) = false := decide_eq_false (by omega)
      (have h0J : ¬ (0 : Int) < (l.length : Int) := by omega); go_wp2_with fail; go_ret; exact ⟨rfl, BW⟩

set_option maxRecDepth 10000 in
set_option maxHeartbeats 8000000 in
theorem tm_many (f : Fm) (l : List (List UInt8)) (_ : ∀ t ∈ l, t.length ≤ maxLen) (v u : Value) (w : World) (hrep : Rep w (fun _ => True) f v) (hu : SL w u l) (hpc : f.pcode = (0, 0)) (hl : 4 < l.length) :
    Calls Try.prog 4 #[v, u] w fun e w' => e = .returned (.bool true) ∧ Below w.heap.size w w' := by
  (have hva := fun v w h => vast2_any f v w h); (have hpf := fun v (w : World) h => plainR_any [f] (by simp) v w h); rw [pfirst_one, hpc] at hpf; (have hma := fun v u (w : World) h h' => made_many f l v u w h h' hpc hl); obtain ⟨k, n, ks⟩ := f; obtain ⟨sl, cap, rfl⟩ := slice_shape hrep; have HU : Hid (SL w u l) := hu; obtain ⟨adU, cpU, rfl, hl1, hl2, hl3⟩ := hu; have HL3 : Hid (l ≠ [] → ∃ g off, adU = some ⟨g, off, none⟩ ∧ ∀ (j : Nat) (t : List UInt8), l[j]? = some t → w.cell? ⟨g, off + j, none⟩ = some (.string ⟨t.toArray⟩)) := hl3; (have hlI : (l.length : Int) ≤ 9223372036854775807 := by unfold maxLen at hl2; omega); (have H1 : Hid (∀ v w, Rep w (fun _ => True) (.mk k n ks) v → Calls Try.prog 13 _ w _) := hva); have H2 : Hid (∀ v w, FL w v [.mk k n ks] → Calls Try.prog 15 _ w _) := hpf; (have HM : Hid (∀ v u w, Rep w (fun _ => True) (.mk k n ks) v → SL w u l → Calls Try.prog 14 #[v, u] w _) := hma); (have HB : Hid (∀ w, Calls Try.prog 10 #[] w _) := fun w => truthBegun_any w); (have HRep : Hid (Rep w (fun _ => True) (.mk k n ks) (.agg #[.int .i64 k, .string n, .slice sl ks.length cap])) := hrep); clear hva hpf hma hl3 hrep hpc HL3; (have h4I : (4 : Int) < (l.length : Int) := by omega); (have HF : Hid (∀ w, Calls Try.prog 16 #[.int .i64 2, .int .i64 0] w _) := fun w => mkF_any 2 0 w)
  go_enter Try.func4, Try.ntmps4
  go_wp2_with fail; refine (HB.out _).mono ?_; rintro e w1 ⟨rfl, hb1⟩; have q1 : Hid _ := below_keep hb1 (blk_new w _); have B1 := below_join (below_more (Below.refl _ w) _) hb1; obtain ⟨a0, a1, a2, -⟩ := blk3 q1.out; go_wp2_with fail; refine (H1.out _ _ (HRep.out.up B1)).mono ?_; rintro e w2 ⟨⟨b1, rfl, -⟩, hb2⟩; have q2 : Hid _ := below_keep hb2 q1.out; have B2 := below_join B1 hb2; clear a0 a1 a2
  cases b1
  case true =>
    go_wp2_with fail; go_ret; exact ⟨rfl, B2⟩
  case false =>
  obtain ⟨a0, a1, a2, -⟩ := blk3 q2.out; go_wp2_with fail; refine (HM.out _ _ _ (HRep.out.up B2) (HU.out.up B2)).mono ?_; rintro e w3 ⟨rfl, hb3⟩; have q3 : Hid _ := below_keep hb3 q2.out; have B3 := below_join B2 hb3; clear a0 a1 a2; obtain ⟨a0, a1, a2, -⟩ := blk3 q3.out; have l3 := lt_of_block q3.out; go_wp2_with fail; have nb := blk_sec (w3.alloc (.cells #[.int .i64 0, .slice none 0 0] 33 (0, 0))) (.cells #[.int .i64 2, .int .i64 0] 25 (0, 0)) (.cells #[.int .i64 k, .string n, .slice sl ks.length cap] 37 (0, 0)); (rw [show (w3.alloc (.cells #[.int .i64 0, .slice none 0 0] 33 (0, 0))).heap.size = w3.heap.size + 1 by simp] at nb); refine (H2.out _ _ (FL.alone nb (HRep.out.up (below_more (below_more (below_more B3 _) _) _)))).mono ?_; rintro e w4 ⟨rfl, hb4⟩; have q4 : Hid _ := below_keep hb4 (alloc_keep (alloc_keep (alloc_keep q3.out _) _) _); have r4 : Hid _ := below_keep hb4 (alloc_keep (alloc_keep (blk_new w3 _) _) _); have s4 : Hid _ := below_keep hb4 (alloc_keep (blk_sec w3 _ _) _); have B4 := below_join (below_more (below_more (below_more B3 _) _) _) hb4; clear a0 a1 a2 nb; have BW := below_more B4 (.cells #[.int .i64 0, .int .i64 0] 25 (0, 0)); have Q0 : Hid _ := alloc_keep q4.out (.cells #[.int .i64 0, .int .i64 0] 25 (0, 0)); have QT : Hid _ := alloc_keep r4.out (.cells #[.int .i64 0, .int .i64 0] 25 (0, 0)); have QE : Hid _ := alloc_keep s4.out (.cells #[.int .i64 0, .int .i64 0] 25 (0, 0)); have QW : Hid _ := blk_new w4 (.cells #[.int .i64 0, .int .i64 0] 25 (0, 0)); have o1 := lt_of_block s4.out; obtain ⟨k1, k2, -⟩ := blk2 QT.out; obtain ⟨k3, k4, -⟩ := blk2 QE.out; obtain ⟨m1, m2, m3, m4⟩ := blk2 QW.out; (have n1 : ¬ w4.heap.size = w3.heap.size := by omega); (have n2 : ¬ w4.heap.size = w3.heap.size + 1 := by omega); (have n3 : ¬ w4.heap.size = w.heap.size := by omega); go_wp2_with fail; refine (HF.out _).mono ?_; rintro e w5 ⟨rfl, hb5⟩; have B5 := below_join BW hb5; have t0 := below_keep hb5 QW.out; have t1 := below_keep hb5 QT.out; have t2 := below_keep hb5 QE.out; (obtain ⟨s1, s2, s3⟩ := flt_set (R := w4.heap.size) (by omega) B5 t0 2 0); (have t3 := (s3 _ (fun e => n1 e.symm)).trans t1); (have t4 := (s3 _ (fun e => n2 e.symm)).trans t2); clear m1 m2 m3 m4 k1 k2 k3 k4; obtain ⟨m1, m2, m3, m4⟩ := blk2 t0; go_wp2_with fail; generalize World.setCell _ _ _ = W at s1 s2 s3 t3 t4 ⊢; clear m1 m2 m3 m4 s3; obtain ⟨m1, m2, -⟩ := blk2 s1; obtain ⟨k1, k2, -⟩ := blk2 t3; obtain ⟨k3, k4, -⟩ := blk2 t4
  go_loopg [8] 1 (fun g c wr => g = 1 ∧ c = .int .i64 0 ∧ wr = W)
  case atStart => exact ⟨rfl, rfl, rfl⟩
  case round =>
    obtain ⟨hg, rfl, hw⟩ := hrel; have hw' := hw.symm; subst hw'; clear hg; (have h0I : (0 : Int) < (l.length : Int) := by omega); go_wp2_with fail; go_ret; exact ⟨rfl, s2⟩

theorem unfit_is {l : List (List UInt8)} {u : Nat} (h : unfit l = (u : Nat)) : u < l.length ∧ badAt l u = true ∧ ∀ j, j < u → badAt l j = false := by
  unfold unfit at h
  cases hf : (List.range l.length).find? (badAt l) with
  | none => rw [hf] at h; simp at h
  | some i =>
    rw [hf] at h; have h : i = u := Int.ofNat.inj h; subst h; rw [List.find?_range_eq_some] at hf; (exact ⟨List.mem_range.1 hf.2.1, hf.1, fun j hj => by simpa using hf.2.2 j hj⟩)

/-- The blocks of TruthMade that stay. -/
def TMb (w : World) (O T E : Obj) (a b : Nat) (wr : World) : Prop := Below w.heap.size w wr ∧ wr.heap[w.heap.size]? = some O ∧ wr.heap[a]? = some T ∧ wr.heap[b]? = some E
theorem TMb.up {w : World} {O T E : Obj} {a b : Nat} {wr wr' : World} (h : TMb w O T E a b wr) (hb : Below wr.heap.size wr wr') : TMb w O T E a b wr' :=
  ⟨below_join h.1 hb, below_keep hb h.2.1, below_keep hb h.2.2.1, below_keep hb h.2.2.2⟩
theorem TMb.drewN {w : World} {O T E : Obj} {a b : Nat} {wr : World} (h : TMb w O T E a b wr) (n : Nat) : TMb w O T E a b (wr.drewN n) :=
  ⟨⟨h.1.os, h.1.tape, h.1.output, h.1.size, h.1.block⟩, h.2.1, h.2.2.1, h.2.2.2⟩
/-- A fault is laid beside them. -/
theorem TMb.put {w : World} {O T E : Obj} {a b : Nat} {wr : World} (h : TMb w O T E a b wr) {R : Nat} {x0 x1 : Value} (hR : w.heap.size < R) (ha : R ≠ a) (hb : R ≠ b) (q : wr.heap[R]? = some (.cells #[x0, x1] 25 (0, 0))) (c d : Int) :
    TMb w O T E a b ((wr.setCell ⟨R, 0, none⟩ (.int .i64 c)).setCell ⟨R, 1, none⟩ (.int .i64 d)) ∧ ((wr.setCell ⟨R, 0, none⟩ (.int .i64 c)).setCell ⟨R, 1, none⟩ (.int .i64 d)).heap[R]? = some (.cells #[.int .i64 c, .int .i64 d] 25 (0, 0)) := by
  (obtain ⟨s1, s2, s3⟩ := flt_set (R := R) (by omega) h.1 q c d); (exact ⟨⟨s2, (s3 _ (by omega)).trans h.2.1, (s3 _ (Ne.symm ha)).trans h.2.2.1, (s3 _ (Ne.symm hb)).trans h.2.2.2⟩, s1⟩)

set_option maxRecDepth 10000 in
set_option maxHeartbeats 8000000 in
theorem tm_unfit (f : Fm) (l : List (List UInt8)) (hmx : ∀ t ∈ l, t.length ≤ maxLen) (v u : Value) (w : World) (hrep : Rep w (fun _ => True) f v) (hu : SL w u l) (hpc : f.pcode = (0, 0)) (hl : l.length ≤ 4) (un : Nat) (hun : unfit l = (un : Nat)) :
    Calls Try.prog 4 #[v, u] w fun e w' => e = .returned (.bool true) ∧ Below w.heap.size w w' := by
  (have hva := fun v w h => vast2_any f v w h); (have hpf := fun v (w : World) h => plainR_any [f] (by simp) v w h); rw [pfirst_one, hpc] at hpf; (have hma := fun v u (w : World) h h' => made_unfit f l v u w h h' hmx hpc hl (un : Nat) (by omega) hun); obtain ⟨hu1, hu2, hu3⟩ := unfit_is hun; have HU3 : Hid (badAt l un = true ∧ ∀ j, j < un → badAt l j = false) := ⟨hu2, hu3⟩; have HMx : Hid (∀ t ∈ l, t.length ≤ maxLen) := hmx; obtain ⟨k, n, ks⟩ := f; obtain ⟨sl, cap, rfl⟩ := slice_shape hrep; have HU : Hid (SL w u l) := hu; obtain ⟨adU, cpU, rfl, hl1, hl2, hl3⟩ := hu; have HL3 : Hid (l ≠ [] → ∃ g off, adU = some ⟨g, off, none⟩ ∧ ∀ (j : Nat) (t : List UInt8), l[j]? = some t → w.cell? ⟨g, off + j, none⟩ = some (.string ⟨t.toArray⟩)) := hl3; (have hlI : (l.length : Int) ≤ 9223372036854775807 := by unfold maxLen at hl2; omega); (have H1 : Hid (∀ v w, Rep w (fun _ => True) (.mk k n ks) v → Calls Try.prog 13 _ w _) := hva); have H2 : Hid (∀ v w, FL w v [.mk k n ks] → Calls Try.prog 15 _ w _) := hpf; (have HM : Hid (∀ v u w, Rep w (fun _ => True) (.mk k n ks) v → SL w u l → Calls Try.prog 14 #[v, u] w _) := hma); (have HB : Hid (∀ w, Calls Try.prog 10 #[] w _) := fun w => truthBegun_any w); (have HRep : Hid (Rep w (fun _ => True) (.mk k n ks) (.agg #[.int .i64 k, .string n, .slice sl ks.length cap])) := hrep); clear hva hpf hma hl3 hrep hmx hpc hun hu2 hu3; (have h4I : ¬ (4 : Int) < (l.length : Int) := by omega); (have HF : Hid (∀ c a w, Calls Try.prog 16 #[.int .i64 c, .int .i64 a] w _) := fun c a w => mkF_any c a w)
  go_enter Try.func4, Try.ntmps4
  go_wp2_with fail; refine (HB.out _).mono ?_; rintro e w1 ⟨rfl, hb1⟩; have q1 : Hid _ := below_keep hb1 (blk_new w _); have B1 := below_join (below_more (Below.refl _ w) _) hb1; obtain ⟨a0, a1, a2, -⟩ := blk3 q1.out; go_wp2_with fail; refine (H1.out _ _ (HRep.out.up B1)).mono ?_; rintro e w2 ⟨⟨b1, rfl, -⟩, hb2⟩; have q2 : Hid _ := below_keep hb2 q1.out; have B2 := below_join B1 hb2; clear a0 a1 a2
  cases b1
  case true =>
    go_wp2_with fail; go_ret; exact ⟨rfl, B2⟩
  case false =>
  obtain ⟨a0, a1, a2, -⟩ := blk3 q2.out; go_wp2_with fail; refine (HM.out _ _ _ (HRep.out.up B2) (HU.out.up B2)).mono ?_; rintro e w3 ⟨rfl, hb3⟩; have q3 : Hid _ := below_keep hb3 q2.out; have B3 := below_join B2 hb3; clear a0 a1 a2; obtain ⟨a0, a1, a2, -⟩ := blk3 q3.out; have l3 := lt_of_block q3.out; go_wp2_with fail; have nb := blk_sec (w3.alloc (.cells #[.int .i64 0, .slice none 0 0] 33 (0, 0))) (.cells #[.int .i64 8, .int .i64 (un : Nat)] 25 (0, 0)) (.cells #[.int .i64 k, .string n, .slice sl ks.length cap] 37 (0, 0)); (rw [show (w3.alloc (.cells #[.int .i64 0, .slice none 0 0] 33 (0, 0))).heap.size = w3.heap.size + 1 by simp] at nb); refine (H2.out _ _ (FL.alone nb (HRep.out.up (below_more (below_more (below_more B3 _) _) _)))).mono ?_; rintro e w4 ⟨rfl, hb4⟩; have q4 : Hid _ := below_keep hb4 (alloc_keep (alloc_keep (alloc_keep q3.out _) _) _); have r4 : Hid _ := below_keep hb4 (alloc_keep (alloc_keep (blk_new w3 _) _) _); have s4 : Hid _ := below_keep hb4 (alloc_keep (blk_sec w3 _ _) _); have B4 := below_join (below_more (below_more (below_more B3 _) _) _) hb4; clear a0 a1 a2 nb; have BW := below_more B4 (.cells #[.int .i64 0, .int .i64 0] 25 (0, 0)); have Q0 : Hid _ := alloc_keep q4.out (.cells #[.int .i64 0, .int .i64 0] 25 (0, 0)); have QT : Hid _ := alloc_keep r4.out (.cells #[.int .i64 0, .int .i64 0] 25 (0, 0)); have QE : Hid _ := alloc_keep s4.out (.cells #[.int .i64 0, .int .i64 0] 25 (0, 0)); have QW : Hid _ := blk_new w4 (.cells #[.int .i64 0, .int .i64 0] 25 (0, 0)); have o1 := lt_of_block s4.out; obtain ⟨k1, k2, -⟩ := blk2 QT.out; obtain ⟨k3, k4, -⟩ := blk2 QE.out; obtain ⟨m1, m2, m3, m4⟩ := blk2 QW.out; (have n1 : ¬ w4.heap.size = w3.heap.size := by omega); (have n2 : ¬ w4.heap.size = w3.heap.size + 1 := by omega); (have n3 : ¬ w4.heap.size = w.heap.size := by omega); go_wp2_with fail; have HS0 : Hid (TMb w (.cells #[.int .i64 k, .string n, .slice sl ks.length cap] 37 (0, 0)) (.cells #[.int .i64 0, .slice none 0 0] 33 (0, 0)) (.cells #[.int .i64 8, .int .i64 (un : Nat)] 25 (0, 0)) w3.heap.size (w3.heap.size + 1) (w4.alloc (.cells #[.int .i64 0, .int .i64 0] 25 (0, 0)))) := ⟨BW, Q0.out, QT.out, QE.out⟩; clear k1 k2 k3 k4 m1 m2 m3 m4 Q0 QT QE BW; generalize w4.alloc _ = W at *
  go_loopg [8] l.length (fun g c wr => ∃ i ci ai, i ≤ l.length ∧ g = l.length - i ∧ c = .int .i64 (i : Nat) ∧ Hid (TMb w (.cells #[.int .i64 k, .string n, .slice sl ks.length cap] 37 (0, 0)) (.cells #[.int .i64 0, .slice none 0 0] 33 (0, 0)) (.cells #[.int .i64 8, .int .i64 (un : Nat)] 25 (0, 0)) w3.heap.size (w3.heap.size + 1) wr) ∧ wr.heap[w4.heap.size]? = some (.cells #[.int .i64 ci, .int .i64 ai] 25 (0, 0)) ∧ Hid ((i ≤ un ∧ ci = 0 ∧ ai = 0) ∨ (i = un + 1 ∧ ci = 8 ∧ ai = (un : Nat))))
  case atStart => exact ⟨0, 0, 0, by omega, by omega, rfl, HS0, QW.out, Or.inl ⟨by omega, rfl, rfl⟩⟩
  case round =>
    obtain ⟨i, ci, ai, hi, hg, rfl, HS, qw, HK⟩ := hrel; have HG : Hid (gk = l.length - i) := hg; clear hg HS0 QW; have hst := HS.out; obtain ⟨m1, m2, m3, m4⟩ := blk2 qw; obtain ⟨k1, k2, -⟩ := blk2 hst.2.2.1; obtain ⟨k3, k4, -⟩ := blk2 hst.2.2.2; have Qw : Hid _ := qw; clear qw
    rcases HK.out with ⟨hiu, rfl, rfl⟩ | ⟨hiu, rfl, rfl⟩
    · have hlt : i < l.length := by omega
      obtain ⟨t, ht⟩ : ∃ x, l[i]? = some x := ⟨_, List.getElem?_eq_getElem hlt⟩; (obtain ⟨g, off, rfl, hc⟩ := HL3.out (fun e => by rw [e] at hlt; simp at hlt)); have g0 := (hst.1.cell (p := ⟨g, off + i, none⟩) (lt_of_cell (hc i t ht))).trans (hc i t ht); (have hltI : (i : Int) < (l.length : Int) := by omega); (have hlc : (i : Int) < (cpU : Int) := by omega); (have hlc2 : (i : Int) ≤ (cpU : Int) := by omega); (have his := fun w => refName_any ⟨t.toArray⟩ (by simpa [ByteArray.size] using HMx.out t (List.mem_of_getElem? ht)) w); rw [show (⟨t.toArray⟩ : ByteArray).data.toList = t from rfl] at his; (have hht := fun w h => hasText_sl (l.take i) t (.slice (some ⟨g, off, none⟩) i cpU) w h); have hba := badAt_of ht; have HT : Hid (SL wr (.slice (some ⟨g, off, none⟩) i cpU) (l.take i)) := (HU.out.up hst.1).take hi; generalize isNm t = b1 at *; generalize decide (t ∈ l.take i) = b2 at *; have HIs : Hid (∀ w, Calls Try.prog 17 _ w _) := his; have HHt : Hid (∀ w, SL w (.slice (some ⟨g, off, none⟩) i cpU) (l.take i) → Calls Try.prog 18 _ w _) := hht; generalize (⟨t.toArray⟩ : ByteArray) = X at *; clear his hht hc ht; have HBa : Hid (badAt l i = (!b1 || b2)) := hba; have HSl := HS.out
      have hcase : (i < un ∧ b1 = true ∧ b2 = false) ∨ (i = un ∧ b1 = false) ∨ (i = un ∧ b1 = true ∧ b2 = true) := by
        by_cases h : i < un
        · have := HU3.out.2 i h
          rw [HBa.out] at this
          cases b1 <;> cases b2 <;> simp at this
          exact Or.inl ⟨h, rfl, rfl⟩
        · have e : i = un := by omega
          have := HU3.out.1; rw [← e, HBa.out] at this
          cases b1
          · exact Or.inr (Or.inl ⟨e, rfl⟩)
          · cases b2
            · simp at this
            · exact Or.inr (Or.inr ⟨e, rfl, rfl⟩)
      clear hba hst HSl HBa HU3 HL3
      rcases hcase with ⟨h, rfl, rfl⟩ | ⟨rfl, rfl⟩ | ⟨rfl, rfl, rfl⟩
      · go_wp2_with fail
        go_quiet (first
          | (go_at_call 17
             refine Calls.quiet_of_same (HIs.out _))
          | (go_at_call 18
             refine Calls.quiet_of_same (HHt.out _ HT.out)))
        go_wp2_with fail
        go_roundg (l.length - (i + 1))
        case measure => have := HG.out; omega
        case rel => exact ⟨i + 1, 0, 0, by omega, rfl, by go_num, HS.out.drewN nq, Qw.out, Or.inl ⟨by omega, rfl, rfl⟩⟩
      all_goals
        go_wp2_with fail
        go_quiet (first
          | (go_at_call 17
             refine Calls.quiet_of_same (HIs.out _))
          | (go_at_call 18
             refine Calls.quiet_of_same (HHt.out _ HT.out)))
        go_wp2_with fail; refine (HF.out _ _ _).mono ?_; rintro e w5 ⟨rfl, hb5⟩; have hS5 := (HS.out.drewN nq).up hb5; have q5 := below_keep hb5 (show (wr.drewN nq).heap[w4.heap.size]? = _ from Qw.out); (obtain ⟨p1, p2⟩ := hS5.put (R := w4.heap.size) (by omega) n1 n2 q5 8 (i : Nat)); have HP1 : Hid (TMb _ _ _ _ _ _ _) := p1; have HP2 : Hid _ := p2; clear hS5 p1 p2 m1 m2 m3 m4; obtain ⟨m1, m2, m3, m4⟩ := blk2 q5; go_wp2_with fail
        go_roundg (l.length - (i + 1))
        case measure => have := HG.out; omega
        case rel => exact ⟨i + 1, 8, (i : Nat), by omega, rfl, by go_num, HP1.out, HP2.out, Or.inr ⟨by omega, rfl, rfl⟩⟩
    · have BW := hst.1
      clear hst HU3 HL3; by_cases h0 : i < l.length
      · have h0I : (i : Int) < (l.length : Int) := by omega
        go_wp2_with fail; go_ret; exact ⟨rfl, BW⟩
      · have h0I : decide ((i : Int) < (l.length : Int)) = false := decide_eq_false (by omega)
        (have h0J : ¬ (i : Int) < (l.length : Int) := by omega); go_wp2_with fail; go_ret; exact ⟨rfl, BW⟩
end Go.Proofs.Ytffkoiemnchdgab
