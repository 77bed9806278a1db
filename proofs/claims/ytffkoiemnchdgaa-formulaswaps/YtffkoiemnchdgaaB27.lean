/- Texts of one proof, one behind the other: Swaps3. -/
import Derived.Test.YtffkoiemnchdgaaB26
import Derived.Test.YtffkoiemnchdgaaB18
import Derived.Deep.DeepCutAuto
/- Walks: FormulaSwaps, its first Put. -/
namespace Go.Proofs.Ytffkoiemnchdgaa
open Go.RowKit

/-- What lies in memory behind the first Put. -/
def Sw (w : World) (O0 O1 : Obj) (k3 : Int) (n3 : ByteArray) (ks3 : List Fm) (c a : Int) (b7 b8 : Nat) (sl3 : Option Addr) (cp3 : Nat) (wc : World) : Prop :=
  b7 ≠ b8 ∧ w.heap.size + 2 ≤ b7 ∧ w.heap.size + 2 ≤ b8 ∧ Below w.heap.size w wc ∧ wc.heap[w.heap.size]? = some O0 ∧ wc.heap[w.heap.size + 1]? = some O1 ∧ wc.heap[b7]? = some (.cells #[.int .i64 k3, .string n3, .slice sl3 ks3.length cp3] 24 (0, 0)) ∧ wc.heap[b8]? = some (.cells #[.int .i64 c, .int .i64 a] 29 (0, 0)) ∧ Rep wc (fun _ => True) (.mk k3 n3 ks3) (.agg #[.int .i64 k3, .string n3, .slice sl3 ks3.length cp3])

section
variable {w w6 : World} {O0 O1 : Obj} {k3 : Int} {n3 : ByteArray} {ks3 : List Fm} {c a : Int} {b7 b8 m : Nat} {sl3 : Option Addr} {cp3 : Nat}

theorem sw_nn1 (hs : w.heap.size + 2 ≤ w6.heap.size) (B : Below w.heap.size w w6) (p0 : w6.heap[w.heap.size]? = some O0) (p1 : w6.heap[w.heap.size + 1]? = some O1) (hrep : Rep w6 (m ≤ ·) (.mk k3 n3 ks3) (.agg #[.int .i64 k3, .string n3, .slice sl3 ks3.length cp3])) :
    Sw w O0 O1 k3 n3 ks3 c a w6.heap.size (w6.heap.size + 1) sl3 cp3 ((w6.alloc (.cells #[.int .i64 k3, .string n3, .slice sl3 ks3.length cp3] 24 (0, 0))).alloc (.cells #[.int .i64 c, .int .i64 a] 29 (0, 0))) := by
  have := blk_new (w6.alloc (.cells #[.int .i64 k3, .string n3, .slice sl3 ks3.length cp3] 24 (0, 0))) (.cells #[.int .i64 c, .int .i64 a] 29 (0, 0)); (rw [show (w6.alloc (.cells #[.int .i64 k3, .string n3, .slice sl3 ks3.length cp3] 24 (0, 0))).heap.size = w6.heap.size + 1 by simp] at this); (exact ⟨by omega, hs, by omega, below_more (below_more B _) _, alloc_keep (alloc_keep p0 _) _, alloc_keep (alloc_keep p1 _) _, alloc_keep (blk_new _ _) _, this, (hrep.all.more _).more _⟩)
theorem sw_nn2 (hs : w.heap.size + 2 ≤ w6.heap.size) (B : Below w.heap.size w w6) (p0 : w6.heap[w.heap.size]? = some O0) (p1 : w6.heap[w.heap.size + 1]? = some O1) (hrep : Rep w6 (m ≤ ·) (.mk k3 n3 ks3) (.agg #[.int .i64 k3, .string n3, .slice sl3 ks3.length cp3])) :
    Sw w O0 O1 k3 n3 ks3 c a (w6.heap.size + 1) w6.heap.size sl3 cp3 ((w6.alloc (.cells #[.int .i64 c, .int .i64 a] 29 (0, 0))).alloc (.cells #[.int .i64 k3, .string n3, .slice sl3 ks3.length cp3] 24 (0, 0))) := by
  have := blk_new (w6.alloc (.cells #[.int .i64 c, .int .i64 a] 29 (0, 0))) (.cells #[.int .i64 k3, .string n3, .slice sl3 ks3.length cp3] 24 (0, 0)); (rw [show (w6.alloc (.cells #[.int .i64 c, .int .i64 a] 29 (0, 0))).heap.size = w6.heap.size + 1 by simp] at this); (exact ⟨by omega, by omega, hs, below_more (below_more B _) _, alloc_keep (alloc_keep p0 _) _, alloc_keep (alloc_keep p1 _) _, this, alloc_keep (blk_new _ _) _, (hrep.all.more _).more _⟩)

theorem set_rep {b : Nat} {f : Fm} {v : Value} (hb : b < m) (hrep : Rep w6 (m ≤ ·) f v) (o : Nat) (u : Value) : Rep (w6.setCell ⟨b, o, none⟩ u) (m ≤ ·) f v :=
  hrep.move fun x _ hx => ⟨Below.heap_setCell _ _ _ _ (by have : m ≤ x := hx; simp; omega), hx⟩
theorem set_far {b x : Nat} {o : Obj} (h : w6.heap[x]? = some o) (hb : x ≠ b) (off : Nat) (u : Value) : (w6.setCell ⟨b, off, none⟩ u).heap[x]? = some o := (Below.heap_setCell _ _ _ _ (by simpa using hb)).trans h

theorem sw_on (h7 : w.heap.size + 2 ≤ b7) (l7 : b7 < m) (n7 : w6.heap[b7]? = some (.cells #[.int .i64 0, .string ⟨#[]⟩, .slice none 0 0] 24 (0, 0))) (B : Below w.heap.size w w6) (p0 : w6.heap[w.heap.size]? = some O0) (p1 : w6.heap[w.heap.size + 1]? = some O1) (hrep : Rep w6 (m ≤ ·) (.mk k3 n3 ks3) (.agg #[.int .i64 k3, .string n3, .slice sl3 ks3.length cp3])) :
    Sw w O0 O1 k3 n3 ks3 c a b7 w6.heap.size sl3 cp3 ((((w6.setCell ⟨b7, 0, none⟩ (.int .i64 k3)).setCell ⟨b7, 1, none⟩ (.string n3)).setCell ⟨b7, 2, none⟩ (.slice sl3 ks3.length cp3)).alloc (.cells #[.int .i64 c, .int .i64 a] 29 (0, 0))) := by
  have z := lt_of_block n7; (have e : (((w6.setCell ⟨b7, 0, none⟩ (.int .i64 k3)).setCell ⟨b7, 1, none⟩ (.string n3)).setCell ⟨b7, 2, none⟩ (.slice sl3 ks3.length cp3)).heap.size = w6.heap.size := by simp [World.setCell]); have := blk_new (((w6.setCell ⟨b7, 0, none⟩ (.int .i64 k3)).setCell ⟨b7, 1, none⟩ (.string n3)).setCell ⟨b7, 2, none⟩ (.slice sl3 ks3.length cp3)) (.cells #[.int .i64 c, .int .i64 a] 29 (0, 0)); rw [e] at this; (exact ⟨by omega, h7, by omega, below_more (((B.setCell (by simp; omega) _).setCell (by simp; omega) _).setCell (by simp; omega) _) _, alloc_keep (set_far (set_far (set_far p0 (by omega) _ _) (by omega) _ _) (by omega) _ _) _, alloc_keep (set_far (set_far (set_far p1 (by omega) _ _) (by omega) _ _) (by omega) _ _) _, alloc_keep (set3 n7 _ _ _) _, this, (set_rep l7 (set_rep l7 (set_rep l7 hrep _ _) _ _) _ _).all.more _⟩)
theorem sw_no (h8 : w.heap.size + 2 ≤ b8) (l8 : b8 < m) (n8 : w6.heap[b8]? = some (.cells #[.int .i64 0, .int .i64 0] 29 (0, 0))) (B : Below w.heap.size w w6) (p0 : w6.heap[w.heap.size]? = some O0) (p1 : w6.heap[w.heap.size + 1]? = some O1) (hrep : Rep w6 (m ≤ ·) (.mk k3 n3 ks3) (.agg #[.int .i64 k3, .string n3, .slice sl3 ks3.length cp3])) :
    Sw w O0 O1 k3 n3 ks3 c a w6.heap.size b8 sl3 cp3 (((w6.setCell ⟨b8, 0, none⟩ (.int .i64 c)).setCell ⟨b8, 1, none⟩ (.int .i64 a)).alloc (.cells #[.int .i64 k3, .string n3, .slice sl3 ks3.length cp3] 24 (0, 0))) := by
  have z := lt_of_block n8; (have e : ((w6.setCell ⟨b8, 0, none⟩ (.int .i64 c)).setCell ⟨b8, 1, none⟩ (.int .i64 a)).heap.size = w6.heap.size := by simp [World.setCell]); have := blk_new ((w6.setCell ⟨b8, 0, none⟩ (.int .i64 c)).setCell ⟨b8, 1, none⟩ (.int .i64 a)) (.cells #[.int .i64 k3, .string n3, .slice sl3 ks3.length cp3] 24 (0, 0)); rw [e] at this; (exact ⟨by omega, by omega, h8, below_more ((B.setCell (by simp; omega) _).setCell (by simp; omega) _) _, alloc_keep (set_far (set_far p0 (by omega) _ _) (by omega) _ _) _, alloc_keep (set_far (set_far p1 (by omega) _ _) (by omega) _ _) _, this, alloc_keep (set2 n8 _ _) _, (set_rep l8 (set_rep l8 hrep _ _) _ _).all.more _⟩)
theorem sw_oo (hne : b7 ≠ b8) (h7 : w.heap.size + 2 ≤ b7) (l7 : b7 < m) (n7 : w6.heap[b7]? = some (.cells #[.int .i64 0, .string ⟨#[]⟩, .slice none 0 0] 24 (0, 0))) (h8 : w.heap.size + 2 ≤ b8) (l8 : b8 < m) (n8 : w6.heap[b8]? = some (.cells #[.int .i64 0, .int .i64 0] 29 (0, 0))) (B : Below w.heap.size w w6) (p0 : w6.heap[w.heap.size]? = some O0) (p1 : w6.heap[w.heap.size + 1]? = some O1) (hrep : Rep w6 (m ≤ ·) (.mk k3 n3 ks3) (.agg #[.int .i64 k3, .string n3, .slice sl3 ks3.length cp3])) :
    Sw w O0 O1 k3 n3 ks3 c a b7 b8 sl3 cp3 (((((w6.setCell ⟨b7, 0, none⟩ (.int .i64 k3)).setCell ⟨b7, 1, none⟩ (.string n3)).setCell ⟨b7, 2, none⟩ (.slice sl3 ks3.length cp3)).setCell ⟨b8, 0, none⟩ (.int .i64 c)).setCell ⟨b8, 1, none⟩ (.int .i64 a)) := by
  (obtain ⟨x1, x2, x3, x4⟩ := two_set hne (by omega) (by omega) n7 n8 B (.int .i64 k3) (.string n3) (.slice sl3 ks3.length cp3) (.int .i64 c) (.int .i64 a)); (exact ⟨hne, h7, h8, x3, (x4 _ (by omega) (by omega)).trans p0, (x4 _ (by omega) (by omega)).trans p1, x1, x2, hrep.move fun b _ hb => ⟨x4 b (by have : m ≤ b := hb; omega) (by have : m ≤ b := hb; omega), trivial⟩⟩)
end

theorem blk_new2 (w : World) (o o' : Obj) : ((w.alloc o).alloc o').heap[w.heap.size + 1]? = some o' := by
  have := blk_new (w.alloc o) o'
  rwa [show (w.alloc o).heap.size = w.heap.size + 1 by simp] at this
theorem zf_ze {w : World} {a b : Nat} (h : w.heap[a]? = some (.cells #[.int .i64 0, .string ⟨#[]⟩, .slice none 0 0] 24 (0, 0))) (k : w.heap[b]? = some (.cells #[.int .i64 0, .int .i64 0] 29 (0, 0))) : ¬ a = b ∧ ¬ b = a := by
  have : ¬ a = b := by
    rintro rfl; rw [h] at k; simp at k
  (exact ⟨this, fun e => this e.symm⟩)
theorem keep_drew {w : World} {k : Nat} {o : Obj} (h : w.heap[k]? = some o) : w.drew.heap[k]? = some o := h

set_option maxRecDepth 30000 in
set_option maxHeartbeats 8000000 in
theorem swaps_walk (f g : Fm) (nm : ByteArray) (v u : Value) (w : World) (hrep : Rep w (fun _ => True) f v) (hu : Rep w (fun _ => True) g u)
    (r1 : Fm) (c1 a1 : Int) (hp1 : ∀ v u w, Rep w (fun _ => True) f v → Rep w (fun _ => True) (.mk 1 nm []) u → Calls Try.prog 22 #[v, .string nm, u] w fun e w' => ∃ x, e = .returned (.tuple #[x, .agg #[.int .i64 c1, .int .i64 a1]]) ∧ Rep w' (w.heap.size ≤ ·) r1 x ∧ Below w.heap.size w w')
    (hnm : nm.size ≤ maxLen) (hc1 : c1 = 0 → r1 = f)
    (r2 : Fm) (c2 a2 : Int) (hc12 : c1 ≠ 0 → c2 ≠ 0) (hp2 : ∀ v u w, Rep w (fun _ => True) f v → Rep w (fun _ => True) g u → Calls Try.prog 22 #[v, .string nm, u] w fun e w' => ∃ x, e = .returned (.tuple #[x, .agg #[.int .i64 c2, .int .i64 a2]]) ∧ Rep w' (w.heap.size ≤ ·) r2 x ∧ Below w.heap.size w w')
    (A Bl C : List (List UInt8))
    (hA : c2 = 0 → ∀ v w, Rep w (fun _ => True) f v → Calls Try.prog 20 #[v] w fun e w' => ∃ x, e = .returned (.tuple #[x, .agg #[.int .i64 0, .int .i64 0]]) ∧ TL w' x A ∧ Below w.heap.size w w')
    (hB : c2 = 0 → ∀ v w, Rep w (fun _ => True) g v → Calls Try.prog 20 #[v] w fun e w' => ∃ x, e = .returned (.tuple #[x, .agg #[.int .i64 0, .int .i64 0]]) ∧ TL w' x Bl ∧ Below w.heap.size w w')
    (hC : c2 = 0 → ∀ v w, Rep w (fun _ => True) r2 v → Calls Try.prog 20 #[v] w fun e w' => ∃ x, e = .returned (.tuple #[x, .agg #[.int .i64 0, .int .i64 0]]) ∧ TL w' x C ∧ Below w.heap.size w w')
    (hM : c2 = 0 → ∀ t, t ∈ C ↔ (t ∈ A ∧ t ≠ nm.data.toList) ∨ (nm.data.toList ∈ A ∧ t ∈ Bl)) :
    Calls Try.prog 7 #[v, u, .string nm] w fun e w' => e = .returned (.bool true) ∧ Below w.heap.size w w' := by
  (have hva := fun v w h => vast2_any f v w h); (have hvg := fun v w h => vast2_any g v w h); (have hsa := fun v u w h1 h2 => same_self f v u w h1 h2); obtain ⟨k, n, ks⟩ := f; obtain ⟨kg, ng, ksg⟩ := g; obtain ⟨k3, n3, ks3⟩ := r1; obtain ⟨k4, n4, ks4⟩ := r2; obtain ⟨sl, cap, rfl⟩ := slice_shape hrep; obtain ⟨slg, capg, rfl⟩ := slice_shape hu; have H1 : Hid (∀ v w, _ → Calls Try.prog 10 _ w _) := hva; have H2 : Hid (∀ v w, _ → Calls Try.prog 10 _ w _) := hvg; have H3 : Hid (∀ v u w, _ → _ → Calls Try.prog 22 _ w _) := hp1; have H4 : Hid (∀ v u w, _ → _ → Calls Try.prog 22 _ w _) := hp2; have H5 : Hid (∀ v u w, _ → _ → Calls Try.prog 15 #[v, u] w _) := hsa; have HA : Hid (c2 = 0 → ∀ v w, _ → Calls Try.prog 20 #[v] w _) := hA; have HB : Hid (c2 = 0 → ∀ v w, _ → Calls Try.prog 20 #[v] w _) := hB; have HCn : Hid (c2 = 0 → ∀ v w, _ → Calls Try.prog 20 #[v] w _) := hC; have HM : Hid (c2 = 0 → ∀ t, t ∈ C ↔ (t ∈ A ∧ t ≠ nm.data.toList) ∨ (nm.data.toList ∈ A ∧ t ∈ Bl)) := hM; have HF : Hid (c1 = 0 → Fm.mk k3 n3 ks3 = Fm.mk k n ks) := hc1; clear hva hvg hp1 hp2 hsa hA hB hC hM hc1
  go_enter Try.func7, Try.ntmps7
  go_wp2_with (first
    | (go_at_call 9
       refine (begun_any _).mono ?_; rintro e w1 ⟨rfl, hb1⟩; have q0 := below_keep hb1 (alloc_keep (blk_new w _) _); have q1 := below_keep hb1 (blk_new (w.alloc _) _); (rw [show (w.alloc _).heap.size = w.heap.size + 1 by simp] at q1); have B1 := below_join (below_more (below_more (Below.refl _ w) _) _) hb1; have R1 := hrep.up B1; have U1 := hu.up B1; have z1 := hb1.size
       obtain ⟨a0, a1', a2, -⟩ := blk3 q0)
    | (go_at_call 10
       have V2 := W2.out; refine (H2.out _ _ U2).mono ?_; rintro e w3 ⟨⟨b2, rfl, hs2⟩, hb3⟩; clear hs2; have B3 := below_join B2 hb3; have s0 := below_keep hb3 r0; have s1 := below_keep hb3 r1; have R3 := R2.up hb3; have U3 := U2.up hb3; have z3 := hb3.size; clear a0 a1' a2 d0 d1 d2
       cases b2)
    | (go_at_call 10
       refine (H1.out _ _ R1).mono ?_; rintro e w2 ⟨⟨b1, rfl, hs1⟩, hb2⟩; clear hs1; have B2 := below_join B1 hb2; have r0 := below_keep hb2 q0; have r1 := below_keep hb2 q1; have R2 := R1.up hb2; have U2 := U1.up hb2; have z2 := hb2.size; have W2 : Hid True := trivial; clear a0 a1' a2; obtain ⟨a0, a1', a2, -⟩ := blk3 r0; obtain ⟨d0, d1, d2, -⟩ := blk3 r1
       cases b1)
    | fail)
  · have hs3 : w.heap.size + 2 ≤ w3.heap.size := by simp at z1; omega
    obtain ⟨a0, a1', a2, -⟩ := blk3 s0; have y0 := lt_of_block s0; have hrep0 := hrep; have hu0 := hu; have HN3 : Hid True := trivial; clear q0 q1 r0 r1 R1 R2 U1 U2 B1 B2 hb1 hb2 hb3 z1 z2 z3 H1 H2 hrep hu W2
    go_cut [7, 8] from 27 (fun v7 v8 wc => (∃ (b7 b8 : Nat) (sl3 : Option Addr) (cp3 : Nat), v7 = .pointer (some ⟨b7, 0, none⟩) ∧ v8 = .pointer (some ⟨b8, 0, none⟩) ∧ Sw w (.cells #[.int .i64 k, .string n, .slice sl ks.length cap] 24 (0, 0)) (.cells #[.int .i64 kg, .string ng, .slice slg ksg.length capg] 24 (0, 0)) k3 n3 ks3 c1 a1 b7 b8 sl3 cp3 wc))
    case first =>
      (have HN : Hid (∀ w, Calls Try.prog 31 #[.string nm] w _) := fun w => named_any nm w); (have d3 : ¬ w3.heap.size = w.heap.size := by omega); (have dd3 : ¬ w3.heap.size + 1 = w.heap.size := by omega)
      go_region_held3 (fun w' => w'.cell? ⟨w.heap.size, 0, none⟩ = some (.int .i64 k) ∧ w'.cell? ⟨w.heap.size, 1, none⟩ = some (.string n) ∧ w'.cell? ⟨w.heap.size, 2, none⟩ = some (.slice sl ks.length cap)) (go_keep)
        (first
         | (go_at_call 31
            refine (HN.out _).mono ?_; rintro e w5 ⟨rfl, hb5⟩; have z5 := hb5.size; (have p0 := below_keep hb5 (by first | exact s0 | exact alloc_keep s0 _ | exact alloc_keep (alloc_keep s0 _) _)); (have p1 := below_keep hb5 (by first | exact s1 | exact alloc_keep s1 _ | exact alloc_keep (alloc_keep s1 _) _)); (have R5 := Rep.up (by first | exact R3.up (Below.refl _ _).drew | exact (R3.more _).up (Below.refl _ _).drew | exact ((R3.more _).more _).up (Below.refl _ _).drew) hb5); (have B5 := below_join (by first | exact B3.drew | exact (below_more B3 _).drew | exact (below_more (below_more B3 _) _).drew) hb5)
            try (have m7 := below_keep hb5 (keep_drew (blk_new w3 (.cells #[.int .i64 0, .string ⟨#[]⟩, .slice none 0 0] 24 (0, 0)))))
            try (have m7 := below_keep hb5 (keep_drew (alloc_keep (blk_new w3 (.cells #[.int .i64 0, .string ⟨#[]⟩, .slice none 0 0] 24 (0, 0))) (.cells #[.int .i64 0, .int .i64 0] 29 (0, 0)))))
            try (have m7 := below_keep hb5 (keep_drew (blk_new2 w3 (.cells #[.int .i64 0, .int .i64 0] 29 (0, 0)) (.cells #[.int .i64 0, .string ⟨#[]⟩, .slice none 0 0] 24 (0, 0)))))
            try (have m8 := below_keep hb5 (keep_drew (blk_new w3 (.cells #[.int .i64 0, .int .i64 0] 29 (0, 0)))))
            try (have m8 := below_keep hb5 (keep_drew (alloc_keep (blk_new w3 (.cells #[.int .i64 0, .int .i64 0] 29 (0, 0))) (.cells #[.int .i64 0, .string ⟨#[]⟩, .slice none 0 0] 24 (0, 0)))))
            try (have m8 := below_keep hb5 (keep_drew (blk_new2 w3 (.cells #[.int .i64 0, .string ⟨#[]⟩, .slice none 0 0] 24 (0, 0)) (.cells #[.int .i64 0, .int .i64 0] 29 (0, 0)))))
            obtain ⟨g0, g1, g2, -⟩ := blk3 p0; (have d5 : ¬ w5.heap.size = w.heap.size := by have := lt_of_block p0; omega)
            have dd5 : ¬ w5.heap.size + 1 = w.heap.size := by have := lt_of_block p0; omega)
         | (go_at_call 22
            (refine (H3.out _ _ _ (by first | exact R5 | exact R5.more _ | exact (R5.more _).more _) (Rep.leaf hnm)).mono ?_); rintro e w6 ⟨x, rfl, hrep6, hb6⟩; obtain ⟨sl3, cp3, rfl⟩ := slice_shape hrep6; have z6 := hb6.size; (have t0 := below_keep hb6 (by first | exact p0 | exact alloc_keep p0 _ | exact alloc_keep (alloc_keep p0 _) _)); (have t1 := below_keep hb6 (by first | exact p1 | exact alloc_keep p1 _ | exact alloc_keep (alloc_keep p1 _) _)); (have B6 := below_join (by first | exact B5 | exact below_more B5 _ | exact below_more (below_more B5 _) _) hb6)
            try (have n7 := below_keep hb6 m7
                 have l7 := lt_of_block m7)
            try (have n7 := below_keep hb6 (alloc_keep m7 (.cells #[.int .i64 0, .int .i64 0] 29 (0, 0)))
                 have l7 := lt_of_block (alloc_keep m7 (.cells #[.int .i64 0, .int .i64 0] 29 (0, 0))))
            try (have n7 := below_keep hb6 (blk_new w5 (.cells #[.int .i64 0, .string ⟨#[]⟩, .slice none 0 0] 24 (0, 0)))
                 have l7 := lt_of_block (blk_new w5 (.cells #[.int .i64 0, .string ⟨#[]⟩, .slice none 0 0] 24 (0, 0))))
            try (have n7 := below_keep hb6 (alloc_keep (blk_new w5 (.cells #[.int .i64 0, .string ⟨#[]⟩, .slice none 0 0] 24 (0, 0))) (.cells #[.int .i64 0, .int .i64 0] 29 (0, 0)))
                 have l7 := lt_of_block (alloc_keep (blk_new w5 (.cells #[.int .i64 0, .string ⟨#[]⟩, .slice none 0 0] 24 (0, 0))) (.cells #[.int .i64 0, .int .i64 0] 29 (0, 0))))
            try (have n7 := below_keep hb6 (blk_new2 w5 (.cells #[.int .i64 0, .int .i64 0] 29 (0, 0)) (.cells #[.int .i64 0, .string ⟨#[]⟩, .slice none 0 0] 24 (0, 0)))
                 have l7 := lt_of_block (blk_new2 w5 (.cells #[.int .i64 0, .int .i64 0] 29 (0, 0)) (.cells #[.int .i64 0, .string ⟨#[]⟩, .slice none 0 0] 24 (0, 0))))
            try (have n8 := below_keep hb6 m8
                 have l8 := lt_of_block m8)
            try (have n8 := below_keep hb6 (alloc_keep m8 (.cells #[.int .i64 0, .string ⟨#[]⟩, .slice none 0 0] 24 (0, 0)))
                 have l8 := lt_of_block (alloc_keep m8 (.cells #[.int .i64 0, .string ⟨#[]⟩, .slice none 0 0] 24 (0, 0))))
            try (have n8 := below_keep hb6 (blk_new w5 (.cells #[.int .i64 0, .int .i64 0] 29 (0, 0)))
                 have l8 := lt_of_block (blk_new w5 (.cells #[.int .i64 0, .int .i64 0] 29 (0, 0))))
            try (have n8 := below_keep hb6 (alloc_keep (blk_new w5 (.cells #[.int .i64 0, .int .i64 0] 29 (0, 0))) (.cells #[.int .i64 0, .string ⟨#[]⟩, .slice none 0 0] 24 (0, 0)))
                 have l8 := lt_of_block (alloc_keep (blk_new w5 (.cells #[.int .i64 0, .int .i64 0] 29 (0, 0))) (.cells #[.int .i64 0, .string ⟨#[]⟩, .slice none 0 0] 24 (0, 0))))
            try (have n8 := below_keep hb6 (blk_new2 w5 (.cells #[.int .i64 0, .string ⟨#[]⟩, .slice none 0 0] 24 (0, 0)) (.cells #[.int .i64 0, .int .i64 0] 29 (0, 0)))
                 have l8 := lt_of_block (blk_new2 w5 (.cells #[.int .i64 0, .string ⟨#[]⟩, .slice none 0 0] 24 (0, 0)) (.cells #[.int .i64 0, .int .i64 0] 29 (0, 0))))
            try (have n7' := n7
                 obtain ⟨x0, x1, x2, x3, x4, x5⟩ := blk3 n7'; have y7 := lt_of_block n7'; have yy7 := Nat.ne_of_gt y7
                 clear n7')
            try (have n8' := n8
                 obtain ⟨e0, e1, e2, e3⟩ := blk2 n8'; have y8 := lt_of_block n8'; have yy8 := Nat.ne_of_gt y8
                 clear n8')
            try (have n78 := zf_ze n7 n8
                 obtain ⟨ne1, ne2⟩ := n78)
            clear g0 g1 g2; obtain ⟨g0, g1, g2, -⟩ := blk3 t0; (have d6 : ¬ w6.heap.size = w.heap.size := by have := lt_of_block t0; omega)
            have dd6 : ¬ w6.heap.size + 1 = w.heap.size := by have := lt_of_block t0; omega)
         | fail)
      all_goals
        have hs5 : w.heap.size + 2 ≤ w5.heap.size := lt_of_block p1; have hs6 : w.heap.size + 2 ≤ w6.heap.size := lt_of_block t1; go_wp2_with fail; go_meet
        first
          | exact ⟨_, _, _, _, rfl, rfl, sw_nn1 hs6 B6 t0 t1 hrep6⟩
          | exact ⟨_, _, _, _, rfl, rfl, sw_nn2 hs6 B6 t0 t1 hrep6⟩
          | exact ⟨_, _, _, _, rfl, rfl, sw_oo ne1 (by omega) l7 n7 (by omega) l8 n8 B6 t0 t1 hrep6⟩
          | exact ⟨_, _, _, _, rfl, rfl, sw_on (by omega) l7 n7 B6 t0 t1 hrep6⟩
          | exact ⟨_, _, _, _, rfl, rfl, sw_no (by omega) l8 n8 B6 t0 t1 hrep6⟩
    case rest =>
      obtain ⟨b7, b8, sl3, cp3, rfl, rfl, hne, hb7, hb8, BC, v0, v1, v7, v8, RC⟩ := hcut; clear a0 a1' a2 y0 hs3 B3 R3 U3 s0 s1 w3 H3 HN3; obtain ⟨f0, f1, f2, -⟩ := blk3 v0; obtain ⟨j0, j1, j2, -⟩ := blk3 v1; obtain ⟨m0, m1, m2, -⟩ := blk3 v7; obtain ⟨i0, i1, i2, i3⟩ := blk2 v8; have RF0 := hrep0.up BC; have UF0 := hu0.up BC; by_cases hc : c1 = 0
      · have he := HF.out hc
        simp only [Fm.mk.injEq] at he; obtain ⟨rfl, rfl, rfl⟩ := he; subst hc; by_cases hc2 : c2 = 0
        · subst hc2
          have HA1 : Hid (∀ v w, _ → Calls Try.prog 20 #[v] w _) := HA.out rfl; have HB1 : Hid (∀ v w, _ → Calls Try.prog 20 #[v] w _) := HB.out rfl; have HC1 : Hid (∀ v w, _ → Calls Try.prog 20 #[v] w _) := HCn.out rfl; have HM1 : Hid (∀ t, t ∈ C ↔ (t ∈ A ∧ t ≠ nm.data.toList) ∨ (nm.data.toList ∈ A ∧ t ∈ Bl)) := HM.out rfl; clear HA HB HCn HM
          go_wp2_with (first
          | (go_at_call 15
             refine (H5.out _ _ _ RC RF0).mono ?_; rintro e w8 ⟨rfl, hb8'⟩; have B8 := below_join BC hb8'; have x0 := below_keep hb8' v0; have x1 := below_keep hb8' v1; have x8 := below_keep hb8' v8; have RF8 := hrep0.up B8; have UF8 := hu0.up B8; have l8 := lt_of_block x8; clear f0 f1 f2 j0 j1 j2 i0 i1 i2 i3 m0 m1 m2; obtain ⟨f0, f1, f2, -⟩ := blk3 x0; obtain ⟨j0, j1, j2, -⟩ := blk3 x1
             obtain ⟨i0, i1, i2, i3⟩ := blk2 x8)
          | (go_at_call 22
             refine (H4.out _ _ _ RF8 UF8).mono ?_; rintro e w9 ⟨x, rfl, hrep9, hb9⟩; obtain ⟨sl4, cp4, rfl⟩ := slice_shape hrep9; have B9 := below_join B8 hb9; have y0 := below_keep hb9 x0; have y1 := below_keep hb9 x1; have y8 := below_keep hb9 x8; have z9 := lt_of_block y8; clear f0 f1 f2 j0 j1 j2 i0 i1 i2 i3; obtain ⟨i0, i1, i2, i3⟩ := blk2 y8; have zz9 := Nat.ne_of_gt z9; (have BW := below_more ((B9.setCell (p := ⟨b8, 0, none⟩) (by simp; omega) (.int .i64 0)).setCell (p := ⟨b8, 1, none⟩) (by simp; omega) (.int .i64 a2)) (.cells #[.int .i64 k4, .string n4, .slice sl4 ks4.length cp4] 24 (0, 0))); obtain ⟨f0, f1, f2, -⟩ := blk3 y0; obtain ⟨j0, j1, j2, -⟩ := blk3 y1; (have e1 : ¬ b8 = w.heap.size := by omega); (have e2 : ¬ b8 = w.heap.size + 1 := by omega); have e3 : w.heap.size < w9.heap.size := lt_of_block y0; have e4 : w.heap.size + 1 < w9.heap.size := lt_of_block y1; have RW := hrep0.up BW; have UW := hu0.up BW; have HW := (set_rep l8 (set_rep l8 hrep9 0 (.int .i64 0)) 1 (.int .i64 a2)).all.more (.cells #[.int .i64 k4, .string n4, .slice sl4 ks4.length cp4] 24 (0, 0)); (have s0 := alloc_keep (set_far (b := b8) (set_far (b := b8) y0 (by omega) 0 (.int .i64 0)) (by omega) 1 (.int .i64 a2)) (.cells #[.int .i64 k4, .string n4, .slice sl4 ks4.length cp4] 24 (0, 0))); (have s1 := alloc_keep (set_far (b := b8) (set_far (b := b8) y1 (by omega) 0 (.int .i64 0)) (by omega) 1 (.int .i64 a2)) (.cells #[.int .i64 k4, .string n4, .slice sl4 ks4.length cp4] 24 (0, 0))); have s8 := alloc_keep (set2 y8 (.int .i64 0) (.int .i64 a2)) (.cells #[.int .i64 k4, .string n4, .slice sl4 ks4.length cp4] 24 (0, 0)); have s9 := blk_new ((w9.setCell ⟨b8, 0, none⟩ (.int .i64 0)).setCell ⟨b8, 1, none⟩ (.int .i64 a2)) (.cells #[.int .i64 k4, .string n4, .slice sl4 ks4.length cp4] 24 (0, 0))
             rw [show ((w9.setCell ⟨b8, 0, none⟩ (.int .i64 0)).setCell ⟨b8, 1, none⟩ (.int .i64 a2)).heap.size = w9.heap.size by simp [World.setCell]] at s9)
          | (go_at_call 20
             have T11 := HT11.out; refine (HC1.out _ _ (HW11.out.more _)).mono ?_; rintro e w12 ⟨x, rfl, tC, hb12⟩; have HT12 : Hid (TL w12 x C) := tC; obtain ⟨adC, capC, rfl, hC1, hC2, -⟩ := tC; have B12 := below_join (below_more B11 _) hb12; have g1 := below_keep hb12 (alloc_keep g11 (.cells #[.int .i64 0, .int .i64 0] 29 (0, 0))); have g2 := below_keep hb12 (blk_new w11 (.cells #[.int .i64 0, .int .i64 0] 29 (0, 0))); have HTA : Hid (TL (w12.alloc (.cells #[.int .i64 0, .int .i64 0] 29 (0, 0))) (.slice adA A.length capA) A) := (((HT10.out.up ((Below.refl _ w10).alloc (Nat.le_refl _) (.cells #[.int .i64 0, .int .i64 0] 29 (0, 0)))).up hb11).up ((Below.refl _ w11).alloc (Nat.le_refl _) (.cells #[.int .i64 0, .int .i64 0] 29 (0, 0))) |>.up hb12).up ((Below.refl _ w12).alloc (Nat.le_refl _) _); have HTB : Hid (TL (w12.alloc (.cells #[.int .i64 0, .int .i64 0] 29 (0, 0))) (.slice adB Bl.length capB) Bl) := ((HT11.out.up ((Below.refl _ w11).alloc (Nat.le_refl _) (.cells #[.int .i64 0, .int .i64 0] 29 (0, 0)))).up hb12).up ((Below.refl _ w12).alloc (Nat.le_refl _) _); have HTC : Hid (TL (w12.alloc (.cells #[.int .i64 0, .int .i64 0] 29 (0, 0))) (.slice adC C.length capC) C) := HT12.out.up ((Below.refl _ w12).alloc (Nat.le_refl _) _); clear h0 h1 h2 T11; obtain ⟨h0, h1, -⟩ := blk2 g1; obtain ⟨h2, h3, -⟩ := blk2 g2; have l1 := lt_of_block g1; have l2 := lt_of_block g2
             have BF := below_more B12 (.cells #[.int .i64 0, .int .i64 0] 29 (0, 0)))
          | (go_at_call 20
             have T10 := HT10.out; refine (HB1.out _ _ (hu0.up (below_more B10 _))).mono ?_; rintro e w11 ⟨x, rfl, tB, hb11⟩; have HT11 : Hid (TL w11 x Bl) := tB; obtain ⟨adB, capB, rfl, hB1, hB2, -⟩ := tB; have B11 := below_join (below_more B10 _) hb11; have n9 := below_keep hb11 (alloc_keep m9 (.cells #[.int .i64 0, .int .i64 0] 29 (0, 0))); have g11 := below_keep hb11 (blk_new w10 (.cells #[.int .i64 0, .int .i64 0] 29 (0, 0))); have HW11 : Hid (Rep _ _ _ _) := ((HW10.out.more (.cells #[.int .i64 0, .int .i64 0] 29 (0, 0))).up hb11); have l9 := lt_of_block n9; clear j0 j1 j2 T10
             obtain ⟨h0, h1, h2, -⟩ := blk3 n9)
          | (go_at_call 20
             refine (HA1.out _ _ RW).mono ?_; rintro e w10 ⟨x, rfl, tA, hb10⟩; have HT10 : Hid (TL w10 x A) := tA; obtain ⟨adA, capA, rfl, hA1, hA2, -⟩ := tA; have B10 := below_join BW hb10; have m1 := below_keep hb10 s1; have m9 := below_keep hb10 s9; have HW10 : Hid (Rep _ _ _ _) := HW.up hb10; have l10 := lt_of_block m1; clear j0 j1 j2 f0 f1 f2
             obtain ⟨j0, j1, j2, -⟩ := blk3 m1)
            | fail)
          refine (hasText_any A nm.data.toList _ _ HTA.out).mono ?_; rintro e wF0 ⟨rfl, rfl⟩; clear h0 h1 h2 h3 l1 l2 g1 g2; generalize hbin : decide (nm.data.toList ∈ A) = bin; have HBin : Hid (decide (nm.data.toList ∈ A) = bin) := hbin; clear hbin; generalize w12.alloc (.cells #[.int .i64 0, .int .i64 0] 29 (0, 0)) = wF at HTA HTB HTC BF ⊢; (have hAI : (A.length : Int) ≤ 9223372036854775807 := by unfold maxLen at hA2; omega); (have hCI : (C.length : Int) ≤ 9223372036854775807 := by unfold maxLen at hC2; omega); clear HT10 HT11 HT12 HW10 HW11 HA1 HB1 HC1 H4 H5 hrep0 hu0 RW UW HW s0 s1 s8 s9 BW B9 B10 B11 B12 hb9 hb10 hb11 hb12 hb8' m1 m9 n9 g11 l9 l10 y0 y1 y8 x0 x1 x8 RF8 UF8 B8 hrep9 v0 v1 v7 v8 BC RC RF0 UF0; go_wp2_with fail
          go_loopg [17] C.length (fun g c wr => ∃ i, i ≤ C.length ∧ g = C.length - i ∧ c = .int .i64 (i : Nat) ∧ wr = wF)
          case atStart => exact ⟨0, by omega, by omega, rfl, rfl⟩
          case round =>
            obtain ⟨i, hile, hg, rfl, rfl⟩ := hrel; have HG : Hid (gk = C.length - i) := hg; clear hg; by_cases hlt : i < C.length
            · obtain ⟨t, ht⟩ : ∃ t, C[i]? = some t := ⟨_, List.getElem?_eq_getElem hlt⟩
              have hmem := (HM1.out t).1 (List.mem_of_getElem? ht); obtain ⟨adc', capc', hce, -, -, hcc⟩ := HTC.out; simp only [Value.slice.injEq, true_and] at hce; obtain ⟨rfl, rfl⟩ := hce; (obtain ⟨gC, rfl, hcell⟩ := hcc (fun e => by rw [e] at hlt; simp at hlt)); have c0 := hcell i t ht; (have hltI : (i : Int) < (C.length : Int) := by omega); (have hlc : (i : Int) < (capC : Int) := by omega); have ca := hasText_any A t _ _ HTA.out; have cb := hasText_any Bl t _ _ HTB.out; clear hcell hcc ht; by_cases hL : t ∈ A ∧ t ≠ nm.data.toList
              · rw [decide_eq_true hL.1] at ca
                (have hq2 : ¬ (⟨t.toArray⟩ : ByteArray).toList = nm.toList := by rw [ByteArray.toList_eq, ByteArray.toList_eq]; exact hL.2); have CA : Hid (Calls Try.prog 32 _ _ _) := ca; clear ca cb hmem hL; generalize (⟨t.toArray⟩ : ByteArray) = T at *
                go_wp2_with (first
                  | (go_at_call 32
                     refine CA.out.mono ?_; rintro e w21 ⟨rfl, rfl⟩
                     have FL : Hid True := trivial)
                  | fail)
                go_roundg (C.length - (i + 1))
                case measure => have := HG.out; omega
                case rel => exact ⟨i + 1, by omega, rfl, by go_num, rfl⟩
              · have hR : nm.data.toList ∈ A ∧ t ∈ Bl := hmem.resolve_left hL
                rw [decide_eq_true hR.2] at cb; obtain rfl : bin = true := HBin.out.symm.trans (decide_eq_true hR.1); have CB : Hid (Calls Try.prog 32 _ _ _) := cb; by_cases hA' : t ∈ A
                · rw [decide_eq_true hA'] at ca
                  (have htn : t = nm.data.toList := Classical.byContradiction fun h => hL ⟨hA', h⟩); (have hq2 : (⟨t.toArray⟩ : ByteArray).toList = nm.toList := by rw [ByteArray.toList_eq, ByteArray.toList_eq]; exact htn); have CA : Hid (Calls Try.prog 32 _ _ _) := ca; clear ca cb hmem hL hR htn hA'; generalize (⟨t.toArray⟩ : ByteArray) = T at *
                  go_wp2_with (first
                    | (go_at_call 32
                       have fl := FL.out; refine CB.out.mono ?_
                       rintro e w22 ⟨rfl, rfl⟩)
                    | (go_at_call 32
                       refine CA.out.mono ?_; rintro e w21 ⟨rfl, rfl⟩
                       have FL : Hid True := trivial)
                    | fail)
                  go_roundg (C.length - (i + 1))
                  case measure => have := HG.out; omega
                  case rel => exact ⟨i + 1, by omega, rfl, by go_num, rfl⟩
                · rw [decide_eq_false hA'] at ca
                  have CA : Hid (Calls Try.prog 32 _ _ _) := ca; clear ca cb hmem hL hR hA'; generalize (⟨t.toArray⟩ : ByteArray) = T at *
                  go_wp2_with (first
                    | (go_at_call 32
                       have fl := FL.out; refine CB.out.mono ?_
                       rintro e w22 ⟨rfl, rfl⟩)
                    | (go_at_call 32
                       refine CA.out.mono ?_; rintro e w21 ⟨rfl, rfl⟩
                       have FL : Hid True := trivial)
                    | fail)
                  go_roundg (C.length - (i + 1))
                  case measure => have := HG.out; omega
                  case rel => exact ⟨i + 1, by omega, rfl, by go_num, rfl⟩
            · have hge : ¬ (i : Int) < (C.length : Int) := by omega
              clear hlt hile HG HBin HTB; go_wp2_with fail
              go_loopg [18] A.length (fun g c wy => ∃ j, j ≤ A.length ∧ g = A.length - j ∧ c = .int .i64 (j : Nat) ∧ wy = wr)
              case atStart => exact ⟨0, by omega, by omega, rfl, rfl⟩
              case round =>
                obtain ⟨j, hjle, hg, rfl, rfl⟩ := hrel; have HG : Hid (gk = A.length - j) := hg; clear hg; by_cases hlt : j < A.length
                · obtain ⟨t, ht⟩ : ∃ t, A[j]? = some t := ⟨_, List.getElem?_eq_getElem hlt⟩
                  have hmem := List.mem_of_getElem? ht; obtain ⟨ada', capa', hae, -, -, hac⟩ := HTA.out; simp only [Value.slice.injEq, true_and] at hae; obtain ⟨rfl, rfl⟩ := hae; (obtain ⟨gA, rfl, hcell⟩ := hac (fun e => by rw [e] at hlt; simp at hlt)); have c0 := hcell j t ht; (have hltI : (j : Int) < (A.length : Int) := by omega); (have hlc : (j : Int) < (capA : Int) := by omega); have cc := hasText_any C t _ _ HTC.out; clear hcell hac ht; by_cases hn : t = nm.data.toList
                  · have hq2 : (⟨t.toArray⟩ : ByteArray).toList = nm.toList := by rw [ByteArray.toList_eq, ByteArray.toList_eq]; exact hn
                    clear cc hmem hn; generalize (⟨t.toArray⟩ : ByteArray) = T at *; go_wp2_with fail
                    go_roundg (A.length - (j + 1))
                    case measure => have := HG.out; omega
                    case rel => exact ⟨j + 1, by omega, rfl, by go_num, rfl⟩
                  · have hq2 : ¬ (⟨t.toArray⟩ : ByteArray).toList = nm.toList := by rw [ByteArray.toList_eq, ByteArray.toList_eq]; exact hn
                    rw [decide_eq_true ((HM1.out t).2 (Or.inl ⟨hmem, hn⟩))] at cc; have CC : Hid (Calls Try.prog 32 _ _ _) := cc; clear cc hmem hn; generalize (⟨t.toArray⟩ : ByteArray) = T at *
                    go_wp2_with (first
                      | (go_at_call 32
                         refine CC.out.mono ?_
                         rintro e w31 ⟨rfl, rfl⟩)
                      | fail)
                    go_roundg (A.length - (j + 1))
                    case measure => have := HG.out; omega
                    case rel => exact ⟨j + 1, by omega, rfl, by go_num, rfl⟩
                · have hge2 : ¬ (j : Int) < (A.length : Int) := by omega
                  go_wp2_with fail; go_ret; exact ⟨rfl, BF⟩
        · have hn2 : (c2 != 0) = true := by simpa using hc2
          go_wp2_with (first
          | (go_at_call 15
             refine (H5.out _ _ _ RC RF0).mono ?_; rintro e w8 ⟨rfl, hb8'⟩; have B8 := below_join BC hb8'; have x0 := below_keep hb8' v0; have x1 := below_keep hb8' v1; have x8 := below_keep hb8' v8; have RF8 := hrep0.up B8; have UF8 := hu0.up B8; have l8 := lt_of_block x8; clear f0 f1 f2 j0 j1 j2 i0 i1 i2 i3 m0 m1 m2; obtain ⟨f0, f1, f2, -⟩ := blk3 x0; obtain ⟨j0, j1, j2, -⟩ := blk3 x1
             obtain ⟨i0, i1, i2, i3⟩ := blk2 x8)
          | (go_at_call 22
             refine (H4.out _ _ _ RF8 UF8).mono ?_; rintro e w9 ⟨x, rfl, hrep9, hb9⟩; obtain ⟨sl4, cp4, rfl⟩ := slice_shape hrep9; have B9 := below_join B8 hb9; have y0 := below_keep hb9 x0; have y1 := below_keep hb9 x1; have y8 := below_keep hb9 x8; have z9 := lt_of_block y8; clear f0 f1 f2 j0 j1 j2 i0 i1 i2 i3; obtain ⟨i0, i1, i2, i3⟩ := blk2 y8; have zz9 := Nat.ne_of_gt z9; (have BW := below_more ((B9.setCell (p := ⟨b8, 0, none⟩) (by simp; omega) (.int .i64 c2)).setCell (p := ⟨b8, 1, none⟩) (by simp; omega) (.int .i64 a2)) (.cells #[.int .i64 k4, .string n4, .slice sl4 ks4.length cp4] 24 (0, 0)))
             have dn : True := trivial)
            | fail)
          go_ret; exact ⟨rfl, BW⟩
      · have hn1 : (c1 == 0) = false := by simpa using hc
        (have hn2 : (c2 != 0) = true := by simpa using hc12 hc)
        go_wp2_with (first
          | (go_at_call 22
             refine (H4.out _ _ _ RF0 UF0).mono ?_; rintro e w9 ⟨x, rfl, hrep9, hb9⟩; obtain ⟨sl4, cp4, rfl⟩ := slice_shape hrep9; have B9 := below_join BC hb9; have y0 := below_keep hb9 v0; have y1 := below_keep hb9 v1; have y8 := below_keep hb9 v8; have z9 := lt_of_block y8; clear f0 f1 f2 j0 j1 j2 i0 i1 i2 i3; obtain ⟨i0, i1, i2, i3⟩ := blk2 y8; have zz9 := Nat.ne_of_gt z9; (have BW := below_more ((B9.setCell (p := ⟨b8, 0, none⟩) (by simp; omega) (.int .i64 c2)).setCell (p := ⟨b8, 1, none⟩) (by simp; omega) (.int .i64 a2)) (.cells #[.int .i64 k4, .string n4, .slice sl4 ks4.length cp4] 24 (0, 0)))
             have dn : True := trivial)
          | fail)
        go_ret; exact ⟨rfl, BW⟩
  · go_ret
    exact ⟨rfl, B3⟩
  · go_ret
    exact ⟨rfl, B2⟩
end Go.Proofs.Ytffkoiemnchdgaa
