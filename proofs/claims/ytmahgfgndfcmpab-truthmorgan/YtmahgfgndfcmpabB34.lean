/- Texts of one proof, one behind the other: TZ1. -/
import Derived.Test.YtmahgfgndfcmpabB33
/- Walks: the opposite of a formula. -/
namespace Go.Proofs.Ytmahgfgndfcmpab
open Go.RowKit Go.Sort

set_option maxHeartbeats 1000000 in
theorem bothP_any (ok : Nat → Prop) (k : Int) (f g : Fm) (v u : Value) (w : World) (ho : ∀ b, w.heap.size ≤ b → ok b) (hv : Rep w ok f v) (hu : Rep w ok g u) :
    Calls Try.prog 25 #[.int .i64 k, v, u] w fun e w' => ∃ x, e = .returned x ∧ Rep w' ok (.mk k ⟨#[]⟩ [f, g]) x ∧ Below w.heap.size w w' := by
  obtain ⟨k1, n1, ks1⟩ := f; obtain ⟨k2, n2, ks2⟩ := g; obtain ⟨sl1, cp1, rfl⟩ := slice_shape hv; obtain ⟨sl2, cp2, rfl⟩ := slice_shape hu; have HV : Hid (Rep w ok (.mk k1 n1 ks1) (.agg #[.int .i64 k1, .string n1, .slice sl1 ks1.length cp1])) := hv; have HU : Hid (Rep w ok (.mk k2 n2 ks2) (.agg #[.int .i64 k2, .string n2, .slice sl2 ks2.length cp2])) := hu; have HO : Hid (∀ b, w.heap.size ≤ b → ok b) := ho; clear hv hu ho
  go_enter Try.func25, Try.ntmps25
  go_wp2_with fail; have q := blk_new (((w.alloc (.cells #[.int .i64 k1, .string n1, .slice sl1 ks1.length cp1] 37 (0, 0))).alloc (.cells #[.int .i64 k2, .string n2, .slice sl2 ks2.length cp2] 37 (0, 0))).alloc (.cells #[.int .i64 k, .string ⟨#[]⟩, .slice (some ⟨w.heap.size + 1 + 1 + 1, 0, none⟩) 2 2] 37 (0, 0))) (.cells #[.int .i64 k1, .string n1, .slice sl1 ks1.length cp1, .int .i64 k2, .string n2, .slice sl2 ks2.length cp2] 37 (0, 0)); (rw [show (((w.alloc (.cells #[.int .i64 k1, .string n1, .slice sl1 ks1.length cp1] 37 (0, 0))).alloc (.cells #[.int .i64 k2, .string n2, .slice sl2 ks2.length cp2] 37 (0, 0))).alloc (.cells #[.int .i64 k, .string ⟨#[]⟩, .slice (some ⟨w.heap.size + 1 + 1 + 1, 0, none⟩) 2 2] 37 (0, 0))).heap.size = w.heap.size + 1 + 1 + 1 by simp] at q); have B := below_more (below_more (below_more (below_more (Below.refl _ w) (.cells #[.int .i64 k1, .string n1, .slice sl1 ks1.length cp1] 37 (0, 0))) (.cells #[.int .i64 k2, .string n2, .slice sl2 ks2.length cp2] 37 (0, 0))) (.cells #[.int .i64 k, .string ⟨#[]⟩, .slice (some ⟨w.heap.size + 1 + 1 + 1, 0, none⟩) 2 2] 37 (0, 0))) (.cells #[.int .i64 k1, .string n1, .slice sl1 ks1.length cp1, .int .i64 k2, .string n2, .slice sl2 ks2.length cp2] 37 (0, 0)); (exact bodyPost_ret (v := .agg #[.int .i64 k, .string ⟨#[]⟩, .slice (some ⟨w.heap.size + 1 + 1 + 1, 0, none⟩) 2 2]) (by simp [results, Try.results25, go_sem]) rfl ⟨_, rfl, Rep.two q (HO.out _ (by omega)) (HV.out.up' B) (HU.out.up' B), B⟩)

set_option maxHeartbeats 1000000 in
theorem ofP_any (ok : Nat → Prop) (k : Int) (f : Fm) (v : Value) (w : World) (ho : ∀ b, w.heap.size ≤ b → ok b) (hv : Rep w ok f v) :
    Calls Try.prog 53 #[.int .i64 k, v] w fun e w' => ∃ x, e = .returned x ∧ Rep w' ok (.mk k ⟨#[]⟩ [f]) x ∧ Below w.heap.size w w' := by
  obtain ⟨k1, n1, ks1⟩ := f; obtain ⟨sl1, cp1, rfl⟩ := slice_shape hv; have HV : Hid (Rep w ok (.mk k1 n1 ks1) (.agg #[.int .i64 k1, .string n1, .slice sl1 ks1.length cp1])) := hv; have HO : Hid (∀ b, w.heap.size ≤ b → ok b) := ho; clear hv ho
  go_enter Try.func53, Try.ntmps53
  go_wp2_with fail; have q := blk_new ((w.alloc (.cells #[.int .i64 k1, .string n1, .slice sl1 ks1.length cp1] 37 (0, 0))).alloc (.cells #[.int .i64 k, .string ⟨#[]⟩, .slice (some ⟨w.heap.size + 1 + 1, 0, none⟩) 1 1] 37 (0, 0))) (.cells #[.int .i64 k1, .string n1, .slice sl1 ks1.length cp1] 37 (0, 0)); (rw [show ((w.alloc (.cells #[.int .i64 k1, .string n1, .slice sl1 ks1.length cp1] 37 (0, 0))).alloc (.cells #[.int .i64 k, .string ⟨#[]⟩, .slice (some ⟨w.heap.size + 1 + 1, 0, none⟩) 1 1] 37 (0, 0))).heap.size = w.heap.size + 1 + 1 by simp] at q); have B := below_more (below_more (below_more (Below.refl _ w) (.cells #[.int .i64 k1, .string n1, .slice sl1 ks1.length cp1] 37 (0, 0))) (.cells #[.int .i64 k, .string ⟨#[]⟩, .slice (some ⟨w.heap.size + 1 + 1, 0, none⟩) 1 1] 37 (0, 0))) (.cells #[.int .i64 k1, .string n1, .slice sl1 ks1.length cp1] 37 (0, 0)); (exact bodyPost_ret (v := .agg #[.int .i64 k, .string ⟨#[]⟩, .slice (some ⟨w.heap.size + 1 + 1, 0, none⟩) 1 1]) (by simp [results, Try.results53, go_sem]) rfl ⟨_, rfl, Rep.one q (HO.out _ (by omega)) (HV.out.up' B), B⟩)

/-- The opposite. -/
def turn7 : List Fm → List Fm
  | [a, b] => [.mk 4 ⟨#[]⟩ [a], b]
  | l => l
mutual
def turnF : Fm → Fm
  | .mk k n ks => if k = 1 then .mk 4 ⟨#[]⟩ [.mk 1 n ks] else if k = 2 then .mk 3 ⟨#[]⟩ [] else if k = 3 then .mk 2 ⟨#[]⟩ [] else if k = 4 then .mk 4 ⟨#[]⟩ (turnFs ks) else if k = 5 then .mk 6 ⟨#[]⟩ (turnFs ks) else if k = 6 then .mk 5 ⟨#[]⟩ (turnFs ks) else .mk 5 ⟨#[]⟩ (turn7 (turnFs ks))
def turnFs : List Fm → List Fm
  | [] => []
  | f :: fs => turnF f :: turnFs fs
end
theorem turn_name (n : ByteArray) : turnF (.mk 1 n []) = .mk 4 ⟨#[]⟩ [.mk 1 n []] := by rw [turnF]; rfl
theorem turn_2 : turnF (.mk 2 ⟨#[]⟩ []) = .mk 3 ⟨#[]⟩ [] := by rw [turnF]; rfl
theorem turn_3 : turnF (.mk 3 ⟨#[]⟩ []) = .mk 2 ⟨#[]⟩ [] := by rw [turnF]; rfl
theorem turn_4 (g : Fm) : turnF (.mk 4 ⟨#[]⟩ [g]) = .mk 4 ⟨#[]⟩ [turnF g] := by rw [turnF, turnFs, turnFs]; rfl
theorem turn_5 (g h : Fm) : turnF (.mk 5 ⟨#[]⟩ [g, h]) = .mk 6 ⟨#[]⟩ [turnF g, turnF h] := by rw [turnF, turnFs, turnFs, turnFs]; rfl
theorem turn_6 (g h : Fm) : turnF (.mk 6 ⟨#[]⟩ [g, h]) = .mk 5 ⟨#[]⟩ [turnF g, turnF h] := by rw [turnF, turnFs, turnFs, turnFs]; rfl
theorem turn_7 (g h : Fm) : turnF (.mk 7 ⟨#[]⟩ [g, h]) = .mk 5 ⟨#[]⟩ [.mk 4 ⟨#[]⟩ [turnF g], turnF h] := by rw [turnF, turnFs, turnFs, turnFs]; rfl

theorem plain_one {k : Int} (hk : isM k = false) {g : Fm} (hg : Plain g) : Plain (.mk k ⟨#[]⟩ [g]) := by
  rw [plain_iff] at *; rw [allN_one]; intro x hx
  rcases List.mem_cons.1 hx with rfl | hx
  · exact hk
  · exact hg x hx
theorem plain_two {k : Int} (hk : isM k = false) {g h : Fm} (hg : Plain g) (hh : Plain h) : Plain (.mk k ⟨#[]⟩ [g, h]) := by
  rw [plain_iff] at *; rw [allN_two]; intro x hx
  rcases List.mem_cons.1 hx with rfl | hx
  · exact hk
  · rcases List.mem_append.1 hx with hx | hx
    · exact hg x hx
    · exact hh x hx
theorem plain_leaf {k : Int} (hk : isM k = false) (n : ByteArray) : Plain (.mk k n []) := by
  rw [plain_iff, allN_leaf]; intro x hx
  rcases List.mem_cons.1 hx with rfl | hx
  · exact hk
  · cases hx

/-- What the opposite is: a formula, plain, not twice as large, and true where the other is not. -/
theorem turn_all : ∀ (m : Nat) (f : Fm), f.size ≤ m → Fine f → Plain f → Fine (turnF f) ∧ Plain (turnF f) ∧ (turnF f).size ≤ 2 * f.size ∧ ∀ p, tv p (turnF f) = !tv p f
  | 0, .mk k n ks, h, _, _ => by rw [Fm.size] at h; omega
  | m + 1, f, h, hf, hp => by
    rcases hf.forms with ⟨n, rfl, hn⟩ | rfl | rfl | ⟨k, g, hk, rfl, hg⟩ | ⟨k, g, g', hk, rfl, hg, hg'⟩
    · rw [turn_name]
      (refine ⟨fine_one 4 _ (by decide) hf, plain_one (by decide) (plain_leaf (by decide) _), by rw [size_one, size_leaf]; omega, fun p => by rw [tv_not]⟩)
    · rw [turn_2]
      (exact ⟨fine_leaf 3 (by decide), plain_leaf (by decide) _, by rw [size_leaf, size_leaf]; omega, fun p => by rw [tv_true, tv_false]; rfl⟩)
    · rw [turn_3]
      (exact ⟨fine_leaf 2 (by decide), plain_leaf (by decide) _, by rw [size_leaf, size_leaf]; omega, fun p => by rw [tv_true, tv_false]; rfl⟩)
    · have hkk : k = 4 := by
        have := hp.kind
        rcases hk with rfl | rfl | rfl
        · rfl
        · cases this
        · cases this
      subst hkk; rw [size_one] at h; (obtain ⟨h1, h2, h3, h4⟩ := turn_all m g (by omega) hg (hp.kid (by simp))); rw [turn_4]; (exact ⟨fine_one 4 _ (by decide) h1, plain_one (by decide) h2, by rw [size_one, size_one]; omega, fun p => by rw [tv_not, tv_not, h4]⟩)
    · rw [size_two] at h
      (obtain ⟨h1, h2, h3, h4⟩ := turn_all m g (by omega) hg (hp.kid (by simp))); (obtain ⟨h5, h6, h7, h8⟩ := turn_all m g' (by omega) hg' (hp.kid (by simp)))
      rcases hk with rfl | rfl | rfl
      · rw [turn_5]
        (exact ⟨fine_two 6 _ _ (by decide) h1 h5, plain_two (by decide) h2 h6, by rw [size_two, size_two]; omega, fun p => by rw [tv_or, tv_and, h4, h8]; simp⟩)
      · rw [turn_6]
        (exact ⟨fine_two 5 _ _ (by decide) h1 h5, plain_two (by decide) h2 h6, by rw [size_two, size_two]; omega, fun p => by rw [tv_or, tv_and, h4, h8]; simp⟩)
      · rw [turn_7]
        (exact ⟨fine_two 5 _ _ (by decide) (fine_one 4 _ (by decide) h1) h5, plain_two (by decide) (plain_one (by decide) h2) h6, by rw [size_two, size_two, size_one]; omega, fun p => by rw [tv_and, tv_then, tv_not, h4, h8]; simp⟩)
end Go.Proofs.Ytmahgfgndfcmpab
