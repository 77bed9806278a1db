/- Texts of one proof, one behind the other: BW3, BF0. -/
import Derived.Test.YtffkoiemnchdgafB29
import Derived.Test.YtffkoiemnchdgafB11
import Derived.Test.YtffkoiemnchdgafB05
import Derived.Test.YtffkoiemnchdgafB06
/- Walks: one of two formulas, as a name is true or false (either, decided). -/
namespace Go.Proofs.Ytffkoiemnchdgaf
open Go.RowKit Go.Sort

theorem far3 {W : World} {r x : Nat} (hx : x ≠ r) (u0 u1 u2 : Value) : (((W.setCell ⟨r, 0, none⟩ u0).setCell ⟨r, 1, none⟩ u1).setCell ⟨r, 2, none⟩ u2).heap[x]? = W.heap[x]? := by
  (rw [Below.heap_setCell _ _ _ _ (by simpa using hx), Below.heap_setCell _ _ _ _ (by simpa using hx), Below.heap_setCell _ _ _ _ (by simpa using hx)])
theorem Rep.put3 {W : World} {r : Nat} {P P' : Nat → Prop} {f : Fm} {v : Value} (h : Rep W P f v) (hr : ∀ b, b < W.heap.size → P b → b ≠ r ∧ P' b) (u0 u1 u2 : Value) : Rep (((W.setCell ⟨r, 0, none⟩ u0).setCell ⟨r, 1, none⟩ u1).setCell ⟨r, 2, none⟩ u2) P' f v :=
  h.move fun b hb hp => ⟨far3 (hr b hb hp).1 _ _ _, (hr b hb hp).2⟩
theorem below_put3 {w W : World} {r : Nat} (hr : w.heap.size ≤ r) (B : Below w.heap.size w W) (u0 u1 u2 : Value) : Below w.heap.size w (((W.setCell ⟨r, 0, none⟩ u0).setCell ⟨r, 1, none⟩ u1).setCell ⟨r, 2, none⟩ u2) := ((B.setCell (by simpa using hr) _).setCell (by simpa using hr) _).setCell (by simpa using hr) _

theorem chain3 (w : World) (o0 o1 o2 : Obj) : (((w.alloc o0).alloc o1).alloc o2).heap[w.heap.size]? = some o0 ∧ (((w.alloc o0).alloc o1).alloc o2).heap[w.heap.size + 1]? = some o1 ∧ (((w.alloc o0).alloc o1).alloc o2).heap[w.heap.size + 1 + 1]? = some o2 ∧ (((w.alloc o0).alloc o1).alloc o2).heap.size = w.heap.size + 1 + 1 + 1 ∧ Below w.heap.size w (((w.alloc o0).alloc o1).alloc o2) :=
  ⟨alloc_keep (alloc_keep (blk_new w _) _) _, alloc_keep (blk_2nd w _ _) _, by
    have := blk_new ((w.alloc o0).alloc o1) o2
    rwa [show ((w.alloc o0).alloc o1).heap.size = w.heap.size + 1 + 1 by simp] at this, by simp, below_more (below_more (below_more (Below.refl _ w) _) _) _⟩
theorem chain4 (w : World) (o0 o1 o2 o3 : Obj) : ((((w.alloc o0).alloc o1).alloc o2).alloc o3).heap[w.heap.size]? = some o0 ∧ ((((w.alloc o0).alloc o1).alloc o2).alloc o3).heap[w.heap.size + 1]? = some o1 ∧ ((((w.alloc o0).alloc o1).alloc o2).alloc o3).heap[w.heap.size + 1 + 1]? = some o2 ∧ ((((w.alloc o0).alloc o1).alloc o2).alloc o3).heap[w.heap.size + 1 + 1 + 1]? = some o3 ∧ ((((w.alloc o0).alloc o1).alloc o2).alloc o3).heap.size = w.heap.size + 1 + 1 + 1 + 1 ∧ Below w.heap.size w ((((w.alloc o0).alloc o1).alloc o2).alloc o3) := by
  obtain ⟨h0, h1, h2, h3, h4⟩ := chain3 w o0 o1 o2; (refine ⟨alloc_keep h0 _, alloc_keep h1 _, alloc_keep h2 _, ?_, by simp, below_more h4 _⟩); have := blk_new (((w.alloc o0).alloc o1).alloc o2) o3
  rwa [h3] at this

set_option maxHeartbeats 4000000 in
theorem either_any (P : Nat → Prop) (f g : Fm) (hg : Fine g) (v u : Value) (w : World) (hv : Rep w P f v) (hu : Rep w P g u) :
    Calls Try.prog 134 #[v, u] w fun e w' => ∃ x, e = .returned x ∧ Rep w' (fun c => P c ∨ w.heap.size ≤ c) (eitherF f g) x ∧ Below w.heap.size w w' := by
  (have HM : Hid (∀ k ad n cp w, Calls Try.prog 107 #[.int .i64 k, .slice ad n cp] w _) := fun k ad n cp w => madeB_any k ad n cp w); obtain ⟨k1, n1, ks1⟩ := f; obtain ⟨sl1, cp1, rfl⟩ := slice_shape hv; have HV : Hid (Rep w P (.mk k1 n1 ks1) (.agg #[.int .i64 k1, .string n1, .slice sl1 ks1.length cp1])) := hv; by_cases h4 : g.kind = 4
  · rcases hg.forms with ⟨n, rfl, hn⟩ | rfl | rfl | ⟨k, x, h1, rfl, hx⟩ | ⟨k, x, x', h1, rfl, hx, hx'⟩
    · cases h4
    · cases h4
    · cases h4
    · simp only [Fm.kind] at h4
      subst h4; rw [eitherF, if_pos rfl]; (show Calls _ _ _ _ fun e w' => ∃ y, _ ∧ Rep w' _ (.mk 7 ⟨#[]⟩ [x, .mk k1 n1 ks1]) y ∧ _); obtain ⟨sl2, cp2, rfl, -, h2, -, h3⟩ := Rep.def.1 hu; (obtain ⟨b, off, rfl, hPb, hrs⟩ := h3 (by simp)); obtain ⟨k2, n2, ks2⟩ := x; obtain ⟨sl3, cp3, g0, g1, g2, hrep3⟩ := hrs.at 0 k2 n2 ks2 rfl; simp only [Nat.zero_mul, Nat.add_zero] at g0 g1 g2; have HX : Hid (Rep w P (.mk k2 n2 ks2) (.agg #[.int .i64 k2, .string n2, .slice sl3 ks2.length cp3])) := hrep3; (have hc1 : (1 : Int) ≤ (cp2 : Int) := by simp at h2; omega); have zb := lt_of_cell g0; simp only at zb; clear hv hu hg hrs hrep3 h1 hx h3 h2
      go_enter Try.func134, Try.ntmps134
      go_wp2_with fail; obtain ⟨p0, p1, p2, psz, PB⟩ := chain3 w (.cells #[.int .i64 k1, .string n1, .slice sl1 ks1.length cp1] 24 (0, 0)) (.cells #[.int .i64 4, .string ⟨#[]⟩, .slice (some ⟨b, off, none⟩) 1 cp2] 24 (0, 0)) (.cells #[.int .i64 0, .string ⟨#[]⟩, .slice none 0 0] 24 (0, 0)); obtain ⟨W, hW⟩ : ∃ W, W = ((w.alloc (.cells #[.int .i64 k1, .string n1, .slice sl1 ks1.length cp1] 24 (0, 0))).alloc (.cells #[.int .i64 4, .string ⟨#[]⟩, .slice (some ⟨b, off, none⟩) 1 cp2] 24 (0, 0))).alloc (.cells #[.int .i64 0, .string ⟨#[]⟩, .slice none 0 0] 24 (0, 0)) := ⟨_, rfl⟩; rw [← hW] at p0 p1 p2 psz PB ⊢; clear hW; have G0 := (PB.cell (p := ⟨b, off, none⟩) zb).trans g0; have G1 := (PB.cell (p := ⟨b, off + 1, none⟩) zb).trans g1; have G2 := (PB.cell (p := ⟨b, off + 2, none⟩) zb).trans g2; obtain ⟨a0, a1, a2, -⟩ := blk3 p0; obtain ⟨e0, e1, e2, -⟩ := blk3 p1; have HP2 : Hid (W.heap[w.heap.size + 1 + 1]? = some (.cells #[.int .i64 0, .string ⟨#[]⟩, .slice none 0 0] 24 (0, 0))) := p2; have HPB : Hid (Below w.heap.size w W) := PB; have HSz : Hid (W.heap.size = w.heap.size + 1 + 1 + 1) := psz; clear g0 g1 g2 p0 p1 p2 PB psz
      go_region_law
        (first
         | (go_simp
            refine (HM.out _ _ _ _ _).mono ?_; rintro e w1 ⟨rfl, hb1⟩; have hb0 : Below W.heap.size W (W.alloc (.cells #[.int .i64 k2, .string n2, .slice sl3 ks2.length cp3, .int .i64 k1, .string n1, .slice sl1 ks1.length cp1] 24 (0, 0))).drew := ((Below.refl _ W).alloc (Nat.le_refl _) _).drew; have q2 := below_keep hb1 (below_keep hb0 HP2.out); have q3 := below_keep hb1 (show (W.alloc (.cells #[.int .i64 k2, .string n2, .slice sl3 ks2.length cp3, .int .i64 k1, .string n1, .slice sl1 ks1.length cp1] 24 (0, 0))).drew.heap[W.heap.size]? = some _ from blk_new W _); have B1 := below_join (below_join HPB.out hb0) hb1; obtain ⟨c0, c1, c2, z0, z1, z2⟩ := blk3 q2; clear hb1 hb0
            dsimp only)
         | fail)
      all_goals
        go_wp2_with fail; have hsz := HSz.out; (have RF := Rep.two (ok := fun c => (P c ∧ c < w.heap.size) ∨ w.heap.size + 1 + 1 < c) (k := 7) q3 (Or.inr (by omega)) (HX.out.move fun b hb hp => ⟨B1.block b hb, Or.inl ⟨hp, hb⟩⟩) (HV.out.move fun b hb hp => ⟨B1.block b hb, Or.inl ⟨hp, hb⟩⟩)); (have RG := RF.put3 (r := w.heap.size + 1 + 1) (P' := fun c => P c ∨ w.heap.size ≤ c) (fun b _ hb => by rcases hb with ⟨h1, h2⟩ | h; exact ⟨by omega, Or.inl h1⟩; exact ⟨by omega, Or.inr (by omega)⟩) (.int .i64 7) (.string ⟨#[]⟩) (.slice (some ⟨W.heap.size, 0, none⟩) 2 2)); (have BF := below_put3 (r := w.heap.size + 1 + 1) (by omega) B1 (.int .i64 7) (.string ⟨#[]⟩) (.slice (some ⟨W.heap.size, 0, none⟩) 2 2)); have f3 := set3 q2 (.int .i64 7) (.string ⟨#[]⟩) (.slice (some ⟨W.heap.size, 0, none⟩) 2 2); generalize World.setCell _ _ _ = F at f3 RG BF ⊢; obtain ⟨o0, o1, o2, -⟩ := blk3 f3; (exact bodyPost_ret (v := .agg #[.int .i64 7, .string ⟨#[]⟩, .slice (some ⟨W.heap.size, 0, none⟩) 2 2]) (by simp [results, Try.results134, go_sem, o0, o1, o2]) rfl ⟨_, rfl, RG, BF⟩)
    · simp only [Fm.kind] at h4; omega
  · obtain ⟨k2, n2, ks2⟩ := g
    (have hk4 : ¬ k2 = 4 := by simpa [Fm.kind] using h4); rw [eitherF, if_neg hk4]; obtain ⟨sl2, cp2, rfl⟩ := slice_shape hu; have HU : Hid (Rep w P (.mk k2 n2 ks2) (.agg #[.int .i64 k2, .string n2, .slice sl2 ks2.length cp2])) := hu; (have hk4' : (k2 == 4) = false := by simpa using hk4); clear hv hu hg h4
    go_enter Try.func134, Try.ntmps134
    go_wp2_with fail; refine (HM.out _ _ _ _ _).mono ?_; rintro e w1 ⟨rfl, hb1⟩; obtain ⟨p0, p1, p2, p3, psz, PB⟩ := chain4 w (.cells #[.int .i64 k1, .string n1, .slice sl1 ks1.length cp1] 24 (0, 0)) (.cells #[.int .i64 k2, .string n2, .slice sl2 ks2.length cp2] 24 (0, 0)) (.cells #[.int .i64 0, .string ⟨#[]⟩, .slice none 0 0] 24 (0, 0)) (.cells #[.int .i64 k1, .string n1, .slice sl1 ks1.length cp1, .int .i64 k2, .string n2, .slice sl2 ks2.length cp2] 24 (0, 0)); have q2 := below_keep hb1 p2; have q3 := below_keep hb1 p3; have B1 := below_join PB hb1; have s1 := hb1.size; rw [psz] at s1; obtain ⟨c0, c1, c2, z0, z1, z2⟩ := blk3 q2; clear hb1 p0 p1 p2 p3 psz PB; go_wp2_with fail; (have RF := Rep.two (ok := fun c => (P c ∧ c < w.heap.size) ∨ w.heap.size + 1 + 1 < c) (k := 6) q3 (Or.inr (by omega)) (HV.out.move fun b hb hp => ⟨B1.block b hb, Or.inl ⟨hp, hb⟩⟩) (HU.out.move fun b hb hp => ⟨B1.block b hb, Or.inl ⟨hp, hb⟩⟩)); (have RG := RF.put3 (r := w.heap.size + 1 + 1) (P' := fun c => P c ∨ w.heap.size ≤ c) (fun b _ hb => by rcases hb with ⟨h1, h2⟩ | h; exact ⟨by omega, Or.inl h1⟩; exact ⟨by omega, Or.inr (by omega)⟩) (.int .i64 6) (.string ⟨#[]⟩) (.slice (some ⟨w.heap.size + 1 + 1 + 1, 0, none⟩) 2 2)); (have BF := below_put3 (r := w.heap.size + 1 + 1) (by omega) B1 (.int .i64 6) (.string ⟨#[]⟩) (.slice (some ⟨w.heap.size + 1 + 1 + 1, 0, none⟩) 2 2)); have f3 := set3 q2 (.int .i64 6) (.string ⟨#[]⟩) (.slice (some ⟨w.heap.size + 1 + 1 + 1, 0, none⟩) 2 2); generalize World.setCell _ _ _ = F at f3 RG BF ⊢; obtain ⟨o0, o1, o2, -⟩ := blk3 f3; (exact bodyPost_ret (v := .agg #[.int .i64 6, .string ⟨#[]⟩, .slice (some ⟨w.heap.size + 1 + 1 + 1, 0, none⟩) 2 2]) (by simp [results, Try.results134, go_sem, o0, o1, o2]) rfl ⟨_, rfl, RG, BF⟩)
end Go.Proofs.Ytffkoiemnchdgaf
/- Facts for drawn regions that only add to memory. -/
namespace Go.Proofs.Ytffkoiemnchdgaf
open Go.RowKit

def kE (x : Value) : Value → World → Prop := fun v _ => v = x
theorem kE_stays (x : Value) : Stays (kE x) := fun _ _ _ h _ => h
def kN : Value → World → Prop := fun _ _ => True
theorem kN_stays : Stays kN := fun _ _ _ _ _ => trivial
theorem dep_e {o : Option Value} {c : Value} (w : World) (h : ∃ v, o = some v ∧ kE c v w) : o = some c := by
  obtain ⟨v, h1, h2⟩ := h; rw [h1]; exact congrArg some h2
/-- A formula. -/
def kF (P : Nat → Prop) (f : Fm) : Value → World → Prop := fun v w => ∃ k n ks sl cp, f = .mk k n ks ∧ v = .agg #[.int .i64 k, .string n, .slice sl ks.length cp] ∧ Rep w P f (.agg #[.int .i64 k, .string n, .slice sl ks.length cp])
theorem kF_stays (P : Nat → Prop) (f : Fm) : Stays (kF P f) := fun v w w' h hb => by
  obtain ⟨k, n, ks, sl, cp, h1, h2, h3⟩ := h; (exact ⟨k, n, ks, sl, cp, h1, h2, h3.move fun b hl hp => ⟨hb.block b hl, hp⟩⟩)
/-- The two kids of a formula. -/
def kK (P : Nat → Prop) (k : Int) (f : Fm) : Value → World → Prop := fun v w => ∃ g, v = .slice (some ⟨g, 0, none⟩) 2 2 ∧ Rep w P f (.agg #[.int .i64 k, .string ⟨#[]⟩, .slice (some ⟨g, 0, none⟩) 2 2])
theorem kK_stays (P : Nat → Prop) (k : Int) (f : Fm) : Stays (kK P k f) := fun v w w' h hb => by
  obtain ⟨g, h1, h2⟩ := h; (exact ⟨g, h1, h2.move fun b hl hp => ⟨hb.block b hl, hp⟩⟩)
/-- A list of texts. -/
def kS (l : List (List UInt8)) : Value → World → Prop := fun v w => ∃ ad n cp, v = .slice ad n cp ∧ SL w (.slice ad n cp) l
theorem kS_stays (l : List (List UInt8)) : Stays (kS l) := fun v w w' h hb => by
  obtain ⟨ad, n, cp, h1, h2⟩ := h; exact ⟨ad, n, cp, h1, h2.up hb⟩
end Go.Proofs.Ytffkoiemnchdgaf
