/- Texts of one proof, one behind the other: TC3. -/
import Derived.Test.YtffkoiemnchdgabB26
/- Walks: isSum. -/
namespace Go.Proofs.Ytffkoiemnchdgab
open Go.RowKit

theorem below_same {B : Nat} {W w : World} (h : Below B W w) (k : Nat) : Below B W (w.drewN k) := ⟨h.os, h.tape, h.output, h.size, h.block⟩

set_option maxHeartbeats 4000000 in
theorem sum_any (t : Tb) (hok : t.Ok) (v : Value) (w : World) (h : TR w t v) :
    Calls Try.prog 61 #[v] w fun e w' => e = .returned (.bool (cls4 t.n t.bits)) ∧ Below w.heap.size w w' := by
  obtain ⟨g, off, cap, rfl, hc, hcells⟩ := h.cells hok; have hl := hok.len; obtain ⟨hn4, hlen⟩ := hok; have q0 := blk_new w (.cells #[.int .i64 (t.n : Nat), .slice (some ⟨g, off, none⟩) t.bits.length cap] 33 (0, 0)); have B0 := below_more (Below.refl _ w) (.cells #[.int .i64 (t.n : Nat), .slice (some ⟨g, off, none⟩) t.bits.length cap] 33 (0, 0)); have HCe : Hid (∀ j, j < t.bits.length → w.cell? ⟨g, off + j, none⟩ = some (.bool (t.bits.getD j false))) := hcells; (have HR : Hid (cls4 t.n t.bits = (List.range t.bits.length).all fun r => !(sumTo t.bits r t.n != t.bits.getD r false)) := rfl); generalize cls4 t.n t.bits = res at *; have HLn : Hid (t.bits.length = 2 ^ t.n) := hlen; clear hlen; generalize t.bits.length = M at *; (have hMI : (M : Int) ≤ 16 := by omega); (have hM1 : (0 : Int) < (M : Int) := by omega); (have hc1 : (0 : Int) < (cap : Int) := by omega); obtain ⟨N, bs⟩ := t; simp only at *; (have hNI : (N : Int) ≤ 4 := by omega); clear hcells h
  go_enter Try.func61, Try.ntmps61
  go_wp2_with fail
  go_loopg [11] M (fun gk c wr => ∃ r, r ≤ M ∧ gk = M - r ∧ c = .int .i64 (r : Nat) ∧ Below w.heap.size w wr ∧ wr.heap[w.heap.size]? = some (.cells #[.int .i64 (N : Nat), .slice (some ⟨g, off, none⟩) M cap] 33 (0, 0)) ∧ Hid (∀ j, j < r → (!(sumTo bs j N != bs.getD j false)) = true))
  case atStart => exact ⟨0, by omega, by omega, rfl, B0, q0, fun j h => absurd h (Nat.not_lt_zero _)⟩
  case round =>
    obtain ⟨r, hr, hg, rfl, hbr, q1, HN⟩ := hrel; have HG : Hid (gk = M - r) := hg; clear hg; obtain ⟨a0, a1, -⟩ := blk2 q1; by_cases hlt : r < M
    · have g0 := (hbr.cell (p := ⟨g, off + r, none⟩) (lt_of_cell (HCe.out r hlt))).trans (HCe.out r hlt)
      (have z0 := (hbr.cell (p := ⟨g, off + 0, none⟩) (lt_of_cell (HCe.out 0 (by omega)))).trans (HCe.out 0 (by omega))); rw [Nat.add_zero] at z0
      have HX1 : Hid ((!(sumTo bs r N != bs.getD r false)) = true → ∀ j, j < r + 1 → (!(sumTo bs j N != bs.getD j false)) = true) := fun hb j hj => by
          by_cases e : j = r
          · subst e; exact hb
          · exact HN.out j (by omega)
      have HX2 : Hid ((!(sumTo bs r N != bs.getD r false)) = false → res = false) := fun hb => by
          rw [HR.out]; exact range_all_take _ _ r hlt HN.out hb
      (have HS0 : Hid (sumTo bs r 0 = bs.getD 0 false) := by show _ = _; rw [sumTo]); (have HS1 : Hid (∀ i, sumTo bs r (i + 1) = if (bs.getD (2 ^ i) false != bs.getD 0 false) && r.testBit i then !sumTo bs r i else sumTo bs r i) := fun i => by rw [sumTo]); generalize bs.getD 0 false = x0 at *; generalize bs.getD r false = x at *; (have hltI : (r : Int) < (M : Int) := by omega); (have hlcI : (r : Int) < (cap : Int) := by omega); obtain ⟨W0, hW0⟩ : ∃ W0, W0 = wr := ⟨_, rfl⟩; subst hW0; go_wp2_with fail
      go_loopg [22, 5] N (fun gk c s wr => ∃ i, i ≤ N ∧ gk = N - i ∧ c = .int .i64 (i : Nat) ∧ s = .bool (sumTo bs r i) ∧ Below W0.heap.size W0 wr)
      case atStart => exact ⟨0, by omega, by omega, rfl, by rw [HS0.out], Below.refl _ _⟩
      case round =>
        obtain ⟨i, hi, hg2, rfl, rfl, hbz⟩ := hrel; have HG2 : Hid (gk = N - i) := hg2; have z1 := (hbz.cell (p := ⟨g, off, none⟩) (lt_of_cell z0)).trans z0; clear hg2 g0 a0 a1 z0; have BZ := below_join hbr hbz; have q2 := below_keep hbz q1; obtain ⟨a0, a1, -⟩ := blk2 q2; by_cases hiN : i < N
        · have hP : 2 ^ i < 2 ^ N := Nat.pow_lt_pow_right (by omega) hiN
          (have hqM : 2 ^ i < M := by have := HLn.out; omega); have g1 := (BZ.cell (p := ⟨g, off + 2 ^ i, none⟩) (lt_of_cell (HCe.out _ hqM))).trans (HCe.out (2 ^ i) hqM); (have hw := (shl_row i (by omega)).1); have HS2 : Hid (sumTo bs r (i + 1) = _) := HS1.out i; (have hdi := fun w => digit_any r i (by omega) (by omega) w); obtain ⟨s1, hs1⟩ : ∃ s1, s1 = sumTo bs r (i + 1) := ⟨_, rfl⟩; rw [← hs1] at HS2; have HS3 : Hid (sumTo bs r (i + 1) = s1) := hs1.symm; clear hs1; generalize sumTo bs r i = s0 at *; generalize bs.getD (2 ^ i) false = y at *; generalize r.testBit i = d at *; generalize 2 ^ i = P at *; have HDi : Hid (∀ w, Calls Try.prog 70 _ w _) := hdi; (have hiI : (i : Int) < (N : Int) := by omega); (have hqI : (P : Int) < (M : Int) := by omega); (have hqc : (P : Int) < (cap : Int) := by omega); clear hP hqM hdi; by_cases hyx : y = x0
          · have hye : (y == x0) = true := by simpa using hyx
            have HE : Hid (s1 = s0) := by
              show _ = _; rw [HS2.out, hyx]; simp
            clear HX1 HX2 HS1 HS0 HS2 hyx; go_wp2_with fail
            go_quiet (fail)
            go_wp2_with fail
            go_roundg (N - (i + 1))
            case measure => have := HG2.out; omega
            case rel => exact ⟨i + 1, by omega, rfl, by go_num, by rw [HS3.out, HE.out], below_same hbz _⟩
          · have hye : (y == x0) = false := by simpa using hyx
            have HE : Hid (s1 = if d then !s0 else s0) := by
              show _ = _; rw [HS2.out]; simp [hyx]
            clear HX1 HX2 HS1 HS0 HS2 hyx
            cases d
            all_goals
              go_wp2_with fail
              go_quiet (fail)
              go_wp2_with (first
                | (go_at_call 70
                   refine (HDi.out _).mono ?_; rintro e w3 ⟨rfl, hw3⟩
                   subst hw3)
                | fail)
              go_roundg (N - (i + 1))
              case measure => have := HG2.out; omega
              case rel => exact ⟨i + 1, by omega, rfl, by go_num, by rw [HS3.out, HE.out]; simp, below_same hbz _⟩
        · obtain rfl : i = N := by omega
          (have hge : ¬ (i : Int) < (i : Int) := by omega); generalize sumTo bs r i = s0 at *; by_cases hsx : s0 = x
          · have HE := HX1.out (by subst hsx; simp)
            have HE' : Hid (∀ j, j < r + 1 → (!(sumTo bs j i != bs.getD j false)) = true) := HE; (have hse : (s0 == x) = true := by simpa using hsx); clear HE HX1 HX2 hsx; go_wp2_with fail
            go_roundg (M - (r + 1))
            case measure => have := HG.out; omega
            case rel => exact ⟨r + 1, by omega, rfl, by go_num, BZ, q2, HE'⟩
          · have hse : (s0 == x) = false := by simpa using hsx
            (have HE : Hid (res = false) := HX2.out (by simp [hsx])); clear HX1 HX2 hsx; go_wp2_with fail; go_ret; (exact ⟨by rw [HE.out]; rfl, BZ⟩)
    · have HE : Hid (res = true) := by
        show _ = _; rw [HR.out]; (exact range_all _ _ fun j hj => HN.out j (by omega))
      (have hge : ¬ (r : Int) < (M : Int) := by omega); clear HN; go_wp2_with fail; go_ret; (exact ⟨by rw [HE.out]; rfl, hbr⟩)
end Go.Proofs.Ytffkoiemnchdgab
