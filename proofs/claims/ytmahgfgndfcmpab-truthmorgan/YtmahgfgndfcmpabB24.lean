/- Texts of one proof, one behind the other: TC2. -/
import Derived.Test.YtmahgfgndfcmpabB22
/- Walks: isSelfDual, isRising, isSum. -/
namespace Go.Proofs.Ytmahgfgndfcmpab
open Go.RowKit

set_option maxHeartbeats 2000000 in
theorem selfDual_any (t : Tb) (hok : t.Ok) (v : Value) (w : World) (h : TR w t v) :
    Calls Try.prog 59 #[v] w fun e w' => e = .returned (.bool (cls2 t.bits)) ∧ Below w.heap.size w w' := by
  obtain ⟨g, off, cap, rfl, hc, hcells⟩ := h.cells hok; have hl := hok.len; (obtain ⟨L, hL⟩ : ∃ L, t.bits.length = L + 1 := ⟨t.bits.length - 1, by omega⟩); have q0 := blk_new w (.cells #[.int .i64 (t.n : Nat), .slice (some ⟨g, off, none⟩) t.bits.length cap] 33 (0, 0)); have B0 := below_more (Below.refl _ w) (.cells #[.int .i64 (t.n : Nat), .slice (some ⟨g, off, none⟩) t.bits.length cap] 33 (0, 0)); have HCe : Hid (∀ j, j < t.bits.length → w.cell? ⟨g, off + j, none⟩ = some (.bool (t.bits.getD j false))) := hcells; (have HR : Hid (cls2 t.bits = (List.range (L + 1)).all fun k => t.bits.getD k false != t.bits.getD (L - k) false) := by show _ = _; unfold cls2; rw [hL]; rfl); generalize cls2 t.bits = res at *; generalize t.bits.length = M at *; subst hL; (have hlI : (L : Int) ≤ 15 := by omega); clear hcells h hok
  go_enter Try.func59, Try.ntmps59
  go_wp2_with fail
  go_loopg [13] (L + 1) (fun gk c wr => ∃ i, i ≤ L + 1 ∧ gk = L + 1 - i ∧ c = .int .i64 (i : Nat) ∧ Below w.heap.size w wr ∧ wr.heap[w.heap.size]? = some (.cells #[.int .i64 (t.n : Nat), .slice (some ⟨g, off, none⟩) (L + 1) cap] 33 (0, 0)) ∧ Hid (∀ j, j < i → (t.bits.getD j false != t.bits.getD (L - j) false) = true))
  case atStart => exact ⟨0, by omega, by omega, rfl, B0, q0, fun j h => absurd h (Nat.not_lt_zero _)⟩
  case round =>
    obtain ⟨i, hi, hg, rfl, hbr, q1, HN⟩ := hrel; have HG : Hid (gk = L + 1 - i) := hg; clear hg; obtain ⟨a0, a1, -⟩ := blk2 q1; by_cases hlt : i < L + 1
    · have g0 := (hbr.cell (p := ⟨g, off + i, none⟩) (lt_of_cell (HCe.out i hlt))).trans (HCe.out i hlt)
      (obtain ⟨d, hd⟩ : ∃ d, L = d + i := ⟨L - i, by omega⟩); (have g1 := (hbr.cell (p := ⟨g, off + d, none⟩) (lt_of_cell (HCe.out d (by omega)))).trans (HCe.out d (by omega)))
      have HX : Hid (∀ b, (t.bits.getD i false != t.bits.getD (L - i) false) = b → (b = true → ∀ j, j < i + 1 → (t.bits.getD j false != t.bits.getD (L - j) false) = true) ∧ (b = false → res = false)) := fun b hb => ⟨fun hbt j hj => by
          by_cases e : j = i
          · subst e; rw [hb]; exact hbt
          · exact HN.out j (by omega), fun hbf => by
          rw [HR.out]
          exact range_all_take _ _ i hlt HN.out (by rw [hb]; exact hbf)⟩
      (have hLi : L - i = d := by omega); rw [hLi] at HX; generalize t.bits.getD i false = x at *; generalize t.bits.getD d false = y at *; (have hltI : (i : Int) < (L : Int) + 1 := by omega); (have hlcI : (i : Int) < (cap : Int) := by omega); (have hdI : (L : Int) - (i : Int) = (d : Int) := by omega); (have hdc : (d : Int) < (cap : Int) := by omega); (have hdL : (d : Int) < (L : Int) + 1 := by omega); clear hd hLi; by_cases hxy : x = y
      · have HE : Hid (res = false) := (HX.out false (by subst hxy; simp)).2 rfl
        (have hxe : (x == y) = true := by simpa using hxy); clear HX hxy; go_wp2_with fail; go_ret; (exact ⟨by rw [HE.out]; rfl, hbr⟩)
      · have HE : Hid (∀ j, j < i + 1 → (t.bits.getD j false != t.bits.getD (L - j) false) = true) := (HX.out true (by simpa using hxy)).1 rfl
        (have hxe : (x == y) = false := by simpa using hxy); clear HX hxy; go_wp2_with fail
        go_roundg (L + 1 - (i + 1))
        case measure => have := HG.out; omega
        case rel => exact ⟨i + 1, by omega, rfl, by go_num, hbr, q1, HE⟩
    · have HE : Hid (res = true) := by
        show _ = _; rw [HR.out]; (exact range_all _ _ fun j hj => HN.out j (by omega))
      (have hge : ¬ (i : Int) < (L : Int) + 1 := by omega); clear HN; go_wp2_with fail; go_ret; (exact ⟨by rw [HE.out]; rfl, hbr⟩)

theorem or_row (r i : Nat) (n : Nat) (hn : n ≤ 4) (hr : r < 2 ^ n) (hi : i < n) : r ||| 2 ^ i < 2 ^ n ∧ bits BinOp.or IntKind.i64 (r : Int) ((2 ^ i : Nat) : Int) = ((r ||| 2 ^ i : Nat) : Int) := by
  (have h1 : 2 ^ i < 2 ^ n := Nat.pow_lt_pow_right (by omega) hi); refine ⟨Nat.or_lt_two_pow hr h1, ?_⟩; (have h2 : 2 ^ n ≤ 2 ^ 62 := Nat.pow_le_pow_right (by omega) (by omega)); (exact (bits_nat .i64 62 (by decide) wraps_i64 r (2 ^ i) (by omega) (by omega)).2)

set_option maxHeartbeats 4000000 in
theorem rising_any (t : Tb) (hok : t.Ok) (v : Value) (w : World) (h : TR w t v) :
    Calls Try.prog 60 #[v] w fun e w' => e = .returned (.bool (cls3 t.n t.bits)) ∧ Below w.heap.size w w' := by
  obtain ⟨g, off, cap, rfl, hc, hcells⟩ := h.cells hok; have hl := hok.len; obtain ⟨hn4, hlen⟩ := hok; have q0 := blk_new w (.cells #[.int .i64 (t.n : Nat), .slice (some ⟨g, off, none⟩) t.bits.length cap] 33 (0, 0)); have B0 := below_more (Below.refl _ w) (.cells #[.int .i64 (t.n : Nat), .slice (some ⟨g, off, none⟩) t.bits.length cap] 33 (0, 0)); have HCe : Hid (∀ j, j < t.bits.length → w.cell? ⟨g, off + j, none⟩ = some (.bool (t.bits.getD j false))) := hcells; (have HR : Hid (cls3 t.n t.bits = (List.range t.bits.length).all fun r => (List.range t.n).all fun i => !(t.bits.getD r false && !t.bits.getD (r ||| 2 ^ i) false)) := rfl); generalize cls3 t.n t.bits = res at *; have HLn : Hid (t.bits.length = 2 ^ t.n) := hlen; clear hlen; generalize t.bits.length = M at *; (have hMI : (M : Int) ≤ 16 := by omega); obtain ⟨N, bs⟩ := t; simp only at *; (have hNI : (N : Int) ≤ 4 := by omega); clear hcells h
  go_enter Try.func60, Try.ntmps60
  go_wp2_with fail
  go_loopg [9] M (fun gk c wr => ∃ r, r ≤ M ∧ gk = M - r ∧ c = .int .i64 (r : Nat) ∧ Below w.heap.size w wr ∧ wr.heap[w.heap.size]? = some (.cells #[.int .i64 (N : Nat), .slice (some ⟨g, off, none⟩) M cap] 33 (0, 0)) ∧ Hid (∀ j, j < r → ((List.range N).all fun i => !(bs.getD j false && !bs.getD (j ||| 2 ^ i) false)) = true))
  case atStart => exact ⟨0, by omega, by omega, rfl, B0, q0, fun j h => absurd h (Nat.not_lt_zero _)⟩
  case round =>
    obtain ⟨r, hr, hg, rfl, hbr, q1, HN⟩ := hrel; have HG : Hid (gk = M - r) := hg; clear hg; obtain ⟨a0, a1, -⟩ := blk2 q1; by_cases hlt : r < M
    · have g0 := (hbr.cell (p := ⟨g, off + r, none⟩) (lt_of_cell (HCe.out r hlt))).trans (HCe.out r hlt)
      have HX1 : Hid (((List.range N).all fun i => !(bs.getD r false && !bs.getD (r ||| 2 ^ i) false)) = true → ∀ j, j < r + 1 → ((List.range N).all fun i => !(bs.getD j false && !bs.getD (j ||| 2 ^ i) false)) = true) := fun hb j hj => by
          by_cases e : j = r
          · subst e; exact hb
          · exact HN.out j (by omega)
      have HX2 : Hid (((List.range N).all fun i => !(bs.getD r false && !bs.getD (r ||| 2 ^ i) false)) = false → res = false) := fun hb => by
          rw [HR.out]; exact range_all_take _ _ r hlt HN.out hb
      generalize bs.getD r false = x at *; (have hltI : (r : Int) < (M : Int) := by omega); (have hlcI : (r : Int) < (cap : Int) := by omega); obtain ⟨W0, hW0⟩ : ∃ W0, W0 = wr := ⟨_, rfl⟩; subst hW0; go_wp2_with fail
      go_loopg [16] N (fun gk c wr => ∃ i, i ≤ N ∧ gk = N - i ∧ c = .int .i64 (i : Nat) ∧ Below W0.heap.size W0 wr ∧ Hid (∀ j, j < i → (!(x && !bs.getD (r ||| 2 ^ j) false)) = true))
      case atStart => exact ⟨0, by omega, by omega, rfl, Below.refl _ _, fun j h => absurd h (Nat.not_lt_zero _)⟩
      case round =>
        obtain ⟨i, hi, hg2, rfl, hbz, HY⟩ := hrel; have HG2 : Hid (gk = N - i) := hg2; clear hg2 g0 a0 a1; have BZ := below_join hbr hbz; have q2 := below_keep hbz q1; obtain ⟨a0, a1, -⟩ := blk2 q2; by_cases hiN : i < N
        · obtain ⟨hq1, hq2⟩ := or_row r i N hn4 (by have := HLn.out; omega) hiN
          (have g1 := (BZ.cell (p := ⟨g, off + (r ||| 2 ^ i), none⟩) (lt_of_cell (HCe.out _ (by have := HLn.out; omega)))).trans (HCe.out (r ||| 2 ^ i) (by have := HLn.out; omega))); (have hqM : r ||| 2 ^ i < M := by have := HLn.out; omega); (have hw := (shl_row i (by omega)).1)
          have HX3 : Hid ((!(x && !bs.getD (r ||| 2 ^ i) false)) = true → ∀ j, j < i + 1 → (!(x && !bs.getD (r ||| 2 ^ j) false)) = true) := fun hb j hj => by
            by_cases e : j = i
            · subst e; exact hb
            · exact HY.out j (by omega)
          (have HX4 : Hid ((!(x && !bs.getD (r ||| 2 ^ i) false)) = false → res = false) := fun hb => HX2.out (range_all_take _ _ i hiN HY.out hb)); generalize bs.getD (r ||| 2 ^ i) false = y at *; generalize r ||| 2 ^ i = q at *; generalize 2 ^ i = P at *; (have hiI : (i : Int) < (N : Int) := by omega); (have hqI : (q : Int) < (M : Int) := by omega); (have hqc : (q : Int) < (cap : Int) := by omega); clear hq1 hqM
          cases x
          · have HE := HX3.out (by simp)
            have HE' : Hid (∀ j, j < i + 1 → (!(false && !bs.getD (r ||| 2 ^ j) false)) = true) := HE; clear HE HX3 HX4 HX1 HX2; go_wp2_with fail
            go_quiet (fail)
            go_wp2_with fail
            go_roundg (N - (i + 1))
            case measure => have := HG2.out; omega
            case rel => exact ⟨i + 1, by omega, rfl, by go_num, ⟨hbz.os, hbz.tape, hbz.output, hbz.size, hbz.block⟩, HE'⟩
          · cases y
            · have HE : Hid (res = false) := HX4.out (by simp)
              clear HX3 HX4 HX1 HX2; go_wp2_with fail
              go_quiet (fail)
              go_wp2_with fail; go_ret; (exact ⟨by rw [HE.out]; rfl, ⟨BZ.os, BZ.tape, BZ.output, BZ.size, BZ.block⟩⟩)
            · have HE := HX3.out (by simp)
              have HE' : Hid (∀ j, j < i + 1 → (!(true && !bs.getD (r ||| 2 ^ j) false)) = true) := HE; clear HE HX3 HX4 HX1 HX2; go_wp2_with fail
              go_quiet (fail)
              go_wp2_with fail
              go_roundg (N - (i + 1))
              case measure => have := HG2.out; omega
              case rel => exact ⟨i + 1, by omega, rfl, by go_num, ⟨hbz.os, hbz.tape, hbz.output, hbz.size, hbz.block⟩, HE'⟩
        · have HE := HX1.out (range_all _ _ fun j hj => HY.out j (by omega))
          (have HE' : Hid (∀ j, j < r + 1 → ((List.range N).all fun i => !(bs.getD j false && !bs.getD (j ||| 2 ^ i) false)) = true) := HE); (have hge : ¬ (i : Int) < (N : Int) := by omega); clear HE HX1 HX2 HY; go_wp2_with fail
          go_roundg (M - (r + 1))
          case measure => have := HG.out; omega
          case rel => exact ⟨r + 1, by omega, rfl, by go_num, BZ, q2, HE'⟩
    · have HE : Hid (res = true) := by
        show _ = _; rw [HR.out]; (exact range_all _ _ fun j hj => HN.out j (by omega))
      (have hge : ¬ (r : Int) < (M : Int) := by omega); clear HN; go_wp2_with fail; go_ret; (exact ⟨by rw [HE.out]; rfl, hbr⟩)
end Go.Proofs.Ytmahgfgndfcmpab
