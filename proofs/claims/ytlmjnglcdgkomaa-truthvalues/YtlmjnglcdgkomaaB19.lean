/- Texts of one proof, one behind the other: TC3, TC4, TC5. -/
import Derived.Test.YtlmjnglcdgkomaaB14
import Derived.Laws.EntriesVeiled
/- Walks: isSum. -/
namespace Go.Proofs.Ytlmjnglcdgkomaa
open Go.RowKit

theorem below_same {B : Nat} {W w : World} (h : Below B W w) (k : Nat) : Below B W (w.drewN k) := ⟨h.os, h.tape, h.output, h.size, h.block⟩

set_option maxHeartbeats 4000000 in
theorem sum_any (t : Tb) (hok : t.Ok) (v : Value) (w : World) (h : TR w t v) :
    Calls Try.prog 128 #[v] w fun e w' => e = .returned (.bool (cls4 t.n t.bits)) ∧ Below w.heap.size w w' := by
  obtain ⟨g, off, cap, rfl, hc, hcells⟩ := h.cells hok; have hl := hok.len; obtain ⟨hn4, hlen⟩ := hok; have q0 := blk_new w (.cells #[.int .i64 (t.n : Nat), .slice (some ⟨g, off, none⟩) t.bits.length cap] 100 (0, 0)); have B0 := below_more (Below.refl _ w) (.cells #[.int .i64 (t.n : Nat), .slice (some ⟨g, off, none⟩) t.bits.length cap] 100 (0, 0)); have HCe : Hid (∀ j, j < t.bits.length → w.cell? ⟨g, off + j, none⟩ = some (.bool (t.bits.getD j false))) := hcells; (have HR : Hid (cls4 t.n t.bits = (List.range t.bits.length).all fun r => !(sumTo t.bits r t.n != t.bits.getD r false)) := rfl); generalize cls4 t.n t.bits = res at *; have HLn : Hid (t.bits.length = 2 ^ t.n) := hlen; clear hlen; generalize t.bits.length = M at *; (have hMI : (M : Int) ≤ 16 := by omega); (have hM1 : (0 : Int) < (M : Int) := by omega); (have hc1 : (0 : Int) < (cap : Int) := by omega); obtain ⟨N, bs⟩ := t; simp only at *; (have hNI : (N : Int) ≤ 4 := by omega); clear hcells h
  go_enter Try.func128, Try.ntmps128
  go_wp2_with fail
  go_loopg [11] M (fun gk c wr => ∃ r, r ≤ M ∧ gk = M - r ∧ c = .int .i64 (r : Nat) ∧ Below w.heap.size w wr ∧ wr.heap[w.heap.size]? = some (.cells #[.int .i64 (N : Nat), .slice (some ⟨g, off, none⟩) M cap] 100 (0, 0)) ∧ Hid (∀ j, j < r → (!(sumTo bs j N != bs.getD j false)) = true))
  case atStart => exact ⟨0, by omega, by omega, rfl, B0, q0, fun j h => absurd h (Nat.not_lt_zero _)⟩
  case round =>
    obtain ⟨r, hr, hg, rfl, hbr, q1, HN⟩ := hrel; have HG : Hid (gk = M - r) := hg; clear hg; obtain ⟨a0, a1, -⟩ := blk2 q1; by_cases hlt : r < M
    · have g0 := (hbr.cell (p := ⟨g, off + r, none⟩) (lt_of_cell (HCe.out r hlt))).trans (HCe.out r hlt)
      (have z0 := (hbr.cell (p := ⟨g, off + 0, none⟩) (lt_of_cell (HCe.out 0 (by omega)))).trans (HCe.out 0 (by omega))); rw [Nat.add_zero] at z0
      have HX1 : Hid ((!(sumTo bs r N != bs.getD r false)) = true → ∀ j, j < r + 1 → (!(sumTo bs j N != bs.getD j false)) = true) := fun hb j hj => by
          by_cases e : j = r
          · subst e; exact hb
          · exact HN.out j (by omega)
      have HX2 : Hid ((!(sumTo bs r N != bs.getD r false)) = false → res = false) := fun hb => by
          rw [HR.out]; exact range_all_take _ _ r hlt HN.out hb
      (have HS0 : Hid (sumTo bs r 0 = bs.getD 0 false) := by show _ = _; rw [sumTo]); (have HS1 : Hid (∀ i, sumTo bs r (i + 1) = if (bs.getD (2 ^ i) false != bs.getD 0 false) && r.testBit i then !sumTo bs r i else sumTo bs r i) := fun i => by rw [sumTo]); generalize bs.getD 0 false = x0 at *; generalize bs.getD r false = x at *; (have hltI : (r : Int) < (M : Int) := by omega); (have hlcI : (r : Int) < (cap : Int) := by omega); obtain ⟨W0, hW0⟩ : ∃ W0, W0 = wr := ⟨_, rfl⟩; subst hW0; go_wp2_with fail
      go_loopg [22, 5] N (fun gk c s wr => ∃ i, i ≤ N ∧ gk = N - i ∧ c = .int .i64 (i : Nat) ∧ s = .bool (sumTo bs r i) ∧ Below W0.heap.size W0 wr)
      case atStart => exact ⟨0, by omega, by omega, rfl, by rw [HS0.out], Below.refl _ _⟩
      case round =>
        obtain ⟨i, hi, hg2, rfl, rfl, hbz⟩ := hrel; have HG2 : Hid (gk = N - i) := hg2; have z1 := (hbz.cell (p := ⟨g, off, none⟩) (lt_of_cell z0)).trans z0; clear hg2 g0 a0 a1 z0; have BZ := below_join hbr hbz; have q2 := below_keep hbz q1; obtain ⟨a0, a1, -⟩ := blk2 q2; by_cases hiN : i < N
        · have hP : 2 ^ i < 2 ^ N := Nat.pow_lt_pow_right (by omega) hiN
          (have hqM : 2 ^ i < M := by have := HLn.out; omega); have g1 := (BZ.cell (p := ⟨g, off + 2 ^ i, none⟩) (lt_of_cell (HCe.out _ hqM))).trans (HCe.out (2 ^ i) hqM); (have hw := (shl_row i (by omega)).1); have HS2 : Hid (sumTo bs r (i + 1) = _) := HS1.out i; (have hdi := fun w => digit_any r i (by omega) (by omega) w); obtain ⟨s1, hs1⟩ : ∃ s1, s1 = sumTo bs r (i + 1) := ⟨_, rfl⟩; rw [← hs1] at HS2; have HS3 : Hid (sumTo bs r (i + 1) = s1) := hs1.symm; clear hs1; generalize sumTo bs r i = s0 at *; generalize bs.getD (2 ^ i) false = y at *; generalize r.testBit i = d at *; generalize 2 ^ i = P at *; have HDi : Hid (∀ w, Calls Try.prog 102 _ w _) := hdi; (have hiI : (i : Int) < (N : Int) := by omega); (have hqI : (P : Int) < (M : Int) := by omega); (have hqc : (P : Int) < (cap : Int) := by omega); clear hP hqM hdi; by_cases hyx : y = x0
          · have hye : (y == x0) = true := by simpa using hyx
            have HE : Hid (s1 = s0) := by
              show _ = _; rw [HS2.out, hyx]; simp
            clear HX1 HX2 HS1 HS0 HS2 hyx; go_wp2_with fail
            go_quiet (fail)
            go_wp2_with fail
            go_roundg (N - (i + 1))
            case measure => have := HG2.out; omega
            case rel => exact ⟨i + 1, by omega, rfl, by go_num, by rw [HS3.out, HE.out], below_same hbz _⟩
          · have hye : (y == x0) = false := by simpa using hyx
            have HE : Hid (s1 = if d then !s0 else s0) := by
              show _ = _; rw [HS2.out]; simp [hyx]
            clear HX1 HX2 HS1 HS0 HS2 hyx
            cases d
            all_goals
              go_wp2_with fail
              go_quiet (fail)
              go_wp2_with (first
                | (go_at_call 102
                   refine (HDi.out _).mono ?_; rintro e w3 ⟨rfl, hw3⟩
                   subst hw3)
                | fail)
              go_roundg (N - (i + 1))
              case measure => have := HG2.out; omega
              case rel => exact ⟨i + 1, by omega, rfl, by go_num, by rw [HS3.out, HE.out]; simp, below_same hbz _⟩
        · obtain rfl : i = N := by omega
          (have hge : ¬ (i : Int) < (i : Int) := by omega); generalize sumTo bs r i = s0 at *; by_cases hsx : s0 = x
          · have HE := HX1.out (by subst hsx; simp)
            have HE' : Hid (∀ j, j < r + 1 → (!(sumTo bs j i != bs.getD j false)) = true) := HE; (have hse : (s0 == x) = true := by simpa using hsx); clear HE HX1 HX2 hsx; go_wp2_with fail
            go_roundg (M - (r + 1))
            case measure => have := HG.out; omega
            case rel => exact ⟨r + 1, by omega, rfl, by go_num, BZ, q2, HE'⟩
          · have hse : (s0 == x) = false := by simpa using hsx
            (have HE : Hid (res = false) := HX2.out (by simp [hsx])); clear HX1 HX2 hsx; go_wp2_with fail; go_ret; (exact ⟨by rw [HE.out]; rfl, BZ⟩)
    · have HE : Hid (res = true) := by
        show _ = _; rw [HR.out]; (exact range_all _ _ fun j hj => HN.out j (by omega))
      (have hge : ¬ (r : Int) < (M : Int) := by omega); clear HN; go_wp2_with fail; go_ret; (exact ⟨by rw [HE.out]; rfl, hbr⟩)
end Go.Proofs.Ytlmjnglcdgkomaa
/- Walks: lists of tables; tablesFault. -/
namespace Go.Proofs.Ytlmjnglcdgkomaa
open Go.RowKit

/-- A list of tables in memory, whatever they are. -/
def TQ (w : World) (v : Value) (ts : List (Int × List Bool)) : Prop := ∃ ad cap, v = .slice ad ts.length cap ∧ ts.length ≤ cap ∧ cap ≤ maxLen ∧ (ts ≠ [] → ∃ g off, ad = some ⟨g, off, none⟩ ∧ ∀ (j : Nat) (t : Int × List Bool), ts[j]? = some t → ∃ adB cpB, w.cell? ⟨g, off + j * 2, none⟩ = some (.int .i64 t.1) ∧ w.cell? ⟨g, off + j * 2 + 1, none⟩ = some (.slice adB t.2.length cpB) ∧ BL w (.slice adB t.2.length cpB) t.2)
theorem TQ.up {w w' : World} {v : Value} {ts : List (Int × List Bool)} (h : TQ w v ts) (hb : Below w.heap.size w w') : TQ w' v ts := by
  obtain ⟨ad, cap, h1, h2, h3, h4⟩ := h; (refine ⟨ad, cap, h1, h2, h3, fun hne => ?_⟩); obtain ⟨g, off, h5, h6⟩ := h4 hne; (refine ⟨g, off, h5, fun j t ht => ?_⟩); obtain ⟨adB, cpB, h7, h8, h9⟩ := h6 j t ht; exact ⟨adB, cpB, (hb.cell (p := ⟨g, off + j * 2, none⟩) (lt_of_cell h7)).trans h7, (hb.cell (p := ⟨g, off + j * 2 + 1, none⟩) (lt_of_cell h8)).trans h8, h9.up hb⟩

/-- What is said of one table. -/
def tbad (t : Int × List Bool) : Int := if t.1 < 0 ∨ 4 < t.1 then 3 else if (t.2.length : Int) ≠ ((2 ^ t.1.toNat : Nat) : Int) then 9 else 0
def tfirst : List (Int × List Bool) → Nat → Int × Int
  | [], _ => (0, 0)
  | t :: ts, i => if tbad t = 0 then tfirst ts (i + 1) else (tbad t, (i : Nat))
def tcode (ts : List (Int × List Bool)) : Int × Int := if 20 < ts.length then (2, 0) else tfirst ts 0

theorem tfirst_drop {ts : List (Int × List Bool)} {i : Nat} {t : Int × List Bool} (h : ts[i]? = some t) (a : Nat) : tfirst (ts.drop i) a = if tbad t = 0 then tfirst (ts.drop (i + 1)) (a + 1) else (tbad t, (a : Nat)) := by
  have hi : i < ts.length := by
    rcases Nat.lt_or_ge i ts.length with h' | h'
    · exact h'
    · rw [List.getElem?_eq_none h'] at h; cases h
  rw [List.drop_eq_getElem_cons hi, tfirst]; rw [List.getElem?_eq_getElem hi] at h; rw [Option.some.inj h]

set_option maxHeartbeats 4000000 in
theorem tablesFault_any (ts : List (Int × List Bool)) (v : Value) (w : World) (hv : TQ w v ts) :
    Calls Try.prog 96 #[v] w fun e w' => e = .returned (.agg #[.int .i64 (tcode ts).1, .int .i64 (tcode ts).2]) ∧ Below w.heap.size w w' := by
  obtain ⟨ad, cap, rfl, h1, h2, h3⟩ := hv; have H3 : Hid (ts ≠ [] → ∃ g off, ad = some ⟨g, off, none⟩ ∧ ∀ (j : Nat) (t : Int × List Bool), ts[j]? = some t → ∃ adB cpB, w.cell? ⟨g, off + j * 2, none⟩ = some (.int .i64 t.1) ∧ w.cell? ⟨g, off + j * 2 + 1, none⟩ = some (.slice adB t.2.length cpB) ∧ BL w (.slice adB t.2.length cpB) t.2) := h3; (have HT : Hid (tcode ts = if 20 < ts.length then (2, 0) else tfirst ts 0) := rfl); generalize tcode ts = tc at *; have q0 := blk_new w (.cells #[.int .i64 0, .int .i64 0] 29 (0, 0)); have B0 := below_more (Below.refl _ w) (.cells #[.int .i64 0, .int .i64 0] 29 (0, 0)); clear h3; by_cases h20 : 20 < ts.length
  · have h20I : (20 : Int) < (ts.length : Int) := by omega
    have HE : Hid (tc = (2, 0)) := by
      have := HT.out
      rwa [if_pos h20] at this
    go_enter Try.func96, Try.ntmps96
    go_wp2_with fail; have b2 := below_more (Below.refl _ w) (.cells #[.int .i64 2, .int .i64 0] 29 (0, 0)); (exact bodyPost_ret (v := .agg #[.int .i64 2, .int .i64 0]) (by simp [results, Try.results96, go_sem]) rfl ⟨by rw [HE.out], b2⟩)
  · have h20I : ¬ (20 : Int) < (ts.length : Int) := by omega
    (have hlI : (ts.length : Int) ≤ 20 := by omega)
    have HE : Hid (tc = tfirst ts 0) := by
      have := HT.out
      rwa [if_neg h20] at this
    clear HT h20
    go_enter Try.func96, Try.ntmps96
    go_wp2_with fail
    go_loopg [11] ts.length (fun gk c wr => ∃ i, i ≤ ts.length ∧ gk = ts.length - i ∧ c = .int .i64 (i : Nat) ∧ Below w.heap.size w wr ∧ wr.heap[w.heap.size]? = some (.cells #[.int .i64 0, .int .i64 0] 29 (0, 0)) ∧ Hid (tfirst ts 0 = tfirst (ts.drop i) i))
    case atStart => exact ⟨0, by omega, by omega, rfl, B0, q0, by show _ = _; rfl⟩
    case round =>
      obtain ⟨i, hi, hg, rfl, hbr, q1, HW⟩ := hrel; have HG : Hid (gk = ts.length - i) := hg; clear hg; have z1 := lt_of_block q1; by_cases hlt : i < ts.length
      · obtain ⟨⟨N, bs⟩, ht⟩ : ∃ x, ts[i]? = some x := ⟨_, List.getElem?_eq_getElem hlt⟩
        (obtain ⟨g, off, rfl, hc⟩ := H3.out (fun e => by rw [e] at hlt; simp at hlt)); obtain ⟨adB, cpB, c0, c1, hbl⟩ := hc i _ ht; have g0 := (hbr.cell (p := ⟨g, off + i * 2, none⟩) (lt_of_cell c0)).trans c0; have g1 := (hbr.cell (p := ⟨g, off + i * 2 + 1, none⟩) (lt_of_cell c1)).trans c1
        have hbm : (bs.length : Int) ≤ 9223372036854775807 := by
          obtain ⟨_, _, hx, hx1, hx2, -⟩ := hbl; simp only [Value.slice.injEq, true_and] at hx; have hx1' : bs.length ≤ _ := hx1; unfold maxLen at hx2; omega
        have HDr := HW.out; rw [tfirst_drop ht] at HDr; simp only at g0 g1; (have hltI : (i : Int) < (ts.length : Int) := by omega); (have hlc : (i : Int) < (cap : Int) := by omega); (have d1 : ¬ w.heap.size = wr.heap.size := by omega); (have d2 : ¬ wr.heap.size = w.heap.size := by omega); obtain ⟨k1, k2, k3, k4⟩ := blk2 q1; clear hc ht H3 HW hbl c0 c1; by_cases hr : N < 0 ∨ 4 < N
        · have hb : tbad (N, bs) = 3 := if_pos hr
          rw [hb] at HDr
          have HF : Hid (tc = (3, ((i : Nat) : Int))) := by
            show _ = _; rw [HE.out, HDr]; rfl
          clear HDr hb HE; have f2 := set2 q1 (.int .i64 3) (.int .i64 (i : Nat)); (have b2 := (hbr.setCell (p := ⟨w.heap.size, 0, none⟩) (by simp) (.int .i64 3)).setCell (p := ⟨w.heap.size, 1, none⟩) (by simp) (.int .i64 (i : Nat))); (have hsz : ((wr.setCell ⟨w.heap.size, 0, none⟩ (.int .i64 3)).setCell ⟨w.heap.size, 1, none⟩ (.int .i64 (i : Nat))).heap.size = wr.heap.size := by simp [World.setCell])
          rcases hr with hr | hr
          · go_wp2_with fail
            generalize World.setCell _ _ _ = F at f2 b2 hsz ⊢; clear k1 k2 k3 k4; obtain ⟨k1, k2, -⟩ := blk2 f2; (have d4 : w.heap.size < F.heap.size := by omega); (exact bodyPost_ret (v := .agg #[.int .i64 3, .int .i64 (i : Nat)]) (by simp [results, Try.results96, go_sem, k1, k2, d4]) rfl ⟨by rw [HF.out], b2.alloc (by omega) _⟩)
          · have hr' : ¬ N < 0 := by omega
            go_wp2_with fail; generalize World.setCell _ _ _ = F at f2 b2 hsz ⊢; clear k1 k2 k3 k4; obtain ⟨k1, k2, -⟩ := blk2 f2; (have d4 : w.heap.size < F.heap.size := by omega); (exact bodyPost_ret (v := .agg #[.int .i64 3, .int .i64 (i : Nat)]) (by simp [results, Try.results96, go_sem, k1, k2, d4]) rfl ⟨by rw [HF.out], b2.alloc (by omega) _⟩)
        · obtain ⟨n, rfl⟩ : ∃ n : Nat, N = (n : Int) := ⟨N.toNat, by omega⟩
          (have hn4 : n ≤ 4 := by omega); (have hnI : (n : Int) ≤ 4 := by omega); (have hw := (shl_row n (by omega)).1)
          have hb : tbad ((n : Int), bs) = if (bs.length : Int) ≠ ((2 ^ n : Nat) : Int) then 9 else 0 := by
            unfold tbad; rw [if_neg hr]
            simp
          rw [hb] at HDr; generalize 2 ^ n = P at *; clear hr hb; by_cases hP : (bs.length : Int) = (P : Int)
          · have HF : Hid (tfirst ts 0 = tfirst (ts.drop (i + 1)) (i + 1)) := by
              show _ = _; rw [HDr]; simp [hP]
            (have hPe : ((bs.length : Int) != (P : Int)) = false := by simp [hP]); (have hPe2 : ((bs.length : Int) == (P : Int)) = true := by simp [hP]); clear HDr hP; go_wp2_with fail
            go_quiet (fail)
            go_wp2_with fail
            go_roundg (ts.length - (i + 1))
            case measure => have := HG.out; omega
            case rel => exact ⟨i + 1, by omega, rfl, by go_num, below_same (below_more hbr _) _, alloc_keep q1 _, HF⟩
          · have HF : Hid (tc = (9, ((i : Nat) : Int))) := by
              show _ = _; rw [HE.out, HDr]; simp [hP]
            (have hPe : ((bs.length : Int) != (P : Int)) = true := by simp [hP]); (have hPe2 : ((bs.length : Int) == (P : Int)) = false := by simp [hP]); clear HDr hP HE; go_wp2_with fail
            go_quiet (fail)
            go_wp2_with fail; have f2 := set2 (show ((wr.alloc (.cells #[.int .i64 (n : Nat), .slice adB bs.length cpB] 100 (0, 0))).drewN nq).heap[w.heap.size]? = _ from alloc_keep q1 _) (.int .i64 9) (.int .i64 (i : Nat)); (have b2 := ((below_same (below_more hbr (.cells #[.int .i64 (n : Nat), .slice adB bs.length cpB] 100 (0, 0))) nq).setCell (p := ⟨w.heap.size, 0, none⟩) (by simp) (.int .i64 9)).setCell (p := ⟨w.heap.size, 1, none⟩) (by simp) (.int .i64 (i : Nat))); generalize World.setCell _ _ _ = F at f2 b2 ⊢; clear k1 k2 k3 k4; obtain ⟨k1, k2, -⟩ := blk2 f2; (exact bodyPost_ret (v := .agg #[.int .i64 9, .int .i64 (i : Nat)]) (by simp [results, Try.results96, go_sem, k1, k2]) rfl ⟨by rw [HF.out], b2⟩)
      · have HF : Hid (tc = (0, 0)) := by
          show _ = _; (rw [HE.out, HW.out, List.drop_of_length_le (by omega), tfirst])
        (have hge : ¬ (i : Int) < (ts.length : Int) := by omega); have f2 := set2 q1 (.int .i64 0) (.int .i64 0); (have b2 := (hbr.setCell (p := ⟨w.heap.size, 0, none⟩) (by simp) (.int .i64 0)).setCell (p := ⟨w.heap.size, 1, none⟩) (by simp) (.int .i64 0)); obtain ⟨k1, k2, k3, k4⟩ := blk2 q1; clear HW H3 HE; go_wp2_with fail; generalize World.setCell _ _ _ = F at f2 b2 ⊢; clear k1 k2 k3 k4; obtain ⟨k1, k2, -⟩ := blk2 f2; (exact bodyPost_ret (v := .agg #[.int .i64 0, .int .i64 0]) (by simp [results, Try.results96, go_sem, k1, k2]) rfl ⟨by rw [HF.out], b2⟩)
end Go.Proofs.Ytlmjnglcdgkomaa
/- Walks: Complete. -/
namespace Go.Proofs.Ytlmjnglcdgkomaa
open Go.RowKit

def raws (ts : List Tb) : List (Int × List Bool) := ts.map fun t => ((t.n : Int), t.bits)

theorem TQ.at {w : World} {v : Value} {ts : List Tb} (h : TQ w v (raws ts)) : ∃ ad cap, v = .slice ad ts.length cap ∧ ts.length ≤ cap ∧ cap ≤ maxLen ∧ (ts ≠ [] → ∃ g off, ad = some ⟨g, off, none⟩ ∧ ∀ (j : Nat) (t : Tb), ts[j]? = some t → ∃ adB cpB, w.cell? ⟨g, off + j * 2, none⟩ = some (.int .i64 (t.n : Nat)) ∧ w.cell? ⟨g, off + j * 2 + 1, none⟩ = some (.slice adB t.bits.length cpB) ∧ TR w t (.agg #[.int .i64 (t.n : Nat), .slice adB t.bits.length cpB])) := by
  obtain ⟨ad, cap, h1, h2, h3, h4⟩ := h; (have hl : (raws ts).length = ts.length := by simp [raws]); rw [hl] at h1 h2; (refine ⟨ad, cap, h1, h2, h3, fun hne => ?_⟩); (obtain ⟨g, off, h5, h6⟩ := h4 (by simpa [raws] using hne)); (refine ⟨g, off, h5, fun j t ht => ?_⟩); (obtain ⟨adB, cpB, h7, h8, h9⟩ := h6 j ((t.n : Int), t.bits) (by simp [raws, ht])); exact ⟨adB, cpB, h7, h8, adB, cpB, rfl, h9⟩

/-- What is asked of tables. -/
structure PredT (fn : Nat) (cap : Array Value) (p : Tb → Bool) (Ok : World → Prop) : Prop where
  up : ∀ {w w' : World}, Ok w → Below w.heap.size w w' → Ok w'
  ent : ∀ (v : Value) (w : World), (callFunc fn (#[v] ++ cap)).run Try.prog w = .ok (.enter fn (#[v] ++ cap)) w
  call : ∀ (t : Tb) (v : Value) (w : World), Ok w → t.Ok → TR w t v → Calls Try.prog fn (#[v] ++ cap) w fun e w' => e = .returned (.bool (p t)) ∧ Below w.heap.size w w'

set_option maxHeartbeats 2000000 in
theorem idxFunc_tab {fn : Nat} {cp : Array Value} {p : Tb → Bool} {Ok : World → Prop} (A : PredT fn cp p Ok) (ts : List Tb) (hok : ∀ t ∈ ts, t.Ok) (v : Value) (w : World) (hv : TQ w v (raws ts)) (ho : Ok w) :
    Calls Try.prog 129 #[v, .func (.func fn) #[] cp] w fun e w' => ∃ j : Int, e = .returned (.int .i64 j) ∧ decide (0 ≤ j) = ts.any p ∧ Below w.heap.size w w' := by
  obtain ⟨ad, cap, rfl, h1, h2, h3⟩ := hv.at; (have hlI : (ts.length : Int) ≤ 9223372036854775807 := by unfold maxLen at h2; omega); have H3 : Hid (ts ≠ [] → ∃ g off, ad = some ⟨g, off, none⟩ ∧ ∀ (j : Nat) (t : Tb), ts[j]? = some t → ∃ adB cpB, w.cell? ⟨g, off + j * 2, none⟩ = some (.int .i64 (t.n : Nat)) ∧ w.cell? ⟨g, off + j * 2 + 1, none⟩ = some (.slice adB t.bits.length cpB) ∧ TR w t (.agg #[.int .i64 (t.n : Nat), .slice adB t.bits.length cpB])) := h3; (have HA : Hid (∀ (t : Tb) (v : Value) (w : World), Ok w → t.Ok → TR w t v → Calls Try.prog fn (#[v] ++ cp) w fun e w' => e = .returned (.bool (p t)) ∧ Below w.heap.size w w') := A.call); have HU : Hid (∀ {w w' : World}, Ok w → Below w.heap.size w w' → Ok w') := A.up; have HMx : Hid (∀ t ∈ ts, t.Ok) := hok; have HO : Hid (Ok w) := ho; have hcf := A.ent; clear h3 hok ho A hv
  go_enter Try.func129, Try.ntmps129
  go_wp2_with fail
  go_loopg [8] ts.length (fun g c wr => ∃ i, i ≤ ts.length ∧ g = ts.length - i ∧ c = .int .i64 (i : Nat) ∧ Below w.heap.size w wr ∧ Hid ((ts.take i).any p = false))
  case atStart => exact ⟨0, by omega, by omega, rfl, Below.refl _ _, by show _ = _; rfl⟩
  case round =>
    obtain ⟨i, hi, hg, rfl, hbr, HN⟩ := hrel; have HG : Hid (gk = ts.length - i) := hg; clear hg; by_cases hlt : i < ts.length
    · obtain ⟨t, ht⟩ : ∃ x, ts[i]? = some x := ⟨_, List.getElem?_eq_getElem hlt⟩
      (obtain ⟨g, off, rfl, hc⟩ := H3.out (fun e => by rw [e] at hlt; simp at hlt)); obtain ⟨adB, cpB, c0, c1, htr⟩ := hc i t ht; have g0 := (hbr.cell (p := ⟨g, off + i * 2, none⟩) (lt_of_cell c0)).trans c0; have g1 := (hbr.cell (p := ⟨g, off + i * 2 + 1, none⟩) (lt_of_cell c1)).trans c1; (have hltI : (i : Int) < (ts.length : Int) := by omega); (have hlc : (i : Int) < (cap : Int) := by omega); have hcc := HA.out t _ wr (HU.out HO.out hbr) (HMx.out t (List.mem_of_getElem? ht)) (htr.up hbr); (have HXi : Hid (p t = true → ts.any p = true) := fun hp => List.any_eq_true.2 ⟨t, List.mem_of_getElem? ht, hp⟩)
      have HXn : Hid (p t = false → (ts.take (i + 1)).any p = false) := fun hp => by
        rw [List.take_add_one, ht, List.any_append, HN.out]; simp [hp]
      generalize p t = bb at *; have HCC : Hid (Calls Try.prog fn _ wr _) := hcc; clear hc ht H3 hcc c0 c1 htr; go_wp2_with fail; refine HCC.out.mono ?_; rintro e w1 ⟨rfl, hb1⟩; have B1 := below_join hbr hb1
      cases bb
      · have HX := HXn.out (by first | rfl | trivial)
        have HX' : Hid ((ts.take (i + 1)).any p = false) := HX; clear HX HXn HXi; go_wp2_with fail
        go_roundg (ts.length - (i + 1))
        case measure => have := HG.out; omega
        case rel => exact ⟨i + 1, by omega, rfl, by go_num, B1, HX'⟩
      · have HX := HXi.out (by first | rfl | trivial)
        have HX' : Hid (ts.any p = true) := HX; clear HX HXn HXi; go_wp2_with fail; go_ret; (exact ⟨(i : Int), rfl, by rw [HX'.out]; exact decide_eq_true (by omega), B1⟩)
    · have HT : Hid (ts.any p = false) := by
        have := HN.out; (rw [List.take_of_length_le (by omega)] at this); exact this
      (have hge : ¬ (i : Int) < (ts.length : Int) := by omega); clear H3 HN; go_wp2_with fail; go_ret; (exact ⟨-1, rfl, by rw [HT.out]; rfl, hbr⟩)

set_option maxHeartbeats 1000000 in
theorem contains_tab {fn : Nat} {cp : Array Value} {p : Tb → Bool} {Ok : World → Prop} (A : PredT fn cp p Ok) (ts : List Tb) (hok : ∀ t ∈ ts, t.Ok) (v : Value) (w : World) (hv : TQ w v (raws ts)) (ho : Ok w) :
    Calls Try.prog 99 #[v, .func (.func fn) #[] cp] w fun e w' => e = .returned (.bool (ts.any p)) ∧ Below w.heap.size w w' := by
  have hx := idxFunc_tab A ts hok v w hv ho; have HX : Hid (Calls Try.prog 129 _ w _) := hx; obtain ⟨ad, cap, rfl, -⟩ := hv; clear hx hok ho A
  go_enter Try.func99, Try.ntmps99
  go_wp2_with (first
    | (go_at_call 129
       refine HX.out.mono ?_; rintro e w1 ⟨j, rfl, hj, hb1⟩; have HJ : Hid (decide (0 ≤ j) = ts.any p) := hj
       clear hj)
    | fail)
  go_ret; (exact ⟨by rw [← HJ.out]; rfl, hb1⟩)

/-! The closure of Complete. -/
theorem complete1_in (cap : Array Value) (w : World) : (callFunc 98 cap).run Try.prog w = .ok (.enter 98 cap) w := by
  simp [go_sem]

def OkF (cb fn : Nat) (w : World) : Prop := w.heap[cb]? = some (.cells #[.func (.func fn) #[] #[]] 129 (0, 0))

set_option maxHeartbeats 1000000 in
theorem complete1_any {fn : Nat} {p : Tb → Bool} (A : PredT fn #[] p (fun _ => True)) (cb : Nat) (t : Tb) (v : Value) (w : World) (hw : OkF cb fn w) (hok : t.Ok) (h : TR w t v) :
    Calls Try.prog 98 (#[v] ++ #[.pointer (some ⟨cb, 0, none⟩)]) w fun e w' => e = .returned (.bool (!p t)) ∧ Below w.heap.size w w' := by
  (have hcf : ∀ (v : Value) (w : World), (callFunc fn #[v]).run Try.prog w = .ok (.enter fn #[v]) w := fun v w => A.ent v w); obtain ⟨ad, cap, rfl, hbl⟩ := id h; have B0 := below_more (Below.refl _ w) (.cells #[.int .i64 (t.n : Nat), .slice ad t.bits.length cap] 100 (0, 0)); have hcc := A.call t _ _ trivial hok (h.up B0); generalize p t = bb at *; have HCC : Hid (Calls Try.prog fn #[.agg #[.int .i64 (t.n : Nat), .slice ad t.bits.length cap]] _ _) := hcc; have k1 := alloc_keep (show w.heap[cb]? = _ from hw) (.cells #[.int .i64 (t.n : Nat), .slice ad t.bits.length cap] 100 (0, 0)); obtain ⟨c1, -⟩ := blk1 k1; clear hcc h hbl hw k1; show Calls Try.prog 98 #[.agg #[.int .i64 (t.n : Nat), .slice ad t.bits.length cap], .pointer (some ⟨cb, 0, none⟩)] w _
  go_enter Try.func98, Try.ntmps98
  go_wp2_with fail; refine HCC.out.mono ?_; rintro e w1 ⟨rfl, hb1⟩; have B1 := below_join B0 hb1; go_wp2_with fail; go_ret; exact ⟨rfl, B1⟩

theorem predC {fn : Nat} {p : Tb → Bool} (A : PredT fn #[] p (fun _ => True)) (cb : Nat) : PredT 98 #[.pointer (some ⟨cb, 0, none⟩)] (fun t => !p t) (OkF cb fn) where
  up := fun h hb => below_keep hb h
  ent := fun _ w => complete1_in _ w
  call := fun t v w ho hok h => complete1_any A cb t v w ho hok h

theorem cl0_in (cap : Array Value) (w : World) : (callFunc 124 cap).run Try.prog w = .ok (.enter 124 cap) w := by simp [go_sem]
theorem cl1_in (cap : Array Value) (w : World) : (callFunc 125 cap).run Try.prog w = .ok (.enter 125 cap) w := by simp [go_sem]
theorem cl2_in (cap : Array Value) (w : World) : (callFunc 126 cap).run Try.prog w = .ok (.enter 126 cap) w := by simp [go_sem]
theorem cl3_in (cap : Array Value) (w : World) : (callFunc 127 cap).run Try.prog w = .ok (.enter 127 cap) w := by simp [go_sem]
theorem cl4_in (cap : Array Value) (w : World) : (callFunc 128 cap).run Try.prog w = .ok (.enter 128 cap) w := by simp [go_sem]

theorem pred0 : PredT 124 #[] (fun t => cls0 t.bits) (fun _ => True) := ⟨fun _ _ => trivial, fun _ w => cl0_in _ w, fun t v w _ hok h => class0_any t hok v w h⟩
theorem pred1 : PredT 125 #[] (fun t => cls1 t.bits) (fun _ => True) := ⟨fun _ _ => trivial, fun _ w => cl1_in _ w, fun t v w _ hok h => class1_any t hok v w h⟩
theorem pred2 : PredT 126 #[] (fun t => cls2 t.bits) (fun _ => True) := ⟨fun _ _ => trivial, fun _ w => cl2_in _ w, fun t v w _ hok h => selfDual_any t hok v w h⟩
theorem pred3 : PredT 127 #[] (fun t => cls3 t.n t.bits) (fun _ => True) := ⟨fun _ _ => trivial, fun _ w => cl3_in _ w, fun t v w _ hok h => rising_any t hok v w h⟩
theorem pred4 : PredT 128 #[] (fun t => cls4 t.n t.bits) (fun _ => True) := ⟨fun _ _ => trivial, fun _ w => cl4_in _ w, fun t v w _ hok h => sum_any t hok v w h⟩

set_option maxHeartbeats 1000000 in
theorem classes_any (w : World) : Calls Try.prog 97 #[] w fun e w' => e = .returned (.agg #[.func (.func 124) #[] #[], .func (.func 125) #[] #[], .func (.func 126) #[] #[], .func (.func 127) #[] #[], .func (.func 128) #[] #[]]) ∧ Below w.heap.size w w' := by
  go_enter Try.func97, Try.ntmps97
  go_wp2_with fail; (exact bodyPost_ret (v := .agg #[.func (.func 124) #[] #[], .func (.func 125) #[] #[], .func (.func 126) #[] #[], .func (.func 127) #[] #[], .func (.func 128) #[] #[]]) (by simp [results, Try.results97, go_sem]) rfl ⟨rfl, below_more (Below.refl _ w) _⟩)
end Go.Proofs.Ytlmjnglcdgkomaa
