/- Texts of one proof, one behind the other: TP7, TP8, TP9. -/
import Derived.Test.YtknngeojhiejnabB11
/- Walks: InClass, the first four classes. -/
namespace Go.Proofs.Ytknngeojhiejnab
open Go.RowKit

theorem and_rows (r i : Nat) : r &&& (r ||| 2 ^ i) = r := by
  apply Nat.eq_of_testBit_eq
  intro j
  rw [Nat.testBit_and, Nat.testBit_or]
  cases r.testBit j <;> simp
/-- Rising by steps of one value is rising. -/
theorem cls3_all {t : Tb} (hok : t.Ok) : cls3 t.n t.bits = true ↔ ∀ k m, k < t.bits.length → m < t.bits.length → k &&& m = k → t.bits.getD k false = true → t.bits.getD m false = true := by
  constructor
  · intro h k m hk hm hkm hb
    rw [hok.2] at hk hm
    have e1 : t.at k.testBit = t.bits.getD k false := by unfold Tb.at; rw [idx_of hk]
    have e2 : t.at m.testBit = t.bits.getD m false := by unfold Tb.at; rw [idx_of hm]
    rw [← e2]
    refine cls3_at hok h k.testBit m.testBit (fun i _ hi => ?_) (by rw [e1]; exact hb)
    have := congrArg (fun x => x.testBit i) hkm
    simp only [Nat.testBit_and, hi, Bool.true_and] at this
    exact this
  · intro h
    unfold cls3
    rw [List.all_eq_true]
    intro r hr
    rw [List.all_eq_true]
    intro i hi
    have hr' := List.mem_range.1 hr
    have hi' := List.mem_range.1 hi
    have hl : r ||| 2 ^ i < t.bits.length := by
      rw [hok.2] at hr' ⊢
      exact Nat.or_lt_two_pow hr' (Nat.pow_lt_pow_right (by omega) hi')
    have := h r (r ||| 2 ^ i) hr' hl (and_rows r i)
    revert this
    cases t.bits.getD r false <;> cases t.bits.getD (r ||| 2 ^ i) false <;> simp

theorem and_row (k m : Nat) (hk : k ≤ 16) (hm : m ≤ 16) : bits BinOp.and IntKind.i64 (k : Int) (m : Int) = ((k &&& m : Nat) : Int) :=
  (bits_nat .i64 62 (by decide) wraps_i64 k m (by have : (2 : Nat) ^ 62 = 4611686018427387904 := by decide
                                                  omega) (by have : (2 : Nat) ^ 62 = 4611686018427387904 := by decide
                                                             omega)).1

set_option maxHeartbeats 1000000 in
theorem inClass0 (t : Tb) (hok : t.Ok) (v : Value) (w : World) (h : TR w t v) :
    Calls Try.prog 11 #[v, .int .i64 0] w fun e w' => e = .returned (.bool (cls0 t.bits)) ∧ Below w.heap.size w w' := by
  obtain ⟨g, off, cap, rfl, hc, hcells⟩ := h.cells hok
  have hl := hok.len
  have q0 := blk_new w (.cells #[.int .i64 (t.n : Nat), .slice (some ⟨g, off, none⟩) t.bits.length cap] 33 (0, 0))
  have B0 := below_more (Below.refl _ w) (.cells #[.int .i64 (t.n : Nat), .slice (some ⟨g, off, none⟩) t.bits.length cap] 33 (0, 0))
  have c0 := hcells 0 (by omega)
  rw [Nat.add_zero] at c0
  have HR : Hid (cls0 t.bits = !t.bits.getD 0 false) := rfl
  generalize cls0 t.bits = res at *
  generalize t.bits.getD 0 false = x at *
  generalize t.bits.length = M at *
  have hMI : (0 : Int) < (M : Int) := by omega
  have hcI : (0 : Int) < (cap : Int) := by omega
  have zg := lt_of_cell c0
  have g0 := (B0.cell (p := ⟨g, off, none⟩) zg).trans c0
  clear hcells h
  go_enter Try.func11, Try.ntmps11
  go_wp2_with fail
  go_ret
  exact ⟨by rw [HR.out]; rfl, B0⟩

set_option maxHeartbeats 1000000 in
theorem inClass1 (t : Tb) (hok : t.Ok) (v : Value) (w : World) (h : TR w t v) :
    Calls Try.prog 11 #[v, .int .i64 1] w fun e w' => e = .returned (.bool (cls1 t.bits)) ∧ Below w.heap.size w w' := by
  obtain ⟨g, off, cap, rfl, hc, hcells⟩ := h.cells hok
  have hl := hok.len
  have B0 := below_more (Below.refl _ w) (.cells #[.int .i64 (t.n : Nat), .slice (some ⟨g, off, none⟩) t.bits.length cap] 33 (0, 0))
  have c0 := hcells (t.bits.length - 1) (by omega)
  have HR : Hid (cls1 t.bits = t.bits.getD (t.bits.length - 1) false) := rfl
  generalize cls1 t.bits = res at *
  generalize t.bits.getD (t.bits.length - 1) false = x at *
  clear hcells h
  generalize t.bits.length = L at *
  obtain ⟨M, rfl⟩ : ∃ M, L = M + 1 := ⟨L - 1, by omega⟩
  rw [Nat.add_sub_cancel] at c0
  have hMI : (M : Int) ≤ 16 := by omega
  have hcI : (M : Int) < (cap : Int) := by omega
  have zg := lt_of_cell c0
  have g0 := (B0.cell (p := ⟨g, off + M, none⟩) zg).trans c0
  go_enter Try.func11, Try.ntmps11
  go_wp2_with fail
  go_ret
  exact ⟨by rw [HR.out]; rfl, B0⟩

set_option maxHeartbeats 4000000 in
theorem inClass2 (t : Tb) (hok : t.Ok) (v : Value) (w : World) (h : TR w t v) :
    Calls Try.prog 11 #[v, .int .i64 2] w fun e w' => e = .returned (.bool (cls2 t.bits)) ∧ Below w.heap.size w w' := by
  obtain ⟨g, off, cap, rfl, hc, hcells⟩ := h.cells hok
  have hl := hok.len
  have q0 := blk_new w (.cells #[.int .i64 (t.n : Nat), .slice (some ⟨g, off, none⟩) t.bits.length cap] 33 (0, 0))
  have B0 := below_more (Below.refl _ w) (.cells #[.int .i64 (t.n : Nat), .slice (some ⟨g, off, none⟩) t.bits.length cap] 33 (0, 0))
  have HCe : Hid (∀ j, j < t.bits.length → w.cell? ⟨g, off + j, none⟩ = some (.bool (t.bits.getD j false))) := hcells
  have HR : Hid (cls2 t.bits = (List.range t.bits.length).all fun k => t.bits.getD k false != t.bits.getD (t.bits.length - 1 - k) false) := rfl
  generalize cls2 t.bits = res at *
  generalize t.bits.length = M at *
  have hMI : (M : Int) ≤ 16 := by omega
  obtain ⟨N, bs⟩ := t
  simp only at *
  clear hcells h
  go_enter Try.func11, Try.ntmps11
  go_wp2_with fail
  go_loopg [6] M (fun gk c wr => ∃ r, r ≤ M ∧ gk = M - r ∧ c = .int .i64 (r : Nat) ∧ Below w.heap.size w wr ∧ wr.heap[w.heap.size]? = some (.cells #[.int .i64 (N : Nat), .slice (some ⟨g, off, none⟩) M cap] 33 (0, 0)) ∧ Hid (∀ j, j < r → (bs.getD j false != bs.getD (M - 1 - j) false) = true))
  case atStart => exact ⟨0, by omega, by omega, rfl, B0, q0, fun j h => absurd h (Nat.not_lt_zero _)⟩
  case round =>
    obtain ⟨r, hr, hg, rfl, hbr, q1, HN⟩ := hrel
    have HG : Hid (gk = M - r) := hg
    clear hg
    obtain ⟨a0, a1, -⟩ := blk2 q1
    by_cases hlt : r < M
    · have g0 := (hbr.cell (p := ⟨g, off + r, none⟩) (lt_of_cell (HCe.out r hlt))).trans (HCe.out r hlt)
      have g1 := (hbr.cell (p := ⟨g, off + (M - 1 - r), none⟩) (lt_of_cell (HCe.out (M - 1 - r) (by omega)))).trans (HCe.out (M - 1 - r) (by omega))
      have HX1 : Hid ((bs.getD r false != bs.getD (M - 1 - r) false) = true → ∀ j, j < r + 1 → (bs.getD j false != bs.getD (M - 1 - j) false) = true) := fun hb j hj => by
        by_cases e : j = r
        · subst e; exact hb
        · exact HN.out j (by omega)
      have HX2 : Hid ((bs.getD r false != bs.getD (M - 1 - r) false) = false → res = false) := fun hb => by
        rw [HR.out]
        exact range_all_take _ _ r hlt HN.out hb
      generalize bs.getD r false = x at *
      generalize bs.getD (M - 1 - r) false = y at *
      obtain ⟨q, hq⟩ : ∃ q, M = q + r + 1 := ⟨M - 1 - r, by omega⟩
      have hqe : M - 1 - r = q := by omega
      rw [hqe] at g1
      have hs1 : (M : Int) - 1 - (r : Int) = (q : Int) := by omega
      have hltI : (r : Int) < (M : Int) := by omega
      have hlcI : (r : Int) < (cap : Int) := by omega
      have hqI : (q : Int) < (M : Int) := by omega
      have hqc : (q : Int) < (cap : Int) := by omega
      have hq0 : (0 : Int) ≤ (q : Int) := by omega
      clear hqe hq
      cases hxy : (x == y)
      · have hxy2 : (x != y) = true := by simp [bne, hxy]
        have HE : Hid (∀ j, j < r + 1 → (bs.getD j false != bs.getD (M - 1 - j) false) = true) := HX1.out hxy2
        clear HX1 HX2 hxy2
        go_wp2_with fail
        go_quiet (fail)
        go_wp2_with fail
        go_roundg (M - (r + 1))
        case measure => have := HG.out; omega
        case rel => exact ⟨r + 1, by omega, rfl, by go_num, below_same hbr _, q1, HE⟩
      · have hxy2 : (x != y) = false := by simp [bne, hxy]
        have HE : Hid (res = false) := HX2.out hxy2
        clear HX1 HX2 hxy2
        go_wp2_with fail
        go_quiet (fail)
        go_wp2_with fail
        go_ret
        exact ⟨by rw [HE.out]; rfl, below_same hbr _⟩
    · have HE : Hid (res = true) := by
        show _ = _
        rw [HR.out]
        exact range_all _ _ fun j hj => HN.out j (by omega)
      have hge : ¬ (r : Int) < (M : Int) := by omega
      go_wp2_with fail
      go_ret
      exact ⟨by rw [HE.out]; rfl, hbr⟩

set_option maxHeartbeats 4000000 in
theorem inClass3 (t : Tb) (hok : t.Ok) (v : Value) (w : World) (h : TR w t v) :
    Calls Try.prog 11 #[v, .int .i64 3] w fun e w' => e = .returned (.bool (cls3 t.n t.bits)) ∧ Below w.heap.size w w' := by
  obtain ⟨g, off, cap, rfl, hc, hcells⟩ := h.cells hok
  have hl := hok.len
  have q0 := blk_new w (.cells #[.int .i64 (t.n : Nat), .slice (some ⟨g, off, none⟩) t.bits.length cap] 33 (0, 0))
  have B0 := below_more (Below.refl _ w) (.cells #[.int .i64 (t.n : Nat), .slice (some ⟨g, off, none⟩) t.bits.length cap] 33 (0, 0))
  have HCe : Hid (∀ j, j < t.bits.length → w.cell? ⟨g, off + j, none⟩ = some (.bool (t.bits.getD j false))) := hcells
  have HR : Hid (cls3 t.n t.bits = true ↔ ∀ k m, k < t.bits.length → m < t.bits.length → k &&& m = k → t.bits.getD k false = true → t.bits.getD m false = true) := cls3_all hok
  generalize cls3 t.n t.bits = res at *
  generalize t.bits.length = M at *
  have hMI : (M : Int) ≤ 16 := by omega
  obtain ⟨N, bs⟩ := t
  simp only at *
  clear hcells h
  go_enter Try.func11, Try.ntmps11
  go_wp2_with fail
  go_loopg [7] M (fun gk c wr => ∃ r, r ≤ M ∧ gk = M - r ∧ c = .int .i64 (r : Nat) ∧ Below w.heap.size w wr ∧ wr.heap[w.heap.size]? = some (.cells #[.int .i64 (N : Nat), .slice (some ⟨g, off, none⟩) M cap] 33 (0, 0)) ∧ Hid (∀ j, j < r → ∀ m, m < M → j &&& m = j → bs.getD j false = true → bs.getD m false = true))
  case atStart => exact ⟨0, by omega, by omega, rfl, B0, q0, fun j h => absurd h (Nat.not_lt_zero _)⟩
  case round =>
    obtain ⟨r, hr, hg, rfl, hbr, q1, HN⟩ := hrel
    have HG : Hid (gk = M - r) := hg
    clear hg
    by_cases hlt : r < M
    · have hltI : (r : Int) < (M : Int) := by omega
      have hlcI : (r : Int) < (cap : Int) := by omega
      obtain ⟨W0, hW0⟩ : ∃ W0, W0 = wr := ⟨_, rfl⟩
      subst hW0
      go_wp2_with fail
      go_loopg [8] M (fun gk c wr => ∃ m, m ≤ M ∧ gk = M - m ∧ c = .int .i64 (m : Nat) ∧ wr = W0 ∧ Hid (∀ j, j < m → r &&& j = r → bs.getD r false = true → bs.getD j false = true))
      case atStart => exact ⟨0, by omega, by omega, rfl, rfl, fun j h => absurd h (Nat.not_lt_zero _)⟩
      case round =>
        obtain ⟨m, hm, hg2, rfl, hw, HY⟩ := hrel
        have HG2 : Hid (gk = M - m) := hg2
        have hw' := hw.symm
        subst hw'
        clear hg2
        obtain ⟨a0, a1, -⟩ := blk2 q1
        by_cases hmM : m < M
        · have hmI : (m : Int) < (M : Int) := by omega
          have hmc : (m : Int) < (cap : Int) := by omega
          have g0 := (hbr.cell (p := ⟨g, off + r, none⟩) (lt_of_cell (HCe.out r hlt))).trans (HCe.out r hlt)
          have g1 := (hbr.cell (p := ⟨g, off + m, none⟩) (lt_of_cell (HCe.out m hmM))).trans (HCe.out m hmM)
          have hand := and_row r m (by omega) (by omega)
          have HX1 : Hid ((r &&& m = r → bs.getD r false = true → bs.getD m false = true) → ∀ j, j < m + 1 → r &&& j = r → bs.getD r false = true → bs.getD j false = true) := fun hb j hj => by
            by_cases e : j = m
            · subst e; exact hb
            · exact HY.out j (by omega)
          have HX2 : Hid (r &&& m = r → bs.getD r false = true → bs.getD m false = false → res = false) := fun h1 h2 h3 => by
            cases hres : res
            · rfl
            · have := HR.out.1 hres r m hlt hmM h1 h2
              rw [h3] at this
              cases this
          by_cases he : r &&& m = r
          · rw [he] at hand
            have hee : ((r : Int) == (r : Int)) = true := by simp
            cases hx : bs.getD r false
            · have HE : Hid (∀ j, j < m + 1 → r &&& j = r → bs.getD r false = true → bs.getD j false = true) := HX1.out fun _ h => by rw [hx] at h; cases h
              rw [hx] at g0
              clear HX1 HX2 hx
              go_wp2_with fail
              go_roundg (M - (m + 1))
              case measure => have := HG2.out; omega
              case rel => exact ⟨m + 1, by omega, rfl, by go_num, rfl, HE⟩
            · cases hy : bs.getD m false
              · have HE : Hid (res = false) := HX2.out he hx hy
                rw [hx] at g0
                rw [hy] at g1
                clear HX1 HX2 hx hy
                go_wp2_with fail
                go_ret
                exact ⟨by rw [HE.out]; rfl, hbr⟩
              · have HE : Hid (∀ j, j < m + 1 → r &&& j = r → bs.getD r false = true → bs.getD j false = true) := HX1.out fun _ _ => hy
                rw [hx] at g0
                rw [hy] at g1
                clear HX1 HX2 hx hy
                go_wp2_with fail
                go_roundg (M - (m + 1))
                case measure => have := HG2.out; omega
                case rel => exact ⟨m + 1, by omega, rfl, by go_num, rfl, HE⟩
          · have HE : Hid (∀ j, j < m + 1 → r &&& j = r → bs.getD r false = true → bs.getD j false = true) := HX1.out fun h => absurd h he
            have hee : (((r &&& m : Nat) : Int) == (r : Int)) = false := by simp; omega
            clear HX1 HX2 he
            generalize r &&& m = q at *
            go_wp2_with fail
            go_roundg (M - (m + 1))
            case measure => have := HG2.out; omega
            case rel => exact ⟨m + 1, by omega, rfl, by go_num, rfl, HE⟩
        · have HE : Hid (∀ j, j < r + 1 → ∀ m, m < M → j &&& m = j → bs.getD j false = true → bs.getD m false = true) := fun j hj m' hm' => by
            by_cases e : j = r
            · subst e; exact HY.out m' (by omega)
            · exact HN.out j (by omega) m' hm'
          have hge : ¬ (m : Int) < (M : Int) := by omega
          clear HY
          go_wp2_with fail
          go_roundg (M - (r + 1))
          case measure => have := HG.out; omega
          case rel => exact ⟨r + 1, by omega, rfl, by go_num, hbr, q1, HE⟩
    · have HE : Hid (res = true) := HR.out.2 fun k m hk => HN.out k (by omega) m
      have hge : ¬ (r : Int) < (M : Int) := by omega
      go_wp2_with fail
      go_ret
      exact ⟨by rw [HE.out]; rfl, hbr⟩
end Go.Proofs.Ytknngeojhiejnab
/- Walks: InClass, sums. -/
namespace Go.Proofs.Ytknngeojhiejnab
open Go.RowKit

def sumV (c s k : Nat) : Nat → Nat
  | 0 => c
  | i + 1 => sumV c s k i + (s &&& k) / 2 ^ i % 2
def xorV (cb : Bool) (s k : Nat) : Nat → Bool
  | 0 => cb
  | i + 1 => xorV cb s k i ^^ (s.testBit i && k.testBit i)
theorem sumV_le (c s k : Nat) (hc : c ≤ 1) : ∀ i, sumV c s k i ≤ 1 + i
  | 0 => hc
  | i + 1 => by
    have := sumV_le c s k hc i
    have h2 : (s &&& k) / 2 ^ i % 2 < 2 := Nat.mod_lt _ (by decide)
    rw [sumV]; omega
theorem sumV_xor (c s k : Nat) (hc : c < 2) : ∀ i, decide (sumV c s k i % 2 = 1) = xorV (decide (c = 1)) s k i
  | 0 => by
    rw [sumV, xorV]
    rcases (by omega : c = 0 ∨ c = 1) with rfl | rfl <;> decide
  | i + 1 => by
    have ih := sumV_xor c s k hc i
    have hb := half_bit (s &&& k) i
    rw [Nat.testBit_and] at hb
    have h2 : (s &&& k) / 2 ^ i % 2 < 2 := Nat.mod_lt _ (by decide)
    rw [sumV, xorV, ← ih]
    cases hx : (s.testBit i && k.testBit i)
    · rw [hx] at hb
      have h0 : (s &&& k) / 2 ^ i % 2 = 0 := by
        rcases (by omega : (s &&& k) / 2 ^ i % 2 = 0 ∨ (s &&& k) / 2 ^ i % 2 = 1) with h | h
        · exact h
        · exact absurd (hb.1 h) (by decide)
      rw [h0, Nat.add_zero, Bool.xor_false]
    · rw [hx] at hb
      rw [hb.2 rfl, Bool.xor_true]
      by_cases h : sumV c s k i % 2 = 1
      · rw [decide_eq_true h, decide_eq_false (by omega)]; rfl
      · rw [decide_eq_false h, decide_eq_true (by omega)]; rfl

/-- Does the sum of s and c tell the table? -/
def sumOk (t : Tb) (s c : Nat) : Prop := ∀ k, k < t.bits.length → decide (sumV c s k t.n % 2 = 1) = t.bits.getD k false

theorem xor_zero (cb : Bool) (s : Nat) : ∀ n, xorV cb s 0 n = cb
  | 0 => rfl
  | n + 1 => by rw [xorV, xor_zero cb s n]; simp
theorem xor_one (cb : Bool) (s i : Nat) : ∀ n, xorV cb s (2 ^ i) n = (cb ^^ (decide (i < n) && s.testBit i))
  | 0 => by rw [xorV]; simp
  | n + 1 => by
    rw [xorV, xor_one cb s i n, Nat.testBit_two_pow]
    by_cases h : i = n
    · subst h
      rw [decide_eq_false (by omega), decide_eq_true (by omega), decide_eq_true (by omega)]
      cases s.testBit i <;> cases cb <;> rfl
    · rw [decide_eq_false h]
      by_cases h2 : i < n
      · rw [decide_eq_true h2, decide_eq_true (by omega)]; simp
      · rw [decide_eq_false h2, decide_eq_false (by omega)]; simp

theorem cls4_sum {t : Tb} (hok : t.Ok) : cls4 t.n t.bits = true ↔ ∃ s, s < t.bits.length ∧ ∃ c, c < 2 ∧ sumOk t s c := by
  rw [cls4_at hok]
  constructor
  · intro h
    refine ⟨idx t.n (fun i => t.bits.getD (2 ^ i) false ^^ t.bits.getD 0 false), by rw [hok.2]; exact idx_lt _ _, if t.bits.getD 0 false then 1 else 0, by split <;> decide, fun k hk => ?_⟩
    rw [sumV_xor _ _ _ (by split <;> decide)]
    have hk' : k < 2 ^ t.n := by rw [← hok.2]; exact hk
    have e := h k.testBit
    unfold Tb.at at e
    rw [idx_of hk'] at e
    rw [e]
    have key : ∀ j, j ≤ t.n → xorV (decide ((if t.bits.getD 0 false then 1 else 0) = 1)) (idx t.n (fun i => t.bits.getD (2 ^ i) false ^^ t.bits.getD 0 false)) k j = affN t.bits k.testBit j := by
      intro j
      induction j with
      | zero => intro _; rw [xorV, affN]; cases t.bits.getD 0 false <;> rfl
      | succ j ih =>
        intro hj
        rw [xorV, affN, ih (by omega), idx_bit _ _ j (by omega)]
    exact key t.n (Nat.le_refl _)
  · rintro ⟨s, hs, c, hc, h⟩ v
    have hb : ∀ k, k < t.bits.length → t.bits.getD k false = xorV (decide (c = 1)) s k t.n := fun k hk => by rw [← h k hk, sumV_xor _ _ _ hc]
    have hl := hok.len
    have h0 := hb 0 (by omega)
    rw [xor_zero] at h0
    have hi : ∀ i, i < t.n → t.bits.getD (2 ^ i) false = (decide (c = 1) ^^ s.testBit i) := fun i hi => by
      rw [hb (2 ^ i) (by rw [hok.2]; exact Nat.pow_lt_pow_right (by omega) hi), xor_one, decide_eq_true hi, Bool.true_and]
    unfold Tb.at
    rw [hb (idx t.n v) (by rw [hok.2]; exact idx_lt _ _)]
    have key : ∀ j, j ≤ t.n → xorV (decide (c = 1)) s (idx t.n v) j = affN t.bits v j := by
      intro j
      induction j with
      | zero => intro _; rw [xorV, affN, h0]
      | succ j ih =>
        intro hj
        rw [xorV, affN, ih (by omega), idx_bit _ _ j (by omega), h0, hi j (by omega)]
        cases decide (c = 1) <;> cases s.testBit j <;> cases v j <;> cases affN t.bits v j <;> rfl
    exact key t.n (Nat.le_refl _)

def okTo (t : Tb) (s c : Nat) (K : Nat) : Bool := (List.range K).all fun k => decide (sumV c s k t.n % 2 = 1) == t.bits.getD k false
theorem okTo_succ (t : Tb) (s c K : Nat) : okTo t s c (K + 1) = (okTo t s c K && (decide (sumV c s K t.n % 2 = 1) == t.bits.getD K false)) := by
  unfold okTo
  rw [List.range_succ, List.all_append]
  simp
theorem okTo_ok (t : Tb) (s c : Nat) : okTo t s c t.bits.length = true ↔ sumOk t s c := by
  unfold okTo sumOk
  rw [List.all_eq_true]
  constructor
  · intro h k hk
    exact beq_iff_eq.1 (h k (List.mem_range.2 hk))
  · intro h k hk
    exact beq_iff_eq.2 (h k (List.mem_range.1 hk))

theorem and_one_bit (q i : Nat) (hq : q ≤ 16) : bits BinOp.and IntKind.i64 ((q : Int) / 2 ^ i) 1 = ((q / 2 ^ i % 2 : Nat) : Int) := by
  have hd : ((q : Int) / 2 ^ i) = ((q / 2 ^ i : Nat) : Int) := by
    rw [Int.natCast_ediv]; simp
  have hle : q / 2 ^ i ≤ 16 := Nat.le_trans (Nat.div_le_self _ _) hq
  have e : (2 : Nat) ^ 62 = 4611686018427387904 := by decide
  rw [hd]
  have h := (bits_nat .i64 62 (by decide) wraps_i64 (q / 2 ^ i) 1 (by omega) (by decide)).1
  have h' : bits BinOp.and IntKind.i64 ((q / 2 ^ i : Nat) : Int) 1 = (((q / 2 ^ i) &&& 1 : Nat) : Int) := h
  rw [h', Nat.and_one_is_mod]

set_option maxRecDepth 10000 in
set_option maxHeartbeats 8000000 in
theorem inClass4 (t : Tb) (hok : t.Ok) (v : Value) (w : World) (h : TR w t v) :
    Calls Try.prog 11 #[v, .int .i64 4] w fun e w' => e = .returned (.bool (cls4 t.n t.bits)) ∧ Below w.heap.size w w' := by
  obtain ⟨g, off, cap, rfl, hc, hcells⟩ := h.cells hok
  have hl := hok.len
  have hn4 := hok.1
  have q0 := blk_new w (.cells #[.int .i64 (t.n : Nat), .slice (some ⟨g, off, none⟩) t.bits.length cap] 33 (0, 0))
  have B0 := below_more (Below.refl _ w) (.cells #[.int .i64 (t.n : Nat), .slice (some ⟨g, off, none⟩) t.bits.length cap] 33 (0, 0))
  have HCe : Hid (∀ j, j < t.bits.length → w.cell? ⟨g, off + j, none⟩ = some (.bool (t.bits.getD j false))) := hcells
  have HR : Hid (cls4 t.n t.bits = true ↔ ∃ s, s < t.bits.length ∧ ∃ c, c < 2 ∧ sumOk t s c) := cls4_sum hok
  have HOk : Hid (∀ s c, okTo t s c t.bits.length = true ↔ sumOk t s c) := okTo_ok t
  generalize cls4 t.n t.bits = res at *
  generalize t.bits.length = M at *
  have hMI : (M : Int) ≤ 16 := by omega
  clear hcells h
  go_enter Try.func11, Try.ntmps11
  go_wp2_with fail
  go_loopg [9] M (fun gk c wr => ∃ s, s ≤ M ∧ gk = M - s ∧ c = .int .i64 (s : Nat) ∧ Below w.heap.size w wr ∧ wr.heap[w.heap.size]? = some (.cells #[.int .i64 (t.n : Nat), .slice (some ⟨g, off, none⟩) M cap] 33 (0, 0)) ∧ Hid (∀ s', s' < s → ∀ c, c < 2 → ¬ sumOk t s' c))
  case atStart => exact ⟨0, by omega, by omega, rfl, B0, q0, fun j h => absurd h (Nat.not_lt_zero _)⟩
  case round =>
    obtain ⟨s, hs, hg, rfl, hbr, q1, HN⟩ := hrel
    have HG : Hid (gk = M - s) := hg
    clear hg
    by_cases hlt : s < M
    · have hltI : (s : Int) < (M : Int) := by omega
      obtain ⟨W0, hW0⟩ : ∃ W0, W0 = wr := ⟨_, rfl⟩
      subst hW0
      go_wp2_with fail
      go_loopg [10] 2 (fun gk cc wr => ∃ c, c ≤ 2 ∧ gk = 2 - c ∧ cc = .int .i64 (c : Nat) ∧ wr = W0 ∧ Hid (∀ c', c' < c → ¬ sumOk t s c'))
      case atStart => exact ⟨0, by omega, by omega, rfl, rfl, fun j h => absurd h (Nat.not_lt_zero _)⟩
      case round =>
        obtain ⟨c, hc2, hg2, rfl, hw, HY⟩ := hrel
        have HG2 : Hid (gk = 2 - c) := hg2
        have hw' := hw.symm
        subst hw'
        clear hg2
        by_cases hcl : c < 2
        · have hcI : (c : Int) < 2 := by omega
          go_wp2_with fail
          go_loopg [12, 11] M (fun gk cc o wr => ∃ k, k ≤ M ∧ gk = M - k ∧ cc = .int .i64 (k : Nat) ∧ o = .bool (okTo t s c k) ∧ wr = W0)
          case atStart => exact ⟨0, by omega, by omega, rfl, rfl, rfl⟩
          case round =>
            obtain ⟨k, hk, hg3, rfl, rfl, hw⟩ := hrel
            have HG3 : Hid (gk = M - k) := hg3
            have hw' := hw.symm
            subst hw'
            clear hg3
            obtain ⟨a0, a1, -⟩ := blk2 q1
            by_cases hkM : k < M
            · have hkI : (k : Int) < (M : Int) := by omega
              have hkc : (k : Int) < (cap : Int) := by omega
              have hand := and_row s k (by omega) (by omega)
              have hq16 : s &&& k ≤ 16 := Nat.le_trans Nat.and_le_left (by omega)
              have HSu : Hid (∀ i, sumV c s k (i + 1) = sumV c s k i + (s &&& k) / 2 ^ i % 2) := fun _ => rfl
              have HOs : Hid (okTo t s c (k + 1) = (okTo t s c k && (decide (sumV c s k t.n % 2 = 1) == t.bits.getD k false))) := okTo_succ t s c k
              generalize s &&& k = q at *
              have HLe : Hid (∀ i, sumV c s k i ≤ 1 + i) := sumV_le c s k (by omega)
              go_wp2_with fail
              go_loopg [14, 13] t.n (fun gk cc o wr => ∃ i, i ≤ t.n ∧ gk = t.n - i ∧ cc = .int .i64 (i : Nat) ∧ o = .int .i64 (sumV c s k i : Nat) ∧ wr = W0)
              case atStart => exact ⟨0, by omega, by omega, rfl, rfl, rfl⟩
              case round =>
                obtain ⟨i, hi, hg4, rfl, rfl, hw⟩ := hrel
                have HG4 : Hid (gk = t.n - i) := hg4
                have hw' := hw.symm
                subst hw'
                clear hg4
                have hsle : sumV c s k i ≤ 5 := by have := HLe.out i; omega
                by_cases hin : i < t.n
                · have hiI : (i : Int) < (t.n : Int) := by omega
                  have hi4 : i < 4 := by omega
                  have hab := and_one_bit q i hq16
                  have hq2 : q / 2 ^ i % 2 < 2 := Nat.mod_lt _ (by decide)
                  have HS1 := HSu.out i
                  have HS2 : Hid (sumV c s k (i + 1) = sumV c s k i + q / 2 ^ i % 2) := HS1
                  clear HS1
                  generalize sumV c s k i = sv at *
                  generalize q / 2 ^ i % 2 = bq at *
                  have hsI : (sv : Int) ≤ 5 := by omega
                  have hbI : (bq : Int) ≤ 1 := by omega
                  go_wp2_with fail
                  go_roundg (t.n - (i + 1))
                  case measure => have := HG4.out; omega
                  case rel => exact ⟨i + 1, by omega, rfl, by go_num, by rw [HS2.out]; go_num, rfl⟩
                · have hit : t.n = i := by omega
                  have hiJ : ¬ (i : Int) < (t.n : Int) := by omega
                  have hOs := HOs.out
                  rw [show sumV c s k t.n = sumV c s k i by rw [hit]] at hOs
                  have HOt : Hid (okTo t s c (k + 1) = (okTo t s c k && (decide (sumV c s k i % 2 = 1) == t.bits.getD k false))) := hOs
                  clear hit hi hin HG4 HSu HLe HOs hOs
                  have g0 := (hbr.cell (p := ⟨g, off + k, none⟩) (lt_of_cell (HCe.out k hkM))).trans (HCe.out k hkM)
                  generalize sumV c s k i = sv at *
                  have HP : Hid (((sv : Int) % 2 == 1) = decide (sv % 2 = 1)) := by
                    show _ = _
                    rw [Bool.eq_iff_iff]
                    simp
                    omega
                  generalize t.bits.getD k false = x at *
                  have hsI : (sv : Int) ≤ 5 := by omega
                  generalize okTo t s c k = bo at *
                  cases bo
                  · have HO2 : Hid (okTo t s c (k + 1) = false) := by
                      show _ = _
                      rw [HOt.out]; rfl
                    clear HOt
                    go_wp2_with fail
                    go_roundg (M - (k + 1))
                    case measure => have := HG3.out; omega
                    case rel => exact ⟨k + 1, by omega, rfl, by go_num, by rw [HO2.out], rfl⟩
                  · have HO2 : Hid (okTo t s c (k + 1) = (((sv : Int) % 2 == 1) == x)) := by
                      show _ = _
                      rw [HOt.out, HP.out]; rfl
                    clear HOt HP
                    go_wp2_with fail
                    go_roundg (M - (k + 1))
                    case measure => have := HG3.out; omega
                    case rel => exact ⟨k + 1, by omega, rfl, by go_num, by rw [HO2.out], rfl⟩
            · have hkJ : ¬ (k : Int) < (M : Int) := by omega
              have hke : k = M := by omega
              have HT : Hid (okTo t s c k = true → res = true) := fun h => HR.out.2 ⟨s, hlt, c, hcl, (HOk.out s c).1 (by rw [← hke]; exact h)⟩
              have HF : Hid (okTo t s c k = false → ∀ c', c' < c + 1 → ¬ sumOk t s c') := fun h c' hc' => by
                by_cases e : c' = c
                · rw [e]
                  intro hs'
                  have := (HOk.out s c).2 hs'
                  rw [← hke, h] at this
                  cases this
                · exact HY.out c' (by omega)
              generalize okTo t s c k = bo at *
              clear hke hk hkM HY
              cases bo
              · have HF' : Hid (∀ c', c' < c + 1 → ¬ sumOk t s c') := HF.out rfl
                clear HT HF
                go_wp2_with fail
                go_roundg (2 - (c + 1))
                case measure => have := HG2.out; omega
                case rel => exact ⟨c + 1, by omega, rfl, by go_num, rfl, HF'⟩
              · have HT' : Hid (res = true) := HT.out rfl
                clear HT HF
                go_wp2_with fail
                go_ret
                exact ⟨by rw [HT'.out]; rfl, hbr⟩
        · have hcJ : ¬ (c : Int) < 2 := by omega
          have HN2 : Hid (∀ s', s' < s + 1 → ∀ c, c < 2 → ¬ sumOk t s' c) := fun s' hs' c' hc' => by
            by_cases e : s' = s
            · rw [e]; exact HY.out c' (by omega)
            · exact HN.out s' (by omega) c' hc'
          clear HY
          go_wp2_with fail
          go_roundg (M - (s + 1))
          case measure => have := HG.out; omega
          case rel => exact ⟨s + 1, by omega, rfl, by go_num, hbr, q1, HN2⟩
    · have HE : Hid (res = false) := by
        show _ = _
        cases hr : res
        · rfl
        · obtain ⟨s', hs', c, hc', ho⟩ := HR.out.1 hr
          exact absurd ho (HN.out s' (by omega) c hc')
      have hge : ¬ (s : Int) < (M : Int) := by omega
      go_wp2_with fail
      go_ret
      exact ⟨by rw [HE.out]; rfl, hbr⟩

theorem inClass_any (t : Tb) (hok : t.Ok) (i : Nat) (hi : i < 5) (v : Value) (w : World) (h : TR w t v) :
    Calls Try.prog 11 #[v, .int .i64 (i : Nat)] w fun e w' => e = .returned (.bool (clsT i t)) ∧ Below w.heap.size w w' := by
  rcases (by omega : i = 0 ∨ i = 1 ∨ i = 2 ∨ i = 3 ∨ i = 4) with rfl | rfl | rfl | rfl | rfl
  · exact inClass0 t hok v w h
  · exact inClass1 t hok v w h
  · exact inClass2 t hok v w h
  · exact inClass3 t hok v w h
  · exact inClass4 t hok v w h
end Go.Proofs.Ytknngeojhiejnab
/- Walks: Complete of what is no list of tables. -/
namespace Go.Proofs.Ytknngeojhiejnab
open Go.RowKit

set_option maxHeartbeats 4000000 in
theorem complete_no (ts : List (Int × List Bool)) (c a : Int) (hc : c ≠ 0) (htc : tcode ts = (c, a)) (v : Value) (w : World) (hv : TQ w v ts) :
    Calls Try.prog 8 #[v] w fun e w' => e = .returned (.tuple #[.bool false, .agg #[.bool false, .bool false, .bool false, .bool false, .bool false], .agg #[.int .i64 c, .int .i64 a]]) ∧ Below w.heap.size w w' := by
  have htf := fun v (w : World) h => tablesFault_any ts v w h
  rw [htc] at htf
  have hne' : (c != 0) = true := by simpa using hc
  have HTf : Hid (∀ v w, TQ w v ts → Calls Try.prog 33 #[v] w _) := htf
  have HV : Hid (TQ w v ts) := hv
  obtain ⟨ad, cap, rfl⟩ := hv.len
  clear htf htc hv hc
  go_enter Try.func8, Try.ntmps8
  go_wp2_with fail
  refine (HTf.out _ _ (HV.out.up (below_more (below_more (Below.refl _ w) _) _))).mono ?_
  rintro e w1 ⟨rfl, hb1⟩
  have q0 := below_keep hb1 (alloc_keep (blk_new w _) _)
  have q1 := below_keep hb1 (blk_sec w _ _)
  have B1 := below_join (below_more (below_more (Below.refl _ w) _) _) hb1
  have z1 := lt_of_block q1
  have d1 : ¬ w1.heap.size = w.heap.size + 1 := by omega
  have d2 : ¬ w1.heap.size = w.heap.size := by omega
  have d4 : w.heap.size + 1 < w1.heap.size := by omega
  have d6 : w.heap.size < w1.heap.size := by omega
  obtain ⟨k1, k2, k3, k4⟩ := blk2 q1
  have e0 := blk_cell q0 0
  have e1 := blk_cell q0 1
  have e2 := blk_cell q0 2
  have e3 := blk_cell q0 3
  have e4 := blk_cell q0 4
  have f0 := blk_fz q0 0
  have f1 := blk_fz q0 1
  have f2 := blk_fz q0 2
  have f3 := blk_fz q0 3
  have f4 := blk_fz q0 4
  simp at e0 e1 e2 e3 e4
  go_wp2_with fail
  go_region
  all_goals go_wp2
  have s0 : (((((w1.setCell ⟨w.heap.size, 0, none⟩ (.bool false)).setCell ⟨w.heap.size, 1, none⟩ (.bool false)).setCell ⟨w.heap.size, 2, none⟩ (.bool false)).setCell ⟨w.heap.size, 3, none⟩ (.bool false)).setCell ⟨w.heap.size, 4, none⟩ (.bool false)).heap[w.heap.size]? = some (.cells #[.bool false, .bool false, .bool false, .bool false, .bool false] 23 (0, 0)) := by
    simp [World.setCell, Array.getElem?_modify, q0]
  have s1 : (((((w1.setCell ⟨w.heap.size, 0, none⟩ (.bool false)).setCell ⟨w.heap.size, 1, none⟩ (.bool false)).setCell ⟨w.heap.size, 2, none⟩ (.bool false)).setCell ⟨w.heap.size, 3, none⟩ (.bool false)).setCell ⟨w.heap.size, 4, none⟩ (.bool false)).heap[w.heap.size + 1]? = some (.cells #[.int .i64 0, .int .i64 0] 25 (0, 0)) := by
    rw [Below.heap_setCell _ _ _ _ (by simp), Below.heap_setCell _ _ _ _ (by simp), Below.heap_setCell _ _ _ _ (by simp), Below.heap_setCell _ _ _ _ (by simp), Below.heap_setCell _ _ _ _ (by simp)]
    exact q1
  have b5 : Below w.heap.size w (((((w1.setCell ⟨w.heap.size, 0, none⟩ (.bool false)).setCell ⟨w.heap.size, 1, none⟩ (.bool false)).setCell ⟨w.heap.size, 2, none⟩ (.bool false)).setCell ⟨w.heap.size, 3, none⟩ (.bool false)).setCell ⟨w.heap.size, 4, none⟩ (.bool false)) := ((((B1.setCell (by simp) _).setCell (by simp) _).setCell (by simp) _).setCell (by simp) _).setCell (by simp) _
  have hz5 : (((((w1.setCell ⟨w.heap.size, 0, none⟩ (.bool false)).setCell ⟨w.heap.size, 1, none⟩ (.bool false)).setCell ⟨w.heap.size, 2, none⟩ (.bool false)).setCell ⟨w.heap.size, 3, none⟩ (.bool false)).setCell ⟨w.heap.size, 4, none⟩ (.bool false)).heap.size = w1.heap.size := by simp [World.setCell]
  generalize (((((w1.setCell ⟨w.heap.size, 0, none⟩ (.bool false)).setCell ⟨w.heap.size, 1, none⟩ (.bool false)).setCell ⟨w.heap.size, 2, none⟩ (.bool false)).setCell ⟨w.heap.size, 3, none⟩ (.bool false)).setCell ⟨w.heap.size, 4, none⟩ (.bool false)) = W5 at s0 s1 b5 hz5 ⊢
  obtain ⟨t1, t2, t3⟩ := flt_set (R := w.heap.size + 1) (by omega) b5 s1 c a
  have t0 := (t3 w.heap.size (by omega)).trans s0
  have hz6 : ((W5.setCell ⟨w.heap.size + 1, 0, none⟩ (.int .i64 c)).setCell ⟨w.heap.size + 1, 1, none⟩ (.int .i64 a)).heap.size = W5.heap.size := by simp [World.setCell]
  generalize World.setCell _ _ _ = F at t1 t2 t0 hz6 ⊢
  clear k1 k2 k3 k4 e0 e1 e2 e3 e4 f0 f1 f2 f3 f4
  obtain ⟨k1, k2, -⟩ := blk2 t1
  have e0 := blk_cell t0 0
  have e1 := blk_cell t0 1
  have e2 := blk_cell t0 2
  have e3 := blk_cell t0 3
  have e4 := blk_cell t0 4
  simp at e0 e1 e2 e3 e4
  have d8 : w.heap.size + 1 < F.heap.size := by omega
  have d9 : w.heap.size < F.heap.size := by omega
  exact bodyPost_ret (v := .tuple #[.bool false, .agg #[.bool false, .bool false, .bool false, .bool false, .bool false], .agg #[.int .i64 c, .int .i64 a]]) (by simp [results, Try.results8, go_sem, k1, k2, e0, e1, e2, e3, e4, d8, d9]) rfl ⟨rfl, (t2.alloc (by omega) _).drew⟩
end Go.Proofs.Ytknngeojhiejnab
