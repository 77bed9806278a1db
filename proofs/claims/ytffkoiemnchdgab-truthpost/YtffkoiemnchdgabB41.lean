/- Texts of one proof, one behind the other: TP5, TP6, TP7, TP8, TP9, TP10. -/
import Derived.Test.YtffkoiemnchdgabB40
import Derived.Test.YtffkoiemnchdgabB29
import Derived.Test.YtffkoiemnchdgabB31
import Derived.Test.YtffkoiemnchdgabB37
import Derived.Test.YtffkoiemnchdgabB22
/- Walks: Makes. -/
namespace Go.Proofs.Ytffkoiemnchdgab
open Go.RowKit

theorem make_ints (M : Nat) (hM : M ≤ 1000) : ∃ C : Array Value, C.size = M ∧ ∀ w : World, (Instr.makeSlice 75 (.int .i64 (M : Nat)) (.int .i64 (M : Nat))).run Try.prog w = .ok (.slice (some ⟨w.heap.size, 0, none⟩) M M) (w.alloc (.cells C 3 (0, 0))) := by
  (obtain ⟨i, hi, h⟩ := Option.map_eq_some_iff.1 (show (Try.prog.info? 3).map (fun i => (i.zero, i.size, i.bytes)) = some (some (.int .i64 0), 1, 8) by kernel_rfl)); simp only [Prod.mk.injEq] at h; obtain ⟨hz, hs, hb⟩ := h; (refine ⟨madeCells (Value.int .i64 0).cells (M * 1), by rw [size_madeCells]; omega, fun w => ?_⟩); (have := run_makeSlice (P := Try.prog) w 75 3 i _ Try.underlying75 hi hz .i64 .i64 (M : Int) (M : Int) (by omega) (Int.le_refl _) (by rw [hs]; simp; omega) (by rw [hb]; omega) (by omega)); rw [hs] at this; simpa using this

/-- What stays so while Makes goes on. -/
def MkI (w : World) (ts : List Tb) (S : Nat → Bool) (wr : World) : Prop := Below w.heap.size w wr ∧ Is wr w.heap.size S ∧ (∀ i, i < 16 → S i = true → Gen ts i) ∧ S 10 = true ∧ S 12 = true
theorem MkI.up {w wr wr' : World} {ts : List Tb} {S : Nat → Bool} (h : MkI w ts S wr) (hb : Below wr.heap.size wr wr') : MkI w ts S wr' :=
  ⟨below_join h.1 hb, h.2.1.keep (hb.block _ h.2.1.lt), h.2.2⟩
theorem MkI.set {w wr : World} {ts : List Tb} {S : Nat → Bool} (h : MkI w ts S wr) {c : Nat} (hc : w.heap.size < c) (j : Nat) (u : Value) : MkI w ts S (wr.setCell ⟨c, j, none⟩ u) :=
  ⟨h.1.setCell (by simp; omega) _, h.2.1.keep (Below.heap_setCell _ _ _ _ (by simp; omega)), h.2.2⟩
theorem MkI.put {w wr : World} {ts : List Tb} {S : Nat → Bool} (h : MkI w ts S wr) {f : Nat} (hf : f < 16) (hg : Gen ts f) : MkI w ts (addS S f) (wr.setCell ⟨w.heap.size, f, none⟩ (.bool true)) := by
  (refine ⟨h.1.setCell (by simp) _, h.2.1.put hf, fun i hi hs => ?_, by unfold addS; rw [h.2.2.2.1]; rfl, by unfold addS; rw [h.2.2.2.2]; rfl⟩); unfold addS at hs; by_cases e : i = f
  · rw [e]; exact hg
  · rw [decide_eq_false e, Bool.or_false] at hs
    exact h.2.2.1 i hi hs

def S0 (i : Nat) : Bool := decide (i = 10) || decide (i = 12)
def fineTo (S : Nat → Bool) (k j : Nat) : Bool := (List.range j).all fun m => S (dig k m)
theorem fineTo_succ (S : Nat → Bool) (k j : Nat) : fineTo S k (j + 1) = (fineTo S k j && S (dig k j)) := by
  unfold fineTo; rw [List.range_succ, List.all_append]
  simp
theorem fineTo_all {S : Nat → Bool} {k n : Nat} (h : fineTo S k n = true) : ∀ j, j < n → S (dig k j) = true := fun j hj => by
  unfold fineTo at h; rw [List.all_eq_true] at h; exact h j (List.mem_range.2 hj)
theorem fineTo_no {S : Nat → Bool} {k n : Nat} (h : fineTo S k n = false) : ¬ ∀ j, j < n → S (dig k j) = true := fun hn => by
  have : fineTo S k n = true := by
    unfold fineTo; rw [List.all_eq_true]; (exact fun j hj => hn j (List.mem_range.1 hj))
  rw [h] at this
  cases this
/-- What is known of the tables ahead of i, and of the arguments ahead of k. -/
def Kn (ts : List Tb) (Z S : Nat → Bool) (ag : Bool) (i : Nat) (t : Tb) (k : Nat) : Prop := (ag = true → miss S < miss Z) ∧ (ag = false → S = Z ∧ (∀ j u, j < i → ts[j]? = some u → closedT u Z) ∧ ∀ k', k' < k → (∀ j, j < t.n → Z (dig k' j) = true) → Z (putT t (argN (digs t.n k'))) = true)
theorem Kn.skip {ts : List Tb} {Z S : Nat → Bool} {ag : Bool} {i : Nat} {t : Tb} {k : Nat} (h : Kn ts Z S ag i t k) (hn : S = Z → (∀ j, j < t.n → Z (dig k j) = true) → Z (putT t (argN (digs t.n k))) = true) : Kn ts Z S ag i t (k + 1) := by
  (refine ⟨h.1, fun e => ?_⟩); obtain ⟨h1, h2, h3⟩ := h.2 e; (refine ⟨h1, h2, fun k' hk hd => ?_⟩); by_cases e' : k' = k
  · subst e'; exact hn h1 hd
  · exact h3 k' (by omega) hd
theorem Kn.add {ts : List Tb} {Z S : Nat → Bool} {ag : Bool} {i : Nat} {t : Tb} {k f : Nat} (h : Kn ts Z S ag i t k) (hf : f < 16) (hs : S f = false) : Kn ts Z (addS S f) true i t (k + 1) := by
  (refine ⟨fun _ => ?_, fun e => by cases e⟩); have := miss_add hf hs
  cases ag
  · rw [(h.2 rfl).1] at this ⊢; exact this
  · have := h.1 rfl; omega
theorem Kn.start {ts : List Tb} {Z : Nat → Bool} {t : Tb} : Kn ts Z Z false 0 t 0 := ⟨fun e => (by cases e), fun _ => ⟨rfl, fun _ _ h => absurd h (Nat.not_lt_zero _), fun _ h => absurd h (Nat.not_lt_zero _)⟩⟩
theorem Kn.next {ts : List Tb} {Z S : Nat → Bool} {ag : Bool} {i : Nat} {t t' : Tb} (h : Kn ts Z S ag i t (2 ^ (4 * t.n))) (ht : ts[i]? = some t) : Kn ts Z S ag (i + 1) t' 0 := by
  (refine ⟨h.1, fun e => ?_⟩); obtain ⟨h1, h2, h3⟩ := h.2 e; (refine ⟨h1, fun j u hj hu => ?_, fun _ h => absurd h (Nat.not_lt_zero _)⟩); by_cases e' : j = i
  · subst e'
    rw [ht] at hu; rw [← Option.some.inj hu]; exact h3
  · exact h2 j u (by omega) hu
theorem Kn.zero {ts : List Tb} {Z S : Nat → Bool} {ag : Bool} {i : Nat} {t t' : Tb} (h : Kn ts Z S ag i t 0) : Kn ts Z S ag i t' 0 := ⟨h.1, fun e => ⟨(h.2 e).1, (h.2 e).2.1, fun _ h => absurd h (Nat.not_lt_zero _)⟩⟩

theorem MkI.start (w : World) (ts : List Tb) : MkI w ts S0 (w.alloc (.cells #[.bool false, .bool false, .bool false, .bool false, .bool false, .bool false, .bool false, .bool false, .bool false, .bool false, .bool true, .bool false, .bool true, .bool false, .bool false, .bool false] 74 (0, 0))) := by
  (refine ⟨below_more (Below.refl _ w) _, ⟨_, blk_new _ _, fun i hi => ?_⟩, fun i _ hs => ?_, rfl, rfl⟩)
  · rcases (by omega : i = 0 ∨ i = 1 ∨ i = 2 ∨ i = 3 ∨ i = 4 ∨ i = 5 ∨ i = 6 ∨ i = 7 ∨ i = 8 ∨ i = 9 ∨ i = 10 ∨ i = 11 ∨ i = 12 ∨ i = 13 ∨ i = 14 ∨ i = 15) with rfl | rfl | rfl | rfl | rfl | rfl | rfl | rfl | rfl | rfl | rfl | rfl | rfl | rfl | rfl | rfl <;> rfl
  · unfold S0 at hs
    simp only [Bool.or_eq_true, decide_eq_true_eq] at hs
    rcases hs with rfl | rfl
    · exact Gen.x
    · exact Gen.y

/-- What comes out. -/
theorem made_all {ts : List Tb} (hok : ∀ t ∈ ts, t.Ok) {S : Nat → Bool} (h1 : ∀ i, i < 16 → S i = true → Gen ts i) (h2 : S 10 = true) (h3 : S 12 = true) (hc : ∀ t ∈ ts, closedT t S) : (∀ i, i < 16 → S i = true) ↔ compC ts 5 = true := by
  rw [post hok]; (exact ⟨fun h i hi => h1 i hi (h i hi), fun h i hi => gen_in h2 h3 hc (h i hi)⟩)

set_option maxRecDepth 10000 in
set_option maxHeartbeats 8000000 in
theorem makes_any (ts : List Tb) (hok : ∀ t ∈ ts, t.Ok) (v : Value) (w : World) (hv : TQ w v (raws ts)) :
    Calls Try.prog 12 #[v] w fun e w' => e = .returned (.bool (compC ts 5)) ∧ Below w.heap.size w w' := by
  obtain ⟨ad, cap, rfl, h1, h2, h3⟩ := hv.at; (have hlI : (ts.length : Int) ≤ 9223372036854775807 := by unfold maxLen at h2; omega); have H3 : Hid (ts ≠ [] → ∃ g off, ad = some ⟨g, off, none⟩ ∧ ∀ (j : Nat) (t : Tb), ts[j]? = some t → ∃ adB cpB, w.cell? ⟨g, off + j * 2, none⟩ = some (.int .i64 (t.n : Nat)) ∧ w.cell? ⟨g, off + j * 2 + 1, none⟩ = some (.slice adB t.bits.length cpB) ∧ TR w t (.agg #[.int .i64 (t.n : Nat), .slice adB t.bits.length cpB])) := h3; have HOk : Hid (∀ t ∈ ts, t.Ok) := hok; (have HMA : Hid (∀ S : Nat → Bool, (∀ i, i < 16 → S i = true → Gen ts i) → S 10 = true → S 12 = true → (∀ t ∈ ts, closedT t S) → ((∀ i, i < 16 → S i = true) ↔ compC ts 5 = true)) := fun S a b c d => made_all hok a b c d); generalize compC ts 5 = res at *; clear h3 hok hv
  go_enter Try.func12, Try.ntmps12
  go_wp2_with fail; have HI0 : Hid (MkI w ts S0 (w.alloc (.cells #[.bool false, .bool false, .bool false, .bool false, .bool false, .bool false, .bool false, .bool false, .bool false, .bool false, .bool true, .bool false, .bool true, .bool false, .bool false, .bool false] 74 (0, 0)))) := MkI.start w ts; generalize w.alloc _ = W at *
  go_loopg [4] 15 (fun g c wr => ∃ S ag, g = (if ag then miss S + 1 else 0) ∧ c = .bool ag ∧ Hid (MkI w ts S wr) ∧ Hid (ag = false → ∀ t ∈ ts, closedT t S))
  case atStart => exact ⟨S0, true, by decide, rfl, HI0, fun h => by cases h⟩
  case round =>
    obtain ⟨Z, ag, hg, rfl, HI, HC⟩ := hrel; (have HG : Hid (gk = if ag then miss Z + 1 else 0) := hg); clear hg HI0
    cases ag
    · have HAll : Hid ((∀ i, i < 16 → Z i = true) ↔ res = true) := HMA.out Z HI.out.2.2.1 HI.out.2.2.2.1 HI.out.2.2.2.2 (HC.out rfl)
      clear HC HMA H3 HOk; go_wp2_with fail
      go_loopg [11] 16 (fun g c wr => ∃ i, i ≤ 16 ∧ g = 16 - i ∧ c = .int .i64 (i : Nat) ∧ Hid (MkI w ts Z wr) ∧ Hid (∀ j, j < i → Z j = true))
      case atStart => exact ⟨0, by omega, by omega, rfl, HI, fun j h => absurd h (Nat.not_lt_zero _)⟩
      case round =>
        obtain ⟨i, hi, hg2, rfl, HI2, HN⟩ := hrel; have HG2 : Hid (gk = 16 - i) := hg2; clear hg2 HG; by_cases hlt : i < 16
        · have c0 := HI2.out.2.1.cell hlt
          (have hiI : (i : Int) < 16 := by omega)
          have HZ : Hid (Z i = false → res = false) := fun hz => by
            cases hr : res
            · rfl
            · have := HAll.out.2 hr i hlt
              rw [hz] at this
              cases this
          have HZ2 : Hid (Z i = true → ∀ j, j < i + 1 → Z j = true) := fun hz j hj => by
            by_cases e : j = i
            · rw [e]; exact hz
            · exact HN.out j (by omega)
          have BZ := HI2.out.1; generalize Z i = zz at *
          cases zz
          · have HR : Hid (res = false) := HZ.out (by first | rfl | trivial)
            clear HZ HZ2; go_wp2_with fail; go_ret; (exact ⟨by rw [HR.out]; rfl, BZ⟩)
          · have HR : Hid (∀ j, j < i + 1 → Z j = true) := HZ2.out (by first | rfl | trivial)
            clear HZ HZ2; go_wp2_with fail
            go_roundg (16 - (i + 1))
            case measure => have := HG2.out; omega
            case rel => exact ⟨i + 1, by omega, rfl, by go_num, HI2, HR⟩
        · have HR : Hid (res = true) := HAll.out.1 fun j hj => HN.out j (by omega)
          have BZ := HI2.out.1; (have hiJ : ¬ (i : Int) < 16 := by omega); go_wp2_with fail; go_ret; (exact ⟨by rw [HR.out]; rfl, BZ⟩)
    · clear HC
      go_wp2_with fail
      go_loopg [5, 4] ts.length (fun g c a wr => ∃ i S ag, i ≤ ts.length ∧ g = ts.length - i ∧ c = .int .i64 (i : Nat) ∧ a = .bool ag ∧ Hid (MkI w ts S wr) ∧ Hid (Kn ts Z S ag i ⟨0, []⟩ 0))
      case atStart => exact ⟨0, Z, false, by omega, by omega, rfl, rfl, HI, Kn.start⟩
      case round =>
        obtain ⟨i, S, ag, hi, hg2, rfl, rfl, HI2, HK⟩ := hrel; have HG2 : Hid (gk = ts.length - i) := hg2; clear hg2 HI; by_cases hlt : i < ts.length
        · obtain ⟨t, ht⟩ : ∃ x, ts[i]? = some x := ⟨_, List.getElem?_eq_getElem hlt⟩
          (obtain ⟨g, off, rfl, hc⟩ := H3.out (fun e => by rw [e] at hlt; simp at hlt)); obtain ⟨adB, cpB, c0, c1, htr⟩ := hc i t ht; have HCells : Hid (w.cell? ⟨g, off + i * 2, none⟩ = some (.int .i64 (t.n : Nat)) ∧ w.cell? ⟨g, off + i * 2 + 1, none⟩ = some (.slice adB t.bits.length cpB) ∧ TR w t (.agg #[.int .i64 (t.n : Nat), .slice adB t.bits.length cpB]) ∧ g < w.heap.size) := ⟨c0, c1, htr, lt_of_cell c0⟩; have g0 := (HI2.out.1.cell (p := ⟨g, off + i * 2, none⟩) (lt_of_cell c0)).trans c0; have HtOk : Hid t.Ok := HOk.out t (List.mem_of_getElem? ht); have HMem : Hid (ts[i]? = some t) := ht; have hn4 : t.n ≤ 4 := HtOk.out.1; (obtain ⟨C, hC, hmk⟩ := make_ints t.n (by omega)); (have hltI : (i : Int) < (ts.length : Int) := by omega); (have hlc : (i : Int) < (cap : Int) := by omega); clear hc ht c0 c1 htr; go_wp2_with fail; have HI3 : Hid (MkI w ts S (wr.alloc (.cells C 3 (0, 0)))) := HI2.out.up ((Below.refl _ wr).alloc (Nat.le_refl _) _); have qA : Hid ((wr.alloc (.cells C 3 (0, 0))).heap[wr.heap.size]? = some (.cells C 3 (0, 0))) := blk_new _ _; have hgA : w.heap.size < wr.heap.size := HI2.out.2.1.lt; have HKs : Hid (Kn ts Z S ag i t 0) := HK.out.zero; obtain ⟨hsh, hpw⟩ := shl_arg t.n hn4; have HSh : Hid (wrap64 ((2 : Int) ^ (4 * t.n)) = ((2 ^ (4 * t.n) : Nat) : Int) ∧ 2 ^ (4 * t.n) ≤ 65536) := ⟨hsh, hpw⟩; clear HI2 g0 hmk HK hsh hpw; generalize wr.alloc _ = W1 at *; generalize wr.heap.size = gA at *
          go_loopg [7, 4] (2 ^ (4 * t.n)) (fun g c a wr => ∃ k S ag A, k ≤ 2 ^ (4 * t.n) ∧ g = 2 ^ (4 * t.n) - k ∧ c = .int .i64 (k : Nat) ∧ a = .bool ag ∧ Hid (MkI w ts S wr) ∧ wr.heap[gA]? = some (.cells A 3 (0, 0)) ∧ A.size = t.n ∧ Hid (Kn ts Z S ag i t k))
          case atStart => exact ⟨0, S, ag, C, Nat.zero_le _, rfl, rfl, rfl, HI3, qA.out, hC, HKs⟩
          case round =>
            clear HI3 qA HKs hC C S ag; obtain ⟨k, S, ag, A, hk, hg3, rfl, rfl, HI3, qA, hA, HK⟩ := hrel; have HG3 : Hid (gk = 2 ^ (4 * t.n) - k ∧ k ≤ 2 ^ (4 * t.n)) := ⟨hg3, hk⟩; clear hg3 hk; have g0 := (HI3.out.1.cell (p := ⟨g, off + i * 2, none⟩) HCells.out.2.2.2).trans HCells.out.1; by_cases hkl : k < 2 ^ (4 * t.n)
            · have hkI : (k : Int) < wrap64 ((2 : Int) ^ (4 * t.n)) := by rw [HSh.out.1]; exact Int.ofNat_lt.2 hkl
              (have hk65 : (k : Int) ≤ 65536 := by have := HSh.out.2; omega); go_wp2_with fail; clear hkI
              go_loopg [9, 8] t.n (fun g c f wr => ∃ j A, j ≤ t.n ∧ g = t.n - j ∧ c = .int .i64 (j : Nat) ∧ f = .bool (fineTo S k j) ∧ Hid (MkI w ts S wr) ∧ wr.heap[gA]? = some (.cells A 3 (0, 0)) ∧ A.size = t.n ∧ Hid (∀ m, m < j → A[m]? = some (.int .i64 (dig k m : Nat))))
              case atStart => exact ⟨0, A, by omega, by omega, rfl, rfl, HI3, qA, hA, fun m h => absurd h (Nat.not_lt_zero _)⟩
              case round =>
                clear HI3 qA hA A g0; obtain ⟨j, A, hj, hg4, rfl, rfl, HI4, qA, hA, HD⟩ := hrel; have HG4 : Hid (gk = t.n - j) := hg4; clear hg4; have g0 := (HI4.out.1.cell (p := ⟨g, off + i * 2, none⟩) HCells.out.2.2.2).trans HCells.out.1; (have d1 : ¬ gA = w.heap.size := by omega); (have d2 : ¬ w.heap.size = gA := by omega); (have hgg : ¬ gA = g := by have := HCells.out.2.2.2; omega); by_cases hjn : j < t.n
                · have hjI : (j : Int) < (t.n : Int) := by omega
                  (have hj4 : j < 4 := by omega); (have hdg := dig_bits k j (by have := HSh.out.2; omega)); have hd16 := dig_lt k j; have c0 := HI4.out.2.1.cell hd16; have e0 := blk_cell qA j; have e1 := blk_fz qA j; (rw [Array.getElem?_eq_getElem (by omega)] at e0); generalize A[j] = old at e0; have HF : Hid (fineTo S k (j + 1) = (fineTo S k j && S (dig k j))) := fineTo_succ S k j; have HI5 : Hid (MkI w ts S (wr.setCell ⟨gA, j, none⟩ (.int .i64 (dig k j : Nat)))) := HI4.out.set hgA j _; have q5 := set_cell (j := j) qA (.int .i64 (dig k j : Nat)); have HQ5 : Hid _ := q5
                  have HD5 : Hid (∀ m, m < j + 1 → (A.setIfInBounds j (.int .i64 (dig k j : Nat)))[m]? = some (.int .i64 (dig k m : Nat))) := fun m hm => by
                    by_cases e : m = j
                    · subst e; rw [Array.getElem?_setIfInBounds_self_of_lt (by omega)]
                    · rw [Array.getElem?_setIfInBounds_ne (by omega)]
                      (exact HD.out m (by omega))
                  (have hA5 : (A.setIfInBounds j (.int .i64 (dig k j : Nat))).size = t.n := by simp [hA]); generalize A.setIfInBounds j (.int .i64 (dig k j : Nat)) = A5 at *; generalize S (dig k j) = bd at *; generalize hdd : dig k j = dd at *; generalize fineTo S k j = bf at *; (have hdI : (dd : Int) < 16 := by omega); clear q5 HD
                  cases bf
                  · have HF' : Hid (fineTo S k (j + 1) = false) := by
                      show _ = _; rw [HF.out]; rfl
                    clear HF; go_wp2_with fail
                    go_roundg (t.n - (j + 1))
                    case measure => have := HG4.out; omega
                    case rel => exact ⟨j + 1, A5, by omega, rfl, by go_num, by rw [HF'.out], HI5, HQ5.out, hA5, HD5⟩
                  · have HF' : Hid (fineTo S k (j + 1) = bd) := by
                      show _ = _; rw [HF.out]; rfl
                    clear HF; go_wp2_with fail
                    go_roundg (t.n - (j + 1))
                    case measure => have := HG4.out; omega
                    case rel => exact ⟨j + 1, A5, by omega, rfl, by go_num, by rw [HF'.out], HI5, HQ5.out, hA5, HD5⟩
                · have hjn' : j = t.n := by omega
                  rw [hjn'] at HD ⊢; (have hjJ : ¬ (t.n : Int) < (t.n : Int) := by omega); have g1 := (HI4.out.1.cell (p := ⟨g, off + i * 2 + 1, none⟩) HCells.out.2.2.2).trans HCells.out.2.1
                  have HPu : Hid (Calls Try.prog 39 #[.agg #[.int .i64 (t.n : Nat), .slice adB t.bits.length cpB], .slice (some ⟨gA, 0, none⟩) t.n t.n] wr fun e w' => e = .returned (.int .i64 (putT t (argN (digs t.n k)) : Nat)) ∧ Below wr.heap.size wr w') := by
                    (refine put_walk t HtOk.out (digs t.n k) (digs_len _ _) (fun x hx => ?_) _ _ wr (HCells.out.2.2.1.up HI4.out.1) ⟨some ⟨gA, 0, none⟩, t.n, by rw [digs_len], by rw [digs_len]; exact Nat.le_refl _, by unfold maxLen; omega, fun _ => ⟨gA, 0, rfl, fun m x hx => ?_⟩⟩)
                    · unfold digs at hx
                      obtain ⟨m, -, rfl⟩ := List.mem_map.1 hx; exact dig_lt k m
                    · have hm : m < t.n := by
                        rcases Nat.lt_or_ge m t.n with h' | h'
                        · exact h'
                        · rw [List.getElem?_eq_none (by rw [digs_len]; exact h')] at hx; cases hx
                      rw [digs_get hm] at hx; rw [← Option.some.inj hx, Nat.zero_add, blk_cell qA]; exact HD.out m hm
                  have hput : putT t (argN (digs t.n k)) < 16 := idx_lt 4 _
                  have HGe : Hid (fineTo S k t.n = true → Gen ts (putT t (argN (digs t.n k)))) := fun hf => by
                    (refine Gen.app t (List.mem_of_getElem? HMem.out) _ fun m hm => ?_)
                    have : argN (digs t.n k) m = dig k m := by
                      unfold argN; rw [List.getD_eq_getElem?_getD, digs_get hm]; rfl
                    rw [this]; exact HI4.out.2.2.1 _ (dig_lt k m) (fineTo_all hf m hm)
                  (have HSk : Hid (fineTo S k t.n = false → Kn ts Z S ag i t (k + 1)) := fun hf => HK.out.skip fun e hall => absurd (by rw [e]; exact hall) (fineTo_no hf)); (have HSk2 : Hid (S (putT t (argN (digs t.n k))) = true → Kn ts Z S ag i t (k + 1)) := fun hf => HK.out.skip fun e _ => by rw [← e]; exact hf); (have HAd : Hid (S (putT t (argN (digs t.n k))) = false → Kn ts Z (addS S (putT t (argN (digs t.n k)))) true i t (k + 1)) := fun hf => HK.out.add hput hf); have c0 := HI4.out.2.1.cell hput; generalize fineTo S k t.n = bf at *; generalize putT t (argN (digs t.n k)) = f at *; clear HD HK hjn' HG4
                  cases bf
                  · have HK2 : Hid (Kn ts Z S ag i t (k + 1)) := HSk.out (by first | rfl | trivial)
                    clear HSk HSk2 HAd HPu HGe c0; go_wp2_with fail
                    go_roundg (2 ^ (4 * t.n) - (k + 1))
                    case measure => have := HG3.out; omega
                    case rel => exact ⟨k + 1, S, ag, A, by omega, rfl, by go_num, rfl, HI4, qA, hA, HK2⟩
                  · have HGf : Hid (Gen ts f) := HGe.out (by first | rfl | trivial)
                    clear HSk HGe c0; go_wp2_with fail; refine HPu.out.mono ?_; rintro e w5 ⟨rfl, hb5⟩; have HI5 : Hid (MkI w ts S w5) := HI4.out.up hb5; have q5 : Hid _ := below_keep hb5 qA; have c0 := HI5.out.2.1.cell hput; have c1 := HI5.out.2.1.frozen f; (have hfI : (f : Int) < 16 := by omega)
                    cases hs : S f
                    · have HK2 : Hid (Kn ts Z (addS S f) true i t (k + 1)) := HAd.out hs
                      have HI6 : Hid (MkI w ts (addS S f) (w5.setCell ⟨w.heap.size, f, none⟩ (.bool true))) := HI5.out.put hput HGf.out; (have HQ6 : Hid ((w5.setCell ⟨w.heap.size, f, none⟩ (.bool true)).heap[gA]? = some (.cells A 3 (0, 0))) := (Below.heap_setCell _ _ _ _ (by simpa using d1)).trans q5.out); rw [hs] at c0; clear HSk2 HAd hs; go_wp2_with fail
                      go_roundg (2 ^ (4 * t.n) - (k + 1))
                      case measure => have := HG3.out; omega
                      case rel => exact ⟨k + 1, _, true, A, by omega, rfl, by go_num, rfl, HI6, HQ6.out, hA, HK2⟩
                    · have HK2 : Hid (Kn ts Z S ag i t (k + 1)) := HSk2.out hs
                      rw [hs] at c0; clear HSk2 HAd hs; go_wp2_with fail
                      go_roundg (2 ^ (4 * t.n) - (k + 1))
                      case measure => have := HG3.out; omega
                      case rel => exact ⟨k + 1, S, ag, A, by omega, rfl, by go_num, rfl, HI5, q5.out, hA, HK2⟩
            · have hkI : ¬ (k : Int) < wrap64 ((2 : Int) ^ (4 * t.n)) := by rw [HSh.out.1]; exact fun h => hkl (Int.ofNat_lt.1 h)
              have HK2 : Hid (Kn ts Z S ag (i + 1) ⟨0, []⟩ 0) := by
                (have hke : k = 2 ^ (4 * t.n) := by have := HG3.out; omega); have := HK.out; rw [hke] at this; exact this.next HMem.out
              clear HK; go_wp2_with fail
              go_roundg (ts.length - (i + 1))
              case measure => have := HG2.out; omega
              case rel => exact ⟨i + 1, S, ag, by omega, rfl, by go_num, rfl, HI3, HK2⟩
        · have hiJ : ¬ (i : Int) < (ts.length : Int) := by omega
          have HCl : Hid (ag = false → ∀ t ∈ ts, closedT t S) := fun e t ht => by
            obtain ⟨h1, h2, -⟩ := HK.out.2 e; obtain ⟨j, hj, he⟩ := List.getElem_of_mem ht; rw [h1]; (exact h2 j t (by omega) (by rw [List.getElem?_eq_getElem hj, he]))
          have HMs : Hid (ag = true → miss S < miss Z) := HK.out.1; clear HK H3
          cases ag
          · have HC2 : Hid (∀ t ∈ ts, closedT t S) := HCl.out rfl
            clear HCl HMs; go_wp2_with fail
            go_roundg 0
            case measure => have := HG.out; simp at this; omega
            case rel => exact ⟨S, false, rfl, rfl, HI2, fun _ => HC2.out⟩
          · have HM2 : Hid (miss S < miss Z) := HMs.out rfl
            clear HCl HMs; go_wp2_with fail
            go_roundg (miss S + 1)
            case measure => have := HG.out; have h2 := HM2.out; simp at this; omega
            case rel => exact ⟨S, true, rfl, rfl, HI2, fun h => by cases h⟩
end Go.Proofs.Ytffkoiemnchdgab
/- Walks: the yardstick's TableFault. -/
namespace Go.Proofs.Ytffkoiemnchdgab
open Go.RowKit

set_option maxHeartbeats 4000000 in
theorem tableFaultR_any (ts : List (Int × List Bool)) (v : Value) (w : World) (hv : TQ w v ts) :
    Calls Try.prog 9 #[v] w fun e w' => e = .returned (.agg #[.int .i64 (tcode ts).1, .int .i64 (tcode ts).2]) ∧ Below w.heap.size w w' := by
  obtain ⟨ad, cap, rfl, h1, h2, h3⟩ := hv; have H3 : Hid (ts ≠ [] → ∃ g off, ad = some ⟨g, off, none⟩ ∧ ∀ (j : Nat) (t : Int × List Bool), ts[j]? = some t → ∃ adB cpB, w.cell? ⟨g, off + j * 2, none⟩ = some (.int .i64 t.1) ∧ w.cell? ⟨g, off + j * 2 + 1, none⟩ = some (.slice adB t.2.length cpB) ∧ BL w (.slice adB t.2.length cpB) t.2) := h3; (have HT : Hid (tcode ts = if 20 < ts.length then (2, 0) else tfirst ts 0) := rfl); generalize tcode ts = tc at *; have q0 := blk_new w (.cells #[.int .i64 0, .int .i64 0] 25 (0, 0)); have B0 := below_more (Below.refl _ w) (.cells #[.int .i64 0, .int .i64 0] 25 (0, 0)); (have HFc : Hid (∀ c a w, Calls Try.prog 16 #[.int .i64 c, .int .i64 a] w _) := fun c a w => mkF_any c a w); clear h3; by_cases h20 : 20 < ts.length
  · have h20I : (20 : Int) < (ts.length : Int) := by omega
    have HE : Hid (tc = (2, 0)) := by
      have := HT.out
      rwa [if_pos h20] at this
    go_enter Try.func9, Try.ntmps9
    go_wp2_with fail; refine (HFc.out _ _ _).mono ?_; rintro e w1 ⟨rfl, hb1⟩; have q1 := below_keep hb1 q0; have B1 := below_join B0 hb1; obtain ⟨k1, k2, k3, k4⟩ := blk2 q1; have f2 := set2 q1 (.int .i64 2) (.int .i64 0); (have b2 := (B1.setCell (p := ⟨w.heap.size, 0, none⟩) (by simp) (.int .i64 2)).setCell (p := ⟨w.heap.size, 1, none⟩) (by simp) (.int .i64 0)); go_wp2_with fail; generalize World.setCell _ _ _ = F at f2 b2 ⊢; clear k1 k2 k3 k4; obtain ⟨k1, k2, -⟩ := blk2 f2; (exact bodyPost_ret (v := .agg #[.int .i64 2, .int .i64 0]) (by simp [results, Try.results9, go_sem, k1, k2]) rfl ⟨by rw [HE.out], b2⟩)
  · have h20I : ¬ (20 : Int) < (ts.length : Int) := by omega
    (have hlI : (ts.length : Int) ≤ 20 := by omega)
    have HE : Hid (tc = tfirst ts 0) := by
      have := HT.out
      rwa [if_neg h20] at this
    clear HT h20
    go_enter Try.func9, Try.ntmps9
    go_wp2_with fail
    go_loopg [3] ts.length (fun gk c wr => ∃ i, i ≤ ts.length ∧ gk = ts.length - i ∧ c = .int .i64 (i : Nat) ∧ Below w.heap.size w wr ∧ wr.heap[w.heap.size]? = some (.cells #[.int .i64 0, .int .i64 0] 25 (0, 0)) ∧ Hid (tfirst ts 0 = tfirst (ts.drop i) i))
    case atStart => exact ⟨0, by omega, by omega, rfl, B0, q0, by show _ = _; rfl⟩
    case round =>
      obtain ⟨i, hi, hg, rfl, hbr, q1, HW⟩ := hrel; have HG : Hid (gk = ts.length - i) := hg; clear hg; have z1 := lt_of_block q1; by_cases hlt : i < ts.length
      · obtain ⟨⟨N, bs⟩, ht⟩ : ∃ x, ts[i]? = some x := ⟨_, List.getElem?_eq_getElem hlt⟩
        (obtain ⟨g, off, rfl, hc⟩ := H3.out (fun e => by rw [e] at hlt; simp at hlt)); obtain ⟨adB, cpB, c0, c1, hbl⟩ := hc i _ ht; have g0 := (hbr.cell (p := ⟨g, off + i * 2, none⟩) (lt_of_cell c0)).trans c0; have g1 := (hbr.cell (p := ⟨g, off + i * 2 + 1, none⟩) (lt_of_cell c1)).trans c1
        have hbm : (bs.length : Int) ≤ 9223372036854775807 := by
          obtain ⟨_, _, hx, hx1, hx2, -⟩ := hbl; simp only [Value.slice.injEq, true_and] at hx; have hx1' : bs.length ≤ _ := hx1; unfold maxLen at hx2; omega
        have HDr := HW.out; rw [tfirst_drop ht] at HDr; simp only at g0 g1; (have hltI : (i : Int) < (ts.length : Int) := by omega); (have hlc : (i : Int) < (cap : Int) := by omega); (have d1 : ¬ w.heap.size = wr.heap.size := by omega); (have d2 : ¬ wr.heap.size = w.heap.size := by omega); obtain ⟨k1, k2, k3, k4⟩ := blk2 q1; clear hc ht H3 HW hbl c0 c1; by_cases hr : N < 0 ∨ 4 < N
        · have hb : tbad (N, bs) = 3 := if_pos hr
          rw [hb] at HDr
          have HF : Hid (tc = (3, ((i : Nat) : Int))) := by
            show _ = _; rw [HE.out, HDr]; rfl
          clear HDr hb HE
          rcases hr with hr | hr
          case' inr => have hr' : ¬ N < 0 := by omega
          all_goals
            go_wp2_with fail; refine (HFc.out _ _ _).mono ?_; rintro e w1 ⟨rfl, hb1⟩; have q2 := below_keep hb1 q1; have B1 := below_join hbr hb1; clear k1 k2 k3 k4; obtain ⟨k1, k2, k3, k4⟩ := blk2 q2; have f2 := set2 q2 (.int .i64 3) (.int .i64 (i : Nat)); (have b2 := (B1.setCell (p := ⟨w.heap.size, 0, none⟩) (by simp) (.int .i64 3)).setCell (p := ⟨w.heap.size, 1, none⟩) (by simp) (.int .i64 (i : Nat))); go_wp2_with fail; generalize World.setCell _ _ _ = F at f2 b2 ⊢; clear k1 k2 k3 k4; obtain ⟨k1, k2, -⟩ := blk2 f2; (exact bodyPost_ret (v := .agg #[.int .i64 3, .int .i64 (i : Nat)]) (by simp [results, Try.results9, go_sem, k1, k2]) rfl ⟨by rw [HF.out], b2⟩)
        · obtain ⟨n, rfl⟩ : ∃ n : Nat, N = (n : Int) := ⟨N.toNat, by omega⟩
          (have hn4 : n ≤ 4 := by omega); (have hnI : (n : Int) ≤ 4 := by omega); (have hw := (shl_row n (by omega)).1)
          have hb : tbad ((n : Int), bs) = if (bs.length : Int) ≠ ((2 ^ n : Nat) : Int) then 9 else 0 := by
            unfold tbad; rw [if_neg hr]
            simp
          rw [hb] at HDr; generalize 2 ^ n = P at *; clear hr hb; by_cases hP : (bs.length : Int) = (P : Int)
          · have HF : Hid (tfirst ts 0 = tfirst (ts.drop (i + 1)) (i + 1)) := by
              show _ = _; rw [HDr]; simp [hP]
            (have hPe : ((bs.length : Int) != (P : Int)) = false := by simp [hP]); (have hPe2 : ((bs.length : Int) == (P : Int)) = true := by simp [hP]); clear HDr hP; go_wp2_with fail
            go_quiet (fail)
            go_wp2_with fail
            go_roundg (ts.length - (i + 1))
            case measure => have := HG.out; omega
            case rel => exact ⟨i + 1, by omega, rfl, by go_num, below_same hbr _, q1, HF⟩
          · have HF : Hid (tc = (9, ((i : Nat) : Int))) := by
              show _ = _; rw [HE.out, HDr]; simp [hP]
            (have hPe : ((bs.length : Int) != (P : Int)) = true := by simp [hP]); (have hPe2 : ((bs.length : Int) == (P : Int)) = false := by simp [hP]); clear HDr hP HE; go_wp2_with fail
            go_quiet (fail)
            go_wp2_with fail; refine (HFc.out _ _ _).mono ?_; rintro e w1 ⟨rfl, hb1⟩; have q2 := below_keep hb1 (show (wr.drewN nq).heap[w.heap.size]? = _ from q1); have B1 := below_join (below_same hbr nq) hb1; clear k1 k2 k3 k4; obtain ⟨k1, k2, k3, k4⟩ := blk2 q2; have f2 := set2 q2 (.int .i64 9) (.int .i64 (i : Nat)); (have b2 := (B1.setCell (p := ⟨w.heap.size, 0, none⟩) (by simp) (.int .i64 9)).setCell (p := ⟨w.heap.size, 1, none⟩) (by simp) (.int .i64 (i : Nat))); go_wp2_with fail; generalize World.setCell _ _ _ = F at f2 b2 ⊢; clear k1 k2 k3 k4; obtain ⟨k1, k2, -⟩ := blk2 f2; (exact bodyPost_ret (v := .agg #[.int .i64 9, .int .i64 (i : Nat)]) (by simp [results, Try.results9, go_sem, k1, k2]) rfl ⟨by rw [HF.out], b2⟩)
      · have HF : Hid (tc = (0, 0)) := by
          show _ = _; (rw [HE.out, HW.out, List.drop_of_length_le (by omega), tfirst])
        (have hge : ¬ (i : Int) < (ts.length : Int) := by omega); have f2 := set2 q1 (.int .i64 0) (.int .i64 0); (have b2 := (hbr.setCell (p := ⟨w.heap.size, 0, none⟩) (by simp) (.int .i64 0)).setCell (p := ⟨w.heap.size, 1, none⟩) (by simp) (.int .i64 0)); obtain ⟨k1, k2, k3, k4⟩ := blk2 q1; clear HW H3 HE; go_wp2_with fail; generalize World.setCell _ _ _ = F at f2 b2 ⊢; clear k1 k2 k3 k4; obtain ⟨k1, k2, -⟩ := blk2 f2; (exact bodyPost_ret (v := .agg #[.int .i64 0, .int .i64 0]) (by simp [results, Try.results9, go_sem, k1, k2]) rfl ⟨by rw [HF.out], b2⟩)
end Go.Proofs.Ytffkoiemnchdgab
/- Walks: InClass, the first four classes. -/
namespace Go.Proofs.Ytffkoiemnchdgab
open Go.RowKit

theorem and_rows (r i : Nat) : r &&& (r ||| 2 ^ i) = r := by
  apply Nat.eq_of_testBit_eq; intro j; rw [Nat.testBit_and, Nat.testBit_or]
  cases r.testBit j <;> simp
/-- Rising by steps of one value is rising. -/
theorem cls3_all {t : Tb} (hok : t.Ok) : cls3 t.n t.bits = true ↔ ∀ k m, k < t.bits.length → m < t.bits.length → k &&& m = k → t.bits.getD k false = true → t.bits.getD m false = true := by
  constructor
  · intro h k m hk hm hkm hb
    rw [hok.2] at hk hm; (have e1 : t.at k.testBit = t.bits.getD k false := by unfold Tb.at; rw [idx_of hk]); (have e2 : t.at m.testBit = t.bits.getD m false := by unfold Tb.at; rw [idx_of hm]); rw [← e2]; (refine cls3_at hok h k.testBit m.testBit (fun i _ hi => ?_) (by rw [e1]; exact hb)); (have := congrArg (fun x => x.testBit i) hkm); simp only [Nat.testBit_and, hi, Bool.true_and] at this; exact this
  · intro h
    unfold cls3; rw [List.all_eq_true]; intro r hr; rw [List.all_eq_true]; intro i hi; have hr' := List.mem_range.1 hr; have hi' := List.mem_range.1 hi
    have hl : r ||| 2 ^ i < t.bits.length := by
      rw [hok.2] at hr' ⊢; (exact Nat.or_lt_two_pow hr' (Nat.pow_lt_pow_right (by omega) hi'))
    have := h r (r ||| 2 ^ i) hr' hl (and_rows r i)
    revert this
    cases t.bits.getD r false <;> cases t.bits.getD (r ||| 2 ^ i) false <;> simp

theorem and_row (k m : Nat) (hk : k ≤ 16) (hm : m ≤ 16) : bits BinOp.and IntKind.i64 (k : Int) (m : Int) = ((k &&& m : Nat) : Int) :=
  (bits_nat .i64 62 (by decide) wraps_i64 k m (by have : (2 : Nat) ^ 62 = 4611686018427387904 := by decide
                                                  omega) (by have : (2 : Nat) ^ 62 = 4611686018427387904 := by decide
                                                             omega)).1

set_option maxHeartbeats 1000000 in
theorem inClass0 (t : Tb) (hok : t.Ok) (v : Value) (w : World) (h : TR w t v) :
    Calls Try.prog 11 #[v, .int .i64 0] w fun e w' => e = .returned (.bool (cls0 t.bits)) ∧ Below w.heap.size w w' := by
  obtain ⟨g, off, cap, rfl, hc, hcells⟩ := h.cells hok; have hl := hok.len; have q0 := blk_new w (.cells #[.int .i64 (t.n : Nat), .slice (some ⟨g, off, none⟩) t.bits.length cap] 33 (0, 0)); have B0 := below_more (Below.refl _ w) (.cells #[.int .i64 (t.n : Nat), .slice (some ⟨g, off, none⟩) t.bits.length cap] 33 (0, 0)); (have c0 := hcells 0 (by omega)); rw [Nat.add_zero] at c0; have HR : Hid (cls0 t.bits = !t.bits.getD 0 false) := rfl; generalize cls0 t.bits = res at *; generalize t.bits.getD 0 false = x at *; generalize t.bits.length = M at *; (have hMI : (0 : Int) < (M : Int) := by omega); (have hcI : (0 : Int) < (cap : Int) := by omega); have zg := lt_of_cell c0; have g0 := (B0.cell (p := ⟨g, off, none⟩) zg).trans c0; clear hcells h
  go_enter Try.func11, Try.ntmps11
  go_wp2_with fail; go_ret; (exact ⟨by rw [HR.out]; rfl, B0⟩)

set_option maxHeartbeats 1000000 in
theorem inClass1 (t : Tb) (hok : t.Ok) (v : Value) (w : World) (h : TR w t v) :
    Calls Try.prog 11 #[v, .int .i64 1] w fun e w' => e = .returned (.bool (cls1 t.bits)) ∧ Below w.heap.size w w' := by
  obtain ⟨g, off, cap, rfl, hc, hcells⟩ := h.cells hok; have hl := hok.len; have B0 := below_more (Below.refl _ w) (.cells #[.int .i64 (t.n : Nat), .slice (some ⟨g, off, none⟩) t.bits.length cap] 33 (0, 0)); (have c0 := hcells (t.bits.length - 1) (by omega)); have HR : Hid (cls1 t.bits = t.bits.getD (t.bits.length - 1) false) := rfl; generalize cls1 t.bits = res at *; generalize t.bits.getD (t.bits.length - 1) false = x at *; clear hcells h; generalize t.bits.length = L at *; (obtain ⟨M, rfl⟩ : ∃ M, L = M + 1 := ⟨L - 1, by omega⟩); rw [Nat.add_sub_cancel] at c0; (have hMI : (M : Int) ≤ 16 := by omega); (have hcI : (M : Int) < (cap : Int) := by omega); have zg := lt_of_cell c0; have g0 := (B0.cell (p := ⟨g, off + M, none⟩) zg).trans c0
  go_enter Try.func11, Try.ntmps11
  go_wp2_with fail; go_ret; (exact ⟨by rw [HR.out]; rfl, B0⟩)

set_option maxHeartbeats 4000000 in
theorem inClass2 (t : Tb) (hok : t.Ok) (v : Value) (w : World) (h : TR w t v) :
    Calls Try.prog 11 #[v, .int .i64 2] w fun e w' => e = .returned (.bool (cls2 t.bits)) ∧ Below w.heap.size w w' := by
  obtain ⟨g, off, cap, rfl, hc, hcells⟩ := h.cells hok; have hl := hok.len; have q0 := blk_new w (.cells #[.int .i64 (t.n : Nat), .slice (some ⟨g, off, none⟩) t.bits.length cap] 33 (0, 0)); have B0 := below_more (Below.refl _ w) (.cells #[.int .i64 (t.n : Nat), .slice (some ⟨g, off, none⟩) t.bits.length cap] 33 (0, 0)); have HCe : Hid (∀ j, j < t.bits.length → w.cell? ⟨g, off + j, none⟩ = some (.bool (t.bits.getD j false))) := hcells; (have HR : Hid (cls2 t.bits = (List.range t.bits.length).all fun k => t.bits.getD k false != t.bits.getD (t.bits.length - 1 - k) false) := rfl); generalize cls2 t.bits = res at *; generalize t.bits.length = M at *; (have hMI : (M : Int) ≤ 16 := by omega); obtain ⟨N, bs⟩ := t; simp only at *; clear hcells h
  go_enter Try.func11, Try.ntmps11
  go_wp2_with fail
  go_loopg [6] M (fun gk c wr => ∃ r, r ≤ M ∧ gk = M - r ∧ c = .int .i64 (r : Nat) ∧ Below w.heap.size w wr ∧ wr.heap[w.heap.size]? = some (.cells #[.int .i64 (N : Nat), .slice (some ⟨g, off, none⟩) M cap] 33 (0, 0)) ∧ Hid (∀ j, j < r → (bs.getD j false != bs.getD (M - 1 - j) false) = true))
  case atStart => exact ⟨0, by omega, by omega, rfl, B0, q0, fun j h => absurd h (Nat.not_lt_zero _)⟩
  case round =>
    obtain ⟨r, hr, hg, rfl, hbr, q1, HN⟩ := hrel; have HG : Hid (gk = M - r) := hg; clear hg; obtain ⟨a0, a1, -⟩ := blk2 q1; by_cases hlt : r < M
    · have g0 := (hbr.cell (p := ⟨g, off + r, none⟩) (lt_of_cell (HCe.out r hlt))).trans (HCe.out r hlt)
      (have g1 := (hbr.cell (p := ⟨g, off + (M - 1 - r), none⟩) (lt_of_cell (HCe.out (M - 1 - r) (by omega)))).trans (HCe.out (M - 1 - r) (by omega)))
      have HX1 : Hid ((bs.getD r false != bs.getD (M - 1 - r) false) = true → ∀ j, j < r + 1 → (bs.getD j false != bs.getD (M - 1 - j) false) = true) := fun hb j hj => by
        by_cases e : j = r
        · subst e; exact hb
        · exact HN.out j (by omega)
      have HX2 : Hid ((bs.getD r false != bs.getD (M - 1 - r) false) = false → res = false) := fun hb => by
        rw [HR.out]; exact range_all_take _ _ r hlt HN.out hb
      generalize bs.getD r false = x at *; generalize bs.getD (M - 1 - r) false = y at *; (obtain ⟨q, hq⟩ : ∃ q, M = q + r + 1 := ⟨M - 1 - r, by omega⟩); (have hqe : M - 1 - r = q := by omega); rw [hqe] at g1; (have hs1 : (M : Int) - 1 - (r : Int) = (q : Int) := by omega); (have hltI : (r : Int) < (M : Int) := by omega); (have hlcI : (r : Int) < (cap : Int) := by omega); (have hqI : (q : Int) < (M : Int) := by omega); (have hqc : (q : Int) < (cap : Int) := by omega); (have hq0 : (0 : Int) ≤ (q : Int) := by omega); clear hqe hq
      cases hxy : (x == y)
      · have hxy2 : (x != y) = true := by simp [bne, hxy]
        have HE : Hid (∀ j, j < r + 1 → (bs.getD j false != bs.getD (M - 1 - j) false) = true) := HX1.out hxy2; clear HX1 HX2 hxy2; go_wp2_with fail
        go_quiet (fail)
        go_wp2_with fail
        go_roundg (M - (r + 1))
        case measure => have := HG.out; omega
        case rel => exact ⟨r + 1, by omega, rfl, by go_num, below_same hbr _, q1, HE⟩
      · have hxy2 : (x != y) = false := by simp [bne, hxy]
        have HE : Hid (res = false) := HX2.out hxy2; clear HX1 HX2 hxy2; go_wp2_with fail
        go_quiet (fail)
        go_wp2_with fail; go_ret; (exact ⟨by rw [HE.out]; rfl, below_same hbr _⟩)
    · have HE : Hid (res = true) := by
        show _ = _; rw [HR.out]; (exact range_all _ _ fun j hj => HN.out j (by omega))
      (have hge : ¬ (r : Int) < (M : Int) := by omega); go_wp2_with fail; go_ret; (exact ⟨by rw [HE.out]; rfl, hbr⟩)

set_option maxHeartbeats 4000000 in
theorem inClass3 (t : Tb) (hok : t.Ok) (v : Value) (w : World) (h : TR w t v) :
    Calls Try.prog 11 #[v, .int .i64 3] w fun e w' => e = .returned (.bool (cls3 t.n t.bits)) ∧ Below w.heap.size w w' := by
  obtain ⟨g, off, cap, rfl, hc, hcells⟩ := h.cells hok; have hl := hok.len; have q0 := blk_new w (.cells #[.int .i64 (t.n : Nat), .slice (some ⟨g, off, none⟩) t.bits.length cap] 33 (0, 0)); have B0 := below_more (Below.refl _ w) (.cells #[.int .i64 (t.n : Nat), .slice (some ⟨g, off, none⟩) t.bits.length cap] 33 (0, 0)); have HCe : Hid (∀ j, j < t.bits.length → w.cell? ⟨g, off + j, none⟩ = some (.bool (t.bits.getD j false))) := hcells; have HR : Hid (cls3 t.n t.bits = true ↔ ∀ k m, k < t.bits.length → m < t.bits.length → k &&& m = k → t.bits.getD k false = true → t.bits.getD m false = true) := cls3_all hok; generalize cls3 t.n t.bits = res at *; generalize t.bits.length = M at *; (have hMI : (M : Int) ≤ 16 := by omega); obtain ⟨N, bs⟩ := t; simp only at *; clear hcells h
  go_enter Try.func11, Try.ntmps11
  go_wp2_with fail
  go_loopg [7] M (fun gk c wr => ∃ r, r ≤ M ∧ gk = M - r ∧ c = .int .i64 (r : Nat) ∧ Below w.heap.size w wr ∧ wr.heap[w.heap.size]? = some (.cells #[.int .i64 (N : Nat), .slice (some ⟨g, off, none⟩) M cap] 33 (0, 0)) ∧ Hid (∀ j, j < r → ∀ m, m < M → j &&& m = j → bs.getD j false = true → bs.getD m false = true))
  case atStart => exact ⟨0, by omega, by omega, rfl, B0, q0, fun j h => absurd h (Nat.not_lt_zero _)⟩
  case round =>
    obtain ⟨r, hr, hg, rfl, hbr, q1, HN⟩ := hrel; have HG : Hid (gk = M - r) := hg; clear hg; by_cases hlt : r < M
    · have hltI : (r : Int) < (M : Int) := by omega
      (have hlcI : (r : Int) < (cap : Int) := by omega); obtain ⟨W0, hW0⟩ : ∃ W0, W0 = wr := ⟨_, rfl⟩; subst hW0; go_wp2_with fail
      go_loopg [8] M (fun gk c wr => ∃ m, m ≤ M ∧ gk = M - m ∧ c = .int .i64 (m : Nat) ∧ wr = W0 ∧ Hid (∀ j, j < m → r &&& j = r → bs.getD r false = true → bs.getD j false = true))
      case atStart => exact ⟨0, by omega, by omega, rfl, rfl, fun j h => absurd h (Nat.not_lt_zero _)⟩
      case round =>
        obtain ⟨m, hm, hg2, rfl, hw, HY⟩ := hrel; have HG2 : Hid (gk = M - m) := hg2; have hw' := hw.symm; subst hw'; clear hg2; obtain ⟨a0, a1, -⟩ := blk2 q1; by_cases hmM : m < M
        · have hmI : (m : Int) < (M : Int) := by omega
          (have hmc : (m : Int) < (cap : Int) := by omega); have g0 := (hbr.cell (p := ⟨g, off + r, none⟩) (lt_of_cell (HCe.out r hlt))).trans (HCe.out r hlt); have g1 := (hbr.cell (p := ⟨g, off + m, none⟩) (lt_of_cell (HCe.out m hmM))).trans (HCe.out m hmM); (have hand := and_row r m (by omega) (by omega))
          have HX1 : Hid ((r &&& m = r → bs.getD r false = true → bs.getD m false = true) → ∀ j, j < m + 1 → r &&& j = r → bs.getD r false = true → bs.getD j false = true) := fun hb j hj => by
            by_cases e : j = m
            · subst e; exact hb
            · exact HY.out j (by omega)
          have HX2 : Hid (r &&& m = r → bs.getD r false = true → bs.getD m false = false → res = false) := fun h1 h2 h3 => by
            cases hres : res
            · rfl
            · have := HR.out.1 hres r m hlt hmM h1 h2
              rw [h3] at this
              cases this
          by_cases he : r &&& m = r
          · rw [he] at hand
            (have hee : ((r : Int) == (r : Int)) = true := by simp)
            cases hx : bs.getD r false
            · have HE : Hid (∀ j, j < m + 1 → r &&& j = r → bs.getD r false = true → bs.getD j false = true) := HX1.out fun _ h => by rw [hx] at h; cases h
              rw [hx] at g0; clear HX1 HX2 hx; go_wp2_with fail
              go_roundg (M - (m + 1))
              case measure => have := HG2.out; omega
              case rel => exact ⟨m + 1, by omega, rfl, by go_num, rfl, HE⟩
            · cases hy : bs.getD m false
              · have HE : Hid (res = false) := HX2.out he hx hy
                rw [hx] at g0; rw [hy] at g1; clear HX1 HX2 hx hy; go_wp2_with fail; go_ret; (exact ⟨by rw [HE.out]; rfl, hbr⟩)
              · have HE : Hid (∀ j, j < m + 1 → r &&& j = r → bs.getD r false = true → bs.getD j false = true) := HX1.out fun _ _ => hy
                rw [hx] at g0; rw [hy] at g1; clear HX1 HX2 hx hy; go_wp2_with fail
                go_roundg (M - (m + 1))
                case measure => have := HG2.out; omega
                case rel => exact ⟨m + 1, by omega, rfl, by go_num, rfl, HE⟩
          · have HE : Hid (∀ j, j < m + 1 → r &&& j = r → bs.getD r false = true → bs.getD j false = true) := HX1.out fun h => absurd h he
            (have hee : (((r &&& m : Nat) : Int) == (r : Int)) = false := by simp; omega); clear HX1 HX2 he; generalize r &&& m = q at *; go_wp2_with fail
            go_roundg (M - (m + 1))
            case measure => have := HG2.out; omega
            case rel => exact ⟨m + 1, by omega, rfl, by go_num, rfl, HE⟩
        · have HE : Hid (∀ j, j < r + 1 → ∀ m, m < M → j &&& m = j → bs.getD j false = true → bs.getD m false = true) := fun j hj m' hm' => by
            by_cases e : j = r
            · subst e; exact HY.out m' (by omega)
            · exact HN.out j (by omega) m' hm'
          (have hge : ¬ (m : Int) < (M : Int) := by omega); clear HY; go_wp2_with fail
          go_roundg (M - (r + 1))
          case measure => have := HG.out; omega
          case rel => exact ⟨r + 1, by omega, rfl, by go_num, hbr, q1, HE⟩
    · have HE : Hid (res = true) := HR.out.2 fun k m hk => HN.out k (by omega) m
      (have hge : ¬ (r : Int) < (M : Int) := by omega); go_wp2_with fail; go_ret; (exact ⟨by rw [HE.out]; rfl, hbr⟩)
end Go.Proofs.Ytffkoiemnchdgab
/- Walks: InClass, sums. -/
namespace Go.Proofs.Ytffkoiemnchdgab
open Go.RowKit

def sumV (c s k : Nat) : Nat → Nat
  | 0 => c
  | i + 1 => sumV c s k i + (s &&& k) / 2 ^ i % 2
def xorV (cb : Bool) (s k : Nat) : Nat → Bool
  | 0 => cb
  | i + 1 => xorV cb s k i ^^ (s.testBit i && k.testBit i)
theorem sumV_le (c s k : Nat) (hc : c ≤ 1) : ∀ i, sumV c s k i ≤ 1 + i
  | 0 => hc
  | i + 1 => by
    have := sumV_le c s k hc i; (have h2 : (s &&& k) / 2 ^ i % 2 < 2 := Nat.mod_lt _ (by decide)); rw [sumV]; omega
theorem sumV_xor (c s k : Nat) (hc : c < 2) : ∀ i, decide (sumV c s k i % 2 = 1) = xorV (decide (c = 1)) s k i
  | 0 => by
    rw [sumV, xorV]
    rcases (by omega : c = 0 ∨ c = 1) with rfl | rfl <;> decide
  | i + 1 => by
    have ih := sumV_xor c s k hc i; have hb := half_bit (s &&& k) i; rw [Nat.testBit_and] at hb; (have h2 : (s &&& k) / 2 ^ i % 2 < 2 := Nat.mod_lt _ (by decide)); rw [sumV, xorV, ← ih]
    cases hx : (s.testBit i && k.testBit i)
    · rw [hx] at hb
      have h0 : (s &&& k) / 2 ^ i % 2 = 0 := by
        rcases (by omega : (s &&& k) / 2 ^ i % 2 = 0 ∨ (s &&& k) / 2 ^ i % 2 = 1) with h | h
        · exact h
        · exact absurd (hb.1 h) (by decide)
      rw [h0, Nat.add_zero, Bool.xor_false]
    · rw [hx] at hb
      rw [hb.2 rfl, Bool.xor_true]; by_cases h : sumV c s k i % 2 = 1
      · rw [decide_eq_true h, decide_eq_false (by omega)]; rfl
      · rw [decide_eq_false h, decide_eq_true (by omega)]; rfl

/-- Does the sum of s and c tell the table? -/
def sumOk (t : Tb) (s c : Nat) : Prop := ∀ k, k < t.bits.length → decide (sumV c s k t.n % 2 = 1) = t.bits.getD k false

theorem xor_zero (cb : Bool) (s : Nat) : ∀ n, xorV cb s 0 n = cb
  | 0 => rfl
  | n + 1 => by rw [xorV, xor_zero cb s n]; simp
theorem xor_one (cb : Bool) (s i : Nat) : ∀ n, xorV cb s (2 ^ i) n = (cb ^^ (decide (i < n) && s.testBit i))
  | 0 => by rw [xorV]; simp
  | n + 1 => by
    rw [xorV, xor_one cb s i n, Nat.testBit_two_pow]; by_cases h : i = n
    · subst h
      (rw [decide_eq_false (by omega), decide_eq_true (by omega), decide_eq_true (by omega)])
      cases s.testBit i <;> cases cb <;> rfl
    · rw [decide_eq_false h]
      by_cases h2 : i < n
      · rw [decide_eq_true h2, decide_eq_true (by omega)]; simp
      · rw [decide_eq_false h2, decide_eq_false (by omega)]; simp

theorem cls4_sum {t : Tb} (hok : t.Ok) : cls4 t.n t.bits = true ↔ ∃ s, s < t.bits.length ∧ ∃ c, c < 2 ∧ sumOk t s c := by
  rw [cls4_at hok]
  constructor
  · intro h
    (refine ⟨idx t.n (fun i => t.bits.getD (2 ^ i) false ^^ t.bits.getD 0 false), by rw [hok.2]; exact idx_lt _ _, if t.bits.getD 0 false then 1 else 0, by split <;> decide, fun k hk => ?_⟩); (rw [sumV_xor _ _ _ (by split <;> decide)]); (have hk' : k < 2 ^ t.n := by rw [← hok.2]; exact hk); have e := h k.testBit; unfold Tb.at at e; rw [idx_of hk'] at e; rw [e]
    have key : ∀ j, j ≤ t.n → xorV (decide ((if t.bits.getD 0 false then 1 else 0) = 1)) (idx t.n (fun i => t.bits.getD (2 ^ i) false ^^ t.bits.getD 0 false)) k j = affN t.bits k.testBit j := by
      intro j
      induction j with
      | zero => intro _; rw [xorV, affN]; cases t.bits.getD 0 false <;> rfl
      | succ j ih =>
        intro hj; (rw [xorV, affN, ih (by omega), idx_bit _ _ j (by omega)])
    exact key t.n (Nat.le_refl _)
  · rintro ⟨s, hs, c, hc, h⟩ v
    (have hb : ∀ k, k < t.bits.length → t.bits.getD k false = xorV (decide (c = 1)) s k t.n := fun k hk => by rw [← h k hk, sumV_xor _ _ _ hc]); have hl := hok.len; (have h0 := hb 0 (by omega)); rw [xor_zero] at h0
    have hi : ∀ i, i < t.n → t.bits.getD (2 ^ i) false = (decide (c = 1) ^^ s.testBit i) := fun i hi => by
      (rw [hb (2 ^ i) (by rw [hok.2]; exact Nat.pow_lt_pow_right (by omega) hi), xor_one, decide_eq_true hi, Bool.true_and])
    unfold Tb.at; (rw [hb (idx t.n v) (by rw [hok.2]; exact idx_lt _ _)])
    have key : ∀ j, j ≤ t.n → xorV (decide (c = 1)) s (idx t.n v) j = affN t.bits v j := by
      intro j
      induction j with
      | zero => intro _; rw [xorV, affN, h0]
      | succ j ih =>
        intro hj; (rw [xorV, affN, ih (by omega), idx_bit _ _ j (by omega), h0, hi j (by omega)])
        cases decide (c = 1) <;> cases s.testBit j <;> cases v j <;> cases affN t.bits v j <;> rfl
    exact key t.n (Nat.le_refl _)

def okTo (t : Tb) (s c : Nat) (K : Nat) : Bool := (List.range K).all fun k => decide (sumV c s k t.n % 2 = 1) == t.bits.getD k false
theorem okTo_succ (t : Tb) (s c K : Nat) : okTo t s c (K + 1) = (okTo t s c K && (decide (sumV c s K t.n % 2 = 1) == t.bits.getD K false)) := by
  unfold okTo; rw [List.range_succ, List.all_append]
  simp
theorem okTo_ok (t : Tb) (s c : Nat) : okTo t s c t.bits.length = true ↔ sumOk t s c := by
  unfold okTo sumOk; rw [List.all_eq_true]
  constructor
  · intro h k hk
    exact beq_iff_eq.1 (h k (List.mem_range.2 hk))
  · intro h k hk
    exact beq_iff_eq.2 (h k (List.mem_range.1 hk))

theorem and_one_bit (q i : Nat) (hq : q ≤ 16) : bits BinOp.and IntKind.i64 ((q : Int) / 2 ^ i) 1 = ((q / 2 ^ i % 2 : Nat) : Int) := by
  have hd : ((q : Int) / 2 ^ i) = ((q / 2 ^ i : Nat) : Int) := by
    rw [Int.natCast_ediv]; simp
  have hle : q / 2 ^ i ≤ 16 := Nat.le_trans (Nat.div_le_self _ _) hq; (have e : (2 : Nat) ^ 62 = 4611686018427387904 := by decide); rw [hd]; (have h := (bits_nat .i64 62 (by decide) wraps_i64 (q / 2 ^ i) 1 (by omega) (by decide)).1); have h' : bits BinOp.and IntKind.i64 ((q / 2 ^ i : Nat) : Int) 1 = (((q / 2 ^ i) &&& 1 : Nat) : Int) := h; rw [h', Nat.and_one_is_mod]

set_option maxRecDepth 10000 in
set_option maxHeartbeats 8000000 in
theorem inClass4 (t : Tb) (hok : t.Ok) (v : Value) (w : World) (h : TR w t v) :
    Calls Try.prog 11 #[v, .int .i64 4] w fun e w' => e = .returned (.bool (cls4 t.n t.bits)) ∧ Below w.heap.size w w' := by
  obtain ⟨g, off, cap, rfl, hc, hcells⟩ := h.cells hok; have hl := hok.len; have hn4 := hok.1; have q0 := blk_new w (.cells #[.int .i64 (t.n : Nat), .slice (some ⟨g, off, none⟩) t.bits.length cap] 33 (0, 0)); have B0 := below_more (Below.refl _ w) (.cells #[.int .i64 (t.n : Nat), .slice (some ⟨g, off, none⟩) t.bits.length cap] 33 (0, 0)); have HCe : Hid (∀ j, j < t.bits.length → w.cell? ⟨g, off + j, none⟩ = some (.bool (t.bits.getD j false))) := hcells; have HR : Hid (cls4 t.n t.bits = true ↔ ∃ s, s < t.bits.length ∧ ∃ c, c < 2 ∧ sumOk t s c) := cls4_sum hok; have HOk : Hid (∀ s c, okTo t s c t.bits.length = true ↔ sumOk t s c) := okTo_ok t; generalize cls4 t.n t.bits = res at *; generalize t.bits.length = M at *; (have hMI : (M : Int) ≤ 16 := by omega); clear hcells h
  go_enter Try.func11, Try.ntmps11
  go_wp2_with fail
  go_loopg [9] M (fun gk c wr => ∃ s, s ≤ M ∧ gk = M - s ∧ c = .int .i64 (s : Nat) ∧ Below w.heap.size w wr ∧ wr.heap[w.heap.size]? = some (.cells #[.int .i64 (t.n : Nat), .slice (some ⟨g, off, none⟩) M cap] 33 (0, 0)) ∧ Hid (∀ s', s' < s → ∀ c, c < 2 → ¬ sumOk t s' c))
  case atStart => exact ⟨0, by omega, by omega, rfl, B0, q0, fun j h => absurd h (Nat.not_lt_zero _)⟩
  case round =>
    obtain ⟨s, hs, hg, rfl, hbr, q1, HN⟩ := hrel; have HG : Hid (gk = M - s) := hg; clear hg; by_cases hlt : s < M
    · have hltI : (s : Int) < (M : Int) := by omega
      obtain ⟨W0, hW0⟩ : ∃ W0, W0 = wr := ⟨_, rfl⟩; subst hW0; go_wp2_with fail
      go_loopg [10] 2 (fun gk cc wr => ∃ c, c ≤ 2 ∧ gk = 2 - c ∧ cc = .int .i64 (c : Nat) ∧ wr = W0 ∧ Hid (∀ c', c' < c → ¬ sumOk t s c'))
      case atStart => exact ⟨0, by omega, by omega, rfl, rfl, fun j h => absurd h (Nat.not_lt_zero _)⟩
      case round =>
        obtain ⟨c, hc2, hg2, rfl, hw, HY⟩ := hrel; have HG2 : Hid (gk = 2 - c) := hg2; have hw' := hw.symm; subst hw'; clear hg2; by_cases hcl : c < 2
        · have hcI : (c : Int) < 2 := by omega
          go_wp2_with fail
          go_loopg [12, 11] M (fun gk cc o wr => ∃ k, k ≤ M ∧ gk = M - k ∧ cc = .int .i64 (k : Nat) ∧ o = .bool (okTo t s c k) ∧ wr = W0)
          case atStart => exact ⟨0, by omega, by omega, rfl, rfl, rfl⟩
          case round =>
            obtain ⟨k, hk, hg3, rfl, rfl, hw⟩ := hrel; have HG3 : Hid (gk = M - k) := hg3; have hw' := hw.symm; subst hw'; clear hg3; obtain ⟨a0, a1, -⟩ := blk2 q1; by_cases hkM : k < M
            · have hkI : (k : Int) < (M : Int) := by omega
              (have hkc : (k : Int) < (cap : Int) := by omega); (have hand := and_row s k (by omega) (by omega)); (have hq16 : s &&& k ≤ 16 := Nat.le_trans Nat.and_le_left (by omega)); (have HSu : Hid (∀ i, sumV c s k (i + 1) = sumV c s k i + (s &&& k) / 2 ^ i % 2) := fun _ => rfl); have HOs : Hid (okTo t s c (k + 1) = (okTo t s c k && (decide (sumV c s k t.n % 2 = 1) == t.bits.getD k false))) := okTo_succ t s c k; generalize s &&& k = q at *; (have HLe : Hid (∀ i, sumV c s k i ≤ 1 + i) := sumV_le c s k (by omega)); go_wp2_with fail
              go_loopg [14, 13] t.n (fun gk cc o wr => ∃ i, i ≤ t.n ∧ gk = t.n - i ∧ cc = .int .i64 (i : Nat) ∧ o = .int .i64 (sumV c s k i : Nat) ∧ wr = W0)
              case atStart => exact ⟨0, by omega, by omega, rfl, rfl, rfl⟩
              case round =>
                obtain ⟨i, hi, hg4, rfl, rfl, hw⟩ := hrel; have HG4 : Hid (gk = t.n - i) := hg4; have hw' := hw.symm; subst hw'; clear hg4; (have hsle : sumV c s k i ≤ 5 := by have := HLe.out i; omega); by_cases hin : i < t.n
                · have hiI : (i : Int) < (t.n : Int) := by omega
                  (have hi4 : i < 4 := by omega); have hab := and_one_bit q i hq16; (have hq2 : q / 2 ^ i % 2 < 2 := Nat.mod_lt _ (by decide)); have HS1 := HSu.out i; have HS2 : Hid (sumV c s k (i + 1) = sumV c s k i + q / 2 ^ i % 2) := HS1; clear HS1; generalize sumV c s k i = sv at *; generalize q / 2 ^ i % 2 = bq at *; (have hsI : (sv : Int) ≤ 5 := by omega); (have hbI : (bq : Int) ≤ 1 := by omega); go_wp2_with fail
                  go_roundg (t.n - (i + 1))
                  case measure => have := HG4.out; omega
                  case rel => exact ⟨i + 1, by omega, rfl, by go_num, by rw [HS2.out]; go_num, rfl⟩
                · have hit : t.n = i := by omega
                  (have hiJ : ¬ (i : Int) < (t.n : Int) := by omega); have hOs := HOs.out; (rw [show sumV c s k t.n = sumV c s k i by rw [hit]] at hOs); have HOt : Hid (okTo t s c (k + 1) = (okTo t s c k && (decide (sumV c s k i % 2 = 1) == t.bits.getD k false))) := hOs; clear hit hi hin HG4 HSu HLe HOs hOs; have g0 := (hbr.cell (p := ⟨g, off + k, none⟩) (lt_of_cell (HCe.out k hkM))).trans (HCe.out k hkM); generalize sumV c s k i = sv at *
                  have HP : Hid (((sv : Int) % 2 == 1) = decide (sv % 2 = 1)) := by
                    show _ = _; rw [Bool.eq_iff_iff]
                    simp
                    omega
                  generalize t.bits.getD k false = x at *; (have hsI : (sv : Int) ≤ 5 := by omega); generalize okTo t s c k = bo at *
                  cases bo
                  · have HO2 : Hid (okTo t s c (k + 1) = false) := by
                      show _ = _; rw [HOt.out]; rfl
                    clear HOt; go_wp2_with fail
                    go_roundg (M - (k + 1))
                    case measure => have := HG3.out; omega
                    case rel => exact ⟨k + 1, by omega, rfl, by go_num, by rw [HO2.out], rfl⟩
                  · have HO2 : Hid (okTo t s c (k + 1) = (((sv : Int) % 2 == 1) == x)) := by
                      show _ = _; rw [HOt.out, HP.out]; rfl
                    clear HOt HP; go_wp2_with fail
                    go_roundg (M - (k + 1))
                    case measure => have := HG3.out; omega
                    case rel => exact ⟨k + 1, by omega, rfl, by go_num, by rw [HO2.out], rfl⟩
            · have hkJ : ¬ (k : Int) < (M : Int) := by omega
              (have hke : k = M := by omega); (have HT : Hid (okTo t s c k = true → res = true) := fun h => HR.out.2 ⟨s, hlt, c, hcl, (HOk.out s c).1 (by rw [← hke]; exact h)⟩)
              have HF : Hid (okTo t s c k = false → ∀ c', c' < c + 1 → ¬ sumOk t s c') := fun h c' hc' => by
                by_cases e : c' = c
                · rw [e]
                  intro hs'; have := (HOk.out s c).2 hs'; rw [← hke, h] at this
                  cases this
                · exact HY.out c' (by omega)
              generalize okTo t s c k = bo at *; clear hke hk hkM HY
              cases bo
              · have HF' : Hid (∀ c', c' < c + 1 → ¬ sumOk t s c') := HF.out rfl
                clear HT HF; go_wp2_with fail
                go_roundg (2 - (c + 1))
                case measure => have := HG2.out; omega
                case rel => exact ⟨c + 1, by omega, rfl, by go_num, rfl, HF'⟩
              · have HT' : Hid (res = true) := HT.out rfl
                clear HT HF; go_wp2_with fail; go_ret; (exact ⟨by rw [HT'.out]; rfl, hbr⟩)
        · have hcJ : ¬ (c : Int) < 2 := by omega
          have HN2 : Hid (∀ s', s' < s + 1 → ∀ c, c < 2 → ¬ sumOk t s' c) := fun s' hs' c' hc' => by
            by_cases e : s' = s
            · rw [e]; exact HY.out c' (by omega)
            · exact HN.out s' (by omega) c' hc'
          clear HY; go_wp2_with fail
          go_roundg (M - (s + 1))
          case measure => have := HG.out; omega
          case rel => exact ⟨s + 1, by omega, rfl, by go_num, hbr, q1, HN2⟩
    · have HE : Hid (res = false) := by
        show _ = _
        cases hr : res
        · rfl
        · obtain ⟨s', hs', c, hc', ho⟩ := HR.out.1 hr
          (exact absurd ho (HN.out s' (by omega) c hc'))
      (have hge : ¬ (s : Int) < (M : Int) := by omega); go_wp2_with fail; go_ret; (exact ⟨by rw [HE.out]; rfl, hbr⟩)

theorem inClass_any (t : Tb) (hok : t.Ok) (i : Nat) (hi : i < 5) (v : Value) (w : World) (h : TR w t v) :
    Calls Try.prog 11 #[v, .int .i64 (i : Nat)] w fun e w' => e = .returned (.bool (clsT i t)) ∧ Below w.heap.size w w' := by
  rcases (by omega : i = 0 ∨ i = 1 ∨ i = 2 ∨ i = 3 ∨ i = 4) with rfl | rfl | rfl | rfl | rfl
  · exact inClass0 t hok v w h
  · exact inClass1 t hok v w h
  · exact inClass2 t hok v w h
  · exact inClass3 t hok v w h
  · exact inClass4 t hok v w h
end Go.Proofs.Ytffkoiemnchdgab
/- Walks: Complete of what is no list of tables. -/
namespace Go.Proofs.Ytffkoiemnchdgab
open Go.RowKit

set_option maxHeartbeats 4000000 in
theorem complete_no (ts : List (Int × List Bool)) (c a : Int) (hc : c ≠ 0) (htc : tcode ts = (c, a)) (v : Value) (w : World) (hv : TQ w v ts) :
    Calls Try.prog 8 #[v] w fun e w' => e = .returned (.tuple #[.bool false, .agg #[.bool false, .bool false, .bool false, .bool false, .bool false], .agg #[.int .i64 c, .int .i64 a]]) ∧ Below w.heap.size w w' := by
  (have htf := fun v (w : World) h => tablesFault_any ts v w h); rw [htc] at htf; (have hne' : (c != 0) = true := by simpa using hc); have HTf : Hid (∀ v w, TQ w v ts → Calls Try.prog 33 #[v] w _) := htf; have HV : Hid (TQ w v ts) := hv; obtain ⟨ad, cap, rfl⟩ := hv.len; clear htf htc hv hc
  go_enter Try.func8, Try.ntmps8
  go_wp2_with fail; refine (HTf.out _ _ (HV.out.up (below_more (below_more (Below.refl _ w) _) _))).mono ?_; rintro e w1 ⟨rfl, hb1⟩; have q0 := below_keep hb1 (alloc_keep (blk_new w _) _); have q1 := below_keep hb1 (blk_sec w _ _); have B1 := below_join (below_more (below_more (Below.refl _ w) _) _) hb1; have z1 := lt_of_block q1; (have d1 : ¬ w1.heap.size = w.heap.size + 1 := by omega); (have d2 : ¬ w1.heap.size = w.heap.size := by omega); (have d4 : w.heap.size + 1 < w1.heap.size := by omega); (have d6 : w.heap.size < w1.heap.size := by omega); obtain ⟨k1, k2, k3, k4⟩ := blk2 q1; have e0 := blk_cell q0 0; have e1 := blk_cell q0 1; have e2 := blk_cell q0 2; have e3 := blk_cell q0 3; have e4 := blk_cell q0 4; have f0 := blk_fz q0 0; have f1 := blk_fz q0 1; have f2 := blk_fz q0 2; have f3 := blk_fz q0 3; have f4 := blk_fz q0 4; simp at e0 e1 e2 e3 e4; go_wp2_with fail
  go_region
  all_goals go_wp2
  have s0 : (((((w1.setCell ⟨w.heap.size, 0, none⟩ (.bool false)).setCell ⟨w.heap.size, 1, none⟩ (.bool false)).setCell ⟨w.heap.size, 2, none⟩ (.bool false)).setCell ⟨w.heap.size, 3, none⟩ (.bool false)).setCell ⟨w.heap.size, 4, none⟩ (.bool false)).heap[w.heap.size]? = some (.cells #[.bool false, .bool false, .bool false, .bool false, .bool false] 23 (0, 0)) := by
    simp [World.setCell, Array.getElem?_modify, q0]
  have s1 : (((((w1.setCell ⟨w.heap.size, 0, none⟩ (.bool false)).setCell ⟨w.heap.size, 1, none⟩ (.bool false)).setCell ⟨w.heap.size, 2, none⟩ (.bool false)).setCell ⟨w.heap.size, 3, none⟩ (.bool false)).setCell ⟨w.heap.size, 4, none⟩ (.bool false)).heap[w.heap.size + 1]? = some (.cells #[.int .i64 0, .int .i64 0] 25 (0, 0)) := by
    (rw [Below.heap_setCell _ _ _ _ (by simp), Below.heap_setCell _ _ _ _ (by simp), Below.heap_setCell _ _ _ _ (by simp), Below.heap_setCell _ _ _ _ (by simp), Below.heap_setCell _ _ _ _ (by simp)]); exact q1
  (have b5 : Below w.heap.size w (((((w1.setCell ⟨w.heap.size, 0, none⟩ (.bool false)).setCell ⟨w.heap.size, 1, none⟩ (.bool false)).setCell ⟨w.heap.size, 2, none⟩ (.bool false)).setCell ⟨w.heap.size, 3, none⟩ (.bool false)).setCell ⟨w.heap.size, 4, none⟩ (.bool false)) := ((((B1.setCell (by simp) _).setCell (by simp) _).setCell (by simp) _).setCell (by simp) _).setCell (by simp) _); (have hz5 : (((((w1.setCell ⟨w.heap.size, 0, none⟩ (.bool false)).setCell ⟨w.heap.size, 1, none⟩ (.bool false)).setCell ⟨w.heap.size, 2, none⟩ (.bool false)).setCell ⟨w.heap.size, 3, none⟩ (.bool false)).setCell ⟨w.heap.size, 4, none⟩ (.bool false)).heap.size = w1.heap.size := by simp [World.setCell]); generalize (((((w1.setCell ⟨w.heap.size, 0, none⟩ (.bool false)).setCell ⟨w.heap.size, 1, none⟩ (.bool false)).setCell ⟨w.heap.size, 2, none⟩ (.bool false)).setCell ⟨w.heap.size, 3, none⟩ (.bool false)).setCell ⟨w.heap.size, 4, none⟩ (.bool false)) = W5 at s0 s1 b5 hz5 ⊢; (obtain ⟨t1, t2, t3⟩ := flt_set (R := w.heap.size + 1) (by omega) b5 s1 c a); (have t0 := (t3 w.heap.size (by omega)).trans s0); (have hz6 : ((W5.setCell ⟨w.heap.size + 1, 0, none⟩ (.int .i64 c)).setCell ⟨w.heap.size + 1, 1, none⟩ (.int .i64 a)).heap.size = W5.heap.size := by simp [World.setCell]); generalize World.setCell _ _ _ = F at t1 t2 t0 hz6 ⊢; clear k1 k2 k3 k4 e0 e1 e2 e3 e4 f0 f1 f2 f3 f4; obtain ⟨k1, k2, -⟩ := blk2 t1; have e0 := blk_cell t0 0; have e1 := blk_cell t0 1; have e2 := blk_cell t0 2; have e3 := blk_cell t0 3; have e4 := blk_cell t0 4; simp at e0 e1 e2 e3 e4; (have d8 : w.heap.size + 1 < F.heap.size := by omega); (have d9 : w.heap.size < F.heap.size := by omega); (exact bodyPost_ret (v := .tuple #[.bool false, .agg #[.bool false, .bool false, .bool false, .bool false, .bool false], .agg #[.int .i64 c, .int .i64 a]]) (by simp [results, Try.results8, go_sem, k1, k2, e0, e1, e2, e3, e4, d8, d9]) rfl ⟨rfl, (t2.alloc (by omega) _).drew⟩)
end Go.Proofs.Ytffkoiemnchdgab
/- Walks: TruthPost. -/
namespace Go.Proofs.Ytffkoiemnchdgab
open Go.RowKit

theorem tfirst_zero : ∀ (ts : List (Int × List Bool)) (i : Nat), (tfirst ts i).1 = 0 → ∀ t ∈ ts, tbad t = 0
  | [], _, _, t, ht => by cases ht
  | u :: ts, i, h, t, ht => by
    rw [tfirst] at h; by_cases hb : tbad u = 0
    · rw [if_pos hb] at h
      rcases List.mem_cons.1 ht with rfl | ht
      · exact hb
      · exact tfirst_zero ts (i + 1) h t ht
    · rw [if_neg hb] at h
      exact absurd h hb
theorem tables_of : ∀ (ts : List (Int × List Bool)), (∀ t ∈ ts, tbad t = 0) → ∃ us : List Tb, ts = raws us ∧ ∀ t ∈ us, t.Ok
  | [], _ => ⟨[], rfl, fun t h => by cases h⟩
  | t :: ts, h => by
    (obtain ⟨us, rfl, hok⟩ := tables_of ts fun u hu => h u (List.mem_cons_of_mem _ hu)); have hb := h t List.mem_cons_self; unfold tbad at hb; (have h1 : ¬ (t.1 < 0 ∨ 4 < t.1) := fun e => by rw [if_pos e] at hb; cases hb); rw [if_neg h1] at hb
    have h2 : (t.2.length : Int) = ((2 ^ t.1.toNat : Nat) : Int) := by
      apply Classical.byContradiction; intro e; rw [if_pos e] at hb
      cases hb
    (refine ⟨⟨t.1.toNat, t.2⟩ :: us, ?_, fun u hu => ?_⟩)
    · unfold raws
      rw [List.map_cons]
      congr 1
      apply Prod.ext
      · show t.1 = ((t.1.toNat : Nat) : Int)
        omega
      · rfl
    · rcases List.mem_cons.1 hu with rfl | hu
      · exact ⟨by show t.1.toNat ≤ 4; omega, Int.ofNat.inj h2⟩
      · exact hok u hu
theorem tcode_ok {ts : List (Int × List Bool)} (h : (tcode ts).1 = 0) : ∃ us : List Tb, ts = raws us ∧ us.length ≤ 20 ∧ ∀ t ∈ us, t.Ok := by
  unfold tcode at h; by_cases h20 : 20 < ts.length
  · rw [if_pos h20] at h; cases h
  · rw [if_neg h20] at h
    obtain ⟨us, rfl, hok⟩ := tables_of ts (tfirst_zero ts 0 h); refine ⟨us, rfl, ?_, hok⟩; unfold raws at h20; rw [List.length_map] at h20; omega
theorem tcode_raws {us : List Tb} (hl : us.length ≤ 20) (hok : ∀ t ∈ us, t.Ok) : tcode (raws us) = (0, 0) := by
  unfold tcode; (rw [if_neg (by simp [raws]; omega)]); exact tfirst_ok us 0 hok

theorem eq_five (w : World) : (Op.equalIn 10000 23 (.agg #[.bool false, .bool false, .bool false, .bool false, .bool false]) (.agg #[.bool false, .bool false, .bool false, .bool false, .bool false])).run Try.prog w = .ok true w := by kernel_rfl

set_option maxRecDepth 10000 in
set_option maxHeartbeats 4000000 in
theorem post_bad (ts : List (Int × List Bool)) (c a : Int) (hc : c ≠ 0) (htc : tcode ts = (c, a)) (v : Value) (w : World) (hv : TQ w v ts) :
    Calls Try.prog 3 #[v] w fun e w' => e = .returned (.bool true) ∧ Below w.heap.size w w' := by
  (have hco := fun v (w : World) h => complete_no ts c a hc htc v w h); (have htf := fun v (w : World) h => tableFaultR_any ts v w h); rw [htc] at htf; (have hne' : (c != 0) = true := by simpa using hc); have HCo : Hid (∀ v w, TQ w v ts → Calls Try.prog 8 #[v] w _) := hco; have HTf : Hid (∀ v w, TQ w v ts → Calls Try.prog 9 #[v] w _) := htf; (have HB : Hid (∀ w, Calls Try.prog 10 #[] w _) := fun w => truthBegun_any w); have HV : Hid (TQ w v ts) := hv; obtain ⟨ad, cap, rfl⟩ := hv.len; clear hco htf htc hv hc
  go_enter Try.func3, Try.ntmps3
  go_wp2_with fail; refine (HCo.out _ _ HV.out).mono ?_; rintro e w1 ⟨rfl, hb1⟩; have B1 := below_more (below_more (below_join (Below.refl _ w) hb1) (.cells #[.bool false, .bool false, .bool false, .bool false, .bool false] 23 (0, 0))) (.cells #[.int .i64 c, .int .i64 a] 25 (0, 0)); have p0 := alloc_keep (blk_new w1 (.cells #[.bool false, .bool false, .bool false, .bool false, .bool false] 23 (0, 0))) (.cells #[.int .i64 c, .int .i64 a] 25 (0, 0)); have p1 := blk_sec w1 (.cells #[.bool false, .bool false, .bool false, .bool false, .bool false] 23 (0, 0)) (.cells #[.int .i64 c, .int .i64 a] 25 (0, 0)); go_wp2_with fail; refine (HTf.out _ _ (HV.out.up B1)).mono ?_; rintro e w2 ⟨rfl, hb2⟩; have B2 := below_more (below_join B1 hb2) (.cells #[.int .i64 c, .int .i64 a] 25 (0, 0)); have r0 := alloc_keep (below_keep hb2 p0) (.cells #[.int .i64 c, .int .i64 a] 25 (0, 0)); have r1 := alloc_keep (below_keep hb2 p1) (.cells #[.int .i64 c, .int .i64 a] 25 (0, 0)); have r2 := blk_new w2 (.cells #[.int .i64 c, .int .i64 a] 25 (0, 0)); go_wp2_with fail; refine (HB.out _).mono ?_; rintro e w3 ⟨rfl, hb3⟩; have B3 := below_join B2 hb3; have t0 := below_keep hb3 r0; have t1 := below_keep hb3 r1; have t2 := below_keep hb3 r2; obtain ⟨k1, k2, -⟩ := blk2 t1; obtain ⟨k3, k4, -⟩ := blk2 t2; have e0 := blk_cell t0 0; have e1 := blk_cell t0 1; have e2 := blk_cell t0 2; have e3 := blk_cell t0 3; have e4 := blk_cell t0 4; simp at e0 e1 e2 e3 e4; (have hq5 := fun w => eq_five w); go_wp2_with fail; go_ret; exact ⟨rfl, B3⟩

theorem allC_all (ts : List Tb) (i : Nat) : allC ts i = ts.all (clsT i) := by
  unfold allC; rw [Bool.eq_iff_iff, Bool.not_eq_true', List.any_eq_false, List.all_eq_true]
  constructor
  · intro h t ht
    simpa using h t ht
  · intro h t ht
    simpa using h t ht
theorem allV_is (ts : List Tb) {j : Nat} (h : j < 5) : allV ts 5 j = .bool (allC ts j) := by
  unfold allV; rw [decide_eq_true h, Bool.true_and]
theorem allC_cell {w : World} {b : Nat} {T : TypeId} {f : Nat → Bool} (h : w.heap[b]? = some (.cells #[.bool (f 0), .bool (f 1), .bool (f 2), .bool (f 3), .bool (f 4)] T (0, 0))) {i : Nat} (hi : i < 5) : w.cell? ⟨b, i, none⟩ = some (.bool (f i)) := by
  rw [blk_cell h]
  rcases (by omega : i = 0 ∨ i = 1 ∨ i = 2 ∨ i = 3 ∨ i = 4) with rfl | rfl | rfl | rfl | rfl <;> rfl

set_option maxRecDepth 10000 in
set_option maxHeartbeats 8000000 in
theorem post_good (ts : List Tb) (hl : ts.length ≤ 20) (hok : ∀ t ∈ ts, t.Ok) (v : Value) (w : World) (hv : TQ w v (raws ts)) :
    Calls Try.prog 3 #[v] w fun e w' => e = .returned (.bool true) ∧ Below w.heap.size w w' := by
  (have hco := fun v (w : World) h => complete_yes ts hl hok v w h); (have htf := fun v (w : World) h => tableFaultR_any (raws ts) v w h); rw [tcode_raws hl hok] at htf; (have hmk := fun v (w : World) h => makes_any ts hok v w h); (have hic := fun t (ht : t ∈ ts) i (hi : i < 5) v (w : World) h => inClass_any t (hok t ht) i hi v w h); obtain ⟨C, hC⟩ : ∃ C, compC ts 5 = C := ⟨_, rfl⟩; rw [hC] at hco hmk; (simp only [allV_is ts (show 0 < 5 by decide), allV_is ts (show 1 < 5 by decide), allV_is ts (show 2 < 5 by decide), allV_is ts (show 3 < 5 by decide), allV_is ts (show 4 < 5 by decide)] at hco); have HAC : Hid (∀ i, allC ts i = ts.all (clsT i)) := allC_all ts; generalize allC ts = fc at *; have HCo : Hid (∀ v w, TQ w v (raws ts) → Calls Try.prog 8 #[v] w _) := hco; have HTf : Hid (∀ v w, TQ w v (raws ts) → Calls Try.prog 9 #[v] w _) := htf; have HMk : Hid (∀ v w, TQ w v (raws ts) → Calls Try.prog 12 #[v] w _) := hmk; (have HIc : Hid (∀ t, t ∈ ts → ∀ i, i < 5 → ∀ v w, TR w t v → Calls Try.prog 11 #[v, .int .i64 (i : Nat)] w fun e w' => e = .returned (.bool (clsT i t)) ∧ Below w.heap.size w w') := hic); (have HB : Hid (∀ w, Calls Try.prog 10 #[] w _) := fun w => truthBegun_any w); have HV : Hid (TQ w v (raws ts)) := hv; obtain ⟨ad, cap, rfl, h1, h2, h3⟩ := hv.at; have H3 : Hid (ts ≠ [] → ∃ g off, ad = some ⟨g, off, none⟩ ∧ ∀ (j : Nat) (t : Tb), ts[j]? = some t → ∃ adB cpB, w.cell? ⟨g, off + j * 2, none⟩ = some (.int .i64 (t.n : Nat)) ∧ w.cell? ⟨g, off + j * 2 + 1, none⟩ = some (.slice adB t.bits.length cpB) ∧ TR w t (.agg #[.int .i64 (t.n : Nat), .slice adB t.bits.length cpB])) := h3; (have hlI : (ts.length : Int) ≤ 20 := by omega); clear hco htf hmk hic hok hv h3 hC
  go_enter Try.func3, Try.ntmps3
  go_wp2_with fail; refine (HCo.out _ _ HV.out).mono ?_; rintro e w1 ⟨rfl, hb1⟩; have B1 := below_more (below_more (below_join (Below.refl _ w) hb1) (.cells #[.bool (fc 0), .bool (fc 1), .bool (fc 2), .bool (fc 3), .bool (fc 4)] 23 (0, 0))) (.cells #[.int .i64 0, .int .i64 0] 25 (0, 0)); have p0 := alloc_keep (blk_new w1 (.cells #[.bool (fc 0), .bool (fc 1), .bool (fc 2), .bool (fc 3), .bool (fc 4)] 23 (0, 0))) (.cells #[.int .i64 0, .int .i64 0] 25 (0, 0)); have p1 := blk_sec w1 (.cells #[.bool (fc 0), .bool (fc 1), .bool (fc 2), .bool (fc 3), .bool (fc 4)] 23 (0, 0)) (.cells #[.int .i64 0, .int .i64 0] 25 (0, 0)); have HP0 : Hid _ := p0; clear p0; go_wp2_with fail; refine (HTf.out _ _ (HV.out.up B1)).mono ?_; rintro e w2 ⟨rfl, hb2⟩; have B2 := below_more (below_join B1 hb2) (.cells #[.int .i64 0, .int .i64 0] 25 (0, 0)); have r0 : Hid _ := alloc_keep (below_keep hb2 HP0.out) (.cells #[.int .i64 0, .int .i64 0] 25 (0, 0)); have r1 := alloc_keep (below_keep hb2 p1) (.cells #[.int .i64 0, .int .i64 0] 25 (0, 0)); have r2 := blk_new w2 (.cells #[.int .i64 0, .int .i64 0] 25 (0, 0)); go_wp2_with fail; refine (HB.out _).mono ?_; rintro e w3 ⟨rfl, hb3⟩; have B3 := below_join B2 hb3; have t0 : Hid _ := below_keep hb3 r0.out; have t1 := below_keep hb3 r1; have t2 := below_keep hb3 r2; obtain ⟨k1, k2, -⟩ := blk2 t1; obtain ⟨k3, k4, -⟩ := blk2 t2; go_wp2_with fail; clear k1 k2 k3 k4 t1 t2 r0 r1 r2 p1 HP0 B1 B2 hb1 hb2 hb3 HCo HTf HB
  go_loopg [7] 5 (fun g cc wr => ∃ i, i ≤ 5 ∧ g = 5 - i ∧ cc = .int .i64 (i : Nat) ∧ Hid (Below w3.heap.size w3 wr))
  case atStart => exact ⟨0, by omega, by omega, rfl, Below.refl _ _⟩
  case round =>
    obtain ⟨i, hi, hg, rfl, HW⟩ := hrel; have HG : Hid (gk = 5 - i) := hg; clear hg; by_cases hlt : i < 5
    · have hiI : (i : Int) < 5 := by omega
      have HAi : Hid (fc i = ts.all (clsT i)) := HAC.out i; go_wp2_with fail
      go_loopg [9, 8] ts.length (fun g cc o wr => ∃ k, k ≤ ts.length ∧ g = ts.length - k ∧ cc = .int .i64 (k : Nat) ∧ o = .bool ((ts.take k).all (clsT i)) ∧ Hid (Below w3.heap.size w3 wr))
      case atStart => exact ⟨0, by omega, by omega, rfl, rfl, HW⟩
      case round =>
        clear HW; obtain ⟨k, hk, hg2, rfl, rfl, HW⟩ := hrel; have HG2 : Hid (gk = ts.length - k) := hg2; clear hg2; by_cases hkl : k < ts.length
        · obtain ⟨t, ht⟩ : ∃ x, ts[k]? = some x := ⟨_, List.getElem?_eq_getElem hkl⟩
          (obtain ⟨g, off, rfl, hc⟩ := H3.out (fun e => by rw [e] at hkl; simp at hkl)); obtain ⟨adB, cpB, c0, c1, htr⟩ := hc k t ht; have BZ := below_join B3 HW.out; have g0 := (BZ.cell (p := ⟨g, off + k * 2, none⟩) (lt_of_cell c0)).trans c0; have g1 := (BZ.cell (p := ⟨g, off + k * 2 + 1, none⟩) (lt_of_cell c1)).trans c1; (have hkI : (k : Int) < (ts.length : Int) := by omega); (have hkc : (k : Int) < (cap : Int) := by omega)
          have HT1 : Hid ((ts.take (k + 1)).all (clsT i) = ((ts.take k).all (clsT i) && clsT i t)) := by
            show _ = _; rw [List.take_add_one, ht, List.all_append]
            simp
          have hcc := HIc.out t (List.mem_of_getElem? ht) i hlt _ wr (htr.up BZ); generalize clsT i t = bt at hcc HT1; have HCC : Hid (Calls Try.prog 11 _ wr _) := hcc; generalize (ts.take k).all (clsT i) = bp at *; clear hc ht c0 c1 htr hcc BZ
          cases bp
          · have HT2 : Hid ((ts.take (k + 1)).all (clsT i) = false) := by
              show _ = _; rw [HT1.out]; rfl
            clear HT1 HCC; go_wp2_with fail
            go_roundg (ts.length - (k + 1))
            case measure => have := HG2.out; omega
            case rel => exact ⟨k + 1, by omega, rfl, by go_num, by rw [HT2.out], HW⟩
          · have HT2 : Hid ((ts.take (k + 1)).all (clsT i) = bt) := by
              show _ = _; rw [HT1.out]; rfl
            clear HT1; go_wp2_with fail; refine HCC.out.mono ?_; rintro e w4 ⟨rfl, hb4⟩; have HW4 : Hid (Below w3.heap.size w3 w4) := below_join HW.out hb4; go_wp2_with fail
            go_roundg (ts.length - (k + 1))
            case measure => have := HG2.out; omega
            case rel => exact ⟨k + 1, by omega, rfl, by go_num, by rw [HT2.out], HW4⟩
        · have hkJ : ¬ (k : Int) < (ts.length : Int) := by omega
          have HE : Hid ((ts.take k).all (clsT i) = fc i) := by
            show _ = _; (rw [HAi.out, List.take_of_length_le (by omega)])
          have c0 := allC_cell (below_keep HW.out t0.out) hlt; rw [← HE.out] at c0; generalize (ts.take k).all (clsT i) = bp at *; (have hbb : (bp != bp) = false := by cases bp <;> rfl); clear HE hk hkl; go_wp2_with fail
          go_roundg (5 - (i + 1))
          case measure => have := HG.out; omega
          case rel => exact ⟨i + 1, by omega, rfl, by go_num, HW⟩
    · have hiJ : ¬ (i : Int) < 5 := by omega
      clear HAC HIc t0; go_wp2_with fail
      go_loopg [11, 10] ts.length (fun g cc o wr => ∃ k, k ≤ ts.length ∧ g = ts.length - k ∧ cc = .int .i64 (k : Nat) ∧ o = .bool ((ts.take k).all (fun t => decide ((t.n : Int) < 4))) ∧ Hid (Below w3.heap.size w3 wr))
      case atStart => exact ⟨0, by omega, by omega, rfl, rfl, HW⟩
      case round =>
        clear HW; obtain ⟨k, hk, hg2, rfl, rfl, HW⟩ := hrel; have HG2 : Hid (gk = ts.length - k) := hg2; clear hg2; by_cases hkl : k < ts.length
        · obtain ⟨t, ht⟩ : ∃ x, ts[k]? = some x := ⟨_, List.getElem?_eq_getElem hkl⟩
          (obtain ⟨g, off, rfl, hc⟩ := H3.out (fun e => by rw [e] at hkl; simp at hkl)); obtain ⟨adB, cpB, c0, c1, htr⟩ := hc k t ht; have BZ := below_join B3 HW.out; have g0 := (BZ.cell (p := ⟨g, off + k * 2, none⟩) (lt_of_cell c0)).trans c0; (have hkI : (k : Int) < (ts.length : Int) := by omega); (have hkc : (k : Int) < (cap : Int) := by omega)
          have HT1 : Hid ((ts.take (k + 1)).all (fun t => decide ((t.n : Int) < 4)) = ((ts.take k).all (fun t => decide ((t.n : Int) < 4)) && decide ((t.n : Int) < 4))) := by
            show _ = _; rw [List.take_add_one, ht, List.all_append]
            simp
          (generalize (ts.take k).all (fun t => decide ((t.n : Int) < 4)) = bp at *); clear hc ht c0 c1 htr BZ
          cases bp
          · have HT2 : Hid ((ts.take (k + 1)).all (fun t => decide ((t.n : Int) < 4)) = false) := by
              show _ = _; rw [HT1.out]; rfl
            clear HT1; go_wp2_with fail
            go_roundg (ts.length - (k + 1))
            case measure => have := HG2.out; omega
            case rel => exact ⟨k + 1, by omega, rfl, by go_num, by rw [HT2.out], HW⟩
          · have HT2 : Hid ((ts.take (k + 1)).all (fun t => decide ((t.n : Int) < 4)) = decide ((t.n : Int) < 4)) := by
              show _ = _; rw [HT1.out]; rfl
            clear HT1; go_wp2_with fail
            go_roundg (ts.length - (k + 1))
            case measure => have := HG2.out; omega
            case rel => exact ⟨k + 1, by omega, rfl, by go_num, by rw [HT2.out], HW⟩
        · have hkJ : ¬ (k : Int) < (ts.length : Int) := by omega
          have BZ := below_join B3 HW.out; have HM : Hid (Calls Try.prog 12 _ wr _) := HMk.out _ wr (HV.out.up BZ); (generalize (ts.take k).all (fun t => decide ((t.n : Int) < 4)) = bp at *); (have hCC : (C == C) = true := by cases C <;> rfl); clear hk hkl H3
          cases bp
          · by_cases h3 : 3 < ts.length
            · have h3I : (3 : Int) < (ts.length : Int) := by omega
              go_wp2_with fail; go_ret; exact ⟨rfl, BZ⟩
            · have h3I : ¬ (3 : Int) < (ts.length : Int) := by omega
              have h3J : decide ((3 : Int) < (ts.length : Int)) = false := decide_eq_false h3I; go_wp2_with fail; refine HM.out.mono ?_; rintro e w5 ⟨rfl, hb5⟩; have B5 := below_join BZ hb5; go_wp2_with fail; go_ret; exact ⟨rfl, B5⟩
          · go_wp2_with fail
            refine HM.out.mono ?_; rintro e w5 ⟨rfl, hb5⟩; have B5 := below_join BZ hb5; go_wp2_with fail; go_ret; exact ⟨rfl, B5⟩
end Go.Proofs.Ytffkoiemnchdgab
