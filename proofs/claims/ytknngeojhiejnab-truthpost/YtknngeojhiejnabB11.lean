/- Texts of one proof, one behind the other: TP5, TP6. -/
import Derived.Test.YtknngeojhiejnabB10
/- Walks: Makes. -/
namespace Go.Proofs.Ytknngeojhiejnab
open Go.RowKit

theorem make_ints (M : Nat) (hM : M ≤ 1000) : ∃ C : Array Value, C.size = M ∧ ∀ w : World, (Instr.makeSlice 75 (.int .i64 (M : Nat)) (.int .i64 (M : Nat))).run Try.prog w = .ok (.slice (some ⟨w.heap.size, 0, none⟩) M M) (w.alloc (.cells C 3 (0, 0))) := by
  obtain ⟨i, hi, h⟩ := Option.map_eq_some_iff.1 (show (Try.prog.info? 3).map (fun i => (i.zero, i.size, i.bytes)) = some (some (.int .i64 0), 1, 8) by kernel_rfl)
  simp only [Prod.mk.injEq] at h
  obtain ⟨hz, hs, hb⟩ := h
  refine ⟨madeCells (Value.int .i64 0).cells (M * 1), by rw [size_madeCells]; omega, fun w => ?_⟩
  have := run_makeSlice (P := Try.prog) w 75 3 i _ Try.underlying75 hi hz .i64 .i64 (M : Int) (M : Int) (by omega) (Int.le_refl _) (by rw [hs]; simp; omega) (by rw [hb]; omega) (by omega)
  rw [hs] at this
  simpa using this

/-- What stays so while Makes goes on. -/
def MkI (w : World) (ts : List Tb) (S : Nat → Bool) (wr : World) : Prop := Below w.heap.size w wr ∧ Is wr w.heap.size S ∧ (∀ i, i < 16 → S i = true → Gen ts i) ∧ S 10 = true ∧ S 12 = true
theorem MkI.up {w wr wr' : World} {ts : List Tb} {S : Nat → Bool} (h : MkI w ts S wr) (hb : Below wr.heap.size wr wr') : MkI w ts S wr' :=
  ⟨below_join h.1 hb, h.2.1.keep (hb.block _ h.2.1.lt), h.2.2⟩
theorem MkI.set {w wr : World} {ts : List Tb} {S : Nat → Bool} (h : MkI w ts S wr) {c : Nat} (hc : w.heap.size < c) (j : Nat) (u : Value) : MkI w ts S (wr.setCell ⟨c, j, none⟩ u) :=
  ⟨h.1.setCell (by simp; omega) _, h.2.1.keep (Below.heap_setCell _ _ _ _ (by simp; omega)), h.2.2⟩
theorem MkI.put {w wr : World} {ts : List Tb} {S : Nat → Bool} (h : MkI w ts S wr) {f : Nat} (hf : f < 16) (hg : Gen ts f) : MkI w ts (addS S f) (wr.setCell ⟨w.heap.size, f, none⟩ (.bool true)) := by
  refine ⟨h.1.setCell (by simp) _, h.2.1.put hf, fun i hi hs => ?_, by unfold addS; rw [h.2.2.2.1]; rfl, by unfold addS; rw [h.2.2.2.2]; rfl⟩
  unfold addS at hs
  by_cases e : i = f
  · rw [e]; exact hg
  · rw [decide_eq_false e, Bool.or_false] at hs
    exact h.2.2.1 i hi hs

def S0 (i : Nat) : Bool := decide (i = 10) || decide (i = 12)
def fineTo (S : Nat → Bool) (k j : Nat) : Bool := (List.range j).all fun m => S (dig k m)
theorem fineTo_succ (S : Nat → Bool) (k j : Nat) : fineTo S k (j + 1) = (fineTo S k j && S (dig k j)) := by
  unfold fineTo
  rw [List.range_succ, List.all_append]
  simp
theorem fineTo_all {S : Nat → Bool} {k n : Nat} (h : fineTo S k n = true) : ∀ j, j < n → S (dig k j) = true := fun j hj => by
  unfold fineTo at h
  rw [List.all_eq_true] at h
  exact h j (List.mem_range.2 hj)
theorem fineTo_no {S : Nat → Bool} {k n : Nat} (h : fineTo S k n = false) : ¬ ∀ j, j < n → S (dig k j) = true := fun hn => by
  have : fineTo S k n = true := by
    unfold fineTo
    rw [List.all_eq_true]
    exact fun j hj => hn j (List.mem_range.1 hj)
  rw [h] at this
  cases this
/-- What is known of the tables ahead of i, and of the arguments ahead of k. -/
def Kn (ts : List Tb) (Z S : Nat → Bool) (ag : Bool) (i : Nat) (t : Tb) (k : Nat) : Prop := (ag = true → miss S < miss Z) ∧ (ag = false → S = Z ∧ (∀ j u, j < i → ts[j]? = some u → closedT u Z) ∧ ∀ k', k' < k → (∀ j, j < t.n → Z (dig k' j) = true) → Z (putT t (argN (digs t.n k'))) = true)
theorem Kn.skip {ts : List Tb} {Z S : Nat → Bool} {ag : Bool} {i : Nat} {t : Tb} {k : Nat} (h : Kn ts Z S ag i t k) (hn : S = Z → (∀ j, j < t.n → Z (dig k j) = true) → Z (putT t (argN (digs t.n k))) = true) : Kn ts Z S ag i t (k + 1) := by
  refine ⟨h.1, fun e => ?_⟩
  obtain ⟨h1, h2, h3⟩ := h.2 e
  refine ⟨h1, h2, fun k' hk hd => ?_⟩
  by_cases e' : k' = k
  · subst e'; exact hn h1 hd
  · exact h3 k' (by omega) hd
theorem Kn.add {ts : List Tb} {Z S : Nat → Bool} {ag : Bool} {i : Nat} {t : Tb} {k f : Nat} (h : Kn ts Z S ag i t k) (hf : f < 16) (hs : S f = false) : Kn ts Z (addS S f) true i t (k + 1) := by
  refine ⟨fun _ => ?_, fun e => by cases e⟩
  have := miss_add hf hs
  cases ag
  · rw [(h.2 rfl).1] at this ⊢; exact this
  · have := h.1 rfl; omega
theorem Kn.start {ts : List Tb} {Z : Nat → Bool} {t : Tb} : Kn ts Z Z false 0 t 0 := ⟨fun e => (by cases e), fun _ => ⟨rfl, fun _ _ h => absurd h (Nat.not_lt_zero _), fun _ h => absurd h (Nat.not_lt_zero _)⟩⟩
theorem Kn.next {ts : List Tb} {Z S : Nat → Bool} {ag : Bool} {i : Nat} {t t' : Tb} (h : Kn ts Z S ag i t (2 ^ (4 * t.n))) (ht : ts[i]? = some t) : Kn ts Z S ag (i + 1) t' 0 := by
  refine ⟨h.1, fun e => ?_⟩
  obtain ⟨h1, h2, h3⟩ := h.2 e
  refine ⟨h1, fun j u hj hu => ?_, fun _ h => absurd h (Nat.not_lt_zero _)⟩
  by_cases e' : j = i
  · subst e'
    rw [ht] at hu
    rw [← Option.some.inj hu]
    exact h3
  · exact h2 j u (by omega) hu
theorem Kn.zero {ts : List Tb} {Z S : Nat → Bool} {ag : Bool} {i : Nat} {t t' : Tb} (h : Kn ts Z S ag i t 0) : Kn ts Z S ag i t' 0 := ⟨h.1, fun e => ⟨(h.2 e).1, (h.2 e).2.1, fun _ h => absurd h (Nat.not_lt_zero _)⟩⟩

theorem MkI.start (w : World) (ts : List Tb) : MkI w ts S0 (w.alloc (.cells #[.bool false, .bool false, .bool false, .bool false, .bool false, .bool false, .bool false, .bool false, .bool false, .bool false, .bool true, .bool false, .bool true, .bool false, .bool false, .bool false] 74 (0, 0))) := by
  refine ⟨below_more (Below.refl _ w) _, ⟨_, blk_new _ _, fun i hi => ?_⟩, fun i _ hs => ?_, rfl, rfl⟩
  · rcases (by omega : i = 0 ∨ i = 1 ∨ i = 2 ∨ i = 3 ∨ i = 4 ∨ i = 5 ∨ i = 6 ∨ i = 7 ∨ i = 8 ∨ i = 9 ∨ i = 10 ∨ i = 11 ∨ i = 12 ∨ i = 13 ∨ i = 14 ∨ i = 15) with rfl | rfl | rfl | rfl | rfl | rfl | rfl | rfl | rfl | rfl | rfl | rfl | rfl | rfl | rfl | rfl <;> rfl
  · unfold S0 at hs
    simp only [Bool.or_eq_true, decide_eq_true_eq] at hs
    rcases hs with rfl | rfl
    · exact Gen.x
    · exact Gen.y

/-- What comes out. -/
theorem made_all {ts : List Tb} (hok : ∀ t ∈ ts, t.Ok) {S : Nat → Bool} (h1 : ∀ i, i < 16 → S i = true → Gen ts i) (h2 : S 10 = true) (h3 : S 12 = true) (hc : ∀ t ∈ ts, closedT t S) : (∀ i, i < 16 → S i = true) ↔ compC ts 5 = true := by
  rw [post hok]
  exact ⟨fun h i hi => h1 i hi (h i hi), fun h i hi => gen_in h2 h3 hc (h i hi)⟩

set_option maxRecDepth 10000 in
set_option maxHeartbeats 8000000 in
theorem makes_any (ts : List Tb) (hok : ∀ t ∈ ts, t.Ok) (v : Value) (w : World) (hv : TQ w v (raws ts)) :
    Calls Try.prog 12 #[v] w fun e w' => e = .returned (.bool (compC ts 5)) ∧ Below w.heap.size w w' := by
  obtain ⟨ad, cap, rfl, h1, h2, h3⟩ := hv.at
  have hlI : (ts.length : Int) ≤ 9223372036854775807 := by unfold maxLen at h2; omega
  have H3 : Hid (ts ≠ [] → ∃ g off, ad = some ⟨g, off, none⟩ ∧ ∀ (j : Nat) (t : Tb), ts[j]? = some t → ∃ adB cpB, w.cell? ⟨g, off + j * 2, none⟩ = some (.int .i64 (t.n : Nat)) ∧ w.cell? ⟨g, off + j * 2 + 1, none⟩ = some (.slice adB t.bits.length cpB) ∧ TR w t (.agg #[.int .i64 (t.n : Nat), .slice adB t.bits.length cpB])) := h3
  have HOk : Hid (∀ t ∈ ts, t.Ok) := hok
  have HMA : Hid (∀ S : Nat → Bool, (∀ i, i < 16 → S i = true → Gen ts i) → S 10 = true → S 12 = true → (∀ t ∈ ts, closedT t S) → ((∀ i, i < 16 → S i = true) ↔ compC ts 5 = true)) := fun S a b c d => made_all hok a b c d
  generalize compC ts 5 = res at *
  clear h3 hok hv
  go_enter Try.func12, Try.ntmps12
  go_wp2_with fail
  have HI0 : Hid (MkI w ts S0 (w.alloc (.cells #[.bool false, .bool false, .bool false, .bool false, .bool false, .bool false, .bool false, .bool false, .bool false, .bool false, .bool true, .bool false, .bool true, .bool false, .bool false, .bool false] 74 (0, 0)))) := MkI.start w ts
  generalize w.alloc _ = W at *
  go_loopg [4] 15 (fun g c wr => ∃ S ag, g = (if ag then miss S + 1 else 0) ∧ c = .bool ag ∧ Hid (MkI w ts S wr) ∧ Hid (ag = false → ∀ t ∈ ts, closedT t S))
  case atStart => exact ⟨S0, true, by decide, rfl, HI0, fun h => by cases h⟩
  case round =>
    obtain ⟨Z, ag, hg, rfl, HI, HC⟩ := hrel
    have HG : Hid (gk = if ag then miss Z + 1 else 0) := hg
    clear hg HI0
    cases ag
    · have HAll : Hid ((∀ i, i < 16 → Z i = true) ↔ res = true) := HMA.out Z HI.out.2.2.1 HI.out.2.2.2.1 HI.out.2.2.2.2 (HC.out rfl)
      clear HC HMA H3 HOk
      go_wp2_with fail
      go_loopg [11] 16 (fun g c wr => ∃ i, i ≤ 16 ∧ g = 16 - i ∧ c = .int .i64 (i : Nat) ∧ Hid (MkI w ts Z wr) ∧ Hid (∀ j, j < i → Z j = true))
      case atStart => exact ⟨0, by omega, by omega, rfl, HI, fun j h => absurd h (Nat.not_lt_zero _)⟩
      case round =>
        obtain ⟨i, hi, hg2, rfl, HI2, HN⟩ := hrel
        have HG2 : Hid (gk = 16 - i) := hg2
        clear hg2 HG
        by_cases hlt : i < 16
        · have c0 := HI2.out.2.1.cell hlt
          have hiI : (i : Int) < 16 := by omega
          have HZ : Hid (Z i = false → res = false) := fun hz => by
            cases hr : res
            · rfl
            · have := HAll.out.2 hr i hlt
              rw [hz] at this
              cases this
          have HZ2 : Hid (Z i = true → ∀ j, j < i + 1 → Z j = true) := fun hz j hj => by
            by_cases e : j = i
            · rw [e]; exact hz
            · exact HN.out j (by omega)
          have BZ := HI2.out.1
          generalize Z i = zz at *
          cases zz
          · have HR : Hid (res = false) := HZ.out (by first | rfl | trivial)
            clear HZ HZ2
            go_wp2_with fail
            go_ret
            exact ⟨by rw [HR.out]; rfl, BZ⟩
          · have HR : Hid (∀ j, j < i + 1 → Z j = true) := HZ2.out (by first | rfl | trivial)
            clear HZ HZ2
            go_wp2_with fail
            go_roundg (16 - (i + 1))
            case measure => have := HG2.out; omega
            case rel => exact ⟨i + 1, by omega, rfl, by go_num, HI2, HR⟩
        · have HR : Hid (res = true) := HAll.out.1 fun j hj => HN.out j (by omega)
          have BZ := HI2.out.1
          have hiJ : ¬ (i : Int) < 16 := by omega
          go_wp2_with fail
          go_ret
          exact ⟨by rw [HR.out]; rfl, BZ⟩
    · clear HC
      go_wp2_with fail
      go_loopg [5, 4] ts.length (fun g c a wr => ∃ i S ag, i ≤ ts.length ∧ g = ts.length - i ∧ c = .int .i64 (i : Nat) ∧ a = .bool ag ∧ Hid (MkI w ts S wr) ∧ Hid (Kn ts Z S ag i ⟨0, []⟩ 0))
      case atStart => exact ⟨0, Z, false, by omega, by omega, rfl, rfl, HI, Kn.start⟩
      case round =>
        obtain ⟨i, S, ag, hi, hg2, rfl, rfl, HI2, HK⟩ := hrel
        have HG2 : Hid (gk = ts.length - i) := hg2
        clear hg2 HI
        by_cases hlt : i < ts.length
        · obtain ⟨t, ht⟩ : ∃ x, ts[i]? = some x := ⟨_, List.getElem?_eq_getElem hlt⟩
          obtain ⟨g, off, rfl, hc⟩ := H3.out (fun e => by rw [e] at hlt; simp at hlt)
          obtain ⟨adB, cpB, c0, c1, htr⟩ := hc i t ht
          have HCells : Hid (w.cell? ⟨g, off + i * 2, none⟩ = some (.int .i64 (t.n : Nat)) ∧ w.cell? ⟨g, off + i * 2 + 1, none⟩ = some (.slice adB t.bits.length cpB) ∧ TR w t (.agg #[.int .i64 (t.n : Nat), .slice adB t.bits.length cpB]) ∧ g < w.heap.size) := ⟨c0, c1, htr, lt_of_cell c0⟩
          have g0 := (HI2.out.1.cell (p := ⟨g, off + i * 2, none⟩) (lt_of_cell c0)).trans c0
          have HtOk : Hid t.Ok := HOk.out t (List.mem_of_getElem? ht)
          have HMem : Hid (ts[i]? = some t) := ht
          have hn4 : t.n ≤ 4 := HtOk.out.1
          obtain ⟨C, hC, hmk⟩ := make_ints t.n (by omega)
          have hltI : (i : Int) < (ts.length : Int) := by omega
          have hlc : (i : Int) < (cap : Int) := by omega
          clear hc ht c0 c1 htr
          go_wp2_with fail
          have HI3 : Hid (MkI w ts S (wr.alloc (.cells C 3 (0, 0)))) := HI2.out.up ((Below.refl _ wr).alloc (Nat.le_refl _) _)
          have qA : Hid ((wr.alloc (.cells C 3 (0, 0))).heap[wr.heap.size]? = some (.cells C 3 (0, 0))) := blk_new _ _
          have hgA : w.heap.size < wr.heap.size := HI2.out.2.1.lt
          have HKs : Hid (Kn ts Z S ag i t 0) := HK.out.zero
          obtain ⟨hsh, hpw⟩ := shl_arg t.n hn4
          have HSh : Hid (wrap64 ((2 : Int) ^ (4 * t.n)) = ((2 ^ (4 * t.n) : Nat) : Int) ∧ 2 ^ (4 * t.n) ≤ 65536) := ⟨hsh, hpw⟩
          clear HI2 g0 hmk HK hsh hpw
          generalize wr.alloc _ = W1 at *
          generalize wr.heap.size = gA at *
          go_loopg [7, 4] (2 ^ (4 * t.n)) (fun g c a wr => ∃ k S ag A, k ≤ 2 ^ (4 * t.n) ∧ g = 2 ^ (4 * t.n) - k ∧ c = .int .i64 (k : Nat) ∧ a = .bool ag ∧ Hid (MkI w ts S wr) ∧ wr.heap[gA]? = some (.cells A 3 (0, 0)) ∧ A.size = t.n ∧ Hid (Kn ts Z S ag i t k))
          case atStart => exact ⟨0, S, ag, C, Nat.zero_le _, rfl, rfl, rfl, HI3, qA.out, hC, HKs⟩
          case round =>
            clear HI3 qA HKs hC C S ag
            obtain ⟨k, S, ag, A, hk, hg3, rfl, rfl, HI3, qA, hA, HK⟩ := hrel
            have HG3 : Hid (gk = 2 ^ (4 * t.n) - k ∧ k ≤ 2 ^ (4 * t.n)) := ⟨hg3, hk⟩
            clear hg3 hk
            have g0 := (HI3.out.1.cell (p := ⟨g, off + i * 2, none⟩) HCells.out.2.2.2).trans HCells.out.1
            by_cases hkl : k < 2 ^ (4 * t.n)
            · have hkI : (k : Int) < wrap64 ((2 : Int) ^ (4 * t.n)) := by rw [HSh.out.1]; exact Int.ofNat_lt.2 hkl
              have hk65 : (k : Int) ≤ 65536 := by have := HSh.out.2; omega
              go_wp2_with fail
              clear hkI
              go_loopg [9, 8] t.n (fun g c f wr => ∃ j A, j ≤ t.n ∧ g = t.n - j ∧ c = .int .i64 (j : Nat) ∧ f = .bool (fineTo S k j) ∧ Hid (MkI w ts S wr) ∧ wr.heap[gA]? = some (.cells A 3 (0, 0)) ∧ A.size = t.n ∧ Hid (∀ m, m < j → A[m]? = some (.int .i64 (dig k m : Nat))))
              case atStart => exact ⟨0, A, by omega, by omega, rfl, rfl, HI3, qA, hA, fun m h => absurd h (Nat.not_lt_zero _)⟩
              case round =>
                clear HI3 qA hA A g0
                obtain ⟨j, A, hj, hg4, rfl, rfl, HI4, qA, hA, HD⟩ := hrel
                have HG4 : Hid (gk = t.n - j) := hg4
                clear hg4
                have g0 := (HI4.out.1.cell (p := ⟨g, off + i * 2, none⟩) HCells.out.2.2.2).trans HCells.out.1
                have d1 : ¬ gA = w.heap.size := by omega
                have d2 : ¬ w.heap.size = gA := by omega
                have hgg : ¬ gA = g := by have := HCells.out.2.2.2; omega
                by_cases hjn : j < t.n
                · have hjI : (j : Int) < (t.n : Int) := by omega
                  have hj4 : j < 4 := by omega
                  have hdg := dig_bits k j (by have := HSh.out.2; omega)
                  have hd16 := dig_lt k j
                  have c0 := HI4.out.2.1.cell hd16
                  have e0 := blk_cell qA j
                  have e1 := blk_fz qA j
                  rw [Array.getElem?_eq_getElem (by omega)] at e0
                  generalize A[j] = old at e0
                  have HF : Hid (fineTo S k (j + 1) = (fineTo S k j && S (dig k j))) := fineTo_succ S k j
                  have HI5 : Hid (MkI w ts S (wr.setCell ⟨gA, j, none⟩ (.int .i64 (dig k j : Nat)))) := HI4.out.set hgA j _
                  have q5 := set_cell (j := j) qA (.int .i64 (dig k j : Nat))
                  have HQ5 : Hid _ := q5
                  have HD5 : Hid (∀ m, m < j + 1 → (A.setIfInBounds j (.int .i64 (dig k j : Nat)))[m]? = some (.int .i64 (dig k m : Nat))) := fun m hm => by
                    by_cases e : m = j
                    · subst e; rw [Array.getElem?_setIfInBounds_self_of_lt (by omega)]
                    · rw [Array.getElem?_setIfInBounds_ne (by omega)]
                      exact HD.out m (by omega)
                  have hA5 : (A.setIfInBounds j (.int .i64 (dig k j : Nat))).size = t.n := by simp [hA]
                  generalize A.setIfInBounds j (.int .i64 (dig k j : Nat)) = A5 at *
                  generalize S (dig k j) = bd at *
                  generalize hdd : dig k j = dd at *
                  generalize fineTo S k j = bf at *
                  have hdI : (dd : Int) < 16 := by omega
                  clear q5 HD
                  cases bf
                  · have HF' : Hid (fineTo S k (j + 1) = false) := by
                      show _ = _
                      rw [HF.out]; rfl
                    clear HF
                    go_wp2_with fail
                    go_roundg (t.n - (j + 1))
                    case measure => have := HG4.out; omega
                    case rel => exact ⟨j + 1, A5, by omega, rfl, by go_num, by rw [HF'.out], HI5, HQ5.out, hA5, HD5⟩
                  · have HF' : Hid (fineTo S k (j + 1) = bd) := by
                      show _ = _
                      rw [HF.out]; rfl
                    clear HF
                    go_wp2_with fail
                    go_roundg (t.n - (j + 1))
                    case measure => have := HG4.out; omega
                    case rel => exact ⟨j + 1, A5, by omega, rfl, by go_num, by rw [HF'.out], HI5, HQ5.out, hA5, HD5⟩
                · have hjn' : j = t.n := by omega
                  rw [hjn'] at HD ⊢
                  have hjJ : ¬ (t.n : Int) < (t.n : Int) := by omega
                  have g1 := (HI4.out.1.cell (p := ⟨g, off + i * 2 + 1, none⟩) HCells.out.2.2.2).trans HCells.out.2.1
                  have HPu : Hid (Calls Try.prog 39 #[.agg #[.int .i64 (t.n : Nat), .slice adB t.bits.length cpB], .slice (some ⟨gA, 0, none⟩) t.n t.n] wr fun e w' => e = .returned (.int .i64 (putT t (argN (digs t.n k)) : Nat)) ∧ Below wr.heap.size wr w') := by
                    refine put_walk t HtOk.out (digs t.n k) (digs_len _ _) (fun x hx => ?_) _ _ wr (HCells.out.2.2.1.up HI4.out.1) ⟨some ⟨gA, 0, none⟩, t.n, by rw [digs_len], by rw [digs_len]; exact Nat.le_refl _, by unfold maxLen; omega, fun _ => ⟨gA, 0, rfl, fun m x hx => ?_⟩⟩
                    · unfold digs at hx
                      obtain ⟨m, -, rfl⟩ := List.mem_map.1 hx
                      exact dig_lt k m
                    · have hm : m < t.n := by
                        rcases Nat.lt_or_ge m t.n with h' | h'
                        · exact h'
                        · rw [List.getElem?_eq_none (by rw [digs_len]; exact h')] at hx; cases hx
                      rw [digs_get hm] at hx
                      rw [← Option.some.inj hx, Nat.zero_add, blk_cell qA]
                      exact HD.out m hm
                  have hput : putT t (argN (digs t.n k)) < 16 := idx_lt 4 _
                  have HGe : Hid (fineTo S k t.n = true → Gen ts (putT t (argN (digs t.n k)))) := fun hf => by
                    refine Gen.app t (List.mem_of_getElem? HMem.out) _ fun m hm => ?_
                    have : argN (digs t.n k) m = dig k m := by
                      unfold argN
                      rw [List.getD_eq_getElem?_getD, digs_get hm]; rfl
                    rw [this]
                    exact HI4.out.2.2.1 _ (dig_lt k m) (fineTo_all hf m hm)
                  have HSk : Hid (fineTo S k t.n = false → Kn ts Z S ag i t (k + 1)) := fun hf => HK.out.skip fun e hall => absurd (by rw [e]; exact hall) (fineTo_no hf)
                  have HSk2 : Hid (S (putT t (argN (digs t.n k))) = true → Kn ts Z S ag i t (k + 1)) := fun hf => HK.out.skip fun e _ => by rw [← e]; exact hf
                  have HAd : Hid (S (putT t (argN (digs t.n k))) = false → Kn ts Z (addS S (putT t (argN (digs t.n k)))) true i t (k + 1)) := fun hf => HK.out.add hput hf
                  have c0 := HI4.out.2.1.cell hput
                  generalize fineTo S k t.n = bf at *
                  generalize putT t (argN (digs t.n k)) = f at *
                  clear HD HK hjn' HG4
                  cases bf
                  · have HK2 : Hid (Kn ts Z S ag i t (k + 1)) := HSk.out (by first | rfl | trivial)
                    clear HSk HSk2 HAd HPu HGe c0
                    go_wp2_with fail
                    go_roundg (2 ^ (4 * t.n) - (k + 1))
                    case measure => have := HG3.out; omega
                    case rel => exact ⟨k + 1, S, ag, A, by omega, rfl, by go_num, rfl, HI4, qA, hA, HK2⟩
                  · have HGf : Hid (Gen ts f) := HGe.out (by first | rfl | trivial)
                    clear HSk HGe c0
                    go_wp2_with fail
                    refine HPu.out.mono ?_
                    rintro e w5 ⟨rfl, hb5⟩
                    have HI5 : Hid (MkI w ts S w5) := HI4.out.up hb5
                    have q5 : Hid _ := below_keep hb5 qA
                    have c0 := HI5.out.2.1.cell hput
                    have c1 := HI5.out.2.1.frozen f
                    have hfI : (f : Int) < 16 := by omega
                    cases hs : S f
                    · have HK2 : Hid (Kn ts Z (addS S f) true i t (k + 1)) := HAd.out hs
                      have HI6 : Hid (MkI w ts (addS S f) (w5.setCell ⟨w.heap.size, f, none⟩ (.bool true))) := HI5.out.put hput HGf.out
                      have HQ6 : Hid ((w5.setCell ⟨w.heap.size, f, none⟩ (.bool true)).heap[gA]? = some (.cells A 3 (0, 0))) := (Below.heap_setCell _ _ _ _ (by simpa using d1)).trans q5.out
                      rw [hs] at c0
                      clear HSk2 HAd hs
                      go_wp2_with fail
                      go_roundg (2 ^ (4 * t.n) - (k + 1))
                      case measure => have := HG3.out; omega
                      case rel => exact ⟨k + 1, _, true, A, by omega, rfl, by go_num, rfl, HI6, HQ6.out, hA, HK2⟩
                    · have HK2 : Hid (Kn ts Z S ag i t (k + 1)) := HSk2.out hs
                      rw [hs] at c0
                      clear HSk2 HAd hs
                      go_wp2_with fail
                      go_roundg (2 ^ (4 * t.n) - (k + 1))
                      case measure => have := HG3.out; omega
                      case rel => exact ⟨k + 1, S, ag, A, by omega, rfl, by go_num, rfl, HI5, q5.out, hA, HK2⟩
            · have hkI : ¬ (k : Int) < wrap64 ((2 : Int) ^ (4 * t.n)) := by rw [HSh.out.1]; exact fun h => hkl (Int.ofNat_lt.1 h)
              have HK2 : Hid (Kn ts Z S ag (i + 1) ⟨0, []⟩ 0) := by
                have hke : k = 2 ^ (4 * t.n) := by have := HG3.out; omega
                have := HK.out
                rw [hke] at this
                exact this.next HMem.out
              clear HK
              go_wp2_with fail
              go_roundg (ts.length - (i + 1))
              case measure => have := HG2.out; omega
              case rel => exact ⟨i + 1, S, ag, by omega, rfl, by go_num, rfl, HI3, HK2⟩
        · have hiJ : ¬ (i : Int) < (ts.length : Int) := by omega
          have HCl : Hid (ag = false → ∀ t ∈ ts, closedT t S) := fun e t ht => by
            obtain ⟨h1, h2, -⟩ := HK.out.2 e
            obtain ⟨j, hj, he⟩ := List.getElem_of_mem ht
            rw [h1]
            exact h2 j t (by omega) (by rw [List.getElem?_eq_getElem hj, he])
          have HMs : Hid (ag = true → miss S < miss Z) := HK.out.1
          clear HK H3
          cases ag
          · have HC2 : Hid (∀ t ∈ ts, closedT t S) := HCl.out rfl
            clear HCl HMs
            go_wp2_with fail
            go_roundg 0
            case measure => have := HG.out; simp at this; omega
            case rel => exact ⟨S, false, rfl, rfl, HI2, fun _ => HC2.out⟩
          · have HM2 : Hid (miss S < miss Z) := HMs.out rfl
            clear HCl HMs
            go_wp2_with fail
            go_roundg (miss S + 1)
            case measure => have := HG.out; have h2 := HM2.out; simp at this; omega
            case rel => exact ⟨S, true, rfl, rfl, HI2, fun h => by cases h⟩
end Go.Proofs.Ytknngeojhiejnab
/- Walks: the yardstick's TableFault. -/
namespace Go.Proofs.Ytknngeojhiejnab
open Go.RowKit

set_option maxHeartbeats 4000000 in
theorem tableFaultR_any (ts : List (Int × List Bool)) (v : Value) (w : World) (hv : TQ w v ts) :
    Calls Try.prog 9 #[v] w fun e w' => e = .returned (.agg #[.int .i64 (tcode ts).1, .int .i64 (tcode ts).2]) ∧ Below w.heap.size w w' := by
  obtain ⟨ad, cap, rfl, h1, h2, h3⟩ := hv
  have H3 : Hid (ts ≠ [] → ∃ g off, ad = some ⟨g, off, none⟩ ∧ ∀ (j : Nat) (t : Int × List Bool), ts[j]? = some t → ∃ adB cpB, w.cell? ⟨g, off + j * 2, none⟩ = some (.int .i64 t.1) ∧ w.cell? ⟨g, off + j * 2 + 1, none⟩ = some (.slice adB t.2.length cpB) ∧ BL w (.slice adB t.2.length cpB) t.2) := h3
  have HT : Hid (tcode ts = if 20 < ts.length then (2, 0) else tfirst ts 0) := rfl
  generalize tcode ts = tc at *
  have q0 := blk_new w (.cells #[.int .i64 0, .int .i64 0] 25 (0, 0))
  have B0 := below_more (Below.refl _ w) (.cells #[.int .i64 0, .int .i64 0] 25 (0, 0))
  have HFc : Hid (∀ c a w, Calls Try.prog 16 #[.int .i64 c, .int .i64 a] w _) := fun c a w => mkF_any c a w
  clear h3
  by_cases h20 : 20 < ts.length
  · have h20I : (20 : Int) < (ts.length : Int) := by omega
    have HE : Hid (tc = (2, 0)) := by
      have := HT.out
      rwa [if_pos h20] at this
    go_enter Try.func9, Try.ntmps9
    go_wp2_with fail
    refine (HFc.out _ _ _).mono ?_
    rintro e w1 ⟨rfl, hb1⟩
    have q1 := below_keep hb1 q0
    have B1 := below_join B0 hb1
    obtain ⟨k1, k2, k3, k4⟩ := blk2 q1
    have f2 := set2 q1 (.int .i64 2) (.int .i64 0)
    have b2 := (B1.setCell (p := ⟨w.heap.size, 0, none⟩) (by simp) (.int .i64 2)).setCell (p := ⟨w.heap.size, 1, none⟩) (by simp) (.int .i64 0)
    go_wp2_with fail
    generalize World.setCell _ _ _ = F at f2 b2 ⊢
    clear k1 k2 k3 k4
    obtain ⟨k1, k2, -⟩ := blk2 f2
    exact bodyPost_ret (v := .agg #[.int .i64 2, .int .i64 0]) (by simp [results, Try.results9, go_sem, k1, k2]) rfl ⟨by rw [HE.out], b2⟩
  · have h20I : ¬ (20 : Int) < (ts.length : Int) := by omega
    have hlI : (ts.length : Int) ≤ 20 := by omega
    have HE : Hid (tc = tfirst ts 0) := by
      have := HT.out
      rwa [if_neg h20] at this
    clear HT h20
    go_enter Try.func9, Try.ntmps9
    go_wp2_with fail
    go_loopg [3] ts.length (fun gk c wr => ∃ i, i ≤ ts.length ∧ gk = ts.length - i ∧ c = .int .i64 (i : Nat) ∧ Below w.heap.size w wr ∧ wr.heap[w.heap.size]? = some (.cells #[.int .i64 0, .int .i64 0] 25 (0, 0)) ∧ Hid (tfirst ts 0 = tfirst (ts.drop i) i))
    case atStart => exact ⟨0, by omega, by omega, rfl, B0, q0, by show _ = _; rfl⟩
    case round =>
      obtain ⟨i, hi, hg, rfl, hbr, q1, HW⟩ := hrel
      have HG : Hid (gk = ts.length - i) := hg
      clear hg
      have z1 := lt_of_block q1
      by_cases hlt : i < ts.length
      · obtain ⟨⟨N, bs⟩, ht⟩ : ∃ x, ts[i]? = some x := ⟨_, List.getElem?_eq_getElem hlt⟩
        obtain ⟨g, off, rfl, hc⟩ := H3.out (fun e => by rw [e] at hlt; simp at hlt)
        obtain ⟨adB, cpB, c0, c1, hbl⟩ := hc i _ ht
        have g0 := (hbr.cell (p := ⟨g, off + i * 2, none⟩) (lt_of_cell c0)).trans c0
        have g1 := (hbr.cell (p := ⟨g, off + i * 2 + 1, none⟩) (lt_of_cell c1)).trans c1
        have hbm : (bs.length : Int) ≤ 9223372036854775807 := by
          obtain ⟨_, _, hx, hx1, hx2, -⟩ := hbl
          simp only [Value.slice.injEq, true_and] at hx
          have hx1' : bs.length ≤ _ := hx1
          unfold maxLen at hx2; omega
        have HDr := HW.out
        rw [tfirst_drop ht] at HDr
        simp only at g0 g1
        have hltI : (i : Int) < (ts.length : Int) := by omega
        have hlc : (i : Int) < (cap : Int) := by omega
        have d1 : ¬ w.heap.size = wr.heap.size := by omega
        have d2 : ¬ wr.heap.size = w.heap.size := by omega
        obtain ⟨k1, k2, k3, k4⟩ := blk2 q1
        clear hc ht H3 HW hbl c0 c1
        by_cases hr : N < 0 ∨ 4 < N
        · have hb : tbad (N, bs) = 3 := if_pos hr
          rw [hb] at HDr
          have HF : Hid (tc = (3, ((i : Nat) : Int))) := by
            show _ = _
            rw [HE.out, HDr]; rfl
          clear HDr hb HE
          rcases hr with hr | hr
          case' inr => have hr' : ¬ N < 0 := by omega
          all_goals
            go_wp2_with fail
            refine (HFc.out _ _ _).mono ?_
            rintro e w1 ⟨rfl, hb1⟩
            have q2 := below_keep hb1 q1
            have B1 := below_join hbr hb1
            clear k1 k2 k3 k4
            obtain ⟨k1, k2, k3, k4⟩ := blk2 q2
            have f2 := set2 q2 (.int .i64 3) (.int .i64 (i : Nat))
            have b2 := (B1.setCell (p := ⟨w.heap.size, 0, none⟩) (by simp) (.int .i64 3)).setCell (p := ⟨w.heap.size, 1, none⟩) (by simp) (.int .i64 (i : Nat))
            go_wp2_with fail
            generalize World.setCell _ _ _ = F at f2 b2 ⊢
            clear k1 k2 k3 k4
            obtain ⟨k1, k2, -⟩ := blk2 f2
            exact bodyPost_ret (v := .agg #[.int .i64 3, .int .i64 (i : Nat)]) (by simp [results, Try.results9, go_sem, k1, k2]) rfl ⟨by rw [HF.out], b2⟩
        · obtain ⟨n, rfl⟩ : ∃ n : Nat, N = (n : Int) := ⟨N.toNat, by omega⟩
          have hn4 : n ≤ 4 := by omega
          have hnI : (n : Int) ≤ 4 := by omega
          have hw := (shl_row n (by omega)).1
          have hb : tbad ((n : Int), bs) = if (bs.length : Int) ≠ ((2 ^ n : Nat) : Int) then 9 else 0 := by
            unfold tbad
            rw [if_neg hr]
            simp
          rw [hb] at HDr
          generalize 2 ^ n = P at *
          clear hr hb
          by_cases hP : (bs.length : Int) = (P : Int)
          · have HF : Hid (tfirst ts 0 = tfirst (ts.drop (i + 1)) (i + 1)) := by
              show _ = _
              rw [HDr]; simp [hP]
            have hPe : ((bs.length : Int) != (P : Int)) = false := by simp [hP]
            have hPe2 : ((bs.length : Int) == (P : Int)) = true := by simp [hP]
            clear HDr hP
            go_wp2_with fail
            go_quiet (fail)
            go_wp2_with fail
            go_roundg (ts.length - (i + 1))
            case measure => have := HG.out; omega
            case rel => exact ⟨i + 1, by omega, rfl, by go_num, below_same hbr _, q1, HF⟩
          · have HF : Hid (tc = (9, ((i : Nat) : Int))) := by
              show _ = _
              rw [HE.out, HDr]; simp [hP]
            have hPe : ((bs.length : Int) != (P : Int)) = true := by simp [hP]
            have hPe2 : ((bs.length : Int) == (P : Int)) = false := by simp [hP]
            clear HDr hP HE
            go_wp2_with fail
            go_quiet (fail)
            go_wp2_with fail
            refine (HFc.out _ _ _).mono ?_
            rintro e w1 ⟨rfl, hb1⟩
            have q2 := below_keep hb1 (show (wr.drewN nq).heap[w.heap.size]? = _ from q1)
            have B1 := below_join (below_same hbr nq) hb1
            clear k1 k2 k3 k4
            obtain ⟨k1, k2, k3, k4⟩ := blk2 q2
            have f2 := set2 q2 (.int .i64 9) (.int .i64 (i : Nat))
            have b2 := (B1.setCell (p := ⟨w.heap.size, 0, none⟩) (by simp) (.int .i64 9)).setCell (p := ⟨w.heap.size, 1, none⟩) (by simp) (.int .i64 (i : Nat))
            go_wp2_with fail
            generalize World.setCell _ _ _ = F at f2 b2 ⊢
            clear k1 k2 k3 k4
            obtain ⟨k1, k2, -⟩ := blk2 f2
            exact bodyPost_ret (v := .agg #[.int .i64 9, .int .i64 (i : Nat)]) (by simp [results, Try.results9, go_sem, k1, k2]) rfl ⟨by rw [HF.out], b2⟩
      · have HF : Hid (tc = (0, 0)) := by
          show _ = _
          rw [HE.out, HW.out, List.drop_of_length_le (by omega), tfirst]
        have hge : ¬ (i : Int) < (ts.length : Int) := by omega
        have f2 := set2 q1 (.int .i64 0) (.int .i64 0)
        have b2 := (hbr.setCell (p := ⟨w.heap.size, 0, none⟩) (by simp) (.int .i64 0)).setCell (p := ⟨w.heap.size, 1, none⟩) (by simp) (.int .i64 0)
        obtain ⟨k1, k2, k3, k4⟩ := blk2 q1
        clear HW H3 HE
        go_wp2_with fail
        generalize World.setCell _ _ _ = F at f2 b2 ⊢
        clear k1 k2 k3 k4
        obtain ⟨k1, k2, -⟩ := blk2 f2
        exact bodyPost_ret (v := .agg #[.int .i64 0, .int .i64 0]) (by simp [results, Try.results9, go_sem, k1, k2]) rfl ⟨by rw [HF.out], b2⟩
end Go.Proofs.Ytknngeojhiejnab
