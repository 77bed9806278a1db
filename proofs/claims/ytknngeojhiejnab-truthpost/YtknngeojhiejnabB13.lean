/- Texts of one proof, one behind the other: TP10, Open3. -/
import Derived.Test.YtknngeojhiejnabB12
/- Walks: TruthPost. -/
namespace Go.Proofs.Ytknngeojhiejnab
open Go.RowKit

theorem tfirst_zero : ∀ (ts : List (Int × List Bool)) (i : Nat), (tfirst ts i).1 = 0 → ∀ t ∈ ts, tbad t = 0
  | [], _, _, t, ht => by cases ht
  | u :: ts, i, h, t, ht => by
    rw [tfirst] at h
    by_cases hb : tbad u = 0
    · rw [if_pos hb] at h
      rcases List.mem_cons.1 ht with rfl | ht
      · exact hb
      · exact tfirst_zero ts (i + 1) h t ht
    · rw [if_neg hb] at h
      exact absurd h hb
theorem tables_of : ∀ (ts : List (Int × List Bool)), (∀ t ∈ ts, tbad t = 0) → ∃ us : List Tb, ts = raws us ∧ ∀ t ∈ us, t.Ok
  | [], _ => ⟨[], rfl, fun t h => by cases h⟩
  | t :: ts, h => by
    obtain ⟨us, rfl, hok⟩ := tables_of ts fun u hu => h u (List.mem_cons_of_mem _ hu)
    have hb := h t List.mem_cons_self
    unfold tbad at hb
    have h1 : ¬ (t.1 < 0 ∨ 4 < t.1) := fun e => by rw [if_pos e] at hb; cases hb
    rw [if_neg h1] at hb
    have h2 : (t.2.length : Int) = ((2 ^ t.1.toNat : Nat) : Int) := by
      apply Classical.byContradiction
      intro e
      rw [if_pos e] at hb
      cases hb
    refine ⟨⟨t.1.toNat, t.2⟩ :: us, ?_, fun u hu => ?_⟩
    · unfold raws
      rw [List.map_cons]
      congr 1
      apply Prod.ext
      · show t.1 = ((t.1.toNat : Nat) : Int)
        omega
      · rfl
    · rcases List.mem_cons.1 hu with rfl | hu
      · exact ⟨by show t.1.toNat ≤ 4; omega, Int.ofNat.inj h2⟩
      · exact hok u hu
theorem tcode_ok {ts : List (Int × List Bool)} (h : (tcode ts).1 = 0) : ∃ us : List Tb, ts = raws us ∧ us.length ≤ 20 ∧ ∀ t ∈ us, t.Ok := by
  unfold tcode at h
  by_cases h20 : 20 < ts.length
  · rw [if_pos h20] at h; cases h
  · rw [if_neg h20] at h
    obtain ⟨us, rfl, hok⟩ := tables_of ts (tfirst_zero ts 0 h)
    refine ⟨us, rfl, ?_, hok⟩
    unfold raws at h20
    rw [List.length_map] at h20
    omega
theorem tcode_raws {us : List Tb} (hl : us.length ≤ 20) (hok : ∀ t ∈ us, t.Ok) : tcode (raws us) = (0, 0) := by
  unfold tcode
  rw [if_neg (by simp [raws]; omega)]
  exact tfirst_ok us 0 hok

theorem eq_five (w : World) : (Op.equalIn 10000 23 (.agg #[.bool false, .bool false, .bool false, .bool false, .bool false]) (.agg #[.bool false, .bool false, .bool false, .bool false, .bool false])).run Try.prog w = .ok true w := by kernel_rfl

set_option maxRecDepth 10000 in
set_option maxHeartbeats 4000000 in
theorem post_bad (ts : List (Int × List Bool)) (c a : Int) (hc : c ≠ 0) (htc : tcode ts = (c, a)) (v : Value) (w : World) (hv : TQ w v ts) :
    Calls Try.prog 3 #[v] w fun e w' => e = .returned (.bool true) ∧ Below w.heap.size w w' := by
  have hco := fun v (w : World) h => complete_no ts c a hc htc v w h
  have htf := fun v (w : World) h => tableFaultR_any ts v w h
  rw [htc] at htf
  have hne' : (c != 0) = true := by simpa using hc
  have HCo : Hid (∀ v w, TQ w v ts → Calls Try.prog 8 #[v] w _) := hco
  have HTf : Hid (∀ v w, TQ w v ts → Calls Try.prog 9 #[v] w _) := htf
  have HB : Hid (∀ w, Calls Try.prog 10 #[] w _) := fun w => truthBegun_any w
  have HV : Hid (TQ w v ts) := hv
  obtain ⟨ad, cap, rfl⟩ := hv.len
  clear hco htf htc hv hc
  go_enter Try.func3, Try.ntmps3
  go_wp2_with fail
  refine (HCo.out _ _ HV.out).mono ?_
  rintro e w1 ⟨rfl, hb1⟩
  have B1 := below_more (below_more (below_join (Below.refl _ w) hb1) (.cells #[.bool false, .bool false, .bool false, .bool false, .bool false] 23 (0, 0))) (.cells #[.int .i64 c, .int .i64 a] 25 (0, 0))
  have p0 := alloc_keep (blk_new w1 (.cells #[.bool false, .bool false, .bool false, .bool false, .bool false] 23 (0, 0))) (.cells #[.int .i64 c, .int .i64 a] 25 (0, 0))
  have p1 := blk_sec w1 (.cells #[.bool false, .bool false, .bool false, .bool false, .bool false] 23 (0, 0)) (.cells #[.int .i64 c, .int .i64 a] 25 (0, 0))
  go_wp2_with fail
  refine (HTf.out _ _ (HV.out.up B1)).mono ?_
  rintro e w2 ⟨rfl, hb2⟩
  have B2 := below_more (below_join B1 hb2) (.cells #[.int .i64 c, .int .i64 a] 25 (0, 0))
  have r0 := alloc_keep (below_keep hb2 p0) (.cells #[.int .i64 c, .int .i64 a] 25 (0, 0))
  have r1 := alloc_keep (below_keep hb2 p1) (.cells #[.int .i64 c, .int .i64 a] 25 (0, 0))
  have r2 := blk_new w2 (.cells #[.int .i64 c, .int .i64 a] 25 (0, 0))
  go_wp2_with fail
  refine (HB.out _).mono ?_
  rintro e w3 ⟨rfl, hb3⟩
  have B3 := below_join B2 hb3
  have t0 := below_keep hb3 r0
  have t1 := below_keep hb3 r1
  have t2 := below_keep hb3 r2
  obtain ⟨k1, k2, -⟩ := blk2 t1
  obtain ⟨k3, k4, -⟩ := blk2 t2
  have e0 := blk_cell t0 0
  have e1 := blk_cell t0 1
  have e2 := blk_cell t0 2
  have e3 := blk_cell t0 3
  have e4 := blk_cell t0 4
  simp at e0 e1 e2 e3 e4
  have hq5 := fun w => eq_five w
  go_wp2_with fail
  go_ret
  exact ⟨rfl, B3⟩

theorem allC_all (ts : List Tb) (i : Nat) : allC ts i = ts.all (clsT i) := by
  unfold allC
  rw [Bool.eq_iff_iff, Bool.not_eq_true', List.any_eq_false, List.all_eq_true]
  constructor
  · intro h t ht
    simpa using h t ht
  · intro h t ht
    simpa using h t ht
theorem allV_is (ts : List Tb) {j : Nat} (h : j < 5) : allV ts 5 j = .bool (allC ts j) := by
  unfold allV
  rw [decide_eq_true h, Bool.true_and]
theorem allC_cell {w : World} {b : Nat} {T : TypeId} {f : Nat → Bool} (h : w.heap[b]? = some (.cells #[.bool (f 0), .bool (f 1), .bool (f 2), .bool (f 3), .bool (f 4)] T (0, 0))) {i : Nat} (hi : i < 5) : w.cell? ⟨b, i, none⟩ = some (.bool (f i)) := by
  rw [blk_cell h]
  rcases (by omega : i = 0 ∨ i = 1 ∨ i = 2 ∨ i = 3 ∨ i = 4) with rfl | rfl | rfl | rfl | rfl <;> rfl

set_option maxRecDepth 10000 in
set_option maxHeartbeats 8000000 in
theorem post_good (ts : List Tb) (hl : ts.length ≤ 20) (hok : ∀ t ∈ ts, t.Ok) (v : Value) (w : World) (hv : TQ w v (raws ts)) :
    Calls Try.prog 3 #[v] w fun e w' => e = .returned (.bool true) ∧ Below w.heap.size w w' := by
  have hco := fun v (w : World) h => complete_yes ts hl hok v w h
  have htf := fun v (w : World) h => tableFaultR_any (raws ts) v w h
  rw [tcode_raws hl hok] at htf
  have hmk := fun v (w : World) h => makes_any ts hok v w h
  have hic := fun t (ht : t ∈ ts) i (hi : i < 5) v (w : World) h => inClass_any t (hok t ht) i hi v w h
  obtain ⟨C, hC⟩ : ∃ C, compC ts 5 = C := ⟨_, rfl⟩
  rw [hC] at hco hmk
  simp only [allV_is ts (show 0 < 5 by decide), allV_is ts (show 1 < 5 by decide), allV_is ts (show 2 < 5 by decide), allV_is ts (show 3 < 5 by decide), allV_is ts (show 4 < 5 by decide)] at hco
  have HAC : Hid (∀ i, allC ts i = ts.all (clsT i)) := allC_all ts
  generalize allC ts = fc at *
  have HCo : Hid (∀ v w, TQ w v (raws ts) → Calls Try.prog 8 #[v] w _) := hco
  have HTf : Hid (∀ v w, TQ w v (raws ts) → Calls Try.prog 9 #[v] w _) := htf
  have HMk : Hid (∀ v w, TQ w v (raws ts) → Calls Try.prog 12 #[v] w _) := hmk
  have HIc : Hid (∀ t, t ∈ ts → ∀ i, i < 5 → ∀ v w, TR w t v → Calls Try.prog 11 #[v, .int .i64 (i : Nat)] w fun e w' => e = .returned (.bool (clsT i t)) ∧ Below w.heap.size w w') := hic
  have HB : Hid (∀ w, Calls Try.prog 10 #[] w _) := fun w => truthBegun_any w
  have HV : Hid (TQ w v (raws ts)) := hv
  obtain ⟨ad, cap, rfl, h1, h2, h3⟩ := hv.at
  have H3 : Hid (ts ≠ [] → ∃ g off, ad = some ⟨g, off, none⟩ ∧ ∀ (j : Nat) (t : Tb), ts[j]? = some t → ∃ adB cpB, w.cell? ⟨g, off + j * 2, none⟩ = some (.int .i64 (t.n : Nat)) ∧ w.cell? ⟨g, off + j * 2 + 1, none⟩ = some (.slice adB t.bits.length cpB) ∧ TR w t (.agg #[.int .i64 (t.n : Nat), .slice adB t.bits.length cpB])) := h3
  have hlI : (ts.length : Int) ≤ 20 := by omega
  clear hco htf hmk hic hok hv h3 hC
  go_enter Try.func3, Try.ntmps3
  go_wp2_with fail
  refine (HCo.out _ _ HV.out).mono ?_
  rintro e w1 ⟨rfl, hb1⟩
  have B1 := below_more (below_more (below_join (Below.refl _ w) hb1) (.cells #[.bool (fc 0), .bool (fc 1), .bool (fc 2), .bool (fc 3), .bool (fc 4)] 23 (0, 0))) (.cells #[.int .i64 0, .int .i64 0] 25 (0, 0))
  have p0 := alloc_keep (blk_new w1 (.cells #[.bool (fc 0), .bool (fc 1), .bool (fc 2), .bool (fc 3), .bool (fc 4)] 23 (0, 0))) (.cells #[.int .i64 0, .int .i64 0] 25 (0, 0))
  have p1 := blk_sec w1 (.cells #[.bool (fc 0), .bool (fc 1), .bool (fc 2), .bool (fc 3), .bool (fc 4)] 23 (0, 0)) (.cells #[.int .i64 0, .int .i64 0] 25 (0, 0))
  have HP0 : Hid _ := p0
  clear p0
  go_wp2_with fail
  refine (HTf.out _ _ (HV.out.up B1)).mono ?_
  rintro e w2 ⟨rfl, hb2⟩
  have B2 := below_more (below_join B1 hb2) (.cells #[.int .i64 0, .int .i64 0] 25 (0, 0))
  have r0 : Hid _ := alloc_keep (below_keep hb2 HP0.out) (.cells #[.int .i64 0, .int .i64 0] 25 (0, 0))
  have r1 := alloc_keep (below_keep hb2 p1) (.cells #[.int .i64 0, .int .i64 0] 25 (0, 0))
  have r2 := blk_new w2 (.cells #[.int .i64 0, .int .i64 0] 25 (0, 0))
  go_wp2_with fail
  refine (HB.out _).mono ?_
  rintro e w3 ⟨rfl, hb3⟩
  have B3 := below_join B2 hb3
  have t0 : Hid _ := below_keep hb3 r0.out
  have t1 := below_keep hb3 r1
  have t2 := below_keep hb3 r2
  obtain ⟨k1, k2, -⟩ := blk2 t1
  obtain ⟨k3, k4, -⟩ := blk2 t2
  go_wp2_with fail
  clear k1 k2 k3 k4 t1 t2 r0 r1 r2 p1 HP0 B1 B2 hb1 hb2 hb3 HCo HTf HB
  go_loopg [7] 5 (fun g cc wr => ∃ i, i ≤ 5 ∧ g = 5 - i ∧ cc = .int .i64 (i : Nat) ∧ Hid (Below w3.heap.size w3 wr))
  case atStart => exact ⟨0, by omega, by omega, rfl, Below.refl _ _⟩
  case round =>
    obtain ⟨i, hi, hg, rfl, HW⟩ := hrel
    have HG : Hid (gk = 5 - i) := hg
    clear hg
    by_cases hlt : i < 5
    · have hiI : (i : Int) < 5 := by omega
      have HAi : Hid (fc i = ts.all (clsT i)) := HAC.out i
      go_wp2_with fail
      go_loopg [9, 8] ts.length (fun g cc o wr => ∃ k, k ≤ ts.length ∧ g = ts.length - k ∧ cc = .int .i64 (k : Nat) ∧ o = .bool ((ts.take k).all (clsT i)) ∧ Hid (Below w3.heap.size w3 wr))
      case atStart => exact ⟨0, by omega, by omega, rfl, rfl, HW⟩
      case round =>
        clear HW
        obtain ⟨k, hk, hg2, rfl, rfl, HW⟩ := hrel
        have HG2 : Hid (gk = ts.length - k) := hg2
        clear hg2
        by_cases hkl : k < ts.length
        · obtain ⟨t, ht⟩ : ∃ x, ts[k]? = some x := ⟨_, List.getElem?_eq_getElem hkl⟩
          obtain ⟨g, off, rfl, hc⟩ := H3.out (fun e => by rw [e] at hkl; simp at hkl)
          obtain ⟨adB, cpB, c0, c1, htr⟩ := hc k t ht
          have BZ := below_join B3 HW.out
          have g0 := (BZ.cell (p := ⟨g, off + k * 2, none⟩) (lt_of_cell c0)).trans c0
          have g1 := (BZ.cell (p := ⟨g, off + k * 2 + 1, none⟩) (lt_of_cell c1)).trans c1
          have hkI : (k : Int) < (ts.length : Int) := by omega
          have hkc : (k : Int) < (cap : Int) := by omega
          have HT1 : Hid ((ts.take (k + 1)).all (clsT i) = ((ts.take k).all (clsT i) && clsT i t)) := by
            show _ = _
            rw [List.take_add_one, ht, List.all_append]
            simp
          have hcc := HIc.out t (List.mem_of_getElem? ht) i hlt _ wr (htr.up BZ)
          generalize clsT i t = bt at hcc HT1
          have HCC : Hid (Calls Try.prog 11 _ wr _) := hcc
          generalize (ts.take k).all (clsT i) = bp at *
          clear hc ht c0 c1 htr hcc BZ
          cases bp
          · have HT2 : Hid ((ts.take (k + 1)).all (clsT i) = false) := by
              show _ = _
              rw [HT1.out]; rfl
            clear HT1 HCC
            go_wp2_with fail
            go_roundg (ts.length - (k + 1))
            case measure => have := HG2.out; omega
            case rel => exact ⟨k + 1, by omega, rfl, by go_num, by rw [HT2.out], HW⟩
          · have HT2 : Hid ((ts.take (k + 1)).all (clsT i) = bt) := by
              show _ = _
              rw [HT1.out]; rfl
            clear HT1
            go_wp2_with fail
            refine HCC.out.mono ?_
            rintro e w4 ⟨rfl, hb4⟩
            have HW4 : Hid (Below w3.heap.size w3 w4) := below_join HW.out hb4
            go_wp2_with fail
            go_roundg (ts.length - (k + 1))
            case measure => have := HG2.out; omega
            case rel => exact ⟨k + 1, by omega, rfl, by go_num, by rw [HT2.out], HW4⟩
        · have hkJ : ¬ (k : Int) < (ts.length : Int) := by omega
          have HE : Hid ((ts.take k).all (clsT i) = fc i) := by
            show _ = _
            rw [HAi.out, List.take_of_length_le (by omega)]
          have c0 := allC_cell (below_keep HW.out t0.out) hlt
          rw [← HE.out] at c0
          generalize (ts.take k).all (clsT i) = bp at *
          have hbb : (bp != bp) = false := by cases bp <;> rfl
          clear HE hk hkl
          go_wp2_with fail
          go_roundg (5 - (i + 1))
          case measure => have := HG.out; omega
          case rel => exact ⟨i + 1, by omega, rfl, by go_num, HW⟩
    · have hiJ : ¬ (i : Int) < 5 := by omega
      clear HAC HIc t0
      go_wp2_with fail
      go_loopg [11, 10] ts.length (fun g cc o wr => ∃ k, k ≤ ts.length ∧ g = ts.length - k ∧ cc = .int .i64 (k : Nat) ∧ o = .bool ((ts.take k).all (fun t => decide ((t.n : Int) < 4))) ∧ Hid (Below w3.heap.size w3 wr))
      case atStart => exact ⟨0, by omega, by omega, rfl, rfl, HW⟩
      case round =>
        clear HW
        obtain ⟨k, hk, hg2, rfl, rfl, HW⟩ := hrel
        have HG2 : Hid (gk = ts.length - k) := hg2
        clear hg2
        by_cases hkl : k < ts.length
        · obtain ⟨t, ht⟩ : ∃ x, ts[k]? = some x := ⟨_, List.getElem?_eq_getElem hkl⟩
          obtain ⟨g, off, rfl, hc⟩ := H3.out (fun e => by rw [e] at hkl; simp at hkl)
          obtain ⟨adB, cpB, c0, c1, htr⟩ := hc k t ht
          have BZ := below_join B3 HW.out
          have g0 := (BZ.cell (p := ⟨g, off + k * 2, none⟩) (lt_of_cell c0)).trans c0
          have hkI : (k : Int) < (ts.length : Int) := by omega
          have hkc : (k : Int) < (cap : Int) := by omega
          have HT1 : Hid ((ts.take (k + 1)).all (fun t => decide ((t.n : Int) < 4)) = ((ts.take k).all (fun t => decide ((t.n : Int) < 4)) && decide ((t.n : Int) < 4))) := by
            show _ = _
            rw [List.take_add_one, ht, List.all_append]
            simp
          generalize (ts.take k).all (fun t => decide ((t.n : Int) < 4)) = bp at *
          clear hc ht c0 c1 htr BZ
          cases bp
          · have HT2 : Hid ((ts.take (k + 1)).all (fun t => decide ((t.n : Int) < 4)) = false) := by
              show _ = _
              rw [HT1.out]; rfl
            clear HT1
            go_wp2_with fail
            go_roundg (ts.length - (k + 1))
            case measure => have := HG2.out; omega
            case rel => exact ⟨k + 1, by omega, rfl, by go_num, by rw [HT2.out], HW⟩
          · have HT2 : Hid ((ts.take (k + 1)).all (fun t => decide ((t.n : Int) < 4)) = decide ((t.n : Int) < 4)) := by
              show _ = _
              rw [HT1.out]; rfl
            clear HT1
            go_wp2_with fail
            go_roundg (ts.length - (k + 1))
            case measure => have := HG2.out; omega
            case rel => exact ⟨k + 1, by omega, rfl, by go_num, by rw [HT2.out], HW⟩
        · have hkJ : ¬ (k : Int) < (ts.length : Int) := by omega
          have BZ := below_join B3 HW.out
          have HM : Hid (Calls Try.prog 12 _ wr _) := HMk.out _ wr (HV.out.up BZ)
          generalize (ts.take k).all (fun t => decide ((t.n : Int) < 4)) = bp at *
          have hCC : (C == C) = true := by cases C <;> rfl
          clear hk hkl H3
          cases bp
          · by_cases h3 : 3 < ts.length
            · have h3I : (3 : Int) < (ts.length : Int) := by omega
              go_wp2_with fail
              go_ret
              exact ⟨rfl, BZ⟩
            · have h3I : ¬ (3 : Int) < (ts.length : Int) := by omega
              have h3J : decide ((3 : Int) < (ts.length : Int)) = false := decide_eq_false h3I
              go_wp2_with fail
              refine HM.out.mono ?_
              rintro e w5 ⟨rfl, hb5⟩
              have B5 := below_join BZ hb5
              go_wp2_with fail
              go_ret
              exact ⟨rfl, B5⟩
          · go_wp2_with fail
            refine HM.out.mono ?_
            rintro e w5 ⟨rfl, hb5⟩
            have B5 := below_join BZ hb5
            go_wp2_with fail
            go_ret
            exact ⟨rfl, B5⟩
end Go.Proofs.Ytknngeojhiejnab
/- A list of tables that came in, as data. -/
namespace Go.Proofs.Ytknngeojhiejnab
open Go.RowKit

theorem cellsT : Try.prog.cellsOf 33 = 2 := by kernel_rfl
theorem cellsB : Try.prog.cellsOf 4 = 1 := by kernel_rfl
theorem cellsBs : Try.prog.cellsOf 31 = 1 := by kernel_rfl

section
variable {H : Type} {enc : TypeId × Value → H} {W : World} {spare : Nat → Bool} {held : Bool}

theorem list_of {α : Type} {P : Nat → α → Prop} : ∀ (len : Nat), (∀ i, i < len → ∃ x, P i x) → ∃ l : List α, l.length = len ∧ ∀ (j : Nat) (x : α), l[j]? = some x → P j x
  | 0, _ => ⟨[], rfl, fun j x h => by simp at h⟩
  | len + 1, h => by
    obtain ⟨l, hl, hp⟩ := list_of len fun i hi => h i (by omega)
    obtain ⟨x, hx⟩ := h len (by omega)
    refine ⟨l ++ [x], by simp [hl], fun j y hj => ?_⟩
    by_cases e : j < len
    · rw [List.getElem?_append_left (by omega)] at hj
      exact hp j y hj
    · rw [List.getElem?_append_right (by omega)] at hj
      by_cases e2 : j = len
      · subst e2
        rw [hl, Nat.sub_self] at hj
        simp at hj
        rw [← hj]; exact hx
      · rw [List.getElem?_eq_none (by simp; omega)] at hj
        cases hj

theorem bl_of_trod (fuel : Nat) (cs : List Value) (x : DataW H × List MemPlace) (h : DataW.trod enc Try.prog W 0 spare held fuel 31 cs = some x) :
    ∃ v l, cs = [v] ∧ BL W v l := by
  rcases DataW.trod_slice Try.underlying31 h with ⟨rfl, -⟩ | ⟨a, len, cap, elems, rest, m, hm, rfl, -, -, hlc, hcm, hel, hall, -⟩
  · exact ⟨_, [], rfl, BL.nil⟩
  · obtain ⟨b, off, spot⟩ := a
    have rd : ∀ i, i < len → ∃ y : Bool, W.cell? ((⟨b, off, spot⟩ : Addr).add i) = some (.bool y) := fun i hi => by
      have hh := hall i hi
      rw [cellsB, List.getElem?_eq_getElem (by omega), Nat.mul_one] at hh
      obtain ⟨cs', hcs, htr⟩ := Option.bind_eq_some_iff.1 hh
      obtain ⟨-, hl3, hcell⟩ := World.cells?_some hcs
      obtain ⟨y, rfl, -⟩ := DataW.trod_bool Try.underlying4 htr
      have g0 := hcell 0 (by omega)
      refine ⟨y, ?_⟩
      simpa [Addr.add] using g0
    by_cases hz : len = 0
    · subst hz
      exact ⟨_, [], rfl, _, cap, rfl, by simp, hcm, fun h => absurd rfl h⟩
    · have hsp : spot = none := by
        obtain ⟨y, hy⟩ := rd 0 (by omega)
        simp [Addr.add] at hy
        simpa using World.cell?_spot hy
      subst hsp
      obtain ⟨l, hl, hp⟩ := list_of len rd
      subst hl
      refine ⟨_, l, rfl, _, cap, rfl, hlc, hcm, fun _ => ⟨b, off, rfl, fun j y hj => ?_⟩⟩
      have := hp j y hj
      rwa [add_none] at this

set_option maxRecDepth 100000 in
theorem tb_of_trod (fuel : Nat) (cs : List Value) (x : DataW H × List MemPlace) (h : DataW.trod enc Try.prog W 0 spare held fuel 33 cs = some x) :
    ∃ n v l, cs = [.int .i64 n, v] ∧ BL W v l := by
  obtain ⟨xs, n, hfu, -, hl, hlen, hf⟩ := DataW.trod_struct Try.underlying33 h
  rw [cellsT] at hl
  match cs, hl with
  | [c0, c1], _ =>
    have h0 := hf 0 _ rfl
    have h1 := hf 1 _ rfl
    simp at hlen
    match xs, hlen with
    | [y0, y1], _ =>
      simp [cells3, cellsBs] at h0 h1
      obtain ⟨k, e0, -, -⟩ := DataW.trod_int Try.underlying3 h0
      obtain ⟨v, l, e1, hb⟩ := bl_of_trod _ _ _ h1
      simp at e0 e1
      subst e0 e1
      exact ⟨k, _, l, rfl, hb⟩

theorem tq_of_trod (fuel : Nat) (cs : List Value) (x : DataW H × List MemPlace) (h : DataW.trod enc Try.prog W 0 spare held fuel 22 cs = some x) :
    ∃ v ts, cs = [v] ∧ TQ W v ts := by
  rcases DataW.trod_slice Try.underlying22 h with ⟨rfl, -⟩ | ⟨a, len, cap, elems, rest, m, hm, rfl, -, -, hlc, hcm, hel, hall, -⟩
  · exact ⟨_, [], rfl, none, 0, rfl, by simp, by simp, fun h => absurd rfl h⟩
  · obtain ⟨b, off, spot⟩ := a
    have rd : ∀ i, i < len → ∃ t : Int × List Bool, ∃ v, BL W v t.2 ∧ W.cell? ((⟨b, off, spot⟩ : Addr).add (i * 2)) = some (.int .i64 t.1) ∧ W.cell? (((⟨b, off, spot⟩ : Addr).add (i * 2)).add 1) = some v := fun i hi => by
      have hh := hall i hi
      rw [cellsT, List.getElem?_eq_getElem (by omega)] at hh
      obtain ⟨cs', hcs, htr⟩ := Option.bind_eq_some_iff.1 hh
      obtain ⟨-, hl3, hcell⟩ := World.cells?_some hcs
      obtain ⟨n, v, l, rfl, hb⟩ := tb_of_trod _ _ _ htr
      have g0 := hcell 0 (by omega)
      have g1 := hcell 1 (by omega)
      refine ⟨(n, l), v, hb, ?_, ?_⟩
      · simpa [Addr.add] using g0
      · simpa using g1
    by_cases hz : len = 0
    · subst hz
      exact ⟨_, [], rfl, _, cap, rfl, by simp, hcm, fun h => absurd rfl h⟩
    · have hsp : spot = none := by
        obtain ⟨t, v, -, hy, -⟩ := rd 0 (by omega)
        simp [Addr.add] at hy
        simpa using World.cell?_spot hy
      subst hsp
      obtain ⟨ts, hl, hp⟩ := list_of len rd
      subst hl
      refine ⟨_, ts, rfl, _, cap, rfl, hlc, hcm, fun _ => ⟨b, off, rfl, fun j t hj => ?_⟩⟩
      obtain ⟨v, hb, g0, g1⟩ := hp j t hj
      rw [add_none] at g0 g1
      rw [add_none] at g1
      obtain ⟨ad, cp, rfl, h1⟩ := hb
      exact ⟨ad, cp, g0, g1, ad, cp, rfl, h1⟩
end
end Go.Proofs.Ytknngeojhiejnab
