/- Texts of one proof, one behind the other: TM5. -/
import Derived.Test.YtknngeojhiejnabB14
/- Walks: TruthMade where all is fine. -/
namespace Go.Proofs.Ytknngeojhiejnab
open Go.RowKit Go.Sort

set_option maxRecDepth 10000 in
set_option maxHeartbeats 8000000 in
theorem tm_fine (f : Fm) (l : List (List UInt8)) (hmx : ∀ t ∈ l, t.length ≤ maxLen) (v u : Value) (w : World) (hrep : Rep w (fun _ => True) f v) (hu : SL w u l) (hpc : f.pcode = (0, 0)) (hl : l.length ≤ 4) (hun : unfit l = -1) (ho : f.only l = true) :
    Calls Try.prog 4 #[v, u] w fun e w' => e = .returned (.bool true) ∧ Below w.heap.size w w' := by
  have hva := fun v w h => vast2_any f v w h
  have hpf := fun v (w : World) h => plainR_any [f] (by simp) v w h
  rw [pfirst_one, hpc] at hpf
  have hma := fun v u (w : World) h h' => made_fine f l v u w h h' hmx hpc hl hun ho
  obtain ⟨⟨s, hs⟩, hpl, -⟩ := pcode_ok (f := f) (by rw [hpc])
  have hfi := fine_of_chk f 0 s hs
  have hni := fun v (w : World) h => namesIn_any f (chk_size hs) v w h
  have HFit : Hid (∀ j, j < l.length → badAt l j = false) := fit_all hun
  have HMx : Hid (∀ t ∈ l, t.length ≤ maxLen) := hmx
  have HOn : Hid (∀ t ∈ nmsU f, t ∈ l) := fun t ht => only_all ho t ((nmsU_mem f t).1 ht)
  have hcg : ∀ r, r < 2 ^ l.length → (colL f l)[r]? = some (tv (fun t => decide (t ∈ rowN r l 0)) f) := fun r hr => by
    rw [colL_get f _ r hr, tv_row hfi _ (unfit_fit hun).2 (only_all ho)]
  have hcl := colL_len f l
  have htrr := fun r v u (w : World) h h' => trueR_any (rowN r l 0) f v u w hfi h h'
  have hrow := fun r (hr : r ≤ 100000) u (w : World) h => row_any r hr l (by omega) u w h
  obtain ⟨hw, hM1, hM2⟩ := shl_row l.length (by omega)
  generalize colL f l = C at *
  generalize nmsU f = U at *
  obtain ⟨k, n, ks⟩ := f
  obtain ⟨sl, cap, rfl⟩ := slice_shape hrep
  have HU : Hid (SL w u l) := hu
  obtain ⟨adU, cpU, rfl, hl1, hl2, hl3⟩ := hu
  have HL3 : Hid (l ≠ [] → ∃ g off, adU = some ⟨g, off, none⟩ ∧ ∀ (j : Nat) (t : List UInt8), l[j]? = some t → w.cell? ⟨g, off + j, none⟩ = some (.string ⟨t.toArray⟩)) := hl3
  have hlI : (l.length : Int) ≤ 9223372036854775807 := by unfold maxLen at hl2; omega
  have H1 : Hid (∀ v w, Rep w (fun _ => True) (.mk k n ks) v → Calls Try.prog 13 _ w _) := hva
  have H2 : Hid (∀ v w, FL w v [.mk k n ks] → Calls Try.prog 15 _ w _) := hpf
  have HM : Hid (∀ v u w, Rep w (fun _ => True) (.mk k n ks) v → SL w u l → Calls Try.prog 14 #[v, u] w _) := hma
  have HB : Hid (∀ w, Calls Try.prog 10 #[] w _) := fun w => truthBegun_any w
  have HRep : Hid (Rep w (fun _ => True) (.mk k n ks) (.agg #[.int .i64 k, .string n, .slice sl ks.length cap])) := hrep
  clear hva hpf hma hl3 hrep hmx hpc hun hfi hpl hs ho
  have HNi : Hid (∀ v w, FL w v [.mk k n ks] → Calls Try.prog 19 #[v] w _) := hni
  have HCG : Hid ((∀ r, r < 2 ^ l.length → C[r]? = some (tv (fun t => decide (t ∈ rowN r l 0)) (.mk k n ks))) ∧ C.length = 2 ^ l.length ∧ 1 ≤ 2 ^ l.length ∧ 2 ^ l.length ≤ 64) := ⟨hcg, hcl, hM1, hM2⟩
  have HSh : Hid (wrap64 ((2 : Int) ^ l.length) = ((2 ^ l.length : Nat) : Int)) := hw
  have HTR : Hid (∀ r v u w, Rep w (fun _ => True) (.mk k n ks) v → SL w u (rowN r l 0) → Calls Try.prog 20 #[v, u] w _) := htrr
  have HRw : Hid (∀ r, r ≤ 100000 → ∀ u w, SL w u l → Calls Try.prog 21 #[u, .int .i64 (r : Nat)] w _) := hrow
  clear hni hcg hcl hw hM1 hM2 htrr hrow
  have h4I : ¬ (4 : Int) < (l.length : Int) := by omega
  go_enter Try.func4, Try.ntmps4
  go_wp2_with fail
  refine (HB.out _).mono ?_
  rintro e w1 ⟨rfl, hb1⟩
  have q1 : Hid _ := below_keep hb1 (blk_new w _)
  have B1 := below_join (below_more (Below.refl _ w) _) hb1
  obtain ⟨a0, a1, a2, -⟩ := blk3 q1.out
  go_wp2_with fail
  refine (H1.out _ _ (HRep.out.up B1)).mono ?_
  rintro e w2 ⟨⟨b1, rfl, -⟩, hb2⟩
  have q2 : Hid _ := below_keep hb2 q1.out
  have B2 := below_join B1 hb2
  clear a0 a1 a2
  cases b1
  case true =>
    go_wp2_with fail
    go_ret
    exact ⟨rfl, B2⟩
  case false =>
  obtain ⟨a0, a1, a2, -⟩ := blk3 q2.out
  go_wp2_with fail
  refine (HM.out _ _ _ (HRep.out.up B2) (HU.out.up B2)).mono ?_
  rintro e w3 ⟨x3, rfl, hbl, hb3⟩
  have HBL3 : Hid (BL w3 x3 C) := hbl
  obtain ⟨adx, cpx, rfl, hx1, hx2, -⟩ := hbl
  have q3 : Hid _ := below_keep hb3 q2.out
  have B3 := below_join B2 hb3
  clear a0 a1 a2
  obtain ⟨a0, a1, a2, -⟩ := blk3 q3.out
  have l3 := lt_of_block q3.out
  go_wp2_with fail
  have nb := blk_sec (w3.alloc (.cells #[.int .i64 (l.length : Nat), .slice adx C.length cpx] 33 (0, 0))) (.cells #[.int .i64 0, .int .i64 0] 25 (0, 0)) (.cells #[.int .i64 k, .string n, .slice sl ks.length cap] 37 (0, 0))
  rw [show (w3.alloc (.cells #[.int .i64 (l.length : Nat), .slice adx C.length cpx] 33 (0, 0))).heap.size = w3.heap.size + 1 by simp] at nb
  refine (H2.out _ _ (FL.alone nb (HRep.out.up (below_more (below_more (below_more B3 _) _) _)))).mono ?_
  rintro e w4 ⟨rfl, hb4⟩
  have q4 : Hid _ := below_keep hb4 (alloc_keep (alloc_keep (alloc_keep q3.out _) _) _)
  have r4 : Hid _ := below_keep hb4 (alloc_keep (alloc_keep (blk_new w3 _) _) _)
  have s4 : Hid _ := below_keep hb4 (alloc_keep (blk_sec w3 _ _) _)
  have B4 := below_join (below_more (below_more (below_more B3 _) _) _) hb4
  clear a0 a1 a2 nb
  have BW := below_more B4 (.cells #[.int .i64 0, .int .i64 0] 25 (0, 0))
  have Q0 : Hid _ := alloc_keep q4.out (.cells #[.int .i64 0, .int .i64 0] 25 (0, 0))
  have QT : Hid _ := alloc_keep r4.out (.cells #[.int .i64 0, .int .i64 0] 25 (0, 0))
  have QE : Hid _ := alloc_keep s4.out (.cells #[.int .i64 0, .int .i64 0] 25 (0, 0))
  have QW : Hid _ := blk_new w4 (.cells #[.int .i64 0, .int .i64 0] 25 (0, 0))
  have o1 := lt_of_block s4.out
  obtain ⟨k1, k2, -⟩ := blk2 QT.out
  obtain ⟨k3, k4, -⟩ := blk2 QE.out
  obtain ⟨m1, m2, m3, m4⟩ := blk2 QW.out
  have n1 : ¬ w4.heap.size = w3.heap.size := by omega
  have n2 : ¬ w4.heap.size = w3.heap.size + 1 := by omega
  have n3 : ¬ w4.heap.size = w.heap.size := by omega
  have HBLW : Hid (BL (w4.alloc (.cells #[.int .i64 0, .int .i64 0] 25 (0, 0))) (.slice adx C.length cpx) C) := HBL3.out.up (below_more (below_join (below_more (below_more (below_more (Below.refl _ w3) _) _) _) hb4) _)
  go_wp2_with fail
  have HS0 : Hid (TMb w (.cells #[.int .i64 k, .string n, .slice sl ks.length cap] 37 (0, 0)) (.cells #[.int .i64 (l.length : Nat), .slice adx C.length cpx] 33 (0, 0)) (.cells #[.int .i64 0, .int .i64 0] 25 (0, 0)) w3.heap.size (w3.heap.size + 1) (w4.alloc (.cells #[.int .i64 0, .int .i64 0] 25 (0, 0)))) := ⟨BW, Q0.out, QT.out, QE.out⟩
  clear k1 k2 k3 k4 m1 m2 m3 m4 Q0 QT QE BW
  generalize w4.alloc _ = W at *
  go_loopg [8] l.length (fun g c wr => ∃ i, i ≤ l.length ∧ g = l.length - i ∧ c = .int .i64 (i : Nat) ∧ Hid (TMb w (.cells #[.int .i64 k, .string n, .slice sl ks.length cap] 37 (0, 0)) (.cells #[.int .i64 (l.length : Nat), .slice adx C.length cpx] 33 (0, 0)) (.cells #[.int .i64 0, .int .i64 0] 25 (0, 0)) w3.heap.size (w3.heap.size + 1) wr) ∧ wr.heap[w4.heap.size]? = some (.cells #[.int .i64 0, .int .i64 0] 25 (0, 0)) ∧ Hid (BL wr (.slice adx C.length cpx) C))
  case atStart => exact ⟨0, by omega, by omega, rfl, HS0, QW.out, HBLW⟩
  case round =>
    obtain ⟨i, hi, hg, rfl, HS, qw, HX⟩ := hrel
    have HG : Hid (gk = l.length - i) := hg
    clear hg HS0 QW
    have hst := HS.out
    obtain ⟨m1, m2, m3, m4⟩ := blk2 qw
    have Qw : Hid _ := qw
    clear qw
    by_cases hlt : i < l.length
    · have hfit := HFit.out i hlt
      obtain ⟨t, ht⟩ : ∃ x, l[i]? = some x := ⟨_, List.getElem?_eq_getElem hlt⟩
      obtain ⟨g, off, rfl, hc⟩ := HL3.out (fun e => by rw [e] at hlt; simp at hlt)
      have g0 := (hst.1.cell (p := ⟨g, off + i, none⟩) (lt_of_cell (hc i t ht))).trans (hc i t ht)
      have hltI : (i : Int) < (l.length : Int) := by omega
      have hlc : (i : Int) < (cpU : Int) := by omega
      have hlc2 : (i : Int) ≤ (cpU : Int) := by omega
      have his := fun w => refName_any ⟨t.toArray⟩ (by simpa [ByteArray.size] using HMx.out t (List.mem_of_getElem? ht)) w
      rw [show (⟨t.toArray⟩ : ByteArray).data.toList = t from rfl] at his
      have hht := fun w h => hasText_sl (l.take i) t (.slice (some ⟨g, off, none⟩) i cpU) w h
      have hba := badAt_of ht
      have HT : Hid (SL wr (.slice (some ⟨g, off, none⟩) i cpU) (l.take i)) := (HU.out.up hst.1).take hi
      generalize isNm t = b1 at *
      generalize decide (t ∈ l.take i) = b2 at *
      have HIs : Hid (∀ w, Calls Try.prog 17 _ w _) := his
      have HHt : Hid (∀ w, SL w (.slice (some ⟨g, off, none⟩) i cpU) (l.take i) → Calls Try.prog 18 _ w _) := hht
      generalize (⟨t.toArray⟩ : ByteArray) = X at *
      clear his hht hc ht
      have hb12 : b1 = true ∧ b2 = false := by
        rw [hba] at hfit
        cases b1 <;> cases b2 <;> simp at hfit
        exact ⟨rfl, rfl⟩
      obtain ⟨rfl, rfl⟩ := hb12
      clear hba hfit hst HL3
      go_wp2_with fail
      go_quiet (first
        | (go_at_call 17
           refine Calls.quiet_of_same (HIs.out _))
        | (go_at_call 18
           refine Calls.quiet_of_same (HHt.out _ HT.out)))
      go_wp2_with fail
      go_roundg (l.length - (i + 1))
      case measure => have := HG.out; omega
      case rel => exact ⟨i + 1, by omega, rfl, by go_num, HS.out.drewN nq, Qw.out, HX.out.drewN nq⟩
    · have h0I : decide ((i : Int) < (l.length : Int)) = false := decide_eq_false (by omega)
      have h0J : ¬ (i : Int) < (l.length : Int) := by omega
      have BW := hst.1
      obtain ⟨a0, a1, a2, -⟩ := blk3 hst.2.1
      clear hst
      go_wp2_with fail
      refine (HNi.out _ _ (FL.alone (blk_new wr _) ((HRep.out.up BW).more _))).mono ?_
      rintro e w6 ⟨x6, rfl, htl, hb6⟩
      have hb6' : Below wr.heap.size wr w6 := below_join (below_more (Below.refl _ wr) _) hb6
      have HS6 : Hid (TMb _ _ _ _ _ _ _) := HS.out.up hb6'
      have Qw6 : Hid _ := below_keep hb6' Qw.out
      have HTl : Hid (TL w6 x6 U) := htl
      obtain ⟨adN, cpN, rfl, hn1, hn2, -⟩ := htl
      have hnI : (U.length : Int) ≤ 9223372036854775807 := by unfold maxLen at hn2; omega
      clear a0 a1 a2 m1 m2 m3 m4 h0I h0J HL3
      have HX6 : Hid (BL w6 (.slice adx C.length cpx) C) := HX.out.up hb6'
      clear HS Qw hb6 hb6' BW HMx HFit HX HBL3 HBLW
      go_wp2_with fail
      go_loopg [10] U.length (fun g c wr2 => ∃ j, j ≤ U.length ∧ g = U.length - j ∧ c = .int .i64 (j : Nat) ∧ Hid (TMb w (.cells #[.int .i64 k, .string n, .slice sl ks.length cap] 37 (0, 0)) (.cells #[.int .i64 (l.length : Nat), .slice adx C.length cpx] 33 (0, 0)) (.cells #[.int .i64 0, .int .i64 0] 25 (0, 0)) w3.heap.size (w3.heap.size + 1) wr2) ∧ wr2.heap[w4.heap.size]? = some (.cells #[.int .i64 0, .int .i64 0] 25 (0, 0)) ∧ Hid (TL wr2 (.slice adN U.length cpN) U) ∧ Hid (BL wr2 (.slice adx C.length cpx) C))
      case atStart => exact ⟨0, by omega, by omega, rfl, HS6, Qw6.out, HTl, HX6⟩
      case round =>
        clear HG
        obtain ⟨j, hj, hg, rfl, HSr, qw, HTr, HX⟩ := hrel
        have hst := HSr.out
        obtain ⟨m1, m2, m3, m4⟩ := blk2 qw
        have Qr : Hid _ := qw
        clear qw HS6 Qw6 HTl HX6
        have HG2 : Hid (gk = U.length - j) := hg
        clear hg
        by_cases hjt : j < U.length
        · obtain ⟨t, ht⟩ : ∃ x, U[j]? = some x := ⟨_, List.getElem?_eq_getElem hjt⟩
          obtain ⟨ad', cp', hv', -, -, h3'⟩ := HTr.out
          simp only [Value.slice.injEq, true_and] at hv'
          obtain ⟨rfl, rfl⟩ := hv'
          obtain ⟨g, rfl, hc⟩ := h3' (fun e => by rw [e] at hjt; simp at hjt)
          have g0 := hc j t ht
          have hjI : (j : Int) < (U.length : Int) := by omega
          have hjc : (j : Int) < (cpN : Int) := by omega
          have hht := fun w h => hasText_sl l t (.slice adU l.length cpU) w h
          have HTq : Hid (SL wr (.slice adU l.length cpU) l) := HU.out.up hst.1
          have HMt : Hid (U[j]? = some t) := ht
          clear hc ht h3'
          have hin : decide (t ∈ l) = true := decide_eq_true (HOn.out t (List.mem_of_getElem? HMt.out))
          rw [hin] at hht
          have HHq : Hid (∀ w, SL w (.slice adU l.length cpU) l → Calls Try.prog 18 _ w _) := hht
          generalize (⟨t.toArray⟩ : ByteArray) = X at *
          clear hht hst hin
          go_wp2_with fail
          refine (HHq.out _ HTq.out).mono ?_
          rintro e w7 ⟨rfl, rfl⟩
          go_wp2_with fail
          go_roundg (U.length - (j + 1))
          case measure => have := HG2.out; omega
          case rel => exact ⟨j + 1, by omega, rfl, by go_num, HSr, Qr.out, HTr, HX⟩
        · have hjJ : ¬ (j : Int) < (U.length : Int) := by omega
          obtain ⟨k1, k2, -⟩ := blk2 hst.2.2.1
          obtain ⟨k3, k4, -⟩ := blk2 hst.2.2.2
          have hsz : ((C.length : Int) != wrap64 ((2 : Int) ^ l.length)) = false := by rw [HSh.out, HCG.out.2.1]; simp
          clear HOn hst
          go_wp2_with fail
          go_quiet (fail)
          go_wp2_with fail
          clear k1 k2 k3 k4 m1 m2 m3 m4 hsz HTr HG2 hj hjt hjJ
          go_loopg [11] (2 ^ l.length) (fun g c wr3 => ∃ r, r ≤ 2 ^ l.length ∧ g = 2 ^ l.length - r ∧ c = .int .i64 (r : Nat) ∧ Hid (TMb w (.cells #[.int .i64 k, .string n, .slice sl ks.length cap] 37 (0, 0)) (.cells #[.int .i64 (l.length : Nat), .slice adx C.length cpx] 33 (0, 0)) (.cells #[.int .i64 0, .int .i64 0] 25 (0, 0)) w3.heap.size (w3.heap.size + 1) wr3) ∧ Hid (BL wr3 (.slice adx C.length cpx) C))
          case atStart => exact ⟨0, Nat.zero_le _, rfl, rfl, HSr.out.drewN nq, HX.out.drewN nq⟩
          case round =>
            obtain ⟨r, hrle, hg, rfl, HS3, HX3⟩ := hrel
            have HG3 : Hid (gk = 2 ^ l.length - r ∧ r ≤ 2 ^ l.length) := ⟨hg, hrle⟩
            have hst := HS3.out
            clear hg hrle HSr HX Qr
            obtain ⟨k1, k2, -⟩ := blk2 hst.2.2.1
            obtain ⟨a0, a1, a2, -⟩ := blk3 hst.2.1
            by_cases hlt : r < 2 ^ l.length
            · have hltI : (r : Int) < wrap64 ((2 : Int) ^ l.length) := by rw [HSh.out]; exact Int.ofNat_lt.2 hlt
              have hCr := HCG.out.1 r hlt
              have hr64 : r ≤ 64 := by have := HCG.out.2.2.2; omega
              have hCI : (r : Int) < (C.length : Int) := by rw [HCG.out.2.1]; exact Int.ofNat_lt.2 hlt
              have hcxI : (r : Int) < (cpx : Int) := by omega
              obtain ⟨ad', cp', hv', -, -, h3'⟩ := HX3.out
              simp only [Value.slice.injEq, true_and] at hv'
              obtain ⟨rfl, rfl⟩ := hv'
              obtain ⟨g, off, rfl, hc⟩ := h3' (fun e => by rw [e] at hCr; simp at hCr)
              have g0 := hc r _ hCr
              have HTq : Hid (∀ v u w, Rep w (fun _ => True) (.mk k n ks) v → SL w u (rowN r l 0) → Calls Try.prog 20 #[v, u] w _) := HTR.out r
              generalize tv (fun t => decide (t ∈ rowN r l 0)) (.mk k n ks) = y at g0 HTq hCr
              have HRr : Hid (Rep wr (fun _ => True) (.mk k n ks) (.agg #[.int .i64 k, .string n, .slice sl ks.length cap])) := HRep.out.up hst.1
              have HSl : Hid (SL wr (.slice adU l.length cpU) l) := HU.out.up hst.1
              have zg : g < wr.heap.size := lt_of_cell g0
              have q0 : Hid _ := hst.2.1
              have qT : Hid _ := hst.2.2.1
              clear hc hCr h3' hst
              go_wp2_with fail
              clear hltI
              go_region_held3 (fun w' => w'.cell? ⟨w.heap.size, 0, none⟩ = some (.int .i64 k) ∧ w'.cell? ⟨w.heap.size, 1, none⟩ = some (.string n) ∧ w'.cell? ⟨w.heap.size, 2, none⟩ = some (.slice sl ks.length cap) ∧ w'.cell? ⟨w3.heap.size, 1, none⟩ = some (.slice (some ⟨g, off, none⟩) C.length cpx) ∧ w'.cell? ⟨g, off + r, none⟩ = some (.bool y)) (go_keep)
                (first
                 | (go_at_call 21
                    refine (HRw.out r (by omega) _ _ (HSl.out.up (Below.refl _ wr).drew)).mono ?_
                    rintro e w11 ⟨x, rfl, ht11, hb11'⟩
                    have hb11 : Below wr.heap.size wr w11 := (Below.refl _ wr).drew.trans hb11'
                    obtain ⟨ad11, cp11, rfl, -⟩ := (id ht11)
                    have HS11 : Hid (SL w11 _ (rowN r l 0)) := ht11.sl
                    have p0 : Hid _ := below_keep hb11 q0.out
                    have pT : Hid _ := below_keep hb11 qT.out
                    have g1 := (hb11.cell (p := ⟨g, off + r, none⟩) zg).trans g0
                    clear a0 a1 a2 k1 k2
                    obtain ⟨a0, a1, a2, -⟩ := blk3 p0.out
                    obtain ⟨k1, k2, -⟩ := blk2 pT.out
                    clear ht11 hb11')
                 | (go_at_call 20
                    refine (HTq.out _ _ _ (HRr.out.up hb11) HS11.out).mono ?_
                    rintro e w12 ⟨rfl, hb12⟩
                    have B12 := below_join hb11 hb12
                    have r0 : Hid _ := below_keep hb12 p0.out
                    have rT : Hid _ := below_keep hb12 pT.out
                    have g2 := (B12.cell (p := ⟨g, off + r, none⟩) zg).trans g0
                    clear a0 a1 a2 k1 k2 g1
                    obtain ⟨a0, a1, a2, -⟩ := blk3 r0.out
                    obtain ⟨k1, k2, -⟩ := blk2 rT.out)
                 | fail)
              all_goals
                have HS4 : Hid (TMb _ _ _ _ _ _ _) := HS3.out.up B12
                have HX4 : Hid (BL w12 _ _) := HX3.out.up B12
                go_wp2_with fail
                go_roundg (2 ^ l.length - (r + 1))
                case measure => have := HG3.out; omega
                case rel => exact ⟨r + 1, by omega, rfl, by go_num, HS4, HX4⟩
            · have hltI : ¬ (r : Int) < wrap64 ((2 : Int) ^ l.length) := by rw [HSh.out]; exact fun h => hlt (Int.ofNat_lt.1 h)
              have BZ := hst.1
              clear hst
              go_wp2_with fail
              go_ret
              exact ⟨rfl, BZ⟩
end Go.Proofs.Ytknngeojhiejnab
