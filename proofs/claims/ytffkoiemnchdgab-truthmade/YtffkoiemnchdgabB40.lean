/- Texts of one proof, one behind the other: TM4. -/
import Derived.Test.YtffkoiemnchdgabB39
import Derived.Test.YtffkoiemnchdgabB29
/- Walks: TruthMade where the names are fine. -/
namespace Go.Proofs.Ytffkoiemnchdgab
open Go.RowKit Go.Sort

theorem BL.drewN {w : World} {v : Value} {l : List Bool} (h : BL w v l) (n : Nat) : BL (w.drewN n) v l := h
theorem fit_all {l : List (List UInt8)} (h : unfit l = -1) : ∀ j, j < l.length → badAt l j = false := fun j hj => by
  unfold unfit at h
  cases hf : (List.range l.length).find? (badAt l) with
  | some i => rw [hf] at h; simp at h
  | none =>
    rw [List.find?_eq_none] at hf; have := hf j (List.mem_range.2 hj); simpa using this

set_option maxRecDepth 10000 in
set_option maxHeartbeats 8000000 in
theorem tm_none (f : Fm) (l : List (List UInt8)) (hmx : ∀ t ∈ l, t.length ≤ maxLen) (v u : Value) (w : World) (hrep : Rep w (fun _ => True) f v) (hu : SL w u l) (hpc : f.pcode = (0, 0)) (hl : l.length ≤ 4) (hun : unfit l = -1) (ho : f.only l = false) :
    Calls Try.prog 4 #[v, u] w fun e w' => e = .returned (.bool true) ∧ Below w.heap.size w w' := by
  (have hva := fun v w h => vast2_any f v w h); (have hpf := fun v (w : World) h => plainR_any [f] (by simp) v w h); rw [pfirst_one, hpc] at hpf; (have hma := fun v u (w : World) h h' => made_none f l v u w h h' hmx hpc hl hun ho); (obtain ⟨⟨s, hs⟩, hpl, -⟩ := pcode_ok (f := f) (by rw [hpc])); have hfi := fine_of_chk f 0 s hs; (have hni := fun v (w : World) h => namesIn_any f (chk_size hs) v w h); have HFit : Hid (∀ j, j < l.length → badAt l j = false) := fit_all hun; have HMx : Hid (∀ t ∈ l, t.length ≤ maxLen) := hmx
  have HOn : Hid ((nmsU f).any (fun t => !decide (t ∈ l)) = true) := by
    show _ = _; have := ho; unfold Fm.only at this; simpa using this
  generalize nmsU f = U at *; obtain ⟨k, n, ks⟩ := f; obtain ⟨sl, cap, rfl⟩ := slice_shape hrep; have HU : Hid (SL w u l) := hu; obtain ⟨adU, cpU, rfl, hl1, hl2, hl3⟩ := hu; have HL3 : Hid (l ≠ [] → ∃ g off, adU = some ⟨g, off, none⟩ ∧ ∀ (j : Nat) (t : List UInt8), l[j]? = some t → w.cell? ⟨g, off + j, none⟩ = some (.string ⟨t.toArray⟩)) := hl3; (have hlI : (l.length : Int) ≤ 9223372036854775807 := by unfold maxLen at hl2; omega); (have H1 : Hid (∀ v w, Rep w (fun _ => True) (.mk k n ks) v → Calls Try.prog 13 _ w _) := hva); have H2 : Hid (∀ v w, FL w v [.mk k n ks] → Calls Try.prog 15 _ w _) := hpf; (have HM : Hid (∀ v u w, Rep w (fun _ => True) (.mk k n ks) v → SL w u l → Calls Try.prog 14 #[v, u] w _) := hma); (have HB : Hid (∀ w, Calls Try.prog 10 #[] w _) := fun w => truthBegun_any w); (have HRep : Hid (Rep w (fun _ => True) (.mk k n ks) (.agg #[.int .i64 k, .string n, .slice sl ks.length cap])) := hrep); clear hva hpf hma hl3 hrep hmx hpc hun hfi hpl hs ho; have HNi : Hid (∀ v w, FL w v [.mk k n ks] → Calls Try.prog 19 #[v] w _) := hni; clear hni; (have h4I : ¬ (4 : Int) < (l.length : Int) := by omega); (have HF : Hid (∀ c a w, Calls Try.prog 16 #[.int .i64 c, .int .i64 a] w _) := fun c a w => mkF_any c a w)
  go_enter Try.func4, Try.ntmps4
  go_wp2_with fail; refine (HB.out _).mono ?_; rintro e w1 ⟨rfl, hb1⟩; have q1 : Hid _ := below_keep hb1 (blk_new w _); have B1 := below_join (below_more (Below.refl _ w) _) hb1; obtain ⟨a0, a1, a2, -⟩ := blk3 q1.out; go_wp2_with fail; refine (H1.out _ _ (HRep.out.up B1)).mono ?_; rintro e w2 ⟨⟨b1, rfl, -⟩, hb2⟩; have q2 : Hid _ := below_keep hb2 q1.out; have B2 := below_join B1 hb2; clear a0 a1 a2
  cases b1
  case true =>
    go_wp2_with fail; go_ret; exact ⟨rfl, B2⟩
  case false =>
  obtain ⟨a0, a1, a2, -⟩ := blk3 q2.out; go_wp2_with fail; refine (HM.out _ _ _ (HRep.out.up B2) (HU.out.up B2)).mono ?_; rintro e w3 ⟨rfl, hb3⟩; have q3 : Hid _ := below_keep hb3 q2.out; have B3 := below_join B2 hb3; clear a0 a1 a2; obtain ⟨a0, a1, a2, -⟩ := blk3 q3.out; have l3 := lt_of_block q3.out; go_wp2_with fail; have nb := blk_sec (w3.alloc (.cells #[.int .i64 0, .slice none 0 0] 33 (0, 0))) (.cells #[.int .i64 6, .int .i64 0] 25 (0, 0)) (.cells #[.int .i64 k, .string n, .slice sl ks.length cap] 37 (0, 0)); (rw [show (w3.alloc (.cells #[.int .i64 0, .slice none 0 0] 33 (0, 0))).heap.size = w3.heap.size + 1 by simp] at nb); refine (H2.out _ _ (FL.alone nb (HRep.out.up (below_more (below_more (below_more B3 _) _) _)))).mono ?_; rintro e w4 ⟨rfl, hb4⟩; have q4 : Hid _ := below_keep hb4 (alloc_keep (alloc_keep (alloc_keep q3.out _) _) _); have r4 : Hid _ := below_keep hb4 (alloc_keep (alloc_keep (blk_new w3 _) _) _); have s4 : Hid _ := below_keep hb4 (alloc_keep (blk_sec w3 _ _) _); have B4 := below_join (below_more (below_more (below_more B3 _) _) _) hb4; clear a0 a1 a2 nb; have BW := below_more B4 (.cells #[.int .i64 0, .int .i64 0] 25 (0, 0)); have Q0 : Hid _ := alloc_keep q4.out (.cells #[.int .i64 0, .int .i64 0] 25 (0, 0)); have QT : Hid _ := alloc_keep r4.out (.cells #[.int .i64 0, .int .i64 0] 25 (0, 0)); have QE : Hid _ := alloc_keep s4.out (.cells #[.int .i64 0, .int .i64 0] 25 (0, 0)); have QW : Hid _ := blk_new w4 (.cells #[.int .i64 0, .int .i64 0] 25 (0, 0)); have o1 := lt_of_block s4.out; obtain ⟨k1, k2, -⟩ := blk2 QT.out; obtain ⟨k3, k4, -⟩ := blk2 QE.out; obtain ⟨m1, m2, m3, m4⟩ := blk2 QW.out; (have n1 : ¬ w4.heap.size = w3.heap.size := by omega); (have n2 : ¬ w4.heap.size = w3.heap.size + 1 := by omega); (have n3 : ¬ w4.heap.size = w.heap.size := by omega); go_wp2_with fail; have HS0 : Hid (TMb w (.cells #[.int .i64 k, .string n, .slice sl ks.length cap] 37 (0, 0)) (.cells #[.int .i64 0, .slice none 0 0] 33 (0, 0)) (.cells #[.int .i64 6, .int .i64 0] 25 (0, 0)) w3.heap.size (w3.heap.size + 1) (w4.alloc (.cells #[.int .i64 0, .int .i64 0] 25 (0, 0)))) := ⟨BW, Q0.out, QT.out, QE.out⟩; clear k1 k2 k3 k4 m1 m2 m3 m4 Q0 QT QE BW; generalize w4.alloc _ = W at *
  go_loopg [8] l.length (fun g c wr => ∃ i, i ≤ l.length ∧ g = l.length - i ∧ c = .int .i64 (i : Nat) ∧ Hid (TMb w (.cells #[.int .i64 k, .string n, .slice sl ks.length cap] 37 (0, 0)) (.cells #[.int .i64 0, .slice none 0 0] 33 (0, 0)) (.cells #[.int .i64 6, .int .i64 0] 25 (0, 0)) w3.heap.size (w3.heap.size + 1) wr) ∧ wr.heap[w4.heap.size]? = some (.cells #[.int .i64 0, .int .i64 0] 25 (0, 0)))
  case atStart => exact ⟨0, by omega, by omega, rfl, HS0, QW.out⟩
  case round =>
    obtain ⟨i, hi, hg, rfl, HS, qw⟩ := hrel; have HG : Hid (gk = l.length - i) := hg; clear hg HS0 QW; have hst := HS.out; obtain ⟨m1, m2, m3, m4⟩ := blk2 qw; have Qw : Hid _ := qw; clear qw; by_cases hlt : i < l.length
    · have hfit := HFit.out i hlt
      obtain ⟨t, ht⟩ : ∃ x, l[i]? = some x := ⟨_, List.getElem?_eq_getElem hlt⟩; (obtain ⟨g, off, rfl, hc⟩ := HL3.out (fun e => by rw [e] at hlt; simp at hlt)); have g0 := (hst.1.cell (p := ⟨g, off + i, none⟩) (lt_of_cell (hc i t ht))).trans (hc i t ht); (have hltI : (i : Int) < (l.length : Int) := by omega); (have hlc : (i : Int) < (cpU : Int) := by omega); (have hlc2 : (i : Int) ≤ (cpU : Int) := by omega); (have his := fun w => refName_any ⟨t.toArray⟩ (by simpa [ByteArray.size] using HMx.out t (List.mem_of_getElem? ht)) w); rw [show (⟨t.toArray⟩ : ByteArray).data.toList = t from rfl] at his; (have hht := fun w h => hasText_sl (l.take i) t (.slice (some ⟨g, off, none⟩) i cpU) w h); have hba := badAt_of ht; have HT : Hid (SL wr (.slice (some ⟨g, off, none⟩) i cpU) (l.take i)) := (HU.out.up hst.1).take hi; generalize isNm t = b1 at *; generalize decide (t ∈ l.take i) = b2 at *; have HIs : Hid (∀ w, Calls Try.prog 17 _ w _) := his; have HHt : Hid (∀ w, SL w (.slice (some ⟨g, off, none⟩) i cpU) (l.take i) → Calls Try.prog 18 _ w _) := hht; generalize (⟨t.toArray⟩ : ByteArray) = X at *; clear his hht hc ht
      have hb12 : b1 = true ∧ b2 = false := by
        rw [hba] at hfit
        cases b1 <;> cases b2 <;> simp at hfit
        exact ⟨rfl, rfl⟩
      obtain ⟨rfl, rfl⟩ := hb12; clear hba hfit hst HL3; go_wp2_with fail
      go_quiet (first
        | (go_at_call 17
           refine Calls.quiet_of_same (HIs.out _))
        | (go_at_call 18
           refine Calls.quiet_of_same (HHt.out _ HT.out)))
      go_wp2_with fail
      go_roundg (l.length - (i + 1))
      case measure => have := HG.out; omega
      case rel => exact ⟨i + 1, by omega, rfl, by go_num, HS.out.drewN nq, Qw.out⟩
    · have h0I : decide ((i : Int) < (l.length : Int)) = false := decide_eq_false (by omega)
      (have h0J : ¬ (i : Int) < (l.length : Int) := by omega); have BW := hst.1; obtain ⟨a0, a1, a2, -⟩ := blk3 hst.2.1; clear hst; go_wp2_with fail; refine (HNi.out _ _ (FL.alone (blk_new wr _) ((HRep.out.up BW).more _))).mono ?_; rintro e w6 ⟨x6, rfl, htl, hb6⟩; have hb6' : Below wr.heap.size wr w6 := below_join (below_more (Below.refl _ wr) _) hb6; have HS6 : Hid (TMb _ _ _ _ _ _ _) := HS.out.up hb6'; have Qw6 : Hid _ := below_keep hb6' Qw.out; have HTl : Hid (TL w6 x6 U) := htl; obtain ⟨adN, cpN, rfl, hn1, hn2, -⟩ := htl; (have hnI : (U.length : Int) ≤ 9223372036854775807 := by unfold maxLen at hn2; omega); clear a0 a1 a2 m1 m2 m3 m4 h0I h0J HL3; clear HS Qw hb6 hb6' BW HMx HFit; go_wp2_with fail
      go_loopg [10] U.length (fun g c wr2 => ∃ j ci, j ≤ U.length ∧ g = U.length - j ∧ c = .int .i64 (j : Nat) ∧ Hid (TMb w (.cells #[.int .i64 k, .string n, .slice sl ks.length cap] 37 (0, 0)) (.cells #[.int .i64 0, .slice none 0 0] 33 (0, 0)) (.cells #[.int .i64 6, .int .i64 0] 25 (0, 0)) w3.heap.size (w3.heap.size + 1) wr2) ∧ wr2.heap[w4.heap.size]? = some (.cells #[.int .i64 ci, .int .i64 0] 25 (0, 0)) ∧ Hid (ci = if (U.take j).any (fun t => !decide (t ∈ l)) then 6 else 0) ∧ Hid (TL wr2 (.slice adN U.length cpN) U))
      case atStart => exact ⟨0, 0, by omega, by omega, rfl, HS6, Qw6.out, by show _ = _; rfl, HTl⟩
      case round =>
        clear HG; obtain ⟨j, ci, hj, hg, rfl, HSr, qw, HK, HTr⟩ := hrel; have hst := HSr.out; obtain ⟨m1, m2, m3, m4⟩ := blk2 qw; have Qr : Hid _ := qw; clear qw HS6 Qw6 HTl; have HG2 : Hid (gk = U.length - j) := hg; clear hg; by_cases hjt : j < U.length
        · obtain ⟨t, ht⟩ : ∃ x, U[j]? = some x := ⟨_, List.getElem?_eq_getElem hjt⟩
          obtain ⟨ad', cp', hv', -, -, h3'⟩ := HTr.out; simp only [Value.slice.injEq, true_and] at hv'; obtain ⟨rfl, rfl⟩ := hv'; (obtain ⟨g, rfl, hc⟩ := h3' (fun e => by rw [e] at hjt; simp at hjt)); have g0 := hc j t ht; (have hjI : (j : Int) < (U.length : Int) := by omega); (have hjc : (j : Int) < (cpN : Int) := by omega); (have hht := fun w h => hasText_sl l t (.slice adU l.length cpU) w h); have HTq : Hid (SL wr (.slice adU l.length cpU) l) := HU.out.up hst.1; have HMt : Hid (U[j]? = some t) := ht; clear hc ht h3'
          have HN1 : Hid ((U.take (j + 1)).any (fun t => !decide (t ∈ l)) = ((U.take j).any (fun t => !decide (t ∈ l)) || !decide (t ∈ l))) := by
            show _ = _; rw [List.take_add_one, HMt.out, List.any_append]
            simp
          (generalize (U.take j).any (fun t => !decide (t ∈ l)) = bp at *); generalize decide (t ∈ l) = bt at *; have HHq : Hid (∀ w, SL w (.slice adU l.length cpU) l → Calls Try.prog 18 _ w _) := hht; generalize (⟨t.toArray⟩ : ByteArray) = X at *; clear hht hst; go_wp2_with fail; refine (HHq.out _ HTq.out).mono ?_; rintro e w7 ⟨rfl, rfl⟩
          cases bt
          · go_wp2_with fail
            refine (HF.out _ _ _).mono ?_; rintro e w8 ⟨rfl, hb8⟩; have hS8 := HSr.out.up hb8; have q8 := below_keep hb8 Qr.out; have hT8 := (HTr.out.up hb8).set2 q8 (.int .i64 6) (.int .i64 0); (obtain ⟨p1, p2⟩ := hS8.put (R := w4.heap.size) (by omega) n1 n2 q8 6 0); have HP1 : Hid (TMb _ _ _ _ _ _ _) := p1; have HP2 : Hid _ := p2; have HP3 : Hid (TL _ _ _) := hT8
            have HK2 : Hid ((6 : Int) = if (U.take (j + 1)).any (fun t => !decide (t ∈ l)) then 6 else 0) := by
              show _ = _; rw [HN1.out]; simp
            clear hS8 p1 p2 hT8 m1 m2 m3 m4 HK HN1; obtain ⟨m1, m2, m3, m4⟩ := blk2 q8; go_wp2_with fail
            go_roundg (U.length - (j + 1))
            case measure => have := HG2.out; omega
            case rel => exact ⟨j + 1, 6, by omega, rfl, by go_num, HP1.out, HP2.out, HK2, HP3⟩
          · have HK2 : Hid (ci = if (U.take (j + 1)).any (fun t => !decide (t ∈ l)) then 6 else 0) := by
              show _ = _; rw [HN1.out, HK.out]; simp
            clear HK HN1; go_wp2_with fail
            go_roundg (U.length - (j + 1))
            case measure => have := HG2.out; omega
            case rel => exact ⟨j + 1, ci, by omega, rfl, by go_num, HSr, Qr.out, HK2, HTr⟩
        · have hci : ci = 6 := by
            (rw [HK.out, List.take_of_length_le (by omega), HOn.out]); rfl
          subst hci; (have hjJ : ¬ (j : Int) < (U.length : Int) := by omega); obtain ⟨k1, k2, -⟩ := blk2 hst.2.2.1; obtain ⟨k3, k4, -⟩ := blk2 hst.2.2.2; have BZ := hst.1; clear hst HK HOn; go_wp2_with fail; go_ret; exact ⟨rfl, BZ⟩
end Go.Proofs.Ytffkoiemnchdgab
