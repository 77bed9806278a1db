/- Texts of one proof, one behind the other: ML6. -/
import Derived.Test.YtmahgfgndfcmpagB16
import Derived.Test.YtmahgfgndfcmpagB06
/- Walks: a world by what is true at it (modlog.worldOf). -/
namespace Go.Proofs.Ytmahgfgndfcmpag
open Go.RowKit Go.Sort

def upTo (i : Nat) (Q : Nat → Bool) (n : Nat) : Bool := decide (n < i) && Q n
theorem bm_upTo_no {L i : Nat} {Q : Nat → Bool} (h : Q i = false) : bm L (upTo (i + 1) Q) = bm L (upTo i Q) := bm_ext fun n _ => by
  unfold upTo; by_cases e : n = i
  · subst e; simp [h]
  · have : (n < i + 1) ↔ n < i := by omega
    simp [this]
theorem bm_upTo_yes {L i : Nat} {Q : Nat → Bool} (h : Q i = true) : bm L (upTo (i + 1) Q) = bm L (fun n => upTo i Q n || n == i) := bm_ext fun n _ => by
  unfold upTo; by_cases e : n = i
  · subst e; simp [h]
  · have : (n < i + 1) ↔ n < i := by omega
    simp [this, e]
theorem bm_upTo_all {L : Nat} {Q : Nat → Bool} : bm L (upTo L Q) = bm L Q := bm_ext fun n hn => by simp [upTo, hn]
theorem bm_upTo_zero {L : Nat} {Q : Nat → Bool} : bm L (upTo 0 Q) = 0 := (bm_ext fun n _ => by simp [upTo]).trans (bm_none L)
theorem set3_1 {w : World} {b : Nat} {x0 x1 x2 : Value} {T : TypeId} (h : w.heap[b]? = some (.cells #[x0, x1, x2] T (0, 0))) (v : Value) : (w.setCell ⟨b, 1, none⟩ v).heap[b]? = some (.cells #[x0, v, x2] T (0, 0)) := by
  simp [World.setCell, Array.getElem?_modify, h]
theorem set3_2 {w : World} {b : Nat} {x0 x1 x2 : Value} {T : TypeId} (h : w.heap[b]? = some (.cells #[x0, x1, x2] T (0, 0))) (v : Value) : (w.setCell ⟨b, 2, none⟩ v).heap[b]? = some (.cells #[x0, x1, v] T (0, 0)) := by
  simp [World.setCell, Array.getElem?_modify, h]
theorem rowL7 (l : List Value) (h0 : l.length = 7) : ∃ x0 x1 x2 x3 x4 x5 x6, l = [x0, x1, x2, x3, x4, x5, x6] := by
  obtain ⟨x0, l1, e0, h1⟩ := cons_lenM h0; obtain ⟨x1, l2, e1, h2⟩ := cons_lenM h1; obtain ⟨x2, l3, e2, h3⟩ := cons_lenM h2; obtain ⟨x3, l4, e3, h4⟩ := cons_lenM h3; obtain ⟨x4, l5, e4, h5⟩ := cons_lenM h4; obtain ⟨x5, l6, e5, h6⟩ := cons_lenM h5; obtain ⟨x6, l7, e6, h7⟩ := cons_lenM h6; have e7 : l7 = [] := List.length_eq_zero_iff.1 h7; subst e7 e6 e5 e4 e3 e2 e1 e0; exact ⟨x0, x1, x2, x3, x4, x5, x6, rfl⟩
theorem rowL9 (l : List Value) (h0 : l.length = 9) : ∃ x0 x1 x2 x3 x4 x5 x6 x7 x8, l = [x0, x1, x2, x3, x4, x5, x6, x7, x8] := by
  obtain ⟨x0, l1, e0, h1⟩ := cons_lenM h0; obtain ⟨x1, l2, e1, h2⟩ := cons_lenM h1; obtain ⟨x2, l3, e2, h3⟩ := cons_lenM h2; obtain ⟨x3, l4, e3, h4⟩ := cons_lenM h3; obtain ⟨x4, l5, e4, h5⟩ := cons_lenM h4; obtain ⟨x5, l6, e5, h6⟩ := cons_lenM h5; obtain ⟨x6, l7, e6, h7⟩ := cons_lenM h6; obtain ⟨x7, l8, e7, h8⟩ := cons_lenM h7; obtain ⟨x8, l9, e8, h9⟩ := cons_lenM h8; have e9 : l9 = [] := List.length_eq_zero_iff.1 h9; subst e9 e8 e7 e6 e5 e4 e3 e2 e1 e0; exact ⟨x0, x1, x2, x3, x4, x5, x6, x7, x8, rfl⟩
set_option maxRecDepth 10000 in
set_option maxHeartbeats 8000000 in
theorem worldOf_any {ps : List PartM} {fs : List Fm} (ht : TabOk ps fs) (hL : ps.length ≤ 40) (T : Nat → Prop) (bt : Nat) (ns : List Nat) (h : Nat) (hh : h < 2 ^ ps.length) (w : World) (htab : TabAt w T bt ps ns) :
    Calls Try.prog 109 #[.int .u64 (h : Nat), .pointer (some ⟨bt, 0, none⟩)] w fun e w' => e = .returned (WV ps h) ∧ Below w.heap.size w w' := by
  (have HH : Hid (∀ n, n < ps.length → ∀ w, Calls Try.prog 62 #[.int .u64 (h : Nat), .int .i64 (n : Nat)] w fun e w' => e = .returned (.bool (h.testBit n)) ∧ w' = w) := fun n hn w => hasW hL hh n hn w)
  have HP : Hid (∀ n, n < ps.length → ∃ (nm : ByteArray) (kn : Nat), ∀ w', Below w.heap.size w w' → Calls Try.prog 130 #[.pointer (some ⟨bt, 0, none⟩), .int .i64 (n : Nat)] w' fun e w'' => e = .returned (.agg #[.int .i64 (pk ps n), .string nm, .int .i64 (kn : Nat), .int .i64 (pa ps n : Nat), .int .i64 (pb ps n : Nat)]) ∧ Below w'.heap.size w' w'') := fun n hn => by
    obtain ⟨nm, kn, hv⟩ := part_val (ps := ps) (n := n); (exact ⟨nm, kn, fun w' hb => partW w' T bt ps ns (htab.below hb) n hn nm kn hv⟩)
  (have HLe : Hid (∀ w', Below w.heap.size w w' → Calls Try.prog 52 #[.pointer (some ⟨bt, 0, none⟩)] w' _) := fun w' hb => plen_any w' T bt ps ns (htab.below hb)); (have HKa : Hid (∀ n, n < ps.length → pa ps n < ps.length) := fun n hn => (kids_lt ht hn).1); (have HWi : Hid (∀ (P : Nat → Bool) (x n b : Nat) (w : World), x = bm ps.length P → n < ps.length → w.cell? ⟨b, 0, none⟩ = some (.int .i64 (n : Nat)) → Calls Try.prog 32 #[.int .u64 (x : Nat), .slice (some ⟨b, 0, none⟩) 1 1] w fun e w' => e = .returned (.int .u64 (bm ps.length (fun i => P i || i == n) : Nat)) ∧ w' = w) := fun P x n b w hx hn hc => set_with1x hL P hx n b hn w hc); unfold WV; (have HWn : Hid (∀ n, wnB ps h n = (isMd ps n && (h.testBit n == decide (pk ps n = 9)))) := fun n => rfl); (have HSw : Hid (∀ n, swB ps h n = (isMd ps n && (h.testBit (pa ps n) == decide (pk ps n = 9)))) := fun n => rfl); (have HMd : Hid (∀ n, isMd ps n = (decide (pk ps n = 8) || decide (pk ps n = 9))) := fun n => rfl); generalize wnB ps h = QA at *; generalize swB ps h = QB at *; obtain ⟨L, hLe⟩ : ∃ L, L = ps.length := ⟨_, rfl⟩; (have hLI : (L : Int) ≤ 40 := by omega); rw [← hLe] at HH HP HLe HKa HWi ⊢; clear hLe hL hh htab ht; obtain ⟨W, hW⟩ : ∃ W, W = (w.alloc (.cells #[.int .u64 0, .int .u64 0, .int .u64 0] 104 (0, 0))).alloc (.cells #[.int .u64 (h : Nat), .int .u64 0, .int .u64 0] 104 (0, 0)) := ⟨_, rfl⟩; (have HB0 : Hid (Below w.heap.size w W) := by rw [hW]; exact below_more (below_more (Below.refl _ w) _) _); (have HZ0 : Hid (W.heap[w.heap.size]? = some (.cells #[.int .u64 0, .int .u64 0, .int .u64 0] 104 (0, 0))) := by rw [hW]; exact alloc_keep (blk_new _ _) _); (have H50 : Hid (W.heap[w.heap.size + 1]? = some (.cells #[.int .u64 (h : Nat), .int .u64 0, .int .u64 0] 104 (0, 0))) := by rw [hW]; exact blk_secE _ _ _)
  go_enter Try.func109, Try.ntmps109
  go_wp2_with fail; rw [← hW]; clear hW; refine (HLe.out W HB0.out).mono ?_; rintro _ w9 ⟨rfl, e9⟩
  replace e9 := e9.symm
  subst e9; go_wp2_with fail
  go_loopg [12] L (fun gg c wr => ∃ i A B, i ≤ L ∧ gg = L - i ∧ c = .int .i64 (i : Nat) ∧ Hid (A = bm L (upTo i QA) ∧ B = bm L (upTo i QB)) ∧ Hid (wr.heap[w.heap.size]? = some (.cells #[.int .u64 0, .int .u64 0, .int .u64 0] 104 (0, 0))) ∧ Hid (wr.heap[w.heap.size + 1]? = some (.cells #[.int .u64 (h : Nat), .int .u64 (A : Nat), .int .u64 (B : Nat)] 104 (0, 0))) ∧ Hid (Below w.heap.size w wr))
  case atStart => exact ⟨0, 0, 0, by omega, by omega, rfl, ⟨bm_upTo_zero.symm, bm_upTo_zero.symm⟩, HZ0, H50, HB0⟩
  case round =>
    obtain ⟨i, A, B, hi, hg, rfl, HAB, HZ, H5, HB⟩ := hrel; have HGk : Hid (gk = L - i) := hg; clear hg; by_cases hlt : i < L
    · have hltI : (i : Int) < (L : Int) := by omega
      have HIl : Hid (i < L) := hlt; obtain ⟨nm, kn, hp⟩ := HP.out i hlt; have HPi : Hid (∀ w', Below w.heap.size w w' → Calls Try.prog 130 #[.pointer (some ⟨bt, 0, none⟩), .int .i64 (i : Nat)] w' _) := hp; (have HFi : Hid (∀ w, Calls Try.prog 62 #[.int .u64 (h : Nat), .int .i64 (i : Nat)] w _) := fun w => HH.out i hlt w); (have HFa : Hid (∀ w, Calls Try.prog 62 #[.int .u64 (h : Nat), .int .i64 (pa ps i : Nat)] w _) := fun w => HH.out _ (HKa.out i hlt) w); (have HQA : Hid (QA i = ((decide (pk ps i = 8) || decide (pk ps i = 9)) && (h.testBit i == decide (pk ps i = 9)))) := by show _ = _; rw [HWn.out, HMd.out]); (have HQB : Hid (QB i = ((decide (pk ps i = 8) || decide (pk ps i = 9)) && (h.testBit (pa ps i) == decide (pk ps i = 9)))) := by show _ = _; rw [HSw.out, HMd.out]); generalize pk ps i = k at *; generalize pa ps i = ka at *; generalize pb ps i = kb at *; generalize h.testBit i = bi at *; generalize h.testBit ka = ba at *; clear hp hlt hi; go_wp2_with fail; refine (HPi.out wr HB.out).mono ?_; rintro _ w1 ⟨rfl, hb1⟩; obtain ⟨X, hX⟩ : ∃ X, X = w1.alloc (.cells #[.int .i64 k, .string nm, .int .i64 (kn : Nat), .int .i64 (ka : Nat), .int .i64 (kb : Nat)] 135 (0, 0)) := ⟨_, rfl⟩; (have hbX : Below wr.heap.size wr X := by rw [hX]; exact below_more hb1 _); have HBX : Hid (Below w.heap.size w X) := below_join HB.out hbX; (have HXp : Hid (X.heap[w1.heap.size]? = some (.cells #[.int .i64 k, .string nm, .int .i64 (kn : Nat), .int .i64 (ka : Nat), .int .i64 (kb : Nat)] 135 (0, 0))) := by rw [hX]; exact blk_new _ _); have HXz : Hid (X.heap[w.heap.size]? = some (.cells #[.int .u64 0, .int .u64 0, .int .u64 0] 104 (0, 0))) := below_keep hbX HZ.out; have HX5 : Hid (X.heap[w.heap.size + 1]? = some (.cells #[.int .u64 (h : Nat), .int .u64 (A : Nat), .int .u64 (B : Nat)] 104 (0, 0))) := below_keep hbX H5.out; (have HX1 : Hid (w.heap.size + 1 < w1.heap.size) := by have := lt_of_block H5.out; have := hb1.size; show _ < _; omega); have hXe := hX.symm; clear hb1 hbX hX HPi HZ H5 HB; obtain ⟨q0, q1, q2, q3, q4⟩ := blkP HXp.out; by_cases hm : k = 8 ∨ k = 9
      case neg =>
        (have n8 : (k != 8) = true := by simp; omega); (have n9 : (k != 9) = true := by simp; omega); (have hA : QA i = false := by rw [HQA.out]; simp; omega); (have hB : QB i = false := by rw [HQB.out]; simp; omega); have HA : Hid (QA i = false ∧ QB i = false) := ⟨hA, hB⟩; clear hm hA hB; go_wp2_with fail
        go_roundg (L - (i + 1))
        case measure => have := HGk.out; have := HIl.out; omega
        case rel => exact ⟨i + 1, A, B, HIl.out, rfl, by go_num, ⟨by rw [bm_upTo_no HA.out.1]; exact HAB.out.1, by rw [bm_upTo_no HA.out.2]; exact HAB.out.2⟩, HXz, HX5, HBX⟩
      obtain ⟨d, hd⟩ : ∃ d, d = decide (k = 9) := ⟨_, rfl⟩; (have hk9 : (k == 9) = d := by rw [hd]; rfl)
      have hor : (decide (k = 8) || d) = true := by
        rw [hd]
        rcases hm with e | e <;> simp [e]
      (have hQA : QA i = (bi == d) := by rw [HQA.out, ← hd, hor, Bool.true_and]); (have hQB : QB i = (ba == d) := by rw [HQB.out, ← hd, hor, Bool.true_and]); obtain ⟨sa, hsa⟩ : ∃ s, s = (bi == d) := ⟨_, rfl⟩; obtain ⟨sb, hsb⟩ : ∃ s, s = (ba == d) := ⟨_, rfl⟩; have HQ : Hid (QA i = sa ∧ QB i = sb) := ⟨hQA.trans hsa.symm, hQB.trans hsb.symm⟩; have HEa : Hid ((bi == d) = sa) := hsa.symm; have HEb : Hid ((ba == d) = sb) := hsb.symm; have HK9 : Hid ((k == 9) = d) := hk9
      have hcond : (k != 8) = false ∨ ((k != 8) = true ∧ (k != 9) = false) := by
        rcases hm with e | e
        · left; simp [e]
        · right; simp [e]
      clear HQA HQB hd hQA hQB hsa hsb hm hk9 hor
      rcases hcond with k8 | ⟨k8, k9⟩
      case' inl => skip
      case' inr => skip
      all_goals
        go_wp2_with fail
        try rw [hXe]
        clear hXe
        first | clear k8 k9 | clear k8
        clear q0 q1 q2 q3 q4; (refine wp_region_free (by kernel_rfl) [fun v _ => v = (.int .u64 (h : Nat)), fun v _ => v = (.int .i64 (i : Nat)), fun v _ => v = (.bool bi), fun v _ => v = (.pointer (some ⟨w1.heap.size, 0, none⟩)), fun v _ => v = (.int .i64 k), fun v _ => v = (.bool d), fun v _ => v = (.bool sa)] ?_ (by kernel_rfl) (by kernel_rfl) 56 rfl (by kernel_rfl) ?_ ?_)
        · intro p hp
          simp only [List.mem_cons, List.not_mem_nil, or_false] at hp
          rcases hp with rfl | rfl | rfl | rfl | rfl | rfl | rfl
          · exact fun _ _ _ h _ => h
          · exact fun _ _ _ h _ => h
          · exact fun _ _ _ h _ => h
          · exact fun _ _ _ h _ => h
          · exact fun _ _ _ h _ => h
          · exact fun _ _ _ h _ => h
          · exact fun _ _ _ h _ => h
        · refine ⟨?_, ?_, ?_, ?_, ?_, ?_, ?_, trivial⟩
          · intro a wx hB hold hdep K hK
            have t0 : a.tmps[0]? = some (.int .u64 (h : Nat)) := hold.2.2 0 rfl; clear hold hdep; go_simp; exact hK.out _ _ rfl (Below.refl _ _)
          · intro a wx hB hold hdep K hK
            have t6 : a.tmps[6]? = some (.int .i64 (i : Nat)) := hold.2.2 6 rfl; clear hold hdep; go_simp; exact hK.out _ _ rfl (Below.refl _ _)
          · intro a wx hB hold hdep K hK
            obtain ⟨v26, t26, p26⟩ := hdep 0 rfl _ 26 rfl rfl; have e26 : v26 = (.int .u64 (h : Nat)) := p26; subst e26; obtain ⟨v27, t27, p27⟩ := hdep 1 rfl _ 27 rfl rfl; have e27 : v27 = (.int .i64 (i : Nat)) := p27; subst e27; have HW : Hid (Calls Try.prog 62 #[.int .u64 (h : Nat), .int .i64 (i : Nat)] wx _) := HFi.out _; clear hold hdep; go_simp; refine HW.out.mono ?_; rintro _ w9 ⟨rfl, rfl⟩; go_simp; exact hK.out _ _ rfl (Below.refl _ _)
          · intro a wx hB hold hdep K hK
            have t7 : a.tmps[7]? = some (.pointer (some ⟨w1.heap.size, 0, none⟩)) := hold.2.2 7 rfl; clear hold hdep; go_simp; exact hK.out _ _ rfl (Below.refl _ _)
          · intro a wx hB hold hdep K hK
            obtain ⟨v29, t29, p29⟩ := hdep 3 rfl _ 29 rfl rfl; have e29 : v29 = (.pointer (some ⟨w1.heap.size, 0, none⟩)) := p29; subst e29; obtain ⟨q0, q1, q2, q3, q4⟩ := blkP (below_keep hB HXp.out); clear hold hdep; go_simp; exact hK.out _ _ rfl (Below.refl _ _)
          · intro a wx hB hold hdep K hK
            obtain ⟨v30, t30, p30⟩ := hdep 4 rfl _ 30 rfl rfl; have e30 : v30 = (.int .i64 k) := p30; subst e30; have h9 := HK9.out; clear hold hdep; go_simp; exact hK.out _ _ rfl (Below.refl _ _)
          · intro a wx hB hold hdep K hK
            obtain ⟨v28, t28, p28⟩ := hdep 2 rfl _ 28 rfl rfl; have e28 : v28 = (.bool bi) := p28; subst e28; obtain ⟨v31, t31, p31⟩ := hdep 5 rfl _ 31 rfl rfl; have e31 : v31 = (.bool d) := p31; subst e31; have h9 := HEa.out; clear hold hdep; go_simp; exact hK.out _ _ rfl (Below.refl _ _)
        · intro a wx hB hold hgot
          obtain ⟨vZ, tvZ, pvZ⟩ := hgot 6 _ 32 rfl rfl; have evZ : vZ = (.bool sa) := pvZ; subst evZ; have HBx : Hid (Below X.heap.size X wx) := hB; obtain ⟨tm, df⟩ := a; (obtain ⟨ys, hys, htm, rfl⟩ := frame_mid2 26 7 (by kernel_rfl) (Nat.le_of_ble_eq_true rfl) hold); obtain ⟨x26, x27, x28, x29, x30, x31, x32, rfl⟩ := rowL7 ys hys; simp only [List.take_succ_cons, List.take_zero, List.drop_succ_cons, List.drop_zero, List.cons_append, List.nil_append] at htm; subst htm; obtain rfl : x32 = _ := someInjM tvZ; clear hys hold hgot tvZ hB; obtain ⟨V7, hV7⟩ : ∃ V, V = wx := ⟨_, rfl⟩; subst hV7; have HV7p : Hid (V7.heap[w1.heap.size]? = some (.cells #[.int .i64 k, .string nm, .int .i64 (kn : Nat), .int .i64 (ka : Nat), .int .i64 (kb : Nat)] 135 (0, 0))) := below_keep HBx.out HXp.out; have HV7z : Hid (V7.heap[w.heap.size]? = some (.cells #[.int .u64 0, .int .u64 0, .int .u64 0] 104 (0, 0))) := below_keep HBx.out HXz.out; have HV75 : Hid (V7.heap[w.heap.size + 1]? = some (.cells #[.int .u64 (h : Nat), .int .u64 (A : Nat), .int .u64 (B : Nat)] 104 (0, 0))) := below_keep HBx.out HX5.out; have HV7B : Hid (Below w.heap.size w V7) := below_join HBX.out HBx.out; clear HBx
          cases sa
          · go_wp2_with fail
            (refine wp_region_free (by kernel_rfl) [fun v _ => v = (.int .u64 (h : Nat)), fun v _ => v = (.pointer (some ⟨w1.heap.size, 3, none⟩)), fun v _ => v = (.pointer (some ⟨w1.heap.size, 3, none⟩)), fun v _ => v = (.int .i64 (ka : Nat)), fun v _ => v = (.bool ba), fun v _ => v = (.pointer (some ⟨w1.heap.size, 0, none⟩)), fun v _ => v = (.int .i64 k), fun v _ => v = (.bool d), fun v _ => v = (.bool sb)] ?_ (by kernel_rfl) (by kernel_rfl) 56 rfl (by kernel_rfl) ?_ ?_)
            · intro p hp
              simp only [List.mem_cons, List.not_mem_nil, or_false] at hp
              rcases hp with rfl | rfl | rfl | rfl | rfl | rfl | rfl | rfl | rfl
              · exact fun _ _ _ h _ => h
              · exact fun _ _ _ h _ => h
              · exact fun _ _ _ h _ => h
              · exact fun _ _ _ h _ => h
              · exact fun _ _ _ h _ => h
              · exact fun _ _ _ h _ => h
              · exact fun _ _ _ h _ => h
              · exact fun _ _ _ h _ => h
              · exact fun _ _ _ h _ => h
            · refine ⟨?_, ?_, ?_, ?_, ?_, ?_, ?_, ?_, ?_, trivial⟩
              · intro a wx hB hold hdep K hK
                have t0 : a.tmps[0]? = some (.int .u64 (h : Nat)) := hold.2.2 0 rfl; clear hold hdep; go_simp; exact hK.out _ _ rfl (Below.refl _ _)
              · intro a wx hB hold hdep K hK
                have t7 : a.tmps[7]? = some (.pointer (some ⟨w1.heap.size, 0, none⟩)) := hold.2.2 7 rfl; clear hold hdep; go_simp; exact hK.out _ _ rfl (Below.refl _ _)
              · intro a wx hB hold hdep K hK
                obtain ⟨v40, t40, p40⟩ := hdep 1 rfl _ 40 rfl rfl; have e40 : v40 = (.pointer (some ⟨w1.heap.size, 3, none⟩)) := p40; subst e40; clear hold hdep; go_simp; exact hK.out _ _ rfl (Below.refl _ _)
              · intro a wx hB hold hdep K hK
                obtain ⟨v41, t41, p41⟩ := hdep 2 rfl _ 41 rfl rfl; have e41 : v41 = (.pointer (some ⟨w1.heap.size, 3, none⟩)) := p41; subst e41; obtain ⟨q0, q1, q2, q3, q4⟩ := blkP (below_keep hB HV7p.out); clear hold hdep; go_simp; exact hK.out _ _ rfl (Below.refl _ _)
              · intro a wx hB hold hdep K hK
                obtain ⟨v39, t39, p39⟩ := hdep 0 rfl _ 39 rfl rfl; have e39 : v39 = (.int .u64 (h : Nat)) := p39; subst e39; obtain ⟨v42, t42, p42⟩ := hdep 3 rfl _ 42 rfl rfl; have e42 : v42 = (.int .i64 (ka : Nat)) := p42; subst e42; have HW : Hid (Calls Try.prog 62 #[.int .u64 (h : Nat), .int .i64 (ka : Nat)] wx _) := HFa.out _; clear hold hdep; go_simp; refine HW.out.mono ?_; rintro _ w9 ⟨rfl, rfl⟩; go_simp; exact hK.out _ _ rfl (Below.refl _ _)
              · intro a wx hB hold hdep K hK
                have t7 : a.tmps[7]? = some (.pointer (some ⟨w1.heap.size, 0, none⟩)) := hold.2.2 7 rfl; clear hold hdep; go_simp; exact hK.out _ _ rfl (Below.refl _ _)
              · intro a wx hB hold hdep K hK
                obtain ⟨v44, t44, p44⟩ := hdep 5 rfl _ 44 rfl rfl; have e44 : v44 = (.pointer (some ⟨w1.heap.size, 0, none⟩)) := p44; subst e44; obtain ⟨q0, q1, q2, q3, q4⟩ := blkP (below_keep hB HV7p.out); clear hold hdep; go_simp; exact hK.out _ _ rfl (Below.refl _ _)
              · intro a wx hB hold hdep K hK
                obtain ⟨v45, t45, p45⟩ := hdep 6 rfl _ 45 rfl rfl; have e45 : v45 = (.int .i64 k) := p45; subst e45; have h9 := HK9.out; clear hold hdep; go_simp; exact hK.out _ _ rfl (Below.refl _ _)
              · intro a wx hB hold hdep K hK
                obtain ⟨v43, t43, p43⟩ := hdep 4 rfl _ 43 rfl rfl; have e43 : v43 = (.bool ba) := p43; subst e43; obtain ⟨v46, t46, p46⟩ := hdep 7 rfl _ 46 rfl rfl; have e46 : v46 = (.bool d) := p46; subst e46; have h9 := HEb.out; clear hold hdep; go_simp; exact hK.out _ _ rfl (Below.refl _ _)
            · intro a wx hB hold hgot
              obtain ⟨vZ, tvZ, pvZ⟩ := hgot 8 _ 47 rfl rfl; have evZ : vZ = (.bool sb) := pvZ; subst evZ; have HBx : Hid (Below V7.heap.size V7 wx) := hB; obtain ⟨tm, df⟩ := a; (obtain ⟨ys, hys, htm, rfl⟩ := frame_mid2 39 9 (by kernel_rfl) (Nat.le_of_ble_eq_true rfl) hold); obtain ⟨x39, x40, x41, x42, x43, x44, x45, x46, x47, rfl⟩ := rowL9 ys hys; simp only [List.take_succ_cons, List.take_zero, List.drop_succ_cons, List.drop_zero, List.cons_append, List.nil_append] at htm; subst htm; obtain rfl : x47 = _ := someInjM tvZ; clear hys hold hgot tvZ hB; obtain ⟨V9, hV9⟩ : ∃ V, V = wx := ⟨_, rfl⟩; subst hV9; have HV9p : Hid (V9.heap[w1.heap.size]? = some (.cells #[.int .i64 k, .string nm, .int .i64 (kn : Nat), .int .i64 (ka : Nat), .int .i64 (kb : Nat)] 135 (0, 0))) := below_keep HBx.out HV7p.out; have HV9z : Hid (V9.heap[w.heap.size]? = some (.cells #[.int .u64 0, .int .u64 0, .int .u64 0] 104 (0, 0))) := below_keep HBx.out HV7z.out; have HV95 : Hid (V9.heap[w.heap.size + 1]? = some (.cells #[.int .u64 (h : Nat), .int .u64 (A : Nat), .int .u64 (B : Nat)] 104 (0, 0))) := below_keep HBx.out HV75.out; have HV9B : Hid (Below w.heap.size w V9) := below_join HV7B.out HBx.out; clear HBx
              cases sb
              · go_wp2_with fail
                go_roundg (L - (i + 1))
                case measure => have := HGk.out; have := HIl.out; omega
                case rel =>
                  (refine ⟨i + 1, A, B, HIl.out, rfl, by go_num, ⟨?_, ?_⟩, HV9z, HV95, HV9B⟩)
                  · show _ = _
                    rw [bm_upTo_no HQ.out.1]; exact HAB.out.1
                  · show _ = _
                    rw [bm_upTo_no HQ.out.2]; exact HAB.out.2
              · obtain ⟨u0, u1, u2, u3, u4, u5⟩ := blk3 HV95.out
                go_wp2_with fail; refine (HWi.out (upTo i QB) B i V9.heap.size _ HAB.out.2 HIl.out ?_).mono ?_
                · exact blk_cell (blk_new _ _) 0
                rintro _ w9 ⟨rfl, e9⟩; obtain ⟨G, hG⟩ : ∃ G, G = V9.alloc (.cells #[.int .i64 (i : Nat)] 3 (0, 0)) := ⟨_, rfl⟩; rw [← hG] at e9; (have hbG : Below V9.heap.size V9 G := by rw [hG]; exact below_more (Below.refl _ _) _)
                replace e9 := e9.symm
                subst e9; have HG5 : Hid (G.heap[w.heap.size + 1]? = some (.cells #[.int .u64 (h : Nat), .int .u64 (A : Nat), .int .u64 (B : Nat)] 104 (0, 0))) := below_keep hbG HV95.out; have HGz : Hid (G.heap[w.heap.size]? = some (.cells #[.int .u64 0, .int .u64 0, .int .u64 0] 104 (0, 0))) := below_keep hbG HV9z.out; have HGp : Hid (G.heap[w1.heap.size]? = some (.cells #[.int .i64 k, .string nm, .int .i64 (kn : Nat), .int .i64 (ka : Nat), .int .i64 (kb : Nat)] 135 (0, 0))) := below_keep hbG HV9p.out; have HGB : Hid (Below w.heap.size w G) := below_join HV9B.out hbG; clear hG hbG u0 u1 u2 u3 u4 u5; obtain ⟨u0, u1, u2, u3, u4, u5⟩ := blk3 HG5.out; (obtain ⟨U2, hU⟩ : ∃ U, U = G.setCell ⟨w.heap.size + 1, 2, none⟩ (.int .u64 (bm L (fun n => upTo i QB n || n == i) : Nat)) := ⟨_, rfl⟩); (have HU25 : Hid (U2.heap[w.heap.size + 1]? = some (.cells #[.int .u64 (h : Nat), .int .u64 (A : Nat), .int .u64 (bm L (fun n => upTo i QB n || n == i) : Nat)] 104 (0, 0))) := by rw [hU]; exact set3_2 HG5.out _); (have HU2z : Hid (U2.heap[w.heap.size]? = some (.cells #[.int .u64 0, .int .u64 0, .int .u64 0] 104 (0, 0))) := by show _ = _; rw [hU, farM (by omega)]; exact HGz.out); (have HU2p : Hid (U2.heap[w1.heap.size]? = some (.cells #[.int .i64 k, .string nm, .int .i64 (kn : Nat), .int .i64 (ka : Nat), .int .i64 (kb : Nat)] 135 (0, 0))) := by show _ = _; rw [hU, farM (by have := HX1.out; omega)]; exact HGp.out); (have HU2B : Hid (Below w.heap.size w U2) := by rw [hU]; exact HGB.out.setCell (p := ⟨w.heap.size + 1, 2, none⟩) (by show w.heap.size ≤ w.heap.size + 1; omega) _); have hUe := hU.symm; clear hU HG5 HGz HGp HGB; go_wp2_with fail; clear u0 u1 u2 u3 u4 u5 hUe
                go_roundg (L - (i + 1))
                case measure => have := HGk.out; have := HIl.out; omega
                case rel =>
                  (refine ⟨i + 1, A, bm L (fun n => upTo i QB n || n == i), HIl.out, rfl, by go_num, ⟨?_, ?_⟩, HU2z, HU25, HU2B⟩)
                  · show _ = _
                    rw [bm_upTo_no HQ.out.1]; exact HAB.out.1
                  · show _ = _
                    rw [bm_upTo_yes HQ.out.2]
          · obtain ⟨u0, u1, u2, u3, u4, u5⟩ := blk3 HV75.out
            go_wp2_with fail; refine (HWi.out (upTo i QA) A i V7.heap.size _ HAB.out.1 HIl.out ?_).mono ?_
            · exact blk_cell (blk_new _ _) 0
            rintro _ w9 ⟨rfl, e9⟩; obtain ⟨G, hG⟩ : ∃ G, G = V7.alloc (.cells #[.int .i64 (i : Nat)] 3 (0, 0)) := ⟨_, rfl⟩; rw [← hG] at e9; (have hbG : Below V7.heap.size V7 G := by rw [hG]; exact below_more (Below.refl _ _) _)
            replace e9 := e9.symm
            subst e9; have HG5 : Hid (G.heap[w.heap.size + 1]? = some (.cells #[.int .u64 (h : Nat), .int .u64 (A : Nat), .int .u64 (B : Nat)] 104 (0, 0))) := below_keep hbG HV75.out; have HGz : Hid (G.heap[w.heap.size]? = some (.cells #[.int .u64 0, .int .u64 0, .int .u64 0] 104 (0, 0))) := below_keep hbG HV7z.out; have HGp : Hid (G.heap[w1.heap.size]? = some (.cells #[.int .i64 k, .string nm, .int .i64 (kn : Nat), .int .i64 (ka : Nat), .int .i64 (kb : Nat)] 135 (0, 0))) := below_keep hbG HV7p.out; have HGB : Hid (Below w.heap.size w G) := below_join HV7B.out hbG; clear hG hbG u0 u1 u2 u3 u4 u5; obtain ⟨u0, u1, u2, u3, u4, u5⟩ := blk3 HG5.out; (obtain ⟨U1, hU⟩ : ∃ U, U = G.setCell ⟨w.heap.size + 1, 1, none⟩ (.int .u64 (bm L (fun n => upTo i QA n || n == i) : Nat)) := ⟨_, rfl⟩); (have HU15 : Hid (U1.heap[w.heap.size + 1]? = some (.cells #[.int .u64 (h : Nat), .int .u64 (bm L (fun n => upTo i QA n || n == i) : Nat), .int .u64 (B : Nat)] 104 (0, 0))) := by rw [hU]; exact set3_1 HG5.out _); (have HU1z : Hid (U1.heap[w.heap.size]? = some (.cells #[.int .u64 0, .int .u64 0, .int .u64 0] 104 (0, 0))) := by show _ = _; rw [hU, farM (by omega)]; exact HGz.out); (have HU1p : Hid (U1.heap[w1.heap.size]? = some (.cells #[.int .i64 k, .string nm, .int .i64 (kn : Nat), .int .i64 (ka : Nat), .int .i64 (kb : Nat)] 135 (0, 0))) := by show _ = _; rw [hU, farM (by have := HX1.out; omega)]; exact HGp.out); (have HU1B : Hid (Below w.heap.size w U1) := by rw [hU]; exact HGB.out.setCell (p := ⟨w.heap.size + 1, 1, none⟩) (by show w.heap.size ≤ w.heap.size + 1; omega) _); have hUe := hU.symm; clear hU HG5 HGz HGp HGB; go_wp2_with fail; clear u0 u1 u2 u3 u4 u5 hUe; (refine wp_region_free (by kernel_rfl) [fun v _ => v = (.int .u64 (h : Nat)), fun v _ => v = (.pointer (some ⟨w1.heap.size, 3, none⟩)), fun v _ => v = (.pointer (some ⟨w1.heap.size, 3, none⟩)), fun v _ => v = (.int .i64 (ka : Nat)), fun v _ => v = (.bool ba), fun v _ => v = (.pointer (some ⟨w1.heap.size, 0, none⟩)), fun v _ => v = (.int .i64 k), fun v _ => v = (.bool d), fun v _ => v = (.bool sb)] ?_ (by kernel_rfl) (by kernel_rfl) 56 rfl (by kernel_rfl) ?_ ?_)
            · intro p hp
              simp only [List.mem_cons, List.not_mem_nil, or_false] at hp
              rcases hp with rfl | rfl | rfl | rfl | rfl | rfl | rfl | rfl | rfl
              · exact fun _ _ _ h _ => h
              · exact fun _ _ _ h _ => h
              · exact fun _ _ _ h _ => h
              · exact fun _ _ _ h _ => h
              · exact fun _ _ _ h _ => h
              · exact fun _ _ _ h _ => h
              · exact fun _ _ _ h _ => h
              · exact fun _ _ _ h _ => h
              · exact fun _ _ _ h _ => h
            · refine ⟨?_, ?_, ?_, ?_, ?_, ?_, ?_, ?_, ?_, trivial⟩
              · intro a wx hB hold hdep K hK
                have t0 : a.tmps[0]? = some (.int .u64 (h : Nat)) := hold.2.2 0 rfl; clear hold hdep; go_simp; exact hK.out _ _ rfl (Below.refl _ _)
              · intro a wx hB hold hdep K hK
                have t7 : a.tmps[7]? = some (.pointer (some ⟨w1.heap.size, 0, none⟩)) := hold.2.2 7 rfl; clear hold hdep; go_simp; exact hK.out _ _ rfl (Below.refl _ _)
              · intro a wx hB hold hdep K hK
                obtain ⟨v40, t40, p40⟩ := hdep 1 rfl _ 40 rfl rfl; have e40 : v40 = (.pointer (some ⟨w1.heap.size, 3, none⟩)) := p40; subst e40; clear hold hdep; go_simp; exact hK.out _ _ rfl (Below.refl _ _)
              · intro a wx hB hold hdep K hK
                obtain ⟨v41, t41, p41⟩ := hdep 2 rfl _ 41 rfl rfl; have e41 : v41 = (.pointer (some ⟨w1.heap.size, 3, none⟩)) := p41; subst e41; obtain ⟨q0, q1, q2, q3, q4⟩ := blkP (below_keep hB HU1p.out); clear hold hdep; go_simp; exact hK.out _ _ rfl (Below.refl _ _)
              · intro a wx hB hold hdep K hK
                obtain ⟨v39, t39, p39⟩ := hdep 0 rfl _ 39 rfl rfl; have e39 : v39 = (.int .u64 (h : Nat)) := p39; subst e39; obtain ⟨v42, t42, p42⟩ := hdep 3 rfl _ 42 rfl rfl; have e42 : v42 = (.int .i64 (ka : Nat)) := p42; subst e42; have HW : Hid (Calls Try.prog 62 #[.int .u64 (h : Nat), .int .i64 (ka : Nat)] wx _) := HFa.out _; clear hold hdep; go_simp; refine HW.out.mono ?_; rintro _ w9 ⟨rfl, rfl⟩; go_simp; exact hK.out _ _ rfl (Below.refl _ _)
              · intro a wx hB hold hdep K hK
                have t7 : a.tmps[7]? = some (.pointer (some ⟨w1.heap.size, 0, none⟩)) := hold.2.2 7 rfl; clear hold hdep; go_simp; exact hK.out _ _ rfl (Below.refl _ _)
              · intro a wx hB hold hdep K hK
                obtain ⟨v44, t44, p44⟩ := hdep 5 rfl _ 44 rfl rfl; have e44 : v44 = (.pointer (some ⟨w1.heap.size, 0, none⟩)) := p44; subst e44; obtain ⟨q0, q1, q2, q3, q4⟩ := blkP (below_keep hB HU1p.out); clear hold hdep; go_simp; exact hK.out _ _ rfl (Below.refl _ _)
              · intro a wx hB hold hdep K hK
                obtain ⟨v45, t45, p45⟩ := hdep 6 rfl _ 45 rfl rfl; have e45 : v45 = (.int .i64 k) := p45; subst e45; have h9 := HK9.out; clear hold hdep; go_simp; exact hK.out _ _ rfl (Below.refl _ _)
              · intro a wx hB hold hdep K hK
                obtain ⟨v43, t43, p43⟩ := hdep 4 rfl _ 43 rfl rfl; have e43 : v43 = (.bool ba) := p43; subst e43; obtain ⟨v46, t46, p46⟩ := hdep 7 rfl _ 46 rfl rfl; have e46 : v46 = (.bool d) := p46; subst e46; have h9 := HEb.out; clear hold hdep; go_simp; exact hK.out _ _ rfl (Below.refl _ _)
            · intro a wx hB hold hgot
              obtain ⟨vZ, tvZ, pvZ⟩ := hgot 8 _ 47 rfl rfl; have evZ : vZ = (.bool sb) := pvZ; subst evZ; have HBx : Hid (Below U1.heap.size U1 wx) := hB; obtain ⟨tm, df⟩ := a; (obtain ⟨ys, hys, htm, rfl⟩ := frame_mid2 39 9 (by kernel_rfl) (Nat.le_of_ble_eq_true rfl) hold); obtain ⟨x39, x40, x41, x42, x43, x44, x45, x46, x47, rfl⟩ := rowL9 ys hys; simp only [List.take_succ_cons, List.take_zero, List.drop_succ_cons, List.drop_zero, List.cons_append, List.nil_append] at htm; subst htm; obtain rfl : x47 = _ := someInjM tvZ; clear hys hold hgot tvZ hB; obtain ⟨V9, hV9⟩ : ∃ V, V = wx := ⟨_, rfl⟩; subst hV9; have HV9p : Hid (V9.heap[w1.heap.size]? = some (.cells #[.int .i64 k, .string nm, .int .i64 (kn : Nat), .int .i64 (ka : Nat), .int .i64 (kb : Nat)] 135 (0, 0))) := below_keep HBx.out HU1p.out; have HV9z : Hid (V9.heap[w.heap.size]? = some (.cells #[.int .u64 0, .int .u64 0, .int .u64 0] 104 (0, 0))) := below_keep HBx.out HU1z.out; (have HV95 : Hid (V9.heap[w.heap.size + 1]? = some (.cells #[.int .u64 (h : Nat), .int .u64 (bm L (fun n => upTo i QA n || n == i) : Nat), .int .u64 (B : Nat)] 104 (0, 0))) := below_keep HBx.out HU15.out); have HV9B : Hid (Below w.heap.size w V9) := below_join HU1B.out HBx.out; clear HBx
              cases sb
              · go_wp2_with fail
                go_roundg (L - (i + 1))
                case measure => have := HGk.out; have := HIl.out; omega
                case rel =>
                  (refine ⟨i + 1, bm L (fun n => upTo i QA n || n == i), B, HIl.out, rfl, by go_num, ⟨?_, ?_⟩, HV9z, HV95, HV9B⟩)
                  · show _ = _
                    rw [bm_upTo_yes HQ.out.1]
                  · show _ = _
                    rw [bm_upTo_no HQ.out.2]; exact HAB.out.2
              · obtain ⟨u0, u1, u2, u3, u4, u5⟩ := blk3 HV95.out
                go_wp2_with fail; refine (HWi.out (upTo i QB) B i V9.heap.size _ HAB.out.2 HIl.out ?_).mono ?_
                · exact blk_cell (blk_new _ _) 0
                rintro _ w9 ⟨rfl, e9⟩; obtain ⟨G, hG⟩ : ∃ G, G = V9.alloc (.cells #[.int .i64 (i : Nat)] 3 (0, 0)) := ⟨_, rfl⟩; rw [← hG] at e9; (have hbG : Below V9.heap.size V9 G := by rw [hG]; exact below_more (Below.refl _ _) _)
                replace e9 := e9.symm
                subst e9; (have HG5 : Hid (G.heap[w.heap.size + 1]? = some (.cells #[.int .u64 (h : Nat), .int .u64 (bm L (fun n => upTo i QA n || n == i) : Nat), .int .u64 (B : Nat)] 104 (0, 0))) := below_keep hbG HV95.out); have HGz : Hid (G.heap[w.heap.size]? = some (.cells #[.int .u64 0, .int .u64 0, .int .u64 0] 104 (0, 0))) := below_keep hbG HV9z.out; have HGp : Hid (G.heap[w1.heap.size]? = some (.cells #[.int .i64 k, .string nm, .int .i64 (kn : Nat), .int .i64 (ka : Nat), .int .i64 (kb : Nat)] 135 (0, 0))) := below_keep hbG HV9p.out; have HGB : Hid (Below w.heap.size w G) := below_join HV9B.out hbG; clear hG hbG u0 u1 u2 u3 u4 u5; obtain ⟨u0, u1, u2, u3, u4, u5⟩ := blk3 HG5.out; (obtain ⟨U2, hU⟩ : ∃ U, U = G.setCell ⟨w.heap.size + 1, 2, none⟩ (.int .u64 (bm L (fun n => upTo i QB n || n == i) : Nat)) := ⟨_, rfl⟩); (have HU25 : Hid (U2.heap[w.heap.size + 1]? = some (.cells #[.int .u64 (h : Nat), .int .u64 (bm L (fun n => upTo i QA n || n == i) : Nat), .int .u64 (bm L (fun n => upTo i QB n || n == i) : Nat)] 104 (0, 0))) := by rw [hU]; exact set3_2 HG5.out _); (have HU2z : Hid (U2.heap[w.heap.size]? = some (.cells #[.int .u64 0, .int .u64 0, .int .u64 0] 104 (0, 0))) := by show _ = _; rw [hU, farM (by omega)]; exact HGz.out); (have HU2p : Hid (U2.heap[w1.heap.size]? = some (.cells #[.int .i64 k, .string nm, .int .i64 (kn : Nat), .int .i64 (ka : Nat), .int .i64 (kb : Nat)] 135 (0, 0))) := by show _ = _; rw [hU, farM (by have := HX1.out; omega)]; exact HGp.out); (have HU2B : Hid (Below w.heap.size w U2) := by rw [hU]; exact HGB.out.setCell (p := ⟨w.heap.size + 1, 2, none⟩) (by show w.heap.size ≤ w.heap.size + 1; omega) _); have hUe := hU.symm; clear hU HG5 HGz HGp HGB; go_wp2_with fail; clear u0 u1 u2 u3 u4 u5 hUe
                go_roundg (L - (i + 1))
                case measure => have := HGk.out; have := HIl.out; omega
                case rel =>
                  (refine ⟨i + 1, bm L (fun n => upTo i QA n || n == i), bm L (fun n => upTo i QB n || n == i), HIl.out, rfl, by go_num, ⟨?_, ?_⟩, HU2z, HU25, HU2B⟩)
                  · show _ = _
                    rw [bm_upTo_yes HQ.out.1]
                  · show _ = _
                    rw [bm_upTo_yes HQ.out.2]
    · have hii : i = L := by omega
      subst hii; (have hge : ¬ (i : Int) < (i : Int) := by omega); clear hlt hi; obtain ⟨z0, z1, z2, z3, z4, z5⟩ := blk3 HZ.out; obtain ⟨y0, y1, y2, -⟩ := blk3 H5.out; obtain ⟨F, hF⟩ : ∃ F, F = ((wr.setCell ⟨w.heap.size, 0, none⟩ (.int .u64 (h : Nat))).setCell ⟨w.heap.size, 1, none⟩ (.int .u64 (A : Nat))).setCell ⟨w.heap.size, 2, none⟩ (.int .u64 (B : Nat)) := ⟨_, rfl⟩; (have HF : Hid (F.heap[w.heap.size]? = some (.cells #[.int .u64 (h : Nat), .int .u64 (A : Nat), .int .u64 (B : Nat)] 104 (0, 0))) := by rw [hF]; exact set3M HZ.out _ _ _); (have HFB : Hid (Below w.heap.size w F) := by rw [hF]; exact ((HB.out.setCell (p := ⟨w.heap.size, 0, none⟩) (Nat.le_refl _) _).setCell (p := ⟨w.heap.size, 1, none⟩) (Nat.le_refl _) _).setCell (p := ⟨w.heap.size, 2, none⟩) (Nat.le_refl _) _); have hFe := hF.symm; clear hF; go_wp2_with fail; clear z0 z1 z2 z3 z4 z5 y0 y1 y2; obtain ⟨c0, c1, c2, -⟩ := blk3 HF.out; (refine bodyPost_ret (v := .agg #[.int .u64 (h : Nat), .int .u64 (A : Nat), .int .u64 (B : Nat)]) (by simp [results, Try.results109, go_sem, c0, c1, c2]) rfl ⟨?_, HFB.out⟩); rw [HAB.out.1, HAB.out.2, bm_upTo_all, bm_upTo_all]
end Go.Proofs.Ytmahgfgndfcmpag
