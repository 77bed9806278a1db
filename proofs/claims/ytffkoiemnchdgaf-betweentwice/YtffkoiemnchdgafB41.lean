/- Texts of one proof, one behind the other: BL3, BL4, BL5. -/
import Derived.Test.YtffkoiemnchdgafB39
import Derived.Test.YtffkoiemnchdgafB15
import Derived.Test.YtffkoiemnchdgafB25
import Derived.Test.YtffkoiemnchdgafB40
/- Walks: the laws' own helpers between formulas: Vast of what is small, betweenFault, Texts. -/
namespace Go.Proofs.Ytffkoiemnchdgaf
open Go.RowKit Go.Sort

theorem len_sizesB : ∀ ks : List Fm, ks.length ≤ Fm.sizes ks
  | [] => by simp
  | f :: fs => by
    have := len_sizesB fs; (have h1 : 1 ≤ f.size := by cases f; rw [Fm.size]; omega); rw [Fm.sizes, List.length_cons]; omega
/-- A bool is answered; where it is true, the formula is large. -/
def IsVB (deep : Int) (f : Fm) (e : Ending) : Prop := ∃ b, e = .returned (.bool b) ∧ (b = true → 25000 < deep + (f.size : Int))
def VastsB (m : Nat) : Prop := ∀ (f : Fm) (v : Value) (deep : Int) (w : World), f.size < m → 0 ≤ deep → deep ≤ 25001 → Rep w (fun _ => True) f v →
  Calls Try.prog 9 #[v, .int .i64 deep] w fun e w' => IsVB deep f e ∧ Below w.heap.size w w'

set_option maxHeartbeats 1000000 in
theorem vastB_step (m : Nat) (ih : VastsB m) : VastsB (m + 1) := by
  intro f v deep w hm hd0 hd hrep; obtain ⟨k, n, ks⟩ := f; obtain ⟨sl, cap, rfl, hx1, hx2, hx3, hx4⟩ := Rep.def.1 hrep; (have HX : Hid (ks ≠ [] → ∃ b off, sl = some ⟨b, off, none⟩ ∧ True ∧ Reps w (fun _ => True) b off ks) := hx4); clear hx4; have hb0 : Below w.heap.size w (w.alloc (.cells #[.int .i64 k, .string n, .slice sl ks.length cap] 24 (0, 0))) := (Below.refl _ _).alloc (Nat.le_refl _) _; (have hlen : ((ks.length : Nat) : Int) ≤ 9223372036854775807 := by unfold maxLen at hx3; omega); by_cases h1 : 25000 < deep
  · go_enter Try.func9, Try.ntmps9
    go_wp2_with fail; go_ret; (exact ⟨⟨_, rfl, fun _ => by omega⟩, hb0⟩)
  · by_cases h2 : 25000 < ks.length
    · have h2' : (25000 : Int) < (ks.length : Int) := by omega
      go_enter Try.func9, Try.ntmps9
      go_wp2_with fail; go_ret; (refine ⟨⟨_, rfl, fun _ => ?_⟩, hb0⟩); have := len_sizesB ks; rw [Fm.size]; omega
    · have h2' : (ks.length : Int) ≤ 25000 := by omega
      (have h1' : deep ≤ 25000 := by omega); clear h1 h2
      go_enter Try.func9, Try.ntmps9
      go_wp2_with fail
      go_loopg [5] ks.length (fun g c wr => ∃ i, i ≤ ks.length ∧ g = ks.length - i ∧ c = .int .i64 (i : Nat) ∧ Below w.heap.size w wr ∧ wr.heap[w.heap.size]? = some (.cells #[.int .i64 k, .string n, .slice sl ks.length cap] 24 (0, 0)))
      case atStart => exact ⟨0, by omega, by omega, rfl, hb0, blk_new _ _⟩
      case round =>
        obtain ⟨i, hi, hg, rfl, hbr, q0⟩ := hrel; have HG : Hid (gk = ks.length - i) := hg; clear hg; have f2 := blk_cell q0 2; simp at f2; by_cases hlt : i < ks.length
        · obtain ⟨b, off, hsl, -, hrs⟩ := HX.out (fun e => by rw [e] at hlt; simp at hlt)
          subst hsl; obtain ⟨⟨k2, n2, ks2⟩, hki⟩ : ∃ f, ks[i]? = some f := ⟨_, List.getElem?_eq_getElem hlt⟩; obtain ⟨sl2, cap2, g0, g1, g2, hrep2⟩ := (hrs.up hbr).at i k2 n2 ks2 hki; (have hlt2 : (i : Int) < (ks.length : Int) := by omega); (have hsz : (Fm.mk k2 n2 ks2).size < m := by have := sizes_get hki; rw [Fm.size] at hm; omega); have z0 := lt_of_block q0; have zz := hbr.size; have HK : Hid ((Fm.mk k2 n2 ks2).size ≤ Fm.sizes ks) := sizes_get hki; clear hki hrs hrep HX hb0
          go_wp2_with (first
            | (go_at_call 9
               (refine (ih _ _ _ _ hsz (by omega) (by omega) hrep2).mono ?_); rintro e w1 ⟨⟨bb, rfl, hbb⟩, hb1⟩
               cases bb
               case' true =>
                 have HB : Hid (25000 < deep + 1 + ((Fm.mk k2 n2 ks2).size : Int)) := hbb rfl; clear hbb
               case' false => clear hbb)
            | fail)
          · have z1 := hb1.size
            go_roundg (ks.length - (i + 1))
            case measure => have := HG.out; omega
            case rel => exact ⟨i + 1, by omega, rfl, by go_num, hbr.trans (hb1.mono zz), (hb1.block _ z0).trans q0⟩
          · go_ret
            (refine ⟨⟨_, rfl, fun _ => ?_⟩, hbr.trans (hb1.mono zz)⟩); have h1 := HB.out; have h2 := HK.out; rw [Fm.size]; omega
        · go_wp2_with fail
          go_ret; (exact ⟨⟨_, rfl, fun h => (by cases h)⟩, hbr⟩)

theorem vastsB_all : ∀ m, VastsB m
  | 0 => fun _ _ _ _ h => absurd h (Nat.not_lt_zero _)
  | m + 1 => vastB_step m (vastsB_all m)

theorem vastB_no (f : Fm) (hs : f.size ≤ 20000) (v : Value) (w : World) (hrep : Rep w (fun _ => True) f v) :
    Calls Try.prog 9 #[v, .int .i64 0] w fun e w' => e = .returned (.bool false) ∧ Below w.heap.size w w' := by
  (refine (vastsB_all (f.size + 1) f v 0 w (Nat.lt_succ_self _) (by omega) (by omega) hrep).mono ?_); rintro e w' ⟨⟨b, rfl, hb⟩, h⟩
  cases b
  · exact ⟨rfl, h⟩
  · have := hb rfl; omega

set_option maxRecDepth 10000 in
set_option maxHeartbeats 4000000 in
theorem bfault_any (fs : List Fm) (hl : fs.length ≤ 10) (v : Value) (w : World) (hv : FL w v fs) :
    Calls Try.prog 10 #[v] w fun e w' => e = .returned (.agg #[.int .i64 (tgcode fs).1, .int .i64 (tgcode fs).2]) ∧ Below w.heap.size w w' := by
  (have hpf := fun v W h => plainR_any fs (by omega) v W h); have HV : Hid (FL w v fs) := hv; (have HF : Hid (∀ c a W, Calls Try.prog 29 #[.int .i64 c, .int .i64 a] W _) := fun c a W => mkF_any c a W); have hB0 := below_more (Below.refl _ w) (.cells #[.int .i64 0, .int .i64 0] 29 (0, 0)); by_cases hp : (pfirst fs).1 = 0
  · have hni := fun v W h => namesIn_list fs hl (fun f hf => (pc_fine (pfirst_all hp f hf)).2) v W h
    (have htc : tgcode fs = if 6 < (nmsF fs).length then (2, 0) else (0, 0) := by unfold tgcode; rw [if_pos hp]); have hp0 : pfirst fs = (0, 0) := pfirst_ok fs (pfirst_all hp); rw [hp0] at hpf; simp only at hpf; rw [htc]; generalize nmsF fs = U at *; have HP : Hid (∀ v W, FL W v fs → Calls Try.prog 33 #[v] W _) := hpf; have HN : Hid (∀ v W, FL W v fs → Calls Try.prog 14 #[v] W _) := hni; obtain ⟨ad, cap, rfl, -⟩ := hv; clear hpf hni htc hp hp0; by_cases h6 : 6 < U.length
    · rw [if_pos h6]
      (have h6I : (6 : Int) < (U.length : Int) := by omega); clear h6
      go_enter Try.func10, Try.ntmps10
      go_wp2_with fail; refine (HP.out _ _ (HV.out.up hB0)).mono ?_; rintro e w1 ⟨rfl, hb1⟩; have HQ : Hid (w1.heap[w.heap.size]? = some (.cells #[.int .i64 0, .int .i64 0] 29 (0, 0))) := below_keep hb1 (blk_new w _); have HB1 : Hid (Below w.heap.size w w1) := below_join hB0 hb1; have y0 := lt_of_block HQ.out; obtain ⟨k1, k2, k3, k4⟩ := blk2 HQ.out; clear hb1; go_wp2_with fail; refine (HN.out _ _ (HV.out.up (below_more HB1.out _))).mono ?_; rintro e w2 ⟨x, rfl, hx, hb2⟩; obtain ⟨adx, cpx, rfl, -⟩ := hx; have HQ2 : Hid (w2.heap[w.heap.size]? = some (.cells #[.int .i64 0, .int .i64 0] 29 (0, 0))) := below_keep hb2 (alloc_keep HQ.out _); have HR2 : Hid (w2.heap[w1.heap.size]? = some (.cells #[.int .i64 0, .int .i64 0] 29 (0, 0))) := below_keep hb2 (blk_new w1 _); have HB2 : Hid (Below w.heap.size w w2) := below_join (below_more HB1.out _) hb2; clear hb2 k1 k2 k3 k4; go_wp2_with fail; refine (HF.out _ _ _).mono ?_; rintro e w3 ⟨rfl, hb3⟩; have q3 := below_keep hb3 HQ2.out; have r3 := below_keep hb3 HR2.out; have B3 := below_join HB2.out hb3; have y1 := HB1.out.size; (have ne : w1.heap.size ≠ w.heap.size := by omega); obtain ⟨k1, k2, k3, k4⟩ := blk2 q3; obtain ⟨m1, m2, m3, m4⟩ := blk2 r3; clear hb3; have nn1 : ¬ w1.heap.size = w.heap.size := ne; (have nn2 : ¬ w.heap.size = w1.heap.size := fun e => ne e.symm); have s3 := set2 r3 (.int .i64 2) (.int .i64 0); (have t3 := (far2 (W := w3) (r := w1.heap.size) (x := w.heap.size) (by omega) (.int .i64 2) (.int .i64 0)).trans q3); (have B4 := below_put2 (w := w) (r := w1.heap.size) (by omega) B3 (.int .i64 2) (.int .i64 0)); have s4 := set2 t3 (.int .i64 2) (.int .i64 0); (have B5 := below_put2 (w := w) (r := w.heap.size) (by omega) B4 (.int .i64 2) (.int .i64 0)); go_wp2_with fail; generalize World.setCell _ _ _ = F at s4 B5 ⊢; obtain ⟨o1, o2, -⟩ := blk2 s4; (exact bodyPost_ret (v := .agg #[.int .i64 2, .int .i64 0]) (by simp [results, Try.results10, go_sem, o1, o2]) rfl ⟨rfl, B5⟩)
    · rw [if_neg h6]
      (have h6I : ¬ (6 : Int) < (U.length : Int) := by omega); clear h6
      go_enter Try.func10, Try.ntmps10
      go_wp2_with fail; refine (HP.out _ _ (HV.out.up hB0)).mono ?_; rintro e w1 ⟨rfl, hb1⟩; have HQ : Hid (w1.heap[w.heap.size]? = some (.cells #[.int .i64 0, .int .i64 0] 29 (0, 0))) := below_keep hb1 (blk_new w _); have HB1 : Hid (Below w.heap.size w w1) := below_join hB0 hb1; have y0 := lt_of_block HQ.out; obtain ⟨k1, k2, k3, k4⟩ := blk2 HQ.out; clear hb1; go_wp2_with fail; refine (HN.out _ _ (HV.out.up (below_more HB1.out _))).mono ?_; rintro e w2 ⟨x, rfl, hx, hb2⟩; obtain ⟨adx, cpx, rfl, -⟩ := hx; have HQ2 : Hid (w2.heap[w.heap.size]? = some (.cells #[.int .i64 0, .int .i64 0] 29 (0, 0))) := below_keep hb2 (alloc_keep HQ.out _); have r2 := below_keep hb2 (blk_new w1 (.cells #[.int .i64 0, .int .i64 0] 29 (0, 0))); have B2 := below_join (below_more HB1.out _) hb2; clear hb2 k1 k2 k3 k4; obtain ⟨k1, k2, k3, k4⟩ := blk2 HQ2.out; obtain ⟨m1, m2, m3, m4⟩ := blk2 r2; have s4 := set2 HQ2.out (.int .i64 0) (.int .i64 0); (have B5 := below_put2 (w := w) (r := w.heap.size) (by omega) B2 (.int .i64 0) (.int .i64 0)); go_wp2_with fail; generalize World.setCell _ _ _ = F at s4 B5 ⊢; obtain ⟨o1, o2, -⟩ := blk2 s4; (exact bodyPost_ret (v := .agg #[.int .i64 0, .int .i64 0]) (by simp [results, Try.results10, go_sem, o1, o2]) rfl ⟨rfl, B5⟩)
  · have htc : tgcode fs = pfirst fs := by unfold tgcode; rw [if_neg hp]
    rw [htc]; generalize pfirst fs = pf at *; obtain ⟨c, d⟩ := pf; simp only at hp hpf ⊢; have HP : Hid (∀ v W, FL W v fs → Calls Try.prog 33 #[v] W _) := hpf; obtain ⟨ad, cap, rfl, -⟩ := hv; (have hcn : (c == 0) = false := by simpa using hp); clear hpf htc
    go_enter Try.func10, Try.ntmps10
    go_wp2_with fail; refine (HP.out _ _ (HV.out.up hB0)).mono ?_; rintro e w1 ⟨rfl, hb1⟩; have HQ : Hid (w1.heap[w.heap.size]? = some (.cells #[.int .i64 0, .int .i64 0] 29 (0, 0))) := below_keep hb1 (blk_new w _); have HB1 : Hid (Below w.heap.size w w1) := below_join hB0 hb1; have y0 := lt_of_block HQ.out; obtain ⟨k1, k2, k3, k4⟩ := blk2 HQ.out; clear hb1; have s4 := alloc_keep (set2 HQ.out (.int .i64 c) (.int .i64 d)) (.cells #[.int .i64 c, .int .i64 d] 29 (0, 0)); (have B5 := below_more (below_put2 (w := w) (r := w.heap.size) (by omega) HB1.out (.int .i64 c) (.int .i64 d)) (.cells #[.int .i64 c, .int .i64 d] 29 (0, 0))); go_wp2_with fail; generalize World.alloc _ _ = F at s4 B5 ⊢; obtain ⟨o1, o2, -⟩ := blk2 s4; (exact bodyPost_ret (v := .agg #[.int .i64 c, .int .i64 d]) (by simp [results, Try.results10, go_sem, o1, o2]) rfl ⟨rfl, B5⟩)
end Go.Proofs.Ytffkoiemnchdgaf
/- Walks: the laws' own helper between formulas: plainAnswer says yes of what is made well. -/
namespace Go.Proofs.Ytffkoiemnchdgaf
open Go.RowKit Go.Sort

theorem frame_midB {ops : Array Oper} {tm : Array Value} {df : List Deferred} {a0 : Act} (lo n : Nat) (hin : (ops.toList.all fun o => match o.dst with | some d => decide (lo ≤ d ∧ lo + n > d) | none => true) = true) (hlen : lo + n ≤ a0.tmps.size) (h : OldSlots ops a0 ⟨tm, df⟩) : ∃ ys : List Value, ys.length = n ∧ tm = ⟨a0.tmps.toList.take lo ++ (ys ++ a0.tmps.toList.drop (lo + n))⟩ ∧ df = a0.defers := by
  obtain ⟨h1, h2, h3⟩ := h; have h1' : tm.toList.length = a0.tmps.toList.length := h1; have hl : lo + n ≤ a0.tmps.toList.length := hlen
  have old : ∀ t, (t < lo ∨ lo + n ≤ t) → tm.toList[t]? = a0.tmps.toList[t]? := fun t ht => by
    have := h3 t (by
      rw [List.all_eq_true] at hin ⊢; intro o ho; have := hin o ho
      cases hd : o.dst with
      | none => rfl
      | some d =>
        rw [hd] at this; have := of_decide_eq_true this; (refine bne_iff_ne.2 fun e => ?_); have e2 : d = t := Option.some.inj e; subst e2
        omega)
    simpa using this
  (refine ⟨(tm.toList.drop lo).take n, by rw [List.length_take, List.length_drop]; omega, ?_, h2⟩); apply Array.ext'; apply List.ext_getElem?; intro t
  rcases Nat.lt_or_ge t lo with ht | ht
  · rw [List.getElem?_append_left (by rw [List.length_take]; omega), List.getElem?_take_of_lt ht]
    exact old t (Or.inl ht)
  · rw [List.getElem?_append_right (by rw [List.length_take]; omega), List.length_take, Nat.min_eq_left (by omega)]
    rcases Nat.lt_or_ge t (lo + n) with ht2 | ht2
    · rw [List.getElem?_append_left (by rw [List.length_take, List.length_drop]; omega), List.getElem?_take_of_lt (by omega), List.getElem?_drop]
      congr 1
      omega
    · rw [List.getElem?_append_right (by rw [List.length_take, List.length_drop]; omega), List.length_take, List.length_drop, Nat.min_eq_left (by omega), List.getElem?_drop, old t (Or.inr ht2)]
      congr 1
      omega
theorem rowB29 (l : List Value) (h0 : l.length = 29) : ∃ x0 x1 x2 x3 x4 x5 x6 x7 x8 x9 x10 x11 x12 x13 x14 x15 x16 x17 x18 x19 x20 x21 x22 x23 x24 x25 x26 x27 x28, l = [x0, x1, x2, x3, x4, x5, x6, x7, x8, x9, x10, x11, x12, x13, x14, x15, x16, x17, x18, x19, x20, x21, x22, x23, x24, x25, x26, x27, x28] := by
  obtain ⟨x0, l1, e0, h1⟩ := cons_lenB h0; obtain ⟨x1, l2, e1, h2⟩ := cons_lenB h1; obtain ⟨x2, l3, e2, h3⟩ := cons_lenB h2; obtain ⟨x3, l4, e3, h4⟩ := cons_lenB h3; obtain ⟨x4, l5, e4, h5⟩ := cons_lenB h4; obtain ⟨x5, l6, e5, h6⟩ := cons_lenB h5; obtain ⟨x6, l7, e6, h7⟩ := cons_lenB h6; obtain ⟨x7, l8, e7, h8⟩ := cons_lenB h7; obtain ⟨x8, l9, e8, h9⟩ := cons_lenB h8; obtain ⟨x9, l10, e9, h10⟩ := cons_lenB h9; obtain ⟨x10, l11, e10, h11⟩ := cons_lenB h10; obtain ⟨x11, l12, e11, h12⟩ := cons_lenB h11; obtain ⟨x12, l13, e12, h13⟩ := cons_lenB h12; obtain ⟨x13, l14, e13, h14⟩ := cons_lenB h13; obtain ⟨x14, l15, e14, h15⟩ := cons_lenB h14; obtain ⟨x15, l16, e15, h16⟩ := cons_lenB h15; obtain ⟨x16, l17, e16, h17⟩ := cons_lenB h16; obtain ⟨x17, l18, e17, h18⟩ := cons_lenB h17; obtain ⟨x18, l19, e18, h19⟩ := cons_lenB h18; obtain ⟨x19, l20, e19, h20⟩ := cons_lenB h19; obtain ⟨x20, l21, e20, h21⟩ := cons_lenB h20; obtain ⟨x21, l22, e21, h22⟩ := cons_lenB h21; obtain ⟨x22, l23, e22, h23⟩ := cons_lenB h22; obtain ⟨x23, l24, e23, h24⟩ := cons_lenB h23; obtain ⟨x24, l25, e24, h25⟩ := cons_lenB h24; obtain ⟨x25, l26, e25, h26⟩ := cons_lenB h25; obtain ⟨x26, l27, e26, h27⟩ := cons_lenB h26; obtain ⟨x27, l28, e27, h28⟩ := cons_lenB h27; obtain ⟨x28, l29, e28, h29⟩ := cons_lenB h28; have e29 : l29 = [] := List.length_eq_zero_iff.1 h29; subst e29 e28 e27 e26 e25 e24 e23 e22 e21 e20 e19 e18 e17 e16 e15 e14 e13 e12 e11 e10 e9 e8 e7 e6 e5 e4 e3 e2 e1 e0; exact ⟨x0, x1, x2, x3, x4, x5, x6, x7, x8, x9, x10, x11, x12, x13, x14, x15, x16, x17, x18, x19, x20, x21, x22, x23, x24, x25, x26, x27, x28, rfl⟩
theorem LO.reps3 {A B : Nat} {w : World} {v : Value} {fs : List Fm} (h : LO A B w v fs) : ∃ g cap, v = .slice (some ⟨g, 0, none⟩) fs.length cap ∧ fs.length ≤ cap ∧ ∀ (j : Nat) (k : Int) (n : ByteArray) (ks : List Fm), fs[j]? = some (.mk k n ks) → ∃ sl cp, w.cell? ⟨g, j * 3, none⟩ = some (.int .i64 k) ∧ w.cell? ⟨g, j * 3 + 1, none⟩ = some (.string n) ∧ w.cell? ⟨g, j * 3 + 2, none⟩ = some (.slice sl ks.length cp) := by
  obtain ⟨g, cap, rfl, h1, h2, hr⟩ := h.reps; (refine ⟨g, cap, rfl, h1, fun j k n ks hj => ?_⟩); obtain ⟨sl, cp, p0, p1, p2, -⟩ := hr.at j k n ks hj; rw [Nat.zero_add] at p0 p1 p2; exact ⟨sl, cp, p0, p1, p2⟩
/-- What is known of the nodes of a formula that is made well. -/
theorem allN_made {l : List (List UInt8)} : ∀ (m : Nat) (f : Fm), f.size ≤ m → Fine f → Plain f → (∀ t ∈ nmsT f, t ∈ l) → ∀ k n ks, Fm.mk k n ks ∈ allN f → 1 ≤ k ∧ k ≤ 7 ∧ kindB k = true ∧ kidsN k = (ks.length : Int) ∧ (k = 1 → n.data.toList ∈ l) ∧ (k ≠ 1 → n = ⟨#[]⟩)
  | m, f, hm, hf, hp, hn, k, n, ks, hx => by
    (have hs : Fm.mk k n ks ∈ allN f → Fine (.mk k n ks) := fun h => fine_nodes f hf _ h); have hfi := hs hx; have hpl : isM k = false := (plain_iff f).1 hp _ hx
    have hnm : k = 1 → n.data.toList ∈ l := fun e => hn _ (by
      subst e; unfold nmsT
      exact List.mem_map.2 ⟨n, (nmsOf_mem _ _).2 ⟨ks, hx⟩, rfl⟩)
    rcases hfi.forms with ⟨m', e, -⟩ | e | e | ⟨k', g', h1, e, -⟩ | ⟨k', g', g'', h1, e, -⟩
    · cases e; exact ⟨by omega, by omega, by decide, by decide, hnm, fun h => absurd rfl h⟩
    · cases e; exact ⟨by omega, by omega, by decide, by decide, hnm, fun _ => rfl⟩
    · cases e; exact ⟨by omega, by omega, by decide, by decide, hnm, fun _ => rfl⟩
    · cases e
      have : k = 4 := by
        rcases h1 with rfl | rfl | rfl
        · rfl
        · cases hpl
        · cases hpl
      subst this; (exact ⟨by omega, by omega, by decide, rfl, hnm, fun _ => rfl⟩)
    · cases e
      rcases h1 with rfl | rfl | rfl
      · exact ⟨by omega, by omega, by decide, rfl, hnm, fun _ => rfl⟩
      · exact ⟨by omega, by omega, by decide, rfl, hnm, fun _ => rfl⟩
      · exact ⟨by omega, by omega, by decide, rfl, hnm, fun _ => rfl⟩

set_option maxRecDepth 10000 in
set_option maxHeartbeats 8000000 in
theorem plainAns_any (f : Fm) (l names : List (List UInt8)) (s : Nat) (hm : MadeF l s f) (hs : s ≤ 10000) (hl : ∀ t ∈ l, t ∈ names) (v u : Value) (w : World) (hrep : Rep w (fun _ => True) f v) (hu : SL w u names) :
    Calls Try.prog 15 #[v, u] w fun e w' => e = .returned (.bool true) ∧ Below w.heap.size w w' := by
  have hsz : f.size ≤ 10000 := Nat.le_trans hm.size hs; (have hwk := fun v w h => walk_any f v 20001 w (by omega) h); (rw [walkL_take, List.take_of_length_le (by rw [allN_len]; omega)] at hwk); (have hno := fun v W h => vastB_no f (by omega) v W h); (have HA : Hid (∀ k n ks, Fm.mk k n ks ∈ allN f → 1 ≤ k ∧ k ≤ 7 ∧ kindB k = true ∧ kidsN k = (ks.length : Int) ∧ (k = 1 → n.data.toList ∈ names) ∧ (k ≠ 1 → n = ⟨#[]⟩)) := fun k n ks h => allN_made f.size f (Nat.le_refl _) hm.fine hm.plain (fun t ht => hl t (hm.names t ht)) k n ks h); (have hNl : (allN f).length ≤ 10000 := by rw [allN_len]; exact hsz); generalize allN f = nodes at *; obtain ⟨k0, n0, ks0⟩ := f; obtain ⟨sl0, cap0, rfl⟩ := slice_shape hrep; (have HR : Hid (Rep w (fun _ => True) (.mk k0 n0 ks0) (.agg #[.int .i64 k0, .string n0, .slice sl0 ks0.length cap0])) := hrep); have HU : Hid (SL w u names) := hu; (have HW : Hid (∀ v w, Rep w (fun _ => True) (.mk k0 n0 ks0) v → Calls Try.prog 43 #[v, .int .i64 ((20001 : Nat) : Int)] w _) := hwk); (have HV : Hid (∀ v w, Rep w (fun _ => True) (.mk k0 n0 ks0) v → Calls Try.prog 9 #[v, .int .i64 0] w _) := hno); obtain ⟨adn, cpn, rfl, -⟩ := hu; (have hNI : (nodes.length : Int) ≤ 10000 := by omega); have hB0 := below_more (Below.refl _ w) (.cells #[.int .i64 k0, .string n0, .slice sl0 ks0.length cap0] 24 (0, 0)); clear hwk hno hrep hm hs hl hsz hNl
  go_enter Try.func15, Try.ntmps15
  go_wp2_with fail; refine (HV.out _ _ (HR.out.up hB0)).mono ?_; rintro e w1 ⟨rfl, hb1⟩; have HQ1 : Hid (w1.heap[w.heap.size]? = some (.cells #[.int .i64 k0, .string n0, .slice sl0 ks0.length cap0] 24 (0, 0))) := below_keep hb1 (blk_new w _); have HB1 : Hid (Below w.heap.size w w1) := below_join hB0 hb1; obtain ⟨a0, a1, a2, -⟩ := blk3 HQ1.out; clear hb1 hB0; go_wp2_with fail; refine (HW.out _ _ (HR.out.up HB1.out)).mono ?_; rintro e w2 ⟨x, rfl, hlo, hb2⟩; obtain ⟨g, cp, rfl, hgc, hcs⟩ := hlo.reps3; have HC : Hid (∀ (j : Nat) (k : Int) (n : ByteArray) (ks : List Fm), nodes[j]? = some (.mk k n ks) → ∃ sl cp, w2.cell? ⟨g, j * 3, none⟩ = some (.int .i64 k) ∧ w2.cell? ⟨g, j * 3 + 1, none⟩ = some (.string n) ∧ w2.cell? ⟨g, j * 3 + 2, none⟩ = some (.slice sl ks.length cp)) := hcs; have HB2 : Hid (Below w.heap.size w w2) := below_join HB1.out hb2; (have hgI : (nodes.length : Int) ≤ (cp : Int) := by omega); clear hlo hb2 hcs a0 a1 a2 hgc; go_wp2_with fail
  go_loopg [6] nodes.length (fun gg c wr => ∃ j, j ≤ nodes.length ∧ gg = nodes.length - j ∧ c = .int .i64 (j : Nat) ∧ Hid (Below w2.heap.size w2 wr))
  case atStart => exact ⟨0, by omega, by omega, rfl, Below.refl _ _⟩
  case round =>
    obtain ⟨j, hj, hg, rfl, HBr⟩ := hrel; have HG : Hid (gk = nodes.length - j) := hg; clear hg; by_cases hlt : j < nodes.length
    · obtain ⟨⟨k, n, ks⟩, hki⟩ : ∃ f, nodes[j]? = some f := ⟨_, List.getElem?_eq_getElem hlt⟩
      obtain ⟨sl, cap, p0, p1, p2⟩ := HC.out j k n ks hki; have zg := lt_of_cell p0; simp only at zg
      have HN : Hid (∀ wx, Below wr.heap.size wr wx → wx.cell? ⟨g, j * 3, none⟩ = some (.int .i64 k) ∧ wx.cell? ⟨g, j * 3 + 1, none⟩ = some (.string n) ∧ wx.cell? ⟨g, j * 3 + 2, none⟩ = some (.slice sl ks.length cap)) := fun wx hb => by
        have hbb := below_join HBr.out hb; exact ⟨(hbb.cell (p := ⟨g, j * 3, none⟩) zg).trans p0, (hbb.cell (p := ⟨g, j * 3 + 1, none⟩) zg).trans p1, (hbb.cell (p := ⟨g, j * 3 + 2, none⟩) zg).trans p2⟩
      (have HSl : Hid (∀ wx, Below wr.heap.size wr wx → SL wx (.slice adn names.length cpn) names) := fun wx hb => HU.out.up (below_join (below_join HB2.out HBr.out) hb)); obtain ⟨hk1, hk7, hkb, hkn, hmm, hm2⟩ := HA.out k n ks (List.mem_of_getElem? hki); have HM : Hid (k = 1 → n.data.toList ∈ names) := hmm; have HM2 : Hid (k ≠ 1 → n = ⟨#[]⟩) := hm2
      have HAr : Hid (∀ wx, Calls Try.prog 44 #[.int .i64 k] wx fun e w' => e = .returned (.int .i64 (ks.length : Nat)) ∧ Below wx.heap.size wx w') := fun wx => by
        have := arity_any k wx; rw [if_pos hkb, hkn] at this; exact this
      (have hn1 : ¬ k < 1 := by omega); (have hn7 : ¬ 7 < k := by omega); have HJ : Hid (j < nodes.length) := hlt; (have hltI : (j : Int) < (nodes.length : Int) := by omega); (have hlc : (j : Int) < (cp : Int) := by omega); clear p0 p1 p2 hki hlt hj hk1 hk7 hkb hkn hmm hm2 zg; go_wp2_with fail; (refine wp_region_free (by kernel_rfl) [kE (.slice (some ⟨g, 0, none⟩) nodes.length cp), kE (.int .i64 (j : Nat)), kE (.pointer (some ⟨g, j * 3, none⟩)), kE (.pointer (some ⟨g, j * 3, none⟩)), kE (.int .i64 k), kE (.bool false), kE (.bool false), kE (.slice (some ⟨g, 0, none⟩) nodes.length cp), kE (.int .i64 (j : Nat)), kE (.pointer (some ⟨g, j * 3, none⟩)), kE (.pointer (some ⟨g, j * 3, none⟩)), kE (.int .i64 k), kE (.bool false), kE (.bool false), kE (.bool false), kE (.slice (some ⟨g, 0, none⟩) nodes.length cp), kE (.int .i64 (j : Nat)), kE (.pointer (some ⟨g, j * 3, none⟩)), kE (.pointer (some ⟨g, j * 3 + 2, none⟩)), kE (.slice sl ks.length cap), kE (.int .i64 (ks.length : Nat)), kE (.slice (some ⟨g, 0, none⟩) nodes.length cp), kE (.int .i64 (j : Nat)), kE (.pointer (some ⟨g, j * 3, none⟩)), kE (.pointer (some ⟨g, j * 3, none⟩)), kE (.int .i64 k), kE (.int .i64 (ks.length : Nat)), kE (.bool false), kE (.bool false)] ?_ (by kernel_rfl) (by kernel_rfl) 81 rfl (by kernel_rfl) ?_ ?_)
      · intro p hp
        simp only [List.mem_cons, List.not_mem_nil, or_false] at hp
        rcases hp with rfl | rfl | rfl | rfl | rfl | rfl | rfl | rfl | rfl | rfl | rfl | rfl | rfl | rfl | rfl | rfl | rfl | rfl | rfl | rfl | rfl | rfl | rfl | rfl | rfl | rfl | rfl | rfl | rfl
        all_goals first | exact kE_stays _ | exact kN_stays
      · refine ⟨?_, ?_, ?_, ?_, ?_, ?_, ?_, ?_, ?_, ?_, ?_, ?_, ?_, ?_, ?_, ?_, ?_, ?_, ?_, ?_, ?_, ?_, ?_, ?_, ?_, ?_, ?_, ?_, ?_, trivial⟩
        · intro a wx hB hold hdep K hK; have t5 : a.tmps[5]? = some (.slice (some ⟨g, 0, none⟩) nodes.length cp) := hold.2.2 5 rfl; clear hold hdep; go_simp; exact hK.out _ _ rfl (Below.refl _ _)
        · intro a wx hB hold hdep K hK; have t6 : a.tmps[6]? = some (.int .i64 (j : Nat)) := hold.2.2 6 rfl; clear hold hdep; go_simp; exact hK.out _ _ rfl (Below.refl _ _)
        · intro a wx hB hold hdep K hK; have t20 := dep_e wx (hdep 0 rfl _ 20 rfl rfl); have t21 := dep_e wx (hdep 1 rfl _ 21 rfl rfl); clear hold hdep; go_simp; exact hK.out _ _ rfl (Below.refl _ _)
        · intro a wx hB hold hdep K hK; have t22 := dep_e wx (hdep 2 rfl _ 22 rfl rfl); clear hold hdep; go_simp; exact hK.out _ _ rfl (Below.refl _ _)
        · intro a wx hB hold hdep K hK; have t23 := dep_e wx (hdep 3 rfl _ 23 rfl rfl); obtain ⟨c0, c1, c2⟩ := HN.out wx hB; clear hold hdep; go_simp; exact hK.out _ _ rfl (Below.refl _ _)
        · intro a wx hB hold hdep K hK; have t24 := dep_e wx (hdep 4 rfl _ 24 rfl rfl); clear hold hdep; go_simp; exact hK.out _ _ (show Value.bool (decide (k < 1)) = _ from congrArg Value.bool (decide_eq_false (by omega))) (Below.refl _ _)
        · intro a wx hB hold hdep K hK; have t25 := dep_e wx (hdep 5 rfl _ 25 rfl rfl); clear hold hdep; go_simp; exact hK.out _ _ rfl (Below.refl _ _)
        · intro a wx hB hold hdep K hK; have t26 := dep_e wx (hdep 6 rfl _ 26 rfl rfl); have t5 : a.tmps[5]? = some (.slice (some ⟨g, 0, none⟩) nodes.length cp) := hold.2.2 5 rfl; clear hold hdep; go_simp; exact hK.out _ _ rfl (Below.refl _ _)
        · intro a wx hB hold hdep K hK; have t26 := dep_e wx (hdep 6 rfl _ 26 rfl rfl); have t6 : a.tmps[6]? = some (.int .i64 (j : Nat)) := hold.2.2 6 rfl; clear hold hdep; go_simp; exact hK.out _ _ rfl (Below.refl _ _)
        · intro a wx hB hold hdep K hK; have t26 := dep_e wx (hdep 6 rfl _ 26 rfl rfl); have t27 := dep_e wx (hdep 7 rfl _ 27 rfl rfl); have t28 := dep_e wx (hdep 8 rfl _ 28 rfl rfl); clear hold hdep; go_simp; exact hK.out _ _ rfl (Below.refl _ _)
        · intro a wx hB hold hdep K hK; have t26 := dep_e wx (hdep 6 rfl _ 26 rfl rfl); have t29 := dep_e wx (hdep 9 rfl _ 29 rfl rfl); clear hold hdep; go_simp; exact hK.out _ _ rfl (Below.refl _ _)
        · intro a wx hB hold hdep K hK; have t26 := dep_e wx (hdep 6 rfl _ 26 rfl rfl); have t30 := dep_e wx (hdep 10 rfl _ 30 rfl rfl); obtain ⟨c0, c1, c2⟩ := HN.out wx hB; clear hold hdep; go_simp; exact hK.out _ _ rfl (Below.refl _ _)
        · intro a wx hB hold hdep K hK; have t26 := dep_e wx (hdep 6 rfl _ 26 rfl rfl); have t31 := dep_e wx (hdep 11 rfl _ 31 rfl rfl); clear hold hdep; go_simp; exact hK.out _ _ (show Value.bool (decide (7 < k)) = _ from congrArg Value.bool (decide_eq_false (by omega))) (Below.refl _ _)
        · intro a wx hB hold hdep K hK; have t26 := dep_e wx (hdep 6 rfl _ 26 rfl rfl); have t32 := dep_e wx (hdep 12 rfl _ 32 rfl rfl); clear hold hdep; go_simp; exact hK.out _ _ rfl (Below.refl _ _)
        · intro a wx hB hold hdep K hK; have t33 := dep_e wx (hdep 13 rfl _ 33 rfl rfl); clear hold hdep; go_simp; exact hK.out _ _ rfl (Below.refl _ _)
        · intro a wx hB hold hdep K hK; have t34 := dep_e wx (hdep 14 rfl _ 34 rfl rfl); have t5 : a.tmps[5]? = some (.slice (some ⟨g, 0, none⟩) nodes.length cp) := hold.2.2 5 rfl; clear hold hdep; go_simp; exact hK.out _ _ rfl (Below.refl _ _)
        · intro a wx hB hold hdep K hK; have t34 := dep_e wx (hdep 14 rfl _ 34 rfl rfl); have t6 : a.tmps[6]? = some (.int .i64 (j : Nat)) := hold.2.2 6 rfl; clear hold hdep; go_simp; exact hK.out _ _ rfl (Below.refl _ _)
        · intro a wx hB hold hdep K hK; have t34 := dep_e wx (hdep 14 rfl _ 34 rfl rfl); have t35 := dep_e wx (hdep 15 rfl _ 35 rfl rfl); have t36 := dep_e wx (hdep 16 rfl _ 36 rfl rfl); clear hold hdep; go_simp; exact hK.out _ _ rfl (Below.refl _ _)
        · intro a wx hB hold hdep K hK; have t34 := dep_e wx (hdep 14 rfl _ 34 rfl rfl); have t37 := dep_e wx (hdep 17 rfl _ 37 rfl rfl); clear hold hdep; go_simp; exact hK.out _ _ rfl (Below.refl _ _)
        · intro a wx hB hold hdep K hK; have t34 := dep_e wx (hdep 14 rfl _ 34 rfl rfl); have t38 := dep_e wx (hdep 18 rfl _ 38 rfl rfl); obtain ⟨c0, c1, c2⟩ := HN.out wx hB; clear hold hdep; go_simp; exact hK.out _ _ rfl (Below.refl _ _)
        · intro a wx hB hold hdep K hK; have t34 := dep_e wx (hdep 14 rfl _ 34 rfl rfl); have t39 := dep_e wx (hdep 19 rfl _ 39 rfl rfl); clear hold hdep; go_simp; exact hK.out _ _ rfl (Below.refl _ _)
        · intro a wx hB hold hdep K hK; have t34 := dep_e wx (hdep 14 rfl _ 34 rfl rfl); have t5 : a.tmps[5]? = some (.slice (some ⟨g, 0, none⟩) nodes.length cp) := hold.2.2 5 rfl; clear hold hdep; go_simp; exact hK.out _ _ rfl (Below.refl _ _)
        · intro a wx hB hold hdep K hK; have t34 := dep_e wx (hdep 14 rfl _ 34 rfl rfl); have t6 : a.tmps[6]? = some (.int .i64 (j : Nat)) := hold.2.2 6 rfl; clear hold hdep; go_simp; exact hK.out _ _ rfl (Below.refl _ _)
        · intro a wx hB hold hdep K hK; have t34 := dep_e wx (hdep 14 rfl _ 34 rfl rfl); have t41 := dep_e wx (hdep 21 rfl _ 41 rfl rfl); have t42 := dep_e wx (hdep 22 rfl _ 42 rfl rfl); clear hold hdep; go_simp; exact hK.out _ _ rfl (Below.refl _ _)
        · intro a wx hB hold hdep K hK; have t34 := dep_e wx (hdep 14 rfl _ 34 rfl rfl); have t43 := dep_e wx (hdep 23 rfl _ 43 rfl rfl); clear hold hdep; go_simp; exact hK.out _ _ rfl (Below.refl _ _)
        · intro a wx hB hold hdep K hK; have t34 := dep_e wx (hdep 14 rfl _ 34 rfl rfl); have t44 := dep_e wx (hdep 24 rfl _ 44 rfl rfl); obtain ⟨c0, c1, c2⟩ := HN.out wx hB; clear hold hdep; go_simp; exact hK.out _ _ rfl (Below.refl _ _)
        · intro a wx hB hold hdep K hK; have t34 := dep_e wx (hdep 14 rfl _ 34 rfl rfl); have t45 := dep_e wx (hdep 25 rfl _ 45 rfl rfl); clear hold hdep; go_simp; refine (HAr.out wx).mono ?_; rintro e w1 ⟨rfl, hb1⟩; exact hK.out _ _ rfl hb1
        · intro a wx hB hold hdep K hK; have t34 := dep_e wx (hdep 14 rfl _ 34 rfl rfl); have t40 := dep_e wx (hdep 20 rfl _ 40 rfl rfl); have t46 := dep_e wx (hdep 26 rfl _ 46 rfl rfl); clear hold hdep; go_simp; exact hK.out _ _ rfl (Below.refl _ _)
        · intro a wx hB hold hdep K hK; have t34 := dep_e wx (hdep 14 rfl _ 34 rfl rfl); have t47 := dep_e wx (hdep 27 rfl _ 47 rfl rfl); clear hold hdep; go_simp; exact hK.out _ _ rfl (Below.refl _ _)
      · intro a wx hB hold hgot
        (obtain ⟨v48, t48, p48⟩ := hgot 28 _ 48 rfl rfl; have e48 : v48 = (.bool false) := p48; subst e48; obtain ⟨tm, df⟩ := a; obtain ⟨ys, hys, htm, rfl⟩ := frame_midB 20 29 (by kernel_rfl) (Nat.le_of_ble_eq_true rfl) hold; obtain ⟨x20, x21, x22, x23, x24, x25, x26, x27, x28, x29, x30, x31, x32, x33, x34, x35, x36, x37, x38, x39, x40, x41, x42, x43, x44, x45, x46, x47, x48, rfl⟩ := rowB29 ys hys; simp only [List.take_succ_cons, List.take_zero, List.drop_succ_cons, List.drop_zero, List.cons_append, List.nil_append] at htm; subst htm; obtain rfl : x48 = _ := Option.some.inj t48; have HBx : Hid (Below wr.heap.size wr wx) := hB; obtain ⟨c0, c1, c2⟩ := HN.out wx hB; clear hys hold hgot t48 p48 hB; by_cases hk1 : k = 1)
        · subst hk1
          have HHt : Hid (Calls Try.prog 42 #[.slice adn names.length cpn, .string ⟨n.data.toList.toArray⟩] wx _) := hasText_sl names n.data.toList _ wx (HSl.out wx HBx.out); rw [decide_eq_true (HM.out rfl)] at HHt; have hnn : (⟨n.data.toList.toArray⟩ : ByteArray) = n := rfl; rw [hnn] at HHt; clear hnn; go_wp2_with fail; refine HHt.out.mono ?_; rintro e w1 ⟨rfl, hw1⟩; have hw2 := hw1.symm; subst hw2; go_wp2_with fail
          go_roundg (nodes.length - (j + 1))
          case measure => have := HG.out; have := HJ.out; omega
          case rel => exact ⟨j + 1, HJ.out, rfl, by go_num, below_join HBr.out HBx.out⟩
        · have hkb : (k == 1) = false := by simpa using hk1
          (have hkn : (k != 1) = true := by simpa using hk1); have hnz := HM2.out hk1; subst hnz; clear hk1; go_wp2_with fail
          go_roundg (nodes.length - (j + 1))
          case measure => have := HG.out; have := HJ.out; omega
          case rel => exact ⟨j + 1, HJ.out, rfl, by go_num, below_join HBr.out HBx.out⟩
    · have hge : ¬ (j : Int) < (nodes.length : Int) := by omega
      clear hlt; go_wp2_with fail; go_ret; exact ⟨rfl, below_join HB2.out HBr.out⟩
end Go.Proofs.Ytffkoiemnchdgaf
/- Walks: betweenBegun. -/
namespace Go.Proofs.Ytffkoiemnchdgaf
open Go.RowKit Go.Sort

def fR : Fm := .mk 1 ⟨#[114]⟩ []
def fPandQ : Fm := .mk 5 ⟨#[]⟩ [fP, fQ]
def fPorR : Fm := .mk 6 ⟨#[]⟩ [fP, fR]
/-- What stands between the two. -/
def DB : Fm := projF fPandQ (nmsU fPorR)
theorem made_pcode {l : List (List UInt8)} {s : Nat} {f : Fm} (h : MadeF l s f) (hs : s ≤ 200) : f.pcode.1 = 0 := by
  (rw [pcode_of (chk_fine f 0 h.fine (by have := h.size; omega)) h.plain])
theorem madePQ : MadeF [[112], [113], [114]] 3 fPandQ := made_two (Or.inl rfl) ((made_var (n := [112]) (by decide)).mono (fun t h => by simp at h; simp [h]) (Nat.le_refl _)) ((made_var (n := [113]) (by decide)).mono (fun t h => by simp at h; simp [h]) (Nat.le_refl _))
theorem madePR : MadeF [[112], [113], [114]] 3 fPorR := made_two (Or.inr (Or.inl rfl)) ((made_var (n := [112]) (by decide)).mono (fun t h => by simp at h; simp [h]) (Nat.le_refl _)) ((made_var (n := [114]) (by decide)).mono (fun t h => by simp at h; simp [h]) (Nat.le_refl _))
theorem tPQ : nmsT fPandQ = [[112], [113]] := by decide +kernel
theorem tPR : nmsT fPorR = [[112], [114]] := by decide +kernel
theorem uPQ : nmsU fPandQ = [[112], [113]] := rising_ext (nmsU_rising _) (by decide) fun t => by rw [nmsU_mem, tPQ]
theorem uPR : nmsU fPorR = [[112], [114]] := rising_ext (nmsU_rising _) (by decide) fun t => by rw [nmsU_mem, tPR]
theorem fPQR : nmsF [fPandQ, fPorR] = [[112], [113], [114]] := rising_ext (nmsF_rising _) (by decide) fun t => by
  rw [nmsF_mem]; simp only [List.mem_cons, List.not_mem_nil, or_false, exists_eq_or_imp, exists_eq_left, tPQ, tPR]
  constructor
  · rintro ((h | h) | (h | h)) <;> simp [h]
  · rintro (h | h | h) <;> simp [h]
theorem begun_tg : (tgcode [fPandQ, fPorR]).1 = 0 := by
  unfold tgcode
  rw [pfirst_ok _ (fun f hf => by
    simp only [List.mem_cons, List.not_mem_nil, or_false] at hf
    rcases hf with rfl | rfl
    · exact made_pcode madePQ (by omega)
    · exact made_pcode madePR (by omega)), if_pos rfl, fPQR]
  rfl
theorem begun_some : someL (fun l => tvL fPandQ l && !tvL fPorR l) (nmsF [fPandQ, fPorR]) [] = false := by
  rw [fPQR]; decide +kernel
theorem begun_eq : DB = fP := by
  unfold DB projF; rw [uPQ, uPR]; rfl
theorem begun_made : MadeF [[112]] 1 DB := by rw [begun_eq]; exact made_var (n := [112]) (by decide)
theorem begun_t1 : tv (fun t => decide (t ∈ ([[112]] : List (List UInt8)))) DB = true := by rw [begun_eq]; decide +kernel
theorem begun_t0 : tv (fun t => decide (t ∈ ([] : List (List UInt8)))) DB = false := by rw [begun_eq]; decide +kernel
set_option maxRecDepth 10000 in
set_option maxHeartbeats 8000000 in
theorem betweenBegun_any (w : World) : Calls Try.prog 8 #[] w fun e w' => e = .returned (.bool true) ∧ Below w.heap.size w w' := by
  (have HN1 : Hid (∀ W, Calls Try.prog 35 #[.string ⟨#[112]⟩] W _) := fun W => named_any ⟨#[112]⟩ W); (have HN2 : Hid (∀ W, Calls Try.prog 35 #[.string ⟨#[113]⟩] W _) := fun W => named_any ⟨#[113]⟩ W); (have HN3 : Hid (∀ W, Calls Try.prog 35 #[.string ⟨#[114]⟩] W _) := fun W => named_any ⟨#[114]⟩ W)
  go_enter Try.func8, Try.ntmps8
  go_wp2_with fail; refine (HN1.out _).mono ?_; rintro e w1 ⟨rfl, hb1⟩; go_wp2_with fail; refine (HN2.out _).mono ?_; rintro e w2 ⟨rfl, hb2⟩; go_wp2_with fail; refine (HN3.out _).mono ?_; rintro e wz ⟨rfl, hb3⟩; have HB2 : Hid (Below w.heap.size w wz) := below_join (below_join hb1 hb2) hb3; clear hb1 hb2 hb3 HN1 HN2 HN3; go_wp2_with fail; obtain ⟨p1, p2, p3, psz, PB⟩ := chain3 wz (.cells #[.int .i64 1, .string ⟨#[112]⟩, .slice none 0 0] 24 (0, 0)) (.cells #[.int .i64 1, .string ⟨#[113]⟩, .slice none 0 0] 24 (0, 0)) (.cells #[.int .i64 1, .string ⟨#[114]⟩, .slice none 0 0] 24 (0, 0)); obtain ⟨W, hW⟩ : ∃ W, W = ((wz.alloc (.cells #[.int .i64 1, .string ⟨#[112]⟩, .slice none 0 0] 24 (0, 0))).alloc (.cells #[.int .i64 1, .string ⟨#[113]⟩, .slice none 0 0] 24 (0, 0))).alloc (.cells #[.int .i64 1, .string ⟨#[114]⟩, .slice none 0 0] 24 (0, 0)) := ⟨_, rfl⟩; rw [← hW] at p1 p2 p3 PB ⊢; have HBW : Hid (Below w.heap.size w W) := below_join HB2.out PB; have P1 : Hid (W.heap[wz.heap.size]? = some _) := p1; have P2 : Hid (W.heap[wz.heap.size + 1]? = some _) := p2; have P3 : Hid (W.heap[wz.heap.size + 1 + 1]? = some _) := p3; clear hW HB2 p1 p2 p3 PB psz; (have HB2 : Hid (∀ W, Calls Try.prog 37 #[.int .i64 5, .agg #[.int .i64 1, .string ⟨#[112]⟩, .slice none 0 0], .agg #[.int .i64 1, .string ⟨#[113]⟩, .slice none 0 0]] W fun e w' => ∃ x, e = .returned x ∧ Rep w' (fun _ => True) fPandQ x ∧ Below W.heap.size W w') := fun W => both_any 5 fP fQ _ _ W (Rep.leaf (by simp [maxLen, ByteArray.size])) (Rep.leaf (by simp [maxLen, ByteArray.size]))); (have HB5 : Hid (∀ W, Calls Try.prog 37 #[.int .i64 6, .agg #[.int .i64 1, .string ⟨#[112]⟩, .slice none 0 0], .agg #[.int .i64 1, .string ⟨#[114]⟩, .slice none 0 0]] W fun e w' => ∃ x, e = .returned x ∧ Rep w' (fun _ => True) fPorR x ∧ Below W.heap.size W w') := fun W => both_any 6 fP fR _ _ W (Rep.leaf (by simp [maxLen, ByteArray.size])) (Rep.leaf (by simp [maxLen, ByteArray.size])))
  have HIn : Hid (∀ v u W, Rep W (fun _ => True) fPandQ v → Rep W (fun _ => True) fPorR u → Calls Try.prog 36 #[v, u] W fun e w' => (∃ x, e = .returned (.tuple #[x, .agg #[.int .i64 0, .int .i64 0]]) ∧ Rep w' (fun _ => True) DB x ∧ Below W.heap.size W w')) := fun v u W h h' => by
    refine (inter_ok fPandQ fPorR v u W h h' begun_tg begun_some).mono ?_; rintro e w' ⟨x, rfl, hx, hb⟩; exact ⟨x, rfl, hx, hb⟩
  (have HPl : Hid (∀ v u W, Rep W (fun _ => True) DB v → SL W u [[112]] → Calls Try.prog 15 #[v, u] W _) := fun v u W h h' => plainAns_any DB [[112]] [[112]] 1 begun_made (by omega) (fun t h => h) v u W h h')
  have HT1 : Hid (∀ v u W, Rep W (fun _ => True) DB v → SL W u [[112]] → Calls Try.prog 38 #[v, u] W fun e w' => e = .returned (.bool true) ∧ Below W.heap.size W w') := fun v u W h h' => by
    have := trueR_any [[112]] DB v u W begun_made.fine h h'
    rwa [begun_t1] at this
  have HT0 : Hid (∀ v u W, Rep W (fun _ => True) DB v → SL W u [] → Calls Try.prog 38 #[v, u] W fun e w' => e = .returned (.bool false) ∧ Below W.heap.size W w') := fun v u W h h' => by
    have := trueR_any [] DB v u W begun_made.fine h h'
    rwa [begun_t0] at this
  have HOf : Hid (OffOk DB) := Or.inl begun_made.fine; (refine wp_region_gh (by kernel_rfl) (by kernel_rfl) (by kernel_rfl) 37 rfl (by kernel_rfl) [fun _ v _ => v = (.agg #[.int .i64 1, .string ⟨#[112]⟩, .slice none 0 0]), fun _ v _ => v = (.agg #[.int .i64 1, .string ⟨#[113]⟩, .slice none 0 0]), gF fPandQ, fun _ v _ => v = (.agg #[.int .i64 1, .string ⟨#[112]⟩, .slice none 0 0]), fun _ v _ => v = (.agg #[.int .i64 1, .string ⟨#[114]⟩, .slice none 0 0]), gF fPorR, fun y v _ => v = .tuple #[y.x, .agg #[.int .i64 0, .int .i64 0]], fun y v _ => v = .tuple #[y.x, .agg #[.int .i64 0, .int .i64 0]], fun y v _ => v = y.x, fun y v _ => v = .agg #[.int .i64 0, .int .i64 0], fun y v _ => v = .pointer (some ⟨y.b4, 0, none⟩), fun y v _ => v = .pointer (some ⟨y.b5, 0, none⟩), fun _ _ _ => True, fun _ _ _ => True] (fun _ _ => true) (fun L => St2 W DB 0 0 (L 10) (L 11) (L 6) (L 12) (L 13)) (⟨W, 0, 0, 0, ⟨#[]⟩, [], none, 0⟩) ?_ ?_ ?_)
  · exact fun wx h h' => St2.init h h' _ rfl
  · refine ⟨?_, ?_, ?_, ?_, ?_, ?_, ?_, ?_, ?_, ?_, ?_, ?_, ?_, ?_, trivial⟩
    · intro L y a wx hSt hLi hdl hcl hold hdep K hK
      (have l4 : L 12 = false := not_yet hLi fun h => hcl 12 _ rfl h 0 rfl); (have l5 : L 13 = false := not_yet hLi fun h => hcl 13 _ rfl h 0 rfl); rw [l4, l5] at hSt; have HSt : Hid (St2 W DB 0 0 (L 10) (L 11) (L 6) false false y wx) := hSt; clear hSt; have t1 : a.tmps[1]? = some (.pointer (some ⟨wz.heap.size, 0, none⟩)) := hold 1 rfl; obtain ⟨d0, d1, d2, -⟩ := blk3 (below_keep (below_join HSt.out.below HSt.out.eqv) P1.out); clear hold hdep hdl hcl; go_simp; (exact hK.out _ _ y (by show St2 W DB 0 0 (L 10) (L 11) (L 6) (L 12) (L 13) _ _; rw [l4, l5]; exact HSt.out) rfl (fun j hj hl => ⟨rfl, fun u h => h⟩))
    · intro L y a wx hSt hLi hdl hcl hold hdep K hK
      (have l4 : L 12 = false := not_yet hLi fun h => hcl 12 _ rfl h 1 rfl); (have l5 : L 13 = false := not_yet hLi fun h => hcl 13 _ rfl h 1 rfl); rw [l4, l5] at hSt; have HSt : Hid (St2 W DB 0 0 (L 10) (L 11) (L 6) false false y wx) := hSt; clear hSt; have t2 : a.tmps[2]? = some (.pointer (some ⟨wz.heap.size + 1, 0, none⟩)) := hold 2 rfl; obtain ⟨d0, d1, d2, -⟩ := blk3 (below_keep (below_join HSt.out.below HSt.out.eqv) P2.out); clear hold hdep hdl hcl; go_simp; (exact hK.out _ _ y (by show St2 W DB 0 0 (L 10) (L 11) (L 6) (L 12) (L 13) _ _; rw [l4, l5]; exact HSt.out) rfl (fun j hj hl => ⟨rfl, fun u h => h⟩))
    · intro L y a wx hSt hLi hdl hcl hold hdep K hK
      (have l4 : L 12 = false := not_yet hLi fun h => hcl 12 _ rfl h 2 rfl); (have l5 : L 13 = false := not_yet hLi fun h => hcl 13 _ rfl h 2 rfl); rw [l4, l5] at hSt; have HSt : Hid (St2 W DB 0 0 (L 10) (L 11) (L 6) false false y wx) := hSt; clear hSt; obtain ⟨v10, t10, q10⟩ := hdep 0 rfl _ 10 rfl rfl; have e10 : v10 = (.agg #[.int .i64 1, .string ⟨#[112]⟩, .slice none 0 0]) := q10 rfl; subst e10; obtain ⟨v11, t11, q11⟩ := hdep 1 rfl _ 11 rfl rfl; have e11 : v11 = (.agg #[.int .i64 1, .string ⟨#[113]⟩, .slice none 0 0]) := q11 rfl; subst e11; clear hold hdep hdl; go_simp; refine (HB2.out wx).mono ?_; rintro e w3 ⟨u, rfl, hu, hb3⟩; obtain ⟨sl9, cap9, rfl⟩ := slice_shape hu; (refine hK.out _ _ { y with g := w3 } (by show St2 W DB 0 0 (L 10) (L 11) (L 6) (L 12) (L 13) _ _; rw [l4, l5]; exact HSt.out.up hb3) ⟨_, _, _, sl9, cap9, rfl, rfl, hu⟩ ?_); intro j hj hl
      rcases j with _ | _ | _ | _ | _ | _ | _ | _ | _ | _ | _ | _ | _ | _ | j
      · exact ⟨rfl, fun u h => h⟩
      · exact ⟨rfl, fun u h => h⟩
      · exact Bool.noConfusion (hLi.symm.trans hj)
      · exact ⟨rfl, fun u h => h⟩
      · exact ⟨rfl, fun u h => h⟩
      · exact ⟨rfl, fun u h => gF_up (w := wx) (w' := wx) (below_join HSt.out.eqv hb3) u h⟩
      · exact ⟨rfl, fun u h => h⟩
      · exact ⟨rfl, fun u h => h⟩
      · exact ⟨rfl, fun u h => h⟩
      · exact ⟨rfl, fun u h => h⟩
      · exact ⟨rfl, fun u h => h⟩
      · exact ⟨rfl, fun u h => h⟩
      · exact ⟨rfl, fun u h => h⟩
      · exact ⟨rfl, fun u h => h⟩
      · exact ⟨rfl, fun u h => h⟩
    · intro L y a wx hSt hLi hdl hcl hold hdep K hK
      (have l4 : L 12 = false := not_yet hLi fun h => hcl 12 _ rfl h 3 rfl); (have l5 : L 13 = false := not_yet hLi fun h => hcl 13 _ rfl h 3 rfl); rw [l4, l5] at hSt; have HSt : Hid (St2 W DB 0 0 (L 10) (L 11) (L 6) false false y wx) := hSt; clear hSt; have t1 : a.tmps[1]? = some (.pointer (some ⟨wz.heap.size, 0, none⟩)) := hold 1 rfl; obtain ⟨d0, d1, d2, -⟩ := blk3 (below_keep (below_join HSt.out.below HSt.out.eqv) P1.out); clear hold hdep hdl hcl; go_simp; (exact hK.out _ _ y (by show St2 W DB 0 0 (L 10) (L 11) (L 6) (L 12) (L 13) _ _; rw [l4, l5]; exact HSt.out) rfl (fun j hj hl => ⟨rfl, fun u h => h⟩))
    · intro L y a wx hSt hLi hdl hcl hold hdep K hK
      (have l4 : L 12 = false := not_yet hLi fun h => hcl 12 _ rfl h 4 rfl); (have l5 : L 13 = false := not_yet hLi fun h => hcl 13 _ rfl h 4 rfl); rw [l4, l5] at hSt; have HSt : Hid (St2 W DB 0 0 (L 10) (L 11) (L 6) false false y wx) := hSt; clear hSt; have t3 : a.tmps[3]? = some (.pointer (some ⟨wz.heap.size + 1 + 1, 0, none⟩)) := hold 3 rfl; obtain ⟨d0, d1, d2, -⟩ := blk3 (below_keep (below_join HSt.out.below HSt.out.eqv) P3.out); clear hold hdep hdl hcl; go_simp; (exact hK.out _ _ y (by show St2 W DB 0 0 (L 10) (L 11) (L 6) (L 12) (L 13) _ _; rw [l4, l5]; exact HSt.out) rfl (fun j hj hl => ⟨rfl, fun u h => h⟩))
    · intro L y a wx hSt hLi hdl hcl hold hdep K hK
      (have l4 : L 12 = false := not_yet hLi fun h => hcl 12 _ rfl h 5 rfl); (have l5 : L 13 = false := not_yet hLi fun h => hcl 13 _ rfl h 5 rfl); rw [l4, l5] at hSt; have HSt : Hid (St2 W DB 0 0 (L 10) (L 11) (L 6) false false y wx) := hSt; clear hSt; obtain ⟨v13, t13, q13⟩ := hdep 3 rfl _ 13 rfl rfl; have e13 : v13 = (.agg #[.int .i64 1, .string ⟨#[112]⟩, .slice none 0 0]) := q13 rfl; subst e13; obtain ⟨v14, t14, q14⟩ := hdep 4 rfl _ 14 rfl rfl; have e14 : v14 = (.agg #[.int .i64 1, .string ⟨#[114]⟩, .slice none 0 0]) := q14 rfl; subst e14; clear hold hdep hdl; go_simp; refine (HB5.out wx).mono ?_; rintro e w3 ⟨u, rfl, hu, hb3⟩; obtain ⟨sl9, cap9, rfl⟩ := slice_shape hu; (refine hK.out _ _ { y with g := w3 } (by show St2 W DB 0 0 (L 10) (L 11) (L 6) (L 12) (L 13) _ _; rw [l4, l5]; exact HSt.out.up hb3) ⟨_, _, _, sl9, cap9, rfl, rfl, hu⟩ ?_); intro j hj hl
      rcases j with _ | _ | _ | _ | _ | _ | _ | _ | _ | _ | _ | _ | _ | _ | j
      · exact ⟨rfl, fun u h => h⟩
      · exact ⟨rfl, fun u h => h⟩
      · exact ⟨rfl, fun u h => gF_up (w := wx) (w' := wx) (below_join HSt.out.eqv hb3) u h⟩
      · exact ⟨rfl, fun u h => h⟩
      · exact ⟨rfl, fun u h => h⟩
      · exact Bool.noConfusion (hLi.symm.trans hj)
      · exact ⟨rfl, fun u h => h⟩
      · exact ⟨rfl, fun u h => h⟩
      · exact ⟨rfl, fun u h => h⟩
      · exact ⟨rfl, fun u h => h⟩
      · exact ⟨rfl, fun u h => h⟩
      · exact ⟨rfl, fun u h => h⟩
      · exact ⟨rfl, fun u h => h⟩
      · exact ⟨rfl, fun u h => h⟩
      · exact ⟨rfl, fun u h => h⟩
    · intro L y a wx hSt hLi hdl hcl hold hdep K hK
      (have l4 : L 12 = false := not_yet hLi fun h => hcl 12 _ rfl h 6 rfl); (have l5 : L 13 = false := not_yet hLi fun h => hcl 13 _ rfl h 6 rfl); rw [l4, l5] at hSt; have HSt : Hid (St2 W DB 0 0 (L 10) (L 11) (L 6) false false y wx) := hSt; clear hSt; obtain ⟨v12, t12, q12⟩ := hdep 2 rfl _ 12 rfl rfl; obtain ⟨ka, na, ksa, sla, cpa, fa, e12, ra⟩ := q12 rfl; subst e12; (have HFa : Hid (Rep wx (fun _ => True) _ (.agg #[.int .i64 ka, .string na, .slice sla ksa.length cpa])) := ra.up HSt.out.eqv); clear ra q12; obtain ⟨v15, t15, q15⟩ := hdep 5 rfl _ 15 rfl rfl; obtain ⟨kb, nb, ksb, slb, cpb, fb, e15, rb⟩ := q15 rfl; subst e15; (have HFb : Hid (Rep wx (fun _ => True) _ (.agg #[.int .i64 kb, .string nb, .slice slb ksb.length cpb])) := rb.up HSt.out.eqv); clear rb q15; clear hold hdep hdl; go_simp; refine (HIn.out _ _ wx HFa.out HFb.out).mono ?_; rintro e w3 ⟨x, rfl, hx, hb3⟩
      rcases hE : DB with ⟨k5, n5, ks5⟩
      have hx2 := hx; rw [hE] at hx2; obtain ⟨sl5, cp5, rfl⟩ := slice_shape hx2; (refine hK.out _ _ { y with g := w3, k := k5, n := n5, ks := ks5, sl := sl5, cp := cp5 } (by show St2 W DB 0 0 (L 10) (L 11) true (L 12) (L 13) _ _; rw [l4, l5]; exact HSt.out.call hb3 hE hx) rfl ?_); intro j hj hl
      rcases j with _ | _ | _ | _ | _ | _ | _ | _ | _ | _ | _ | _ | _ | _ | j
      · exact ⟨rfl, fun u h => h⟩
      · exact ⟨rfl, fun u h => h⟩
      · exact ⟨rfl, fun u h => gF_up (w := wx) (w' := wx) (below_join HSt.out.eqv hb3) u h⟩
      · exact ⟨rfl, fun u h => h⟩
      · exact ⟨rfl, fun u h => h⟩
      · exact ⟨rfl, fun u h => gF_up (w := wx) (w' := wx) (below_join HSt.out.eqv hb3) u h⟩
      · exact Bool.noConfusion (hLi.symm.trans hj)
      · exact Bool.noConfusion (hLi.symm.trans (hcl 7 _ rfl hj 6 rfl))
      · exact Bool.noConfusion (hLi.symm.trans (hcl 7 _ rfl (hcl 8 _ rfl hj 7 rfl) 6 rfl))
      · exact Bool.noConfusion (hLi.symm.trans (hcl 7 _ rfl (hcl 9 _ rfl hj 7 rfl) 6 rfl))
      · exact ⟨rfl, fun u h => h⟩
      · exact ⟨rfl, fun u h => h⟩
      · exact Bool.noConfusion (hLi.symm.trans (hcl 12 _ rfl hj 6 rfl))
      · exact Bool.noConfusion (hLi.symm.trans (hcl 13 _ rfl hj 6 rfl))
      · exact ⟨rfl, fun u h => h⟩
    · intro L y a wx hSt hLi hdl hcl hold hdep K hK
      (have l4 : L 12 = false := not_yet hLi fun h => hcl 12 _ rfl h 7 rfl); (have l5 : L 13 = false := not_yet hLi fun h => hcl 13 _ rfl h 7 rfl); rw [l4, l5] at hSt; have HSt : Hid (St2 W DB 0 0 (L 10) (L 11) (L 6) false false y wx) := hSt; clear hSt; obtain ⟨v16, t16, q16⟩ := hdep 6 rfl _ 16 rfl rfl; have e16 : v16 = (.tuple #[y.x, .agg #[.int .i64 0, .int .i64 0]]) := q16 rfl; subst e16; clear hold hdep hdl hcl; go_simp; (exact hK.out _ _ y (by show St2 W DB 0 0 (L 10) (L 11) (L 6) (L 12) (L 13) _ _; rw [l4, l5]; exact HSt.out) rfl (fun j hj hl => ⟨rfl, fun u h => h⟩))
    · intro L y a wx hSt hLi hdl hcl hold hdep K hK
      have HSt : Hid (St2 W DB 0 0 (L 10) (L 11) (L 6) (L 12) (L 13) y wx) := hSt; clear hSt; obtain ⟨v9, t9, q9⟩ := hdep 7 rfl _ 9 rfl rfl; have e9 : v9 = (.tuple #[y.x, .agg #[.int .i64 0, .int .i64 0]]) := q9 rfl; subst e9; clear hold hdep hdl hcl; go_simp; (exact hK.out _ _ y HSt.out rfl (fun j hj hl => ⟨rfl, fun u h => h⟩))
    · intro L y a wx hSt hLi hdl hcl hold hdep K hK
      have HSt : Hid (St2 W DB 0 0 (L 10) (L 11) (L 6) (L 12) (L 13) y wx) := hSt; clear hSt; obtain ⟨v9, t9, q9⟩ := hdep 7 rfl _ 9 rfl rfl; have e9 : v9 = (.tuple #[y.x, .agg #[.int .i64 0, .int .i64 0]]) := q9 rfl; subst e9; clear hold hdep hdl hcl; go_simp; (exact hK.out _ _ y HSt.out rfl (fun j hj hl => ⟨rfl, fun u h => h⟩))
    · intro L y a wx hSt hLi hdl hcl hold hdep K hK
      (have l4 : L 12 = false := not_yet hLi fun h => hcl 12 _ rfl h 10 rfl); (have l5 : L 13 = false := not_yet hLi fun h => hcl 13 _ rfl h 10 rfl); rw [l4, l5] at hSt; have HSt : Hid (St2 W DB 0 0 (L 10) (L 11) (L 6) false false y wx) := hSt; clear hSt; clear hold hdep hdl; go_simp; have hb3 : Below wx.heap.size wx (wx.alloc (.cells #[.int .i64 0, .string ⟨#[]⟩, .slice none 0 0] 24 (0, 0))) := (Below.refl _ _).alloc (Nat.le_refl _) _; (refine hK.out _ _ { y with g := wx.alloc (.cells #[.int .i64 0, .string ⟨#[]⟩, .slice none 0 0] 24 (0, 0)), b4 := wx.heap.size } (by show St2 W DB 0 0 true (L 11) (L 6) (L 12) (L 13) _ _; rw [l4, l5]; exact HSt.out.new4) rfl ?_); intro j hj hl
      rcases j with _ | _ | _ | _ | _ | _ | _ | _ | _ | _ | _ | _ | _ | _ | j
      · exact ⟨rfl, fun u h => h⟩
      · exact ⟨rfl, fun u h => h⟩
      · exact ⟨rfl, fun u h => gF_up (w := wx) (w' := wx) (below_join HSt.out.eqv hb3) u h⟩
      · exact ⟨rfl, fun u h => h⟩
      · exact ⟨rfl, fun u h => h⟩
      · exact ⟨rfl, fun u h => gF_up (w := wx) (w' := wx) (below_join HSt.out.eqv hb3) u h⟩
      · exact ⟨rfl, fun u h => h⟩
      · exact ⟨rfl, fun u h => h⟩
      · exact ⟨rfl, fun u h => h⟩
      · exact ⟨rfl, fun u h => h⟩
      · exact Bool.noConfusion (hLi.symm.trans hj)
      · exact ⟨rfl, fun u h => h⟩
      · exact Bool.noConfusion (hLi.symm.trans (hcl 12 _ rfl hj 10 rfl))
      · exact Bool.noConfusion (hLi.symm.trans (hcl 13 _ rfl hj 10 rfl))
      · exact ⟨rfl, fun u h => h⟩
    · intro L y a wx hSt hLi hdl hcl hold hdep K hK
      (have l4 : L 12 = false := not_yet hLi fun h => hcl 12 _ rfl h 11 rfl); (have l5 : L 13 = false := not_yet hLi fun h => hcl 13 _ rfl h 11 rfl); rw [l4, l5] at hSt; have HSt : Hid (St2 W DB 0 0 (L 10) (L 11) (L 6) false false y wx) := hSt; clear hSt; clear hold hdep hdl; go_simp; have hb3 : Below wx.heap.size wx (wx.alloc (.cells #[.int .i64 0, .int .i64 0] 29 (0, 0))) := (Below.refl _ _).alloc (Nat.le_refl _) _; (refine hK.out _ _ { y with g := wx.alloc (.cells #[.int .i64 0, .int .i64 0] 29 (0, 0)), b5 := wx.heap.size } (by show St2 W DB 0 0 (L 10) true (L 6) (L 12) (L 13) _ _; rw [l4, l5]; exact HSt.out.new5) rfl ?_); intro j hj hl
      rcases j with _ | _ | _ | _ | _ | _ | _ | _ | _ | _ | _ | _ | _ | _ | j
      · exact ⟨rfl, fun u h => h⟩
      · exact ⟨rfl, fun u h => h⟩
      · exact ⟨rfl, fun u h => gF_up (w := wx) (w' := wx) (below_join HSt.out.eqv hb3) u h⟩
      · exact ⟨rfl, fun u h => h⟩
      · exact ⟨rfl, fun u h => h⟩
      · exact ⟨rfl, fun u h => gF_up (w := wx) (w' := wx) (below_join HSt.out.eqv hb3) u h⟩
      · exact ⟨rfl, fun u h => h⟩
      · exact ⟨rfl, fun u h => h⟩
      · exact ⟨rfl, fun u h => h⟩
      · exact ⟨rfl, fun u h => h⟩
      · exact ⟨rfl, fun u h => h⟩
      · exact Bool.noConfusion (hLi.symm.trans hj)
      · exact Bool.noConfusion (hLi.symm.trans (hcl 12 _ rfl hj 11 rfl))
      · exact Bool.noConfusion (hLi.symm.trans (hcl 13 _ rfl hj 11 rfl))
      · exact ⟨rfl, fun u h => h⟩
    · intro L y a wx hSt hLi hdl hcl hold hdep K hK
      have la : L 10 = true := hdl 10 rfl; have lb : L 11 = true := hdl 11 rfl; have lc : L 6 = true := hdl 6 rfl; rw [la, lb, lc, hLi] at hSt; have HSt : Hid (St2 W DB 0 0 true true true false (L 13) y wx) := hSt; clear hSt; obtain ⟨v17, t17, q17⟩ := hdep 8 rfl _ 17 rfl rfl; have e17 : v17 = (.agg #[.int .i64 y.k, .string y.n, .slice y.sl y.ks.length y.cp]) := q17 rfl; subst e17; obtain ⟨v4, t4, q4⟩ := hdep 10 rfl _ 4 rfl rfl; have e4 : v4 = (.pointer (some ⟨y.b4, 0, none⟩)) := q4 rfl; subst e4; obtain ⟨c0, c1, c2, z0, z1, z2⟩ := blk3 HSt.out.w4; clear hold hdep hdl hcl; go_simp; (refine hK.out undef _ y (by show St2 W DB 0 0 (L 10) (L 11) (L 6) true (L 13) _ _; rw [la, lb, lc]; exact HSt.out.put4) trivial ?_); intro j hj hl
      rcases j with _ | _ | _ | _ | _ | _ | _ | _ | _ | _ | _ | _ | _ | _ | j
      · exact ⟨rfl, fun u h => h⟩
      · exact ⟨rfl, fun u h => h⟩
      · exact ⟨rfl, fun u h => h⟩
      · exact ⟨rfl, fun u h => h⟩
      · exact ⟨rfl, fun u h => h⟩
      · exact ⟨rfl, fun u h => h⟩
      · exact ⟨rfl, fun u h => h⟩
      · exact ⟨rfl, fun u h => h⟩
      · exact ⟨rfl, fun u h => h⟩
      · exact ⟨rfl, fun u h => h⟩
      · exact ⟨rfl, fun u h => h⟩
      · exact ⟨rfl, fun u h => h⟩
      · exact ⟨rfl, fun u h => h⟩
      · exact ⟨rfl, fun u h => h⟩
      · exact ⟨rfl, fun u h => h⟩
    · intro L y a wx hSt hLi hdl hcl hold hdep K hK
      have la : L 10 = true := hdl 10 rfl; have lb : L 11 = true := hdl 11 rfl; have lc : L 6 = true := hdl 6 rfl; rw [la, lb, lc, hLi] at hSt; have HSt : Hid (St2 W DB 0 0 true true true (L 12) false y wx) := hSt; clear hSt; obtain ⟨v18, t18, q18⟩ := hdep 9 rfl _ 18 rfl rfl; have e18 : v18 = (.agg #[.int .i64 0, .int .i64 0]) := q18 rfl; subst e18; obtain ⟨v5, t5, q5⟩ := hdep 11 rfl _ 5 rfl rfl; have e5 : v5 = (.pointer (some ⟨y.b5, 0, none⟩)) := q5 rfl; subst e5; obtain ⟨c0, c1, z0, z1⟩ := blk2 HSt.out.w5; clear hold hdep hdl hcl; go_simp; (refine hK.out undef _ y (by show St2 W DB 0 0 (L 10) (L 11) (L 6) (L 12) true _ _; rw [la, lb, lc]; exact HSt.out.put5) trivial ?_); intro j hj hl
      rcases j with _ | _ | _ | _ | _ | _ | _ | _ | _ | _ | _ | _ | _ | _ | j
      · exact ⟨rfl, fun u h => h⟩
      · exact ⟨rfl, fun u h => h⟩
      · exact ⟨rfl, fun u h => h⟩
      · exact ⟨rfl, fun u h => h⟩
      · exact ⟨rfl, fun u h => h⟩
      · exact ⟨rfl, fun u h => h⟩
      · exact ⟨rfl, fun u h => h⟩
      · exact ⟨rfl, fun u h => h⟩
      · exact ⟨rfl, fun u h => h⟩
      · exact ⟨rfl, fun u h => h⟩
      · exact ⟨rfl, fun u h => h⟩
      · exact ⟨rfl, fun u h => h⟩
      · exact ⟨rfl, fun u h => h⟩
      · exact ⟨rfl, fun u h => h⟩
      · exact ⟨rfl, fun u h => h⟩
  · intro L y a wx hall hSt hsz hdf hold hgot
    (have la : L 10 = true := hall 10 (by decide)); (have lb : L 11 = true := hall 11 (by decide)); (have lc : L 6 = true := hall 6 (by decide)); (have ld : L 12 = true := hall 12 (by decide)); (have le : L 13 = true := hall 13 (by decide)); rw [la, lb, lc, ld, le] at hSt; have hE2 := hSt.fin HOf.out; obtain ⟨v4, t4, q4⟩ := hgot 10 _ 4 rfl rfl; have e4 : v4 = .pointer (some ⟨y.b4, 0, none⟩) := q4 rfl; obtain ⟨v5, t5, q5⟩ := hgot 11 _ 5 rfl rfl; have e5 : v5 = .pointer (some ⟨y.b5, 0, none⟩) := q5 rfl; subst e4 e5; obtain ⟨g0, b4, b5, k5, n5, ks5, sl5, cp5⟩ := y; simp only at hE2 t4 t5; have HE : Hid (End2 W DB 0 0 b4 b5 k5 n5 ks5 sl5 cp5 wx) := hE2; clear hSt hE2; obtain ⟨tm, df⟩ := a; obtain ⟨x0, x1, x2, x3, x4, x5, x6, x7, x8, x9, x10, x11, x12, x13, x14, x15, x16, x17, x18, x19, x20, x21, x22, x23, x24, x25, x26, x27, x28, x29, x30, x31, x32, x33, x34, x35, x36, htm⟩ := frameS37 tm hsz; subst htm; obtain rfl : df = [] := hdf; obtain rfl : x0 = _ := Option.some.inj (hold 0 rfl); obtain rfl : x1 = _ := Option.some.inj (hold 1 rfl); obtain rfl : x2 = _ := Option.some.inj (hold 2 rfl); obtain rfl : x3 = _ := Option.some.inj (hold 3 rfl); obtain rfl : x6 = _ := Option.some.inj (hold 6 rfl); obtain rfl : x7 = _ := Option.some.inj (hold 7 rfl); obtain rfl : x8 = _ := Option.some.inj (hold 8 rfl); obtain rfl : x19 = _ := Option.some.inj (hold 19 rfl); obtain rfl : x20 = _ := Option.some.inj (hold 20 rfl); obtain rfl : x21 = _ := Option.some.inj (hold 21 rfl); obtain rfl : x22 = _ := Option.some.inj (hold 22 rfl); obtain rfl : x23 = _ := Option.some.inj (hold 23 rfl); obtain rfl : x24 = _ := Option.some.inj (hold 24 rfl); obtain rfl : x25 = _ := Option.some.inj (hold 25 rfl); obtain rfl : x26 = _ := Option.some.inj (hold 26 rfl); obtain rfl : x27 = _ := Option.some.inj (hold 27 rfl); obtain rfl : x28 = _ := Option.some.inj (hold 28 rfl); obtain rfl : x29 = _ := Option.some.inj (hold 29 rfl); obtain rfl : x30 = _ := Option.some.inj (hold 30 rfl); obtain rfl : x31 = _ := Option.some.inj (hold 31 rfl); obtain rfl : x32 = _ := Option.some.inj (hold 32 rfl); obtain rfl : x33 = _ := Option.some.inj (hold 33 rfl); obtain rfl : x34 = _ := Option.some.inj (hold 34 rfl); obtain rfl : x35 = _ := Option.some.inj (hold 35 rfl); obtain rfl : x36 = _ := Option.some.inj (hold 36 rfl); obtain rfl : x4 = _ := Option.some.inj t4; obtain rfl : x5 = _ := Option.some.inj t5; clear hold hgot hall; (have HRp : Hid (Rep wx (fun _ => True) DB (.agg #[.int .i64 k5, .string n5, .slice sl5 ks5.length cp5])) := HE.out.rep.weak fun _ _ _ => trivial); have HBx : Hid (Below w.heap.size w wx) := below_join HBW.out HE.out.below; obtain ⟨c0, c1, c2, -⟩ := blk3 HE.out.at4; obtain ⟨m0, m1, -⟩ := blk2 HE.out.at5; have y4 := lt_of_block HE.out.at4; have HE4 : Hid (wx.heap[b4]? = some _) := HE.out.at4; clear HE; go_wp2_with fail; have hbA : Below wx.heap.size wx (wx.alloc (.cells #[.string ⟨#[112]⟩] 9 (0, 0))) := (Below.refl _ _).alloc (Nat.le_refl _) _; refine (HPl.out _ _ _ (HRp.out.up hbA) (SL.one (t := [112]) (blk_new wx _))).mono ?_; rintro e w4 ⟨rfl, hb4⟩; have HB4 : Hid (Below wx.heap.size wx w4) := below_join hbA hb4; clear c0 c1 c2 hbA hb4; obtain ⟨c0, c1, c2, -⟩ := blk3 (below_keep HB4.out HE4.out); have y5 : b4 < w4.heap.size := lt_of_block (below_keep HB4.out HE4.out); go_wp2_with fail; have hbA : Below w4.heap.size w4 (w4.alloc (.cells #[.string ⟨#[112]⟩] 9 (0, 0))) := (Below.refl _ _).alloc (Nat.le_refl _) _; refine (HT1.out _ _ _ ((HRp.out.up HB4.out).up hbA) (SL.one (t := [112]) (blk_new w4 _))).mono ?_; rintro e w5 ⟨rfl, hb5⟩; have HB5 : Hid (Below wx.heap.size wx w5) := below_join HB4.out (below_join hbA hb5); clear c0 c1 c2 hbA hb5; obtain ⟨c0, c1, c2, -⟩ := blk3 (below_keep HB5.out HE4.out); go_wp2_with fail; (refine (HT0.out _ _ _ (HRp.out.up HB5.out) (SL.nil0 (by simp [maxLen]))).mono ?_); rintro e w6 ⟨rfl, hb6⟩; have HB6 : Hid (Below w.heap.size w w6) := below_join HBx.out (below_join HB5.out hb6); clear c0 c1 c2 hb6; go_wp2_with fail; go_ret; exact ⟨rfl, HB6.out⟩
end Go.Proofs.Ytffkoiemnchdgaf
