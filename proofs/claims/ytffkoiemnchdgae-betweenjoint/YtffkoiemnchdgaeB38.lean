/- Texts of one proof, one behind the other: BL4. -/
import Derived.Test.YtffkoiemnchdgaeB36
/- Walks: the laws' own helper between formulas: plainAnswer says yes of what is made well. -/
namespace Go.Proofs.Ytffkoiemnchdgae
open Go.RowKit Go.Sort

theorem frame_midB {ops : Array Oper} {tm : Array Value} {df : List Deferred} {a0 : Act} (lo n : Nat) (hin : (ops.toList.all fun o => match o.dst with | some d => decide (lo ≤ d ∧ lo + n > d) | none => true) = true) (hlen : lo + n ≤ a0.tmps.size) (h : OldSlots ops a0 ⟨tm, df⟩) : ∃ ys : List Value, ys.length = n ∧ tm = ⟨a0.tmps.toList.take lo ++ (ys ++ a0.tmps.toList.drop (lo + n))⟩ ∧ df = a0.defers := by
  obtain ⟨h1, h2, h3⟩ := h; have h1' : tm.toList.length = a0.tmps.toList.length := h1; have hl : lo + n ≤ a0.tmps.toList.length := hlen
  have old : ∀ t, (t < lo ∨ lo + n ≤ t) → tm.toList[t]? = a0.tmps.toList[t]? := fun t ht => by
    have := h3 t (by
      rw [List.all_eq_true] at hin ⊢; intro o ho; have := hin o ho
      cases hd : o.dst with
      | none => rfl
      | some d =>
        rw [hd] at this; have := of_decide_eq_true this; (refine bne_iff_ne.2 fun e => ?_); have e2 : d = t := Option.some.inj e; subst e2
        omega)
    simpa using this
  (refine ⟨(tm.toList.drop lo).take n, by rw [List.length_take, List.length_drop]; omega, ?_, h2⟩); apply Array.ext'; apply List.ext_getElem?; intro t
  rcases Nat.lt_or_ge t lo with ht | ht
  · rw [List.getElem?_append_left (by rw [List.length_take]; omega), List.getElem?_take_of_lt ht]
    exact old t (Or.inl ht)
  · rw [List.getElem?_append_right (by rw [List.length_take]; omega), List.length_take, Nat.min_eq_left (by omega)]
    rcases Nat.lt_or_ge t (lo + n) with ht2 | ht2
    · rw [List.getElem?_append_left (by rw [List.length_take, List.length_drop]; omega), List.getElem?_take_of_lt (by omega), List.getElem?_drop]
      congr 1
      omega
    · rw [List.getElem?_append_right (by rw [List.length_take, List.length_drop]; omega), List.length_take, List.length_drop, Nat.min_eq_left (by omega), List.getElem?_drop, old t (Or.inr ht2)]
      congr 1
      omega
theorem rowB29 (l : List Value) (h0 : l.length = 29) : ∃ x0 x1 x2 x3 x4 x5 x6 x7 x8 x9 x10 x11 x12 x13 x14 x15 x16 x17 x18 x19 x20 x21 x22 x23 x24 x25 x26 x27 x28, l = [x0, x1, x2, x3, x4, x5, x6, x7, x8, x9, x10, x11, x12, x13, x14, x15, x16, x17, x18, x19, x20, x21, x22, x23, x24, x25, x26, x27, x28] := by
  obtain ⟨x0, l1, e0, h1⟩ := cons_lenB h0; obtain ⟨x1, l2, e1, h2⟩ := cons_lenB h1; obtain ⟨x2, l3, e2, h3⟩ := cons_lenB h2; obtain ⟨x3, l4, e3, h4⟩ := cons_lenB h3; obtain ⟨x4, l5, e4, h5⟩ := cons_lenB h4; obtain ⟨x5, l6, e5, h6⟩ := cons_lenB h5; obtain ⟨x6, l7, e6, h7⟩ := cons_lenB h6; obtain ⟨x7, l8, e7, h8⟩ := cons_lenB h7; obtain ⟨x8, l9, e8, h9⟩ := cons_lenB h8; obtain ⟨x9, l10, e9, h10⟩ := cons_lenB h9; obtain ⟨x10, l11, e10, h11⟩ := cons_lenB h10; obtain ⟨x11, l12, e11, h12⟩ := cons_lenB h11; obtain ⟨x12, l13, e12, h13⟩ := cons_lenB h12; obtain ⟨x13, l14, e13, h14⟩ := cons_lenB h13; obtain ⟨x14, l15, e14, h15⟩ := cons_lenB h14; obtain ⟨x15, l16, e15, h16⟩ := cons_lenB h15; obtain ⟨x16, l17, e16, h17⟩ := cons_lenB h16; obtain ⟨x17, l18, e17, h18⟩ := cons_lenB h17; obtain ⟨x18, l19, e18, h19⟩ := cons_lenB h18; obtain ⟨x19, l20, e19, h20⟩ := cons_lenB h19; obtain ⟨x20, l21, e20, h21⟩ := cons_lenB h20; obtain ⟨x21, l22, e21, h22⟩ := cons_lenB h21; obtain ⟨x22, l23, e22, h23⟩ := cons_lenB h22; obtain ⟨x23, l24, e23, h24⟩ := cons_lenB h23; obtain ⟨x24, l25, e24, h25⟩ := cons_lenB h24; obtain ⟨x25, l26, e25, h26⟩ := cons_lenB h25; obtain ⟨x26, l27, e26, h27⟩ := cons_lenB h26; obtain ⟨x27, l28, e27, h28⟩ := cons_lenB h27; obtain ⟨x28, l29, e28, h29⟩ := cons_lenB h28; have e29 : l29 = [] := List.length_eq_zero_iff.1 h29; subst e29 e28 e27 e26 e25 e24 e23 e22 e21 e20 e19 e18 e17 e16 e15 e14 e13 e12 e11 e10 e9 e8 e7 e6 e5 e4 e3 e2 e1 e0; exact ⟨x0, x1, x2, x3, x4, x5, x6, x7, x8, x9, x10, x11, x12, x13, x14, x15, x16, x17, x18, x19, x20, x21, x22, x23, x24, x25, x26, x27, x28, rfl⟩
theorem LO.reps3 {A B : Nat} {w : World} {v : Value} {fs : List Fm} (h : LO A B w v fs) : ∃ g cap, v = .slice (some ⟨g, 0, none⟩) fs.length cap ∧ fs.length ≤ cap ∧ ∀ (j : Nat) (k : Int) (n : ByteArray) (ks : List Fm), fs[j]? = some (.mk k n ks) → ∃ sl cp, w.cell? ⟨g, j * 3, none⟩ = some (.int .i64 k) ∧ w.cell? ⟨g, j * 3 + 1, none⟩ = some (.string n) ∧ w.cell? ⟨g, j * 3 + 2, none⟩ = some (.slice sl ks.length cp) := by
  obtain ⟨g, cap, rfl, h1, h2, hr⟩ := h.reps; (refine ⟨g, cap, rfl, h1, fun j k n ks hj => ?_⟩); obtain ⟨sl, cp, p0, p1, p2, -⟩ := hr.at j k n ks hj; rw [Nat.zero_add] at p0 p1 p2; exact ⟨sl, cp, p0, p1, p2⟩
/-- What is known of the nodes of a formula that is made well. -/
theorem allN_made {l : List (List UInt8)} : ∀ (m : Nat) (f : Fm), f.size ≤ m → Fine f → Plain f → (∀ t ∈ nmsT f, t ∈ l) → ∀ k n ks, Fm.mk k n ks ∈ allN f → 1 ≤ k ∧ k ≤ 7 ∧ kindB k = true ∧ kidsN k = (ks.length : Int) ∧ (k = 1 → n.data.toList ∈ l) ∧ (k ≠ 1 → n = ⟨#[]⟩)
  | m, f, hm, hf, hp, hn, k, n, ks, hx => by
    (have hs : Fm.mk k n ks ∈ allN f → Fine (.mk k n ks) := fun h => fine_nodes f hf _ h); have hfi := hs hx; have hpl : isM k = false := (plain_iff f).1 hp _ hx
    have hnm : k = 1 → n.data.toList ∈ l := fun e => hn _ (by
      subst e; unfold nmsT
      exact List.mem_map.2 ⟨n, (nmsOf_mem _ _).2 ⟨ks, hx⟩, rfl⟩)
    rcases hfi.forms with ⟨m', e, -⟩ | e | e | ⟨k', g', h1, e, -⟩ | ⟨k', g', g'', h1, e, -⟩
    · cases e; exact ⟨by omega, by omega, by decide, by decide, hnm, fun h => absurd rfl h⟩
    · cases e; exact ⟨by omega, by omega, by decide, by decide, hnm, fun _ => rfl⟩
    · cases e; exact ⟨by omega, by omega, by decide, by decide, hnm, fun _ => rfl⟩
    · cases e
      have : k = 4 := by
        rcases h1 with rfl | rfl | rfl
        · rfl
        · cases hpl
        · cases hpl
      subst this; (exact ⟨by omega, by omega, by decide, rfl, hnm, fun _ => rfl⟩)
    · cases e
      rcases h1 with rfl | rfl | rfl
      · exact ⟨by omega, by omega, by decide, rfl, hnm, fun _ => rfl⟩
      · exact ⟨by omega, by omega, by decide, rfl, hnm, fun _ => rfl⟩
      · exact ⟨by omega, by omega, by decide, rfl, hnm, fun _ => rfl⟩

set_option maxRecDepth 10000 in
set_option maxHeartbeats 8000000 in
theorem plainAns_any (f : Fm) (l names : List (List UInt8)) (s : Nat) (hm : MadeF l s f) (hs : s ≤ 10000) (hl : ∀ t ∈ l, t ∈ names) (v u : Value) (w : World) (hrep : Rep w (fun _ => True) f v) (hu : SL w u names) :
    Calls Try.prog 21 #[v, u] w fun e w' => e = .returned (.bool true) ∧ Below w.heap.size w w' := by
  have hsz : f.size ≤ 10000 := Nat.le_trans hm.size hs; (have hwk := fun v w h => walk_any f v 20001 w (by omega) h); (rw [walkL_take, List.take_of_length_le (by rw [allN_len]; omega)] at hwk); (have hno := fun v W h => vastB_no f (by omega) v W h); (have HA : Hid (∀ k n ks, Fm.mk k n ks ∈ allN f → 1 ≤ k ∧ k ≤ 7 ∧ kindB k = true ∧ kidsN k = (ks.length : Int) ∧ (k = 1 → n.data.toList ∈ names) ∧ (k ≠ 1 → n = ⟨#[]⟩)) := fun k n ks h => allN_made f.size f (Nat.le_refl _) hm.fine hm.plain (fun t ht => hl t (hm.names t ht)) k n ks h); (have hNl : (allN f).length ≤ 10000 := by rw [allN_len]; exact hsz); generalize allN f = nodes at *; obtain ⟨k0, n0, ks0⟩ := f; obtain ⟨sl0, cap0, rfl⟩ := slice_shape hrep; (have HR : Hid (Rep w (fun _ => True) (.mk k0 n0 ks0) (.agg #[.int .i64 k0, .string n0, .slice sl0 ks0.length cap0])) := hrep); have HU : Hid (SL w u names) := hu; (have HW : Hid (∀ v w, Rep w (fun _ => True) (.mk k0 n0 ks0) v → Calls Try.prog 47 #[v, .int .i64 ((20001 : Nat) : Int)] w _) := hwk); (have HV : Hid (∀ v w, Rep w (fun _ => True) (.mk k0 n0 ks0) v → Calls Try.prog 13 #[v, .int .i64 0] w _) := hno); obtain ⟨adn, cpn, rfl, -⟩ := hu; (have hNI : (nodes.length : Int) ≤ 10000 := by omega); have hB0 := below_more (Below.refl _ w) (.cells #[.int .i64 k0, .string n0, .slice sl0 ks0.length cap0] 24 (0, 0)); clear hwk hno hrep hm hs hl hsz hNl
  go_enter Try.func21, Try.ntmps21
  go_wp2_with fail; refine (HV.out _ _ (HR.out.up hB0)).mono ?_; rintro e w1 ⟨rfl, hb1⟩; have HQ1 : Hid (w1.heap[w.heap.size]? = some (.cells #[.int .i64 k0, .string n0, .slice sl0 ks0.length cap0] 24 (0, 0))) := below_keep hb1 (blk_new w _); have HB1 : Hid (Below w.heap.size w w1) := below_join hB0 hb1; obtain ⟨a0, a1, a2, -⟩ := blk3 HQ1.out; clear hb1 hB0; go_wp2_with fail; refine (HW.out _ _ (HR.out.up HB1.out)).mono ?_; rintro e w2 ⟨x, rfl, hlo, hb2⟩; obtain ⟨g, cp, rfl, hgc, hcs⟩ := hlo.reps3; have HC : Hid (∀ (j : Nat) (k : Int) (n : ByteArray) (ks : List Fm), nodes[j]? = some (.mk k n ks) → ∃ sl cp, w2.cell? ⟨g, j * 3, none⟩ = some (.int .i64 k) ∧ w2.cell? ⟨g, j * 3 + 1, none⟩ = some (.string n) ∧ w2.cell? ⟨g, j * 3 + 2, none⟩ = some (.slice sl ks.length cp)) := hcs; have HB2 : Hid (Below w.heap.size w w2) := below_join HB1.out hb2; (have hgI : (nodes.length : Int) ≤ (cp : Int) := by omega); clear hlo hb2 hcs a0 a1 a2 hgc; go_wp2_with fail
  go_loopg [6] nodes.length (fun gg c wr => ∃ j, j ≤ nodes.length ∧ gg = nodes.length - j ∧ c = .int .i64 (j : Nat) ∧ Hid (Below w2.heap.size w2 wr))
  case atStart => exact ⟨0, by omega, by omega, rfl, Below.refl _ _⟩
  case round =>
    obtain ⟨j, hj, hg, rfl, HBr⟩ := hrel; have HG : Hid (gk = nodes.length - j) := hg; clear hg; by_cases hlt : j < nodes.length
    · obtain ⟨⟨k, n, ks⟩, hki⟩ : ∃ f, nodes[j]? = some f := ⟨_, List.getElem?_eq_getElem hlt⟩
      obtain ⟨sl, cap, p0, p1, p2⟩ := HC.out j k n ks hki; have zg := lt_of_cell p0; simp only at zg
      have HN : Hid (∀ wx, Below wr.heap.size wr wx → wx.cell? ⟨g, j * 3, none⟩ = some (.int .i64 k) ∧ wx.cell? ⟨g, j * 3 + 1, none⟩ = some (.string n) ∧ wx.cell? ⟨g, j * 3 + 2, none⟩ = some (.slice sl ks.length cap)) := fun wx hb => by
        have hbb := below_join HBr.out hb; exact ⟨(hbb.cell (p := ⟨g, j * 3, none⟩) zg).trans p0, (hbb.cell (p := ⟨g, j * 3 + 1, none⟩) zg).trans p1, (hbb.cell (p := ⟨g, j * 3 + 2, none⟩) zg).trans p2⟩
      (have HSl : Hid (∀ wx, Below wr.heap.size wr wx → SL wx (.slice adn names.length cpn) names) := fun wx hb => HU.out.up (below_join (below_join HB2.out HBr.out) hb)); obtain ⟨hk1, hk7, hkb, hkn, hmm, hm2⟩ := HA.out k n ks (List.mem_of_getElem? hki); have HM : Hid (k = 1 → n.data.toList ∈ names) := hmm; have HM2 : Hid (k ≠ 1 → n = ⟨#[]⟩) := hm2
      have HAr : Hid (∀ wx, Calls Try.prog 48 #[.int .i64 k] wx fun e w' => e = .returned (.int .i64 (ks.length : Nat)) ∧ Below wx.heap.size wx w') := fun wx => by
        have := arity_any k wx; rw [if_pos hkb, hkn] at this; exact this
      (have hn1 : ¬ k < 1 := by omega); (have hn7 : ¬ 7 < k := by omega); have HJ : Hid (j < nodes.length) := hlt; (have hltI : (j : Int) < (nodes.length : Int) := by omega); (have hlc : (j : Int) < (cp : Int) := by omega); clear p0 p1 p2 hki hlt hj hk1 hk7 hkb hkn hmm hm2 zg; go_wp2_with fail; (refine wp_region_free (by kernel_rfl) [kE (.slice (some ⟨g, 0, none⟩) nodes.length cp), kE (.int .i64 (j : Nat)), kE (.pointer (some ⟨g, j * 3, none⟩)), kE (.pointer (some ⟨g, j * 3, none⟩)), kE (.int .i64 k), kE (.bool false), kE (.bool false), kE (.slice (some ⟨g, 0, none⟩) nodes.length cp), kE (.int .i64 (j : Nat)), kE (.pointer (some ⟨g, j * 3, none⟩)), kE (.pointer (some ⟨g, j * 3, none⟩)), kE (.int .i64 k), kE (.bool false), kE (.bool false), kE (.bool false), kE (.slice (some ⟨g, 0, none⟩) nodes.length cp), kE (.int .i64 (j : Nat)), kE (.pointer (some ⟨g, j * 3, none⟩)), kE (.pointer (some ⟨g, j * 3 + 2, none⟩)), kE (.slice sl ks.length cap), kE (.int .i64 (ks.length : Nat)), kE (.slice (some ⟨g, 0, none⟩) nodes.length cp), kE (.int .i64 (j : Nat)), kE (.pointer (some ⟨g, j * 3, none⟩)), kE (.pointer (some ⟨g, j * 3, none⟩)), kE (.int .i64 k), kE (.int .i64 (ks.length : Nat)), kE (.bool false), kE (.bool false)] ?_ (by kernel_rfl) (by kernel_rfl) 81 rfl (by kernel_rfl) ?_ ?_)
      · intro p hp
        simp only [List.mem_cons, List.not_mem_nil, or_false] at hp
        rcases hp with rfl | rfl | rfl | rfl | rfl | rfl | rfl | rfl | rfl | rfl | rfl | rfl | rfl | rfl | rfl | rfl | rfl | rfl | rfl | rfl | rfl | rfl | rfl | rfl | rfl | rfl | rfl | rfl | rfl
        all_goals first | exact kE_stays _ | exact kN_stays
      · refine ⟨?_, ?_, ?_, ?_, ?_, ?_, ?_, ?_, ?_, ?_, ?_, ?_, ?_, ?_, ?_, ?_, ?_, ?_, ?_, ?_, ?_, ?_, ?_, ?_, ?_, ?_, ?_, ?_, ?_, trivial⟩
        · intro a wx hB hold hdep K hK; have t5 : a.tmps[5]? = some (.slice (some ⟨g, 0, none⟩) nodes.length cp) := hold.2.2 5 rfl; clear hold hdep; go_simp; exact hK.out _ _ rfl (Below.refl _ _)
        · intro a wx hB hold hdep K hK; have t6 : a.tmps[6]? = some (.int .i64 (j : Nat)) := hold.2.2 6 rfl; clear hold hdep; go_simp; exact hK.out _ _ rfl (Below.refl _ _)
        · intro a wx hB hold hdep K hK; have t20 := dep_e wx (hdep 0 rfl _ 20 rfl rfl); have t21 := dep_e wx (hdep 1 rfl _ 21 rfl rfl); clear hold hdep; go_simp; exact hK.out _ _ rfl (Below.refl _ _)
        · intro a wx hB hold hdep K hK; have t22 := dep_e wx (hdep 2 rfl _ 22 rfl rfl); clear hold hdep; go_simp; exact hK.out _ _ rfl (Below.refl _ _)
        · intro a wx hB hold hdep K hK; have t23 := dep_e wx (hdep 3 rfl _ 23 rfl rfl); obtain ⟨c0, c1, c2⟩ := HN.out wx hB; clear hold hdep; go_simp; exact hK.out _ _ rfl (Below.refl _ _)
        · intro a wx hB hold hdep K hK; have t24 := dep_e wx (hdep 4 rfl _ 24 rfl rfl); clear hold hdep; go_simp; exact hK.out _ _ (show Value.bool (decide (k < 1)) = _ from congrArg Value.bool (decide_eq_false (by omega))) (Below.refl _ _)
        · intro a wx hB hold hdep K hK; have t25 := dep_e wx (hdep 5 rfl _ 25 rfl rfl); clear hold hdep; go_simp; exact hK.out _ _ rfl (Below.refl _ _)
        · intro a wx hB hold hdep K hK; have t26 := dep_e wx (hdep 6 rfl _ 26 rfl rfl); have t5 : a.tmps[5]? = some (.slice (some ⟨g, 0, none⟩) nodes.length cp) := hold.2.2 5 rfl; clear hold hdep; go_simp; exact hK.out _ _ rfl (Below.refl _ _)
        · intro a wx hB hold hdep K hK; have t26 := dep_e wx (hdep 6 rfl _ 26 rfl rfl); have t6 : a.tmps[6]? = some (.int .i64 (j : Nat)) := hold.2.2 6 rfl; clear hold hdep; go_simp; exact hK.out _ _ rfl (Below.refl _ _)
        · intro a wx hB hold hdep K hK; have t26 := dep_e wx (hdep 6 rfl _ 26 rfl rfl); have t27 := dep_e wx (hdep 7 rfl _ 27 rfl rfl); have t28 := dep_e wx (hdep 8 rfl _ 28 rfl rfl); clear hold hdep; go_simp; exact hK.out _ _ rfl (Below.refl _ _)
        · intro a wx hB hold hdep K hK; have t26 := dep_e wx (hdep 6 rfl _ 26 rfl rfl); have t29 := dep_e wx (hdep 9 rfl _ 29 rfl rfl); clear hold hdep; go_simp; exact hK.out _ _ rfl (Below.refl _ _)
        · intro a wx hB hold hdep K hK; have t26 := dep_e wx (hdep 6 rfl _ 26 rfl rfl); have t30 := dep_e wx (hdep 10 rfl _ 30 rfl rfl); obtain ⟨c0, c1, c2⟩ := HN.out wx hB; clear hold hdep; go_simp; exact hK.out _ _ rfl (Below.refl _ _)
        · intro a wx hB hold hdep K hK; have t26 := dep_e wx (hdep 6 rfl _ 26 rfl rfl); have t31 := dep_e wx (hdep 11 rfl _ 31 rfl rfl); clear hold hdep; go_simp; exact hK.out _ _ (show Value.bool (decide (7 < k)) = _ from congrArg Value.bool (decide_eq_false (by omega))) (Below.refl _ _)
        · intro a wx hB hold hdep K hK; have t26 := dep_e wx (hdep 6 rfl _ 26 rfl rfl); have t32 := dep_e wx (hdep 12 rfl _ 32 rfl rfl); clear hold hdep; go_simp; exact hK.out _ _ rfl (Below.refl _ _)
        · intro a wx hB hold hdep K hK; have t33 := dep_e wx (hdep 13 rfl _ 33 rfl rfl); clear hold hdep; go_simp; exact hK.out _ _ rfl (Below.refl _ _)
        · intro a wx hB hold hdep K hK; have t34 := dep_e wx (hdep 14 rfl _ 34 rfl rfl); have t5 : a.tmps[5]? = some (.slice (some ⟨g, 0, none⟩) nodes.length cp) := hold.2.2 5 rfl; clear hold hdep; go_simp; exact hK.out _ _ rfl (Below.refl _ _)
        · intro a wx hB hold hdep K hK; have t34 := dep_e wx (hdep 14 rfl _ 34 rfl rfl); have t6 : a.tmps[6]? = some (.int .i64 (j : Nat)) := hold.2.2 6 rfl; clear hold hdep; go_simp; exact hK.out _ _ rfl (Below.refl _ _)
        · intro a wx hB hold hdep K hK; have t34 := dep_e wx (hdep 14 rfl _ 34 rfl rfl); have t35 := dep_e wx (hdep 15 rfl _ 35 rfl rfl); have t36 := dep_e wx (hdep 16 rfl _ 36 rfl rfl); clear hold hdep; go_simp; exact hK.out _ _ rfl (Below.refl _ _)
        · intro a wx hB hold hdep K hK; have t34 := dep_e wx (hdep 14 rfl _ 34 rfl rfl); have t37 := dep_e wx (hdep 17 rfl _ 37 rfl rfl); clear hold hdep; go_simp; exact hK.out _ _ rfl (Below.refl _ _)
        · intro a wx hB hold hdep K hK; have t34 := dep_e wx (hdep 14 rfl _ 34 rfl rfl); have t38 := dep_e wx (hdep 18 rfl _ 38 rfl rfl); obtain ⟨c0, c1, c2⟩ := HN.out wx hB; clear hold hdep; go_simp; exact hK.out _ _ rfl (Below.refl _ _)
        · intro a wx hB hold hdep K hK; have t34 := dep_e wx (hdep 14 rfl _ 34 rfl rfl); have t39 := dep_e wx (hdep 19 rfl _ 39 rfl rfl); clear hold hdep; go_simp; exact hK.out _ _ rfl (Below.refl _ _)
        · intro a wx hB hold hdep K hK; have t34 := dep_e wx (hdep 14 rfl _ 34 rfl rfl); have t5 : a.tmps[5]? = some (.slice (some ⟨g, 0, none⟩) nodes.length cp) := hold.2.2 5 rfl; clear hold hdep; go_simp; exact hK.out _ _ rfl (Below.refl _ _)
        · intro a wx hB hold hdep K hK; have t34 := dep_e wx (hdep 14 rfl _ 34 rfl rfl); have t6 : a.tmps[6]? = some (.int .i64 (j : Nat)) := hold.2.2 6 rfl; clear hold hdep; go_simp; exact hK.out _ _ rfl (Below.refl _ _)
        · intro a wx hB hold hdep K hK; have t34 := dep_e wx (hdep 14 rfl _ 34 rfl rfl); have t41 := dep_e wx (hdep 21 rfl _ 41 rfl rfl); have t42 := dep_e wx (hdep 22 rfl _ 42 rfl rfl); clear hold hdep; go_simp; exact hK.out _ _ rfl (Below.refl _ _)
        · intro a wx hB hold hdep K hK; have t34 := dep_e wx (hdep 14 rfl _ 34 rfl rfl); have t43 := dep_e wx (hdep 23 rfl _ 43 rfl rfl); clear hold hdep; go_simp; exact hK.out _ _ rfl (Below.refl _ _)
        · intro a wx hB hold hdep K hK; have t34 := dep_e wx (hdep 14 rfl _ 34 rfl rfl); have t44 := dep_e wx (hdep 24 rfl _ 44 rfl rfl); obtain ⟨c0, c1, c2⟩ := HN.out wx hB; clear hold hdep; go_simp; exact hK.out _ _ rfl (Below.refl _ _)
        · intro a wx hB hold hdep K hK; have t34 := dep_e wx (hdep 14 rfl _ 34 rfl rfl); have t45 := dep_e wx (hdep 25 rfl _ 45 rfl rfl); clear hold hdep; go_simp; refine (HAr.out wx).mono ?_; rintro e w1 ⟨rfl, hb1⟩; exact hK.out _ _ rfl hb1
        · intro a wx hB hold hdep K hK; have t34 := dep_e wx (hdep 14 rfl _ 34 rfl rfl); have t40 := dep_e wx (hdep 20 rfl _ 40 rfl rfl); have t46 := dep_e wx (hdep 26 rfl _ 46 rfl rfl); clear hold hdep; go_simp; exact hK.out _ _ rfl (Below.refl _ _)
        · intro a wx hB hold hdep K hK; have t34 := dep_e wx (hdep 14 rfl _ 34 rfl rfl); have t47 := dep_e wx (hdep 27 rfl _ 47 rfl rfl); clear hold hdep; go_simp; exact hK.out _ _ rfl (Below.refl _ _)
      · intro a wx hB hold hgot
        (obtain ⟨v48, t48, p48⟩ := hgot 28 _ 48 rfl rfl; have e48 : v48 = (.bool false) := p48; subst e48; obtain ⟨tm, df⟩ := a; obtain ⟨ys, hys, htm, rfl⟩ := frame_midB 20 29 (by kernel_rfl) (Nat.le_of_ble_eq_true rfl) hold; obtain ⟨x20, x21, x22, x23, x24, x25, x26, x27, x28, x29, x30, x31, x32, x33, x34, x35, x36, x37, x38, x39, x40, x41, x42, x43, x44, x45, x46, x47, x48, rfl⟩ := rowB29 ys hys; simp only [List.take_succ_cons, List.take_zero, List.drop_succ_cons, List.drop_zero, List.cons_append, List.nil_append] at htm; subst htm; obtain rfl : x48 = _ := Option.some.inj t48; have HBx : Hid (Below wr.heap.size wr wx) := hB; obtain ⟨c0, c1, c2⟩ := HN.out wx hB; clear hys hold hgot t48 p48 hB; by_cases hk1 : k = 1)
        · subst hk1
          have HHt : Hid (Calls Try.prog 29 #[.slice adn names.length cpn, .string ⟨n.data.toList.toArray⟩] wx _) := hasText_sl names n.data.toList _ wx (HSl.out wx HBx.out); rw [decide_eq_true (HM.out rfl)] at HHt; have hnn : (⟨n.data.toList.toArray⟩ : ByteArray) = n := rfl; rw [hnn] at HHt; clear hnn; go_wp2_with fail; refine HHt.out.mono ?_; rintro e w1 ⟨rfl, hw1⟩; have hw2 := hw1.symm; subst hw2; go_wp2_with fail
          go_roundg (nodes.length - (j + 1))
          case measure => have := HG.out; have := HJ.out; omega
          case rel => exact ⟨j + 1, HJ.out, rfl, by go_num, below_join HBr.out HBx.out⟩
        · have hkb : (k == 1) = false := by simpa using hk1
          (have hkn : (k != 1) = true := by simpa using hk1); have hnz := HM2.out hk1; subst hnz; clear hk1; go_wp2_with fail
          go_roundg (nodes.length - (j + 1))
          case measure => have := HG.out; have := HJ.out; omega
          case rel => exact ⟨j + 1, HJ.out, rfl, by go_num, below_join HBr.out HBx.out⟩
    · have hge : ¬ (j : Int) < (nodes.length : Int) := by omega
      clear hlt; go_wp2_with fail; go_ret; exact ⟨rfl, below_join HB2.out HBr.out⟩
end Go.Proofs.Ytffkoiemnchdgae
