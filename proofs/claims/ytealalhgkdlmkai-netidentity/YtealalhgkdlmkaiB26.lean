/- Texts of one proof, one behind the other: NTK, NTO, NTQ. -/
import Derived.Test.YtealalhgkdlmkaiB25
import Derived.Test.YtealalhgkdlmkaiB09
/- Walks: isCorrect and Correct. -/
namespace Go.Proofs.Ytealalhgkdlmkai
open Go.RowKit Go.Sort Go.Maps Go.WideMaps

/-- When a net of formulas with mates is correct, as the program tells it. -/
def CorrN (l : List Lm) (mu : Nat → Option Nat) (k : Nat) : Prop := k + jSum (ndsL l 0) + 1 = (ndsL l 0).length ∧ WholeN (ndsL l 0) (lkE (lvsL l 0) mu)
theorem rowR15 (l : List Value) (h0 : l.length = 15) : ∃ x0 x1 x2 x3 x4 x5 x6 x7 x8 x9 x10 x11 x12 x13 x14, l = [x0, x1, x2, x3, x4, x5, x6, x7, x8, x9, x10, x11, x12, x13, x14] := by
  obtain ⟨x0, l1, e0, h1⟩ := cons_lenM h0; obtain ⟨x1, l2, e1, h2⟩ := cons_lenM h1; obtain ⟨x2, l3, e2, h3⟩ := cons_lenM h2; obtain ⟨x3, l4, e3, h4⟩ := cons_lenM h3; obtain ⟨x4, l5, e4, h5⟩ := cons_lenM h4; obtain ⟨x5, l6, e5, h6⟩ := cons_lenM h5; obtain ⟨x6, l7, e6, h7⟩ := cons_lenM h6; obtain ⟨x7, l8, e7, h8⟩ := cons_lenM h7; obtain ⟨x8, l9, e8, h9⟩ := cons_lenM h8; obtain ⟨x9, l10, e9, h10⟩ := cons_lenM h9; obtain ⟨x10, l11, e10, h11⟩ := cons_lenM h10; obtain ⟨x11, l12, e11, h12⟩ := cons_lenM h11; obtain ⟨x12, l13, e12, h13⟩ := cons_lenM h12; obtain ⟨x13, l14, e13, h14⟩ := cons_lenM h13; obtain ⟨x14, l15, e14, h15⟩ := cons_lenM h14; have e15 : l15 = [] := List.length_eq_zero_iff.1 h15; subst e15 e14 e13 e12 e11 e10 e9 e8 e7 e6 e5 e4 e3 e2 e1 e0; exact ⟨x0, x1, x2, x3, x4, x5, x6, x7, x8, x9, x10, x11, x12, x13, x14, rfl⟩
set_option maxRecDepth 10000 in
set_option maxHeartbeats 8000000 in
theorem isCorrect_any (l : List Lm) (hf : ∀ f ∈ l, LFine f) (hs : Lm.sizes l ≤ 200) (hs0 : 0 < Lm.sizes l) (mu : Nat → Option Nat) (hmu : MuOk (lvsL l 0).length mu) (k bp bm : Nat) (hk : k ≤ 1000) (B : Bool) (hB : B = true ↔ CorrN l mu k) (w : World) (h : NetAt w bp bm l mu (2 * k)) :
    Calls Try.prog 38 #[nwV bp bm] w fun e w' => e = .returned (.bool B) ∧ Below w.heap.size w w' := by
  have hnl : (ndsL l 0).length = Lm.sizes l := ndsL_len l 0
  obtain ⟨B2, hB2⟩ : ∃ B2 : Bool, B2 = true ↔ WholeN (ndsL l 0) (lkE (lvsL l 0) mu) := by
    by_cases hw : WholeN (ndsL l 0) (lkE (lvsL l 0) mu)
    · exact ⟨true, fun _ => hw, fun _ => rfl⟩
    · exact ⟨false, fun e => (by cases e), fun e => absurd e hw⟩
  (have HJo : Hid (∀ W, Below w.heap.size w W → Calls Try.prog 61 #[.agg #[.pointer (some ⟨bp, 0, none⟩), .map (some bm)]] W fun e w' => e = .returned (.int .i64 ((k + jSum (ndsL l 0) : Nat) : Int)) ∧ Below W.heap.size W w') := fun W hb => joints_any l hs mu k bp bm hk W (h.up hb)); (have HWh : Hid (∀ W, Below w.heap.size w W → Calls Try.prog 62 #[.agg #[.pointer (some ⟨bp, 0, none⟩), .map (some bm)]] W fun e w' => e = .returned (.bool B2) ∧ Below W.heap.size W w') := fun W hb => isWhole_any l hf hs hs0 mu hmu (2 * k) bp bm B2 hB2 W (h.up hb)); have hjl := jSum_le (ndsL l 0); obtain ⟨T, ar, cr, hp, -⟩ := h; obtain ⟨an, cn, al, cl, h0, -, -, hcn, -, -, -⟩ := hp.read; (have hBB : (B = true ↔ k + jSum (ndsL l 0) + 1 = (ndsL l 0).length ∧ B2 = true) := by rw [hB, hB2]; exact Iff.rfl); obtain ⟨n, hn⟩ : ∃ n, n = (ndsL l 0).length := ⟨_, rfl⟩; obtain ⟨j, hj⟩ : ∃ j, j = k + jSum (ndsL l 0) := ⟨_, rfl⟩; rw [← hj] at HJo hBB; rw [← hn] at h0 hBB hnl hjl; (obtain ⟨n1, hn1⟩ : ∃ n1 : Nat, n1 + 1 = n := ⟨n - 1, by omega⟩); have HC0 : Hid (w.cell? ⟨bp, 0, none⟩ = some (.slice an n cn)) := h0; (have hnI : (n : Int) ≤ 200 := by omega); (have hjI : (j : Int) ≤ 1400 := by omega)
  have HSub : Hid (IntKind.i64.wrap ((n : Int) - 1) = (n1 : Int)) := by
    show _ = _; (rw [show (n : Int) - 1 = (n1 : Int) by omega]); (exact wrap_small _ (by omega))
  unfold nwV; obtain ⟨W, hW⟩ : ∃ W, W = w.alloc (.cells #[.pointer (some ⟨bp, 0, none⟩), .map (some bm)] 65 (0, 0)) := ⟨_, rfl⟩; (have HBW : Hid (Below w.heap.size w W) := by rw [hW]; exact below_more (Below.refl _ w) _); (have HXm : Hid (W.heap[w.heap.size]? = some (.cells #[.pointer (some ⟨bp, 0, none⟩), .map (some bm)] 65 (0, 0))) := by rw [hW]; exact blk_new _ _); have hWe := hW.symm; clear hp h0 hcn hf hs hs0 hmu hB hB2 hn hj hjl hnl hW hk; by_cases he : j = n1
  · have hbe : B = B2 := by
      rw [Bool.eq_iff_iff, hBB]; (exact ⟨fun h => h.2, fun h => ⟨by omega, h⟩⟩)
    subst hbe; (have heq : ((j : Int) == (n1 : Int)) = true := by simp; omega); clear he hBB hn1
    go_enter Try.func38, Try.ntmps38
    go_wp2_with fail; clear hWe; (refine wp_region_free (by kernel_rfl) [fun v _ => v = (.agg #[.pointer (some ⟨bp, 0, none⟩), .map (some bm)]), fun v _ => v = (.int .i64 (j : Nat)), fun v _ => v = (.pointer (some ⟨w.heap.size, 0, none⟩)), fun v _ => v = (.pointer (some ⟨bp, 0, none⟩)), fun v _ => v = (.pointer (some ⟨bp, 0, none⟩)), fun v _ => v = (.pointer (some ⟨bp, 0, none⟩)), fun v _ => v = (.slice an n cn), fun v _ => v = (.int .i64 (n : Nat)), fun v _ => v = (.int .i64 (n1 : Nat)), fun v _ => v = (.bool true), fun v _ => v = (.bool true), fun v _ => v = (.agg #[.pointer (some ⟨bp, 0, none⟩), .map (some bm)]), fun v _ => v = (.bool B), fun v _ => v = (.bool B), fun v _ => v = (.bool B)] ?_ (by kernel_rfl) (by kernel_rfl) 17 rfl (by kernel_rfl) ?_ ?_)
    · intro p hp
      simp only [List.mem_cons, List.not_mem_nil, or_false] at hp
      rcases hp with rfl | rfl | rfl | rfl | rfl | rfl | rfl | rfl | rfl | rfl | rfl | rfl | rfl | rfl | rfl
      · exact fun _ _ _ h _ => h
      · exact fun _ _ _ h _ => h
      · exact fun _ _ _ h _ => h
      · exact fun _ _ _ h _ => h
      · exact fun _ _ _ h _ => h
      · exact fun _ _ _ h _ => h
      · exact fun _ _ _ h _ => h
      · exact fun _ _ _ h _ => h
      · exact fun _ _ _ h _ => h
      · exact fun _ _ _ h _ => h
      · exact fun _ _ _ h _ => h
      · exact fun _ _ _ h _ => h
      · exact fun _ _ _ h _ => h
      · exact fun _ _ _ h _ => h
      · exact fun _ _ _ h _ => h
    · refine ⟨?_, ?_, ?_, ?_, ?_, ?_, ?_, ?_, ?_, ?_, ?_, ?_, ?_, ?_, ?_, trivial⟩
      · intro a wx hB hold hdep K hK
        have t1 : a.tmps[1]? = some (.pointer (some ⟨w.heap.size, 0, none⟩)) := hold.2.2 1 rfl; obtain ⟨q0, q1, -⟩ := blk2 (below_keep hB HXm.out); clear hold hdep; go_simp; exact hK.out _ _ rfl (Below.refl _ _)
      · intro a wx hB hold hdep K hK
        obtain ⟨v3, t3, p3⟩ := hdep 0 rfl _ 3 rfl rfl; have e3 : v3 = (.agg #[.pointer (some ⟨bp, 0, none⟩), .map (some bm)]) := p3; subst e3; have HW : Hid (Calls Try.prog 61 #[.agg #[.pointer (some ⟨bp, 0, none⟩), .map (some bm)]] wx _) := HJo.out _ (below_join HBW.out hB); clear hold hdep; go_simp; refine HW.out.mono ?_; rintro _ w9 ⟨rfl, hb9⟩; go_simp; exact hK.out _ _ rfl hb9
      · intro a wx hB hold hdep K hK
        have t1 : a.tmps[1]? = some (.pointer (some ⟨w.heap.size, 0, none⟩)) := hold.2.2 1 rfl; clear hold hdep; go_simp; exact hK.out _ _ rfl (Below.refl _ _)
      · intro a wx hB hold hdep K hK
        obtain ⟨v5, t5, p5⟩ := hdep 2 rfl _ 5 rfl rfl; have e5 : v5 = (.pointer (some ⟨w.heap.size, 0, none⟩)) := p5; subst e5; obtain ⟨q0, q1, -⟩ := blk2 (below_keep hB HXm.out); clear hold hdep; go_simp; exact hK.out _ _ rfl (Below.refl _ _)
      · intro a wx hB hold hdep K hK
        obtain ⟨v6, t6, p6⟩ := hdep 3 rfl _ 6 rfl rfl; have e6 : v6 = (.pointer (some ⟨bp, 0, none⟩)) := p6; subst e6; clear hold hdep; go_simp; exact hK.out _ _ rfl (Below.refl _ _)
      · intro a wx hB hold hdep K hK
        obtain ⟨v7, t7, p7⟩ := hdep 4 rfl _ 7 rfl rfl; have e7 : v7 = (.pointer (some ⟨bp, 0, none⟩)) := p7; subst e7; clear hold hdep; go_simp; exact hK.out _ _ rfl (Below.refl _ _)
      · intro a wx hB hold hdep K hK
        obtain ⟨v8, t8, p8⟩ := hdep 5 rfl _ 8 rfl rfl; have e8 : v8 = (.pointer (some ⟨bp, 0, none⟩)) := p8; subst e8; have d0 := ((below_join HBW.out hB).cell (lt_of_cell HC0.out)).trans HC0.out; clear hold hdep; go_simp; exact hK.out _ _ rfl (Below.refl _ _)
      · intro a wx hB hold hdep K hK
        obtain ⟨v9, t9, p9⟩ := hdep 6 rfl _ 9 rfl rfl; have e9 : v9 = (.slice an n cn) := p9; subst e9; clear hold hdep; go_simp; exact hK.out _ _ rfl (Below.refl _ _)
      · intro a wx hB hold hdep K hK
        obtain ⟨v10, t10, p10⟩ := hdep 7 rfl _ 10 rfl rfl; have e10 : v10 = (.int .i64 (n : Nat)) := p10; subst e10; have hw9 := HSub.out; clear hold hdep; go_simp; exact hK.out _ _ rfl (Below.refl _ _)
      · intro a wx hB hold hdep K hK
        obtain ⟨v4, t4, p4⟩ := hdep 1 rfl _ 4 rfl rfl; have e4 : v4 = (.int .i64 (j : Nat)) := p4; subst e4; obtain ⟨v11, t11, p11⟩ := hdep 8 rfl _ 11 rfl rfl; have e11 : v11 = (.int .i64 (n1 : Nat)) := p11; subst e11; have h9 := heq; clear hold hdep; go_simp; exact hK.out _ _ rfl (Below.refl _ _)
      · intro a wx hB hold hdep K hK
        obtain ⟨v12, t12, p12⟩ := hdep 9 rfl _ 12 rfl rfl; have e12 : v12 = (.bool true) := p12; subst e12; clear hold hdep; go_simp; exact hK.out _ _ rfl (Below.refl _ _)
      · intro a wx hB hold hdep K hK
        obtain ⟨v13, t13, p13⟩ := hdep 10 rfl _ 13 rfl rfl; have e13 : v13 = (.bool true) := p13; subst e13; have t1 : a.tmps[1]? = some (.pointer (some ⟨w.heap.size, 0, none⟩)) := hold.2.2 1 rfl; obtain ⟨q0, q1, -⟩ := blk2 (below_keep hB HXm.out); clear hold hdep; go_simp; exact hK.out _ _ rfl (Below.refl _ _)
      · intro a wx hB hold hdep K hK
        obtain ⟨v13, t13, p13⟩ := hdep 10 rfl _ 13 rfl rfl; have e13 : v13 = (.bool true) := p13; subst e13; obtain ⟨v14, t14, p14⟩ := hdep 11 rfl _ 14 rfl rfl; have e14 : v14 = (.agg #[.pointer (some ⟨bp, 0, none⟩), .map (some bm)]) := p14; subst e14; have HW : Hid (Calls Try.prog 62 #[.agg #[.pointer (some ⟨bp, 0, none⟩), .map (some bm)]] wx _) := HWh.out _ (below_join HBW.out hB); clear hold hdep; go_simp; refine HW.out.mono ?_; rintro _ w9 ⟨rfl, hb9⟩; go_simp; exact hK.out _ _ rfl hb9
      · intro a wx hB hold hdep K hK
        obtain ⟨v13, t13, p13⟩ := hdep 10 rfl _ 13 rfl rfl; have e13 : v13 = (.bool true) := p13; subst e13; obtain ⟨v15, t15, p15⟩ := hdep 12 rfl _ 15 rfl rfl; have e15 : v15 = (.bool B) := p15; subst e15; clear hold hdep; go_simp; exact hK.out _ _ rfl (Below.refl _ _)
      · intro a wx hB hold hdep K hK
        obtain ⟨v16, t16, p16⟩ := hdep 13 rfl _ 16 rfl rfl; have e16 : v16 = (.bool B) := p16; subst e16; clear hold hdep; go_simp; exact hK.out _ _ rfl (Below.refl _ _)
    · intro a wx hB hold hgot
      obtain ⟨vZ, tvZ, pvZ⟩ := hgot 14 _ 2 rfl rfl; have evZ : vZ = (.bool B) := pvZ; subst evZ; have HBx : Hid (Below W.heap.size W wx) := hB; obtain ⟨tm, df⟩ := a; (obtain ⟨ys, hys, htm, rfl⟩ := frame_mid2 2 15 (by kernel_rfl) (Nat.le_of_ble_eq_true rfl) hold); obtain ⟨x2, x3, x4, x5, x6, x7, x8, x9, x10, x11, x12, x13, x14, x15, x16, rfl⟩ := rowR15 ys hys; simp only [List.take_succ_cons, List.take_zero, List.drop_succ_cons, List.drop_zero, List.cons_append, List.nil_append] at htm; subst htm; obtain rfl : x2 = _ := someInjM tvZ; clear hys hold hgot tvZ hB; go_wp2_with fail; go_ret; exact ⟨rfl, below_join HBW.out HBx.out⟩
  · have hbe : B = false := by
      cases B with
      | false => rfl
      | true => exact absurd (hBB.1 rfl).1 (by omega)
    subst hbe; (have heq : ((j : Int) == (n1 : Int)) = false := by simp; omega); clear he hBB hn1
    go_enter Try.func38, Try.ntmps38
    go_wp2_with fail; clear hWe; (refine wp_region_free (by kernel_rfl) [fun v _ => v = (.agg #[.pointer (some ⟨bp, 0, none⟩), .map (some bm)]), fun v _ => v = (.int .i64 (j : Nat)), fun v _ => v = (.pointer (some ⟨w.heap.size, 0, none⟩)), fun v _ => v = (.pointer (some ⟨bp, 0, none⟩)), fun v _ => v = (.pointer (some ⟨bp, 0, none⟩)), fun v _ => v = (.pointer (some ⟨bp, 0, none⟩)), fun v _ => v = (.slice an n cn), fun v _ => v = (.int .i64 (n : Nat)), fun v _ => v = (.int .i64 (n1 : Nat)), fun v _ => v = (.bool false), fun v _ => v = (.bool false), fun _ _ => True, fun _ _ => True, fun v _ => v = (.bool false), fun v _ => v = (.bool false)] ?_ (by kernel_rfl) (by kernel_rfl) 17 rfl (by kernel_rfl) ?_ ?_)
    · intro p hp
      simp only [List.mem_cons, List.not_mem_nil, or_false] at hp
      rcases hp with rfl | rfl | rfl | rfl | rfl | rfl | rfl | rfl | rfl | rfl | rfl | rfl | rfl | rfl | rfl
      · exact fun _ _ _ h _ => h
      · exact fun _ _ _ h _ => h
      · exact fun _ _ _ h _ => h
      · exact fun _ _ _ h _ => h
      · exact fun _ _ _ h _ => h
      · exact fun _ _ _ h _ => h
      · exact fun _ _ _ h _ => h
      · exact fun _ _ _ h _ => h
      · exact fun _ _ _ h _ => h
      · exact fun _ _ _ h _ => h
      · exact fun _ _ _ h _ => h
      · exact fun _ _ _ h _ => h
      · exact fun _ _ _ h _ => h
      · exact fun _ _ _ h _ => h
      · exact fun _ _ _ h _ => h
    · refine ⟨?_, ?_, ?_, ?_, ?_, ?_, ?_, ?_, ?_, ?_, ?_, ?_, ?_, ?_, ?_, trivial⟩
      · intro a wx hB hold hdep K hK
        have t1 : a.tmps[1]? = some (.pointer (some ⟨w.heap.size, 0, none⟩)) := hold.2.2 1 rfl; obtain ⟨q0, q1, -⟩ := blk2 (below_keep hB HXm.out); clear hold hdep; go_simp; exact hK.out _ _ rfl (Below.refl _ _)
      · intro a wx hB hold hdep K hK
        obtain ⟨v3, t3, p3⟩ := hdep 0 rfl _ 3 rfl rfl; have e3 : v3 = (.agg #[.pointer (some ⟨bp, 0, none⟩), .map (some bm)]) := p3; subst e3; have HW : Hid (Calls Try.prog 61 #[.agg #[.pointer (some ⟨bp, 0, none⟩), .map (some bm)]] wx _) := HJo.out _ (below_join HBW.out hB); clear hold hdep; go_simp; refine HW.out.mono ?_; rintro _ w9 ⟨rfl, hb9⟩; go_simp; exact hK.out _ _ rfl hb9
      · intro a wx hB hold hdep K hK
        have t1 : a.tmps[1]? = some (.pointer (some ⟨w.heap.size, 0, none⟩)) := hold.2.2 1 rfl; clear hold hdep; go_simp; exact hK.out _ _ rfl (Below.refl _ _)
      · intro a wx hB hold hdep K hK
        obtain ⟨v5, t5, p5⟩ := hdep 2 rfl _ 5 rfl rfl; have e5 : v5 = (.pointer (some ⟨w.heap.size, 0, none⟩)) := p5; subst e5; obtain ⟨q0, q1, -⟩ := blk2 (below_keep hB HXm.out); clear hold hdep; go_simp; exact hK.out _ _ rfl (Below.refl _ _)
      · intro a wx hB hold hdep K hK
        obtain ⟨v6, t6, p6⟩ := hdep 3 rfl _ 6 rfl rfl; have e6 : v6 = (.pointer (some ⟨bp, 0, none⟩)) := p6; subst e6; clear hold hdep; go_simp; exact hK.out _ _ rfl (Below.refl _ _)
      · intro a wx hB hold hdep K hK
        obtain ⟨v7, t7, p7⟩ := hdep 4 rfl _ 7 rfl rfl; have e7 : v7 = (.pointer (some ⟨bp, 0, none⟩)) := p7; subst e7; clear hold hdep; go_simp; exact hK.out _ _ rfl (Below.refl _ _)
      · intro a wx hB hold hdep K hK
        obtain ⟨v8, t8, p8⟩ := hdep 5 rfl _ 8 rfl rfl; have e8 : v8 = (.pointer (some ⟨bp, 0, none⟩)) := p8; subst e8; have d0 := ((below_join HBW.out hB).cell (lt_of_cell HC0.out)).trans HC0.out; clear hold hdep; go_simp; exact hK.out _ _ rfl (Below.refl _ _)
      · intro a wx hB hold hdep K hK
        obtain ⟨v9, t9, p9⟩ := hdep 6 rfl _ 9 rfl rfl; have e9 : v9 = (.slice an n cn) := p9; subst e9; clear hold hdep; go_simp; exact hK.out _ _ rfl (Below.refl _ _)
      · intro a wx hB hold hdep K hK
        obtain ⟨v10, t10, p10⟩ := hdep 7 rfl _ 10 rfl rfl; have e10 : v10 = (.int .i64 (n : Nat)) := p10; subst e10; have hw9 := HSub.out; clear hold hdep; go_simp; exact hK.out _ _ rfl (Below.refl _ _)
      · intro a wx hB hold hdep K hK
        obtain ⟨v4, t4, p4⟩ := hdep 1 rfl _ 4 rfl rfl; have e4 : v4 = (.int .i64 (j : Nat)) := p4; subst e4; obtain ⟨v11, t11, p11⟩ := hdep 8 rfl _ 11 rfl rfl; have e11 : v11 = (.int .i64 (n1 : Nat)) := p11; subst e11; have h9 := heq; clear hold hdep; go_simp; exact hK.out _ _ rfl (Below.refl _ _)
      · intro a wx hB hold hdep K hK
        obtain ⟨v12, t12, p12⟩ := hdep 9 rfl _ 12 rfl rfl; have e12 : v12 = (.bool false) := p12; subst e12; clear hold hdep; go_simp; exact hK.out _ _ rfl (Below.refl _ _)
      · intro a wx hB hold hdep K hK
        obtain ⟨v13, t13, p13⟩ := hdep 10 rfl _ 13 rfl rfl; have e13 : v13 = (.bool false) := p13; subst e13; clear hold hdep; go_simp; exact hK.out _ _ trivial (Below.refl _ _)
      · intro a wx hB hold hdep K hK
        obtain ⟨v13, t13, p13⟩ := hdep 10 rfl _ 13 rfl rfl; have e13 : v13 = (.bool false) := p13; subst e13; clear hold hdep; go_simp; exact hK.out _ _ trivial (Below.refl _ _)
      · intro a wx hB hold hdep K hK
        obtain ⟨v13, t13, p13⟩ := hdep 10 rfl _ 13 rfl rfl; have e13 : v13 = (.bool false) := p13; subst e13; clear hold hdep; go_simp; exact hK.out _ _ rfl (Below.refl _ _)
      · intro a wx hB hold hdep K hK
        obtain ⟨v16, t16, p16⟩ := hdep 13 rfl _ 16 rfl rfl; have e16 : v16 = (.bool false) := p16; subst e16; clear hold hdep; go_simp; exact hK.out _ _ rfl (Below.refl _ _)
    · intro a wx hB hold hgot
      obtain ⟨vZ, tvZ, pvZ⟩ := hgot 14 _ 2 rfl rfl; have evZ : vZ = (.bool false) := pvZ; subst evZ; have HBx : Hid (Below W.heap.size W wx) := hB; obtain ⟨tm, df⟩ := a; (obtain ⟨ys, hys, htm, rfl⟩ := frame_mid2 2 15 (by kernel_rfl) (Nat.le_of_ble_eq_true rfl) hold); obtain ⟨x2, x3, x4, x5, x6, x7, x8, x9, x10, x11, x12, x13, x14, x15, x16, rfl⟩ := rowR15 ys hys; simp only [List.take_succ_cons, List.take_zero, List.drop_succ_cons, List.drop_zero, List.cons_append, List.nil_append] at htm; subst htm; obtain rfl : x2 = _ := someInjM tvZ; clear hys hold hgot tvZ hB; go_wp2_with fail; go_ret; exact ⟨rfl, below_join HBW.out HBx.out⟩
/-- The fault that is told. -/
def netE : LkR → Int × Int
  | .bad c a => (c, (a : Int))
  | .ok _ _ => (0, 0)
/-- What Correct says besides: B. -/
def CorrB (l : List Lm) (ax : List (Int × Int)) (B : Bool) : Prop := match netC l ax with
  | .bad _ _ => B = false
  | .ok mu _ => B = true ↔ CorrN l mu ax.length
theorem corrB_ex (l : List Lm) (ax : List (Int × Int)) : ∃ B, CorrB l ax B := by
  unfold CorrB
  split
  · exact ⟨false, rfl⟩
  · rename_i mu c _
    by_cases hw : CorrN l mu ax.length
    · exact ⟨true, fun _ => hw, fun _ => rfl⟩
    · exact ⟨false, fun e => (by cases e), fun e => absurd e hw⟩
theorem netC_ok {l : List Lm} {ax : List (Int × Int)} {mu : Nat → Option Nat} {c : Nat} (h : netC l ax = .ok mu c) : 1 ≤ l.length ∧ l.length ≤ 20 ∧ (∀ f ∈ l, LFine f) ∧ Lm.sizes l ≤ 200 ∧ linkC (ndsL l 0) (lvsL l 0) ax = .ok mu c ∧ 0 < Lm.sizes l := by
  unfold netC at h
  split at h
  · cases h
  · rename_i s hl
    obtain ⟨h1, h2, h3, h4, -⟩ := lcodeC_ok hl; refine ⟨h1, h2, h3, h4, h, ?_⟩
    match l, h1 with
    | f :: fs, _ => cases f; rw [Lm.sizes, Lm.size]; omega
theorem lnodeF_ne {k : Int} {n : ByteArray} {g : Bool} {len : Nat} {c : Int} (h : lnodeF k n g len = some c) : c ≠ 0 := by
  unfold lnodeF at h
  split at h
  · cases h; decide
  · split at h
    · cases h; decide
    · split at h
      · cases h; decide
      · cases h
mutual
theorem lchk_ne : ∀ (f : Lm) (s : Nat) (c : Int) (a : Nat), lchk f s = .bad c a → c ≠ 0
  | .mk k n g ks, s, c, a, h => by
    rw [lchk] at h
    split at h
    · cases h; decide
    · split at h
      · rename_i hn
        cases h
        exact lnodeF_ne hn
      · exact lchks_ne ks (s + 1) c a h
theorem lchks_ne : ∀ (fs : List Lm) (s : Nat) (c : Int) (a : Nat), lchks fs s = .bad c a → c ≠ 0
  | [], s, c, a, h => by rw [lchks] at h; cases h
  | f :: fs, s, c, a, h => by
    rw [lchks] at h
    split at h
    · rename_i h1
      cases h
      exact lchk_ne f s _ _ h1
    · exact lchks_ne fs _ c a h
end
theorem lkBad_ne {nds : List Nd} {lvs : List Nat} {mu : Nat → Option Nat} {p : Int × Int} {c : Int} (h : lkBad nds lvs mu p = some c) : c ≠ 0 := by
  have hok : ∀ L z e, okL L mu z = some e → e ≠ 0 := fun L z e he => by
    unfold okL at he
    split at he
    · cases he; decide
    · split at he
      · cases he; decide
      · cases he
  unfold lkBad at h
  split at h
  · rename_i h1; cases h; exact hok _ _ _ h1
  · split at h
    · rename_i h1; cases h; exact hok _ _ _ h1
    · simp at h
      rw [← h.2]
      decide
theorem lkAll_ne {nds : List Nd} {lvs : List Nat} : ∀ (ax : List (Int × Int)) (i : Nat) (mu : Nat → Option Nat) (k : Nat) (c : Int) (a : Nat), lkAll nds lvs ax i mu k = .bad c a → c ≠ 0
  | [], i, mu, k, c, a, h => by rw [lkAll] at h; cases h
  | p :: ps, i, mu, k, c, a, h => by
    rw [lkAll] at h
    split at h
    · rename_i h1; cases h; exact lkBad_ne h1
    · exact lkAll_ne ps _ _ _ c a h
theorem netC_bad {l : List Lm} {ax : List (Int × Int)} {c : Int} {a : Nat} (h : netC l ax = .bad c a) : c ≠ 0 := by
  unfold netC at h
  split at h
  · rename_i h1
    cases h
    unfold lcodeC at h1
    split at h1
    · cases h1; decide
    · exact lchks_ne _ _ _ _ h1
  · unfold linkC at h
    split at h
    · cases h; decide
    · split at h
      · rename_i h1; cases h; exact lkAll_ne _ _ _ _ _ _ h1
      · split at h
        · cases h; decide
        · cases h
set_option maxRecDepth 10000 in
set_option maxHeartbeats 4000000 in
theorem correct_any (l : List Lm) (ax : List (Int × Int)) (B : Bool) (hB : CorrB l ax B) (vl va : Value) (w : World) (hl : LL w vl l) (ha : PL w va ax) :
    Calls Try.prog 12 #[vl, va] w fun e w' => e = .returned (.tuple #[.bool B, .agg #[.int .i64 (netE (netC l ax)).1, .int .i64 (netE (netC l ax)).2]]) ∧ Below w.heap.size w w' := by
  obtain ⟨sl, cap, hvl, -⟩ := id hl; obtain ⟨asl, acap, hva, -⟩ := id ha; obtain ⟨W, hW⟩ : ∃ W, W = w.alloc (.cells #[.int .i64 0, .int .i64 0] 28 (0, 0)) := ⟨_, rfl⟩; (have HBW : Hid (Below w.heap.size w W) := by rw [hW]; exact below_more (Below.refl _ w) _); (have HF0 : Hid (W.heap[w.heap.size]? = some (.cells #[.int .i64 0, .int .i64 0] 28 (0, 0))) := by rw [hW]; exact blk_new _ _); (have HNw : Hid (Calls Try.prog 37 #[vl, va] W fun e w' => NWPost l (netC l ax) e w' ∧ Below W.heap.size W w') := networkOf_any l ax vl va W (hl.up HBW.out) (ha.up HBW.out)); have hWe := hW.symm; clear hW
  rcases hn : netC l ax with ⟨c, a⟩ | ⟨mu, cc⟩
  · rw [hn] at HNw
    (have hB2 : B = false := by unfold CorrB at hB; rw [hn] at hB; exact hB); subst hB2; have HCn : Hid (c ≠ 0) := netC_bad hn; (have hcn : (c != 0) = true := by simpa using HCn.out); (show Calls Try.prog _ _ _ fun e w' => e = .returned (.tuple #[.bool false, .agg #[.int .i64 c, .int .i64 (a : Int)]]) ∧ _); obtain ⟨ai, hai⟩ : ∃ ai : Int, ai = (a : Int) := ⟨_, rfl⟩; (have HNw : Hid (Calls Try.prog 37 #[vl, va] W fun e w' => (∃ (u : Option Addr) (v : Option Nat), e = .returned (.tuple #[.agg #[.pointer u, .map v], .agg #[.int .i64 c, .int .i64 ai]])) ∧ Below W.heap.size W w') := by rw [hai]; exact HNw.out); rw [← hai]; clear hai hn hB hl ha; subst hvl; subst hva
    go_enter Try.func12, Try.ntmps12
    go_wp2_with fail; refine HNw.out.mono ?_; rintro _ w1 ⟨⟨u, v, rfl⟩, hb1⟩; have HB1 : Hid (Below w.heap.size w w1) := below_join HBW.out hb1; have HF1 : Hid (w1.heap[w.heap.size]? = some (.cells #[.int .i64 0, .int .i64 0] 28 (0, 0))) := below_keep hb1 HF0.out; obtain ⟨X, hX⟩ : ∃ X, X = (w1.alloc (.cells #[.pointer u, .map v] 65 (0, 0))).alloc (.cells #[.int .i64 c, .int .i64 ai] 28 (0, 0)) := ⟨_, rfl⟩; (have HXB : Hid (Below w.heap.size w X) := by rw [hX]; exact below_more (below_more HB1.out _) _); (have HXf : Hid (X.heap[w.heap.size]? = some (.cells #[.int .i64 0, .int .i64 0] 28 (0, 0))) := by rw [hX]; exact alloc_keep (alloc_keep HF1.out _) _); (have HXe : Hid (X.heap[w1.heap.size + 1]? = some (.cells #[.int .i64 c, .int .i64 ai] 28 (0, 0))) := by rw [hX]; exact blk_secE _ _ _); obtain ⟨q0, q1, q2, q3⟩ := blk2 HXf.out; obtain ⟨d0, d1, -⟩ := blk2 HXe.out; (have z1 : ¬ w1.heap.size + 1 = w.heap.size := by have := lt_of_block HF1.out; omega); (have z2 : ¬ w.heap.size = w1.heap.size + 1 := fun e => z1 e.symm); have hXe := hX.symm; clear hX hWe hb1; go_wp2_with fail
    go_region
    all_goals
      go_wp2_with fail; obtain ⟨F, hF⟩ : ∃ F, F = (X.setCell ⟨w.heap.size, 0, none⟩ (.int .i64 c)).setCell ⟨w.heap.size, 1, none⟩ (.int .i64 ai) := ⟨_, rfl⟩; (have HF2 : Hid (F.heap[w.heap.size]? = some (.cells #[.int .i64 c, .int .i64 ai] 28 (0, 0))) := by rw [hF]; exact set2N HXf.out _ _); (have HF3 : Hid (Below w.heap.size w F) := by rw [hF]; exact (HXB.out.setCell (p := ⟨w.heap.size, 0, none⟩) (Nat.le_refl _) _).setCell (p := ⟨w.heap.size, 1, none⟩) (Nat.le_refl _) _); rw [← hF]; clear hF q0 q1 q2 q3 d0 d1; obtain ⟨o0, o1, -⟩ := blk2 HF2.out; (exact bodyPost_ret (v := .tuple #[.bool false, .agg #[.int .i64 c, .int .i64 ai]]) (by simp [results, Try.results12, go_sem, o0, o1]) rfl ⟨rfl, HF3.out.drew⟩)
  · rw [hn] at HNw
    (have hB2 : B = true ↔ CorrN l mu ax.length := by unfold CorrB at hB; rw [hn] at hB; exact hB); obtain ⟨g1, g2, g3, g4, g5, g6⟩ := netC_ok hn; obtain ⟨f1, f2, f3, f4, f5⟩ := linkC_ok g5; subst f2; have hlv := lvsL_len l 0; (have HIc : Hid (∀ bp bm W, NetAt W bp bm l mu (2 * ax.length) → Calls Try.prog 38 #[.agg #[.pointer (some ⟨bp, 0, none⟩), .map (some bm)]] W fun e w' => e = .returned (.bool B) ∧ Below W.heap.size W w') := fun bp bm W h => isCorrect_any l g3 g4 g6 mu f1 ax.length bp bm (by omega) B hB2 W h); (show Calls Try.prog _ _ _ fun e w' => e = .returned (.tuple #[.bool B, .agg #[.int .i64 0, .int .i64 0]]) ∧ _); obtain ⟨c, hc⟩ : ∃ c : Int, (0 : Int) = c := ⟨_, rfl⟩; obtain ⟨ai, hai⟩ : ∃ ai : Int, (0 : Int) = ai := ⟨_, rfl⟩; (have HNw : Hid (Calls Try.prog 37 #[vl, va] W fun e w' => (∃ bp bm, e = .returned (.tuple #[.agg #[.pointer (some ⟨bp, 0, none⟩), .map (some bm)], .agg #[.int .i64 c, .int .i64 ai]]) ∧ NetAt w' bp bm l mu (2 * ax.length)) ∧ Below W.heap.size W w') := by rw [← hc, ← hai]; exact HNw.out); (have hcn : (c != 0) = false := by rw [← hc]; rfl); clear hc hai hn hB hl ha hB2 g1 g2 g3 g4 g5 g6 f1 f3 f4 f5 hlv; subst hvl; subst hva
    go_enter Try.func12, Try.ntmps12
    go_wp2_with fail; refine HNw.out.mono ?_; rintro _ w1 ⟨⟨bp, bm, rfl, hnt⟩, hb1⟩; have HB1 : Hid (Below w.heap.size w w1) := below_join HBW.out hb1; have HF1 : Hid (w1.heap[w.heap.size]? = some (.cells #[.int .i64 0, .int .i64 0] 28 (0, 0))) := below_keep hb1 HF0.out; obtain ⟨X, hX⟩ : ∃ X, X = (w1.alloc (.cells #[.pointer (some ⟨bp, 0, none⟩), .map (some bm)] 65 (0, 0))).alloc (.cells #[.int .i64 c, .int .i64 ai] 28 (0, 0)) := ⟨_, rfl⟩; (have hbX : Below w1.heap.size w1 X := by rw [hX]; exact below_more (below_more (Below.refl _ _) _) _); have HXB : Hid (Below w.heap.size w X) := below_join HB1.out hbX; have HXf : Hid (X.heap[w.heap.size]? = some (.cells #[.int .i64 0, .int .i64 0] 28 (0, 0))) := below_keep hbX HF1.out; (have HXe : Hid (X.heap[w1.heap.size + 1]? = some (.cells #[.int .i64 c, .int .i64 ai] 28 (0, 0))) := by rw [hX]; exact blk_secE _ _ _); (have HXn : Hid (X.heap[w1.heap.size]? = some (.cells #[.pointer (some ⟨bp, 0, none⟩), .map (some bm)] 65 (0, 0))) := by rw [hX]; exact alloc_keep (blk_new _ _) _); have HXt : Hid (NetAt X bp bm l mu (2 * ax.length)) := hnt.up hbX; obtain ⟨d0, d1, -⟩ := blk2 HXe.out; obtain ⟨e0, e1, -⟩ := blk2 HXn.out; have hXe := hX.symm; clear hX hWe hb1 hnt hbX; go_wp2_with fail; refine (HIc.out bp bm X HXt.out).mono ?_; rintro _ w2 ⟨rfl, hb2⟩; have HB2 : Hid (Below w.heap.size w w2) := below_join HXB.out hb2; have HF2 : Hid (w2.heap[w.heap.size]? = some (.cells #[.int .i64 0, .int .i64 0] 28 (0, 0))) := below_keep hb2 HXf.out; clear hb2 d0 d1 e0 e1 hXe; obtain ⟨q0, q1, q2, q3⟩ := blk2 HF2.out; go_wp2_with fail; obtain ⟨F, hF⟩ : ∃ F, F = (w2.setCell ⟨w.heap.size, 0, none⟩ (.int .i64 0)).setCell ⟨w.heap.size, 1, none⟩ (.int .i64 0) := ⟨_, rfl⟩; (have HF4 : Hid (F.heap[w.heap.size]? = some (.cells #[.int .i64 0, .int .i64 0] 28 (0, 0))) := by rw [hF]; exact set2N HF2.out _ _); (have HF3 : Hid (Below w.heap.size w F) := by rw [hF]; exact (HB2.out.setCell (p := ⟨w.heap.size, 0, none⟩) (Nat.le_refl _) _).setCell (p := ⟨w.heap.size, 1, none⟩) (Nat.le_refl _) _); rw [← hF]; clear hF q0 q1 q2 q3; obtain ⟨o0, o1, -⟩ := blk2 HF4.out; (exact bodyPost_ret (v := .tuple #[.bool B, .agg #[.int .i64 0, .int .i64 0]]) (by simp [results, Try.results12, go_sem, o0, o1]) rfl ⟨rfl, HF3.out⟩)
end Go.Proofs.Ytealalhgkdlmkai
/- Plain: plans that are moved, and nets beside and on top of each other. -/
namespace Go.Proofs.Ytealalhgkdlmkai

/-- A node as another one, its kids moved by f. -/
structure AsN (f : Nat → Nat) (x y : Nd) : Prop where
  k : y.k = x.k
  n : y.n = x.n
  g : y.g = x.g
  kids : x.k = 2 ∨ x.k = 3 → y.a = f x.a ∧ y.b = f x.b
mutual
theorem ndsF_move : ∀ (f : Lm), LFine f → ∀ (s s' j : Nat) (x : Nd), (ndsF f s)[j]? = some x → ∃ y, (ndsF f s')[j]? = some y ∧ y.k = x.k ∧ y.n = x.n ∧ y.g = x.g ∧ (x.k = 2 ∨ x.k = 3 → y.a + s = x.a + s' ∧ y.b + s = x.b + s')
  | .mk k n g ks, hf, s, s', j, x, hx => by
    rw [ndsF] at hx; rw [ndsF]
    cases j with
    | zero =>
      simp at hx; subst hx; (refine ⟨_, rfl, rfl, rfl, rfl, fun hk => ?_⟩)
      cases hf with
      | atom _ _ _ => simp at hk
      | two _ f1 f2 _ _ _ => simp only [kidA, kidB]; omega
    | succ j =>
      (have hx2 : (ndsL ks (s + 1))[j]? = some x := by simpa using hx); obtain ⟨y, h1, h2, h3, h4, h5⟩ := ndsL_move ks hf.kids (s + 1) (s' + 1) j x hx2; (refine ⟨y, by simpa using h1, h2, h3, h4, fun hk => ?_⟩); have := h5 hk; omega
theorem ndsL_move : ∀ (fs : List Lm), (∀ f ∈ fs, LFine f) → ∀ (s s' j : Nat) (x : Nd), (ndsL fs s)[j]? = some x → ∃ y, (ndsL fs s')[j]? = some y ∧ y.k = x.k ∧ y.n = x.n ∧ y.g = x.g ∧ (x.k = 2 ∨ x.k = 3 → y.a + s = x.a + s' ∧ y.b + s = x.b + s')
  | [], _, s, s', j, x, hx => by rw [ndsL] at hx; simp at hx
  | f :: fs, hf, s, s', j, x, hx => by
    rw [ndsL] at hx; rw [ndsL]; have l1 := ndsF_len f s; have l2 := ndsF_len f s'
    rcases Nat.lt_or_ge j f.size with hj | hj
    · rw [List.getElem?_append_left (by rw [l1]; exact hj)] at hx
      (obtain ⟨y, h1, h2⟩ := ndsF_move f (hf f (by simp)) s s' j x hx); (exact ⟨y, by rw [List.getElem?_append_left (by rw [l2]; exact hj)]; exact h1, h2⟩)
    · rw [List.getElem?_append_right (by rw [l1]; exact hj), l1] at hx
      (obtain ⟨y, h1, h2, h3, h4, h5⟩ := ndsL_move fs (fun g hg => hf g (by simp [hg])) (s + f.size) (s' + f.size) (j - f.size) x hx); (refine ⟨y, by rw [List.getElem?_append_right (by rw [l2]; exact hj), l2]; exact h1, h2, h3, h4, fun hk => ?_⟩); have := h5 hk; omega
end
mutual
theorem lvsF_move : ∀ (f : Lm) (s d : Nat), lvsF f (s + d) = (lvsF f s).map (· + d)
  | .mk k n g ks, s, d => by
    (rw [lvsF, lvsF, List.map_append, show s + d + 1 = s + 1 + d by omega, lvsL_move ks])
    congr 1
    split <;> simp
theorem lvsL_move : ∀ (fs : List Lm) (s d : Nat), lvsL fs (s + d) = (lvsL fs s).map (· + d)
  | [], s, d => by rw [lvsL, lvsL]; rfl
  | f :: fs, s, d => by rw [lvsL, lvsL, List.map_append, lvsF_move f, show s + d + f.size = s + f.size + d by omega, lvsL_move fs]
end
/-- A part of a plan within another. -/
structure Emb (nds nds' : List Nd) (f : Nat → Nat) : Prop where
  node : ∀ (i : Nat) (x : Nd), nds[i]? = some x → ∃ y, nds'[f i]? = some y ∧ AsN f x y
  inj : ∀ i j, i < nds.length → j < nds.length → f i = f j → i = j
theorem Emb.lt {nds nds' : List Nd} {f : Nat → Nat} (h : Emb nds nds' f) {i : Nat} (hi : i < nds.length) : f i < nds'.length := by
  obtain ⟨y, hy, -⟩ := h.node i _ (List.getElem?_eq_getElem hi); exact (List.getElem?_eq_some_iff.1 hy).1
/-- What hangs together in a part hangs together in the whole. -/
theorem Emb.cn {nds nds' : List Nd} {f : Nat → Nat} (h : Emb nds nds' f) {E E' : Nat → Nat → Prop} (hE : ∀ i j, E i j → E' (f i) (f j)) {i j : Nat} (hc : Cn nds E i j) : Cn nds' E' (f i) (f j) := by
  induction hc with
  | refl i hi => exact Cn.refl _ (h.lt hi)
  | symm i j _ ih => exact Cn.symm _ _ ih
  | trans i j k _ _ ih1 ih2 => exact Cn.trans _ _ _ ih1 ih2
  | link i j he => exact Cn.link _ _ (hE i j he)
  | ten0 i x hx hk =>
    obtain ⟨y, hy, ha⟩ := h.node i x hx; rw [← (ha.kids (Or.inl hk)).1]
    exact Cn.ten0 _ y hy (ha.k.trans hk)
  | ten1 i x hx hk =>
    obtain ⟨y, hy, ha⟩ := h.node i x hx; rw [← (ha.kids (Or.inl hk)).2]
    exact Cn.ten1 _ y hy (ha.k.trans hk)
  | par i x hx hk _ ih =>
    obtain ⟨y, hy, ha⟩ := h.node i x hx; have hk2 := ha.kids (Or.inr hk); rw [← hk2.1, ← hk2.2] at ih; rw [← hk2.1]; exact Cn.par _ y hy (ha.k.trans hk) ih
end Go.Proofs.Ytealalhgkdlmkai
/- Plain: the links of two nets together. -/
namespace Go.Proofs.Ytealalhgkdlmkai

/-- Leaves of a plan within another: leaf j of the one is leaf j + d of the other, and its node is like it. -/
structure LvEmb (nds nds' : List Nd) (lvs lvs' : List Nat) (f : Nat → Nat) (d : Nat) : Prop where
  emb : Emb nds nds' f
  lv : ∀ j a : Nat, lvs[j]? = some a → lvs'[j + d]? = some (f a)
  lin : LvIn nds lvs
/-- A link that is fine in the one is fine in the other, where no more is linked. -/
theorem lkBad_emb {nds nds' : List Nd} {lvs lvs' : List Nat} {f : Nat → Nat} {d : Nat} (h : LvEmb nds nds' lvs lvs' f d) {mu mu' : Nat → Option Nat} (hmu : ∀ j, j < lvs.length → mu j = none → mu' (j + d) = none) {x y : Int} (hb : lkBad nds lvs mu (x, y) = none) : lkBad nds' lvs' mu' ((d : Int) + x, (d : Int) + y) = none := by
  obtain ⟨a, b, rfl, rfl, ha, hb2, hab, hma, hmb, na, nb, u, v, hna, hnb, hu, hv, hf⟩ := lkBad_none hb; (have e1 : ((d : Int) + (a : Int)) = ((a + d : Nat) : Int) := by omega); (have e2 : ((d : Int) + (b : Int)) = ((b + d : Nat) : Int) := by omega); have l1 := h.lv a na hna; have l2 := h.lv b nb hnb; have g1 := (List.getElem?_eq_some_iff.1 l1).1; have g2 := (List.getElem?_eq_some_iff.1 l2).1; obtain ⟨u', hu', au⟩ := h.emb.node na u hu; obtain ⟨v', hv', av⟩ := h.emb.node nb v hv; (have hf' : fitB u' v' = true := by unfold fitB at hf ⊢; rw [au.n, au.g, av.n, av.g]; exact hf); (have o1 : okL lvs'.length mu' ((a + d : Nat) : Int) = none := okL_fine rfl g1 (by rw [hmu a ha hma]; rfl)); (have o2 : okL lvs'.length mu' ((b + d : Nat) : Int) = none := okL_fine rfl g2 (by rw [hmu b hb2 hmb]; rfl)); rw [e1, e2]; unfold lkBad; simp only [o1, o2, Int.toNat_natCast, l1, l2, hu', hv', hf', if_true]
theorem lkAll_first {nds nds' : List Nd} {lvs lvs' : List Nat} {f : Nat → Nat} (h : LvEmb nds nds' lvs lvs' f 0) : ∀ (ax bx : List (Int × Int)) (i : Nat) (mu : Nat → Option Nat) (c : Nat) (mu1 : Nat → Option Nat) (c1 : Nat), lkAll nds lvs ax i mu c = .ok mu1 c1 → lkAll nds' lvs' (ax ++ bx) i mu c = lkAll nds' lvs' bx (i + ax.length) mu1 c1
  | [], bx, i, mu, c, mu1, c1, hl => by
    rw [lkAll] at hl
    cases hl
    rfl
  | (x, y) :: ps, bx, i, mu, c, mu1, c1, hl => by
    rw [lkAll] at hl
    split at hl
    · cases hl
    · rename_i hb
      (have hb2 := lkBad_emb h (mu' := mu) (fun j _ hj => hj) hb); simp only [Int.natCast_zero, Int.zero_add] at hb2; rw [List.cons_append, lkAll, hb2]; simp only; rw [lkAll_first h ps bx (i + 1) _ _ mu1 c1 hl, List.length_cons]
      congr 1
      omega
end Go.Proofs.Ytealalhgkdlmkai
