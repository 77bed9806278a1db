/- Texts of one proof, one behind the other: KX4, KX5. -/
import Derived.Test.YtalnljnincnbdacGreatB29
import Derived.Test.YtalnljnincnbdacGreatB25
import Derived.Test.YtalnljnincnbdacGreatB28
import Derived.Test.YtalnljnincnbdacGreatB06
/- Walks: a premise of a step. -/
namespace Go.Proofs.YtalnljnincnbdacGreat
open Go.RowKit

theorem frame33 (a : Array Value) (h : a.size = 33) : ∃ x0 x1 x2 x3 x4 x5 x6 x7 x8 x9 x10 x11 x12 x13 x14 x15 x16 x17 x18 x19 x20 x21 x22 x23 x24 x25 x26 x27 x28 x29 x30 x31 x32, a = #[x0, x1, x2, x3, x4, x5, x6, x7, x8, x9, x10, x11, x12, x13, x14, x15, x16, x17, x18, x19, x20, x21, x22, x23, x24, x25, x26, x27, x28, x29, x30, x31, x32] := by
  obtain ⟨l⟩ := a; have h0 : l.length = 33 := h; obtain ⟨x0, l1, e0, h1⟩ := cons_len h0; obtain ⟨x1, l2, e1, h2⟩ := cons_len h1; obtain ⟨x2, l3, e2, h3⟩ := cons_len h2; obtain ⟨x3, l4, e3, h4⟩ := cons_len h3; obtain ⟨x4, l5, e4, h5⟩ := cons_len h4; obtain ⟨x5, l6, e5, h6⟩ := cons_len h5; obtain ⟨x6, l7, e6, h7⟩ := cons_len h6; obtain ⟨x7, l8, e7, h8⟩ := cons_len h7; obtain ⟨x8, l9, e8, h9⟩ := cons_len h8; obtain ⟨x9, l10, e9, h10⟩ := cons_len h9; obtain ⟨x10, l11, e10, h11⟩ := cons_len h10; obtain ⟨x11, l12, e11, h12⟩ := cons_len h11; obtain ⟨x12, l13, e12, h13⟩ := cons_len h12; obtain ⟨x13, l14, e13, h14⟩ := cons_len h13; obtain ⟨x14, l15, e14, h15⟩ := cons_len h14; obtain ⟨x15, l16, e15, h16⟩ := cons_len h15; obtain ⟨x16, l17, e16, h17⟩ := cons_len h16; obtain ⟨x17, l18, e17, h18⟩ := cons_len h17; obtain ⟨x18, l19, e18, h19⟩ := cons_len h18; obtain ⟨x19, l20, e19, h20⟩ := cons_len h19; obtain ⟨x20, l21, e20, h21⟩ := cons_len h20; obtain ⟨x21, l22, e21, h22⟩ := cons_len h21; obtain ⟨x22, l23, e22, h23⟩ := cons_len h22; obtain ⟨x23, l24, e23, h24⟩ := cons_len h23; obtain ⟨x24, l25, e24, h25⟩ := cons_len h24; obtain ⟨x25, l26, e25, h26⟩ := cons_len h25; obtain ⟨x26, l27, e26, h27⟩ := cons_len h26; obtain ⟨x27, l28, e27, h28⟩ := cons_len h27; obtain ⟨x28, l29, e28, h29⟩ := cons_len h28; obtain ⟨x29, l30, e29, h30⟩ := cons_len h29; obtain ⟨x30, l31, e30, h31⟩ := cons_len h30; obtain ⟨x31, l32, e31, h32⟩ := cons_len h31; obtain ⟨x32, l33, e32, h33⟩ := cons_len h32; have e33 : l33 = [] := List.length_eq_zero_iff.1 h33; subst e33 e32 e31 e30 e29 e28 e27 e26 e25 e24 e23 e22 e21 e20 e19 e18 e17 e16 e15 e14 e13 e12 e11 e10 e9 e8 e7 e6 e5 e4 e3 e2 e1 e0; exact ⟨x0, x1, x2, x3, x4, x5, x6, x7, x8, x9, x10, x11, x12, x13, x14, x15, x16, x17, x18, x19, x20, x21, x22, x23, x24, x25, x26, x27, x28, x29, x30, x31, x32, rfl⟩
theorem PRows.three {P : Nat → Prop} {w : World} {b : Nat} {u u' u2 : Value} {pr pr' pr2 : List Nat} {T : TypeId} (hp : P b) (h : w.heap[b]? = some (.cells #[u, u', u2] T (0, 0))) (hu : IRow P w u pr) (hu' : IRow P w u' pr') (hu2 : IRow P w u2 pr2) : PRows P w (.slice (some ⟨b, 0, none⟩) 3 3) [pr, pr', pr2] := by
  (refine ⟨_, 3, rfl, Nat.le_refl _, by simp [maxLen], fun _ => ⟨b, 0, rfl, hp, fun j q hj => ?_⟩⟩); rw [Nat.zero_add, blk_cell h]
  match j, hj with
  | 0, hj => simp at hj; subst hj; exact ⟨u, rfl, hu⟩
  | 1, hj => simp at hj; subst hj; exact ⟨u', rfl, hu'⟩
  | 2, hj => simp at hj; subst hj; exact ⟨u2, rfl, hu2⟩
  | j + 3, hj => simp at hj
def kPR (rs : List (List Nat)) : Value → World → Prop := fun v w => PRows (fun _ => True) w v rs
theorem kPR_stays (rs : List (List Nat)) : Stays (kPR rs) := fun _ _ _ h hb => PRows.move h fun b hl _ => ⟨hb.block b hl, trivial⟩
def kOwn (B : Nat) (l : List Nat) : Value → World → Prop := fun v w => ∃ ad cp, v = .slice ad l.length cp ∧ OwnI B l ad cp w
theorem kOwn_stays (B : Nat) (l : List Nat) : Stays (kOwn B l) := fun _ _ _ ⟨ad, cp, e, h⟩ hb => ⟨ad, cp, e, owns_up h hb⟩
theorem OwnI.low {B B' : Nat} {l : List Nat} {ad : Option Addr} {cp : Nat} {w : World} (h : OwnI B l ad cp w) (hB : B' ≤ B) : OwnI B' l ad cp w := by
  obtain ⟨h0, h1⟩ := h
  rcases h1 with h1 | ⟨g, cap, cur, hv, hg, h2⟩
  · exact ⟨h0, Or.inl h1⟩
  · exact ⟨h0, Or.inr ⟨g, cap, cur, hv, Nat.le_trans hB hg, h2⟩⟩
/-- Where an item lies first, and the row without it. -/
theorem idx_erase {l : List Nat} {i : Nat} (h : i ∈ l) : ∃ k, fIdxN (fun y => decide (i = y)) l = (k : Nat) ∧ k < l.length ∧ l.take k ++ l.drop (k + 1) = l.erase i := by
  (have ha : l.any (fun y => decide (i = y)) = true := List.any_eq_true.2 ⟨i, h, by simp⟩); (have hlt : l.findIdx (fun y => decide (i = y)) < l.length := List.findIdx_lt_length_of_exists ⟨i, h, by simp⟩); (refine ⟨l.findIdx fun y => decide (i = y), by unfold fIdxN; rw [if_pos ha], hlt, ?_⟩)
  have hf : (fun y => decide (i = y)) = fun y => y == i := by
    funext y
    rw [Bool.eq_iff_iff]; simp only [decide_eq_true_eq, beq_iff_eq]; exact eq_comm
  rw [List.erase_eq_eraseIdx_of_idxOf rfl, List.eraseIdx_eq_take_drop_succ, List.idxOf, hf]
theorem IRow.part {P : Nat → Prop} {w : World} {be oe cE : Nat} {l : List Nat} (h : IRow P w (.slice (some ⟨be, oe, none⟩) l.length cE) l) (k : Nat) (hk : k < l.length) : IRow P w (.slice (some ⟨be, oe, none⟩) k cE) (l.take k) ∧ ∃ ad9, ((cE = k + 1 ∧ ad9 = some ⟨be, oe, none⟩) ∨ (¬ cE = k + 1 ∧ ad9 = some ⟨be, oe + (k + 1), none⟩)) ∧ IRow P w (.slice ad9 (l.length - (k + 1)) (cE - (k + 1))) (l.drop (k + 1)) := by
  obtain ⟨ad', cap', e, h2, h3, h4⟩ := h; simp only [Value.slice.injEq, true_and] at e; obtain ⟨rfl, rfl⟩ := e; (obtain ⟨b, off, h5, h6, h7⟩ := h4 (fun e => by rw [e] at hk; simp at hk)); (obtain ⟨rfl, rfl⟩ : be = b ∧ oe = off := by simpa using h5); (refine ⟨⟨_, cE, by rw [List.length_take, Nat.min_eq_left (by omega)], by rw [List.length_take]; omega, h3, fun _ => ⟨be, oe, rfl, h6, fun j t hj => h7 j t ?_⟩⟩, ?_⟩)
  · have := (List.getElem?_eq_some_iff.1 hj).1
    rw [List.length_take] at this; (rw [List.getElem?_take_of_lt (by omega)] at hj); exact hj
  · by_cases hce : cE = k + 1
    · refine ⟨_, Or.inl ⟨hce, rfl⟩, _, cE - (k + 1), by rw [List.length_drop], by rw [List.length_drop]; omega, by omega, fun hne => absurd (List.length_eq_zero_iff.1 ?_) hne⟩
      rw [List.length_drop]; omega
    · refine ⟨_, Or.inr ⟨hce, rfl⟩, _, cE - (k + 1), by rw [List.length_drop], by rw [List.length_drop]; omega, by omega, fun _ => ⟨be, oe + (k + 1), rfl, h6, fun j t hj => ?_⟩⟩
      rw [List.getElem?_drop] at hj; rw [Nat.add_assoc]; exact h7 _ t hj
set_option maxRecDepth 10000 in
set_option maxHeartbeats 8000000 in
theorem premise_any {x : Fx} {w : World} {bz : Nat} {lean : Bool} {st nd : Nat} (h : WrSt x w bz lean st nd) (i nr : Nat) (its pr : List Nat) {Q : Nat → Prop} (v : Value) (hv : IRow Q w v its) (hi : i ∈ its) (hiL : i < x.L) (hpr : (wayOf x.ps i).2[nr]? = some pr) (hl : its.length ≤ 10000) (hlp : pr.length ≤ 10) :
    Calls Tryz.prog 148 #[.pointer (some ⟨bz, 0, none⟩), .int .i64 (i : Nat), .int .i64 (nr : Nat), v] w fun e w' => ∃ ad cp, e = .returned (.slice ad (its.erase i ++ pr).length cp) ∧ OwnI w.heap.size (its.erase i ++ pr) ad cp w' ∧ Below w.heap.size w w' := by
  obtain ⟨k, hk1, hk2, hk3⟩ := idx_erase hi; (have hv0 : IRow (fun _ => True) w v its := hv.move fun _ _ _ => ⟨rfl, trivial⟩)
  have HIx : Hid (∀ W, W = w → Calls Tryz.prog 193 #[v, .int .i64 (i : Nat)] W fun e w' => e = .returned (.int .i64 (k : Nat)) ∧ w' = W) := fun W hW => by
    subst hW; rw [← hk1]; exact index_it its v W hv i
  obtain ⟨adE, cE, rfl, hc1, hc2, hc3⟩ := hv; obtain ⟨be, oe, rfl, -, -⟩ := hc3 (List.ne_nil_of_mem hi); (have hps : x.ps ≠ [] := fun e => by have := h.l2; rw [e] at this; simp at this; omega); obtain ⟨adW, cW, eW, hw1, hw2, hw3⟩ := h.ways; obtain ⟨bW, rfl, -, hw4⟩ := hw3 hps; (obtain ⟨s0, u, -, hCw, -, hPr⟩ := hw4 i (by have := h.l2; omega)); obtain ⟨adP, cP, rfl, hp1, hp2, hp3⟩ := hPr; have hnr : nr < (wayOf x.ps i).2.length := (List.getElem?_eq_some_iff.1 hpr).1; (obtain ⟨bp, op, rfl, -, hp4⟩ := hp3 (fun e => by rw [e] at hnr; simp at hnr)); obtain ⟨u2, hCp, hR⟩ := hp4 nr pr hpr; (have hR0 : IRow (fun _ => True) w u2 pr := hR.move fun _ _ _ => ⟨rfl, trivial⟩); obtain ⟨adp, cq, rfl, -, -, -⟩ := hR; obtain ⟨np, hnp⟩ : ∃ np, np = pr.length := ⟨_, rfl⟩; obtain ⟨nP, hnP⟩ : ∃ nP, nP = (wayOf x.ps i).2.length := ⟨_, rfl⟩; obtain ⟨nW, hnW⟩ : ∃ nW, nW = 2 * x.ps.length := ⟨_, rfl⟩; obtain ⟨n, hn⟩ : ∃ n, n = its.length := ⟨_, rfl⟩; obtain ⟨hr1, ad9, hAd, hr2⟩ := hv0.part k hk2; have HAd : Hid ((cE = k + 1 ∧ ad9 = some ⟨be, oe, none⟩) ∨ (¬ cE = k + 1 ∧ ad9 = some ⟨be, oe + (k + 1), none⟩)) := hAd; obtain ⟨l1, hl1⟩ : ∃ l1, l1 = its.take k := ⟨_, rfl⟩; obtain ⟨l2, hl2⟩ : ∃ l2, l2 = its.drop (k + 1) := ⟨_, rfl⟩; have hz := h.blk; have hL := h.l2; have hpn := h.plen; rw [eW] at hz; rw [← hnp] at hCp hR0; rw [← hnP] at hCw hp1 hnr; rw [← hnW] at hz hw1; rw [← hn] at hk2 hc1 hr2 hl HIx ⊢; rw [← hl1] at hr1 hk3; rw [← hl2] at hr2 hk3; (have HEq : Hid (l1 ++ (l2 ++ pr) = its.erase i ++ pr) := by show _ = _; rw [← hk3, List.append_assoc]); (have HLn : Hid ([l1, l2, pr].flatten.length ≤ 100000 ∧ n ≤ 10000) := ⟨by rw [hl1, hl2]; simp; omega, hl⟩); (have HF : Hid (∀ W, Below w.heap.size w W → IRow (fun _ => True) W (.slice (some ⟨be, oe, none⟩) k cE) l1 ∧ IRow (fun _ => True) W (.slice ad9 (n - (k + 1)) (cE - (k + 1))) l2 ∧ IRow (fun _ => True) W (.slice adp np cq) pr) := fun W hb => ⟨hr1.move fun b hl _ => ⟨hb.block b hl, trivial⟩, hr2.move fun b hl _ => ⟨hb.block b hl, trivial⟩, hR0.move fun b hl _ => ⟨hb.block b hl, trivial⟩⟩); have HZ : Hid (w.heap[bz]? = some (.cells #[.pointer (some ⟨x.bt, 0, none⟩), (.slice (some ⟨bW, 0, none⟩) nW cW), .bool lean, .int .i64 (st : Nat), .int .i64 (nd : Nat)] 162 (0, 0))) := hz; have HCw : Hid (w.cell? ⟨bW, i * 2 + 1, none⟩ = some (.slice (some ⟨bp, op, none⟩) nP cP)) := hCw; have HCp : Hid (w.cell? ⟨bp, op + nr, none⟩ = some (.slice adp np cq)) := hCp; (have gi : (i : Int) < (nW : Int) := by omega); (have gi2 : (i : Int) < (cW : Int) := by omega); (have gn : (nr : Int) < (nP : Int) := by omega); (have gn2 : (nr : Int) < (cP : Int) := by omega); (have gk : (k : Int) < (n : Int) := by omega); (have gw : IntKind.i64.wrap ((k : Int) + 1) = (k : Int) + 1 := by rw [IntKind.wrap_i64]; omega); (have gN : k ≤ cE := by omega); (have gN3 : (0 : Int) ≤ (k : Int) + 1 := by omega); (have gN4 : (k : Int) + 1 ≤ (n : Int) := by omega); (have gN1 : k + 1 ≤ cE := by omega); (have gN2 : k + 1 ≤ n := by omega); (have gk2 : (k : Int) < (cE : Int) := by omega); (have gk3 : (n : Int) ≤ (cE : Int) := by omega); (have gn3 : (n : Int) ≤ 10000 := by omega); clear hAd hnp hnP hnW hn hl1 hl2 hk3 hk1 hr1 hr2 hR0 hCp hCw hz hp4 hp3 hw4 hw3 hc3 hv0 hw2 hp2 hc2 hL hpn h hl hlp hi hpr eW hps hp1 hw1 hc1 hnr hk2 hiL
  go_enter Tryz.func148, Tryz.ntmps148
  go_wp2_with fail; refine (HIx.out _ rfl).mono ?_; rintro e w2 ⟨rfl, hw2⟩; have hw3 := hw2.symm; clear hw2; subst hw3; go_wp2_with fail; (refine wp_region_free (by kernel_rfl) [kEq (.slice (some ⟨be, oe, none⟩) n cE), kEq (.int .i64 (k : Nat)), kEq (.slice (some ⟨be, oe, none⟩) k cE), kEq (.slice (some ⟨be, oe, none⟩) n cE), kEq (.int .i64 (k : Nat)), kEq (.int .i64 ((k : Int) + 1)), kEq (.slice ad9 (n - (k + 1)) (cE - (k + 1))), kEq (.pointer (some ⟨bz, 0, none⟩)), kEq (.pointer (some ⟨bz, 0, none⟩)), kEq (.pointer (some ⟨bz, 1, none⟩)), kEq (.slice (some ⟨bW, 0, none⟩) nW cW), kEq (.int .i64 (i : Nat)), kEq (.pointer (some ⟨bW, i * 2, none⟩)), kEq (.pointer (some ⟨bW, i * 2 + 1, none⟩)), kEq (.slice (some ⟨bp, op, none⟩) nP cP), kEq (.int .i64 (nr : Nat)), kEq (.pointer (some ⟨bp, op + nr, none⟩)), kEq (.slice adp np cq), kPR [l1, l2, pr], kOwn w.heap.size (l1 ++ (l2 ++ pr)), kOwn w.heap.size (l1 ++ (l2 ++ pr))] ?_ (by kernel_rfl) (by kernel_rfl) 33 rfl (by kernel_rfl) ?_ ?_)
  · intro p hp
    simp only [List.mem_cons, List.not_mem_nil, or_false] at hp
    rcases hp with rfl | rfl | rfl | rfl | rfl | rfl | rfl | rfl | rfl | rfl | rfl | rfl | rfl | rfl | rfl | rfl | rfl | rfl | rfl | rfl | rfl
    all_goals first | exact kEq_stays _ | exact kPR_stays _ | exact kOwn_stays _ _
  · refine ⟨?_, ?_, ?_, ?_, ?_, ?_, ?_, ?_, ?_, ?_, ?_, ?_, ?_, ?_, ?_, ?_, ?_, ?_, ?_, ?_, ?_, trivial⟩
    · intro a wx hB hold hdep K hK; have t3 : a.tmps[3]? = some (.slice (some ⟨be, oe, none⟩) n cE) := hold.2.2 3 rfl; clear hold hdep; go_simp; exact hK.out _ _ rfl (Below.refl _ _)
    · intro a wx hB hold hdep K hK; have t9 : a.tmps[9]? = some (.int .i64 (k : Nat)) := hold.2.2 9 rfl; clear hold hdep; go_simp; exact hK.out _ _ rfl (Below.refl _ _)
    · intro a wx hB hold hdep K hK; have t13 := dep_eq wx (hdep 0 rfl _ 13 rfl rfl); have t14 := dep_eq wx (hdep 1 rfl _ 14 rfl rfl); clear hold hdep; go_simp; exact hK.out _ _ rfl (Below.refl _ _)
    · intro a wx hB hold hdep K hK; have t3 : a.tmps[3]? = some (.slice (some ⟨be, oe, none⟩) n cE) := hold.2.2 3 rfl; clear hold hdep; go_simp; exact hK.out _ _ rfl (Below.refl _ _)
    · intro a wx hB hold hdep K hK; have t9 : a.tmps[9]? = some (.int .i64 (k : Nat)) := hold.2.2 9 rfl; clear hold hdep; go_simp; exact hK.out _ _ rfl (Below.refl _ _)
    · intro a wx hB hold hdep K hK; have t17 := dep_eq wx (hdep 4 rfl _ 17 rfl rfl); clear hold hdep; go_simp; exact hK.out _ _ rfl (Below.refl _ _)
    · intro a wx hB hold hdep K hK; have t16 := dep_eq wx (hdep 3 rfl _ 16 rfl rfl); have t18 := dep_eq wx (hdep 5 rfl _ 18 rfl rfl); clear hold hdep; rcases HAd.out with ⟨hce, rfl⟩ | ⟨hce, rfl⟩
      · go_simp
        (exact hK.out _ _ (by show Value.slice _ _ _ = Value.slice _ _ _; rw [hce, Nat.sub_self]) (Below.refl _ _))
      · go_simp
        exact hK.out _ _ rfl (Below.refl _ _)
    · intro a wx hB hold hdep K hK; have t0 : a.tmps[0]? = some (.pointer (some ⟨bz, 0, none⟩)) := hold.2.2 0 rfl; clear hold hdep; go_simp; exact hK.out _ _ rfl (Below.refl _ _)
    · intro a wx hB hold hdep K hK; have t20 := dep_eq wx (hdep 7 rfl _ 20 rfl rfl); clear hold hdep; go_simp; exact hK.out _ _ rfl (Below.refl _ _)
    · intro a wx hB hold hdep K hK; have t21 := dep_eq wx (hdep 8 rfl _ 21 rfl rfl); clear hold hdep; go_simp; exact hK.out _ _ rfl (Below.refl _ _)
    · intro a wx hB hold hdep K hK; have t22 := dep_eq wx (hdep 9 rfl _ 22 rfl rfl); obtain ⟨y0, y1, y2, y3, y4, -⟩ := blk5 (below_keep hB HZ.out); clear hold hdep; go_simp; exact hK.out _ _ rfl (Below.refl _ _)
    · intro a wx hB hold hdep K hK; have t1 : a.tmps[1]? = some (.int .i64 (i : Nat)) := hold.2.2 1 rfl; clear hold hdep; go_simp; exact hK.out _ _ rfl (Below.refl _ _)
    · intro a wx hB hold hdep K hK; have t23 := dep_eq wx (hdep 10 rfl _ 23 rfl rfl); have t24 := dep_eq wx (hdep 11 rfl _ 24 rfl rfl); clear hold hdep; go_simp; exact hK.out _ _ rfl (Below.refl _ _)
    · intro a wx hB hold hdep K hK; have t25 := dep_eq wx (hdep 12 rfl _ 25 rfl rfl); clear hold hdep; go_simp; exact hK.out _ _ rfl (Below.refl _ _)
    · intro a wx hB hold hdep K hK; have t26 := dep_eq wx (hdep 13 rfl _ 26 rfl rfl); have y9 := (hB.cell (p := ⟨bW, i * 2 + 1, none⟩) (lt_of_cell HCw.out)).trans HCw.out; clear hold hdep; go_simp; exact hK.out _ _ rfl (Below.refl _ _)
    · intro a wx hB hold hdep K hK; have t2 : a.tmps[2]? = some (.int .i64 (nr : Nat)) := hold.2.2 2 rfl; clear hold hdep; go_simp; exact hK.out _ _ rfl (Below.refl _ _)
    · intro a wx hB hold hdep K hK; have t27 := dep_eq wx (hdep 14 rfl _ 27 rfl rfl); have t28 := dep_eq wx (hdep 15 rfl _ 28 rfl rfl); clear hold hdep; go_simp; exact hK.out _ _ rfl (Below.refl _ _)
    · intro a wx hB hold hdep K hK; have t29 := dep_eq wx (hdep 16 rfl _ 29 rfl rfl); have y9 := (hB.cell (p := ⟨bp, op + nr, none⟩) (lt_of_cell HCp.out)).trans HCp.out; clear hold hdep; go_simp; exact hK.out _ _ rfl (Below.refl _ _)
    · intro a wx hB hold hdep K hK; have t15 := dep_eq wx (hdep 2 rfl _ 15 rfl rfl); have t19 := dep_eq wx (hdep 6 rfl _ 19 rfl rfl); have t30 := dep_eq wx (hdep 17 rfl _ 30 rfl rfl); have HBx : Hid (Below w.heap.size w wx) := hB; clear hold hdep hB; go_simp; refine hK.out _ _ ?_ (below_more (Below.refl _ wx) _); obtain ⟨e1, e2, e3⟩ := HF.out _ (below_more HBx.out _); exact PRows.three trivial (blk_new _ _) e1 e2 e3
    · intro a wx hB hold hdep K hK; obtain ⟨v31, t31, p31⟩ := hdep 18 rfl _ 31 rfl rfl; have P31 : Hid (kPR [l1, l2, pr] v31 wx) := p31; have HBx : Hid (Below w.heap.size w wx) := hB; clear hold hdep hB p31; go_simp; refine (concat_it [l1, l2, pr] HLn.out.1 (by simp) v31 wx P31.out).mono ?_; rintro e w2 ⟨ad2, cp2, rfl, ho, hb⟩; (have hfl : [l1, l2, pr].flatten = l1 ++ (l2 ++ pr) := by simp); rw [hfl] at ho ⊢; exact hK.out _ _ ⟨ad2, cp2, rfl, ho.low HBx.out.size⟩ hb
    · intro a wx hB hold hdep K hK; obtain ⟨v32, t32, p32⟩ := hdep 19 rfl _ 32 rfl rfl; have P32 : Hid (kOwn w.heap.size (l1 ++ (l2 ++ pr)) v32 wx) := p32; clear p32 hold hdep; go_simp; exact hK.out _ _ P32.out (Below.refl _ _)
  · intro a wx hB hold hgot
    (obtain ⟨v8, t8, p8⟩ := hgot 20 _ 8 rfl rfl; have P8 : Hid (kOwn w.heap.size (l1 ++ (l2 ++ pr)) v8 wx) := p8; have HBx : Hid (Below w.heap.size w wx) := hB; obtain ⟨tm, df⟩ := a; obtain ⟨x0, x1, x2, x3, x4, x5, x6, x7, x8, x9, x10, x11, x12, x13, x14, x15, x16, x17, x18, x19, x20, x21, x22, x23, x24, x25, x26, x27, x28, x29, x30, x31, x32, htm⟩ := frame33 tm hold.1; subst htm; obtain rfl : df = [] := hold.2.1; obtain rfl : x8 = _ := Option.some.inj t8; clear hold hgot t8 p8; go_wp2_with fail; go_ret; obtain ⟨ad2, cp2, rfl, ho⟩ := P8.out; (exact ⟨ad2, cp2, by rw [← HEq.out]; rfl, by rw [← HEq.out]; exact ho, HBx.out⟩))
end Go.Proofs.YtalnljnincnbdacGreat
/- Two lists of formulas that are made side by side. -/
namespace Go.Proofs.YtalnljnincnbdacGreat
open Go.RowKit

theorem KP.moveE {P : Nat → Prop} {B : Nat} {w w' : World} {ad : Option Addr} {cap : Nat} {fs : List Fm} (h : KP P B w ad cap fs) (ho : ∀ b, (Value.slice ad fs.length cap).ownBlock = some b → P b) (hb : ∀ b, b < w.heap.size → P b → w'.heap[b]? = w.heap[b]?) : KP P B w' ad cap fs := by
  obtain ⟨cs, h1, h2⟩ := h; (exact ⟨cs, owns_same h1 fun b hb1 => hb b (h1.lt b hb1).2 (ho b hb1), h2.move fun b hl hp => ⟨hb b hl hp.1, hp⟩⟩)
/-- Two lists, and no block of the one is of the other. -/
def Two (B : Nat) (w : World) (aL : Option Addr) (cL : Nat) (lL : List Fm) (aR : Option Addr) (cR : Nat) (lR : List Fm) : Prop :=
  ∃ D E : Nat → Prop, (∀ b, D b → ¬ E b) ∧ (∀ b, D b ∨ E b → B ≤ b ∧ b < w.heap.size) ∧ KP D B w aL cL lL ∧ (∀ b, (Value.slice aL lL.length cL).ownBlock = some b → D b) ∧ KP E B w aR cR lR ∧ ∀ b, (Value.slice aR lR.length cR).ownBlock = some b → E b
theorem Two.nil {B : Nat} {w : World} : Two B w none 0 [] none 0 [] :=
  ⟨fun _ => False, fun _ => False, fun _ h => h.elim, fun _ h => (h.elim id id).elim, KP.nil, fun b h => by simp [Value.ownBlock] at h, KP.nil, fun b h => by simp [Value.ownBlock] at h⟩
theorem Two.swap {B : Nat} {w : World} {aL : Option Addr} {cL : Nat} {lL : List Fm} {aR : Option Addr} {cR : Nat} {lR : List Fm} (h : Two B w aL cL lL aR cR lR) : Two B w aR cR lR aL cL lL := by
  obtain ⟨D, E, h1, h2, h3, h4, h5, h6⟩ := h; (exact ⟨E, D, fun b he hd => h1 b hd he, fun b h => h2 b h.symm, h5, h6, h3, h4⟩)
theorem Two.same {B : Nat} {w w' : World} {aL : Option Addr} {cL : Nat} {lL : List Fm} {aR : Option Addr} {cR : Nat} {lR : List Fm} (h : Two B w aL cL lL aR cR lR) (hb : ∀ b, B ≤ b → b < w.heap.size → w'.heap[b]? = w.heap[b]?) (hs : w.heap.size ≤ w'.heap.size) : Two B w' aL cL lL aR cR lR := by
  obtain ⟨D, E, h1, h2, h3, h4, h5, h6⟩ := h; (exact ⟨D, E, h1, fun b h => ⟨(h2 b h).1, Nat.lt_of_lt_of_le (h2 b h).2 hs⟩, h3.moveE h4 fun b hl hp => hb b (h2 b (Or.inl hp)).1 hl, h4, h5.moveE h6 fun b hl hp => hb b (h2 b (Or.inr hp)).1 hl, h6⟩)
theorem Two.app {B : Nat} {wr w1 : World} {aL : Option Addr} {cL : Nat} {lL : List Fm} {aR : Option Addr} {cR : Nat} {lR : List Fm} {kid : Fm} {c0 c1 c2 : Value} (o : Obj) (h : Two B wr aL cL lL aR cR lR) (hB : B ≤ wr.heap.size) (hb : Below wr.heap.size wr w1) (hrep : Rep w1 (wr.heap.size ≤ ·) kid (.agg #[c0, c1, c2])) :
    ∃ cs, (w1.alloc o).ownsRow B 29 3 (.slice aL lL.length cL) lL.length cs ∧ ∀ (g3 cp3 : Nat) (w3 : World), w3.ownsRow B 29 3 (.slice (some ⟨g3, 0, none⟩) (lL.length + 1) cp3) (lL.length + 1) (cs ++ [c0, c1, c2]) → (w1.alloc o).grownBy w3 (Value.slice aL lL.length cL).ownBlock → ((Value.slice aL lL.length cL).ownBlock = some g3 ∨ g3 = (w1.alloc o).heap.size) → g3 < w3.heap.size →
      Below B w1 w3 ∧ Two B w3 (some ⟨g3, 0, none⟩) cp3 (lL ++ [kid]) aR cR lR := by
  obtain ⟨D, E, h1, h2, h3, h4, h5, h6⟩ := h; have hz := hb.size; (have same1 : ∀ b, b < wr.heap.size → (w1.alloc o).heap[b]? = wr.heap[b]? := fun b hl => (Below.heap_alloc _ _ _ (by omega)).trans (hb.block b hl)); (obtain ⟨cs, hown, hlq⟩ := h3.moveE h4 (w' := w1.alloc o) fun b hl _ => same1 b hl); (refine ⟨cs, hown, fun g3 cp3 w3 hown3 hgrow hat hlt3 => ?_⟩); have hs3 := hgrow.size; (have hsa : (w1.alloc o).heap.size = w1.heap.size + 1 := by simp)
  obtain ⟨hbb, hkp⟩ := KP.app (P := fun b => D b ∨ (wr.heap.size ≤ b ∧ b < w3.heap.size)) rfl (by omega) hown (hlq.move fun b _ hp => ⟨rfl, Or.inl hp.1, hp.2⟩) (hrep.move fun b hb1 hb2 => ⟨rfl, Or.inr ⟨hb2, by omega⟩, fun e => by
    have := (h2 b (Or.inl (h4 b e))).2
    omega⟩) hown3 hgrow hat
  (refine ⟨hbb, _, E, fun b hd he => ?_, fun b hde => ?_, hkp, fun b e => ?_, ?_, h6⟩)
  · rcases hd with hd | hd
    · exact h1 b hd he
    · have := (h2 b (Or.inr he)).2
      omega
  · rcases hde with (hd | hd) | he
    · have := h2 b (Or.inl hd)
      omega
    · omega
    · have := h2 b (Or.inr he)
      omega
  · have e : g3 = b := by simpa [Value.ownBlock] using e
    subst e
    rcases hat with h | h
    · exact Or.inl (h4 _ h)
    · exact Or.inr ⟨by omega, hlt3⟩
  · refine h5.moveE h6 fun b hl hp => ?_
    (rw [hgrow.block b (by omega) (fun e => h1 b (h4 b e.symm) hp), same1 b hl])
theorem Two.lists {B : Nat} {w : World} {aL : Option Addr} {cL : Nat} {lL : List Fm} {aR : Option Addr} {cR : Nat} {lR : List Fm} (h : Two B w aL cL lL aR cR lR) : FLp (B ≤ ·) w (.slice aL lL.length cL) lL ∧ FLp (B ≤ ·) w (.slice aR lR.length cR) lR := by
  obtain ⟨D, E, h1, h2, h3, h4, h5, h6⟩ := h; (exact ⟨kp_list (h3.move (fun _ _ => rfl) fun b _ hp => (h2 b (Or.inl hp)).1) fun _ h => h, kp_list (h5.move (fun _ _ => rfl) fun b _ hp => (h2 b (Or.inr hp)).1) fun _ h => h⟩)
/-- The sides that items stand for. -/
def sideL (fs : List Fm) (is : List Nat) : List Fm := (is.filter fun i => !itR i).map (itF fs)
def sideR (fs : List Fm) (is : List Nat) : List Fm := (is.filter itR).map (itF fs)
theorem side_take {fs : List Fm} {is : List Nat} {k t : Nat} (h : is[k]? = some t) : (itR t = true → sideL fs (is.take (k + 1)) = sideL fs (is.take k) ∧ sideR fs (is.take (k + 1)) = sideR fs (is.take k) ++ [itF fs t]) ∧ (itR t = false → sideL fs (is.take (k + 1)) = sideL fs (is.take k) ++ [itF fs t] ∧ sideR fs (is.take (k + 1)) = sideR fs (is.take k)) := by
  unfold sideL sideR; rw [List.take_add_one, h]; simp only [Option.toList, List.filter_append, List.map_append, List.filter_cons, List.filter_nil]; (exact ⟨fun e => by simp [e], fun e => by simp [e]⟩)
end Go.Proofs.YtalnljnincnbdacGreat
