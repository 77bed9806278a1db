/- Texts of one proof, one behind the other: KX2, KX3. -/
import Derived.Test.YtalnljnincnbdacGreatB28
import Derived.Test.YtalnljnincnbdacGreatB13
import Derived.Test.YtalnljnincnbdacGreatB10
/- Walks: is there room for one more step? -/
namespace Go.Proofs.YtalnljnincnbdacGreat
open Go.RowKit

theorem frame58 (a : Array Value) (h : a.size = 58) : ∃ x0 x1 x2 x3 x4 x5 x6 x7 x8 x9 x10 x11 x12 x13 x14 x15 x16 x17 x18 x19 x20 x21 x22 x23 x24 x25 x26 x27 x28 x29 x30 x31 x32 x33 x34 x35 x36 x37 x38 x39 x40 x41 x42 x43 x44 x45 x46 x47 x48 x49 x50 x51 x52 x53 x54 x55 x56 x57, a = #[x0, x1, x2, x3, x4, x5, x6, x7, x8, x9, x10, x11, x12, x13, x14, x15, x16, x17, x18, x19, x20, x21, x22, x23, x24, x25, x26, x27, x28, x29, x30, x31, x32, x33, x34, x35, x36, x37, x38, x39, x40, x41, x42, x43, x44, x45, x46, x47, x48, x49, x50, x51, x52, x53, x54, x55, x56, x57] := by
  obtain ⟨l⟩ := a; have h0 : l.length = 58 := h; obtain ⟨x0, l1, e0, h1⟩ := cons_len h0; obtain ⟨x1, l2, e1, h2⟩ := cons_len h1; obtain ⟨x2, l3, e2, h3⟩ := cons_len h2; obtain ⟨x3, l4, e3, h4⟩ := cons_len h3; obtain ⟨x4, l5, e4, h5⟩ := cons_len h4; obtain ⟨x5, l6, e5, h6⟩ := cons_len h5; obtain ⟨x6, l7, e6, h7⟩ := cons_len h6; obtain ⟨x7, l8, e7, h8⟩ := cons_len h7; obtain ⟨x8, l9, e8, h9⟩ := cons_len h8; obtain ⟨x9, l10, e9, h10⟩ := cons_len h9; obtain ⟨x10, l11, e10, h11⟩ := cons_len h10; obtain ⟨x11, l12, e11, h12⟩ := cons_len h11; obtain ⟨x12, l13, e12, h13⟩ := cons_len h12; obtain ⟨x13, l14, e13, h14⟩ := cons_len h13; obtain ⟨x14, l15, e14, h15⟩ := cons_len h14; obtain ⟨x15, l16, e15, h16⟩ := cons_len h15; obtain ⟨x16, l17, e16, h17⟩ := cons_len h16; obtain ⟨x17, l18, e17, h18⟩ := cons_len h17; obtain ⟨x18, l19, e18, h19⟩ := cons_len h18; obtain ⟨x19, l20, e19, h20⟩ := cons_len h19; obtain ⟨x20, l21, e20, h21⟩ := cons_len h20; obtain ⟨x21, l22, e21, h22⟩ := cons_len h21; obtain ⟨x22, l23, e22, h23⟩ := cons_len h22; obtain ⟨x23, l24, e23, h24⟩ := cons_len h23; obtain ⟨x24, l25, e24, h25⟩ := cons_len h24; obtain ⟨x25, l26, e25, h26⟩ := cons_len h25; obtain ⟨x26, l27, e26, h27⟩ := cons_len h26; obtain ⟨x27, l28, e27, h28⟩ := cons_len h27; obtain ⟨x28, l29, e28, h29⟩ := cons_len h28; obtain ⟨x29, l30, e29, h30⟩ := cons_len h29; obtain ⟨x30, l31, e30, h31⟩ := cons_len h30; obtain ⟨x31, l32, e31, h32⟩ := cons_len h31; obtain ⟨x32, l33, e32, h33⟩ := cons_len h32; obtain ⟨x33, l34, e33, h34⟩ := cons_len h33; obtain ⟨x34, l35, e34, h35⟩ := cons_len h34; obtain ⟨x35, l36, e35, h36⟩ := cons_len h35; obtain ⟨x36, l37, e36, h37⟩ := cons_len h36; obtain ⟨x37, l38, e37, h38⟩ := cons_len h37; obtain ⟨x38, l39, e38, h39⟩ := cons_len h38; obtain ⟨x39, l40, e39, h40⟩ := cons_len h39; obtain ⟨x40, l41, e40, h41⟩ := cons_len h40; obtain ⟨x41, l42, e41, h42⟩ := cons_len h41; obtain ⟨x42, l43, e42, h43⟩ := cons_len h42; obtain ⟨x43, l44, e43, h44⟩ := cons_len h43; obtain ⟨x44, l45, e44, h45⟩ := cons_len h44; obtain ⟨x45, l46, e45, h46⟩ := cons_len h45; obtain ⟨x46, l47, e46, h47⟩ := cons_len h46; obtain ⟨x47, l48, e47, h48⟩ := cons_len h47; obtain ⟨x48, l49, e48, h49⟩ := cons_len h48; obtain ⟨x49, l50, e49, h50⟩ := cons_len h49; obtain ⟨x50, l51, e50, h51⟩ := cons_len h50; obtain ⟨x51, l52, e51, h52⟩ := cons_len h51; obtain ⟨x52, l53, e52, h53⟩ := cons_len h52; obtain ⟨x53, l54, e53, h54⟩ := cons_len h53; obtain ⟨x54, l55, e54, h55⟩ := cons_len h54; obtain ⟨x55, l56, e55, h56⟩ := cons_len h55; obtain ⟨x56, l57, e56, h57⟩ := cons_len h56; obtain ⟨x57, l58, e57, h58⟩ := cons_len h57; have e58 : l58 = [] := List.length_eq_zero_iff.1 h58; subst e58 e57 e56 e55 e54 e53 e52 e51 e50 e49 e48 e47 e46 e45 e44 e43 e42 e41 e40 e39 e38 e37 e36 e35 e34 e33 e32 e31 e30 e29 e28 e27 e26 e25 e24 e23 e22 e21 e20 e19 e18 e17 e16 e15 e14 e13 e12 e11 e10 e9 e8 e7 e6 e5 e4 e3 e2 e1 e0; exact ⟨x0, x1, x2, x3, x4, x5, x6, x7, x8, x9, x10, x11, x12, x13, x14, x15, x16, x17, x18, x19, x20, x21, x22, x23, x24, x25, x26, x27, x28, x29, x30, x31, x32, x33, x34, x35, x36, x37, x38, x39, x40, x41, x42, x43, x44, x45, x46, x47, x48, x49, x50, x51, x52, x53, x54, x55, x56, x57, rfl⟩
/-- How many nodes items have together. -/
def Fx.nods (x : Fx) (items : List Nat) : Nat := (items.map fun i => (itF x.fs i).size).sum
set_option maxRecDepth 10000 in
set_option maxHeartbeats 8000000 in
theorem room_any {x : Fx} (hsm : ∀ f ∈ x.fs, f.size ≤ 1000) {w : World} {bz : Nat} {lean : Bool} {st nd0 : Nat} (h : WrSt x w bz lean st nd0) (items : List Nat) (v : Value) (hv : IRow (fun b => b ≠ bz) w v items) (hb : ∀ i ∈ items, i < x.L) (hl : items.length ≤ 200000) (hst : st ≤ 100000) (hnd : nd0 ≤ 10000000) (deep : Nat) (hd : deep ≤ 100000) :
    Calls Tryz.prog 144 #[.pointer (some ⟨bz, 0, none⟩), v, .int .i64 (deep : Nat)] w fun e w' => e = .returned (.bool (decide (st + 1 ≤ 20000) && decide (deep ≤ 400) && decide (items.length ≤ 60) && decide (nd0 + x.nods items ≤ 2097152))) ∧ WrSt x w' bz lean (st + 1) (nd0 + x.nods items) ∧ Kept (fun b => b ≠ bz) w w' := by
  have hv' := hv; obtain ⟨ad, cap, rfl, hc1, hc2, -⟩ := hv'; (have HV : Hid (IRow (fun b => b ≠ bz) w (.slice ad items.length cap) items) := hv); have HB : Hid (∀ i ∈ items, i < x.L) := hb; have HS0 : Hid (WrSt x (w.setCell ⟨bz, 3, none⟩ (.int .i64 ((st : Int) + 1))) bz lean (st + 1) nd0) := h.steps (st + 1); (have HK0 : Hid (Kept (fun b => b ≠ bz) w (w.setCell ⟨bz, 3, none⟩ (.int .i64 ((st : Int) + 1)))) := kept_set fun c hc => hc); (have hlI : (items.length : Int) ≤ 200000 := by omega); (have hlc : (items.length : Int) ≤ (cap : Int) := by omega); (have hstI : (st : Int) ≤ 100000 := by omega); (have hdI : (deep : Int) ≤ 100000 := by omega); (have HNb0 : Hid (nd0 ≤ 10000000 + 0 * 1000) := by show _ ≤ _; omega); have HLs : Hid (items.length ≤ 200000) := hl; have HSm : Hid (∀ f ∈ x.fs, f.size ≤ 1000) := hsm; have HL : Hid (x.L = 2 * x.ps.length ∧ x.ps.length ≤ 100000 ∧ x.ps.length = x.fs.length) := ⟨h.l2, h.plen, h.tab.ok.len⟩; obtain ⟨q0, q1, q2, q3, q4, f0, f1, f2, f3, f4⟩ := blk5 h.blk; clear hv hb h hc1 hc2 hl hsm hst hnd hd
  go_enter Tryz.func144, Tryz.ntmps144
  go_wp2_with fail; clear q0 q1 q2 q3 q4 f0 f1 f2 f3 f4
  go_loopg [18] items.length (fun g c wr => ∃ k nd, k ≤ items.length ∧ g = items.length - k ∧ c = .int .i64 (k : Nat) ∧ Hid (WrSt x wr bz lean (st + 1) nd) ∧ Hid (nd ≤ 10000000 + k * 1000) ∧ Hid (Kept (fun b => b ≠ bz) w wr) ∧ Hid (nd = nd0 + x.nods (items.take k)))
  case atStart => exact ⟨0, nd0, by omega, by omega, rfl, HS0, HNb0, HK0, by show _ = _; simp [Fx.nods]⟩
  case round =>
    obtain ⟨k, nd, hk, hg, rfl, HW, HNb', HKe, HSn'⟩ := hrel; have HG : Hid (gk = items.length - k) := hg; clear hg; by_cases hlt : k < items.length
    · obtain ⟨t, ht⟩ : ∃ t, items[k]? = some t := ⟨_, List.getElem?_eq_getElem hlt⟩
      obtain ⟨b, off, rfl, hPb, hcell⟩ := HV.out.some' ht; have g0 := (cell_of_block (a := ⟨b, off + k, none⟩) (HKe.out.block b (lt_of_cell hcell) hPb)).trans hcell; have htL := HB.out t (List.mem_of_getElem? ht); (have htn : t / 2 < x.ps.length := by have := HL.out; omega); have hpp := List.getElem?_eq_getElem htn; (have hff : x.fs[t / 2]? = some (itF x.fs t) := getD_lt (by have := HL.out; omega)); obtain ⟨sz, hsz⟩ : ∃ sz, sz = (itF x.fs t).size := ⟨_, rfl⟩; (have hszb : sz ≤ 1000 := by rw [hsz]; exact HSm.out _ (List.mem_of_getElem? hff)); have HSz : Hid (sz = (itF x.fs t).size) := hsz; obtain ⟨th, hth⟩ : ∃ th, th = t / 2 := ⟨_, rfl⟩; (have HPt : Hid (∀ W, Calls Tryz.prog 100 #[.int .i64 (t : Nat)] W fun e w' => e = .returned (.int .i64 (th : Nat)) ∧ w' = W) := fun W => by rw [hth]; exact part_item t (by have := HL.out; omega) W); (have HNd : Hid (∀ W, Below wr.heap.size wr W → Calls Tryz.prog 192 #[.pointer (some ⟨x.bt, 0, none⟩), .int .i64 (th : Nat)] W fun e w' => e = .returned (.int .i64 (sz : Nat)) ∧ w' = W) := fun W hb => by rw [hth]; exact pnodes_any W x.T x.bt x.ps _ (HW.out.up hb).tab.tab (t / 2) sz _ hpp (by rw [List.getElem?_map, hff, hsz]; rfl)); (have hltI : (k : Int) < (items.length : Int) := by omega); (have hltc : (k : Int) < (cap : Int) := by omega); (have hndI : (nd : Int) ≤ 300000000 := by have h1 := HNb'.out; have h2 := HLs.out; omega); (have hszI : (sz : Int) ≤ 1000 := by omega); (have hwr : IntKind.i64.wrap ((nd : Int) + (sz : Int)) = (nd : Int) + (sz : Int) := by rw [IntKind.wrap_i64]; omega); have HZ : Hid (wr.heap[bz]? = some (.cells #[.pointer (some ⟨x.bt, 0, none⟩), x.vW, .bool lean, .int .i64 ((st + 1 : Nat) : Int), .int .i64 (nd : Nat)] 162 (0, 0))) := HW.out.blk
      have HNw : Hid (∀ W, Below wr.heap.size wr W → WrSt x (W.setCell ⟨bz, 4, none⟩ (.int .i64 ((nd : Int) + (sz : Int)))) bz lean (st + 1) (nd + sz)) := fun W hb => by
        have := (HW.out.up hb).nodes (nd + sz); rw [Int.natCast_add] at this; exact this
      (have HNb : Hid (nd + sz ≤ 10000000 + (k + 1) * 1000) := by have h1 := HNb'.out; show _ ≤ _; omega)
      have HSn : Hid (nd + sz = nd0 + x.nods (items.take (k + 1))) := by
        have h1 := HSn'.out; show _ = _; unfold Fx.nods at h1 ⊢; rw [List.take_add_one, ht, List.map_append, List.sum_append]; simp only [Option.toList, List.map_cons, List.map_nil, List.sum_cons, List.sum_nil]; omega
      clear hcell hPb ht htL htn hpp hff hsz hth; go_wp2_with fail; (refine wp_region_six (by kernel_rfl) [tEq (.pointer (some ⟨bz, 0, none⟩)), tEq (.pointer (some ⟨bz, 0, none⟩)), tEq (.pointer (some ⟨bz, 4, none⟩)), tEq (.int .i64 (nd : Nat)), tEq (.pointer (some ⟨bz, 0, none⟩)), tEq (.pointer (some ⟨bz, 0, none⟩)), tEq (.pointer (some ⟨bz, 0, none⟩)), tEq (.pointer (some ⟨x.bt, 0, none⟩)), tEq (.int .i64 (t : Nat)), tEq (.int .i64 (th : Nat)), tEq (.int .i64 (sz : Nat)), tEq (.int .i64 ((nd : Int) + (sz : Int))), tEq (.pointer (some ⟨bz, 0, none⟩)), tEq (.pointer (some ⟨bz, 4, none⟩))] ?_ (by kernel_rfl) (by kernel_rfl) 58 rfl (by kernel_rfl) 14 _ rfl rfl (by kernel_rfl) [] 0 (by omega) (fun x _ y => Below x.heap.size x y) (fun _ y => Below wr.heap.size wr y) (Below.refl _ _) (fun _ _ _ h hb => below_join h hb) (fun _ _ _ h hb => below_join h hb) [] (by kernel_rfl) ?_ ?_ ?_)
      · intro p hp
        simp only [List.mem_cons, List.not_mem_nil, or_false] at hp
        rcases hp with rfl | rfl | rfl | rfl | rfl | rfl | rfl | rfl | rfl | rfl | rfl | rfl | rfl | rfl
        all_goals exact tEq_stays _
      · exact ⟨fun _ _ _ _ _ _ h _ _ => h, fun _ _ _ _ _ _ h _ _ => h, fun _ _ _ _ _ _ h _ _ => h, fun _ _ _ _ _ _ h _ _ => h, fun _ _ _ _ _ _ h _ _ => h, fun _ _ _ _ _ _ h _ _ => h, fun _ _ _ _ _ _ h _ _ => h, fun _ _ _ _ _ _ h _ _ => h, fun _ _ _ _ _ _ h _ _ => h, fun _ _ _ _ _ _ h _ _ => h, fun _ _ _ _ _ _ h _ _ => h, fun _ _ _ _ _ _ h _ _ => h, fun _ _ _ _ _ _ h _ _ => h, fun _ _ _ _ _ _ h _ _ => h, trivial⟩
      · refine ⟨?_, ?_, ?_, ?_, ?_, ?_, ?_, ?_, ?_, ?_, ?_, ?_, ?_, ?_, trivial⟩
        · intro a wx tg s hB hs hold hdep K hK; have t0 : a.tmps[0]? = some (.pointer (some ⟨bz, 0, none⟩)) := hold.2.2 0 rfl; clear hold hdep hs hB; go_simp; exact hK.out _ _ rfl (Below.refl _ _)
        · intro a wx tg s hB hs hold hdep K hK; obtain ⟨v22, t22, q22⟩ := hdep 0 rfl _ 22 rfl rfl; have e22 : v22 = (.pointer (some ⟨bz, 0, none⟩)) := q22; subst e22; clear hold hdep hs hB; go_simp; exact hK.out _ _ rfl (Below.refl _ _)
        · intro a wx tg s hB hs hold hdep K hK; obtain ⟨v23, t23, q23⟩ := hdep 1 rfl _ 23 rfl rfl; have e23 : v23 = (.pointer (some ⟨bz, 0, none⟩)) := q23; subst e23; clear hold hdep hs hB; go_simp; exact hK.out _ _ rfl (Below.refl _ _)
        · intro a wx tg s hB hs hold hdep K hK; obtain ⟨v24, t24, q24⟩ := hdep 2 rfl _ 24 rfl rfl; have e24 : v24 = (.pointer (some ⟨bz, 4, none⟩)) := q24; subst e24; obtain ⟨y0, y1, y2, y3, y4, -⟩ := blk5 (below_keep hB HZ.out); clear hold hdep hs hB; go_simp; exact hK.out _ _ rfl (Below.refl _ _)
        · intro a wx tg s hB hs hold hdep K hK; have t0 : a.tmps[0]? = some (.pointer (some ⟨bz, 0, none⟩)) := hold.2.2 0 rfl; clear hold hdep hs hB; go_simp; exact hK.out _ _ rfl (Below.refl _ _)
        · intro a wx tg s hB hs hold hdep K hK; obtain ⟨v26, t26, q26⟩ := hdep 4 rfl _ 26 rfl rfl; have e26 : v26 = (.pointer (some ⟨bz, 0, none⟩)) := q26; subst e26; clear hold hdep hs hB; go_simp; exact hK.out _ _ rfl (Below.refl _ _)
        · intro a wx tg s hB hs hold hdep K hK; obtain ⟨v27, t27, q27⟩ := hdep 5 rfl _ 27 rfl rfl; have e27 : v27 = (.pointer (some ⟨bz, 0, none⟩)) := q27; subst e27; clear hold hdep hs hB; go_simp; exact hK.out _ _ rfl (Below.refl _ _)
        · intro a wx tg s hB hs hold hdep K hK; obtain ⟨v28, t28, q28⟩ := hdep 6 rfl _ 28 rfl rfl; have e28 : v28 = (.pointer (some ⟨bz, 0, none⟩)) := q28; subst e28; obtain ⟨y0, y1, y2, y3, y4, -⟩ := blk5 (below_keep hB HZ.out); clear hold hdep hs hB; go_simp; exact hK.out _ _ rfl (Below.refl _ _)
        · intro a wx tg s hB hs hold hdep K hK; have t8 : a.tmps[8]? = some (.int .i64 (t : Nat)) := hold.2.2 8 rfl; clear hold hdep hs hB; go_simp; exact hK.out _ _ rfl (Below.refl _ _)
        · intro a wx tg s hB hs hold hdep K hK; obtain ⟨v30, t30, q30⟩ := hdep 8 rfl _ 30 rfl rfl; have e30 : v30 = (.int .i64 (t : Nat)) := q30; subst e30; clear hold hdep hs hB; go_simp; refine (HPt.out wx).mono ?_; rintro e w2 ⟨rfl, hw2⟩; have hw3 := hw2.symm; clear hw2; subst hw3; exact hK.out _ _ rfl (Below.refl _ _)
        · intro a wx tg s hB hs hold hdep K hK; obtain ⟨v29, t29, q29⟩ := hdep 7 rfl _ 29 rfl rfl; have e29 : v29 = (.pointer (some ⟨x.bt, 0, none⟩)) := q29; subst e29; obtain ⟨v31, t31, q31⟩ := hdep 9 rfl _ 31 rfl rfl; have e31 : v31 = (.int .i64 (th : Nat)) := q31; subst e31; have hb9 := hB; clear hold hdep hs; go_simp; refine (HNd.out wx hb9).mono ?_; rintro e w2 ⟨rfl, hw2⟩; have hw3 := hw2.symm; clear hw2; subst hw3; exact hK.out _ _ rfl (Below.refl _ _)
        · intro a wx tg s hB hs hold hdep K hK; obtain ⟨v25, t25, q25⟩ := hdep 3 rfl _ 25 rfl rfl; have e25 : v25 = (.int .i64 (nd : Nat)) := q25; subst e25; obtain ⟨v32, t32, q32⟩ := hdep 10 rfl _ 32 rfl rfl; have e32 : v32 = (.int .i64 (sz : Nat)) := q32; subst e32; clear hold hdep hs hB; go_simp; exact hK.out _ _ rfl (Below.refl _ _)
        · intro a wx tg s hB hs hold hdep K hK; obtain ⟨v22, t22, q22⟩ := hdep 0 rfl _ 22 rfl rfl; have e22 : v22 = (.pointer (some ⟨bz, 0, none⟩)) := q22; subst e22; clear hold hdep hs hB; go_simp; exact hK.out _ _ rfl (Below.refl _ _)
        · intro a wx tg s hB hs hold hdep K hK; obtain ⟨v34, t34, q34⟩ := hdep 12 rfl _ 34 rfl rfl; have e34 : v34 = (.pointer (some ⟨bz, 0, none⟩)) := q34; subst e34; clear hold hdep hs hB; go_simp; exact hK.out _ _ rfl (Below.refl _ _)
      · intro a wx tg hB hold hgot K hK
        (obtain ⟨v33, t33, q33⟩ := hgot 11 _ 33 (by omega) rfl rfl rfl; have e33 : v33 = .int .i64 ((nd : Int) + (sz : Int)) := q33; subst e33; obtain ⟨v35, t35, q35⟩ := hgot 13 _ 35 (by omega) rfl rfl rfl; have e35 : v35 = .pointer (some ⟨bz, 4, none⟩) := q35; subst e35; have HBx : Hid (Below wr.heap.size wr wx) := hB; obtain ⟨y0, y1, y2, y3, y4, z0, z1, z2, z3, z4⟩ := blk5 (below_keep hB HZ.out); obtain ⟨tm, df⟩ := a; obtain ⟨x0, x1, x2, x3, x4, x5, x6, x7, x8, x9, x10, x11, x12, x13, x14, x15, x16, x17, x18, x19, x20, x21, x22, x23, x24, x25, x26, x27, x28, x29, x30, x31, x32, x33, x34, x35, x36, x37, x38, x39, x40, x41, x42, x43, x44, x45, x46, x47, x48, x49, x50, x51, x52, x53, x54, x55, x56, x57, htm⟩ := frame58 tm hold.1; subst htm; obtain rfl : df = [] := hold.2.1; have hh := hold.2.2; obtain rfl : x0 = _ := someInj (hh 0 rfl); obtain rfl : x1 = _ := someInj (hh 1 rfl); obtain rfl : x2 = _ := someInj (hh 2 rfl); obtain rfl : x3 = _ := someInj (hh 3 rfl); obtain rfl : x4 = _ := someInj (hh 4 rfl); obtain rfl : x5 = _ := someInj (hh 5 rfl); obtain rfl : x6 = _ := someInj (hh 6 rfl); obtain rfl : x7 = _ := someInj (hh 7 rfl); obtain rfl : x8 = _ := someInj (hh 8 rfl); obtain rfl : x9 = _ := someInj (hh 9 rfl); obtain rfl : x10 = _ := someInj (hh 10 rfl); obtain rfl : x11 = _ := someInj (hh 11 rfl); obtain rfl : x12 = _ := someInj (hh 12 rfl); obtain rfl : x13 = _ := someInj (hh 13 rfl); obtain rfl : x14 = _ := someInj (hh 14 rfl); obtain rfl : x15 = _ := someInj (hh 15 rfl); obtain rfl : x16 = _ := someInj (hh 16 rfl); obtain rfl : x17 = _ := someInj (hh 17 rfl); obtain rfl : x18 = _ := someInj (hh 18 rfl); obtain rfl : x19 = _ := someInj (hh 19 rfl); obtain rfl : x20 = _ := someInj (hh 20 rfl); obtain rfl : x21 = _ := someInj (hh 21 rfl); obtain rfl : x36 = _ := someInj (hh 36 rfl); obtain rfl : x37 = _ := someInj (hh 37 rfl); obtain rfl : x38 = _ := someInj (hh 38 rfl); obtain rfl : x39 = _ := someInj (hh 39 rfl); obtain rfl : x40 = _ := someInj (hh 40 rfl); obtain rfl : x41 = _ := someInj (hh 41 rfl); obtain rfl : x42 = _ := someInj (hh 42 rfl); obtain rfl : x43 = _ := someInj (hh 43 rfl); obtain rfl : x44 = _ := someInj (hh 44 rfl); obtain rfl : x45 = _ := someInj (hh 45 rfl); obtain rfl : x46 = _ := someInj (hh 46 rfl); obtain rfl : x47 = _ := someInj (hh 47 rfl); obtain rfl : x48 = _ := someInj (hh 48 rfl); obtain rfl : x49 = _ := someInj (hh 49 rfl); obtain rfl : x50 = _ := someInj (hh 50 rfl); obtain rfl : x51 = _ := someInj (hh 51 rfl); obtain rfl : x52 = _ := someInj (hh 52 rfl); obtain rfl : x53 = _ := someInj (hh 53 rfl); obtain rfl : x54 = _ := someInj (hh 54 rfl); obtain rfl : x55 = _ := someInj (hh 55 rfl); obtain rfl : x56 = _ := someInj (hh 56 rfl); obtain rfl : x57 = _ := someInj (hh 57 rfl); obtain rfl : x33 = _ := Option.some.inj t33; obtain rfl : x35 = _ := Option.some.inj t35; clear hh hold hgot hB t33 t35 q33 q35; go_simp; refine hK.out _ _ ?_; go_wp2_with fail; go_roundg (items.length - (k + 1)))
        case measure => have := HG.out; omega
        case rel => exact ⟨k + 1, nd + sz, by omega, rfl, by go_num, HNw.out wx HBx.out, HNb, kept_far HKe.out (kept_far (kept_of_below (ok := fun b => b ≠ bz) HBx.out fun _ h _ => h) (kept_set (b := bz) (ok := fun b => b ≠ bz) fun c hc => hc) fun _ _ h => h) fun _ _ h => h, HSn⟩
    · have hge : ¬ (k : Int) < (items.length : Int) := by omega
      (have hke : k = items.length := by omega); subst hke; have hsn := HSn'.out; rw [List.take_length] at hsn; obtain ⟨q0, q1, q2, q3, q4, -⟩ := blk5 HW.out.blk; (have hndb : nd ≤ 300000000 := by have h1 := HNb'.out; have h2 := HLs.out; omega); have HRes : Hid (nd = nd0 + x.nods items) := hsn; clear hsn; by_cases e1 : st + 1 ≤ 20000
      · have e1I : (st : Int) + 1 ≤ 20000 := by omega
        by_cases e2 : deep ≤ 400
        · have e2I : (deep : Int) ≤ 400 := by omega
          by_cases e3 : items.length ≤ 60
          · have e3I : (items.length : Int) ≤ 60 := by omega
            by_cases e4 : nd ≤ 2097152
            · have e4I : (nd : Int) ≤ 2097152 := by omega
              go_wp2_with fail; go_ret; (exact ⟨by rw [← HRes.out]; first | (simp; done) | (simp; omega), by rw [← HRes.out]; exact HW.out, HKe.out⟩)
            · have e4I : ¬ (nd : Int) ≤ 2097152 := by omega
              go_wp2_with fail; go_ret; (exact ⟨by rw [← HRes.out]; first | (simp; done) | (simp; omega), by rw [← HRes.out]; exact HW.out, HKe.out⟩)
          · have e3I : ¬ (items.length : Int) ≤ 60 := by omega
            go_wp2_with fail; go_ret; (exact ⟨by first | (simp; done) | (simp; omega), by rw [← HRes.out]; exact HW.out, HKe.out⟩)
        · have e2I : ¬ (deep : Int) ≤ 400 := by omega
          go_wp2_with fail; go_ret; (exact ⟨by first | (simp; done) | (simp; omega), by rw [← HRes.out]; exact HW.out, HKe.out⟩)
      · have e1I : ¬ (st : Int) + 1 ≤ 20000 := by omega
        go_wp2_with fail; go_ret; (exact ⟨by first | (simp; done) | (simp; omega), by rw [← HRes.out]; exact HW.out, HKe.out⟩)
end Go.Proofs.YtalnljnincnbdacGreat
/- Walks: rows of items behind each other (slices.Concat). -/
namespace Go.Proofs.YtalnljnincnbdacGreat
open Go.RowKit

set_option maxRecDepth 10000 in
set_option maxHeartbeats 2000000 in
theorem growI_zero (w : World) :
    Calls Tryz.prog 214 #[.slice none 0 0, .int .i64 0] w fun e w' => e = .returned (.slice none 0 0) ∧ w' = w := by
  go_enter Tryz.func214, Tryz.ntmps214
  go_wp2_with fail; go_ret; exact ⟨rfl, rfl⟩

set_option maxRecDepth 10000 in
set_option maxHeartbeats 2000000 in
theorem growI_some (n : Nat) (hn : 0 < n) (hn2 : n ≤ 100000) (w : World) :
    Calls Tryz.prog 214 #[.slice none 0 0, .int .i64 (n : Nat)] w fun e w' => ∃ g cp, e = .returned (.slice (some ⟨g, 0, none⟩) 0 cp) ∧ w'.ownsRow w.heap.size 82 1 (.slice (some ⟨g, 0, none⟩) 0 cp) 0 [] ∧ Below w.heap.size w w' := by
  obtain ⟨i0, hi, hz0, hz1, hz2⟩ := infoItem; (have hnI : (0 : Int) < (n : Int) := by omega); (have hnJ : (n : Int) ≤ 100000 := by omega)
  have hrz : ∀ ty, (Builtin.append_ #[78, 3] ty #[.slice none 0 0, .int .i64 (n : Nat)]).run Tryz.prog w = .ok (.slice (some ⟨w.heap.size, 0, none⟩) n (grownCap w n 0 82)) (w.drew.alloc (.cells (#[] ++ Builtin.zeroCells (Value.int .i64 0).cells n ++ Builtin.zeroCells (Value.int .i64 0).cells (grownCap w n 0 82 - n)) 82)) := fun ty => by
    (have h := Lib.run_append_grow_zeros w 78 3 ty 82 i0 (.int .i64 0) .i64 .i64 Tryz.underlying78 Tryz.underlying3 hi hz0 none 0 0 [] (run_firstCells_none w.drew i0.size 0 0 0) n hn (by omega) (by omega) (by omega) (by rw [hz2]; omega) (by rw [hz2]; exact growslice_fits (by omega) (by omega))); simpa using h
  have hGn : n ≤ grownCap w n 0 82 := grownCap_ge w _ _ _; (have hGm : grownCap w n 0 82 ≤ maxLen := grownCap_le_maxLen w n 0 82 (by unfold maxLen; omega)); generalize grownCap w n 0 82 = G at *; (have hG63 : (G : Int) ≤ 9223372036854775807 := by unfold maxLen at hGm; omega)
  have hOw : (w.drew.alloc (.cells (#[] ++ Builtin.zeroCells (Value.int .i64 0).cells n ++ Builtin.zeroCells (Value.int .i64 0).cells (G - n)) 82)).ownsRow w.heap.size 82 1 (.slice (some ⟨w.heap.size, 0, none⟩) 0 G) 0 [] := by
    refine ⟨rfl, Or.inr ⟨w.heap.size, G, _, rfl, Nat.le_refl _, blk_new _ _, Nat.zero_le _, hGm, ?_, rfl⟩⟩; have h3 : (Value.int .i64 0).cells.size = 1 := rfl; rw [Array.size_append, Array.size_append, size_zeroCells, size_zeroCells, h3]; simp only [Array.size_empty]; omega
  have HOw : Hid (World.ownsRow _ _ _ _ _ _ _) := hOw; have hBw : Below w.heap.size w (w.drew.alloc (.cells (#[] ++ Builtin.zeroCells (Value.int .i64 0).cells n ++ Builtin.zeroCells (Value.int .i64 0).cells (G - n)) 82)) := below_more (Below.refl _ w).drew _; generalize w.drew.alloc _ = W at *; clear hOw hz0 hz1 hz2 hi
  go_enter Tryz.func214, Tryz.ntmps214
  go_wp2_with (first
    | (at_builtin
       refine Lib.wpList_append_run _ rfl _ _ _ _ rfl _ _ rfl rfl _ _ (hrz _) ?_)
    | fail)
  all_goals
    go_ret; exact ⟨_, _, rfl, HOw.out, hBw⟩

/-- A row of items of one's own. -/
def OwnI (B : Nat) (is : List Nat) (ad : Option Addr) (cp : Nat) (w : World) : Prop := w.ownsRow B 82 1 (.slice ad is.length cp) is.length (is.map fun i => (.int .i64 (i : Nat) : Value))
theorem growI_any (n : Nat) (hn : n ≤ 100000) (w : World) :
    Calls Tryz.prog 214 #[.slice none 0 0, .int .i64 (n : Nat)] w fun e w' => ∃ ad cp, e = .returned (.slice ad 0 cp) ∧ OwnI w.heap.size [] ad cp w' ∧ Below w.heap.size w w' := by
  rcases Nat.eq_zero_or_pos n with rfl | h0
  · refine (growI_zero w).mono ?_
    rintro e w' ⟨rfl, rfl⟩; exact ⟨none, 0, rfl, ⟨rfl, Or.inl ⟨rfl, rfl⟩⟩, Below.refl _ _⟩
  · refine (growI_some n h0 hn w).mono ?_
    rintro e w' ⟨g, cp, rfl, ho, hb⟩; exact ⟨_, _, rfl, ho, hb⟩
theorem OwnI.app {W w2 w3 : World} {is : List Nat} {ad : Option Addr} {cp : Nat} (B : Below W.heap.size W w2) (h : OwnI W.heap.size is ad cp w2) (hk : Kept (fun b => (Value.slice ad is.length cp).ownBlock ≠ some b) w2 w3) : Below W.heap.size W w3 := by
  (have hb : ∀ j, j < W.heap.size → w3.heap[j]? = w2.heap[j]? := fun j hj => hk.block j (by have := B.size; omega) (fun e => by have := (World.ownsRow.lt h j e).1; omega)); (exact ⟨hk.os.trans B.os, hk.tape.trans B.tape, hk.output.trans B.output, by have := hk.size; have := B.size; omega, fun j hj => (hb j hj).trans (B.block j hj)⟩)

set_option maxRecDepth 10000 in
set_option maxHeartbeats 8000000 in
theorem concat_it {P : Nat → Prop} (rs : List (List Nat)) (hl : rs.flatten.length ≤ 100000) (hr : rs.length ≤ 1000) (v : Value) (w : World) (hv : PRows P w v rs) :
    Calls Tryz.prog 194 #[v] w fun e w' => ∃ ad cp, e = .returned (.slice ad rs.flatten.length cp) ∧ OwnI w.heap.size rs.flatten ad cp w' ∧ Below w.heap.size w w' := by
  have HV : Hid (PRows P w v rs) := hv; obtain ⟨adV, cpV, rfl, hv1, hv2, -⟩ := hv; have HLn : Hid (rs.flatten.length ≤ 100000) := hl; (have hrI : (rs.length : Int) ≤ 1000 := by omega); (have hcI : (rs.length : Int) ≤ (cpV : Int) := by omega)
  have row : ∀ k, k < rs.length → ∃ r b off u ad cp, rs[k]? = some r ∧ adV = some ⟨b, off, none⟩ ∧ u = .slice ad r.length cp ∧ w.cell? ⟨b, off + k, none⟩ = some u ∧ IRow P w u r := fun k hk => by
    obtain ⟨ad', cap', e, -, -, h4⟩ := HV.out; simp only [Value.slice.injEq, true_and] at e; obtain ⟨rfl, rfl⟩ := e; (obtain ⟨b, off, h5, -, h7⟩ := h4 (fun e => by rw [e] at hk; simp at hk)); obtain ⟨u, h8, h9⟩ := h7 k _ (List.getElem?_eq_getElem hk); obtain ⟨a1, c1, rfl, h10⟩ := h9; exact ⟨_, b, off, _, a1, c1, List.getElem?_eq_getElem hk, h5, rfl, h8, a1, c1, rfl, h10⟩
  have HR : Hid (∀ k, k < rs.length → ∃ r b off u ad cp, rs[k]? = some r ∧ adV = some ⟨b, off, none⟩ ∧ u = .slice ad r.length cp ∧ w.cell? ⟨b, off + k, none⟩ = some u ∧ IRow P w u r) := row
  have HT : Hid (∀ k r, rs[k]? = some r → (rs.take (k + 1)).flatten = (rs.take k).flatten ++ r ∧ (rs.take k).flatten.length + r.length ≤ 100000) := fun k r h => by
    (have h1 : (rs.take (k + 1)).flatten = (rs.take k).flatten ++ r := by rw [List.take_add_one, h, List.flatten_append]; simp); refine ⟨h1, ?_⟩; (have h2 : ((rs.take (k + 1)).flatten ++ (rs.drop (k + 1)).flatten).length ≤ 100000 := by rw [← List.flatten_append, List.take_append_drop]; exact hl); rw [h1] at h2; simp only [List.length_append] at h2; omega
  clear row hv1 hv2 hl hr
  go_enter Tryz.func194, Tryz.ntmps194
  go_wp2_with fail
  go_loopg [11, 3] rs.length (fun g c o wr => ∃ k n, k ≤ rs.length ∧ g = rs.length - k ∧ c = .int .i64 (k : Nat) ∧ o = .int .i64 (n : Nat) ∧ Hid (n = (rs.take k).flatten.length) ∧ wr = w)
  case atStart => exact ⟨0, 0, by omega, by omega, rfl, rfl, by show _ = _; simp, rfl⟩
  case round =>
    obtain ⟨k, n, hk, hg, rfl, rfl, HN, hw⟩ := hrel; have hw' := hw.symm; subst hw'; have HG : Hid (gk = rs.length - k) := hg; clear hg; by_cases hlt : k < rs.length
    · obtain ⟨r, b, off, u, ad, cp, h1, rfl, rfl, h2, -⟩ := HR.out k hlt
      obtain ⟨h3, h4⟩ := HT.out k r h1
      have HN2 : Hid (n + r.length = (rs.take (k + 1)).flatten.length) := by
        have := HN.out; show _ = _; rw [h3, List.length_append]; omega
      (have hltI : (k : Int) < (rs.length : Int) := by omega); (have hltc : (k : Int) < (cpV : Int) := by omega); (have hnI : (n : Int) + (r.length : Int) ≤ 100000 := by have := HN.out; omega); (have hwr : IntKind.i64.wrap ((n : Int) + (r.length : Int)) = (n : Int) + (r.length : Int) := by rw [IntKind.wrap_i64]; omega); (have hng : ¬ (n : Int) + (r.length : Int) < 0 := by omega); clear h1 h3 h4; go_wp2_with fail
      go_roundg (rs.length - (k + 1))
      case measure => have := HG.out; omega
      case rel => exact ⟨k + 1, n + r.length, by omega, rfl, by go_num, by go_num, HN2, rfl⟩
    · have hkk : k = rs.length := by omega
      subst hkk; (have hn : n ≤ 100000 := by have h1 := HN.out; have h2 := HLn.out; rw [List.take_length] at h1; omega); have HNn : Hid (n ≤ 100000) := hn; clear hlt hk hn; go_wp2_with fail; refine (growI_any n HNn.out w).mono ?_; rintro e w2 ⟨ad0, cp0, rfl, hA, B2⟩; have HA : Hid (OwnI w.heap.size [] ad0 cp0 w2) := hA; have HB2 : Hid (Below w.heap.size w w2) := B2; clear hA B2; go_wp2_with fail
      go_loopg [27, 6] rs.length (fun g c o wr => ∃ k is ad cp, k ≤ rs.length ∧ g = rs.length - k ∧ c = .int .i64 (k : Nat) ∧ o = .slice ad is.length cp ∧ Hid (is = (rs.take k).flatten) ∧ Hid (OwnI w.heap.size is ad cp wr) ∧ Hid (Below w.heap.size w wr))
      case atStart => exact ⟨0, [], ad0, cp0, by omega, by omega, rfl, rfl, by show _ = _; simp, HA, HB2⟩
      case round =>
        obtain ⟨k, is, ad, cp, hk, hg, rfl, rfl, HI, HO, HW⟩ := hrel; have HG2 : Hid (gk = rs.length - k) := hg; clear hg; by_cases hlt : k < rs.length
        · obtain ⟨r, b, off, u, ad2, cp2, h1, rfl, rfl, h2, h5⟩ := HR.out k hlt
          obtain ⟨h3, h4⟩ := HT.out k r h1; have g2 := (HW.out.cell (p := ⟨b, off + k, none⟩) (lt_of_cell h2)).trans h2
          have HI2 : Hid (is ++ r = (rs.take (k + 1)).flatten) := by
            have := HI.out; show _ = _; rw [h3, this]
          (have HRw : Hid (IRow (fun _ => True) wr (.slice ad2 r.length cp2) r) := h5.move fun b hb _ => ⟨HW.out.block b hb, trivial⟩); (have HLi : Hid (is.length + r.length ≤ 10000000) := by have := HI.out; show _ ≤ _; rw [this]; omega); have HLs : Hid (w.heap.size ≤ wr.heap.size) := HW.out.size; (have hltI : (k : Int) < (rs.length : Int) := by omega); (have hltc : (k : Int) < (cpV : Int) := by omega); clear h1 h3 h4 h2 h5
          go_wp2_with (first
            | (at_builtin
               go_loud (refine wpList_appI rfl _ _ rfl w.heap.size is r ad cp _ rfl HO.out rfl HRw.out HLs.out HLi.out ?_)
               intro ad3 cp3 w3 hown3 hk3 hat3; have HO3 : Hid (OwnI w.heap.size (is ++ r) ad3 cp3 w3) := hown3; have HB3 : Hid (Below w.heap.size w w3) := OwnI.app HW.out HO.out hk3
               clear hown3 hk3 hat3)
            | fail)
          go_roundg (rs.length - (k + 1))
          case measure => have := HG2.out; omega
          case rel => exact ⟨k + 1, is ++ r, ad3, cp3, by omega, rfl, by go_num, by simp, HI2, HO3, HB3⟩
        · have hkk : k = rs.length := by omega
          subst hkk; have hI := HI.out; rw [List.take_length] at hI; clear hlt hk; go_wp2_with fail; go_ret; (exact ⟨ad, cp, by rw [hI]; rfl, by rw [← hI]; exact HO.out, HW.out⟩)
end Go.Proofs.YtalnljnincnbdacGreat
