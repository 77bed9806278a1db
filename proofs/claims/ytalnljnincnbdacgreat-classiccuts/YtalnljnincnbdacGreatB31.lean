/- Texts of one proof, one behind the other: KX6. -/
import Derived.Test.YtalnljnincnbdacGreatB30
/- Walks: the sequent that items stand for. -/
namespace Go.Proofs.YtalnljnincnbdacGreat
open Go.RowKit

theorem frame38 (a : Array Value) (h : a.size = 38) : ∃ x0 x1 x2 x3 x4 x5 x6 x7 x8 x9 x10 x11 x12 x13 x14 x15 x16 x17 x18 x19 x20 x21 x22 x23 x24 x25 x26 x27 x28 x29 x30 x31 x32 x33 x34 x35 x36 x37, a = #[x0, x1, x2, x3, x4, x5, x6, x7, x8, x9, x10, x11, x12, x13, x14, x15, x16, x17, x18, x19, x20, x21, x22, x23, x24, x25, x26, x27, x28, x29, x30, x31, x32, x33, x34, x35, x36, x37] := by
  obtain ⟨l⟩ := a; have h0 : l.length = 38 := h; obtain ⟨x0, l1, e0, h1⟩ := cons_len h0; obtain ⟨x1, l2, e1, h2⟩ := cons_len h1; obtain ⟨x2, l3, e2, h3⟩ := cons_len h2; obtain ⟨x3, l4, e3, h4⟩ := cons_len h3; obtain ⟨x4, l5, e4, h5⟩ := cons_len h4; obtain ⟨x5, l6, e5, h6⟩ := cons_len h5; obtain ⟨x6, l7, e6, h7⟩ := cons_len h6; obtain ⟨x7, l8, e7, h8⟩ := cons_len h7; obtain ⟨x8, l9, e8, h9⟩ := cons_len h8; obtain ⟨x9, l10, e9, h10⟩ := cons_len h9; obtain ⟨x10, l11, e10, h11⟩ := cons_len h10; obtain ⟨x11, l12, e11, h12⟩ := cons_len h11; obtain ⟨x12, l13, e12, h13⟩ := cons_len h12; obtain ⟨x13, l14, e13, h14⟩ := cons_len h13; obtain ⟨x14, l15, e14, h15⟩ := cons_len h14; obtain ⟨x15, l16, e15, h16⟩ := cons_len h15; obtain ⟨x16, l17, e16, h17⟩ := cons_len h16; obtain ⟨x17, l18, e17, h18⟩ := cons_len h17; obtain ⟨x18, l19, e18, h19⟩ := cons_len h18; obtain ⟨x19, l20, e19, h20⟩ := cons_len h19; obtain ⟨x20, l21, e20, h21⟩ := cons_len h20; obtain ⟨x21, l22, e21, h22⟩ := cons_len h21; obtain ⟨x22, l23, e22, h23⟩ := cons_len h22; obtain ⟨x23, l24, e23, h24⟩ := cons_len h23; obtain ⟨x24, l25, e24, h25⟩ := cons_len h24; obtain ⟨x25, l26, e25, h26⟩ := cons_len h25; obtain ⟨x26, l27, e26, h27⟩ := cons_len h26; obtain ⟨x27, l28, e27, h28⟩ := cons_len h27; obtain ⟨x28, l29, e28, h29⟩ := cons_len h28; obtain ⟨x29, l30, e29, h30⟩ := cons_len h29; obtain ⟨x30, l31, e30, h31⟩ := cons_len h30; obtain ⟨x31, l32, e31, h32⟩ := cons_len h31; obtain ⟨x32, l33, e32, h33⟩ := cons_len h32; obtain ⟨x33, l34, e33, h34⟩ := cons_len h33; obtain ⟨x34, l35, e34, h35⟩ := cons_len h34; obtain ⟨x35, l36, e35, h36⟩ := cons_len h35; obtain ⟨x36, l37, e36, h37⟩ := cons_len h36; obtain ⟨x37, l38, e37, h38⟩ := cons_len h37; have e38 : l38 = [] := List.length_eq_zero_iff.1 h38; subst e38 e37 e36 e35 e34 e33 e32 e31 e30 e29 e28 e27 e26 e25 e24 e23 e22 e21 e20 e19 e18 e17 e16 e15 e14 e13 e12 e11 e10 e9 e8 e7 e6 e5 e4 e3 e2 e1 e0; exact ⟨x0, x1, x2, x3, x4, x5, x6, x7, x8, x9, x10, x11, x12, x13, x14, x15, x16, x17, x18, x19, x20, x21, x22, x23, x24, x25, x26, x27, x28, x29, x30, x31, x32, x33, x34, x35, x36, x37, rfl⟩
theorem len_snoc (l : List Fm) (f : Fm) : (l ++ [f]).length = l.length + 1 := by simp
def tForm (S n : Nat) (k : Int) (nm : ByteArray) (ks : List Fm) : Fact := fun v w t => ∃ sl cap, v = .agg #[.int .i64 k, .string nm, .slice sl ks.length cap] ∧ Rep w (tP 0 S t [n]) (.mk k nm ks) (.agg #[.int .i64 k, .string nm, .slice sl ks.length cap])
theorem tForm_stays (S n : Nat) (k : Int) (nm : ByteArray) (ks : List Fm) : Stays3 (tForm S n k nm ks) := fun _ _ _ _ _ ⟨sl, cap, e, h⟩ hb ht => ⟨sl, cap, e, h.move fun b hb1 hp => ⟨hb.block b hb1, hp.up ht hb1⟩⟩
set_option maxRecDepth 10000 in
set_option maxHeartbeats 8000000 in
theorem sequent_any {x : Fx} {w : World} {bz : Nat} {lean : Bool} {st nd : Nat} (h : WrSt x w bz lean st nd) (items : List Nat) {Q : Nat → Prop} (v : Value) (hv : IRow Q w v items) (hb : ∀ i ∈ items, i < x.L) (hl : items.length ≤ 200000) :
    Calls Tryz.prog 146 #[.pointer (some ⟨bz, 0, none⟩), v] w fun e w' => ∃ u1 u2, e = .returned (.agg #[u1, u2]) ∧ FLp (w.heap.size ≤ ·) w' u1 (sideL x.fs items) ∧ FLp (w.heap.size ≤ ·) w' u2 (sideR x.fs items) ∧ Below w.heap.size w w' := by
  have HV : Hid (IRow Q w v items) := hv; obtain ⟨ad, cap, rfl, hc1, hc2, -⟩ := hv; have HB : Hid (∀ i ∈ items, i < x.L) := hb; have HW : Hid (WrSt x w bz lean st nd) := h; (have hlI : (items.length : Int) ≤ 200000 := by omega); (have hlc : (items.length : Int) ≤ (cap : Int) := by omega); have HLs : Hid (items.length ≤ 200000) := hl; have HL : Hid (x.L = 2 * x.ps.length ∧ x.ps.length ≤ 100000 ∧ x.ps.length = x.fs.length) := ⟨h.l2, h.plen, h.tab.ok.len⟩; clear hb h hc1 hc2 hl
  go_enter Tryz.func146, Tryz.ntmps146
  go_wp2_with fail; obtain ⟨W, hW⟩ : ∃ W, W = (w.alloc (.cells #[.slice none 0 0, .slice none 0 0] 24 (0, 0))).alloc (.cells #[.slice none 0 0, .slice none 0 0] 24 (0, 0)) := ⟨_, rfl⟩; rw [← hW]; (have HB0 : Hid (Below w.heap.size w W) := by rw [hW]; exact below_more (below_more (Below.refl _ w) _) _); (have HP0 : Hid (W.heap[w.heap.size]? = some (.cells #[.slice none 0 0, .slice none 0 0] 24 (0, 0))) := by rw [hW]; exact alloc_keep (blk_new w _) _); (have HP1 : Hid (W.heap[w.heap.size + 1]? = some (.cells #[.slice none 0 0, .slice none 0 0] 24 (0, 0))) := by rw [hW]; exact blk_two w _ _); clear hW
  go_loopg [11] items.length (fun g c wr => ∃ k aL cL lL aR cR lR, k ≤ items.length ∧ g = items.length - k ∧ c = .int .i64 (k : Nat) ∧ Hid (lL = sideL x.fs (items.take k) ∧ lR = sideR x.fs (items.take k)) ∧ Hid (Below w.heap.size w wr) ∧ Hid (wr.heap[w.heap.size]? = some (.cells #[.slice none 0 0, .slice none 0 0] 24 (0, 0))) ∧ Hid (wr.heap[w.heap.size + 1]? = some (.cells #[.slice aL lL.length cL, .slice aR lR.length cR] 24 (0, 0))) ∧ Hid (Two (w.heap.size + 2) wr aL cL lL aR cR lR))
  case atStart => exact ⟨0, none, 0, [], none, 0, [], by omega, by omega, rfl, ⟨by simp [sideL], by simp [sideR]⟩, HB0, HP0, HP1, Two.nil⟩
  case round =>
    obtain ⟨k, aL, cL, lL, aR, cR, lR, hk, hg, rfl, HSd, HBe, H0, H1, HT⟩ := hrel; have HG : Hid (gk = items.length - k) := hg; clear hg; by_cases hlt : k < items.length
    · obtain ⟨t, ht⟩ : ∃ t, items[k]? = some t := ⟨_, List.getElem?_eq_getElem hlt⟩
      obtain ⟨b, off, rfl, hPb, hcell⟩ := HV.out.some' ht; have g0 := (HBe.out.cell (p := ⟨b, off + k, none⟩) (lt_of_cell hcell)).trans hcell; have htL := HB.out t (List.mem_of_getElem? ht)
      obtain ⟨k2, n2, ks2, hfe⟩ : ∃ k2 n2 ks2, itF x.fs t = .mk k2 n2 ks2 := by
        cases itF x.fs t with
        | mk a b c => exact ⟨a, b, c, rfl⟩
      (have hff : x.fs[t / 2]? = some (.mk k2 n2 ks2) := by rw [← hfe]; exact getD_lt (by have := HL.out; omega)); obtain ⟨th, hth⟩ : ∃ th, th = t / 2 := ⟨_, rfl⟩; (have HPt : Hid (∀ W, Calls Tryz.prog 100 #[.int .i64 (t : Nat)] W fun e w' => e = .returned (.int .i64 (th : Nat)) ∧ w' = W) := fun W => by rw [hth]; exact part_item t (by have := HL.out; omega) W); (have HRt : Hid (∀ W, Calls Tryz.prog 101 #[.int .i64 (t : Nat)] W fun e w' => e = .returned (.bool (itR t)) ∧ w' = W) := fun W => isRight_item t (by have := HL.out; omega) W); (have HFm : Hid (∀ W, Below wr.heap.size wr W → Calls Tryz.prog 147 #[.pointer (some ⟨x.bt, 0, none⟩), .int .i64 (th : Nat)] W fun e w' => ∃ v, e = .returned v ∧ Rep w' (W.heap.size ≤ ·) (.mk k2 n2 ks2) v ∧ Below W.heap.size W w') := fun W hb => by rw [hth]; exact form_any ((HW.out.up HBe.out).up hb).tab hff)
      have HSt : Hid ((itR t = true → sideL x.fs (items.take (k + 1)) = lL ∧ sideR x.fs (items.take (k + 1)) = lR ++ [.mk k2 n2 ks2]) ∧ (itR t = false → sideL x.fs (items.take (k + 1)) = lL ++ [.mk k2 n2 ks2] ∧ sideR x.fs (items.take (k + 1)) = lR)) := by
        have h1 := side_take (fs := x.fs) ht; have h2 := HSd.out; rw [← h2.1, ← h2.2, hfe] at h1; exact h1
      have hLl : lL.length ≤ 200000 ∧ lR.length ≤ 200000 := by
        have h1 := HSd.out; have h2 := HLs.out; (have h3 : (items.take k).length ≤ items.length := by rw [List.length_take]; omega); (have h4 := List.length_filter_le (fun i => !itR i) (items.take k)); have h5 := List.length_filter_le itR (items.take k); rw [h1.1, h1.2, sideL, sideR, List.length_map, List.length_map]; omega
      have HLl : Hid (lL.length ≤ 200000 ∧ lR.length ≤ 200000) := hLl; (have hltI : (k : Int) < (items.length : Int) := by omega); (have hltc : (k : Int) < (cap : Int) := by omega); have HZ : Hid (wr.heap[bz]? = some (.cells #[.pointer (some ⟨x.bt, 0, none⟩), x.vW, .bool lean, .int .i64 (st : Nat), .int .i64 (nd : Nat)] 162 (0, 0))) := (HW.out.up HBe.out).blk; clear hcell hPb ht htL hff hfe hth hLl; go_wp2_with fail; (refine wp_region_six (by kernel_rfl) [tEq (.pointer (some ⟨bz, 0, none⟩)), tEq (.pointer (some ⟨bz, 0, none⟩)), tEq (.pointer (some ⟨bz, 0, none⟩)), tEq (.pointer (some ⟨x.bt, 0, none⟩)), tEq (.int .i64 (t : Nat)), tEq (.int .i64 (th : Nat)), tForm wr.heap.size 6 k2 n2 ks2, tPtr wr.heap.size 7 #[.int .i64 0, .string ⟨#[]⟩, .slice none 0 0] 29] ?_ (by kernel_rfl) (by kernel_rfl) 38 rfl (by kernel_rfl) 8 _ rfl rfl (by kernel_rfl) [] 0 (by omega) (fun x _ y => Below x.heap.size x y) (fun _ y => Below wr.heap.size wr y) (Below.refl _ _) (fun _ _ _ h hb => below_join h hb) (fun _ _ _ h hb => below_join h hb) [] (by kernel_rfl) ?_ ?_ ?_)
      · intro p hp
        simp only [List.mem_cons, List.not_mem_nil, or_false] at hp
        rcases hp with rfl | rfl | rfl | rfl | rfl | rfl | rfl | rfl
        all_goals first | exact tEq_stays _ | exact tForm_stays _ _ _ _ _ | exact tPtr_stays _ _ _ _
      · refine ⟨?_, ?_, ?_, ?_, ?_, ?_, ?_, ?_, trivial⟩
        · exact fun _ _ _ _ _ _ h _ _ => h
        · exact fun _ _ _ _ _ _ h _ _ => h
        · exact fun _ _ _ _ _ _ h _ _ => h
        · exact fun _ _ _ _ _ _ h _ _ => h
        · exact fun _ _ _ _ _ _ h _ _ => h
        · exact fun _ _ _ _ _ _ h _ _ => h
        · exact fun _ v w t w2 t2 h hb ht => tForm_stays _ _ _ _ _ v w t w2 t2 h hb ht
        · exact fun _ v w t w2 t2 h hb ht => tPtr_stays _ _ _ _ v w t w2 t2 h hb ht
      · refine ⟨?_, ?_, ?_, ?_, ?_, ?_, ?_, ?_, trivial⟩
        · intro a wx tg s hB hs hold hdep K hK; have t0 : a.tmps[0]? = some (.pointer (some ⟨bz, 0, none⟩)) := hold.2.2 0 rfl; clear hold hdep hs hB; go_simp; exact hK.out _ _ rfl (Below.refl _ _)
        · intro a wx tg s hB hs hold hdep K hK; obtain ⟨v15, t15, q15⟩ := hdep 0 rfl _ 15 rfl rfl; have e15 : v15 = (.pointer (some ⟨bz, 0, none⟩)) := q15; subst e15; clear hold hdep hs hB; go_simp; exact hK.out _ _ rfl (Below.refl _ _)
        · intro a wx tg s hB hs hold hdep K hK; obtain ⟨v16, t16, q16⟩ := hdep 1 rfl _ 16 rfl rfl; have e16 : v16 = (.pointer (some ⟨bz, 0, none⟩)) := q16; subst e16; clear hold hdep hs hB; go_simp; exact hK.out _ _ rfl (Below.refl _ _)
        · intro a wx tg s hB hs hold hdep K hK; obtain ⟨v17, t17, q17⟩ := hdep 2 rfl _ 17 rfl rfl; have e17 : v17 = (.pointer (some ⟨bz, 0, none⟩)) := q17; subst e17; obtain ⟨y0, y1, y2, y3, y4, -⟩ := blk5 (below_keep hB HZ.out); clear hold hdep hs hB; go_simp; exact hK.out _ _ rfl (Below.refl _ _)
        · intro a wx tg s hB hs hold hdep K hK; have t7 : a.tmps[7]? = some (.int .i64 (t : Nat)) := hold.2.2 7 rfl; clear hold hdep hs hB; go_simp; exact hK.out _ _ rfl (Below.refl _ _)
        · intro a wx tg s hB hs hold hdep K hK; obtain ⟨v19, t19, q19⟩ := hdep 4 rfl _ 19 rfl rfl; have e19 : v19 = (.int .i64 (t : Nat)) := q19; subst e19; clear hold hdep hs hB; go_simp; refine (HPt.out wx).mono ?_; rintro e w2 ⟨rfl, hw2⟩; have hw3 := hw2.symm; clear hw2; subst hw3; exact hK.out _ _ rfl (Below.refl _ _)
        · intro a wx tg s hB hs hold hdep K hK; obtain ⟨v18, t18, q18⟩ := hdep 3 rfl _ 18 rfl rfl; have e18 : v18 = (.pointer (some ⟨x.bt, 0, none⟩)) := q18; subst e18; obtain ⟨v20, t20, q20⟩ := hdep 5 rfl _ 20 rfl rfl; have e20 : v20 = (.int .i64 (th : Nat)) := q20; subst e20; have hb9 := hB; clear hold hdep hs hB; go_simp; refine (HFm.out wx hb9).mono ?_; rintro e w2 ⟨u, rfl, hu, hb2⟩; obtain ⟨sl, cap, rfl⟩ := slice_shape hu; have hs9 := hb9.size; exact hK.out _ _ ⟨sl, cap, rfl, hu.move fun b _ hb => ⟨rfl, Or.inr ⟨by omega, by simp [mark, Nat.not_lt.2 hb]⟩⟩⟩ hb2
        · intro a wx tg s hB hs hold hdep K hK; have hb9 := hB.size; clear hold hdep hs hB; go_simp; exact hK.out _ _ ⟨wx.heap.size, rfl, blk_new _ _, hb9, by simp [mark]⟩ (below_more (Below.refl _ wx) _)
      · intro a wx tg hB hold hgot K hK
        (obtain ⟨v21, t21, sl2, cap2, e21, q21⟩ := hgot 6 _ 21 (by omega) rfl rfl rfl); subst e21; (obtain ⟨v8, t8, g, e8, q8, hg8, hm8⟩ := hgot 7 _ 8 (by omega) rfl rfl rfl); subst e8; have HBx : Hid (Below wr.heap.size wr wx) := hB
        have HRp : Hid (Rep wx (fun b => wr.heap.size ≤ b ∧ b ≠ g) (.mk k2 n2 ks2) (.agg #[.int .i64 k2, .string n2, .slice sl2 ks2.length cap2])) := q21.move fun b _ hb => ⟨rfl, by
          rcases hb with hb | hb
          · omega
          · exact ⟨hb.1, fun e => by rw [e, hm8] at hb; simp at hb⟩⟩
        have HGs : Hid (wr.heap.size ≤ g) := hg8; have HQ8 : Hid (wx.heap[g]? = some (.cells #[.int .i64 0, .string ⟨#[]⟩, .slice none 0 0] 29 (0, 0))) := q8; obtain ⟨y0, y1, y2, z0, z1, z2⟩ := blk3 q8; obtain ⟨tm, df⟩ := a; obtain ⟨x0, x1, x2, x3, x4, x5, x6, x7, x8, x9, x10, x11, x12, x13, x14, x15, x16, x17, x18, x19, x20, x21, x22, x23, x24, x25, x26, x27, x28, x29, x30, x31, x32, x33, x34, x35, x36, x37, htm⟩ := frame38 tm hold.1; subst htm; obtain rfl : df = [] := hold.2.1; have hh := hold.2.2; obtain rfl : x0 = _ := someInj (hh 0 rfl); obtain rfl : x1 = _ := someInj (hh 1 rfl); obtain rfl : x2 = _ := someInj (hh 2 rfl); obtain rfl : x3 = _ := someInj (hh 3 rfl); obtain rfl : x4 = _ := someInj (hh 4 rfl); obtain rfl : x5 = _ := someInj (hh 5 rfl); obtain rfl : x6 = _ := someInj (hh 6 rfl); obtain rfl : x7 = _ := someInj (hh 7 rfl); obtain rfl : x9 = _ := someInj (hh 9 rfl); obtain rfl : x10 = _ := someInj (hh 10 rfl); obtain rfl : x11 = _ := someInj (hh 11 rfl); obtain rfl : x12 = _ := someInj (hh 12 rfl); obtain rfl : x13 = _ := someInj (hh 13 rfl); obtain rfl : x14 = _ := someInj (hh 14 rfl); obtain rfl : x22 = _ := someInj (hh 22 rfl); obtain rfl : x23 = _ := someInj (hh 23 rfl); obtain rfl : x24 = _ := someInj (hh 24 rfl); obtain rfl : x25 = _ := someInj (hh 25 rfl); obtain rfl : x26 = _ := someInj (hh 26 rfl); obtain rfl : x27 = _ := someInj (hh 27 rfl); obtain rfl : x28 = _ := someInj (hh 28 rfl); obtain rfl : x29 = _ := someInj (hh 29 rfl); obtain rfl : x30 = _ := someInj (hh 30 rfl); obtain rfl : x31 = _ := someInj (hh 31 rfl); obtain rfl : x32 = _ := someInj (hh 32 rfl); obtain rfl : x33 = _ := someInj (hh 33 rfl); obtain rfl : x34 = _ := someInj (hh 34 rfl); obtain rfl : x35 = _ := someInj (hh 35 rfl); obtain rfl : x36 = _ := someInj (hh 36 rfl); obtain rfl : x37 = _ := someInj (hh 37 rfl); obtain rfl : x21 = _ := Option.some.inj t21; obtain rfl : x8 = _ := Option.some.inj t8; clear hh hold hgot hB t21 t8 q21 q8 hg8 hm8; go_simp; refine hK.out _ _ ?_; have HB1x : Hid (Below wr.heap.size wr (((wx.setCell ⟨g, 0, none⟩ (.int .i64 k2)).setCell ⟨g, 1, none⟩ (.string n2)).setCell ⟨g, 2, none⟩ (.slice sl2 ks2.length cap2))) := ((HBx.out.setCell HGs.out _).setCell HGs.out _).setCell HGs.out _
        have HQgx : Hid ((((wx.setCell ⟨g, 0, none⟩ (.int .i64 k2)).setCell ⟨g, 1, none⟩ (.string n2)).setCell ⟨g, 2, none⟩ (.slice sl2 ks2.length cap2)).heap[g]? = some (.cells #[.int .i64 k2, .string n2, .slice sl2 ks2.length cap2] 29 (0, 0))) := by
          show _ = _; (rw [blk_set (by rw [blk_set (by rw [blk_set HQ8.out])])]); rfl
        (have HR1x : Hid (Rep (((wx.setCell ⟨g, 0, none⟩ (.int .i64 k2)).setCell ⟨g, 1, none⟩ (.string n2)).setCell ⟨g, 2, none⟩ (.slice sl2 ks2.length cap2)) (wr.heap.size ≤ ·) (.mk k2 n2 ks2) (.agg #[.int .i64 k2, .string n2, .slice sl2 ks2.length cap2])) := HRp.out.move fun b _ hb => ⟨(blk_other _ hb.2).trans ((blk_other _ hb.2).trans (blk_other _ hb.2)), hb.1⟩); clear y0 y1 y2 z0 z1 z2; obtain ⟨W1, hW1⟩ : ∃ W1, W1 = ((wx.setCell ⟨g, 0, none⟩ (.int .i64 k2)).setCell ⟨g, 1, none⟩ (.string n2)).setCell ⟨g, 2, none⟩ (.slice sl2 ks2.length cap2) := ⟨_, rfl⟩; rw [← hW1] at HB1x HQgx HR1x ⊢; clear hW1; have HB1 : Hid (Below wr.heap.size wr W1) := HB1x; have HQg : Hid (W1.heap[g]? = some (.cells #[.int .i64 k2, .string n2, .slice sl2 ks2.length cap2] 29 (0, 0))) := HQgx; have HR1 : Hid (Rep W1 (wr.heap.size ≤ ·) (.mk k2 n2 ks2) (.agg #[.int .i64 k2, .string n2, .slice sl2 ks2.length cap2])) := HR1x; have HQ0 : Hid (W1.heap[w.heap.size]? = some (.cells #[.slice none 0 0, .slice none 0 0] 24 (0, 0))) := below_keep HB1.out H0.out; have HQ1 : Hid (W1.heap[w.heap.size + 1]? = some (.cells #[.slice aL lL.length cL, .slice aR lR.length cR] 24 (0, 0))) := below_keep HB1.out H1.out; clear HB1x HQgx HR1x; go_wp2_with fail; refine (HRt.out _).mono ?_; rintro e w2 ⟨rfl, hw2⟩; have hw3 := hw2.symm; clear hw2; subst hw3; obtain ⟨y0, y1, y2, z0, z1, z2⟩ := blk3 HQg.out; obtain ⟨c0, c1, d0, d1⟩ := blk2 HQ1.out; obtain ⟨i0, hi, hz0, hz1, hz2⟩ := infoFormula
        cases hR : itR t
        · obtain ⟨e1, e2⟩ := HSt.out.2 hR
          (obtain ⟨cs, hown, happ⟩ := Two.app (.cells #[.int .i64 k2, .string n2, .slice sl2 ks2.length cap2] 29 (0, 0)) HT.out (by have := lt_of_block H1.out; omega) HB1.out HR1.out); have HAp : Hid _ := happ; clear happ; have hlx : lL.length ≤ 200000 := HLl.out.1; (have hws : w.heap.size + 2 ≤ W1.heap.size := by have h1 := lt_of_block H1.out; have h2 := HB1.out.size; omega)
          go_wp2_with (first
            | (at_builtin
               go_loud (refine wpList_append_lies _ rfl _ _ 22 rfl (w.heap.size + 2) 29 i0 (.agg #[.int .i64 0, .string ⟨#[]⟩, .slice none 0 0]) 3 48 Tryz.underlying22 hi hz0 hz1 hz2 rfl (by decide) _ _ _ rfl hown ⟨W1.heap.size, 0, none⟩ 1 1 [.int .i64 k2, .string n2, .slice sl2 ks2.length cap2] rfl rfl ?_ ?_ (by omega) (by unfold maxLen; omega) (by omega) (by simp; omega) _ rfl ?_)
               · intro j u hu
                 rw [add_none, Nat.zero_add, blk_cell (blk_new W1 _)]; simpa using hu
               · intro u hu
                 simp at hu
                 rcases hu with rfl | rfl | rfl <;> rfl
               intro g3 cp3 w3 hown3 hgrow hat hlt3; obtain ⟨hb3, ht3⟩ := HAp.out g3 cp3 w3 hown3 hgrow hat hlt3; have HB3 : Hid (Below (w.heap.size + 2) W1 w3) := hb3; have HT3 : Hid (Two (w.heap.size + 2) w3 (some ⟨g3, 0, none⟩) cp3 (lL ++ [.mk k2 n2 ks2]) aR cR lR) := ht3; (have HS1 : Hid (w3.heap[w.heap.size + 1]? = some (.cells #[.slice aL lL.length cL, .slice aR lR.length cR] 24 (0, 0))) := (hb3.block _ (by omega)).trans HQ1.out); clear hown3 hgrow hat hlt3 hb3 ht3 hown
               obtain ⟨s0, s1, s2, s3⟩ := blk2 HS1.out)
            | fail)
          have T1 : Hid ((w3.setCell ⟨w.heap.size + 1, 0, none⟩ (.slice (some ⟨g3, 0, none⟩) (lL.length + 1) cp3)).heap[w.heap.size + 1]? = some (.cells #[.slice (some ⟨g3, 0, none⟩) (lL.length + 1) cp3, .slice aR lR.length cR] 24 (0, 0))) := by
            show _ = _; rw [blk_set HS1.out]
            first | rfl | simp
          (have T0 : Hid ((w3.setCell ⟨w.heap.size + 1, 0, none⟩ (.slice (some ⟨g3, 0, none⟩) (lL.length + 1) cp3)).heap[w.heap.size]? = some (.cells #[.slice none 0 0, .slice none 0 0] 24 (0, 0))) := (blk_other _ (by omega)).trans ((HB3.out.block _ (by omega)).trans HQ0.out)); (have TT : Hid (Two (w.heap.size + 2) (w3.setCell ⟨w.heap.size + 1, 0, none⟩ (.slice (some ⟨g3, 0, none⟩) (lL.length + 1) cp3)) (some ⟨g3, 0, none⟩) cp3 (lL ++ [.mk k2 n2 ks2]) aR cR lR) := HT3.out.same (fun b hb _ => blk_other _ (by omega)) (by rw [size_set]; exact Nat.le_refl _)); (have BB : Hid (Below w.heap.size w (w3.setCell ⟨w.heap.size + 1, 0, none⟩ (.slice (some ⟨g3, 0, none⟩) (lL.length + 1) cp3))) := ((HBe.out.trans (HB1.out.mono HBe.out.size)).trans (HB3.out.mono (by omega))).setCell (by simp) _); go_wp2_with fail
          go_roundg (items.length - (k + 1))
          case measure => have := HG.out; omega
          case rel => exact ⟨k + 1, some ⟨g3, 0, none⟩, cp3, lL ++ [.mk k2 n2 ks2], aR, cR, lR, by omega, rfl, by go_num, ⟨e1.symm, e2.symm⟩, BB, T0, (by rw [len_snoc]; exact T1), TT⟩
        · obtain ⟨e1, e2⟩ := HSt.out.1 hR
          (obtain ⟨cs, hown, happ⟩ := Two.app (.cells #[.int .i64 k2, .string n2, .slice sl2 ks2.length cap2] 29 (0, 0)) HT.out.swap (by have := lt_of_block H1.out; omega) HB1.out HR1.out); have HAp : Hid _ := happ; clear happ; have hlx : lR.length ≤ 200000 := HLl.out.2; (have hws : w.heap.size + 2 ≤ W1.heap.size := by have h1 := lt_of_block H1.out; have h2 := HB1.out.size; omega)
          go_wp2_with (first
            | (at_builtin
               go_loud (refine wpList_append_lies _ rfl _ _ 22 rfl (w.heap.size + 2) 29 i0 (.agg #[.int .i64 0, .string ⟨#[]⟩, .slice none 0 0]) 3 48 Tryz.underlying22 hi hz0 hz1 hz2 rfl (by decide) _ _ _ rfl hown ⟨W1.heap.size, 0, none⟩ 1 1 [.int .i64 k2, .string n2, .slice sl2 ks2.length cap2] rfl rfl ?_ ?_ (by omega) (by unfold maxLen; omega) (by omega) (by simp; omega) _ rfl ?_)
               · intro j u hu
                 rw [add_none, Nat.zero_add, blk_cell (blk_new W1 _)]; simpa using hu
               · intro u hu
                 simp at hu
                 rcases hu with rfl | rfl | rfl <;> rfl
               intro g3 cp3 w3 hown3 hgrow hat hlt3; obtain ⟨hb3, ht3⟩ := HAp.out g3 cp3 w3 hown3 hgrow hat hlt3; have HB3 : Hid (Below (w.heap.size + 2) W1 w3) := hb3; have HT3 : Hid (Two (w.heap.size + 2) w3 aL cL lL (some ⟨g3, 0, none⟩) cp3 (lR ++ [.mk k2 n2 ks2])) := ht3.swap; (have HS1 : Hid (w3.heap[w.heap.size + 1]? = some (.cells #[.slice aL lL.length cL, .slice aR lR.length cR] 24 (0, 0))) := (hb3.block _ (by omega)).trans HQ1.out); clear hown3 hgrow hat hlt3 hb3 ht3 hown
               obtain ⟨s0, s1, s2, s3⟩ := blk2 HS1.out)
            | fail)
          have T1 : Hid ((w3.setCell ⟨w.heap.size + 1, 1, none⟩ (.slice (some ⟨g3, 0, none⟩) (lR.length + 1) cp3)).heap[w.heap.size + 1]? = some (.cells #[.slice aL lL.length cL, .slice (some ⟨g3, 0, none⟩) (lR.length + 1) cp3] 24 (0, 0))) := by
            show _ = _; rw [blk_set HS1.out]
            first | rfl | simp
          (have T0 : Hid ((w3.setCell ⟨w.heap.size + 1, 1, none⟩ (.slice (some ⟨g3, 0, none⟩) (lR.length + 1) cp3)).heap[w.heap.size]? = some (.cells #[.slice none 0 0, .slice none 0 0] 24 (0, 0))) := (blk_other _ (by omega)).trans ((HB3.out.block _ (by omega)).trans HQ0.out)); (have TT : Hid (Two (w.heap.size + 2) (w3.setCell ⟨w.heap.size + 1, 1, none⟩ (.slice (some ⟨g3, 0, none⟩) (lR.length + 1) cp3)) aL cL lL (some ⟨g3, 0, none⟩) cp3 (lR ++ [.mk k2 n2 ks2])) := HT3.out.same (fun b hb _ => blk_other _ (by omega)) (by rw [size_set]; exact Nat.le_refl _)); (have BB : Hid (Below w.heap.size w (w3.setCell ⟨w.heap.size + 1, 1, none⟩ (.slice (some ⟨g3, 0, none⟩) (lR.length + 1) cp3))) := ((HBe.out.trans (HB1.out.mono HBe.out.size)).trans (HB3.out.mono (by omega))).setCell (by simp) _); go_wp2_with fail
          go_roundg (items.length - (k + 1))
          case measure => have := HG.out; omega
          case rel => exact ⟨k + 1, aL, cL, lL, some ⟨g3, 0, none⟩, cp3, lR ++ [.mk k2 n2 ks2], by omega, rfl, by go_num, ⟨e1.symm, e2.symm⟩, BB, T0, (by rw [len_snoc]; exact T1), TT⟩
    · have hge : ¬ (k : Int) < (items.length : Int) := by omega
      (have hke : k = items.length := by omega); subst hke
      have HS : Hid (lL = sideL x.fs items ∧ lR = sideR x.fs items) := by
        have hS := HSd.out; rw [List.take_length] at hS; exact hS
      obtain ⟨c0, c1, d0, d1⟩ := blk2 H1.out; obtain ⟨b0, b1, f0, f1⟩ := blk2 H0.out; clear hk hlt; go_wp2_with fail; obtain ⟨Wf, hWf⟩ : ∃ Wf, Wf = (wr.setCell ⟨w.heap.size, 0, none⟩ (.slice aL lL.length cL)).setCell ⟨w.heap.size, 1, none⟩ (.slice aR lR.length cR) := ⟨_, rfl⟩; rw [← hWf]
      have hE : Wf.heap[w.heap.size]? = some (.cells #[.slice aL lL.length cL, .slice aR lR.length cR] 24 (0, 0)) := by
        rw [hWf, blk_set (blk_set H0.out _) _]; rfl
      obtain ⟨m0, m1, -⟩ := blk2 hE
      have hBf : Below w.heap.size w Wf := by
        rw [hWf]; exact (HBe.out.setCell (p := ⟨w.heap.size, 0, none⟩) (Nat.le_refl _) _).setCell (p := ⟨w.heap.size, 1, none⟩) (Nat.le_refl _) _
      (have hTf : Two (w.heap.size + 2) Wf aL cL lL aR cR lR := HT.out.same (fun b hb _ => by rw [hWf, blk_other _ (by omega), blk_other _ (by omega)]) (by rw [hWf, size_set, size_set]; exact Nat.le_refl _)); (refine bodyPost_ret (v := .agg #[.slice aL lL.length cL, .slice aR lR.length cR]) (by clear hWf; simp [results, Tryz.results146, go_sem, m0, m1]) rfl ⟨_, _, rfl, ?_, ?_, hBf⟩)
      · rw [← HS.out.1]
        (exact hTf.lists.1.move fun b _ hb => ⟨rfl, by omega⟩)
      · rw [← HS.out.2]
        (exact hTf.lists.2.move fun b _ hb => ⟨rfl, by omega⟩)
end Go.Proofs.YtalnljnincnbdacGreat
